/- The contract of the document's JoinName (chapter 2), over this seat's translation. -/
import Derived.Test.YtngncdmmlkcekaaParP
import Derived.Test.YtngncdmmlkcekaaPa
import Derived.Deep.RegionHeld3
namespace Go.Proofs.Ytngncdmmlkcekaa
open Go.RowKit

theorem own_below {w w' : World} {base : Nat} {e : TypeId} {size : Nat} {v : Value} {n : Nat} {xs : List Value} (h : w.ownsRow base e size v n xs) (hb : Below w.heap.size w w') : w'.ownsRow base e size v n xs :=
  h.kept (row := none) ⟨hb.os, hb.tape, hb.output, hb.size, fun k hk _ => hb.block k hk⟩ (by cases hv : v.ownBlock with
    | none => exact Or.inl rfl
    | some x => exact Or.inr (by simp))

/-- append of a text's bytes, in a region that draws. -/
theorem step_append_str {P : Program} {w : World} {ops : Array Oper} {o : Oper} {a : Act} {K : Act → World → Prop} {Q : Exit → Act → World → Prop} {E : Prop} (hgd : o.guard = none) (sl x : Operand) (t u : TypeId)
    (ho : o.op = .call { callee := .builtin .append, args := #[sl, x], argTypes := #[t, u] })
    (base : Nat) (e : TypeId) (i : TypeInfo) (ht : P.underlying t = some (.slice e)) (hu : P.underlying u = some .string) (hi : P.info? e = some i) (hz : i.zero = some (.int .u8 0))
    (hsize : i.size = 1) (hby : i.bytes = 1)
    (v : Value) (n : Nat) (xs : List Value) (hs : a.eval sl = v) (hown : w.ownsRow base e 1 v n xs) (s : ByteArray) (hx : a.eval x = .string s)
    (h63 : n + s.size ≤ maxLen) (hbytes : n + s.size ≤ 140737488355328) (hbase : base ≤ w.heap.size)
    (h : ∀ v' w', w'.ownsRow base e 1 v' (n + s.size) (xs ++ Lib.strCells s) → w.grownBy w' v.ownBlock → K (a.put o.dst v') w') : if Region.wanted o (yielded ops a.tmps) = true then Oper.wp P o a w K Q else E := by
  have hw : Region.wanted o (yielded ops a.tmps) = true := by simp [Region.wanted, hgd]
  rw [if_pos hw]
  obtain ⟨v', w', hr, h2, h3, _⟩ := Lib.run_append_own_string (P := P) w base t u o.type e i ht hu hi hz hsize hby v n xs hown s h63 hbytes hbase
  unfold Oper.wp execOp
  simp only [ho, resolve, invoke, builtin, Sem.run_bind, Sem.run_pure, Result.andThen_ok, List.map_toArray, List.map_cons, List.map_nil, hs, hx, hr]
  exact h v' w' h2 h3

theorem tx_low (L : List ByteArray) (k : Nat) (hk : k < L.length) : tx (L.map lowS) k = lowS (tx L k) := by
  rw [tx, tx, List.getD_eq_getElem?_getD, List.getD_eq_getElem?_getD, List.getElem?_map, List.getElem?_eq_getElem hk]
  rfl

theorem low_txt_len (L : List ByteArray) : ∀ k, k ≤ L.length → (txtTo (L.map lowS) k).length = (txtTo L k).length := by
  intro k
  induction k with
  | zero => intro _; rfl
  | succ k ih => intro h; rw [txtTo_len, txtTo_len, ih (by omega), tx_low L k (by omega), lowS_size]

set_option maxRecDepth 100000 in
set_option maxHeartbeats 3200000 in
theorem rjoinName_any (a : Option Addr) (len cap : Nat) (L : List ByteArray) (w : World) (h : RowS w a len L) (hlen : len ≤ 100000) (hsz : ∀ k, k < len → (tx L k).size ≤ 1000000) :
    Calls Try.prog 23 #[.slice a len cap] w fun e w' => e = .returned (.tuple #[.string (joinS2 L), .int .i64 (joinE2 L)]) ∧ Below w.heap.size w w' := by
  obtain ⟨i0, hi, hz0, hz1, hz2⟩ := info_parts infoU8
  have HI := Lib.hid hi
  have HZ0 := Lib.hid hz0
  have HZ1 := Lib.hid hz1
  have HZ2 := Lib.hid hz2
  have HR := Lib.hid h
  have HSZ := Lib.hid hsz
  have HLN := Lib.hid h.1
  clear hi hz0 hz1 hz2 h hsz
  go_enter Try.func23, Try.ntmps23
  go_wp2_with fail
  go_loopw [4, 5] (fun v i wr => ∃ k : Nat, k ≤ len ∧ i = .int .i64 k ∧ wr.ownsRow w.heap.size 5 1 v (txtTo (L.map lowS) k).length (bc (txtTo (L.map lowS) k)) ∧ Below w.heap.size w wr ∧ (txtTo (L.map lowS) k).length ≤ 64 * k ∧ Hid (jScan L = jScan (L.drop k)) ∧ Hid (∀ j, j < k → 1 ≤ (tx L j).size ∧ (tx L j).size ≤ 63)) (fun _ i _ => len - (intOf i).toNat)
  case atStart => exact ⟨0, Nat.zero_le _, rfl, World.ownsRow_nil _ _ _ _, Below.refl _ _, Nat.zero_le _, rfl, fun j hj => absurd hj (by omega)⟩
  case round =>
    obtain ⟨k, hk, rfl, hown1, hbel, hbd, hjs, hall⟩ := hrel
    obtain ⟨va, vc, rfl⟩ := own_shape hown1
    have HO := Lib.hid hown1
    have HBL := Lib.hid hbel
    have hszz := hbel.size
    clear hown1 hbel
    obtain ⟨n, hn⟩ : ∃ n, (txtTo (L.map lowS) k).length = n := ⟨_, rfl⟩
    rw [hn] at HO hbd
    rw [hn]
    by_cases hlt : k < len
    · rcases HR.out.2 with hz | ⟨b, o, rfl, hbl, hc⟩
      · omega
      have hst := jScan_step L k (by rw [HLN.out]; exact hlt)
      have hs6 := HSZ.out k hlt
      have htl := tx_low L k (by rw [HLN.out]; exact hlt)
      have htn := txtTo_len (L.map lowS) k
      have hcw0 := hc k hlt
      obtain ⟨s, hs⟩ : ∃ s, tx L k = s := ⟨_, rfl⟩
      have hcw : ∀ wx, Below w.heap.size w wx → wx.cell? ⟨b, o + k, none⟩ = some (.string s) := fun wx hb => by rw [hb.cell hbl, ← hs]; exact hcw0
      have hcell := hcw wr HBL.out
      rw [hs] at hst hs6 htl
      rw [hn, htl, lowS_size] at htn
      have HCW := Lib.hid hcw
      have HS := Lib.hid hs
      have HTL := Lib.hid htl
      have HTN := Lib.hid htn
      clear hc hcw0 hcw hs htl htn hn
      by_cases c1 : s.size = 0
      · rw [if_pos c1] at hst
        have HE := Lib.hid (show joinE2 L = 4 by rw [joinE2, hjs.out.trans hst]; rfl)
        have e1 : ((s.size : Int) == 0) = true := eT (by omega)
        clear hst hjs c1
        go_wp2
        go_ret2
        exact ⟨by rw [← HE.out]; exact ret_s4 (by rw [HE.out]; decide), HBL.out⟩
      · rw [if_neg c1] at hst
        have e1 : ((s.size : Int) == 0) = false := eF (by omega)
        by_cases c2 : 63 < s.size
        · rw [if_pos c2] at hst
          have HE := Lib.hid (show joinE2 L = 3 by rw [joinE2, hjs.out.trans hst]; rfl)
          have e2 := dT (p := (63 : Int) < (s.size : Int)) (by omega)
          clear hst hjs c1 c2
          go_wp2
          go_ret2
          exact ⟨by rw [← HE.out]; exact ret_s4 (by rw [HE.out]; decide), HBL.out⟩
        · rw [if_neg c2] at hst
          have e2 := dF (p := (63 : Int) < (s.size : Int)) (by omega)
          have HJ := Lib.hid (hjs.out.trans hst)
          have HA := Lib.hid (show ∀ j, j < k + 1 → 1 ≤ (tx L j).size ∧ (tx L j).size ≤ 63 by
            intro j hj
            by_cases e : j = k
            · subst e; rw [HS.out]; omega
            · exact hall.out j (by omega))
          have HBC := Lib.hid (show bc (txtTo (L.map lowS) k) ++ [Value.int .u8 (s.size : Int)] ++ Lib.strCells (lowS s) = bc (txtTo (L.map lowS) (k + 1)) by
            have := txt_bc (L.map lowS) k (lowS s) HTL.out (by rw [lowS_size]; omega)
            rw [lowS_size] at this
            rw [List.append_assoc, ← this]; rfl)
          have HLS := Lib.hid (lowS_size s)
          clear hst hjs hall
          go_wp2_with fail
          go_region_held3 (fun wx => wx.cell? ⟨b, o + k, none⟩ = some (.string s)) (first | exact HCW.out _ HBL.out.drew | exact HCW.out _ (HBL.out.drew.alloc hszz _) | exact HCW.out _ HB2.out | exact HCW.out _ HB3.out | exact HCW.out _ HB4.out)
            (first
              | (refine step_append_lies _ (by rfl) _ _ _ (by rfl) w.heap.size 5 i0 (.int .u8 0) 1 1 Try.underlying43 HI.out HZ0.out HZ1.out HZ2.out rfl (by decide) _ n _ (by rfl) ((HO.out.alloc _).drew) _ 1 _ _ (by rfl) (by rfl) (cell_one_new _ _ _) (one_int _ _) (by decide) (by unfold maxLen; omega) (by omega) (by simp; omega) _ rfl ?_; intro g cap w2 hown2 hgrow2 _ _; have HO2 := Lib.hid hown2; have HB2 := Lib.hid (below_appendD HBL.out hszz HO.out hgrow2); clear hown2 hgrow2)
              | (go_at_call 29; refine (rlower_any _ _ hs6).mono ?_; rintro e w3 ⟨rfl, hb⟩; have HB3 := Lib.hid (HB2.out.trans (hb.mono HB2.out.size)); have HO3 := Lib.hid (own_below HO2.out hb); clear hb)
              | (refine step_append_str (by rfl) _ _ _ _ (by rfl) w.heap.size 5 i0 Try.underlying43 Try.underlying9 HI.out HZ0.out HZ1.out HZ2.out _ (n + 1) _ (by rfl) HO3.out (lowS s) (by rfl) (by rw [HLS.out]; unfold maxLen; omega) (by rw [HLS.out]; omega) HB3.out.size ?_; intro v4 w4 hown4 hgrow4; have HB4 := Lib.hid (HB3.out.grown hgrow4 HB3.out.size (fun j hj => (HO3.out.lt j hj).1)); have HO4 := Lib.hid hown4; clear hown4 hgrow4))
          all_goals
            go_wp2
            have hw : IntKind.u8.wrap (s.size : Int) = (s.size : Int) := by rw [IntKind.wrap_u8]; omega
            rw [hw, HBC.out, HLS.out, ← HTN.out] at HO4
            refine ⟨⟨k + 1, by omega, by go_num, HO4.out, HB4.out, ?_, HJ.out, HA.out⟩, ?_⟩
            · have := HTN.out; omega
            · simp [intOf]; omega
    · have hkl : k = len := by omega
      subst hkl
      have hl := HLN.out
      have hj0 : jScan L = 0 := by rw [hjs.out, ← hl, List.drop_length]; rfl
      have hnL : off L L.length = n := by
        rw [← hn, off, hl]; exact (low_txt_len L k (by rw [hl]; exact Nat.le_refl _)).symm
      have hnm : nameL (L.map lowS) = txtTo (L.map lowS) k ++ [0] := by rw [nameL, List.length_map, hl]
      have HNM := Lib.hid hnm
      have HALL := hall
      by_cases c3 : 255 < n + 1
      · have HE := Lib.hid (show joinE2 L = 3 by rw [joinE2, if_pos hj0, hnL, if_pos c3])
        have e3 := dT (p := (255 : Int) < (n : Int) + 1) (by omega)
        clear hj0 hn hnL hjs hall c3 hnm
        go_wp2
        go_ret2
        exact ⟨by rw [← HE.out]; exact ret_s4 (by rw [HE.out]; decide), HBL.out⟩
      · have HE := Lib.hid (show joinE2 L = 0 by rw [joinE2, if_pos hj0, hnL, if_neg c3])
        have e3 := dF (p := (255 : Int) < (n : Int) + 1) (by omega)
        clear hj0 hn hnL hjs hall hnm
        go_wp2_with (first | (at_builtin; refine wpList_append_own _ rfl _ _ 43 rfl w.heap.size 5 i0 (.int .u8 0) 1 1 Try.underlying43 HI.out HZ0.out HZ1.out HZ2.out rfl (by decide) _ n _ rfl (HO.out.alloc _) ⟨wr.heap.size, 0, none⟩ 1 1 [.int .u8 0] rfl rfl ?c1 ?c2 ?c3 ?c4 ?c5 ?_))
        case c1 => exact cell_one_new _ _ _
        case c2 => exact one_int _ _
        case c3 => unfold maxLen; omega
        case c4 => omega
        case c5 => simp; omega
        intro v2 w2 hown2 hgrow2 _
        have HB2 := Lib.hid (below_append HBL.out hszz HO.out hgrow2)
        have e9 : bc (txtTo (L.map lowS) k) ++ [Value.int .u8 0] = bc (nameL (L.map lowS)) := by rw [HNM.out, bc_append]; rfl
        rw [e9] at hown2
        have hconv := conv_own hown2
        clear hown2 hgrow2 e9
        go_wp2
        go_ret2
        rw [joinS2, HE.out]
        refine ⟨?_, HB2.out⟩
        rw [if_pos rfl, low_name (fun j hj => (HALL.out j (by rw [← HLN.out]; exact hj)).2)]
        rfl
end Go.Proofs.Ytngncdmmlkcekaa
