/- Contracts of the document's Frames, and of both Takes (chapter 7), over this seat's translation. -/
import Derived.Test.YtngncdmmlkcekaaFrB
import Derived.Deep.AppendLies
import Derived.Deep.RegionLaw
import Derived.Deep.RegionHeld3
namespace Go.Proofs.Ytngncdmmlkcekaa
open Go.RowKit

theorem below_appD {w wr w' : World} {v : Value} {B n : Nat} {e : TypeId} {xs : List Value} {o : Obj} (hb : Below B w wr) (hB : B ≤ wr.heap.size) (hown : wr.ownsRow B e 1 v n xs) (hg : (wr.alloc o).drew.grownBy w' v.ownBlock) : Below B w w' :=
  ((hb.alloc hB o).drew).grown hg (by simp; omega) (fun k hk => (hown.lt k hk).1)
/-- append of a slice, wherever it lies, at an operation that stands behind a test. -/
theorem append_cells_g {w : World} {ops : Array Oper} {rest : List Oper} {o : Oper} {act : Act} {Q : Exit → Act → World → Prop} (hw : Region.wanted o (yielded ops act.tmps) = true) (s x : Operand) (t e : TypeId)
    (ho : o.op = .call { callee := .builtin .append, args := #[s, x], argTypes := #[t, t] })
    (i : TypeInfo) (z : Value) (bytes : Nat) (ht : Try.prog.underlying t = some (.slice e)) (hi : Try.prog.info? e = some i) (hz : i.zero = some z) (hsize : i.size = 1) (hby : i.bytes = bytes) (hzs : z.cells.size = 1)
    (B : Nat) (v : Value) (n : Nat) (xs : List Value) (hs : act.eval s = v) (hown : w.ownsRow B e 1 v n xs)
    (a : Option Addr) (len cap : Nat) (cs : List Value) (hx : act.eval x = .slice a len cap) (hn : a = none → len = 0 ∧ cap = 0) (hr : CellsAt w a len cs) (h1 : ∀ u ∈ cs, u.oneCell' = true)
    (hb : n + len ≤ 1000000) (hb2 : bytes ≤ 64) (hbase : B ≤ w.heap.size)
    (h : ∀ v' w', w'.ownsRow B e 1 v' (n + len) (xs ++ cs) → w.grownBy w' v.ownBlock → wpList Try.prog ops Q rest (act.put o.dst v') w') : wpList Try.prog ops Q (o :: rest) act w := by
  unfold wpList
  rw [if_pos hw]
  refine Or.inl ?_
  cases a with
  | none =>
    obtain ⟨rfl, rfl⟩ := hn rfl
    have hl : cs = [] := List.eq_nil_of_length_eq_zero hr.1
    subst hl
    have hrun := run_append_owned_none (P := Try.prog) (w := w) B t o.type e i 1 ht hi v n xs hown
    unfold Oper.wp
    simp [execOp, ho, resolve, invoke, builtin, hs, hx, hrun, Result.andThen]
    exact h v w (by simpa using hown) (World.grownBy.refl _ _)
  | some ad =>
    have hm : (n + len) * bytes ≤ 1000000 * 64 := Nat.mul_le_mul hb hb2
    refine wp_append_own w s x t ho B e i z 1 bytes ht hi hz hsize hby hzs (by decide) v n xs hs hown ad len cap cs hx (by rw [hr.1, Nat.mul_one]) ?_ h1 (by unfold maxLen; omega) (by omega) hbase (fun v' w' h1 h2 _ => h v' w' h1 h2)
    intro j u hj
    rcases hr.2 with h0 | ⟨b, off, hab, _, hc⟩
    · have h3 := hr.1
      have h4 := (List.getElem?_eq_some_iff.1 hj).1
      omega
    · simp only [Option.some.injEq] at hab
      subst hab
      rw [show (⟨b, off, none⟩ : Addr).add j = ⟨b, off + j, none⟩ by simp only [Addr.add]; split <;> simp_all]
      exact hc j u hj

/-- append of a slice, wherever it lies, in a region that draws. -/
theorem step_append_cells {w : World} {ops : Array Oper} {o : Oper} {act : Act} {K : Act → World → Prop} {Q : Exit → Act → World → Prop} {E : Prop} (hgd : o.guard = none) (s x : Operand) (t e : TypeId)
    (ho : o.op = .call { callee := .builtin .append, args := #[s, x], argTypes := #[t, t] })
    (i : TypeInfo) (z : Value) (bytes : Nat) (ht : Try.prog.underlying t = some (.slice e)) (hi : Try.prog.info? e = some i) (hz : i.zero = some z) (hsize : i.size = 1) (hby : i.bytes = bytes) (hzs : z.cells.size = 1)
    (B : Nat) (v : Value) (n : Nat) (xs : List Value) (hs : act.eval s = v) (hown : w.ownsRow B e 1 v n xs)
    (a : Option Addr) (len cap : Nat) (cs : List Value) (hx : act.eval x = .slice a len cap) (hn : a = none → len = 0 ∧ cap = 0) (hr : CellsAt w a len cs) (h1 : ∀ u ∈ cs, u.oneCell' = true)
    (hb : n + len ≤ 1000000) (hb2 : bytes ≤ 64) (hbase : B ≤ w.heap.size)
    (h : ∀ v' w', w'.ownsRow B e 1 v' (n + len) (xs ++ cs) → w.grownBy w' v.ownBlock → K (act.put o.dst v') w') : if Region.wanted o (yielded ops act.tmps) = true then Oper.wp Try.prog o act w K Q else E := by
  have hw : Region.wanted o (yielded ops act.tmps) = true := by simp [Region.wanted, hgd]
  rw [if_pos hw]
  cases a with
  | none =>
    obtain ⟨rfl, rfl⟩ := hn rfl
    have hl : cs = [] := List.eq_nil_of_length_eq_zero hr.1
    subst hl
    have hrun := run_append_owned_none (P := Try.prog) (w := w) B t o.type e i 1 ht hi v n xs hown
    unfold Oper.wp
    simp [execOp, ho, resolve, invoke, builtin, hs, hx, hrun, Result.andThen]
    exact h v w (by simpa using hown) (World.grownBy.refl _ _)
  | some ad =>
    have hm : (n + len) * bytes ≤ 1000000 * 64 := Nat.mul_le_mul hb hb2
    refine wp_append_own w s x t ho B e i z 1 bytes ht hi hz hsize hby hzs (by decide) v n xs hs hown ad len cap cs hx (by rw [hr.1, Nat.mul_one]) ?_ h1 (by unfold maxLen; omega) (by omega) hbase (fun v' w' h1 h2 _ => h v' w' h1 h2)
    intro j u hj
    rcases hr.2 with h0 | ⟨b, off, hab, _, hc⟩
    · have h3 := hr.1
      have h4 := (List.getElem?_eq_some_iff.1 hj).1
      omega
    · simp only [Option.some.injEq] at hab
      subst hab
      rw [show (⟨b, off, none⟩ : Addr).add j = ⟨b, off + j, none⟩ by simp only [Addr.add]; split <;> simp_all]
      exact hc j u hj

set_option maxRecDepth 100000 in
set_option maxHeartbeats 3200000 in
theorem rframes (a : Option Addr) (n c : Nat) (M : List (List UInt8)) (w : World) (h : RowBB w a n M) (hn : n ≤ 300) (hc : capL M ≤ 300000) (hsz : ∀ k, k < n → (M.getD k []).length ≤ 9223372036854775807) :
    Calls Try.prog 43 #[.slice a n c] w fun e w' => ∃ v, e = .returned (.tuple #[v, .int .i64 (frE M)]) ∧ w'.ownsRow w.heap.size 5 1 v (frS M).length (bc (frS M)) ∧ Below w.heap.size w w' := by
  have HR := Lib.hid h
  have HML := Lib.hid (show M.length = n by obtain ⟨_, _, h2, _⟩ := h; exact h2)
  have HSZ := Lib.hid hsz
  obtain ⟨i0, hi, hz0, hz1, hz2⟩ := info_parts infoU8
  have HI := Lib.hid hi
  have HZ0 := Lib.hid hz0
  have HZ1 := Lib.hid hz1
  have HZ2 := Lib.hid hz2
  have hCT := cap_le M
  have HC := Lib.hid hc
  have HCT := Lib.hid hCT
  clear h hi hz0 hz1 hz2 hCT hc hsz
  go_enter Try.func43, Try.ntmps43
  go_wp2_with fail
  go_loopw [4, 5] (fun v i wr => ∃ k L : Nat, k ≤ n ∧ i = .int .i64 k ∧ wr.ownsRow w.heap.size 5 1 v L (bc (frameL (M.take k))) ∧ Below w.heap.size w wr ∧ Hid (allFit (M.take k) = true) ∧ Hid (L = (frameL (M.take k)).length) ∧ L ≤ 300600) (fun _ i _ => n - (intOf i).toNat)
  case atStart => exact ⟨0, 0, Nat.zero_le _, rfl, World.ownsRow_nil _ _ _ _, Below.refl _ _, rfl, rfl, Nat.zero_le _⟩
  case round =>
    obtain ⟨k, L, hk, rfl, hown1, hbel, hfit, hL, hL2⟩ := hrel
    obtain ⟨va, vc, rfl⟩ := own_shape hown1
    have HO := Lib.hid hown1
    have HBL := Lib.hid hbel
    have hszz := hbel.size
    clear hown1 hbel
    by_cases hlt : k < n
    · obtain ⟨b1, o1, ai, ci, rfl, hbl1, c0, r1, n1⟩ := HR.out.at k hlt
      have HCW := Lib.hid (fun wx (hb : Below w.heap.size w wx) => (hb.cell (p := ⟨b1, o1 + k, none⟩) hbl1).trans c0)
      have c1 := HCW.out wr HBL.out
      have HRI := Lib.hid r1
      have HNI := Lib.hid n1
      have HFT := Lib.hid (fit_take (M := M) (k := k) (by rw [HML.out]; exact hlt))
      have HFR := Lib.hid (frame_take (M := M) (k := k) (by rw [HML.out]; exact hlt))
      have HFN := Lib.hid (fun h => fit_no (M := M) (k := k) (by rw [HML.out]; exact hlt) h)
      have hs6 := HSZ.out k hlt
      have HLL := Lib.hid (show allFit (M.take (k + 1)) = true → (frameL (M.take (k + 1))).length ≤ 300600 from fun h => by
        have h1 := frameL_len (M.take (k + 1))
        have h2 := cap_fit h
        have h3 := HCT.out (k + 1)
        have h4 := HC.out
        have h5 : (M.take (k + 1)).length ≤ k + 1 := List.length_take_le _ _
        omega)
      obtain ⟨m, hm⟩ : ∃ m, M.getD k [] = m := ⟨_, rfl⟩
      rw [hm] at c1 HRI HNI HFT HFR HFN hs6 HCW
      obtain ⟨s, hs⟩ : ∃ s, m.length = s := ⟨_, rfl⟩
      have HS := Lib.hid hs
      rw [hs] at c1 HRI HNI HFT HFN hs6 HCW
      have i1 : (k : Int) < (n : Int) := by omega
      clear r1 n1 hm hs c0
      by_cases c2 : s ≤ 65535
      · have d1 := dF (p := (65535 : Int) < (s : Int)) (by omega)
        have hF : allFit (M.take (k + 1)) = true := by rw [HFT.out, hfit.out]; simp [c2]
        have HF := Lib.hid hF
        have hLL := HLL.out hF
        have hlen : (frameL (M.take (k + 1))).length = L + 2 + s := by
          rw [HFR.out, List.length_append, List.length_append, ← hL.out, HS.out]; simp [head2]; omega
        have hL3 : L + 2 + s ≤ 300600 := by omega
        have HLN := Lib.hid hlen
        have HQ := Lib.hid (show bc (frameL (M.take k)) ++ ([Value.int .u8 ((s : Int) / 256 % 256), Value.int .u8 ((s : Int) % 256)] ++ bc m) = bc (frameL (M.take (k + 1))) by
          have e1 : bc (head2 m) = [Value.int .u8 ((s : Int) / 256 % 256), Value.int .u8 ((s : Int) % 256)] := by
            rw [head2, HS.out]
            simp only [bc, List.map_cons, List.map_nil, UInt8.toNat_ofNat']
            congr 2
          rw [HFR.out, bc_append, bc_append, e1])
        clear hF hLL hlen
        go_wp2_with fail
        go_region_held3 (fun wx => wx.cell? ⟨b1, o1 + k, none⟩ = some (.slice ai s ci)) (first | exact HCW.out _ HBL.out.drew | exact HCW.out _ (HBL.out.drew.alloc hszz _) | exact HCW.out _ HB2.out | exact HCW.out _ HB3.out)
          (first
            | (refine step_append_lies _ (by rfl) _ _ _ (by rfl) w.heap.size 5 i0 (.int .u8 0) 1 1 Try.underlying43 HI.out HZ0.out HZ1.out HZ2.out rfl (by decide) _ L _ (by rfl) ((HO.out.alloc _).drew) _ 2 _ _ (by rfl) (by rfl) (cell_two_new _ _ _ _) (by intro u hu; simp only [List.mem_cons, List.not_mem_nil, or_false] at hu; rcases hu with rfl | rfl <;> rfl) (by decide) (by unfold maxLen; omega) (by omega) (by simp; omega) _ rfl ?_; intro g cap w2 hown2 hgrow2 _ _; have HO2 := Lib.hid hown2; have HB2 := Lib.hid (below_appD HBL.out hszz HO.out hgrow2); clear hown2 hgrow2)
            | (refine step_append_cells (by rfl) _ _ 43 5 (by rfl) i0 (.int .u8 0) 1 Try.underlying43 HI.out HZ0.out HZ1.out HZ2.out rfl w.heap.size _ (L + 2) _ (by rfl) HO2.out ai s ci (bc m) (by rfl) HNI.out (CellsAt.below HRI.out HB2.out) (bc_oneCell m) (by omega) (by decide) HB2.out.size ?_; intro v3 w3 hown3 hgrow3; have HB3 := Lib.hid (HB2.out.grown hgrow3 HB2.out.size (fun j hj => (HO2.out.lt j hj).1)); have HO3 := Lib.hid hown3; clear hown3 hgrow3))
        all_goals
          have w1 : IntKind.u8.wrap ((s : Int) / 256) = (s : Int) / 256 % 256 := by rw [IntKind.wrap_u8]
          have w2 : IntKind.u8.wrap (s : Int) = (s : Int) % 256 := by rw [IntKind.wrap_u8]
          have HO4 := HO3.out
          rw [w1, w2, List.append_assoc, HQ.out] at HO4
          have HO5 := Lib.hid HO4
          clear w1 w2 HO4
          go_wp2
          refine ⟨⟨k + 1, L + 2 + s, by omega, by go_num, HO5.out, HB3.out, HF.out, HLN.out.symm, hL3⟩, ?_⟩
          simp [intOf]; omega
      · have d1 := dT (p := (65535 : Int) < (s : Int)) (by omega)
        have HV := Lib.hid (show frS M = [] ∧ frE M = 3 by
          have := HFN.out c2
          rw [frS, frE, this]; exact ⟨rfl, rfl⟩)
        go_wp2
        go_ret2
        exact ⟨.slice none 0 0, ret_vi (v := .slice none 0 0) HV.out.2.symm, by rw [HV.out.1]; exact World.ownsRow_nil _ _ _ _, HBL.out⟩
    · have hkn : k = n := by omega
      subst hkn
      have HT := Lib.hid (show M.take k = M by rw [← HML.out]; exact List.take_length)
      have HV := Lib.hid (show frS M = frameL M ∧ frE M = 0 by
        have := hfit.out
        rw [HT.out] at this
        rw [frS, frE, this]; exact ⟨rfl, rfl⟩)
      rw [HT.out] at HO
      rw [HT.out] at hL
      go_wp2
      go_ret2
      exact ⟨.slice va L vc, ret_vi (v := .slice va L vc) HV.out.2.symm, by rw [HV.out.1, ← hL.out]; exact HO.out, HBL.out⟩
end Go.Proofs.Ytngncdmmlkcekaa
