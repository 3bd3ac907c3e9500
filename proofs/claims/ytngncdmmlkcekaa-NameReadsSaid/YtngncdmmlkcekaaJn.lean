/- The contract of name.Join (chapter 2), over this seat's translation. -/
import Derived.Test.YtngncdmmlkcekaaLow
import Derived.Test.YtngncdmmlkcekaaLab
import Derived.OwnWalk
namespace Go.Proofs.Ytngncdmmlkcekaa
open Go.RowKit

def jScan : List ByteArray → Int
  | [] => 0
  | s :: r => if s.size = 0 then 4 else if 63 < s.size then 3 else jScan r
def joinE2 (L : List ByteArray) : Int := if jScan L = 0 then (if 255 < off L L.length + 1 then 3 else 0) else jScan L
def joinS2 (L : List ByteArray) : ByteArray := if joinE2 L = 0 then lowS (nameB L) else ⟨#[]⟩
theorem jScan_step (L : List ByteArray) (k : Nat) (hk : k < L.length) : jScan (L.drop k) = if (tx L k).size = 0 then 4 else if 63 < (tx L k).size then 3 else jScan (L.drop (k + 1)) := by
  rw [drop_cons_tx L k hk]; rfl
theorem ret_s4 {L : List ByteArray} (h : joinE2 L ≠ 0) : Ending.returned (.tuple #[.string ⟨#[]⟩, .int .i64 (joinE2 L)]) = Ending.returned (.tuple #[.string (joinS2 L), .int .i64 (joinE2 L)]) := by rw [joinS2, if_neg h]

set_option maxRecDepth 100000 in
set_option maxHeartbeats 1600000 in
theorem joinName_any (a : Option Addr) (len cap : Nat) (L : List ByteArray) (w : World) (h : RowS w a len L) (hlen : len ≤ 100000) (hsz : ∀ k, k < len → (tx L k).size ≤ 1000000) :
    Calls Try.prog 22 #[.slice a len cap] w fun e w' => e = .returned (.tuple #[.string (joinS2 L), .int .i64 (joinE2 L)]) ∧ Below w.heap.size w w' := by
  obtain ⟨i0, hi, hz0, hz1, hz2⟩ := info_parts infoU8
  have HI := Lib.hid hi
  have HZ0 := Lib.hid hz0
  have HZ1 := Lib.hid hz1
  have HZ2 := Lib.hid hz2
  have HR := Lib.hid h
  have HSZ := Lib.hid hsz
  have HLN := Lib.hid h.1
  clear hi hz0 hz1 hz2 h hsz
  go_enter Try.func22, Try.ntmps22
  go_wp2
  go_loop [4, 12] (fun z i => ∃ k : Nat, k ≤ len ∧ i = .int .i64 k ∧ z = .int .i64 ((off L k + 1 : Nat) : Int) ∧ off L k ≤ 64 * k ∧ Hid (jScan L = jScan (L.drop k)) ∧ Hid (∀ j, j < k → 1 ≤ (tx L j).size ∧ (tx L j).size ≤ 63)) (fun _ i => len - (intOf i).toNat)
  case atStart => exact ⟨0, Nat.zero_le _, rfl, rfl, Nat.zero_le _, rfl, fun j hj => absurd hj (by omega)⟩
  case round =>
    obtain ⟨k, hk, rfl, rfl, hbd, hjs, hall⟩ := hrel
    by_cases hlt : k < len
    · rcases HR.out.2 with hz | ⟨b, o, rfl, hbl, hc⟩
      · omega
      have hst := jScan_step L k (by rw [HLN.out]; exact hlt)
      have hos := off_succ L k
      have hcell := hc k hlt
      have hs6 := HSZ.out k hlt
      obtain ⟨s, hs⟩ : ∃ s, tx L k = s := ⟨_, rfl⟩
      have hcell' : w.cell? ⟨b, o + k, none⟩ = some (.string s) := by rw [← hs]; exact hcell
      rw [hs] at hst hs6 hos
      have HS := Lib.hid hs
      clear hc hcell hs
      by_cases c1 : s.size = 0
      · rw [if_pos c1] at hst
        have HE := Lib.hid (show joinE2 L = 4 by rw [joinE2, hjs.out.trans hst]; rfl)
        have e1 : ((s.size : Int) == 0) = true := eT (by omega)
        clear hst hjs hos c1
        go_wp2
        go_ret2
        exact ⟨by rw [← HE.out]; exact ret_s4 (by rw [HE.out]; decide), Below.refl _ _⟩
      · rw [if_neg c1] at hst
        have e1 : ((s.size : Int) == 0) = false := eF (by omega)
        by_cases c2 : 63 < s.size
        · rw [if_pos c2] at hst
          have HE := Lib.hid (show joinE2 L = 3 by rw [joinE2, hjs.out.trans hst]; rfl)
          have e2 := dT (p := (63 : Int) < (s.size : Int)) (by omega)
          clear hst hjs hos c1 c2
          go_wp2
          go_ret2
          exact ⟨by rw [← HE.out]; exact ret_s4 (by rw [HE.out]; decide), Below.refl _ _⟩
        · rw [if_neg c2] at hst
          have e2 := dF (p := (63 : Int) < (s.size : Int)) (by omega)
          have HJ := Lib.hid (hjs.out.trans hst)
          have HA := Lib.hid (show ∀ j, j < k + 1 → 1 ≤ (tx L j).size ∧ (tx L j).size ≤ 63 by
            intro j hj
            by_cases e : j = k
            · subst e; rw [HS.out]; omega
            · exact hall.out j (by omega))
          obtain ⟨p, hp⟩ : ∃ p, off L k = p := ⟨_, rfl⟩
          obtain ⟨p2, hp2⟩ : ∃ p, off L (k + 1) = p := ⟨_, rfl⟩
          simp only [hp, hp2] at hos hbd ⊢
          have HP2 := Lib.hid hp2
          clear hst hjs hp hp2 hall
          go_wp2
          go_round
          case rel => exact ⟨k + 1, by omega, by go_num, by rw [HP2.out, hos]; go_num, by rw [HP2.out]; omega, HJ.out, HA.out⟩
          case measure => simp [intOf]; omega
    · have hkn : k = len := by omega
      subst hkn
      have hj0 : jScan L = 0 := by rw [hjs.out, List.drop_of_length_le (by rw [HLN.out]; exact Nat.le_refl _)]; rfl
      have HALL := hall
      obtain ⟨p, hp⟩ : ∃ p, off L k = p := ⟨_, rfl⟩
      have hpL : off L L.length = p := by rw [HLN.out]; exact hp
      have HP := Lib.hid hp
      by_cases c3 : 255 < p + 1
      · have HE := Lib.hid (show joinE2 L = 3 by rw [joinE2, if_pos hj0, hpL, if_pos c3])
        have e3 := dT (p := (255 : Int) < (p : Int) + 1) (by omega)
        rw [hp] at hbd
        simp only [hp]
        clear hj0 hp hpL hjs hall c3
        go_wp2
        go_ret2
        exact ⟨by rw [← HE.out]; exact ret_s4 (by rw [HE.out]; decide), Below.refl _ _⟩
      · have HE := Lib.hid (show joinE2 L = 0 by rw [joinE2, if_pos hj0, hpL, if_neg c3])
        have e3 := dF (p := (255 : Int) < (p : Int) + 1) (by omega)
        rw [hp] at hbd
        simp only [hp]
        clear hj0 hp hpL hjs hall
        go_wp2_with (first | (at_make; refine wpList_make_own _ rfl _ _ 43 rfl w.heap.size 5 i0 (.int .u8 0) 1 Try.underlying43 HI.out HZ0.out HZ1.out   .i64 .i64 _ (p + 1) rfl rfl (by omega) ?b1 ?b2 ?b3 ?_))
        case b1 => rw [HZ2.out]; omega
        case b2 => unfold maxLen; omega
        intro w1 hown1 hgrow1
        have HO1 := Lib.hid hown1
        have HB1 := Lib.hid ((Below.refl w.heap.size w).grown hgrow1 (Nat.le_refl _) (fun j hj => by cases hj))
        clear hown1 hgrow1
        go_wp2_with fail
        go_loopw [7, 34] (fun v i wr => ∃ j : Nat, j ≤ k ∧ i = .int .i64 j ∧ wr.ownsRow w.heap.size 5 1 v (txtTo L j).length (bc (txtTo L j)) ∧ Below w.heap.size w wr) (fun _ i _ => k - (intOf i).toNat)
        case atStart => exact ⟨0, Nat.zero_le _, rfl, HO1.out, HB1.out⟩
        case round =>
          obtain ⟨j, hj, rfl, hown1, hbel⟩ := hrel
          obtain ⟨va, vc, rfl⟩ := own_shape hown1
          have HO := Lib.hid hown1
          have HBL := Lib.hid hbel
          have hsz := hbel.size
          have hle : (txtTo L j).length ≤ p := by rw [← HP.out]; exact off_mono L hj
          clear hown1 hbel HO1 HB1
          by_cases hlt2 : j < k
          · rcases HR.out.2 with hz | ⟨b, o, rfl, hbl, hc⟩
            · omega
            obtain ⟨s, hs⟩ : ∃ s, tx L j = s := ⟨_, rfl⟩
            have hcell : wr.cell? ⟨b, o + j, none⟩ = some (.string s) := by rw [HBL.out.cell hbl, ← hs]; exact hc j hlt2
            have hs6 : 1 ≤ s.size ∧ s.size ≤ 63 := by rw [← hs]; exact HALL.out j hlt2
            obtain ⟨hs7, hs8⟩ := hs6
            obtain ⟨n, hn⟩ : ∃ n, (txtTo L j).length = n := ⟨_, rfl⟩
            have hle2 : (txtTo L (j + 1)).length ≤ p := by rw [← HP.out]; exact off_mono L (show j + 1 ≤ k by omega)
            have HLN2 := Lib.hid (txtTo_len L j)
            have HS := Lib.hid hs
            rw [hn, hs] at HLN2
            rw [HLN2.out] at hle2
            rw [hn] at HO hle
            clear hc hs
            rw [hn]
            clear hn
            go_wp2_with (first | (at_builtin; refine wpList_append_own _ rfl _ _ 43 rfl w.heap.size 5 i0 (.int .u8 0) 1 1 Try.underlying43 HI.out HZ0.out HZ1.out HZ2.out rfl (by decide) _ n _ rfl (HO.out.alloc _) ⟨wr.heap.size, 0, none⟩ 1 1 [.int .u8 (s.size : Int)] rfl rfl ?c1 ?c2 ?c3 ?c4 ?c5 ?_))
            case c1 => exact cell_one_new _ _ _
            case c2 => exact one_int _ _
            case c3 => unfold maxLen; omega
            case c4 => omega
            case c5 => simp; omega
            intro v2 w2 hown2 hgrow2 _
            have HO2 := Lib.hid hown2
            have HB2 := Lib.hid (below_append HBL.out hsz HO.out hgrow2)
            clear hown2 hgrow2
            go_wp2_with (first | (at_builtin; refine Lib.wpList_append_own_string _ rfl _ _ 43 9 rfl w.heap.size 5 i0 Try.underlying43 Try.underlying9 HI.out HZ0.out HZ1.out HZ2.out _ (n + 1) _ rfl HO2.out s rfl ?c6 ?c7 ?c8 ?_))
            case c6 => unfold maxLen; omega
            case c7 => omega
            case c8 => exact HB2.out.size
            intro v3 w3 hown3 hgrow3 _
            have HB3 := Lib.hid (HB2.out.grown hgrow3 HB2.out.size (fun j hj => (HO2.out.lt j hj).1))
            rw [txt_bc L j s HS.out (by omega), ← HLN2.out] at hown3
            have HO3 := Lib.hid hown3
            clear hown3 hgrow3
            go_wp2
            go_roundw
            case rel => exact ⟨j + 1, by omega, by go_num, HO3.out, HB3.out⟩
            case measure => simp [intOf]; omega
          · have hjk : j = k := by omega
            subst hjk
            obtain ⟨n, hn⟩ : ∃ n, (txtTo L j).length = n := ⟨_, rfl⟩
            have hnm : nameL L = txtTo L j ++ [0] := by rw [nameL, HLN.out]
            have HNM := Lib.hid hnm
            rw [hn] at HO hle
            rw [hn]
            clear hn hnm
            go_wp2_with (first | (at_builtin; refine wpList_append_own _ rfl _ _ 43 rfl w.heap.size 5 i0 (.int .u8 0) 1 1 Try.underlying43 HI.out HZ0.out HZ1.out HZ2.out rfl (by decide) _ n _ rfl (HO.out.alloc _) ⟨wr.heap.size, 0, none⟩ 1 1 [.int .u8 0] rfl rfl ?c1 ?c2 ?c3 ?c4 ?c5 ?_))
            case c1 => exact cell_one_new _ _ _
            case c2 => exact one_int _ _
            case c3 => unfold maxLen; omega
            case c4 => omega
            case c5 => simp; omega
            intro v2 w2 hown2 hgrow2 _
            have HB2 := Lib.hid (below_append HBL.out hsz HO.out hgrow2)
            have e9 : bc (txtTo L j) ++ [Value.int .u8 0] = bc (nameL L) := by rw [HNM.out, bc_append]; rfl
            rw [e9] at hown2
            have hconv := conv_own hown2
            have hsz9 : (nameB L).size ≤ 1000000 := by rw [nameB_size, HLN.out, HP.out]; omega
            have HSZ9 := Lib.hid hsz9
            clear hown2 hgrow2 e9 hsz9
            go_wp2_with fail
            refine (lower_any _ _ HSZ9.out).mono ?_; rintro e w3 ⟨rfl, hb⟩
            have HB3 := Lib.hid (HB2.out.trans (hb.mono HB2.out.size))
            clear hb
            go_wp2
            go_ret2
            rw [joinS2, HE.out]
            exact ⟨rfl, HB3.out⟩
end Go.Proofs.Ytngncdmmlkcekaa
