/- May a message of questions alone be. -/
import Derived.Test.YtgppkpdjpcegbaaMgI
namespace Go.Proofs.Ytgppkpdjpcegbaa
open Go.RowKit

def mayK (q : Ky) : Bool := mayN q.n && (inR q.t 65535 && inR q.c 65535)
set_option maxRecDepth 100000 in
set_option maxHeartbeats 2000000 in
theorem mayAsk_any (n : ByteArray) (t c : Int) (w : World) (hn : n.size ≤ 1000000) : Calls Try.prog 53 #[.agg #[.string n, .int .i64 t, .int .i64 c]] w fun e w' => e = .returned (.bool (mayK ⟨n, t, c⟩)) ∧ Below w.heap.size w w' := by
  have HB := Lib.hid ((Below.refl w.heap.size w).alloc (Nat.le_refl _) (.cells #[.string n, .int .i64 t, .int .i64 c] 27))
  have HV := Lib.hid (show mayK ⟨n, t, c⟩ = (mayN n && (inR t 65535 && inR c 65535)) from rfl)
  rw [HV.out]
  clear HV
  cases h1 : mayN n
  · have H1 := Lib.hid h1
    clear h1
    go_enter Try.func53, Try.ntmps53
    go_wp2_with fail
    refine (nmay_any n _ hn).mono ?_; rintro e w1 ⟨rfl, rfl⟩
    rw [H1.out]
    go_wp2
    go_ret
    exact ⟨rfl, HB.out⟩
  · have H1 := Lib.hid h1
    clear h1
    cases h2 : inR t 65535
    · have H2 := Lib.hid h2
      clear h2
      go_enter Try.func53, Try.ntmps53
      go_wp2_with fail
      refine (nmay_any n _ hn).mono ?_; rintro e w1 ⟨rfl, rfl⟩
      rw [H1.out]
      go_wp2_with fail
      refine (wfits_any _ _ _).mono ?_; rintro e w1 ⟨rfl, rfl⟩
      rw [H2.out]
      go_wp2
      go_ret
      exact ⟨rfl, HB.out⟩
    · have H2 := Lib.hid h2
      clear h2
      go_enter Try.func53, Try.ntmps53
      go_wp2_with fail
      refine (nmay_any n _ hn).mono ?_; rintro e w1 ⟨rfl, rfl⟩
      rw [H1.out]
      go_wp2_with fail
      refine (wfits_any _ _ _).mono ?_; rintro e w1 ⟨rfl, rfl⟩
      rw [H2.out]
      go_wp2_with fail
      refine (wfits_any _ _ _).mono ?_; rintro e w1 ⟨rfl, rfl⟩
      go_wp2
      go_ret
      exact ⟨rfl, HB.out⟩
set_option maxRecDepth 100000 in
set_option maxHeartbeats 4000000 in
theorem may_q (mi : Int) (qa : Option Addr) (ql qc : Nat) (Q : List Ky) (w : World) (hi : inR mi 65535 = true) (hq : RowQ w qa ql Q) (hl : ql ≤ 300) (hz : ∀ r ∈ Q, r.n.size ≤ 1000000) :
    Calls Try.prog 34 #[.agg #[.int .i64 mi, .int .i64 0, .int .i64 0, .bool false, .bool false, .bool false, .bool false, .bool false, .slice qa ql qc, .slice none 0 0, .slice none 0 0, .slice none 0 0]] w fun e w' => e = .returned (.bool (Q.all mayK)) ∧ Below w.heap.size w w' := by
  have hb1 := (Below.refl w.heap.size w).alloc (Nat.le_refl _) (.cells #[.int .i64 mi, .int .i64 0, .int .i64 0, .bool false, .bool false, .bool false, .bool false, .bool false, .slice qa ql qc, .slice none 0 0, .slice none 0 0, .slice none 0 0] 37)
  have HC := Lib.hid (CN.new w #[.int .i64 mi, .int .i64 0, .int .i64 0, .bool false, .bool false, .bool false, .bool false, .bool false, .slice qa ql qc, .slice none 0 0, .slice none 0 0, .slice none 0 0] 37)
  have HQ := Lib.hid (hq.below hb1)
  have HB := Lib.hid hb1
  have HI := Lib.hid hi
  have HZ := Lib.hid hz
  have HQL := Lib.hid hq.1
  clear hb1 hq hi hz
  go_enter Try.func34, Try.ntmps34
  go_wp2_with fail
  refine (wfits_any _ _ _).mono ?_; rintro e w1 ⟨rfl, rfl⟩
  rw [HI.out]
  go_wp2_with fail
  refine (wfits_any _ _ _).mono ?_; rintro e w1 ⟨rfl, rfl⟩
  rw [show inR 0 15 = true by decide]
  go_wp2_with fail
  refine (wfits_any _ _ _).mono ?_; rintro e w1 ⟨rfl, rfl⟩
  rw [show inR 0 15 = true by decide]
  have d0 : decide ((300 : Int) < (ql : Int)) = false := dF (by omega)
  go_wp2_with fail
  obtain ⟨w1, hw1⟩ : ∃ x, w.alloc (.cells #[.int .i64 mi, .int .i64 0, .int .i64 0, .bool false, .bool false, .bool false, .bool false, .bool false, .slice qa ql qc, .slice none 0 0, .slice none 0 0, .slice none 0 0] 37) = x := ⟨_, rfl⟩
  obtain ⟨q, hq⟩ : ∃ x, w.heap.size = x := ⟨_, rfl⟩
  rw [hw1] at HC HQ HB ⊢
  rw [hq] at HC
  rw [show (Value.pointer (some { block := w.heap.size, off := 0 })) = Value.pointer (some { block := q, off := 0 }) by rw [hq]]
  clear hw1 hq d0
  go_loopw [45] (fun i wr => ∃ k : Nat, k ≤ ql ∧ i = .int .i64 k ∧ Hid (Below w1.heap.size w1 wr) ∧ Hid (∀ j r, j < k → Q[j]? = some r → mayK r = true)) (fun i _ => ql - (intOf i).toNat)
  case atStart => exact ⟨0, by omega, rfl, Lib.hid (Below.refl _ _), Lib.hid (fun j r hj _ => absurd hj (by omega))⟩
  case round =>
    obtain ⟨k, hk, rfl, HW, HA⟩ := hrel
    by_cases hlt : k < ql
    · obtain ⟨b, o, r, rfl, hbl, hr, c0, c1, c2⟩ := (HQ.out.below HW.out).at k hlt
      obtain ⟨n, t, c⟩ := r
      have hsz : n.size ≤ 1000000 := HZ.out ⟨n, t, c⟩ (List.mem_of_getElem? hr)
      have HR := Lib.hid hr
      have hba := (Below.refl _ _ : Below wr.heap.size wr wr).alloc (Nat.le_refl _) (.cells #[.string n, .int .i64 t, .int .i64 c] 27)
      have HW2 := Lib.hid (HW.out.trans (hba.mono HW.out.size))
      replace c0 : wr.cell? ⟨b, o + k * 3, none⟩ = some (.string n) := c0
      replace c1 : wr.cell? ⟨b, o + k * 3 + 1, none⟩ = some (.int .i64 t) := c1
      replace c2 : wr.cell? ⟨b, o + k * 3 + 2, none⟩ = some (.int .i64 c) := c2
      clear hr hba hbl
      cases hm : mayK ⟨n, t, c⟩
      · have HN := Lib.hid (show Q.all mayK = false by
          cases h2 : Q.all mayK
          · rfl
          · have := List.all_eq_true.1 h2 _ (List.mem_of_getElem? HR.out)
            rw [hm] at this; cases this)
        have HM := Lib.hid hm
        clear hm
        go_wp2_with fail
        refine (mayAsk_any n t c _ hsz).mono ?_; rintro e w3 ⟨rfl, hb⟩
        have HW3 := Lib.hid (HB.out.trans ((HW2.out.trans (hb.mono HW2.out.size)).mono HB.out.size))
        rw [HM.out]
        clear hb c0 c1 c2
        go_wp2
        go_ret
        exact ⟨ret_bool HN.out.symm, HW3.out⟩
      · have HM := Lib.hid hm
        have HA2 := Lib.hid (show ∀ j r, j < k + 1 → Q[j]? = some r → mayK r = true from fun j r hj h2 => by
          by_cases e : j = k
          · subst e; rw [HR.out] at h2; obtain rfl := Option.some.inj h2; exact hm
          · exact HA.out j r (by omega) h2)
        clear hm
        go_wp2_with fail
        refine (mayAsk_any n t c _ hsz).mono ?_; rintro e w3 ⟨rfl, hb⟩
        have HW3 := Lib.hid (HW2.out.trans (hb.mono HW2.out.size))
        rw [HM.out]
        clear hb c0 c1 c2
        go_wp2
        go_roundw
        case rel => exact ⟨k + 1, by omega, by go_num, HW3, HA2⟩
        case measure => simp [intOf]; omega
    · obtain rfl : k = ql := by omega
      have HN := Lib.hid (show Q.all mayK = true from List.all_eq_true.2 (fun r hr => by
        obtain ⟨j, hj, rfl⟩ := List.mem_iff_getElem.1 hr
        exact HA.out j _ (by have := HQL.out; omega) (List.getElem?_eq_getElem hj)))
      have HC2 := Lib.hid (HC.out.below HW.out)
      have HB2 := Lib.hid (HB.out.trans (HW.out.mono HB.out.size))
      clear hlt hk
      obtain ⟨y0, y1, y2, y3, y4, y5, y6, y7, y8, y9, y10, y11, -⟩ := HC2.out.u12
      go_wp2_with fail
      go_loopw [56] (fun i wx => i = .int .i64 0 ∧ wr = wx) (fun _ _ => 0)
      case atStart => exact ⟨rfl, rfl⟩
      case round =>
        obtain ⟨rfl, rfl⟩ := hrel
        go_wp2_with fail
        refine (mayAll0 _).mono ?_; rintro e w4 ⟨rfl, rfl⟩
        go_wp2_with fail
        refine (mayAll0 _).mono ?_; rintro e w4 ⟨rfl, rfl⟩
        go_wp2
        go_ret
        exact ⟨ret_bool HN.out.symm, HB2.out⟩
end Go.Proofs.Ytgppkpdjpcegbaa
