/- Contract of the document's MayData (chapter 3), over this seat's translation. -/
import Derived.Test.YtgdbbdbfaglkdaaRdK
namespace Go.Proofs.Ytgdbbdbfaglkdaa
open Go.RowKit

theorem texts_any (s : ByteArray) (w : World) (hs : s.size ≤ 1000000) : Calls Try.prog 76 #[.string s] w fun e w' => e = .returned (.bool (mayTx s)) ∧ w = w' := by
  go_enter Try.func76, Try.ntmps76
  go_wp2
  go_loop [3] (fun i => ∃ k : Nat, k ≤ 2000000 ∧ Hid (runT s s.size 0 = runT s s.size k) ∧ i = .int .i64 k) (fun i => s.size - (intOf i).toNat)
  case atStart => exact ⟨0, by omega, rfl, rfl⟩
  case round =>
    obtain ⟨k, hk, hr, rfl⟩ := hrel
    by_cases hlt : k < s.size
    · have hb := byte_get hlt
      have hb2 := byteAt_lt s k
      have HR := Lib.hid (hr.out.trans (runT_step s k hlt))
      go_wp2
      go_round
      case rel => exact ⟨k + 1 + byteAt s k, by omega, HR.out, by go_num⟩
      case measure => simp [intOf]; omega
    · have he := runT_done s s.size k (by omega)
      have h1 : mayTx s = (decide (0 < s.size) && decide (k = s.size)) := by
        unfold mayTx
        rw [hr.out, he, Bool.eq_iff_iff]
        simp
        omega
      have HM := Lib.hid h1
      clear he h1 hr
      by_cases e1 : 0 < s.size
      · have d1 := dT (p := (0 : Int) < (s.size : Int)) (by omega)
        go_wp2
        all_goals (go_ret; exact ⟨ret_bool (by rw [HM.out, Bool.eq_iff_iff]; simp; try omega), rfl⟩)
      · have d1 := dF (p := (0 : Int) < (s.size : Int)) (by omega)
        go_wp2
        all_goals (go_ret; exact ⟨ret_bool (by rw [HM.out, Bool.eq_iff_iff]; simp; try omega), rfl⟩)

set_option maxRecDepth 100000 in
set_option maxHeartbeats 1600000 in
theorem rmay_soa (s : ByteArray) (w : World) (h2 : s.size ≤ 1000) : Calls Try.prog 21 #[.int .i64 6, .string s] w fun e w' => e = .returned (.bool (soaOk s)) ∧ w = w' := by
  have d2 := dF (p := (1000 : Int) < (s.size : Int)) (by omega)
  rcases soa_ways s with ⟨k1, k2⟩ | ⟨A, k1, k2, k3, k4, k5⟩ | ⟨A, B, k1, k2, k3, k4, k5, k6, _, _, _⟩
  · have d3 := dT (p := endN s < 0) k1
    have e1 : endRun s 0 s.size 0 = endN s := rfl
    obtain ⟨E, hE⟩ : ∃ E, endN s = E := ⟨_, rfl⟩
    rw [hE] at e1 d3
    have E1 := Lib.hid e1
    rw [k2]
    clear k1 k2 hE e1
    go_enter Try.func21, Try.ntmps21
    go_wp2_with fail
    refine (rend_any s 0 _ (by omega) (by omega)).mono ?_; rintro e w' ⟨rfl, rfl⟩
    rw [E1.out]
    go_wp2
    go_ret
    exact ⟨rfl, rfl⟩
  · have E1 := Lib.hid (show endRun s 0 s.size 0 = (A : Int) from k1)
    have E2 := Lib.hid k4
    rw [k5]
    clear k1 k4 k5
    go_enter Try.func21, Try.ntmps21
    go_wp2_with fail
    refine (rend_any s 0 _ (by omega) (by omega)).mono ?_; rintro e w' ⟨rfl, rfl⟩
    rw [E1.out]
    go_wp2_with fail
    refine (rend_any s A _ (by omega) (by omega)).mono ?_; rintro e w' ⟨rfl, rfl⟩
    rw [E2.out]
    go_wp2
    go_ret
    exact ⟨rfl, rfl⟩
  · have E1 := Lib.hid (show endRun s 0 s.size 0 = (A : Int) from k1)
    have E2 := Lib.hid k5
    have d4 := dT (p := (0 : Int) < (B : Int)) (by omega)
    have z1 : (s.extract 0 A).size ≤ 1000000 := by rw [extract_size _ _ _ (by omega)]; omega
    have z2 : (s.extract A B).size ≤ 1000000 := by rw [extract_size _ _ _ (by omega)]; omega
    rw [k6]
    clear k1 k5 k6
    cases m1 : mayN (s.extract 0 A)
    · have M1 := Lib.hid m1
      clear m1
      go_enter Try.func21, Try.ntmps21
      go_wp2_with fail
      refine (rend_any s 0 _ (by omega) (by omega)).mono ?_; rintro e w' ⟨rfl, rfl⟩
      rw [E1.out]
      go_wp2_with fail
      refine (rend_any s A _ (by omega) (by omega)).mono ?_; rintro e w' ⟨rfl, rfl⟩
      rw [E2.out]
      go_wp2_with fail
      refine (rmay_any _ _ z1).mono ?_; rintro e w' ⟨rfl, rfl⟩
      rw [M1.out]
      go_wp2
      go_ret
      exact ⟨rfl, rfl⟩
    · have M1 := Lib.hid m1
      clear m1
      cases m2 : mayN (s.extract A B)
      · have M2 := Lib.hid m2
        clear m2
        go_enter Try.func21, Try.ntmps21
        go_wp2_with fail
        refine (rend_any s 0 _ (by omega) (by omega)).mono ?_; rintro e w' ⟨rfl, rfl⟩
        rw [E1.out]
        go_wp2_with fail
        refine (rend_any s A _ (by omega) (by omega)).mono ?_; rintro e w' ⟨rfl, rfl⟩
        rw [E2.out]
        go_wp2_with fail
        refine (rmay_any _ _ z1).mono ?_; rintro e w' ⟨rfl, rfl⟩
        rw [M1.out]
        go_wp2_with fail
        refine (rmay_any _ _ z2).mono ?_; rintro e w' ⟨rfl, rfl⟩
        rw [M2.out]
        go_wp2
        go_ret
        exact ⟨rfl, rfl⟩
      · have M2 := Lib.hid m2
        clear m2
        go_enter Try.func21, Try.ntmps21
        go_wp2_with fail
        refine (rend_any s 0 _ (by omega) (by omega)).mono ?_; rintro e w' ⟨rfl, rfl⟩
        rw [E1.out]
        go_wp2_with fail
        refine (rend_any s A _ (by omega) (by omega)).mono ?_; rintro e w' ⟨rfl, rfl⟩
        rw [E2.out]
        go_wp2_with fail
        refine (rmay_any _ _ z1).mono ?_; rintro e w' ⟨rfl, rfl⟩
        rw [M1.out]
        go_wp2_with fail
        refine (rmay_any _ _ z2).mono ?_; rintro e w' ⟨rfl, rfl⟩
        rw [M2.out]
        go_wp2
        go_ret
        exact ⟨ret_bool (by rw [Bool.eq_iff_iff]; simp; try omega), rfl⟩

set_option maxRecDepth 100000 in
set_option maxHeartbeats 1600000 in
theorem rmayD_any (k : Int) (s : ByteArray) (w : World) (hs : s.size ≤ 1000000) : Calls Try.prog 21 #[.int .i64 k, .string s] w fun e w' => e = .returned (.bool (mayD k s)) ∧ w = w' := by
  by_cases h : 0 ≤ k ∧ k ≤ 65535
  · by_cases h2 : s.size ≤ 1000
    · have d2 := dF (p := (1000 : Int) < (s.size : Int)) (by omega)
      have HE := Lib.hid (mayD_is h h2)
      have hc : k = 1 ∨ k = 28 ∨ k = 2 ∨ k = 5 ∨ k = 6 ∨ k = 15 ∨ k = 16 ∨ k = 63 ∨ (k ≠ 1 ∧ k ≠ 28 ∧ k ≠ 2 ∧ k ≠ 5 ∧ k ≠ 6 ∧ k ≠ 15 ∧ k ≠ 16 ∧ k ≠ 63) := by omega
      rcases hc with rfl | rfl | rfl | rfl | rfl | rfl | rfl | rfl | hc
      case inr.inr.inr.inr.inl =>
        exact (rmay_soa s w h2).mono fun e w' ⟨h1, h2⟩ => ⟨by rw [h1, HE.out]; rfl, h2⟩
      case inr.inr.inr.inr.inr.inl =>
        by_cases h3 : 2 < s.size
        · have d3 := dT (p := (2 : Int) < (s.size : Int)) (by omega)
          have HM := Lib.hid (show mayD 15 s = mayN (s.extract 2 s.size) by rw [HE.out]; show (decide (2 < s.size) && mayN (s.extract 2 s.size)) = _; rw [dT h3, Bool.true_and])
          have hz : (s.extract 2 s.size).size ≤ 1000000 := by rw [extract_size _ _ _ (Nat.le_refl _)]; omega
          go_enter Try.func21, Try.ntmps21
          go_wp2_with (first | (go_at_call 37; refine (rmay_any _ _ hz).mono ?_; rintro e w' ⟨rfl, rfl⟩))
          go_ret
          exact ⟨ret_bool HM.out.symm, rfl⟩
        · have d3 := dF (p := (2 : Int) < (s.size : Int)) (by omega)
          have HM := Lib.hid (show mayD 15 s = false by rw [HE.out]; show (decide (2 < s.size) && mayN (s.extract 2 s.size)) = _; rw [dF h3, Bool.false_and])
          go_enter Try.func21, Try.ntmps21
          go_wp2
          go_ret
          exact ⟨ret_bool HM.out.symm, rfl⟩
      case inr.inr.inr.inr.inr.inr.inr.inl =>
        by_cases h3 : s.size < 18
        · have d := dF (p := (18 : Int) ≤ (s.size : Int)) (by omega)
          have HM := Lib.hid (show mayD 63 s = false by rw [HE.out]; show mayMdN s = _; rw [mayMdN, dF (p := 18 ≤ s.size) (by omega)]; rfl)
          clear h h3
          go_enter Try.func21, Try.ntmps21
          go_wp2
          go_ret
          exact ⟨ret_bool HM.out.symm, rfl⟩
        · have d := dT (p := (18 : Int) ≤ (s.size : Int)) (by omega)
          have e : mayD 63 s = (byteAt s 4 != 1 || byteAt s 5 != 1 || decide (s.size = 54)) := by rw [HE.out]; show mayMdN s = _; rw [mayMdN, dT (p := 18 ≤ s.size) (by omega)]; rfl
          have i4 : 4 < s.size := by omega
          have i5 : 5 < s.size := by omega
          have b4 := byte_get i4
          have b5 := byte_get i5
          have l4 := byteAt_lt s 4
          have l5 := byteAt_lt s 5
          obtain ⟨x, hx⟩ : ∃ x, byteAt s 4 = x := ⟨_, rfl⟩
          obtain ⟨y, hy⟩ : ∃ y, byteAt s 5 = y := ⟨_, rfl⟩
          rw [hx] at b4 l4 e
          rw [hy] at b5 l5 e
          have HM := Lib.hid e
          clear e hx hy h h3
          go_enter Try.func21, Try.ntmps21
          go_wp2
          all_goals (go_ret; refine ⟨ret_bool ?_, rfl⟩; rw [HM.out, Bool.eq_iff_iff]; simp; try omega)
      case inr.inr.inr.inr.inr.inr.inr.inr =>
        obtain ⟨c1, c2, c3, c4, c5, c6, c7, c8⟩ := hc
        have HM := Lib.hid (show mayD k s = true by rw [HE.out]; unfold mayK; rw [if_neg c1, if_neg c2, if_neg (by omega), if_neg c5, if_neg c6, if_neg c7, if_neg c8])
        have e1 := eF c1
        have e2 := eF c2
        have e3 := eF c3
        have e4 := eF c4
        have e5 := eF c5
        have e6 := eF c6
        have e7 := eF c7
        have e8 := eF c8
        have d0 := dF (p := k < 0) (by omega)
        have d1 := dF (p := 65535 < k) (by omega)
        clear c1 c2 c3 c4 c5 c6 c7 c8 h
        go_enter Try.func21, Try.ntmps21
        go_wp2
        go_ret
        exact ⟨ret_bool HM.out.symm, rfl⟩
      all_goals
        go_enter Try.func21, Try.ntmps21
        go_wp2_with (first | (go_at_call 37; refine (rmay_any _ _ (by omega)).mono ?_; rintro e w' ⟨rfl, rfl⟩) | (go_at_call 76; refine (texts_any _ _ (by omega)).mono ?_; rintro e w' ⟨rfl, rfl⟩))
        go_ret
        exact ⟨ret_bool (by rw [HE.out]; rfl), rfl⟩
    · have d0 := dF (p := k < 0) (by omega)
      have d1 := dF (p := 65535 < k) (by omega)
      have d2 := dT (p := (1000 : Int) < (s.size : Int)) (by omega)
      have HM := Lib.hid (mayD_long (k := k) h2)
      clear h h2
      go_enter Try.func21, Try.ntmps21
      go_wp2
      go_ret
      exact ⟨ret_bool HM.out.symm, rfl⟩
  · have hd : decide (k < 0) = true ∨ decide (k < 0) = false ∧ decide (65535 < k) = true := by
      simp only [decide_eq_true_eq, decide_eq_false_iff_not]; omega
    have HM := Lib.hid (mayD_no (s := s) h)
    clear h
    rcases hd with d | ⟨d, d1⟩
    all_goals
      go_enter Try.func21, Try.ntmps21
      go_wp2
      go_ret
      exact ⟨ret_bool HM.out.symm, rfl⟩
end Go.Proofs.Ytgdbbdbfaglkdaa
