/- Contracts of rdata.May, Target, Names of any type (chapter 3), over this seat's translation. -/
import Derived.Test.YtgdbbdbfaglkdaaRdG
import Derived.Test.YtgdbbdbfaglkdaaRdA
namespace Go.Proofs.Ytgdbbdbfaglkdaa
open Go.RowKit

def mayK (k : Int) (s : ByteArray) : Bool :=
  if k = 1 then (s.size : Int) == 4 else if k = 28 then (s.size : Int) == 16 else if k = 2 ∨ k = 5 then mayN s else if k = 6 then soaOk s else if k = 15 then decide (2 < s.size) && mayN (s.extract 2 s.size) else if k = 16 then mayTx s else if k = 63 then mayMdN s else true
def mayD (k : Int) (s : ByteArray) : Bool := decide (0 ≤ k ∧ k ≤ 65535) && decide (s.size ≤ 1000) && mayK k s

theorem mayD_no {k : Int} {s : ByteArray} (h : ¬ (0 ≤ k ∧ k ≤ 65535)) : mayD k s = false := by rw [mayD, dF h]; rfl
theorem mayD_long {k : Int} {s : ByteArray} (h : ¬ s.size ≤ 1000) : mayD k s = false := by rw [mayD, dF h, Bool.and_false, Bool.false_and]
theorem mayD_is {k : Int} {s : ByteArray} (h : 0 ≤ k ∧ k ≤ 65535) (h2 : s.size ≤ 1000) : mayD k s = mayK k s := by rw [mayD, dT h, dT h2]; rfl

set_option maxRecDepth 100000 in
set_option maxHeartbeats 1600000 in
theorem may_any (k : Int) (s : ByteArray) (w : World) (hs : s.size ≤ 1000000) : Calls Try.prog 20 #[.int .i64 k, .string s] w fun e w' => e = .returned (.bool (mayD k s)) ∧ Below w.heap.size w w' := by
  by_cases h : 0 ≤ k ∧ k ≤ 65535
  · have d := dT h
    by_cases h2 : s.size ≤ 1000
    · have d2 := dF (p := (1000 : Int) < (s.size : Int)) (by omega)
      have HE := Lib.hid (mayD_is h h2)
      have hc : k = 1 ∨ k = 28 ∨ k = 2 ∨ k = 5 ∨ k = 6 ∨ k = 15 ∨ k = 16 ∨ k = 63 ∨ (k ≠ 1 ∧ k ≠ 28 ∧ k ≠ 2 ∧ k ≠ 5 ∧ k ≠ 6 ∧ k ≠ 15 ∧ k ≠ 16 ∧ k ≠ 63) := by omega
      rcases hc with rfl | rfl | rfl | rfl | rfl | rfl | rfl | rfl | hc
      case inl =>
        exact (may_a s w h2).mono fun e w' ⟨h1, h2⟩ => ⟨by rw [h1, HE.out]; rfl, h2 ▸ Below.refl _ _⟩
      case inr.inl =>
        exact (may_aaaa s w h2).mono fun e w' ⟨h1, h2⟩ => ⟨by rw [h1, HE.out]; rfl, h2 ▸ Below.refl _ _⟩
      case inr.inr.inl =>
        go_enter Try.func20, Try.ntmps20
        go_wp2_with (first | (go_at_call 72; refine (has16_any _ _).mono ?_; rintro e w' ⟨rfl, rfl⟩) | (go_at_call 73; refine (nmay_any _ _ (by omega)).mono ?_; rintro e w' ⟨rfl, rfl⟩))
        go_ret
        exact ⟨ret_bool (by rw [HE.out]; rfl), Below.refl _ _⟩
      case inr.inr.inr.inl =>
        go_enter Try.func20, Try.ntmps20
        go_wp2_with (first | (go_at_call 72; refine (has16_any _ _).mono ?_; rintro e w' ⟨rfl, rfl⟩) | (go_at_call 73; refine (nmay_any _ _ (by omega)).mono ?_; rintro e w' ⟨rfl, rfl⟩))
        go_ret
        exact ⟨ret_bool (by rw [HE.out]; rfl), Below.refl _ _⟩
      case inr.inr.inr.inr.inl =>
        obtain ⟨b, hb⟩ : ∃ b, soaOk s = b := ⟨_, rfl⟩
        have HM := Lib.hid (show mayD 6 s = b by rw [HE.out]; exact hb)
        have HV : Hid (∃ x0 x1 x2 x3 x4 x5 x6, getSoaV s = .tuple #[.agg #[.string x0, .string x1, .int .i64 x2, .int .i64 x3, .int .i64 x4, .int .i64 x5, .int .i64 x6], .bool b]) := Lib.hid (by
          cases b
          · exact ⟨_, _, _, _, _, _, _, by rw [getSoaV, hb]; rfl⟩
          · exact ⟨_, _, _, _, _, _, _, by rw [getSoaV, hb]; rfl⟩)
        clear hb
        go_enter Try.func20, Try.ntmps20
        go_wp2_with (first | (go_at_call 72; refine (has16_any _ _).mono ?_; rintro e w' ⟨rfl, rfl⟩))
        refine (getSoa_any _ _ (by omega)).mono ?_; rintro e w1 ⟨rfl, hb⟩
        have HB := Lib.hid hb; clear hb
        obtain ⟨x0, x1, x2, x3, x4, x5, x6, hv⟩ := HV.out
        rw [hv]
        clear hv
        go_wp2
        go_ret
        exact ⟨ret_bool HM.out.symm, HB.out.alloc HB.out.size _⟩
      case inr.inr.inr.inr.inr.inl =>
        by_cases h3 : 2 < s.size
        · have d3 := dT (p := (2 : Int) < (s.size : Int)) (by omega)
          have HM := Lib.hid (show mayD 15 s = mayN (s.extract 2 s.size) by rw [HE.out]; show (decide (2 < s.size) && mayN (s.extract 2 s.size)) = _; rw [dT h3, Bool.true_and])
          have hz : (s.extract 2 s.size).size ≤ 1000000 := by rw [extract_size _ _ _ (Nat.le_refl _)]; omega
          go_enter Try.func20, Try.ntmps20
          go_wp2_with (first | (go_at_call 72; refine (has16_any _ _).mono ?_; rintro e w' ⟨rfl, rfl⟩) | (go_at_call 73; refine (nmay_any _ _ hz).mono ?_; rintro e w' ⟨rfl, rfl⟩))
          go_ret
          exact ⟨ret_bool HM.out.symm, Below.refl _ _⟩
        · have d3 := dF (p := (2 : Int) < (s.size : Int)) (by omega)
          have HM := Lib.hid (show mayD 15 s = false by rw [HE.out]; show (decide (2 < s.size) && mayN (s.extract 2 s.size)) = _; rw [dF h3, Bool.false_and])
          go_enter Try.func20, Try.ntmps20
          go_wp2_with (first | (go_at_call 72; refine (has16_any _ _).mono ?_; rintro e w' ⟨rfl, rfl⟩))
          go_ret
          exact ⟨ret_bool HM.out.symm, Below.refl _ _⟩
      case inr.inr.inr.inr.inr.inr.inl =>
        exact (may_txt s w h2).mono fun e w' ⟨h1, h2⟩ => ⟨by rw [h1, HE.out]; rfl, h2 ▸ Below.refl _ _⟩
      case inr.inr.inr.inr.inr.inr.inr.inl =>
        go_enter Try.func20, Try.ntmps20
        go_wp2_with (first | (go_at_call 72; refine (has16_any _ _).mono ?_; rintro e w' ⟨rfl, rfl⟩) | (go_at_call 75; refine (mayMd_any _ _ (by omega)).mono ?_; rintro e w' ⟨rfl, rfl⟩))
        go_ret
        exact ⟨ret_bool (by rw [HE.out]; rfl), Below.refl _ _⟩
      case inr.inr.inr.inr.inr.inr.inr.inr =>
        obtain ⟨c1, c2, c3, c4, c5, c6, c7, c8⟩ := hc
        have HM := Lib.hid (show mayD k s = true by rw [HE.out]; unfold mayK; rw [if_neg c1, if_neg c2, if_neg (by omega), if_neg c5, if_neg c6, if_neg c7, if_neg c8])
        have e1 := eF c1
        have e2 := eF c2
        have e3 := eF c3
        have e4 := eF c4
        have e5 := eF c5
        have e6 := eF c6
        have e7 := eF c7
        have e8 := eF c8
        clear c1 c2 c3 c4 c5 c6 c7 c8 h
        go_enter Try.func20, Try.ntmps20
        go_wp2_with (first | (go_at_call 72; refine (has16_any _ _).mono ?_; rintro e w' ⟨rfl, rfl⟩))
        go_ret
        exact ⟨ret_bool HM.out.symm, Below.refl _ _⟩
    · rw [mayD_long h2]
      exact (may_long k s w hs (by omega) h).mono fun e w' ⟨h1, h2⟩ => ⟨h1, h2 ▸ Below.refl _ _⟩
  · have d := dF h
    have HM := Lib.hid (mayD_no (s := s) h)
    clear h
    go_enter Try.func20, Try.ntmps20
    go_wp2_with (first | (go_at_call 72; refine (has16_any _ _).mono ?_; rintro e w' ⟨rfl, rfl⟩))
    go_ret
    exact ⟨ret_bool HM.out.symm, Below.refl _ _⟩
end Go.Proofs.Ytgdbbdbfaglkdaa
