/- Contracts of the document's GetSoa, GetMd, Names, Target (chapter 3), over this seat's translation. -/
import Derived.Test.YtgdbbdbfaglkdaaRdR
import Derived.Deep.RegionWith
namespace Go.Proofs.Ytgdbbdbfaglkdaa
open Go.RowKit

theorem getN_tail (s : ByteArray) (B : Nat) (hB : B ≤ s.size) (k : Nat) : getN s ((B : Int) + (k : Int)) 4 = getN (s.extract B s.size) (k : Int) 4 := by
  have hz := extract_size s B s.size (Nat.le_refl _)
  by_cases h : B + k + 4 ≤ s.size
  · rw [getN, getN, if_pos (by omega), if_pos (by omega)]
    have e : ((B : Int) + (k : Int)).toNat = B + k := by omega
    rw [e, Int.toNat_natCast]
    refine getTo_congr 4 ?_
    intro j hj
    rw [byteAt_extract _ _ _ _ (Nat.le_refl _) (by omega), Nat.add_assoc]
  · rw [getN, getN, if_neg (by omega), if_neg (by omega)]

set_option maxRecDepth 100000 in
set_option maxHeartbeats 1600000 in
theorem rgetSoa_any (s : ByteArray) (w : World) (hs : s.size ≤ 1000000) : Calls Try.prog 15 #[.string s] w fun e w' => e = .returned (getSoaV s) ∧ Below w.heap.size w w' := by
  have hD := mayD_6 s
  cases hb : soaOk s
  · have HV := Lib.hid (show getSoaV s = .tuple #[.agg #[.string ⟨#[]⟩, .string ⟨#[]⟩, .int .i64 0, .int .i64 0, .int .i64 0, .int .i64 0, .int .i64 0], .bool false] by rw [getSoaV, hb]; rfl)
    rw [hb] at hD
    have HD := Lib.hid hD
    clear hD hb
    go_enter Try.func15, Try.ntmps15
    go_wp2_with fail
    refine (rmayD_any _ _ _ hs).mono ?_; rintro e w' ⟨rfl, rfl⟩
    rw [HD.out]
    go_wp2
    refine bodyPost_ret (v := .tuple #[.agg #[.string ⟨#[]⟩, .string ⟨#[]⟩, .int .i64 0, .int .i64 0, .int .i64 0, .int .i64 0, .int .i64 0], .bool false]) (by simp [results, Try.results15, go_sem]) rfl ⟨by rw [HV.out], ?_⟩
    exact (Below.refl _ _).alloc (Nat.le_refl _) _
  · obtain ⟨A, B, k1, k2, k3, k4, k5, k6, k7, k8, k9⟩ : ∃ A B : Nat, endN s = A ∧ 1 ≤ A ∧ A < B ∧ B ≤ s.size ∧ endRun s A s.size A = B ∧ soaOk s = (mayN (s.extract 0 A) && mayN (s.extract A B) && decide (s.size = B + 20)) ∧ head1 s = s.extract 0 A ∧ head1 (rest1 s) = s.extract A B ∧ rest1 (rest1 s) = s.extract B s.size := by
      rcases soa_ways s with ⟨_, k2⟩ | ⟨_, _, _, _, _, k5⟩ | h
      · rw [hb] at k2; cases k2
      · rw [hb] at k5; cases k5
      · exact h
    have hT : soaT s = s.extract B s.size := k9
    have g0 := getN_tail s B k4 0
    have g1 := getN_tail s B k4 4
    have g2 := getN_tail s B k4 8
    have g3 := getN_tail s B k4 12
    have g4 := getN_tail s B k4 16
    rw [← hT] at g0 g1 g2 g3 g4
    have hv : getSoaV s = .tuple #[.agg #[.string (s.extract 0 A), .string (s.extract A B), .int .i64 (getN s ((B : Int) + ((0 : Nat) : Int)) 4), .int .i64 (getN s ((B : Int) + ((4 : Nat) : Int)) 4), .int .i64 (getN s ((B : Int) + ((8 : Nat) : Int)) 4), .int .i64 (getN s ((B : Int) + ((12 : Nat) : Int)) 4), .int .i64 (getN s ((B : Int) + ((16 : Nat) : Int)) 4)], .bool true] := by
      rw [getSoaV, hb, g0, g1, g2, g3, g4, ← k7, ← k8]; rfl
    rw [hb] at hD
    have HD := Lib.hid hD
    have hv2 : getSoaV s = .tuple #[.agg #[.string (s.extract 0 A), .string (s.extract A B), .int .i64 (getN s (B : Int) 4), .int .i64 (getN s ((B : Int) + 4) 4), .int .i64 (getN s ((B : Int) + 8) 4), .int .i64 (getN s ((B : Int) + 12) 4), .int .i64 (getN s ((B : Int) + 16) 4)], .bool true] := by
      rw [hv, Int.natCast_zero, Int.add_zero]; rfl
    have HV := Lib.hid hv2
    have E1 := Lib.hid (show endRun s 0 s.size 0 = (A : Int) from k1)
    have E2 := Lib.hid k5
    have hz9 := mayD_6 s
    have hsz : s.size ≤ 530 := soaOk_size hb
    clear hD k1 k5 k6 k7 k8 k9 hb g0 g1 g2 g3 g4 hT hv hv2 hz9
    go_enter Try.func15, Try.ntmps15
    go_wp2_with fail
    refine (rmayD_any _ _ _ hs).mono ?_; rintro e w' ⟨rfl, rfl⟩
    rw [HD.out]
    go_wp2_with fail
    refine (rend_any s 0 _ (by omega) (by omega)).mono ?_; rintro e w' ⟨rfl, rfl⟩
    rw [E1.out]
    go_wp2_with fail
    refine (rend_any s A _ (by omega) (by omega)).mono ?_; rintro e w' ⟨rfl, rfl⟩
    rw [E2.out]
    go_wp2_with fail
    go_region
    go_wp2_with (first | (go_at_call 71; refine (rget_any s _ _ _ (by omega)).mono ?_; rintro e w' ⟨rfl, rfl⟩))
    refine bodyPost_ret (v := .tuple #[.agg #[.string (s.extract 0 A), .string (s.extract A B), .int .i64 (getN s (B : Int) 4), .int .i64 (getN s ((B : Int) + 4) 4), .int .i64 (getN s ((B : Int) + 8) 4), .int .i64 (getN s ((B : Int) + 12) 4), .int .i64 (getN s ((B : Int) + 16) 4)], .bool true]) (by simp [results, Try.results15, go_sem]) rfl ⟨by rw [HV.out], ?_⟩
    have hx := (Below.refl w.heap.size w).alloc (Nat.le_refl _) (.cells #[.string (s.extract 0 A), .string (s.extract A B), .int .i64 (getN s (B : Int) 4), .int .i64 (getN s ((B : Int) + 4) 4), .int .i64 (getN s ((B : Int) + 8) 4), .int .i64 (getN s ((B : Int) + 12) 4), .int .i64 (getN s ((B : Int) + 16) 4)] 29)
    exact (hx.alloc hx.size _).drew

set_option maxRecDepth 100000 in
set_option maxHeartbeats 1600000 in
theorem rgetMd_any (s : ByteArray) (w : World) (hs : s.size ≤ 1000000) : Calls Try.prog 17 #[.string s] w fun e w' => e = .returned (getMdV s) ∧ Below w.heap.size w w' := by
  cases hm : mayD 63 s
  · have HV := Lib.hid (show getMdV s = .tuple #[.agg #[.int .i64 0, .int .i64 0, .int .i64 0, .string ⟨#[]⟩], .bool false] by rw [getMdV, hm]; rfl)
    have HM := Lib.hid hm
    clear hm
    go_enter Try.func17, Try.ntmps17
    go_wp2_with fail
    refine (rmayD_any _ _ _ hs).mono ?_; rintro e w1 ⟨rfl, rfl⟩
    rw [HM.out]
    go_wp2
    refine bodyPost_ret (v := .tuple #[.agg #[.int .i64 0, .int .i64 0, .int .i64 0, .string ⟨#[]⟩], .bool false]) (by simp [results, Try.results17, go_sem]) rfl ⟨by rw [HV.out], ?_⟩
    exact (Below.refl _ _).alloc (Nat.le_refl _) _
  · have HV := Lib.hid (show getMdV s = .tuple #[.agg #[.int .i64 (getN s 0 4), .int .i64 (byteAt s 4 : Int), .int .i64 (byteAt s 5 : Int), .string (s.extract 6 s.size)], .bool true] by rw [getMdV, hm]; rfl)
    have HM := Lib.hid hm
    have hz := mayD_63 hm
    have i4 : 4 < s.size := by omega
    have i5 : 5 < s.size := by omega
    have b4 := byte_get i4
    have b5 := byte_get i5
    have l4 := byteAt_lt s 4
    have l5 := byteAt_lt s 5
    obtain ⟨x, hx⟩ : ∃ x, byteAt s 4 = x := ⟨_, rfl⟩
    obtain ⟨y, hy⟩ : ∃ y, byteAt s 5 = y := ⟨_, rfl⟩
    rw [hx] at b4 l4 HV
    rw [hy] at b5 l5 HV
    clear hm hx hy
    go_enter Try.func17, Try.ntmps17
    go_wp2_with fail
    refine (rmayD_any _ _ _ hs).mono ?_; rintro e w1 ⟨rfl, rfl⟩
    rw [HM.out]
    go_wp2_with fail
    go_region
    go_wp2_with (first | (go_at_call 71; refine (rget_any s _ _ _ (by omega)).mono ?_; rintro e w' ⟨rfl, rfl⟩))
    refine bodyPost_ret (v := .tuple #[.agg #[.int .i64 (getN s 0 4), .int .i64 (x : Int), .int .i64 (y : Int), .string (s.extract 6 s.size)], .bool true]) (by simp [results, Try.results17, go_sem]) rfl ⟨by rw [HV.out], ?_⟩
    have hx := (Below.refl w.heap.size w).alloc (Nat.le_refl _) (.cells #[.int .i64 (getN s 0 4), .int .i64 (x : Int), .int .i64 (y : Int), .string (s.extract 6 s.size)] 36)
    exact (hx.alloc hx.size _).drew

set_option maxRecDepth 100000 in
set_option maxHeartbeats 1600000 in
theorem rnames_any (k : Int) (s : ByteArray) (w : World) (hs : s.size ≤ 1000000) : Calls Try.prog 26 #[.int .i64 k, .string s] w fun e w' => ∃ a, e = .returned (.slice a (nmL k s).length (nmL k s).length) ∧ RowS w' a (nmL k s).length (nmL k s) ∧ Below w.heap.size w w' := by
  cases hm : mayD k s
  · have hN : nmL k s = [] := by
      by_cases h6 : k = 6
      · subst h6
        rw [mayD_6] at hm
        rw [nmL, hm]; rfl
      · rw [nmL, if_neg h6, tgB, hm]; rfl
    rw [hN]
    have HM := Lib.hid hm
    clear hm hN
    go_enter Try.func26, Try.ntmps26
    go_wp2_with fail
    refine (rmayD_any _ _ _ hs).mono ?_; rintro e w1 ⟨rfl, rfl⟩
    rw [HM.out]
    go_wp2
    go_ret
    exact ⟨_, rfl, ⟨rfl, Or.inl rfl⟩, Below.refl _ _⟩
  · have HM := Lib.hid hm
    have hc : k = 2 ∨ k = 5 ∨ k = 15 ∨ k = 6 ∨ (k ≠ 2 ∧ k ≠ 5 ∧ k ≠ 15 ∧ k ≠ 6) := by omega
    rcases hc with rfl | rfl | rfl | rfl | ⟨c1, c2, c3, c4⟩
    · have hN : nmL 2 s = [s] := by
        have h1 : tgB 2 s = true := by rw [tgB, hm]; rfl
        rw [nmL, if_neg (by omega), if_pos h1, tgS, if_pos h1]; rfl
      rw [hN]
      clear hm hN
      go_enter Try.func26, Try.ntmps26
      go_wp2_with fail
      refine (rmayD_any _ _ _ hs).mono ?_; rintro e w1 ⟨rfl, rfl⟩
      rw [HM.out]
      go_wp2
      go_ret
      exact ⟨_, rfl, rowS_1 _ _ _, (Below.refl _ _).alloc (Nat.le_refl _) _⟩
    · have hN : nmL 5 s = [s] := by
        have h1 : tgB 5 s = true := by rw [tgB, hm]; rfl
        rw [nmL, if_neg (by omega), if_pos h1, tgS, if_pos h1]; rfl
      rw [hN]
      clear hm hN
      go_enter Try.func26, Try.ntmps26
      go_wp2_with fail
      refine (rmayD_any _ _ _ hs).mono ?_; rintro e w1 ⟨rfl, rfl⟩
      rw [HM.out]
      go_wp2
      go_ret
      exact ⟨_, rfl, rowS_1 _ _ _, (Below.refl _ _).alloc (Nat.le_refl _) _⟩
    · have hN : nmL 15 s = [s.extract 2 s.size] := by
        have h1 : tgB 15 s = true := by rw [tgB, hm]; rfl
        rw [nmL, if_neg (by omega), if_pos h1, tgS, if_pos h1]; rfl
      have h3 := (mayD_15 hm).1
      rw [hN]
      clear hm hN
      go_enter Try.func26, Try.ntmps26
      go_wp2_with fail
      refine (rmayD_any _ _ _ hs).mono ?_; rintro e w1 ⟨rfl, rfl⟩
      rw [HM.out]
      go_wp2
      go_ret
      exact ⟨_, rfl, rowS_1 _ _ _, (Below.refl _ _).alloc (Nat.le_refl _) _⟩
    · have hb : soaOk s = true := by rw [← mayD_6]; exact hm
      obtain ⟨A, B, k1, k2, k3, k4, k5, k7, k8⟩ : ∃ A B : Nat, endN s = A ∧ 1 ≤ A ∧ A < B ∧ B ≤ s.size ∧ endRun s A s.size A = B ∧ head1 s = s.extract 0 A ∧ head1 (rest1 s) = s.extract A B := by
        rcases soa_ways s with ⟨_, k2⟩ | ⟨_, _, _, _, _, k5⟩ | ⟨A, B, k1, k2, k3, k4, k5, k6, k7, k8, k9⟩
        · rw [hb] at k2; cases k2
        · rw [hb] at k5; cases k5
        · exact ⟨A, B, k1, k2, k3, k4, k5, k7, k8⟩
      have hN : nmL 6 s = [s.extract 0 A, s.extract A B] := by
        rw [nmL, if_pos rfl, if_pos hb, ← k7, ← k8]; rfl
      have E1 := Lib.hid (show endRun s 0 s.size 0 = (A : Int) from k1)
      have E2 := Lib.hid k5
      rw [hN]
      clear hm hN k1 k5 k7 k8 hb
      go_enter Try.func26, Try.ntmps26
      go_wp2_with fail
      refine (rmayD_any _ _ _ hs).mono ?_; rintro e w1 ⟨rfl, rfl⟩
      rw [HM.out]
      go_wp2_with fail
      refine (rend_any s 0 _ (by omega) (by omega)).mono ?_; rintro e w' ⟨rfl, rfl⟩
      rw [E1.out]
      go_wp2_with fail
      go_region_with (go_at_call 70; refine (rend_any s A _ (by omega) (by omega)).mono ?_; rintro e w' ⟨rfl, rfl⟩; rw [E2.out])
      all_goals
        go_wp2
        go_ret
        exact ⟨_, rfl, rowS_2 _ _ _ _ _ (by simp), by first | exact ((Below.refl _ _).alloc (Nat.le_refl _) _).drew | exact (Below.refl _ _).drew.alloc (Nat.le_refl _) _⟩
    · have hN : nmL k s = [] := by
        rw [nmL, if_neg c4, tgB, dF (p := k = 2 ∨ k = 5 ∨ k = 15) (by omega), Bool.and_false]; rfl
      have e1 := eF c1
      have e2 := eF c2
      have e3 := eF c3
      have e4 := eF c4
      rw [hN]
      clear hm hN c1 c2 c3 c4
      go_enter Try.func26, Try.ntmps26
      go_wp2_with fail
      refine (rmayD_any _ _ _ hs).mono ?_; rintro e w1 ⟨rfl, rfl⟩
      rw [HM.out]
      go_wp2
      go_ret
      exact ⟨_, rfl, ⟨rfl, Or.inl rfl⟩, Below.refl _ _⟩
end Go.Proofs.Ytgdbbdbfaglkdaa
