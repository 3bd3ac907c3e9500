/- SerialGoes: the walk. -/
import Derived.Test.YtcpihfkhhmggfaaSerL
namespace Go.Proofs.Ytcpihfkhhmggfaa
open Go.RowKit

theorem goes_facts (a n : Int) (ha : mayB a = true) (h0 : 0 ≤ n) (h1 : n < 2147483648) :
    ∃ x, addN a n = x ∧ addE a n = 0 ∧ mayB x = true ∧ newerB x a = decide (0 < n) ∧ newerB a x = false ∧ newerB a a = false ∧ x = (a + n) % 4294967296 := by
  have := may_of ha
  refine ⟨(a + n) % 4294967296, ?_⟩
  have hx : mayB ((a + n) % 4294967296) = true := by simp [mayB]; omega
  refine ⟨by simp [addN, ha, h0, h1], by simp [addE, ha, h0, h1], hx, ?_, ?_, newer_irr _, rfl⟩
  · rw [Bool.eq_iff_iff]; simp [newerB, ha, hx]; omega
  · simp [newerB, ha, hx]; omega

theorem goes_last (a n m : Int) (ha : mayB a = true) (h0 : 0 ≤ n) (h1 : n ≤ 1073741824) (h2 : 0 ≤ m) (h3 : m ≤ 536870912) (x y : Int) (hx : x = (a + n) % 4294967296) (hy : addN x m = y) (hmx : mayB x = true) :
    addN a (n + m) = y ∧ addE a (n + m) = 0 ∧ lastN [a, x, y] = y ∧ lastOk [a, x, y] = true := by
  have := may_of ha
  have hy' : y = (x + m) % 4294967296 := by rw [← hy]; simp [addN, hmx]; omega
  have hmy : mayB y = true := by rw [hy']; simp [mayB]; omega
  refine ⟨?_, ?_, ?_⟩
  · rw [hy', hx]; simp [addN, ha]; omega
  · simp [addE, ha]; omega
  · refine lastN_of ?_ (by simp) ?_
    · simp [ha, hmx, hmy]
    · rw [topB_of]
      simp only [List.mem_cons, List.not_mem_nil, or_false]
      rintro z (rfl | rfl | rfl)
      · by_cases e : n + m = 0
        · left; rw [hy', hx]; omega
        · right; simp [newerB, ha, hmy]; rw [hy', hx]; omega
      · by_cases e : m = 0
        · left; rw [hy']; have := may_of hmx; omega
        · right; simp [newerB, hmx, hmy]; rw [hy']; have := may_of hmx; omega
      · left; rfl

set_option maxRecDepth 100000 in
set_option maxHeartbeats 1000000 in
theorem walkGoesNo (a0 a1 a2 : Int) (w : World) (h : ¬ (mayB a0 = true ∧ 0 ≤ a1 ∧ a1 < 2147483648)) :
    Calls Try.prog 10 #[.int .i64 a0, .int .i64 a1, .int .i64 a2] w fun e w' => e = .returned (.bool true) ∧ w = w' := by
  have e0 : addN a0 a1 = 0 := by simp only [addN]; rw [if_neg h]
  have e1 : addE a0 a1 = 1 := by simp only [addE]; rw [if_neg h]
  have hw : decide (a0 < 0) = true ∨ (decide (a0 < 0) = false ∧ (decide (4294967296 ≤ a0) = true ∨ (decide (4294967296 ≤ a0) = false ∧ (decide (a1 < 0) = true ∨ (decide (a1 < 0) = false ∧ decide (2147483648 ≤ a1) = true))))) := by
    simp only [decide_eq_true_eq, decide_eq_false_iff_not, mayB] at *; omega
  clear h
  rcases hw with h1 | ⟨h1, h2 | ⟨h2, h3 | ⟨h3, h4⟩⟩⟩
  all_goals
    go_enter Try.func10, Try.ntmps10
    go_wp2_with (first | (go_at_call 27; refine (sfirst _).mono ?_; rintro e w' ⟨rfl, rfl⟩) | (go_at_call 28; refine (add_any _ _ _).mono ?_; rintro e w' ⟨rfl, rfl⟩))
    go_ret
    exact ⟨rfl, rfl⟩

set_option maxRecDepth 100000 in
set_option maxHeartbeats 1000000 in
theorem walkGoesYes (a0 a1 a2 : Int) (w : World) (ha : mayB a0 = true) (h0 : 0 ≤ a1) (h1 : a1 < 2147483648) :
    Calls Try.prog 10 #[.int .i64 a0, .int .i64 a1, .int .i64 a2] w fun e w' => e = .returned (.bool true) ∧ Grown w w' := by
  obtain ⟨x, e1, e2, hx, n1, n2, n3, hxe⟩ := goes_facts a0 a1 ha h0 h1
  have hw : (addE x a2 = 1) ∨ (addE x a2 = 0 ∧ 0 ≤ a2 ∧ a2 < 2147483648) := by
    simp only [addE]; split
    · rename_i h; exact Or.inr ⟨rfl, h.2.1, h.2.2⟩
    · exact Or.inl rfl
  obtain ⟨b, hb⟩ : ∃ b, decide (0 < a1) = b := ⟨_, rfl⟩
  rw [hb] at n1
  rcases hw with e3 | ⟨e3, m0, m1⟩
  · clear hxe hx ha h0 h1
    cases b
    all_goals
      go_enter Try.func10, Try.ntmps10
      go_wp2_with (first | (go_at_call 27; refine (sfirst _).mono ?_; rintro e w' ⟨rfl, rfl⟩) | (go_at_call 28; refine (add_any _ _ _).mono ?_; rintro e w' ⟨rfl, rfl⟩) | (go_at_call 32; refine (newer_any _ _ _).mono ?_; rintro e w' ⟨rfl, rfl⟩))
      go_ret
      exact ⟨rfl, Grown.refl _⟩
  · by_cases k1 : a1 ≤ 1073741824
    · have d1 := dF (p := 1073741824 < a1) (by omega)
      by_cases k2 : a2 ≤ 536870912
      · have d2 := dF (p := 536870912 < a2) (by omega)
        obtain ⟨y, hy⟩ : ∃ y, addN x a2 = y := ⟨_, rfl⟩
        obtain ⟨f1, f2, f3, f4⟩ := goes_last a0 a1 a2 ha h0 k1 m0 k2 x y hxe hy hx
        clear hxe hx ha
        cases b
        all_goals
          go_enter Try.func10, Try.ntmps10
          go_wp2_with (first | (go_at_call 27; refine (sfirst _).mono ?_; rintro e w' ⟨rfl, rfl⟩) | (go_at_call 28; refine (add_any _ _ _).mono ?_; rintro e w' ⟨rfl, rfl⟩) | (go_at_call 32; refine (newer_any _ _ _).mono ?_; rintro e w' ⟨rfl, rfl⟩))
          refine (last_some _ 0 3 3 [a0, x, y] _ rfl (by omega) (by omega) ?_).mono ?_
          · intro j hj
            rcases (by omega : j = 0 ∨ j = 1 ∨ j = 2) with rfl | rfl | rfl <;> simp [World.cell?_alloc_at]
          · rintro e w' ⟨rfl, rfl⟩
            go_wp2_with (first | (go_at_call 27; refine (sfirst _).mono ?_; rintro e w' ⟨rfl, rfl⟩))
            go_ret
            exact ⟨rfl, by go_grown⟩
      · have d2 := dT (p := 536870912 < a2) (by omega)
        clear hxe hx ha
        cases b
        all_goals
          go_enter Try.func10, Try.ntmps10
          go_wp2_with (first | (go_at_call 27; refine (sfirst _).mono ?_; rintro e w' ⟨rfl, rfl⟩) | (go_at_call 28; refine (add_any _ _ _).mono ?_; rintro e w' ⟨rfl, rfl⟩) | (go_at_call 32; refine (newer_any _ _ _).mono ?_; rintro e w' ⟨rfl, rfl⟩))
          go_ret
          exact ⟨rfl, Grown.refl _⟩
    · have d1 := dT (p := 1073741824 < a1) (by omega)
      clear hxe hx ha
      cases b
      all_goals
        go_enter Try.func10, Try.ntmps10
        go_wp2_with (first | (go_at_call 27; refine (sfirst _).mono ?_; rintro e w' ⟨rfl, rfl⟩) | (go_at_call 28; refine (add_any _ _ _).mono ?_; rintro e w' ⟨rfl, rfl⟩) | (go_at_call 32; refine (newer_any _ _ _).mono ?_; rintro e w' ⟨rfl, rfl⟩))
        go_ret
        exact ⟨rfl, Grown.refl _⟩
end Go.Proofs.Ytcpihfkhhmggfaa
