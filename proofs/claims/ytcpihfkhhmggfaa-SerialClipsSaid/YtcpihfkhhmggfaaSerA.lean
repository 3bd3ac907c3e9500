/- Claims of layer 12: SerialClips, SerialFresh, SerialGoes: the walks. -/
import Derived.Test.YtcpihfkhhmggfaaSer
namespace Go.Proofs.Ytcpihfkhhmggfaa
open Go.RowKit

theorem clip_lo (n l m : Int) (h : l ≤ m) : l ≤ clipI n l m ∧ clipI n l m ≤ m ∧ (l ≤ n → n ≤ m → clipI n l m = n) ∧ clipI (clipI n l m) l m = clipI n l m := by
  simp only [clipI]
  repeat' split
  all_goals omega

theorem adds (a : Int) (h0 : 0 ≤ a) (h1 : a < 4294967296) :
    ∃ x y : Int, 0 ≤ x ∧ x < 4294967296 ∧ 0 ≤ y ∧ y < 4294967296 ∧ addN a 2147483647 = x ∧ addE a 2147483647 = 0 ∧ addN x 2147483647 = y ∧ addE x 2147483647 = 0 ∧ addN y 2 = a ∧ addE y 2 = 0 ∧
      newerB x a = true ∧ newerB y x = true ∧ newerB y a = false ∧ newerB a y = true ∧ (a == y) = false := by
  refine ⟨(a + 2147483647) % 4294967296, ((a + 2147483647) % 4294967296 + 2147483647) % 4294967296, ?_⟩
  simp [addN, addE, newerB, mayB]
  omega

theorem clip_ways (n l m : Int) :
    (l ≤ m ∧ l ≤ clipI n l m ∧ clipI n l m ≤ m ∧ l ≤ n ∧ n ≤ m ∧ clipI n l m ≤ n ∧ n ≤ clipI n l m ∧ clipI (clipI n l m) l m ≤ clipI n l m ∧ clipI n l m ≤ clipI (clipI n l m) l m) ∨
    (l ≤ m ∧ l ≤ clipI n l m ∧ clipI n l m ≤ m ∧ n < l ∧ clipI (clipI n l m) l m ≤ clipI n l m ∧ clipI n l m ≤ clipI (clipI n l m) l m) ∨
    (l ≤ m ∧ l ≤ clipI n l m ∧ clipI n l m ≤ m ∧ l ≤ n ∧ m < n ∧ clipI (clipI n l m) l m ≤ clipI n l m ∧ clipI n l m ≤ clipI (clipI n l m) l m) ∨
    (m < l ∧ clipI (clipI n l m) l m ≤ clipI n l m ∧ clipI n l m ≤ clipI (clipI n l m) l m) := by
  by_cases h : l ≤ m
  · have := clip_lo n l m h
    omega
  · have h1 : clipI n l m = m := by simp only [clipI]; repeat' split
                                    all_goals omega
    have h2 : clipI m l m = m := by simp only [clipI]; repeat' split
                                    all_goals omega
    rw [h1, h2]
    omega


theorem clip_tests (n l m : Int) : decide (l ≤ m) = false ∧ (clipI (clipI n l m) l m != clipI n l m) = false ∨
    decide (l ≤ m) = true ∧ decide (clipI n l m < l) = false ∧ decide (m < clipI n l m) = false ∧ (clipI (clipI n l m) l m != clipI n l m) = false ∧
      (decide (l ≤ n) = false ∨ decide (l ≤ n) = true ∧ decide (n ≤ m) = false ∨ decide (l ≤ n) = true ∧ decide (n ≤ m) = true ∧ (clipI n l m != n) = false) := by
  have h := clip_ways n l m
  simp only [decide_eq_true_eq, decide_eq_false_iff_not, bne_eq_false_iff_eq]
  omega

set_option maxRecDepth 100000 in
set_option maxHeartbeats 1000000 in
theorem walkClipsIn (a0 a1 a2 a3 : Int) (w : World) (h3 : 0 ≤ a3) (h4 : a3 < 4294967296) :
    Calls Try.prog 13 #[.int .i64 a0, .int .i64 a1, .int .i64 a2, .int .i64 a3] w fun e w' => e = .returned (.bool true) ∧ w = w' := by
  have t3 := dF (p := a3 < 0) (by omega)
  have t4 := dF (p := 4294967296 ≤ a3) (by omega)
  obtain ⟨x, y, x0, x1, y0, y1, e1, e2, e3, e4, e5, e6, e7, e8, e9, e10, e11⟩ := adds a3 h3 h4
  clear x0 x1 y0 y1 h3 h4
  rcases clip_tests a0 a1 a2 with ⟨c0, c1⟩ | ⟨c0, c1, c2, c3, c4 | ⟨c4, c5⟩ | ⟨c4, c5, c6⟩⟩
  all_goals
    go_enter Try.func13, Try.ntmps13
    go_wp2_with (first | (go_at_call 27; refine (sfirst _).mono ?_; rintro e w' ⟨rfl, rfl⟩) | (go_at_call 34; refine (clip_any _ _ _ _).mono ?_; rintro e w' ⟨rfl, rfl⟩) | (go_at_call 32; refine (newer_any _ _ _).mono ?_; rintro e w' ⟨rfl, rfl⟩) | (go_at_call 28; refine (add_any _ _ _).mono ?_; rintro e w' ⟨rfl, rfl⟩))
    go_ret
    exact ⟨rfl, rfl⟩

set_option maxRecDepth 100000 in
set_option maxHeartbeats 1000000 in
theorem walkClipsOut (a0 a1 a2 a3 : Int) (w : World) (h : ¬ (0 ≤ a3 ∧ a3 < 4294967296)) :
    Calls Try.prog 13 #[.int .i64 a0, .int .i64 a1, .int .i64 a2, .int .i64 a3] w fun e w' => e = .returned (.bool true) ∧ w = w' := by
  have ht : decide (a3 < 0) = true ∨ decide (a3 < 0) = false ∧ decide (4294967296 ≤ a3) = true := by
    simp only [decide_eq_true_eq, decide_eq_false_iff_not]; omega
  clear h
  rcases ht with t3 | ⟨t3, t4⟩
  all_goals
    rcases clip_tests a0 a1 a2 with ⟨c0, c1⟩ | ⟨c0, c1, c2, c3, c4 | ⟨c4, c5⟩ | ⟨c4, c5, c6⟩⟩
    all_goals
      go_enter Try.func13, Try.ntmps13
      go_wp2_with (first | (go_at_call 27; refine (sfirst _).mono ?_; rintro e w' ⟨rfl, rfl⟩) | (go_at_call 34; refine (clip_any _ _ _ _).mono ?_; rintro e w' ⟨rfl, rfl⟩))
      go_ret
      exact ⟨rfl, rfl⟩
end Go.Proofs.Ytcpihfkhhmggfaa
