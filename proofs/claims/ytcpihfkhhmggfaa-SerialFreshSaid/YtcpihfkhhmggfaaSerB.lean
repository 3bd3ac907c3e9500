/- Claims of layer 12: SerialFresh, SerialGoes: the walks. -/
import Derived.Test.YtcpihfkhhmggfaaSer
namespace Go.Proofs.Ytcpihfkhhmggfaa
open Go.RowKit

theorem fresh_ways (s l t : Int) (s0 : 0 ≤ s) (s1 : s ≤ 549755813888) (l0 : 0 ≤ l) (l1 : l ≤ 274877906944) (t0 : 0 ≤ t) (t1 : t ≤ 274877906944) :
    freshB (s + t) s l = decide (t < l) ∧ freshB (s - 1) s l = false ∧ clipI t 0 l ≤ l := by
  refine ⟨?_, ?_, ?_⟩
  · rw [Bool.eq_iff_iff]; simp [freshB]; omega
  · simp [freshB]; omega
  · simp only [clipI]; repeat' split
    all_goals omega


set_option maxRecDepth 100000 in
set_option maxHeartbeats 1000000 in
theorem walkFresh (a0 a1 a2 : Int) (w : World) :
    Calls Try.prog 11 #[.int .i64 a0, .int .i64 a1, .int .i64 a2] w fun e w' => e = .returned (.bool true) ∧ w = w' := by
  by_cases h : 0 ≤ a0 ∧ a0 ≤ 549755813888 ∧ 0 ≤ a1 ∧ a1 ≤ 274877906944 ∧ 0 ≤ a2 ∧ a2 ≤ 274877906944
  · obtain ⟨s0, s1, l0, l1, t0, t1⟩ := h
    obtain ⟨f1, f2, f3⟩ := fresh_ways a0 a1 a2 s0 s1 l0 l1 t0 t1
    have g3 := dT f3
    have d1 := dF (p := a0 < 0) (by omega)
    have d2 := dF (p := 549755813888 < a0) (by omega)
    have d3 := dF (p := a1 < 0) (by omega)
    have d4 := dF (p := 274877906944 < a1) (by omega)
    have d5 := dF (p := a2 < 0) (by omega)
    have d6 := dF (p := 274877906944 < a2) (by omega)
    have hw : (decide (a2 < a1) = true ∨ decide (a2 < a1) = false) ∧ ((a0 == 0) = true ∨ (a0 == 0) = false) := by
      constructor
      · cases decide (a2 < a1) <;> simp
      · cases a0 == 0 <;> simp
    obtain ⟨k1 | k1, k2 | k2⟩ := hw
    all_goals
      rw [k1] at f1
      go_enter Try.func11, Try.ntmps11
      go_wp2_with (first | (go_at_call 27; refine (sfirst _).mono ?_; rintro e w' ⟨rfl, rfl⟩) | (go_at_call 34; refine (clip_any _ _ _ _).mono ?_; rintro e w' ⟨rfl, rfl⟩) | (go_at_call 36; refine (fresh_any _ _ _ _).mono ?_; rintro e w' ⟨rfl, rfl⟩))
      go_ret
      exact ⟨rfl, rfl⟩
  · have hw : decide (a0 < 0) = true ∨ (decide (a0 < 0) = false ∧ (decide (549755813888 < a0) = true ∨ (decide (549755813888 < a0) = false ∧ (decide (a1 < 0) = true ∨ (decide (a1 < 0) = false ∧ (decide (274877906944 < a1) = true ∨ (decide (274877906944 < a1) = false ∧ (decide (a2 < 0) = true ∨ (decide (a2 < 0) = false ∧ decide (274877906944 < a2) = true))))))))) := by
      simp only [decide_eq_true_eq, decide_eq_false_iff_not]; omega
    clear h
    rcases hw with h1 | ⟨h1, h2 | ⟨h2, h3 | ⟨h3, h4 | ⟨h4, h5 | ⟨h5, h6⟩⟩⟩⟩⟩
    all_goals
      go_enter Try.func11, Try.ntmps11
      go_wp2_with (first | (go_at_call 27; refine (sfirst _).mono ?_; rintro e w' ⟨rfl, rfl⟩))
      go_ret
      exact ⟨rfl, rfl⟩
end Go.Proofs.Ytcpihfkhhmggfaa
