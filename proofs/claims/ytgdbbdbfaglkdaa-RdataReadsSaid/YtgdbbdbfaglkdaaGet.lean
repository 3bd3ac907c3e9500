/- Contracts of package num's Get (chapter 1), and of its document's answers, over this seat's translation. -/
import Derived.Test.YtgdbbdbfaglkdaaNum
namespace Go.Proofs.Ytgdbbdbfaglkdaa
open Go.RowKit

theorem wraps_i64 (n : Int) (h₀ : 0 ≤ n) (h₁ : n < 2 ^ 62) : IntKind.i64.wrap n = n := by rw [IntKind.wrap_i64]; omega
theorem or_join (n c : Int) (h0 : 0 ≤ n) (h1 : n < 1099511627776) (h2 : 0 ≤ c) (h3 : c < 256) : bits .or .i64 (n * 256) c = n * 256 + c :=
  bits_join .i64 62 (by decide) wraps_i64 8 _ _ (by omega) (by omega) (by omega) h2 (by omega) (by omega)

/-- The number of the first k bytes from a place. -/
def getTo (s : ByteArray) (A : Nat) : Nat → Int
  | 0 => 0
  | k + 1 => getTo s A k * 256 + byteAt s (A + k)
theorem getTo_bd (s : ByteArray) (A k : Nat) : 0 ≤ getTo s A k ∧ getTo s A k < 256 ^ k := by
  induction k with
  | zero => simp [getTo]
  | succ k ih =>
    have := byteAt_lt s (A + k)
    simp only [getTo]
    rw [Int.pow_succ]
    omega
theorem getTo_bd40 (s : ByteArray) (A k : Nat) (hk : k < 6) : 0 ≤ getTo s A k ∧ getTo s A k < 1099511627776 := by
  have h := getTo_bd s A k
  rcases (by omega : k = 0 ∨ k = 1 ∨ k = 2 ∨ k = 3 ∨ k = 4 ∨ k = 5) with rfl | rfl | rfl | rfl | rfl | rfl <;> simp at h <;> omega

def getN (s : ByteArray) (A W : Int) : Int := if 1 ≤ W ∧ W ≤ 6 ∧ 0 ≤ A ∧ A + W ≤ (s.size : Int) then getTo s A.toNat W.toNat else 0
def getE (s : ByteArray) (A W : Int) : Int := if 1 ≤ W ∧ W ≤ 6 ∧ 0 ≤ A ∧ A ≤ (s.size : Int) then (if A + W ≤ (s.size : Int) then 0 else 2) else 1

set_option maxRecDepth 100000 in
set_option maxHeartbeats 400000 in
theorem get_yes (s : ByteArray) (A W : Nat) (w : World) (h1 : 1 ≤ W) (h2 : W ≤ 6) (h3 : A + W ≤ s.size) (h4 : s.size ≤ 9223372036854775807) : Calls Try.prog 69 #[.string s, .int .i64 A, .int .i64 W] w fun e w' => e = .returned (.tuple #[.int .i64 (getTo s A W), .int .i64 0]) ∧ w = w' := by
  have d : decide ((1 : Int) ≤ (W : Int) ∧ (W : Int) ≤ 6) = true := dT (by omega)
  have d1 := dF (p := (A : Int) < 0) (by omega)
  have d2 := dF (p := s.size < A) (by omega)
  have d3 := dF (p := (s.size : Int) - (A : Int) < (W : Int)) (by omega)
  go_enter Try.func69, Try.ntmps69
  go_wp2_with (first | (go_at_call 97; refine (mayWidth_any _ _).mono ?_; rintro e w' ⟨rfl, rfl⟩))
  go_loop [8, 30] (fun v i => ∃ k : Nat, k ≤ W ∧ i = .int .i64 k ∧ v = .int .i64 (getTo s A k)) (fun _ i => W - (intOf i).toNat)
  case atStart => exact ⟨0, Nat.zero_le _, rfl, rfl⟩
  case round =>
    obtain ⟨k, hk, rfl, rfl⟩ := hrel
    by_cases hlt : k < W
    · have hidx : A + k < s.size := by omega
      obtain ⟨n0, n1⟩ := getTo_bd40 s A k (by omega)
      have hb := byte_get hidx
      have hb2 := byteAt_lt s (A + k)
      have hj := or_join (getTo s A k) (byteAt s (A + k)) n0 n1 (by omega) (by omega)
      go_wp2
      go_round
      case rel => exact ⟨k + 1, by omega, by go_num, rfl⟩
      case measure => simp [intOf]; omega
    · have hkl : k = W := by omega
      subst hkl
      go_wp2
      go_ret2
      exact ⟨rfl, rfl⟩

theorem get_any (s : ByteArray) (A W : Int) (w : World) (h4 : s.size ≤ 9223372036854775807) : Calls Try.prog 69 #[.string s, .int .i64 A, .int .i64 W] w fun e w' => e = .returned (.tuple #[.int .i64 (getN s A W), .int .i64 (getE s A W)]) ∧ w = w' := by
  by_cases h : 1 ≤ W ∧ W ≤ 6 ∧ 0 ≤ A ∧ A ≤ (s.size : Int)
  · by_cases hs : A + W ≤ (s.size : Int)
    · obtain ⟨K, rfl⟩ := Int.eq_ofNat_of_zero_le (show 0 ≤ W by omega)
      obtain ⟨B, rfl⟩ := Int.eq_ofNat_of_zero_le (show 0 ≤ A by omega)
      rw [getN, getE, if_pos (by omega), if_pos h, if_pos hs, Int.toNat_natCast, Int.toNat_natCast]
      exact get_yes s B K w (by omega) (by omega) (by omega) h4
    · rw [getN, getE, if_neg (by omega), if_pos h, if_neg hs]
      obtain ⟨k1, k2, k3, k4⟩ := h
      have d : decide (1 ≤ W ∧ W ≤ 6) = true := dT ⟨k1, k2⟩
      have d1 := dF (p := A < 0) (by omega)
      have d2 := dF (p := (s.size : Int) < A) (by omega)
      have d3 := dT (p := (s.size : Int) - A < W) (by omega)
      clear hs
      go_enter Try.func69, Try.ntmps69
      go_wp2_with (first | (go_at_call 97; refine (mayWidth_any _ _).mono ?_; rintro e w' ⟨rfl, rfl⟩))
      go_ret2
      exact ⟨rfl, rfl⟩
  · rw [getN, getE, if_neg (by omega), if_neg h]
    have hd : decide (1 ≤ W ∧ W ≤ 6) = false ∨ decide (1 ≤ W ∧ W ≤ 6) = true ∧ (decide (A < 0) = true ∨ decide (A < 0) = false ∧ decide ((s.size : Int) < A) = true) := by
      simp only [decide_eq_true_eq, decide_eq_false_iff_not]; omega
    clear h
    rcases hd with d | ⟨d, d1 | ⟨d1, d2⟩⟩
    all_goals
      go_enter Try.func69, Try.ntmps69
      go_wp2_with (first | (go_at_call 97; refine (mayWidth_any _ _).mono ?_; rintro e w' ⟨rfl, rfl⟩))
      go_ret2
      exact ⟨rfl, rfl⟩

set_option maxRecDepth 100000 in
set_option maxHeartbeats 400000 in
theorem rget_yes (s : ByteArray) (A W : Nat) (w : World) (h1 : 1 ≤ W) (h2 : W ≤ 6) (h3 : A + W ≤ s.size) (h4 : s.size ≤ 9223372036854775807) : Calls Try.prog 71 #[.string s, .int .i64 A, .int .i64 W] w fun e w' => e = .returned (.tuple #[.int .i64 (getTo s A W), .int .i64 0]) ∧ w = w' := by
  have d := dF (p := (W : Int) < 1) (by omega)
  have d0 := dF (p := 6 < (W : Int)) (by omega)
  have d1 := dF (p := (A : Int) < 0) (by omega)
  have d2 := dF (p := s.size < A) (by omega)
  have d3 := dF (p := (s.size : Int) - (A : Int) < (W : Int)) (by omega)
  go_enter Try.func71, Try.ntmps71
  go_wp2
  go_loop [8, 9] (fun v i => ∃ k : Nat, k ≤ W ∧ i = .int .i64 k ∧ v = .int .i64 (getTo s A k)) (fun _ i => W - (intOf i).toNat)
  case atStart => exact ⟨0, Nat.zero_le _, rfl, rfl⟩
  case round =>
    obtain ⟨k, hk, rfl, rfl⟩ := hrel
    by_cases hlt : k < W
    · have hidx : A + k < s.size := by omega
      obtain ⟨n0, n1⟩ := getTo_bd40 s A k (by omega)
      have hb := byte_get hidx
      have hb2 := byteAt_lt s (A + k)
      have hj := or_join (getTo s A k) (byteAt s (A + k)) n0 n1 (by omega) (by omega)
      go_wp2
      go_round
      case rel => exact ⟨k + 1, by omega, by go_num, rfl⟩
      case measure => simp [intOf]; omega
    · have hkl : k = W := by omega
      subst hkl
      go_wp2
      go_ret2
      exact ⟨rfl, rfl⟩

theorem rget_any (s : ByteArray) (A W : Int) (w : World) (h4 : s.size ≤ 9223372036854775807) : Calls Try.prog 71 #[.string s, .int .i64 A, .int .i64 W] w fun e w' => e = .returned (.tuple #[.int .i64 (getN s A W), .int .i64 (getE s A W)]) ∧ w = w' := by
  by_cases h : 1 ≤ W ∧ W ≤ 6 ∧ 0 ≤ A ∧ A ≤ (s.size : Int)
  · by_cases hs : A + W ≤ (s.size : Int)
    · obtain ⟨K, rfl⟩ := Int.eq_ofNat_of_zero_le (show 0 ≤ W by omega)
      obtain ⟨B, rfl⟩ := Int.eq_ofNat_of_zero_le (show 0 ≤ A by omega)
      rw [getN, getE, if_pos (by omega), if_pos h, if_pos hs, Int.toNat_natCast, Int.toNat_natCast]
      exact rget_yes s B K w (by omega) (by omega) (by omega) h4
    · rw [getN, getE, if_neg (by omega), if_pos h, if_neg hs]
      obtain ⟨k1, k2, k3, k4⟩ := h
      have d := dF (p := W < 1) (by omega)
      have d0 := dF (p := 6 < W) (by omega)
      have d1 := dF (p := A < 0) (by omega)
      have d2 := dF (p := (s.size : Int) < A) (by omega)
      have d3 := dT (p := (s.size : Int) - A < W) (by omega)
      clear hs
      go_enter Try.func71, Try.ntmps71
      go_wp2
      go_ret2
      exact ⟨rfl, rfl⟩
  · rw [getN, getE, if_neg (by omega), if_neg h]
    have hd : decide (W < 1) = true ∨ decide (W < 1) = false ∧ (decide (6 < W) = true ∨ decide (6 < W) = false ∧ (decide (A < 0) = true ∨ decide (A < 0) = false ∧ decide ((s.size : Int) < A) = true)) := by
      simp only [decide_eq_true_eq, decide_eq_false_iff_not]; omega
    clear h
    rcases hd with d | ⟨d, d0 | ⟨d0, d1 | ⟨d1, d2⟩⟩⟩
    all_goals
      go_enter Try.func71, Try.ntmps71
      go_wp2
      go_ret2
      exact ⟨rfl, rfl⟩
end Go.Proofs.Ytgdbbdbfaglkdaa
