/- Plain facts: numbers put and got again. -/
import Derived.Test.YtgdbbdbfaglkdaaJoin
import Derived.Test.YtgdbbdbfaglkdaaGet
namespace Go.Proofs.Ytgdbbdbfaglkdaa
open Go.RowKit

theorem pow8 (W : Nat) : (2 : Int) ^ (8 * (W + 1)) = 256 * 2 ^ (8 * W) := by
  rw [show 8 * (W + 1) = 8 * W + 8 by omega, Int.pow_add]
  omega

theorem pow8_pos (W : Nat) : (0 : Int) < 2 ^ (8 * W) := Int.pow_pos (by decide)

theorem fits_iff (n : Int) (W : Nat) : fits n W = true ↔ 1 ≤ W ∧ W ≤ 6 ∧ 0 ≤ n ∧ n < 2 ^ (8 * W) := by
  have hp := pow8_pos W
  simp only [fits, decide_eq_true_eq, Int.toNat_natCast]
  constructor
  · rintro ⟨h1, h2, h3, h4⟩
    refine ⟨by omega, by omega, h3, ?_⟩
    have := Int.lt_mul_ediv_self_add (x := n) hp
    have h5 : n / 2 ^ (8 * W) = 0 := by have := Int.ediv_nonneg h3 (Int.le_of_lt hp); omega
    rw [h5] at this
    omega
  · rintro ⟨h1, h2, h3, h4⟩
    exact ⟨by omega, by omega, h3, by rw [Int.ediv_eq_zero_of_lt h3 h4]; omega⟩

theorem joinTo_at (W : Nat) (l : List Int) (n i j : Nat) (hi : i < n) (hj : j < W) : (joinTo W l n).getD (i * W + j) 0 = (putTo (l.getD i 0) W W).getD j 0 := by
  induction n with
  | zero => omega
  | succ n ih =>
    have hl := joinTo_length W l n
    have hm : i * W + W ≤ n * W ∨ i = n := by
      rcases (by omega : i + 1 ≤ n ∨ i = n) with h | h
      · left
        have := Nat.mul_le_mul_right W h
        rwa [Nat.succ_mul] at this
      · exact Or.inr h
    have hc : W * n = n * W := Nat.mul_comm _ _
    simp only [joinTo, List.getD_eq_getElem?_getD] at *
    rcases hm with hm | rfl
    · rw [List.getElem?_append_left (by omega)]
      have hin : i < n := by
        rcases Nat.lt_or_ge i n with h | h
        · exact h
        · have := Nat.mul_le_mul_right W h; omega
      exact ih hin
    · rw [List.getElem?_append_right (by omega)]
      congr 2
      omega

theorem putTo_at (n : Int) (W j : Nat) (hj : j < W) : (putTo n W W).getD j 0 = by8 (n / 2 ^ (8 * (W - 1 - j))) := by
  simp [putTo, List.getD_eq_getElem?_getD, hj]

theorem getTo_put (s : ByteArray) (A W : Nat) (n : Int) (h0 : 0 ≤ n) (h1 : n < 2 ^ (8 * W)) (hs : ∀ j, j < W → (byteAt s (A + j) : Int) = n / 2 ^ (8 * (W - 1 - j)) % 256) :
    ∀ k, k ≤ W → getTo s A k = n / 2 ^ (8 * (W - k)) := by
  intro k
  induction k with
  | zero => intro _; simp only [getTo, Nat.sub_zero]; rw [Int.ediv_eq_zero_of_lt h0 h1]
  | succ k ih =>
    intro hk
    simp only [getTo]
    rw [ih (by omega), hs k (by omega)]
    have e1 : W - k = (W - 1 - k) + 1 := by omega
    have e2 : W - (k + 1) = W - 1 - k := by omega
    rw [e1, e2, pow8, Int.mul_comm 256, ← Int.ediv_ediv_of_nonneg (Int.le_of_lt (pow8_pos _))]
    generalize n / 2 ^ (8 * (W - 1 - k)) = q
    omega

theorem get_join (W : Nat) (l : List Int) (i : Nat) (hi : i < l.length) (h1 : 1 ≤ W) (h2 : W ≤ 6) (hf : AllFit W l l.length) :
    getN (bs (joinTo W l l.length)) ((i : Int) * (W : Int)) W = l.getD i 0 ∧ getE (bs (joinTo W l l.length)) ((i : Int) * (W : Int)) W = 0 := by
  have hs : (bs (joinTo W l l.length)).size = W * l.length := by rw [bs_size, joinTo_length]
  have hfi := (fits_iff _ W).1 (hf i hi)
  have hm : (i : Int) * (W : Int) + W ≤ ((W * l.length : Nat) : Int) := by
    have := Nat.mul_le_mul_right W hi
    rw [Nat.succ_mul, Nat.mul_comm l.length] at this
    rw [← Int.natCast_mul]
    omega
  have hn : 0 ≤ (i : Int) * (W : Int) := Int.mul_nonneg (by omega) (by omega)
  constructor
  · rw [getN, hs, if_pos (by omega)]
    have e : ((i : Int) * (W : Int)).toNat = i * W := by rw [← Int.natCast_mul]; rfl
    rw [e, Int.toNat_natCast]
    have := getTo_put (bs (joinTo W l l.length)) (i * W) W (l.getD i 0) hfi.2.2.1 hfi.2.2.2 (fun j hj => by
      rw [byteAt_bs, joinTo_at W l l.length i j hi hj, putTo_at _ _ _ hj, by8_toNat]) W (Nat.le_refl _)
    rw [this]
    simp
  · rw [getE, hs, if_pos (by omega), if_pos (by omega)]

theorem getTo4 (s : ByteArray) (A : Nat) : getTo s A 4 = (((byteAt s A : Int) * 256 + byteAt s (A + 1)) * 256 + byteAt s (A + 2)) * 256 + byteAt s (A + 3) := by
  simp [getTo]
theorem getTo4_fits (s : ByteArray) (A : Nat) : fits (getTo s A 4) 4 = true := by
  have := getTo4 s A
  have h0 := byteAt_lt s A
  have h1 := byteAt_lt s (A + 1)
  have h2 := byteAt_lt s (A + 2)
  have h3 := byteAt_lt s (A + 3)
  have := (fits_iff (getTo s A 4) 4).2 ⟨by decide, by decide, by omega, by omega⟩
  exact this
theorem put_get4_at (s : ByteArray) (A j : Nat) (hj : j < 4) : byteAt (bs (putTo (getTo s A 4) 4 4)) j = byteAt s (A + j) := by
  have he := getTo4 s A
  have h0 := byteAt_lt s A
  have h1 := byteAt_lt s (A + 1)
  have h2 := byteAt_lt s (A + 2)
  have h3 := byteAt_lt s (A + 3)
  rw [byteAt_bs, putTo_at _ _ _ hj]
  have h4 := by8_toNat (getTo s A 4 / 2 ^ (8 * (4 - 1 - j)))
  rcases (by omega : j = 0 ∨ j = 1 ∨ j = 2 ∨ j = 3) with rfl | rfl | rfl | rfl <;> simp at h4 ⊢ <;> omega
end Go.Proofs.Ytgdbbdbfaglkdaa
