/- Flags as numbers: plain. -/
import Derived.Test.YtkoafkajmfodkaaFg5
namespace Go.Proofs.Ytkoafkajmfodkaa
open Go.RowKit

theorem and_pow (x k : Nat) : x &&& 2 ^ k = 2 ^ k * (x / 2 ^ k % 2) := by
  apply Nat.eq_of_testBit_eq
  intro i
  rw [Nat.testBit_and, Nat.testBit_two_pow]
  have h1 : 2 ^ k * (x / 2 ^ k % 2) = 2 ^ k * (x / 2 ^ k % 2) + 0 := rfl
  rw [h1, Nat.testBit_two_pow_mul_add _ (Nat.two_pow_pos k)]
  by_cases hi : i < k
  · rw [if_pos hi]
    have : ¬ k = i := by omega
    simp [this]
  · rw [if_neg hi]
    have h2 : x / 2 ^ k % 2 = x / 2 ^ k % 2 ^ 1 := rfl
    rw [h2, Nat.testBit_mod_two_pow, Nat.testBit_div_two_pow]
    by_cases he : i = k
    · subst he; simp
    · have h3 : ¬ k = i := fun h => he h.symm
      have h4 : ¬ i - k < 1 := by omega
      simp [h3, h4]
theorem ofNat_toNat (x : Nat) (h : x < 65536) : (BitVec.ofInt 64 (x : Int)).toNat = x := by
  rw [BitVec.toNat_ofInt]; omega
theorem andI (x m : Nat) (h : x < 65536) (hm : m < 65536) : bits .and .i64 (x : Int) (m : Int) = ((x &&& m : Nat) : Int) := by
  show IntKind.i64.wrap ((BitVec.ofInt 64 (x : Int) &&& BitVec.ofInt 64 (m : Int)).toNat : Nat) = _
  have h1 : x &&& m ≤ x := Nat.and_le_left
  rw [BitVec.toNat_and, ofNat_toNat x h, ofNat_toNat m hm, IntKind.wrap_i64]
  omega
theorem and_bit (x k : Nat) (h : x < 65536) (hk : 2 ^ k < 65536) : (bits .and .i64 (x : Int) ((2 ^ k : Nat) : Int) != 0) = decide (x / 2 ^ k % 2 = 1) := by
  rw [andI x _ h hk, and_pow]
  have := Nat.two_pow_pos k
  by_cases hb : x / 2 ^ k % 2 = 1
  · rw [hb, Nat.mul_one]
    simp
    exact_mod_cast Nat.ne_of_gt this
  · have h0 : x / 2 ^ k % 2 = 0 := by omega
    rw [h0]; simp
theorem and15' (x : Nat) (h : x < 65536) : bits .and .i64 (x : Int) 15 = ((x % 16 : Nat) : Int) := by
  have := andI x 15 h (by decide)
  rw [show ((15 : Nat) : Int) = 15 from rfl] at this
  rw [this, show (15 : Nat) = 2 ^ 4 - 1 from rfl, Nat.and_two_pow_sub_one_eq_mod]
/-- All bits but three. -/
theorem and_not (x : Nat) (h : x < 65536) : bits .and .i64 (x : Int) (-113) = ((x / 128 * 128 + x % 16 : Nat) : Int) := by
  have hm : (BitVec.ofInt 64 (-113)).toNat = 2 ^ 64 - 113 := by decide
  have key : x &&& (2 ^ 64 - 113) = x / 128 * 128 + x % 16 := by
    have e : x / 128 * 128 + x % 16 = 2 ^ 7 * (x / 2 ^ 7) + x % 2 ^ 4 := by
      rw [Nat.mul_comm]
    rw [e]
    apply Nat.eq_of_testBit_eq
    intro i
    rw [Nat.testBit_and, Nat.testBit_two_pow_mul_add _ (show x % 2 ^ 4 < 2 ^ 7 by have := Nat.mod_lt x (y := 16) (by decide); omega), Nat.testBit_mod_two_pow, Nat.testBit_div_two_pow]
    by_cases hi : i < 7
    · rw [if_pos hi]
      have : i = 0 ∨ i = 1 ∨ i = 2 ∨ i = 3 ∨ i = 4 ∨ i = 5 ∨ i = 6 := by omega
      rcases this with rfl | rfl | rfl | rfl | rfl | rfl | rfl
      · rw [show (2 ^ 64 - 113 : Nat).testBit 0 = true by decide]; simp
      · rw [show (2 ^ 64 - 113 : Nat).testBit 1 = true by decide]; simp
      · rw [show (2 ^ 64 - 113 : Nat).testBit 2 = true by decide]; simp
      · rw [show (2 ^ 64 - 113 : Nat).testBit 3 = true by decide]; simp
      · rw [show (2 ^ 64 - 113 : Nat).testBit 4 = false by decide]; simp
      · rw [show (2 ^ 64 - 113 : Nat).testBit 5 = false by decide]; simp
      · rw [show (2 ^ 64 - 113 : Nat).testBit 6 = false by decide]; simp
    · rw [if_neg hi, show i - 7 + 7 = i by omega]
      by_cases h64 : i < 16
      · have hc : ∀ j : Fin 16, 7 ≤ j.val → (2 ^ 64 - 113 : Nat).testBit j.val = true := by decide
        rw [hc ⟨i, h64⟩ (by show 7 ≤ i; omega), Bool.and_true]
      · rw [Nat.testBit_lt_two_pow (Nat.lt_of_lt_of_le h (show 65536 ≤ 2 ^ i from Nat.pow_le_pow_right (n := 2) (by decide) (show 16 ≤ i by omega))), Bool.false_and]
  show IntKind.i64.wrap ((BitVec.ofInt 64 (x : Int) &&& BitVec.ofInt 64 (-113)).toNat : Nat) = _
  rw [BitVec.toNat_and, hm, ofNat_toNat x h, key, IntKind.wrap_i64]
  omega
def wt (b : Bool) (n : Int) : Int := if b then n else 0
def chkF (o r : Nat) (b1 b2 b3 b4 b5 : Bool) : Bool := flagV o r b1 b2 b3 b4 b5 == (o : Int) * 2048 + r + wt b1 32768 + wt b2 1024 + wt b3 512 + wt b4 256 + wt b5 128
theorem chk_all : ∀ o : Fin 16, ∀ r : Fin 16, ∀ b1 b2 b3 b4 b5 : Bool, chkF o.val r.val b1 b2 b3 b4 b5 = true := by decide +kernel
theorem flagV_val {o r : Int} (h : okF o r = true) (b1 b2 b3 b4 b5 : Bool) : flagV o r b1 b2 b3 b4 b5 = o * 2048 + r + wt b1 32768 + wt b2 1024 + wt b3 512 + wt b4 256 + wt b5 128 := by
  obtain ⟨h1, h2⟩ : inR o 15 = true ∧ inR r 15 = true := by simpa [okF] using h
  obtain ⟨o1, o2⟩ := inR_t h1
  obtain ⟨r1, r2⟩ := inR_t h2
  obtain ⟨o, rfl⟩ := Int.eq_ofNat_of_zero_le o1
  obtain ⟨r, rfl⟩ := Int.eq_ofNat_of_zero_le r1
  have := chk_all ⟨o, by omega⟩ ⟨r, by omega⟩ b1 b2 b3 b4 b5
  simpa [chkF] using this
end Go.Proofs.Ytkoafkajmfodkaa
