/- Plain facts on the check sum: it is linear, and one byte turned turns it. -/
import Derived.Test.YtcpihfkhhmggfaaNumB
namespace Go.Proofs.Ytcpihfkhhmggfaa
open Go.RowKit

theorem half_xor (a b : Nat) : (a ^^^ b) / 2 = a / 2 ^^^ b / 2 := Nat.xor_div_two
theorem odd_xor (a b : Nat) : (a ^^^ b) % 2 = (a % 2 + b % 2) % 2 := by
  have h : ((a ^^^ b) % 2 = 1) ↔ ¬ ((a % 2 = 1) ↔ (b % 2 = 1)) := Nat.xor_mod_two_eq_one
  omega

theorem cStep_xor (a b : Nat) : cStep (a ^^^ b) = cStep a ^^^ cStep b := by
  unfold cStep
  rw [half_xor, odd_xor]
  rcases (by omega : a % 2 = 0 ∨ a % 2 = 1) with h1 | h1 <;> rcases (by omega : b % 2 = 0 ∨ b % 2 = 1) with h2 | h2 <;> rw [h1, h2] <;> simp
  · rw [Nat.xor_assoc]
  · rw [Nat.xor_assoc, Nat.xor_assoc]; congr 1; rw [Nat.xor_comm]
  · rw [Nat.xor_assoc, ← Nat.xor_assoc 3988292384, Nat.xor_comm 3988292384 (b / 2), Nat.xor_assoc, Nat.xor_self, Nat.xor_zero]

theorem cSteps_xor (a b k : Nat) : cSteps (a ^^^ b) k = cSteps a k ^^^ cSteps b k := by
  induction k with
  | zero => rfl
  | succ k ih => simp only [cSteps]; rw [ih, cStep_xor]

theorem cStep_inj {a b : Nat} (ha : a < 4294967296) (hb : b < 4294967296) (h : cStep a = cStep b) : a = b := by
  have h0 : cStep (a ^^^ b) = 0 := by rw [cStep_xor, h, Nat.xor_self]
  have hx := xor_lt ha hb
  generalize hc : a ^^^ b = c at *
  have hz : c = 0 := by
    unfold cStep at h0
    split at h0
    · have : c / 2 = 3988292384 := by
        have := congrArg (· ^^^ 3988292384) h0
        simpa [Nat.xor_assoc] using this
      omega
    · omega
  subst hz
  have := congrArg (· ^^^ b) hc
  simpa [Nat.xor_assoc] using this
theorem cSteps_inj {a b : Nat} (ha : a < 4294967296) (hb : b < 4294967296) (k : Nat) (h : cSteps a k = cSteps b k) : a = b := by
  induction k with
  | zero => exact h
  | succ k ih => exact ih (cStep_inj (cSteps_lt ha k) (cSteps_lt hb k) h)

theorem xor_cancel {a b c : Nat} (h : a ^^^ c = b ^^^ c) : a = b := by
  have := congrArg (· ^^^ c) h
  simpa [Nat.xor_assoc] using this
theorem xor_cancel' {a b c : Nat} (h : c ^^^ a = c ^^^ b) : a = b := by
  rw [Nat.xor_comm c a, Nat.xor_comm c b] at h
  exact xor_cancel h

theorem xor3 (a b c d e f : Nat) : (a ^^^ b ^^^ c) ^^^ (d ^^^ e ^^^ f) = (a ^^^ d) ^^^ (b ^^^ e) ^^^ (c ^^^ f) := by
  apply Nat.eq_of_testBit_eq
  intro i
  simp only [Nat.testBit_xor]
  cases a.testBit i <;> cases b.testBit i <;> cases c.testBit i <;> cases d.testBit i <;> cases e.testBit i <;> cases f.testBit i <;> rfl

/-- Three texts of one length taken together. -/
theorem cTo_xor3 (s a b c : ByteArray) (n : Nat) (h : ∀ i, i < n → byteAt s i = byteAt a i ^^^ byteAt b i ^^^ byteAt c i) : ∀ k, k ≤ n → cTo s k = cTo a k ^^^ cTo b k ^^^ cTo c k := by
  intro k
  induction k with
  | zero => intro _; simp only [cTo]; decide
  | succ k ih =>
    intro hk
    simp only [cTo, cByte]
    rw [ih (by omega), h k (by omega), xor3, cSteps_xor, cSteps_xor]

theorem crc_xor3 (s a b c : ByteArray) (ha : a.size = s.size) (hb : b.size = s.size) (hc : c.size = s.size) (h : ∀ i, i < s.size → byteAt s i = byteAt a i ^^^ byteAt b i ^^^ byteAt c i) : crcN s = crcN a ^^^ crcN b ^^^ crcN c := by
  unfold crcN
  rw [cTo_xor3 s a b c s.size h s.size (Nat.le_refl _), ha, hb, hc, ← xor3]
  congr 1

theorem crcN_lt (s : ByteArray) : crcN s < 4294967296 := xor_lt (by decide) (cTo_lt s _)

/-- One byte turned. -/
theorem cTo_turn (s t : ByteArray) (at' : Nat) (h1 : ∀ i, i ≠ at' → byteAt s i = byteAt t i) (h2 : byteAt s at' ≠ byteAt t at') : ∀ k, (k ≤ at' → cTo s k = cTo t k) ∧ (at' < k → cTo s k ≠ cTo t k) := by
  intro k
  induction k with
  | zero => exact ⟨fun _ => rfl, fun h => by omega⟩
  | succ k ih =>
    refine ⟨fun h => ?_, fun h => ?_⟩
    · simp only [cTo]
      rw [ih.1 (by omega), h1 k (by omega)]
    · simp only [cTo, cByte]
      intro hc
      have hs := byteAt_lt s k
      have ht := byteAt_lt t k
      have := cSteps_inj (xor_lt (cTo_lt s k) (by omega)) (xor_lt (cTo_lt t k) (by omega)) 8 hc
      by_cases e : k = at'
      · subst e
        rw [ih.1 (Nat.le_refl _)] at this
        exact h2 (xor_cancel' this)
      · rw [h1 k e] at this
        exact ih.2 (by omega) (xor_cancel this)
theorem crc_turn (s t : ByteArray) (at' : Nat) (hs : t.size = s.size) (hat : at' < s.size) (h1 : ∀ i, i ≠ at' → byteAt s i = byteAt t i) (h2 : byteAt s at' ≠ byteAt t at') : crcN s ≠ crcN t := by
  unfold crcN
  rw [hs]
  intro h
  exact (cTo_turn s t at' h1 h2 s.size).2 hat (xor_cancel' h)
end Go.Proofs.Ytcpihfkhhmggfaa
