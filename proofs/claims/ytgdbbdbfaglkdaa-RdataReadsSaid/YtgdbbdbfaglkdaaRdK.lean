/- The document's SOA (chapter 3), plainly. -/
import Derived.Test.YtgdbbdbfaglkdaaRdI
import Derived.Test.YtgdbbdbfaglkdaaMayN
namespace Go.Proofs.Ytgdbbdbfaglkdaa
open Go.RowKit

theorem endRun_hRun (s : ByteArray) (A : Nat) : ∀ (d i : Nat), s.size - i ≤ d → 0 ≤ endRun s A s.size i → endRun s A s.size i = (hRun s s.size i : Int) + 1 ∧ hRun s s.size i < s.size := by
  intro d
  induction d with
  | zero =>
    intro i h1 h2
    rw [endRun_step, if_neg (by omega)] at h2
    omega
  | succ d ih =>
    intro i h1 h2
    rw [endRun_step] at h2 ⊢
    rw [hRun_step]
    by_cases hi : i < s.size
    · rw [if_pos hi] at h2 ⊢
      rw [if_pos hi]
      by_cases h0 : byteAt s i = 0
      · rw [if_pos h0] at h2 ⊢
        rw [if_pos h0]
        split at h2
        · omega
        · rw [if_neg (by assumption)]
          omega
      · rw [if_neg h0] at h2 ⊢
        rw [if_neg h0]
        split at h2
        · omega
        · rw [if_neg (by assumption)]
          have e : i + byteAt s i + 1 = i + 1 + byteAt s i := by omega
          rw [e] at h2 ⊢
          exact ih _ (by omega) h2
    · rw [if_neg hi] at h2
      omega

theorem endRun_pre {p s : ByteArray} (A : Nat) (h : Pre p s) : ∀ (d i : Nat), p.size - i ≤ d → 0 ≤ endRun p A p.size i → endRun s A s.size i = endRun p A p.size i := by
  intro d
  induction d with
  | zero =>
    intro i h1 h2
    rw [endRun_step, if_neg (by omega)] at h2
    omega
  | succ d ih =>
    intro i h1 h2
    rw [endRun_step] at h2
    rw [endRun_step s, endRun_step p]
    by_cases hi : i < p.size
    · have hs := h.1
      rw [if_pos hi] at h2 ⊢
      rw [if_pos (by omega), ← h.2 i hi]
      by_cases h0 : byteAt p i = 0
      · rw [if_pos h0, if_pos h0]
      · rw [if_neg h0] at h2 ⊢
        rw [if_neg h0]
        split at h2
        · omega
        · rw [if_neg (by assumption), if_neg (by assumption)]
          exact ih _ (by omega) h2
    · rw [if_neg hi] at h2
      omega

theorem endRun_shift (s : ByteArray) (A : Nat) : ∀ (d i : Nat), s.size - (A + i) ≤ d → endRun s A s.size (A + i) = if endRun (s.extract A s.size) 0 (s.extract A s.size).size i < 0 then -1 else A + endRun (s.extract A s.size) 0 (s.extract A s.size).size i := by
  intro d
  have hz : (s.extract A s.size).size = s.size - A := extract_size _ _ _ (Nat.le_refl _)
  induction d with
  | zero =>
    intro i h1
    rw [endRun_step s, if_neg (by omega), endRun_step (s.extract A s.size), if_neg (c := i < (s.extract A s.size).size) (by omega)]
    rfl
  | succ d ih =>
    intro i h1
    rw [endRun_step s, endRun_step (s.extract A s.size)]
    by_cases hi : A + i < s.size
    · rw [if_pos hi, if_pos (c := i < (s.extract A s.size).size) (by omega), byteAt_extract s A s.size i (Nat.le_refl _) hi]
      by_cases h0 : byteAt s (A + i) = 0
      · rw [if_pos h0, if_pos h0]
        have e : A + i + 1 - A = i + 1 - 0 := by omega
        rw [e]
        split
        · rfl
        · rw [if_neg (by omega)]; omega
      · rw [if_neg h0, if_neg h0]
        split
        · rfl
        · have e : A + i + byteAt s (A + i) + 1 = A + (i + byteAt s (A + i) + 1) := by omega
          rw [e]
          exact ih _ (by omega)
    · rw [if_neg hi, if_neg (c := i < (s.extract A s.size).size) (by omega)]
      rfl

/-- Where the name ahead ends, in the document's words. -/
def endN (s : ByteArray) : Int := endRun s 0 s.size 0
theorem mayN_end {p : ByteArray} (h : mayN p = true) : endN p = p.size := by
  have := ref_may p
  rw [h] at this
  simp only [Bool.and_eq_true, beq_iff_eq] at this
  exact this.2
theorem endN_head {s : ByteArray} (h : headOk s = true) : endN s = (hN s : Int) + 1 := by
  have hl := headOk_lt h
  have hp := pre_cut s (hN s + 1) (by omega)
  have hm := mayN_end (headOk_may h)
  have hz : (head1 s).size = hN s + 1 := by rw [head1, extract_size _ _ _ (by omega)]; omega
  have := endRun_pre 0 hp (head1 s).size 0 (Nat.le_of_eq rfl) (by show 0 ≤ endN (head1 s); omega)
  show endRun s 0 s.size 0 = _
  rw [this]
  show endN (head1 s) = _
  omega
theorem endN_no {s : ByteArray} (h : endN s < 0) : headOk s = false := by
  cases hh : headOk s
  · rfl
  · have := endN_head hh; omega
theorem endN_yes {s : ByteArray} (h : 0 ≤ endN s) : endN s = (hN s : Int) + 1 ∧ hN s < s.size ∧ headOk s = mayN (s.extract 0 (hN s + 1)) := by
  obtain ⟨h1, h2⟩ := endRun_hRun s 0 s.size 0 (by omega) h
  exact ⟨h1, h2, by rw [headOk, dT (p := hN s < s.size) h2, Bool.true_and]⟩
theorem endN_from (s : ByteArray) (A : Nat) : endRun s A s.size A = if endN (s.extract A s.size) < 0 then -1 else A + endN (s.extract A s.size) := endRun_shift s A s.size 0 (by omega)

/-- The three ways of an SOA's data in the document's words. -/
theorem soa_ways (s : ByteArray) : (endN s < 0 ∧ soaOk s = false) ∨ (∃ A : Nat, endN s = A ∧ 1 ≤ A ∧ A ≤ s.size ∧ endRun s A s.size A = -1 ∧ soaOk s = false) ∨
    ∃ A B : Nat, endN s = A ∧ 1 ≤ A ∧ A < B ∧ B ≤ s.size ∧ endRun s A s.size A = B ∧ soaOk s = (mayN (s.extract 0 A) && mayN (s.extract A B) && decide (s.size = B + 20)) ∧ head1 s = s.extract 0 A ∧ head1 (rest1 s) = s.extract A B ∧ rest1 (rest1 s) = s.extract B s.size := by
  by_cases h : endN s < 0
  · left
    exact ⟨h, by rw [soaOk, endN_no h]; rfl⟩
  · right
    obtain ⟨h1, h2, h3⟩ := endN_yes (s := s) (by omega)
    have hr : rest1 s = s.extract (hN s + 1) s.size := rfl
    have hf := endN_from s (hN s + 1)
    rw [← hr] at hf
    by_cases h' : endN (rest1 s) < 0
    · left
      rw [if_pos h'] at hf
      exact ⟨hN s + 1, by omega, by omega, by omega, hf, by rw [soaOk, endN_no h', Bool.and_false]; rfl⟩
    · right
      rw [if_neg h'] at hf
      obtain ⟨k1, k2, k3⟩ := endN_yes (s := rest1 s) (by omega)
      have hz := rest1_size s
      have hz2 := rest1_size (rest1 s)
      have e1 : (rest1 s).extract 0 (hN (rest1 s) + 1) = s.extract (hN s + 1) (hN s + 1 + (hN (rest1 s) + 1)) := by
        refine byteAt_ext ?_ ?_
        · rw [extract_size _ _ _ (by omega), extract_size _ _ _ (by omega)]; omega
        · intro j hj
          rw [extract_size _ _ _ (by omega)] at hj
          have q1 := byteAt_extract (rest1 s) 0 (hN (rest1 s) + 1) j (by omega) (by omega)
          have q2 : byteAt (rest1 s) j = byteAt s (hN s + 1 + j) := byteAt_extract s (hN s + 1) s.size j (Nat.le_refl _) (by omega)
          have q3 := byteAt_extract s (hN s + 1) (hN s + 1 + (hN (rest1 s) + 1)) j (by omega) (by omega)
          rw [q1, q3, Nat.zero_add, q2]
      have e2 : rest1 (rest1 s) = s.extract (hN s + 1 + (hN (rest1 s) + 1)) s.size := by
        have hq : rest1 (rest1 s) = (rest1 s).extract (hN (rest1 s) + 1) (rest1 s).size := rfl
        rw [hq]
        refine byteAt_ext ?_ ?_
        · rw [extract_size _ _ _ (Nat.le_refl _), extract_size _ _ _ (Nat.le_refl _)]; omega
        · intro j hj
          rw [extract_size _ _ _ (Nat.le_refl _)] at hj
          have q1 := byteAt_extract (rest1 s) (hN (rest1 s) + 1) (rest1 s).size j (Nat.le_refl _) (by omega)
          have q2 : byteAt (rest1 s) (hN (rest1 s) + 1 + j) = byteAt s (hN s + 1 + (hN (rest1 s) + 1 + j)) := byteAt_extract s (hN s + 1) s.size (hN (rest1 s) + 1 + j) (Nat.le_refl _) (by omega)
          have q3 := byteAt_extract s (hN s + 1 + (hN (rest1 s) + 1)) s.size j (Nat.le_refl _) (by omega)
          have e9 : hN s + 1 + (hN (rest1 s) + 1) + j = hN s + 1 + (hN (rest1 s) + 1 + j) := by omega
          rw [q1, q3, q2, e9]
      refine ⟨hN s + 1, hN s + 1 + (hN (rest1 s) + 1), by omega, by omega, by omega, by omega, by rw [hf, k1]; omega, ?_, rfl, e1, e2⟩
      have e3 : decide ((rest1 (rest1 s)).size = 20) = decide (s.size = hN s + 1 + (hN (rest1 s) + 1) + 20) := by
        rw [decide_eq_decide]
        omega
      rw [soaOk, h3, k3, e1, e3]
end Go.Proofs.Ytgdbbdbfaglkdaa
