/- Plain facts on names ahead of other data (chapter 3). -/
import Derived.Test.YtgdbbdbfaglkdaaNm
namespace Go.Proofs.Ytgdbbdbfaglkdaa
open Go.RowKit

/-- Where the name that stands ahead has its end. -/
def hRun (s : ByteArray) : Nat → Nat → Nat
  | 0, i => i
  | f + 1, i => if i < s.size then (if byteAt s i = 0 then i else hRun s f (i + 1 + byteAt s i)) else i
def hN (s : ByteArray) : Nat := hRun s s.size 0
theorem hRun_more (s : ByteArray) : ∀ (f i : Nat), s.size ≤ i + f → hRun s (f + 1) i = hRun s f i := by
  intro f
  induction f with
  | zero => intro i h; show (if i < s.size then _ else _) = _; rw [if_neg (by omega)]; rfl
  | succ f ih =>
    intro i h
    show (if i < s.size then (if byteAt s i = 0 then i else hRun s (f + 1) (i + 1 + byteAt s i)) else i) = (if i < s.size then (if byteAt s i = 0 then i else hRun s f (i + 1 + byteAt s i)) else i)
    rw [ih _ (by omega)]
theorem hRun_step (s : ByteArray) (i : Nat) : hRun s s.size i = if i < s.size then (if byteAt s i = 0 then i else hRun s s.size (i + 1 + byteAt s i)) else i := by
  rw [← hRun_more s s.size i (by omega)]
  rfl

/-- The first bytes of a text. -/
def Pre (t s : ByteArray) : Prop := t.size ≤ s.size ∧ ∀ j, j < t.size → byteAt t j = byteAt s j
theorem hRun_pre {t s : ByteArray} (h : Pre t s) : ∀ (d i : Nat), t.size - i ≤ d → hRun t t.size i < t.size → hRun s s.size i = hRun t t.size i := by
  intro d
  induction d with
  | zero =>
    intro i h1 h2
    rw [hRun_step, if_neg (by omega)] at h2
    omega
  | succ d ih =>
    intro i h1 h2
    by_cases hi : i < t.size
    · have hb := h.2 i hi
      have hs := h.1
      rw [hRun_step t, if_pos hi] at h2 ⊢
      rw [hRun_step s, if_pos (by omega), ← hb]
      by_cases h0 : byteAt t i = 0
      · rw [if_pos h0, if_pos h0]
      · rw [if_neg h0] at h2
        rw [if_neg h0, if_neg h0]
        exact ih _ (by omega) h2
    · rw [hRun_step, if_neg hi] at h2
      omega
theorem hN_pre {t s : ByteArray} (h : Pre t s) (h2 : hN t < t.size) : hN s = hN t := hRun_pre h t.size 0 (by omega) h2

theorem mayRun_hRun (s : ByteArray) : ∀ (d i : Nat), s.size - i ≤ d → i < s.size → mayRun s s.size i = true → hRun s s.size i = s.size - 1 := by
  intro d
  induction d with
  | zero => intro i h1 h2; omega
  | succ d ih =>
    intro i h1 h2 h3
    by_cases hi : i + 1 < s.size
    · rw [mayRun_step s i hi] at h3
      simp only [okStep, Bool.and_eq_true, decide_eq_true_eq] at h3
      obtain ⟨⟨⟨⟨k1, k2⟩, k3⟩, _⟩, k5⟩ := h3
      rw [hRun_step, if_pos h2, if_neg (by omega)]
      exact ih _ (by omega) k3 k5
    · rw [mayRun_end s s.size i hi] at h3
      rw [hRun_step, if_pos h2, if_pos (by simpa using h3)]
      omega
theorem mayN_size {s : ByteArray} (h : mayN s = true) : 1 ≤ s.size ∧ s.size ≤ 255 := by
  simp only [mayN, Bool.and_eq_true, decide_eq_true_eq] at h
  exact h.1
theorem mayN_hN {s : ByteArray} (h : mayN s = true) : hN s = s.size - 1 := by
  have h1 := mayN_size h
  simp only [mayN, Bool.and_eq_true, decide_eq_true_eq] at h
  exact mayRun_hRun s s.size 0 (by omega) (by omega) h.2
theorem name_pre {t s : ByteArray} (h : Pre t s) (ht : mayN t = true) (hs : mayN s = true) : t.size = s.size := by
  have h1 := mayN_hN ht
  have h2 := mayN_hN hs
  have h3 := mayN_size ht
  have h4 := mayN_size hs
  have h5 := hN_pre h (by omega)
  omega

/-- The parts of an SOA's data. -/
def headOk (s : ByteArray) : Bool := decide (hN s < s.size) && mayN (s.extract 0 (hN s + 1))
def rest1 (s : ByteArray) : ByteArray := s.extract (hN s + 1) s.size
def head1 (s : ByteArray) : ByteArray := s.extract 0 (hN s + 1)
def soaOk (s : ByteArray) : Bool := headOk s && headOk (rest1 s) && decide ((rest1 (rest1 s)).size = 20)
theorem headOk_lt {s : ByteArray} (h : headOk s = true) : hN s < s.size := by
  simp only [headOk, Bool.and_eq_true, decide_eq_true_eq] at h
  exact h.1
theorem headOk_may {s : ByteArray} (h : headOk s = true) : mayN (head1 s) = true := by
  simp only [headOk, Bool.and_eq_true, decide_eq_true_eq] at h
  exact h.2
theorem rest1_size (s : ByteArray) : (rest1 s).size = s.size - (hN s + 1) := extract_size _ _ _ (Nat.le_refl _)
theorem pre_tail {t s : ByteArray} (h : Pre t s) (k : Nat) : Pre (t.extract k t.size) (s.extract k s.size) := by
  have h1 := h.1
  constructor
  · rw [extract_size _ _ _ (Nat.le_refl _), extract_size _ _ _ (Nat.le_refl _)]; omega
  · intro j hj
    rw [extract_size _ _ _ (Nat.le_refl _)] at hj
    rw [byteAt_extract _ _ _ _ (Nat.le_refl _) (by omega), byteAt_extract _ _ _ _ (Nat.le_refl _) (by omega)]
    exact h.2 _ (by omega)
theorem soa_pre {t s : ByteArray} (h : Pre t s) (ht : soaOk t = true) (hs : soaOk s = true) : t.size = s.size := by
  simp only [soaOk, Bool.and_eq_true, decide_eq_true_eq] at ht hs
  obtain ⟨⟨t1, t2⟩, t3⟩ := ht
  obtain ⟨⟨s1, s2⟩, s3⟩ := hs
  have a1 := headOk_lt t1
  have a2 := headOk_lt t2
  have e1 := hN_pre h a1
  have hp : Pre (rest1 t) (rest1 s) := by unfold rest1; rw [e1]; exact pre_tail h _
  have e2 := hN_pre hp a2
  have a3 := headOk_lt s1
  have a4 := headOk_lt s2
  rw [rest1_size] at t3 s3
  rw [rest1_size] at t3 s3 a2 a4
  omega
theorem pre_cut (s : ByteArray) (c : Nat) (h : c ≤ s.size) : Pre (s.extract 0 c) s := by
  constructor
  · rw [extract_size _ _ _ h]; omega
  · intro j hj
    rw [extract_size _ _ _ h] at hj
    rw [byteAt_extract _ _ _ _ h (by omega), Nat.zero_add]
theorem byteAt_append_left (s t : ByteArray) (j : Nat) (h : j < s.size) : byteAt (s ++ t) j = byteAt s j := by
  have h' : j < s.data.toList.length := by simpa using h
  unfold byteAt
  rw [ByteArray.data_append, Array.toList_append, List.getD_eq_getElem?_getD, List.getD_eq_getElem?_getD, List.getElem?_append_left h']
theorem byteAt_append_right (s t : ByteArray) (j : Nat) : byteAt (s ++ t) (s.size + j) = byteAt t j := by
  have h' : s.data.toList.length = s.size := by simp
  unfold byteAt
  rw [ByteArray.data_append, Array.toList_append, List.getD_eq_getElem?_getD, List.getD_eq_getElem?_getD, List.getElem?_append_right (by omega)]
  congr 2
  simp
theorem pre_add (s t : ByteArray) : Pre s (s ++ t) := by
  constructor
  · rw [ByteArray.size_append]; omega
  · intro j hj
    rw [byteAt_append_left s t j hj]
/-- Two texts of the same bytes. -/
theorem byteAt_ext {s t : ByteArray} (h : s.size = t.size) (hb : ∀ j, j < s.size → byteAt s j = byteAt t j) : s = t := by
  apply ByteArray.ext
  apply Array.ext
  · exact h
  · intro i h1 h2
    have e1 := byte_get (s := s) (i := i) h1
    have e2 := byte_get (s := t) (i := i) h2
    have := hb i h1
    rw [← e1, ← e2] at this
    exact UInt8.toNat_inj.mp this
end Go.Proofs.Ytgdbbdbfaglkdaa
