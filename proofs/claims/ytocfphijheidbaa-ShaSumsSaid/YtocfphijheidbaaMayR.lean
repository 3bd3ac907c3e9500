/- The contract of the document's MayName (chapter 2) over this seat's translation. -/
import Derived.Test.YtocfphijheidbaaNm
namespace Go.Proofs.Ytocfphijheidbaa
open Go.RowKit

def endRun (s : ByteArray) (A : Nat) : Nat → Nat → Int
  | 0, _ => -1
  | f + 1, i => if i < s.size then (if byteAt s i = 0 then (if 255 < i + 1 - A then -1 else ((i + 1 : Nat) : Int)) else if 63 < byteAt s i then -1 else endRun s A f (i + byteAt s i + 1)) else -1
def gRun (s : ByteArray) : Nat → Nat → Bool
  | 0, _ => false
  | f + 1, i => if i < s.size then anyG s (i + 1) (min (byteAt s i) (s.size - (i + 1))) || gRun s f (i + byteAt s i + 1) else false

theorem endRun_more (s : ByteArray) (A : Nat) : ∀ (f i : Nat), s.size ≤ i + f → endRun s A (f + 1) i = endRun s A f i := by
  intro f
  induction f with
  | zero => intro i h; show (if i < s.size then _ else _) = _; rw [if_neg (by omega)]; rfl
  | succ f ih =>
    intro i h
    show (if i < s.size then (if byteAt s i = 0 then (if 255 < i + 1 - A then -1 else ((i + 1 : Nat) : Int)) else if 63 < byteAt s i then -1 else endRun s A (f + 1) (i + byteAt s i + 1)) else -1) = (if i < s.size then (if byteAt s i = 0 then (if 255 < i + 1 - A then -1 else ((i + 1 : Nat) : Int)) else if 63 < byteAt s i then -1 else endRun s A f (i + byteAt s i + 1)) else -1)
    rw [ih _ (by omega)]
theorem endRun_step (s : ByteArray) (A i : Nat) : endRun s A s.size i = if i < s.size then (if byteAt s i = 0 then (if 255 < i + 1 - A then -1 else ((i + 1 : Nat) : Int)) else if 63 < byteAt s i then -1 else endRun s A s.size (i + byteAt s i + 1)) else -1 := by
  rw [← endRun_more s A s.size i (by omega)]
  rfl
theorem gRun_more (s : ByteArray) : ∀ (f i : Nat), s.size ≤ i + f → gRun s (f + 1) i = gRun s f i := by
  intro f
  induction f with
  | zero => intro i h; show (if i < s.size then _ else _) = _; rw [if_neg (by omega)]; rfl
  | succ f ih =>
    intro i h
    show (if i < s.size then anyG s (i + 1) (min (byteAt s i) (s.size - (i + 1))) || gRun s (f + 1) (i + byteAt s i + 1) else false) = (if i < s.size then anyG s (i + 1) (min (byteAt s i) (s.size - (i + 1))) || gRun s f (i + byteAt s i + 1) else false)
    rw [ih _ (by omega)]
theorem gRun_step (s : ByteArray) (i : Nat) : gRun s s.size i = if i < s.size then anyG s (i + 1) (min (byteAt s i) (s.size - (i + 1))) || gRun s s.size (i + byteAt s i + 1) else false := by
  rw [← gRun_more s s.size i (by omega)]
  rfl

theorem ref_run (s : ByteArray) (h255 : s.size ≤ 255) : ∀ (d i : Nat), i < s.size → s.size - i ≤ d → (!gRun s s.size i && endRun s 0 s.size i == (s.size : Int)) = mayRun s s.size i := by
  intro d
  induction d with
  | zero => intro i h1 h2; omega
  | succ d ih =>
    intro i h1 h2
    rw [gRun_step, endRun_step, if_pos h1, if_pos h1]
    by_cases hl : i + 1 < s.size
    · rw [mayRun_step s i hl]
      by_cases k0 : byteAt s i = 0
      · rw [if_pos k0, if_neg (by omega), okStep, k0]
        simp
        intros
        omega
      · rw [if_neg k0]
        by_cases k63 : 63 < byteAt s i
        · rw [if_pos k63, okStep, dF (p := byteAt s i ≤ 63) (by omega)]
          simp
        · rw [if_neg k63]
          by_cases kn : i + 1 + byteAt s i < s.size
          · have hi := ih (i + byteAt s i + 1) (by omega) (by omega)
            have e : i + 1 + byteAt s i = i + byteAt s i + 1 := by omega
            rw [e, ← hi, okStep, dT (p := 1 ≤ byteAt s i) (by omega), dT (p := byteAt s i ≤ 63) (by omega), dT kn, Nat.min_eq_left (by omega)]
            cases anyG s (i + 1) (byteAt s i) <;> simp
          · rw [endRun_step, if_neg (by omega), okStep, dF kn]
            simp
    · rw [mayRun_end s s.size i hl]
      by_cases k0 : byteAt s i = 0
      · rw [if_pos k0, if_neg (by omega), gRun_step, if_neg (by omega), k0]
        simp [anyG]
        omega
      · have e : (byteAt s i == 0) = false := by simpa using k0
        have e2 : endRun s 0 s.size (i + byteAt s i + 1) = -1 := by rw [endRun_step, if_neg (by omega)]
        rw [if_neg k0, e, e2]
        split <;> simp

theorem endRun_255 (s : ByteArray) : ∀ (f i : Nat), endRun s 0 f i ≤ 255 := by
  intro f
  induction f with
  | zero => intro i; simp [endRun]
  | succ f ih =>
    intro i
    simp only [endRun]
    repeat' split
    all_goals first | omega | exact ih _

theorem ref_may (s : ByteArray) : (!gRun s s.size 0 && endRun s 0 s.size 0 == (s.size : Int)) = mayN s := by
  by_cases h0 : s.size = 0
  · rw [endRun_step, if_neg (by omega), mayN, dF (p := 1 ≤ s.size ∧ s.size ≤ 255) (by omega)]
    simp
  · by_cases h : s.size ≤ 255
    · rw [ref_run s h s.size 0 (by omega) (by omega), mayN, dT (p := 1 ≤ s.size ∧ s.size ≤ 255) (by omega)]
      rfl
    · have := endRun_255 s s.size 0
      rw [mayN, dF (p := 1 ≤ s.size ∧ s.size ≤ 255) (by omega)]
      simp
      omega

end Go.Proofs.Ytocfphijheidbaa
