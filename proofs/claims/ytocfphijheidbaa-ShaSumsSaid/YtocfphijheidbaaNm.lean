/- The contract of name.May (chapter 2) over this seat's translation. -/
import Derived.Test.YtocfphijheidbaaByt
namespace Go.Proofs.Ytocfphijheidbaa
open Go.RowKit

def great (b : Nat) : Bool := decide (65 ≤ b ∧ b ≤ 90)
def anyG (s : ByteArray) (at' : Nat) : Nat → Bool
  | 0 => false
  | k + 1 => anyG s at' k || great (byteAt s (at' + k))
theorem anyG_yes {s : ByteArray} {at' k n : Nat} (hk : k < n) (h : great (byteAt s (at' + k)) = true) : anyG s at' n = true := by
  induction n with
  | zero => omega
  | succ n ih =>
    simp only [anyG]
    by_cases e : k = n
    · subst e; rw [h]; simp
    · rw [ih (by omega)]; simp
theorem anyG_congr {s t : ByteArray} {a b n : Nat} (h : ∀ j, j < n → byteAt s (a + j) = byteAt t (b + j)) : anyG s a n = anyG t b n := by
  induction n with
  | zero => rfl
  | succ n ih => simp only [anyG]; rw [ih fun j hj => h j (by omega), h n (by omega)]

theorem extract_size (s : ByteArray) (a b : Nat) (h : b ≤ s.size) : (s.extract a b).size = b - a := by rw [ByteArray.size_extract]; omega
theorem byteAt_extract (s : ByteArray) (a b j : Nat) (h : b ≤ s.size) (hj : a + j < b) : byteAt (s.extract a b) j = byteAt s (a + j) := by
  rw [← byte_get (s := s.extract a b) (i := j) (by rw [extract_size _ _ _ h]; omega), ← byte_get (s := s) (i := a + j) (by omega)]
  rw [ByteArray.getElem_extract]

/-- May the label of s that begins at a place be? -/
def okStep (s : ByteArray) (at' : Nat) : Bool := decide (1 ≤ byteAt s at') && decide (byteAt s at' ≤ 63) && decide (at' + 1 + byteAt s at' < s.size) && !anyG s (at' + 1) (byteAt s at')
def pastN (s : ByteArray) (at' : Nat) : Nat := if okStep s at' = true then at' + 1 + byteAt s at' else 0

def mayRun (s : ByteArray) : Nat → Nat → Bool
  | 0, at' => byteAt s at' == 0
  | f + 1, at' => if at' + 1 < s.size then okStep s at' && mayRun s f (at' + 1 + byteAt s at') else byteAt s at' == 0
def mayN (s : ByteArray) : Bool := decide (1 ≤ s.size ∧ s.size ≤ 255) && mayRun s s.size 0

theorem mayRun_more (s : ByteArray) : ∀ (f at' : Nat), s.size ≤ at' + 1 + f → mayRun s (f + 1) at' = mayRun s f at' := by
  intro f
  induction f with
  | zero => intro at' h; show (if at' + 1 < s.size then _ else _) = _; rw [if_neg (by omega)]; rfl
  | succ f ih =>
    intro at' h
    show (if at' + 1 < s.size then okStep s at' && mayRun s (f + 1) (at' + 1 + byteAt s at') else byteAt s at' == 0) = (if at' + 1 < s.size then okStep s at' && mayRun s f (at' + 1 + byteAt s at') else byteAt s at' == 0)
    rw [ih _ (by omega)]
theorem mayRun_step (s : ByteArray) (at' : Nat) (h : at' + 1 < s.size) : mayRun s s.size at' = (okStep s at' && mayRun s s.size (at' + 1 + byteAt s at')) := by
  rw [← mayRun_more s s.size at' (by omega)]
  show (if at' + 1 < s.size then okStep s at' && mayRun s s.size (at' + 1 + byteAt s at') else byteAt s at' == 0) = _
  rw [if_pos h]
theorem mayRun_end (s : ByteArray) (f at' : Nat) (h : ¬ at' + 1 < s.size) : mayRun s f at' = (byteAt s at' == 0) := by
  cases f with
  | zero => rfl
  | succ f => show (if at' + 1 < s.size then _ else _) = _; rw [if_neg h]

end Go.Proofs.Ytocfphijheidbaa
