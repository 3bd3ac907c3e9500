/- The contract of the document's MayName (chapter 2), its walk. -/
import Derived.Test.YtocfphijheidbaaMayR
namespace Go.Proofs.Ytocfphijheidbaa
open Go.RowKit

theorem anyG_up {s : ByteArray} {a n m : Nat} (h : anyG s a n = true) (hnm : n ≤ m) : anyG s a m = true := by
  induction m with
  | zero => have : n = 0 := by omega
            subst this; exact h
  | succ m ih =>
    by_cases e : n = m + 1
    · subst e; exact h
    · simp only [anyG]; rw [ih (by omega)]; simp

end Go.Proofs.Ytocfphijheidbaa
