/- The constants are roots. -/
import Derived.Test.YtocfphijheidbaaShX1
import Derived.Test.YtocfphijheidbaaShX2
import Derived.Test.YtocfphijheidbaaShX3
import Derived.Test.YtocfphijheidbaaShX4
namespace Go.Proofs.Ytocfphijheidbaa
open Go.RowKit

theorem kay_root (j : Nat) (hj : j < 80) : rootF (prF j) 3 = kayF j := by
  rcases (by omega : j < 20 ∨ (20 ≤ j ∧ j < 40) ∨ (40 ≤ j ∧ j < 60) ∨ 60 ≤ j) with h | h | h | h
  · have := kay_root0 j h; rwa [Nat.zero_add] at this
  · have := kay_root1 (j - 20) (by omega); rwa [show 20 + (j - 20) = j by omega] at this
  · have := kay_root2 (j - 40) (by omega); rwa [show 40 + (j - 40) = j by omega] at this
  · have := kay_root3 (j - 60) (by omega); rwa [show 60 + (j - 60) = j by omega] at this
end Go.Proofs.Ytocfphijheidbaa
