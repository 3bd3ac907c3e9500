/- The constants are roots: a part of them, told by the kernel. -/
import Derived.Test.YtocfphijheidbaaShX0
namespace Go.Proofs.Ytocfphijheidbaa
open Go.RowKit

set_option maxRecDepth 1000000 in
theorem kay_root1 : ∀ j, j < 20 → rootF (prF (20 + j)) 3 = kayF (20 + j) := by decide +kernel
end Go.Proofs.Ytocfphijheidbaa
