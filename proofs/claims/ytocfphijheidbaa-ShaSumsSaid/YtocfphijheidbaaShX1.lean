/- The constants are roots: a part of them, told by the kernel. -/
import Derived.Test.YtocfphijheidbaaShX0
namespace Go.Proofs.Ytocfphijheidbaa
open Go.RowKit

set_option maxRecDepth 1000000 in
theorem kay_root0 : ∀ j, j < 20 → rootF (prF (0 + j)) 3 = kayF (0 + j) := by decide +kernel
set_option maxRecDepth 1000000 in
theorem ini_root : ∀ j, j < 8 → rootF (prF (8 + j)) 2 = iniF j := by decide +kernel
end Go.Proofs.Ytocfphijheidbaa
