/- Contracts of package num's functions (chapter 1), and of its document's answers, over this seat's translation: Put. -/
import Derived.Test.YtocfphijheidbaaNumA
import Derived.Test.YtocfphijheidbaaMgW
namespace Go.Proofs.Ytocfphijheidbaa
open Go.RowKit

end Go.Proofs.Ytocfphijheidbaa
