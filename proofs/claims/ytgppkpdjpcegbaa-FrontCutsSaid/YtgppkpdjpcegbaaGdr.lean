/- A world that grew and drew. -/
import Derived.Test.YtgppkpdjpcegbaaKpW
namespace Go.Proofs.Ytgppkpdjpcegbaa
open Go.RowKit

theorem grown_drew {w w' : World} {row : Option Nat} (h : w.grownBy w' row) : w.grownBy w'.drew row := ⟨h.os, h.tape, h.output, h.size, h.block⟩
end Go.Proofs.Ytgppkpdjpcegbaa
