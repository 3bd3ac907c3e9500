/- Texts that others rest on, one behind the other: NumB, NumC, NumD, NumE, AppI, NumJ. -/
import Derived.Test.YthfnphcefkdgbaaGreatMgC
import Derived.Deep.AppendLies
import Derived.Deep.RegionLaw
import Derived.BigRegion
import Derived.Test.YthfnphcefkdgbaaGreatMgA
import Derived.Laws.AppendOwnNone
section
namespace Go.Proofs.YthfnphcefkdgbaaGreat
open Go.RowKit
end Go.Proofs.YthfnphcefkdgbaaGreat
end
section
namespace Go.Proofs.YthfnphcefkdgbaaGreat
open Go.RowKit
end Go.Proofs.YthfnphcefkdgbaaGreat
end
section
namespace Go.Proofs.YthfnphcefkdgbaaGreat
open Go.RowKit
end Go.Proofs.YthfnphcefkdgbaaGreat
end
section
namespace Go.Proofs.YthfnphcefkdgbaaGreat
open Go.RowKit
end Go.Proofs.YthfnphcefkdgbaaGreat
end
section
namespace Go.Proofs.YthfnphcefkdgbaaGreat
open Go.RowKit
end Go.Proofs.YthfnphcefkdgbaaGreat
end
section
namespace Go.Proofs.YthfnphcefkdgbaaGreat
open Go.RowKit
theorem row_lit1 (w : World) (x : Int) (t : TypeId) : Row (w.alloc (.cells #[.int .i64 x] t)) (some ⟨w.heap.size, 0, none⟩) 1 [x] := by
 refine ⟨rfl, Or.inr ⟨w.heap.size, 0, rfl, by simp, ?_⟩⟩
 intro j hj
 have : j = 0 := by omega
 subst this
 simp [World.cell?_alloc_at]
end Go.Proofs.YthfnphcefkdgbaaGreat
end
