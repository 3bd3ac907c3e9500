/- Texts that others rest on, one behind the other: ScE, ScU, FrM, ScV. -/
import Derived.Test.YthfnphcefkdgbaaGreatScQ
import Derived.Test.YthfnphcefkdgbaaGreatMgK
import Derived.Test.YthfnphcefkdgbaaGreatCeM
section
namespace Go.Proofs.YthfnphcefkdgbaaGreat
open Go.RowKit
end Go.Proofs.YthfnphcefkdgbaaGreat
end
section
namespace Go.Proofs.YthfnphcefkdgbaaGreat
open Go.RowKit
end Go.Proofs.YthfnphcefkdgbaaGreat
end
section
namespace Go.Proofs.YthfnphcefkdgbaaGreat
open Go.RowKit
end Go.Proofs.YthfnphcefkdgbaaGreat
end
section
namespace Go.Proofs.YthfnphcefkdgbaaGreat
open Go.RowKit
theorem CN.p12 {w : World} {q : Nat} {c0 c1 c2 c3 c4 c5 c6 c7 c8 c9 c10 c11 : Value} (h : CN w q [c0, c1, c2, c3, c4, c5, c6, c7, c8, c9, c10, c11]) (d0 d1 d2 d3 d4 d5 d6 d7 d8 d9 d10 d11 : Value) : CN ((((((((((((w.setCell ⟨q, 0, none⟩ d0).setCell ⟨q, 1, none⟩ d1).setCell ⟨q, 2, none⟩ d2).setCell ⟨q, 3, none⟩ d3).setCell ⟨q, 4, none⟩ d4).setCell ⟨q, 5, none⟩ d5).setCell ⟨q, 6, none⟩ d6).setCell ⟨q, 7, none⟩ d7).setCell ⟨q, 8, none⟩ d8).setCell ⟨q, 9, none⟩ d9).setCell ⟨q, 10, none⟩ d10).setCell ⟨q, 11, none⟩ d11) q [d0, d1, d2, d3, d4, d5, d6, d7, d8, d9, d10, d11] :=
 (((((((((((h.set 0 (by simp) d0).set 1 (by simp) d1).set 2 (by simp) d2).set 3 (by simp) d3).set 4 (by simp) d4).set 5 (by simp) d5).set 6 (by simp) d6).set 7 (by simp) d7).set 8 (by simp) d8).set 9 (by simp) d9).set 10 (by simp) d10).set 11 (by simp) d11
theorem grown_p12 (w : World) (q : Nat) (d0 d1 d2 d3 d4 d5 d6 d7 d8 d9 d10 d11 : Value) : w.grownBy ((((((((((((w.setCell ⟨q, 0, none⟩ d0).setCell ⟨q, 1, none⟩ d1).setCell ⟨q, 2, none⟩ d2).setCell ⟨q, 3, none⟩ d3).setCell ⟨q, 4, none⟩ d4).setCell ⟨q, 5, none⟩ d5).setCell ⟨q, 6, none⟩ d6).setCell ⟨q, 7, none⟩ d7).setCell ⟨q, 8, none⟩ d8).setCell ⟨q, 9, none⟩ d9).setCell ⟨q, 10, none⟩ d10).setCell ⟨q, 11, none⟩ d11) (some q) :=
 (((((((((((grown_cell w q 0 d0).trans (grown_cell _ q 1 d1)).trans (grown_cell _ q 2 d2)).trans (grown_cell _ q 3 d3)).trans (grown_cell _ q 4 d4)).trans (grown_cell _ q 5 d5)).trans (grown_cell _ q 6 d6)).trans (grown_cell _ q 7 d7)).trans (grown_cell _ q 8 d8)).trans (grown_cell _ q 9 d9)).trans (grown_cell _ q 10 d10)).trans (grown_cell _ q 11 d11)
end Go.Proofs.YthfnphcefkdgbaaGreat
end
