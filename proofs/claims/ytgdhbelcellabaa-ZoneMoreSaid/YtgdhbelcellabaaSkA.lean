/- Small contracts of chapter 4: keys as the document's, their order there, may a key be. -/
import Derived.Test.YtgdhbelcellabaaSPl
import Derived.Test.YtgdhbelcellabaaKor
import Derived.Test.YtgdhbelcellabaaSm4
import Derived.Test.YtgdhbelcellabaaCeK
import Derived.Test.YtgdhbelcellabaaMgA
import Derived.Test.YtgdhbelcellabaaClR
import Derived.Deep.DeepCutAuto
import Derived.Deep.AppendLies
import Derived.Deep.RegionLaw
namespace Go.Proofs.Ytgdhbelcellabaa
open Go.RowKit

set_option maxRecDepth 100000 in
theorem keyConv (n : ByteArray) (t c : Int) (w : World) : Calls Try.prog 75 #[.agg #[.string n, .int .i64 t, .int .i64 c]] w fun e w' => e = .returned (.agg #[.string n, .int .i64 t, .int .i64 c]) ∧ Below w.heap.size w w' := by
  go_enter Try.func75, Try.ntmps75
  go_wp2
  refine bodyPost_ret (v := .agg #[.string n, .int .i64 t, .int .i64 c]) (by simp [results, Try.results75, go_sem]) rfl ⟨rfl, ?_⟩
  repeat (first | exact Below.refl _ _ | apply Below.drew | refine Below.alloc ?_ (by simp) _ | refine Below.setCell ?_ (by simp) _)
def r16 (x : Int) : Bool := decide (0 ≤ x) && decide (x ≤ 65535)
def mayK (k : Ky) : Bool := mayN k.n && (r16 k.c && r16 k.t)
end Go.Proofs.Ytgdhbelcellabaa
