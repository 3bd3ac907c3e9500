/- Two keys compared. -/
import Derived.Test.YtgdhbelcellabaaKey
import Derived.Laws.StructEq
namespace Go.Proofs.Ytgdhbelcellabaa
open Go.RowKit

theorem key_equal (an bn : ByteArray) (at1 ac bt bk : Int) (W : World) : (Op.equalIn 10000 36 (.agg #[.string an, .int .i64 at1, .int .i64 ac]) (.agg #[.string bn, .int .i64 bt, .int .i64 bk])).run Try.prog W = .ok (an.toList == bn.toList && (at1 == bt && ac == bk)) W := by
  have u3 := Try.underlying3
  have a3 := Try.isAgg3
  have z3 := Try.sizeOf3
  have u9 := Try.underlying9
  have a9 := Try.isAgg9
  have z9 := Try.sizeOf9
  have hS : Try.prog.underlying 36 = some (.struct (Try.prog.fieldsOf 36)) := by
    simp [Program.fieldsOf, Try.underlying36]
  rw [show (10000 : Nat) = 9999 + 1 from rfl, run_equalIn_agg W 9999 36 _ _ hS (by kernel_rfl)]
  simp only [Program.fieldsOf, Try.underlying36]
  go_simp
  by_cases h1 : an.toList = bn.toList <;> by_cases h2 : at1 = bt <;> by_cases h3 : ac = bk <;> simp [h1, h2, h3]
theorem key_neq (an bn : ByteArray) (at1 ac bt bk : Int) (W : World) : (binOp .neq 36 (.agg #[.string an, .int .i64 at1, .int .i64 ac]) (.agg #[.string bn, .int .i64 bt, .int .i64 bk])).run Try.prog W = .ok (.bool (!(an.toList == bn.toList && (at1 == bt && ac == bk)))) W := by
  rw [run_neq_struct, key_equal]; rfl
theorem key_eql (an bn : ByteArray) (at1 ac bt bk : Int) (W : World) : (binOp .eql 36 (.agg #[.string an, .int .i64 at1, .int .i64 ac]) (.agg #[.string bn, .int .i64 bt, .int .i64 bk])).run Try.prog W = .ok (.bool (an.toList == bn.toList && (at1 == bt && ac == bk))) W := by
  rw [run_eql_struct, key_equal]; rfl
theorem key_same (a b : Ky) : (a.n.toList == b.n.toList && (a.t == b.t && a.c == b.c)) = true ↔ a = b := by
  obtain ⟨an, at1, ac⟩ := a
  obtain ⟨bn, bt, bk⟩ := b
  have h0 : an.toList = bn.toList ↔ an = bn := by
    rw [Lib.toList_data, Lib.toList_data]
    exact ⟨ba_eq, fun h => by rw [h]⟩
  simp [h0]
end Go.Proofs.Ytgdhbelcellabaa
