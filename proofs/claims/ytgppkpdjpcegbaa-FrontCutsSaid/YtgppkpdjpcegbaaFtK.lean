/- Two questions compared. -/
import Derived.Test.YtgppkpdjpcegbaaFtF
import Derived.Test.YtgppkpdjpcegbaaFtQ
import Derived.Laws.StructEq
namespace Go.Proofs.Ytgppkpdjpcegbaa
open Go.RowKit

theorem qst_equal (an bn : ByteArray) (at1 ac bt bk : Int) (W : World) : (Op.equalIn 10000 27 (.agg #[.string an, .int .i64 at1, .int .i64 ac]) (.agg #[.string bn, .int .i64 bt, .int .i64 bk])).run Try.prog W = .ok (an.toList == bn.toList && (at1 == bt && ac == bk)) W := by
  have u3 := Try.underlying3
  have a3 := Try.isAgg3
  have z3 := Try.sizeOf3
  have u9 := Try.underlying9
  have a9 := Try.isAgg9
  have z9 := Try.sizeOf9
  have hS : Try.prog.underlying 27 = some (.struct (Try.prog.fieldsOf 27)) := by
    simp [Program.fieldsOf, Try.underlying27]
  rw [show (10000 : Nat) = 9999 + 1 from rfl, run_equalIn_agg W 9999 27 _ _ hS (by kernel_rfl)]
  simp only [Program.fieldsOf, Try.underlying27]
  go_simp
  by_cases h1 : an.toList = bn.toList <;> by_cases h2 : at1 = bt <;> by_cases h3 : ac = bk <;> simp [h1, h2, h3]
theorem qst_neq (an bn : ByteArray) (at1 ac bt bk : Int) (W : World) : (binOp .neq 27 (.agg #[.string an, .int .i64 at1, .int .i64 ac]) (.agg #[.string bn, .int .i64 bt, .int .i64 bk])).run Try.prog W = .ok (.bool (!(an.toList == bn.toList && (at1 == bt && ac == bk)))) W := by
  rw [run_neq_struct, qst_equal]; rfl
theorem qst_eql (an bn : ByteArray) (at1 ac bt bk : Int) (W : World) : (binOp .eql 27 (.agg #[.string an, .int .i64 at1, .int .i64 ac]) (.agg #[.string bn, .int .i64 bt, .int .i64 bk])).run Try.prog W = .ok (.bool (an.toList == bn.toList && (at1 == bt && ac == bk))) W := by
  rw [run_eql_struct, qst_equal]; rfl
theorem qst_same (a b : Ky) : (a.n.toList == b.n.toList && (a.t == b.t && a.c == b.c)) = true ↔ a = b := by
  obtain ⟨an, at1, ac⟩ := a
  obtain ⟨bn, bt, bk⟩ := b
  have h0 : an.toList = bn.toList ↔ an = bn := by
    rw [Lib.toList_data, Lib.toList_data]
    exact ⟨ba_eq, fun h => by rw [h]⟩
  simp [h0]
theorem cell_bel {w w' : World} (hb : Below w.heap.size w w') {a : Addr} {v : Value} (h : w.cell? a = some v) : w'.cell? a = some v := (hb.cell (p := a) (World.block_lt_of_cell? w a h)).trans h
end Go.Proofs.Ytgppkpdjpcegbaa
