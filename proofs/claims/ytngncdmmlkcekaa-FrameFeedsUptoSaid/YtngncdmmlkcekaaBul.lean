/- What the bound of the second form gives: slices of slices of bytes. -/
import Derived.Test.YtngncdmmlkcekaaRows
import Derived.Test.YtngncdmmlkcekaaBRw
import Derived.Test.YtngncdmmlkcekaaFrA
namespace Go.Proofs.Ytngncdmmlkcekaa
open Go.RowKit

theorem bulk_one {H : Type} (d : DataW H) : 1 ≤ Rows.uptoBulk d := by
  cases d with
  | lit l => cases l <;> simp [Rows.uptoBulk]
  | nil => simp [Rows.uptoBulk]
  | ptr d => simp [Rows.uptoBulk]
  | slice elems spare => simp [Rows.uptoBulk]
  | agg parts => simp [Rows.uptoBulk]
  | iface t d => simp [Rows.uptoBulk]
  | map entries => simp [Rows.uptoBulk]
  | held h => simp [Rows.uptoBulk]
theorem bulk_len {H : Type} (l : List (DataW H)) : l.length ≤ Rows.uptoBulkAll l := by
  induction l with
  | nil => simp [Rows.uptoBulkAll]
  | cons x r ih => have := bulk_one x; simp only [Rows.uptoBulkAll, List.length_cons]; omega
theorem bulk_row {H : Type} (A : Option Addr) (L : Nat) (zs : List Int) (h : A = none → zs.length = 0) (hL : L ≤ zs.length) : L + 1 ≤ Rows.uptoBulk (Go.Deep.intRow (H := H) .u8 A L zs) := by
  cases A with
  | none =>
    have := h rfl
    simp only [Go.Deep.intRow, Rows.uptoBulk]; omega
  | some a =>
    have h1 := bulk_len (Go.ChangeShapes.lits (H := H) .u8 (zs.take L))
    have h2 : (Go.ChangeShapes.lits (H := H) .u8 (zs.take L)).length = L := by simp [Go.ChangeShapes.lits]; omega
    simp only [Go.Deep.intRow, Rows.uptoBulk]; omega
theorem bulk_map {H : Type} (f : Nat → DataW H) (g : Nat → List UInt8) (l : List Nat) (h : ∀ r ∈ l, (g r).length + 1 ≤ Rows.uptoBulk (f r)) : sumL (l.map g) + l.length ≤ Rows.uptoBulkAll (l.map f) := by
  induction l with
  | nil => simp [Rows.uptoBulkAll, sumL]
  | cons x r ih =>
    have h1 := h x (by simp)
    have h2 := ih (fun y hy => h y (by simp [hy]))
    simp only [List.map_cons, Rows.uptoBulkAll, sumL_cons, List.length_cons]; omega
/-- What the reading of a slice of slices of bytes gives, and of what bulk it is. -/
theorem open_rowsBU {H : Type} {enc : TypeId × Value → H} {w : World} {base : Nat} {held : Bool} {fuel : Nat} {a : Option Addr} {len cap : Nat} {x : DataW H × List MemPlace} (h : DataW.trod enc Try.prog w base (fun _ => true) held fuel 44 (Value.slice a len cap).cells.toList = some x) :
    (a = none → len = 0 ∧ cap = 0) ∧ len ≤ maxLen ∧ ∃ M, RowBB w a len M ∧ (∀ m ∈ M, m.length ≤ maxLen) ∧ sumL M + len + 1 ≤ Rows.uptoBulk x.1 := by
  have h0 := h
  rcases Go.Deep.open_int_rows Try.underlying44 Try.underlying43 Try.underlying5 (by kernel_rfl) (by kernel_rfl) h with ⟨hcs, hx⟩ | ⟨a', len', cap', A, L, C, Z, hcs, _, hl, hm, hx, hall⟩
  · simp [Value.cells] at hcs
    obtain ⟨rfl, rfl, rfl⟩ := hcs
    exact ⟨fun _ => ⟨rfl, rfl⟩, Nat.zero_le _, [], ⟨[], ⟨rfl, Or.inl rfl⟩, rfl, fun j u h => by simp at h⟩, by simp, by rw [hx]; simp [Rows.uptoBulk, sumL]⟩
  · simp [Value.cells] at hcs
    obtain ⟨rfl, rfl, rfl⟩ := hcs
    obtain ⟨q1, q2, M, q3, q4⟩ := open_rowsB h0
    refine ⟨q1, q2, M, q3, q4, ?_⟩
    have hML : M.length = len := by obtain ⟨_, _, h2, _⟩ := q3; exact h2
    have hM : M = (List.range len).map (fun r => M.getD r []) := by
      apply List.ext_getElem?
      intro j
      by_cases hj : j < len
      · simp [hj, List.getD_eq_getElem?_getD, List.getElem?_eq_getElem (show j < M.length by omega)]
      · simp [hj]; omega
    have hb := bulk_map (H := H) (fun r => Go.Deep.intRow .u8 (A r) (L r) (Z r)) (fun r => M.getD r []) (List.range len) (fun r hr => by
      have hr2 : r < len := List.mem_range.1 hr
      obtain ⟨k0, k1, k2, k3, k4, k5, k6⟩ := hall r (by omega)
      obtain ⟨b, off, ai, ci, e1, e2, e3, _, _⟩ := q3.at r hr2
      injection e1 with e1
      rw [e1, Addr.add_mid, e3] at k0
      injection k0 with k0
      injection k0 with f1 f2 f3
      rw [f2]
      exact bulk_row (A r) (L r) (Z r) (fun hA => by have := k5 hA; omega) (by omega))
    rw [← hM, List.length_range] at hb
    rw [hx]
    simp only [Rows.uptoBulk]
    omega
end Go.Proofs.Ytngncdmmlkcekaa
