/- Zones: New. -/
import Derived.Test.YthfnphcefkdgbaaMgO
import Derived.Test.YthfnphcefkdgbaaMgC
namespace Go.Proofs.Ythfnphcefkdgbaa
open Go.RowKit

def mayR5 (r : R5) : Bool := mayR r.k.n r.k.t r.k.c r.ttl r.d
/-- What New answers. -/
def NewR (apex : ByteArray) (l : List R5) (w : World) (e : Ending) (w' : World) : Prop :=
  (mayN apex = false ∧ e = .returned (.tuple #[.pointer none, .int .i64 10]) ∨ mayN apex = true ∧
    ((∃ r ∈ l, mayR5 r = false) ∧ e = .returned (.tuple #[.pointer none, .int .i64 4]) ∨ (∀ r ∈ l, mayR5 r = true) ∧
      (300 < l.length ∧ e = .returned (.tuple #[.pointer none, .int .i64 13]) ∨ l.length ≤ 300 ∧ ∃ S, Canon l S ∧ sumD S ≤ l.length ∧ S.length ≤ l.length ∧
        (wholeB apex S = false ∧ e = .returned (.tuple #[.pointer none, .int .i64 11]) ∨ wholeB apex S = true ∧ ∃ z, e = .returned (.tuple #[.pointer (some ⟨z, 0, none⟩), .int .i64 0]) ∧ w.heap.size ≤ z ∧ ZnAt w' z apex S)))) ∧ Below w.heap.size w w'
theorem Canon.sz {l : List R5} {S : List SetP} (h : Canon l S) (h1 : sumD S ≤ l.length) (h2 : S.length ≤ l.length) (hl : l.length ≤ 100000) (hk : ∀ r ∈ l, r.k.n.size ≤ 1000000) : SzZ S :=
  ⟨by omega, fun s hs => ⟨(h.size (b2 := 0 + (l.map fun r => r.d.size).foldr max 0) hk (fun r hr => by
    have : ∀ (L : List R5), r ∈ L → r.d.size ≤ (L.map fun r => r.d.size).foldr max 0 := fun L => by
      induction L with
      | nil => intro h; cases h
      | cons x L ih =>
        intro h
        rw [List.map_cons, List.foldr_cons]
        rcases List.mem_cons.1 h with rfl | h
        · exact Nat.le_max_left _ _
        · exact Nat.le_trans (ih h) (Nat.le_max_right _ _)
    rw [Nat.zero_add]
    exact this l hr) hs).1, Nat.le_trans (data_le_sum hs) (by omega)⟩⟩
end Go.Proofs.Ythfnphcefkdgbaa
