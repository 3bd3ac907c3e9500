/- Zones: New, whose blocks are new. -/
import Derived.Test.YthfnphcefkdgbaaSUp
namespace Go.Proofs.Ythfnphcefkdgbaa
open Go.RowKit

/-- What New answers. -/
def NewU (apex : ByteArray) (l : List R5) (w : World) (e : Ending) (w' : World) : Prop :=
  (mayN apex = false ∧ e = .returned (.tuple #[.pointer none, .int .i64 10]) ∨ mayN apex = true ∧
    ((∃ r ∈ l, mayR5 r = false) ∧ e = .returned (.tuple #[.pointer none, .int .i64 4]) ∨ (∀ r ∈ l, mayR5 r = true) ∧
      (300 < l.length ∧ e = .returned (.tuple #[.pointer none, .int .i64 13]) ∨ l.length ≤ 300 ∧ ∃ S, Canon l S ∧ sumD S ≤ l.length ∧ S.length ≤ l.length ∧
        (wholeB apex S = false ∧ e = .returned (.tuple #[.pointer none, .int .i64 11]) ∨ wholeB apex S = true ∧ ∃ z, e = .returned (.tuple #[.pointer (some ⟨z, 0, none⟩), .int .i64 0]) ∧ w.heap.size ≤ z ∧ ZnUp w' w.heap.size z apex S)))) ∧ Below w.heap.size w w'
theorem NewU.toR {apex : ByteArray} {l : List R5} {w w' : World} {e : Ending} (h : NewU apex l w e w') : NewR apex l w e w' := by
  obtain ⟨h, hb⟩ := h
  refine ⟨?_, hb⟩
  rcases h with h | ⟨h1, h | ⟨h2, h | ⟨h3, S, hc, hs, hl, h | ⟨hw, z, he, hz, hza⟩⟩⟩⟩
  · exact Or.inl h
  · exact Or.inr ⟨h1, Or.inl h⟩
  · exact Or.inr ⟨h1, Or.inr ⟨h2, Or.inl h⟩⟩
  · exact Or.inr ⟨h1, Or.inr ⟨h2, Or.inr ⟨h3, S, hc, hs, hl, Or.inl h⟩⟩⟩
  · exact Or.inr ⟨h1, Or.inr ⟨h2, Or.inr ⟨h3, S, hc, hs, hl, Or.inr ⟨hw, z, he, hz, hza.is⟩⟩⟩⟩
end Go.Proofs.Ythfnphcefkdgbaa
