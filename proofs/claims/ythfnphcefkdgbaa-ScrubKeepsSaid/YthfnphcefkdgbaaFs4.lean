/- The examples of chapter 4 hold. -/
import Derived.Test.YthfnphcefkdgbaaGrW
import Derived.Test.YthfnphcefkdgbaaMgE
namespace Go.Proofs.Ythfnphcefkdgbaa
open Go.RowKit

def r4a : R5 := ⟨⟨⟨#[0]⟩, 1, 1⟩, 5, ⟨#[1, 1, 1, 2]⟩⟩
def r4b : R5 := ⟨⟨⟨#[0]⟩, 1, 1⟩, 3, ⟨#[1, 1, 1, 1]⟩⟩
theorem perm2 {a b : R5} {l : List R5} (h : l.Perm [a, b]) : l = [a, b] ∨ l = [b, a] := by
  have hl := h.length_eq
  match l, hl with
  | [x, y], _ =>
    have hx : x ∈ [a, b] := h.mem_iff.1 (by simp)
    rcases List.mem_cons.1 hx with rfl | hx
    · left
      have h2 := List.Perm.cons_inv h
      rw [List.perm_singleton] at h2
      simpa using h2
    · right
      obtain rfl := List.mem_singleton.1 hx
      have h2 := List.Perm.cons_inv (h.trans (List.Perm.swap x a []))
      rw [List.perm_singleton] at h2
      simpa using h2
theorem first_grp {l : List R5} (h : l.Perm [r4a, r4b]) (hs : SortedR l) : grpK l 2 = [⟨⟨⟨#[0]⟩, 1, 1⟩, 3, [⟨#[1, 1, 1, 1]⟩, ⟨#[1, 1, 1, 2]⟩]⟩] := by
  rcases perm2 h with rfl | rfl
  · exfalso
    have h1 : rcmp r4a r4b ≤ 0 := by
      have := hs
      rw [SortedR, List.pairwise_cons] at this
      exact this.1 r4b (by simp)
    have hkk : kcmp r4a.k r4b.k = 0 := (ord_kcmp.zero _ _).2 rfl
    rw [rcmp, or2, hkk, if_pos rfl] at h1
    have h2 : cmpB r4a.d r4b.d = 1 := by decide +kernel
    omega
  · have hne : ¬ (some (⟨#[1, 1, 1, 1]⟩ : ByteArray) = some ⟨#[1, 1, 1, 2]⟩) := by decide
    have g1 : grpK [r4b, r4a] 1 = [⟨⟨⟨#[0]⟩, 1, 1⟩, 3, [⟨#[1, 1, 1, 1]⟩]⟩] := by
      simp [grpK, addD, r4a, r4b]
    rw [grpK, g1]
    simp [lastOr, addD, r4a, r4b]
    omega

theorem rowS_cells {w : World} {a : Option Addr} {n : Nat} {l : List ByteArray} (h : CellsAt w a n (sc l)) : RowS w a n l := by
  have hl : l.length = n := by have := h.1; rw [sc, List.length_map] at this; exact this
  refine ⟨hl, ?_⟩
  rcases h.2 with h0 | ⟨b, off, rfl, hlt, hc⟩
  · exact Or.inl h0
  · exact Or.inr ⟨b, off, rfl, hlt, fun j hj => hc j _ (by simp [sc, List.getD_eq_getElem?_getD, List.getElem?_eq_getElem (show j < l.length by omega)])⟩
theorem rowS_lit2 (w : World) (x y : ByteArray) (T : TypeId) : RowS (w.alloc (.cells #[.string x, .string y] T)) (some ⟨w.heap.size, 0, none⟩) 2 [x, y] := rowS_cells (cells_lit w #[.string x, .string y] T)

end Go.Proofs.Ythfnphcefkdgbaa
