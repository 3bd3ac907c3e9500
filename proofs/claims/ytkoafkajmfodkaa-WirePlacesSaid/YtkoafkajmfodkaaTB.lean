/- Blocks by the type of their elements. -/
import Derived.Test.YtkoafkajmfodkaaMgA
namespace Go.Proofs.Ytkoafkajmfodkaa
open Go.RowKit

/-- A block of elements of type T. -/
def TB (w : World) (q : Nat) (T : TypeId) : Prop := ∃ cur, w.heap[q]? = some (.cells cur T (0, 0))
theorem TB.lt {w : World} {q : Nat} {T : TypeId} (h : TB w q T) : q < w.heap.size := by
  obtain ⟨c, h⟩ := h; exact (Array.getElem?_eq_some_iff.1 h).1
theorem TB.new (w : World) (cs : Array Value) (T : TypeId) : TB (w.alloc (.cells cs T)) w.heap.size T := ⟨cs, heap_alloc_new w _⟩
theorem TB.below {w w' : World} {q : Nat} {T : TypeId} (h : TB w q T) (hb : Below w.heap.size w w') : TB w' q T := by
  have hl := h.lt
  obtain ⟨c, h⟩ := h
  exact ⟨c, (hb.block q hl).trans h⟩
theorem TB.grown {w w' : World} {q : Nat} {T : TypeId} {row : Option Nat} (h : TB w q T) (hg : w.grownBy w' row) (hne : row ≠ some q) : TB w' q T := by
  have hl := h.lt
  obtain ⟨c, h⟩ := h
  exact ⟨c, (hg.block q hl (fun e => hne e.symm)).trans h⟩
theorem TB.set {w : World} {q : Nat} {T : TypeId} (h : TB w q T) (i : Nat) (v : Value) : TB (w.setCell ⟨q, i, none⟩ v) q T := by
  obtain ⟨c, h⟩ := h
  exact ⟨_, heap_setCell_same w q i c T v h⟩
theorem own_ne {w : World} {B n size q : Nat} {e T : TypeId} {v : Value} {xs : List Value} (h : w.ownsRow B e size v n xs) (t : TB w q T) (hne : e ≠ T) : v.ownBlock ≠ some q := by
  intro hv
  rcases h.2 with ⟨rfl, _⟩ | ⟨g, cap, cur, rfl, _, hg, _⟩
  · cases hv
  · obtain ⟨c, t⟩ := t
    injection hv with hv
    have : g = q := hv
    subst this
    rw [hg] at t
    injection t with t
    injection t with _ t2
    exact hne t2
theorem TB.s12 {w : World} {q : Nat} {T : TypeId} (h : TB w q T) (d0 d1 d2 d3 d4 d5 d6 d7 d8 d9 d10 d11 : Value) : TB ((((((((((((w.setCell ⟨q, 0, none⟩ (d0)).setCell ⟨q, 1, none⟩ (d1)).setCell ⟨q, 2, none⟩ (d2)).setCell ⟨q, 3, none⟩ (d3)).setCell ⟨q, 4, none⟩ (d4)).setCell ⟨q, 5, none⟩ (d5)).setCell ⟨q, 6, none⟩ (d6)).setCell ⟨q, 7, none⟩ (d7)).setCell ⟨q, 8, none⟩ (d8)).setCell ⟨q, 9, none⟩ (d9)).setCell ⟨q, 10, none⟩ (d10)).setCell ⟨q, 11, none⟩ (d11)) q T :=
  ((((((((((((h.set 0 d0).set 1 d1).set 2 d2).set 3 d3).set 4 d4).set 5 d5).set 6 d6).set 7 d7).set 8 d8).set 9 d9).set 10 d10).set 11 d11)
theorem own_keeps {w w' : World} {B n size q : Nat} {e T : TypeId} {v : Value} {xs : List Value} (h : w.ownsRow B e size v n xs) (t : TB w q T) (hne : e ≠ T) (hg : w.grownBy w' (some q)) : w'.ownsRow B e size v n xs :=
  h.kept hg (by
    have := own_ne h t hne
    cases hv : v.ownBlock with
    | none => exact Or.inl rfl
    | some k => exact Or.inr (fun e2 => this (by rw [hv]; first | exact e2 | exact e2.symm)))
end Go.Proofs.Ytkoafkajmfodkaa
