/- ZnK -/
import Derived.Test.YthfnphcefkdgbaaMgE
import Derived.Test.YthfnphcefkdgbaaMgB
import Derived.Laws.OwnMore
import Derived.Maps.AppendAt
import Derived.Maps.OwnOps
import Derived.Maps.OwnSet
namespace Go.Proofs.Ythfnphcefkdgbaa
open Go.RowKit

/-- A block's cells, none frozen. -/
def CN (w : World) (q : Nat) (cs : List Value) : Prop := q < w.heap.size ∧ ∀ j c, cs[j]? = some c → w.cell? ⟨q, j, none⟩ = some c ∧ w.frozen? ⟨q, j, none⟩ = false
theorem CN.below {w w' : World} {q : Nat} {cs : List Value} (h : CN w q cs) (hb : Below w.heap.size w w') : CN w' q cs :=
  ⟨Nat.lt_of_lt_of_le h.1 hb.size, fun j c hj => ⟨(hb.cell (p := ⟨q, j, none⟩) h.1).trans (h.2 j c hj).1, (hb.frozen (p := ⟨q, j, none⟩) h.1).trans (h.2 j c hj).2⟩⟩
theorem CN.grown {w w' : World} {q : Nat} {cs : List Value} {row : Option Nat} (h : CN w q cs) (hg : w.grownBy w' row) (hne : some q ≠ row) : CN w' q cs :=
  ⟨Nat.lt_of_lt_of_le h.1 hg.size, fun j c hj => ⟨(World.cell?_of_block (a := ⟨q, j, none⟩) (hg.block q h.1 hne)).trans (h.2 j c hj).1, (World.frozen?_of_block (a := ⟨q, j, none⟩) (hg.block q h.1 hne)).trans (h.2 j c hj).2⟩⟩
theorem CN.new (w : World) (cs : Array Value) (T : TypeId) : CN (w.alloc (.cells cs T)) w.heap.size cs.toList :=
  ⟨by simp, fun j c hj => ⟨by rw [World.cell?_alloc_new]; rw [Array.getElem?_toList] at hj; exact hj, World.frozen?_alloc_new _ _ _ _⟩⟩
theorem CN.far {w : World} {q : Nat} {cs : List Value} (h : CN w q cs) (p : Addr) (hp : p.block ≠ q) (v : Value) : CN (w.setCell p v) q cs :=
  ⟨by simpa using h.1, fun j c hj => ⟨(World.cell?_setCell_far _ _ _ _ hp).trans (h.2 j c hj).1, by simpa using (h.2 j c hj).2⟩⟩
theorem CN.set {w : World} {q : Nat} {cs : List Value} (h : CN w q cs) (i : Nat) (hi : i < cs.length) (v : Value) : CN (w.setCell ⟨q, i, none⟩ v) q (cs.set i v) := by
  refine ⟨by simpa using h.1, fun j c hj => ?_⟩
  by_cases e : j = i
  · subst e
    rw [List.getElem?_set_self hi] at hj
    obtain rfl := Option.some.inj hj
    have h1 := h.2 j cs[j] (List.getElem?_eq_getElem hi)
    exact ⟨World.cell?_setCell_same _ _ _ h1.1, by rw [World.frozen?_setCell]; exact h1.2⟩
  · rw [List.getElem?_set_ne (by omega)] at hj
    have h1 := h.2 j c hj
    exact ⟨(World.cell?_setCell_other _ _ _ _ (by intro e2; injection e2; omega)).trans h1.1, by rw [World.frozen?_setCell]; exact h1.2⟩
theorem CN.u5 {w : World} {q : Nat} {c0 c1 c2 c3 c4 : Value} (h : CN w q [c0, c1, c2, c3, c4]) : w.cell? ⟨q, 0, none⟩ = some c0 ∧ w.cell? ⟨q, 1, none⟩ = some c1 ∧ w.cell? ⟨q, 2, none⟩ = some c2 ∧ w.cell? ⟨q, 3, none⟩ = some c3 ∧ w.cell? ⟨q, 4, none⟩ = some c4 ∧ w.frozen? ⟨q, 0, none⟩ = false ∧ w.frozen? ⟨q, 1, none⟩ = false ∧ w.frozen? ⟨q, 2, none⟩ = false ∧ w.frozen? ⟨q, 3, none⟩ = false ∧ w.frozen? ⟨q, 4, none⟩ = false :=
  ⟨(h.2 0 _ rfl).1, (h.2 1 _ rfl).1, (h.2 2 _ rfl).1, (h.2 3 _ rfl).1, (h.2 4 _ rfl).1, (h.2 0 _ rfl).2, (h.2 1 _ rfl).2, (h.2 2 _ rfl).2, (h.2 3 _ rfl).2, (h.2 4 _ rfl).2⟩
theorem grown_cell (w : World) (g j : Nat) (u : Value) : w.grownBy (w.setCell ⟨g, j, none⟩ u) (some g) := ⟨rfl, rfl, rfl, by simp, fun k _ hk => heap_setCell_other w ⟨g, j, none⟩ k u (fun e => hk (by simp [e]))⟩
theorem own_apart7 {w w' : World} {B n size : Nat} {e : TypeId} {v : Value} {xs : List Value} {row : Option Nat} (h : w.ownsRow B e size v n xs) (hg : w.grownBy w' row) (hne : ∀ k, v.ownBlock = some k → row ≠ some k) : w'.ownsRow B e size v n xs :=
  h.kept hg (by
    cases hv : v.ownBlock with
    | none => exact Or.inl rfl
    | some k => exact Or.inr (fun e2 => hne k hv (by first | exact e2 | exact e2.symm)))
theorem CN.w2 {w : World} {q : Nat} {c0 c1 : Value} (h : CN w q [c0, c1]) : w.cell? ⟨q, 0, none⟩ = some c0 ∧ w.cell? ⟨q, 1, none⟩ = some c1 := ⟨(h.2 0 _ rfl).1, (h.2 1 _ rfl).1⟩
theorem CN.w3 {w : World} {q : Nat} {c0 c1 c2 : Value} (h : CN w q [c0, c1, c2]) : w.cell? ⟨q, 0, none⟩ = some c0 ∧ w.cell? ⟨q, 1, none⟩ = some c1 ∧ w.cell? ⟨q, 2, none⟩ = some c2 := ⟨(h.2 0 _ rfl).1, (h.2 1 _ rfl).1, (h.2 2 _ rfl).1⟩
/-- A zone at its block. -/
def ZnAt (w : World) (q : Nat) (apex : ByteArray) (S : List SetP) : Prop := ∃ (a : Option Addr) (c : Nat), CN w q [.string apex, .slice a S.length c] ∧ SetsAt w a S.length S
theorem ZnAt.below {w w' : World} {q : Nat} {apex : ByteArray} {S : List SetP} (h : ZnAt w q apex S) (hb : Below w.heap.size w w') : ZnAt w' q apex S := by
  obtain ⟨a, c, h1, h2⟩ := h
  exact ⟨a, c, h1.below hb, h2.below hb⟩
/-- Names and data of a bearable size. -/
def SzZ (S : List SetP) : Prop := S.length ≤ 100000 ∧ ∀ s ∈ S, s.k.n.size ≤ 1000000 ∧ s.data.length ≤ 100000
end Go.Proofs.Ythfnphcefkdgbaa
