/- Blocks of some cells, told as a list. -/
import Derived.Test.YtkoafkajmfodkaaDlF
import Derived.Test.YtkoafkajmfodkaaCloQ
namespace Go.Proofs.Ytkoafkajmfodkaa
open Go.RowKit

/-- A block's cells, none frozen. -/
def CN (w : World) (q : Nat) (cs : List Value) : Prop := q < w.heap.size ∧ ∀ j c, cs[j]? = some c → w.cell? ⟨q, j, none⟩ = some c ∧ w.frozen? ⟨q, j, none⟩ = false
theorem CN.below {w w' : World} {q : Nat} {cs : List Value} (h : CN w q cs) (hb : Below w.heap.size w w') : CN w' q cs :=
  ⟨Nat.lt_of_lt_of_le h.1 hb.size, fun j c hj => ⟨(hb.cell (p := ⟨q, j, none⟩) h.1).trans (h.2 j c hj).1, (hb.frozen (p := ⟨q, j, none⟩) h.1).trans (h.2 j c hj).2⟩⟩
theorem CN.grown {w w' : World} {q : Nat} {cs : List Value} {row : Option Nat} (h : CN w q cs) (hg : w.grownBy w' row) (hne : some q ≠ row) : CN w' q cs :=
  ⟨Nat.lt_of_lt_of_le h.1 hg.size, fun j c hj => ⟨(World.cell?_of_block (a := ⟨q, j, none⟩) (hg.block q h.1 hne)).trans (h.2 j c hj).1, (World.frozen?_of_block (a := ⟨q, j, none⟩) (hg.block q h.1 hne)).trans (h.2 j c hj).2⟩⟩
theorem CN.new (w : World) (cs : Array Value) (T : TypeId) : CN (w.alloc (.cells cs T)) w.heap.size cs.toList :=
  ⟨by simp, fun j c hj => ⟨by rw [World.cell?_alloc_new]; rw [Array.getElem?_toList] at hj; exact hj, World.frozen?_alloc_new _ _ _ _⟩⟩
theorem CN.far {w : World} {q : Nat} {cs : List Value} (h : CN w q cs) (p : Addr) (hp : p.block ≠ q) (v : Value) : CN (w.setCell p v) q cs :=
  ⟨by simpa using h.1, fun j c hj => ⟨(World.cell?_setCell_far _ _ _ _ hp).trans (h.2 j c hj).1, by simpa using (h.2 j c hj).2⟩⟩
theorem CN.set {w : World} {q : Nat} {cs : List Value} (h : CN w q cs) (i : Nat) (hi : i < cs.length) (v : Value) : CN (w.setCell ⟨q, i, none⟩ v) q (cs.set i v) := by
  refine ⟨by simpa using h.1, fun j c hj => ?_⟩
  by_cases e : j = i
  · subst e
    rw [List.getElem?_set_self hi] at hj
    obtain rfl := Option.some.inj hj
    have h1 := h.2 j cs[j] (List.getElem?_eq_getElem hi)
    exact ⟨World.cell?_setCell_same _ _ _ h1.1, by rw [World.frozen?_setCell]; exact h1.2⟩
  · rw [List.getElem?_set_ne (by omega)] at hj
    have h1 := h.2 j c hj
    exact ⟨(World.cell?_setCell_other _ _ _ _ (by intro e2; injection e2; omega)).trans h1.1, by rw [World.frozen?_setCell]; exact h1.2⟩
theorem CN.u5 {w : World} {q : Nat} {c0 c1 c2 c3 c4 : Value} (h : CN w q [c0, c1, c2, c3, c4]) : w.cell? ⟨q, 0, none⟩ = some c0 ∧ w.cell? ⟨q, 1, none⟩ = some c1 ∧ w.cell? ⟨q, 2, none⟩ = some c2 ∧ w.cell? ⟨q, 3, none⟩ = some c3 ∧ w.cell? ⟨q, 4, none⟩ = some c4 ∧ w.frozen? ⟨q, 0, none⟩ = false ∧ w.frozen? ⟨q, 1, none⟩ = false ∧ w.frozen? ⟨q, 2, none⟩ = false ∧ w.frozen? ⟨q, 3, none⟩ = false ∧ w.frozen? ⟨q, 4, none⟩ = false :=
  ⟨(h.2 0 _ rfl).1, (h.2 1 _ rfl).1, (h.2 2 _ rfl).1, (h.2 3 _ rfl).1, (h.2 4 _ rfl).1, (h.2 0 _ rfl).2, (h.2 1 _ rfl).2, (h.2 2 _ rfl).2, (h.2 3 _ rfl).2, (h.2 4 _ rfl).2⟩
theorem CN.s5 {w : World} {q : Nat} {c0 c1 c2 c3 c4 : Value} (h : CN w q [c0, c1, c2, c3, c4]) (d0 d1 d2 d3 d4 : Value) : CN (((((w.setCell ⟨q, 0, none⟩ (d0)).setCell ⟨q, 1, none⟩ (d1)).setCell ⟨q, 2, none⟩ (d2)).setCell ⟨q, 3, none⟩ (d3)).setCell ⟨q, 4, none⟩ (d4)) q [d0, d1, d2, d3, d4] :=
  (((((h.set 0 (by simp) d0).set 1 (by simp) d1).set 2 (by simp) d2).set 3 (by simp) d3).set 4 (by simp) d4)
theorem CN.f5 {w : World} {q : Nat} {cs : List Value} (h : CN w q cs) {p : Nat} (hp : p ≠ q) (d0 d1 d2 d3 d4 : Value) : CN (((((w.setCell ⟨p, 0, none⟩ (d0)).setCell ⟨p, 1, none⟩ (d1)).setCell ⟨p, 2, none⟩ (d2)).setCell ⟨p, 3, none⟩ (d3)).setCell ⟨p, 4, none⟩ (d4)) q cs :=
  (((((h.far _ hp _).far _ hp _).far _ hp _).far _ hp _).far _ hp _)
theorem grown_s5 (w : World) (q : Nat) (d0 d1 d2 d3 d4 : Value) : w.grownBy (((((w.setCell ⟨q, 0, none⟩ (d0)).setCell ⟨q, 1, none⟩ (d1)).setCell ⟨q, 2, none⟩ (d2)).setCell ⟨q, 3, none⟩ (d3)).setCell ⟨q, 4, none⟩ (d4)) (some q) :=
  (((((grown_cell w q 0 d0).trans (grown_cell _ q 1 d1)).trans (grown_cell _ q 2 d2)).trans (grown_cell _ q 3 d3)).trans (grown_cell _ q 4 d4))
theorem CN.u12 {w : World} {q : Nat} {c0 c1 c2 c3 c4 c5 c6 c7 c8 c9 c10 c11 : Value} (h : CN w q [c0, c1, c2, c3, c4, c5, c6, c7, c8, c9, c10, c11]) : w.cell? ⟨q, 0, none⟩ = some c0 ∧ w.cell? ⟨q, 1, none⟩ = some c1 ∧ w.cell? ⟨q, 2, none⟩ = some c2 ∧ w.cell? ⟨q, 3, none⟩ = some c3 ∧ w.cell? ⟨q, 4, none⟩ = some c4 ∧ w.cell? ⟨q, 5, none⟩ = some c5 ∧ w.cell? ⟨q, 6, none⟩ = some c6 ∧ w.cell? ⟨q, 7, none⟩ = some c7 ∧ w.cell? ⟨q, 8, none⟩ = some c8 ∧ w.cell? ⟨q, 9, none⟩ = some c9 ∧ w.cell? ⟨q, 10, none⟩ = some c10 ∧ w.cell? ⟨q, 11, none⟩ = some c11 ∧ w.frozen? ⟨q, 0, none⟩ = false ∧ w.frozen? ⟨q, 1, none⟩ = false ∧ w.frozen? ⟨q, 2, none⟩ = false ∧ w.frozen? ⟨q, 3, none⟩ = false ∧ w.frozen? ⟨q, 4, none⟩ = false ∧ w.frozen? ⟨q, 5, none⟩ = false ∧ w.frozen? ⟨q, 6, none⟩ = false ∧ w.frozen? ⟨q, 7, none⟩ = false ∧ w.frozen? ⟨q, 8, none⟩ = false ∧ w.frozen? ⟨q, 9, none⟩ = false ∧ w.frozen? ⟨q, 10, none⟩ = false ∧ w.frozen? ⟨q, 11, none⟩ = false :=
  ⟨(h.2 0 _ rfl).1, (h.2 1 _ rfl).1, (h.2 2 _ rfl).1, (h.2 3 _ rfl).1, (h.2 4 _ rfl).1, (h.2 5 _ rfl).1, (h.2 6 _ rfl).1, (h.2 7 _ rfl).1, (h.2 8 _ rfl).1, (h.2 9 _ rfl).1, (h.2 10 _ rfl).1, (h.2 11 _ rfl).1, (h.2 0 _ rfl).2, (h.2 1 _ rfl).2, (h.2 2 _ rfl).2, (h.2 3 _ rfl).2, (h.2 4 _ rfl).2, (h.2 5 _ rfl).2, (h.2 6 _ rfl).2, (h.2 7 _ rfl).2, (h.2 8 _ rfl).2, (h.2 9 _ rfl).2, (h.2 10 _ rfl).2, (h.2 11 _ rfl).2⟩
theorem CN.s12 {w : World} {q : Nat} {c0 c1 c2 c3 c4 c5 c6 c7 c8 c9 c10 c11 : Value} (h : CN w q [c0, c1, c2, c3, c4, c5, c6, c7, c8, c9, c10, c11]) (d0 d1 d2 d3 d4 d5 d6 d7 d8 d9 d10 d11 : Value) : CN ((((((((((((w.setCell ⟨q, 0, none⟩ (d0)).setCell ⟨q, 1, none⟩ (d1)).setCell ⟨q, 2, none⟩ (d2)).setCell ⟨q, 3, none⟩ (d3)).setCell ⟨q, 4, none⟩ (d4)).setCell ⟨q, 5, none⟩ (d5)).setCell ⟨q, 6, none⟩ (d6)).setCell ⟨q, 7, none⟩ (d7)).setCell ⟨q, 8, none⟩ (d8)).setCell ⟨q, 9, none⟩ (d9)).setCell ⟨q, 10, none⟩ (d10)).setCell ⟨q, 11, none⟩ (d11)) q [d0, d1, d2, d3, d4, d5, d6, d7, d8, d9, d10, d11] :=
  ((((((((((((h.set 0 (by simp) d0).set 1 (by simp) d1).set 2 (by simp) d2).set 3 (by simp) d3).set 4 (by simp) d4).set 5 (by simp) d5).set 6 (by simp) d6).set 7 (by simp) d7).set 8 (by simp) d8).set 9 (by simp) d9).set 10 (by simp) d10).set 11 (by simp) d11)
theorem CN.f12 {w : World} {q : Nat} {cs : List Value} (h : CN w q cs) {p : Nat} (hp : p ≠ q) (d0 d1 d2 d3 d4 d5 d6 d7 d8 d9 d10 d11 : Value) : CN ((((((((((((w.setCell ⟨p, 0, none⟩ (d0)).setCell ⟨p, 1, none⟩ (d1)).setCell ⟨p, 2, none⟩ (d2)).setCell ⟨p, 3, none⟩ (d3)).setCell ⟨p, 4, none⟩ (d4)).setCell ⟨p, 5, none⟩ (d5)).setCell ⟨p, 6, none⟩ (d6)).setCell ⟨p, 7, none⟩ (d7)).setCell ⟨p, 8, none⟩ (d8)).setCell ⟨p, 9, none⟩ (d9)).setCell ⟨p, 10, none⟩ (d10)).setCell ⟨p, 11, none⟩ (d11)) q cs :=
  ((((((((((((h.far _ hp _).far _ hp _).far _ hp _).far _ hp _).far _ hp _).far _ hp _).far _ hp _).far _ hp _).far _ hp _).far _ hp _).far _ hp _).far _ hp _)
theorem grown_s12 (w : World) (q : Nat) (d0 d1 d2 d3 d4 d5 d6 d7 d8 d9 d10 d11 : Value) : w.grownBy ((((((((((((w.setCell ⟨q, 0, none⟩ (d0)).setCell ⟨q, 1, none⟩ (d1)).setCell ⟨q, 2, none⟩ (d2)).setCell ⟨q, 3, none⟩ (d3)).setCell ⟨q, 4, none⟩ (d4)).setCell ⟨q, 5, none⟩ (d5)).setCell ⟨q, 6, none⟩ (d6)).setCell ⟨q, 7, none⟩ (d7)).setCell ⟨q, 8, none⟩ (d8)).setCell ⟨q, 9, none⟩ (d9)).setCell ⟨q, 10, none⟩ (d10)).setCell ⟨q, 11, none⟩ (d11)) (some q) :=
  ((((((((((((grown_cell w q 0 d0).trans (grown_cell _ q 1 d1)).trans (grown_cell _ q 2 d2)).trans (grown_cell _ q 3 d3)).trans (grown_cell _ q 4 d4)).trans (grown_cell _ q 5 d5)).trans (grown_cell _ q 6 d6)).trans (grown_cell _ q 7 d7)).trans (grown_cell _ q 8 d8)).trans (grown_cell _ q 9 d9)).trans (grown_cell _ q 10 d10)).trans (grown_cell _ q 11 d11))
theorem own_mono4 {w : World} {base base' : Nat} {e : TypeId} {size n : Nat} {v : Value} {xs : List Value} (h : w.ownsRow base e size v n xs) (hb : base' ≤ base) : w.ownsRow base' e size v n xs := by
  refine ⟨h.1, ?_⟩
  rcases h.2 with hn | ⟨g, cap, cur, h1, h2, rest⟩
  · exact .inl hn
  · exact .inr ⟨g, cap, cur, h1, Nat.le_trans hb h2, rest⟩
theorem rowR_own2 {w : World} {B n c : Nat} {a : Option Addr} {l : List R5} (h : w.ownsRow B 75 5 (.slice a n c) n (flatR l)) : RowR w a n l ∧ (a = none → n = 0 ∧ c = 0) := by
  obtain ⟨a', c', e, h1, h2⟩ := rowR_own h
  injection e with e1 _ e3
  subst e1 e3
  exact ⟨h1, h2⟩
theorem rowQ_own2 {w : World} {B n c : Nat} {a : Option Addr} {l : List Ky} (h : w.ownsRow B 70 3 (.slice a n c) n (flatQ l)) : RowQ w a n l ∧ (a = none → n = 0 ∧ c = 0) := by
  obtain ⟨a', c', e, h1, h2⟩ := rowQ_own h
  injection e with e1 _ e3
  subst e1 e3
  exact ⟨h1, h2⟩
end Go.Proofs.Ytkoafkajmfodkaa
