/- What a feed leaves, of both readers; bytes that are written to, between two bounds. -/
import Derived.Test.YtngncdmmlkcekaaRFf
import Derived.Test.YtngncdmmlkcekaaBB3
import Derived.Test.YtngncdmmlkcekaaFRe
namespace Go.Proofs.Ytngncdmmlkcekaa
open Go.RowKit

theorem OwnF.but {w w' : World} {B P : Nat} {v : Value} {M : List (List UInt8)} {go : Option Nat} (h : OwnF w B v M) (hb : But w w' P go) (hP : P < B) (hgo : ∀ g, go = some g → g < B) : OwnF w' B v M := by
  obtain ⟨xs, h1, h2⟩ := h
  exact ⟨xs, own_same h1 (fun g hg => hb.block g (h1.lt g hg).2 (by have := (h1.lt g hg).1; omega) (fun e => by have := hgo g e.symm; have := (h1.lt g hg).1; omega)), fun j u hj => own_same (h2 j u hj) (fun g hg => hb.block g ((h2 j u hj).lt g hg).2 (by have := ((h2 j u hj).lt g hg).1; omega) (fun e => by have := hgo g e.symm; have := ((h2 j u hj).lt g hg).1; omega))⟩
/-- Slices of bytes that a call may write to, between two bounds. -/
def PMut2 (w : World) (B U b off N : Nat) (A : Nat → Option Addr) (L C : Nat → Nat) : Prop :=
  (B ≤ b ∧ b < U) ∧ ∀ j, j < N → w.cell? ⟨b, off + j, none⟩ = some (.slice (A j) (L j) (C j)) ∧ ∀ i, i < L j → ∃ g o, A j = some ⟨g, o, none⟩ ∧ (B ≤ g ∧ g < U) ∧ ∃ z : Int, w.cell? ⟨g, o + i, none⟩ = some (.int .u8 z) ∧ 0 ≤ z ∧ z < 256 ∧ w.frozen? ⟨g, o + i, none⟩ = false
theorem PMut2.set {w : World} {B U b off N : Nat} {A : Nat → Option Addr} {L C : Nat → Nat} (h : PMut2 w B U b off N A L C) {p : Addr} {z0 z : Int} (hp : w.cell? p = some (.int .u8 z0)) (h0 : 0 ≤ z) (h1 : z < 256) : PMut2 (w.setCell p (.int .u8 z)) B U b off N A L C := by
  refine ⟨h.1, fun j hj => ?_⟩
  obtain ⟨q1, q2⟩ := h.2 j hj
  refine ⟨?_, fun i hi => ?_⟩
  · rw [World.cell?_setCell_other _ _ _ _ (by intro e; rw [e, q1] at hp; cases hp)]
    exact q1
  · obtain ⟨g, o, e1, e2, zz, e3, e4, e5, e6⟩ := q2 i hi
    by_cases e : p = ⟨g, o + i, none⟩
    · subst e
      exact ⟨g, o, e1, e2, z, World.cell?_setCell_same _ _ _ e3, h0, h1, by simpa using e6⟩
    · exact ⟨g, o, e1, e2, zz, by rw [World.cell?_setCell_other _ _ _ _ e]; exact e3, e4, e5, by simpa using e6⟩
theorem PMut2.same {w w' : World} {B U b off N : Nat} {A : Nat → Option Addr} {L C : Nat → Nat} (h : PMut2 w B U b off N A L C) (hk : ∀ k, B ≤ k → k < U → w'.heap[k]? = w.heap[k]?) : PMut2 w' B U b off N A L C := by
  refine ⟨h.1, fun j hj => ?_⟩
  obtain ⟨q1, q2⟩ := h.2 j hj
  refine ⟨(World.cell?_of_block (w := w) (a := ⟨b, off + j, none⟩) (hk b h.1.1 h.1.2)).trans q1, fun i hi => ?_⟩
  obtain ⟨g, o, e1, e2, zz, e3, e4, e5, e6⟩ := q2 i hi
  have h9 := hk g e2.1 e2.2
  exact ⟨g, o, e1, e2, zz, (World.cell?_of_block (w := w) (a := ⟨g, o + i, none⟩) h9).trans e3, e4, e5, (World.frozen?_of_block (w := w) (a := ⟨g, o + i, none⟩) h9).trans e6⟩
theorem OwnF.mut2 {w : World} {B : Nat} {v : Value} {M : List (List UInt8)} (h : OwnF w B v M) : ∃ a c A L C, v = .slice a M.length c ∧ (M.length = 0 ∨ ∃ b off, a = some ⟨b, off, none⟩ ∧ PMut2 w B w.heap.size b off M.length A L C) ∧ ∀ j, L j ≤ 9223372036854775807 := by
  have h0 := h
  obtain ⟨a, c, A, L, C, e, h1, h2⟩ := h.mut
  refine ⟨a, c, A, L, C, e, ?_, h2⟩
  rcases h1 with h1 | ⟨b, off, rfl, h1⟩
  · exact Or.inl h1
  by_cases hM : M.length = 0
  · exact Or.inl hM
  obtain ⟨xs, k1, _⟩ := h0
  have h3 := k1.lt b (by rw [e]; rfl)
  refine Or.inr ⟨b, off, rfl, ⟨h3.1, h3.2⟩, fun j hj => ⟨(h1 j hj).1, fun i hi => ?_⟩⟩
  obtain ⟨g, o, e1, e2, z, e3, e4⟩ := (h1 j hj).2 i hi
  exact ⟨g, o, e1, ⟨e2, block_lt_of_cell e3⟩, z, e3, e4⟩
/-- All is as it was, but between two bounds. -/
structure Mid (w w' : World) (B U : Nat) : Prop where
  os : w'.os = w.os
  tape : w'.tape = w.tape
  output : w'.output = w.output
  size : w.heap.size ≤ w'.heap.size
  block : ∀ k, k < w.heap.size → (k < B ∨ U ≤ k) → w'.heap[k]? = w.heap[k]?
theorem Mid.refl (w : World) (B U : Nat) : Mid w w B U := ⟨rfl, rfl, rfl, Nat.le_refl _, fun _ _ _ => rfl⟩
theorem Mid.set {w w' : World} {B U : Nat} (h : Mid w w' B U) {p : Addr} (hp : B ≤ p.block ∧ p.block < U) (v : Value) : Mid w (w'.setCell p v) B U :=
  have hb := (Below.refl 0 w').setCell (p := p) (Nat.zero_le _) v
  ⟨hb.os.trans h.os, hb.tape.trans h.tape, hb.output.trans h.output, Nat.le_trans h.size hb.size, fun k hk h1 => by rw [Below.heap_setCell _ _ _ _ (by omega)]; exact h.block k hk h1⟩
theorem Mid.below {w w' : World} {B U : Nat} (h : Mid w w' B U) {A : Nat} {w0 : World} (hb : Below A w0 w) (hA : A ≤ B) (hs : A ≤ w.heap.size) : Below A w0 w' :=
  ⟨h.os.trans hb.os, h.tape.trans hb.tape, h.output.trans hb.output, Nat.le_trans hb.size h.size, fun k hk => (h.block k (by omega) (Or.inl (by omega))).trans (hb.block k hk)⟩
theorem stays_old {w0 w : World} {P : Nat} {go : Option Nat} {pl : Option Addr} {nl : Nat} {M : List (List UInt8)} (h : RowBB w0 pl nl M) (hb : Below w0.heap.size w0 w) (hP : w0.heap.size ≤ P) (hgo : ∀ g, go = some g → w0.heap.size ≤ g) : Stays w P go pl nl M := fun wx hbx =>
  h.below (hb.trans ⟨hbx.os, hbx.tape, hbx.output, hbx.size, fun k hk => hbx.block k (Nat.lt_of_lt_of_le hk hb.size) (by omega) (fun e => by have := hgo k e.symm; omega)⟩)

/-- Both readers, alike. -/
def FS (w : World) (most : Int) (P Q H : Nat) (lv lv2 : Value) (ov : Bool) : Prop :=
  RdrAt w P most H lv ∧ RfrAt w Q most H lv2 ov ∧ ((ov = true ∧ lv = .slice none 0 0 ∧ lv2 = .slice none 0 0 ∧ most < H) ∨ (ov = false ∧ ∃ ln lb, OwnM w lv ln lb ∧ OwnM w lv2 ln lb ∧ ln ≤ H)) ∧
    (∀ g, lv.ownBlock = some g → Q < g ∧ g < w.heap.size) ∧ (∀ g, lv2.ownBlock = some g → Q < g ∧ g < w.heap.size) ∧ ∀ g, lv.ownBlock = some g → lv2.ownBlock ≠ some g
theorem FS.below {w w' : World} {most : Int} {P Q H : Nat} {lv lv2 : Value} {ov : Bool} (h : FS w most P Q H lv lv2 ov) (hb : Below w.heap.size w w') : FS w' most P Q H lv lv2 ov := by
  obtain ⟨h1, h2, h3, h4, h5, h6⟩ := h
  refine ⟨h1.kept (hb.block P h1.lt), h2.kept (hb.block Q h2.lt), ?_, fun g hg => ⟨(h4 g hg).1, Nat.lt_of_lt_of_le (h4 g hg).2 hb.size⟩, fun g hg => ⟨(h5 g hg).1, Nat.lt_of_lt_of_le (h5 g hg).2 hb.size⟩, h6⟩
  rcases h3 with h3 | ⟨h3, ln, lb, h7, h8, h9⟩
  · exact Or.inl h3
  · exact Or.inr ⟨h3, ln, lb, h7.kept hb.size (fun g hg => hb.block g (h4 g hg).2), h8.kept hb.size (fun g hg => hb.block g (h5 g hg).2), h9⟩
/-- Behind writes between two bounds. -/
theorem FS.mid {w w' : World} {most : Int} {P Q H B U : Nat} {lv lv2 : Value} {ov : Bool} (h : FS w most P Q H lv lv2 ov) (hm : Mid w w' B U) (hP : P < B) (hQ : Q < B) (h1 : ∀ g, lv.ownBlock = some g → g < B) (h2 : ∀ g, lv2.ownBlock = some g → U ≤ g) : FS w' most P Q H lv lv2 ov := by
  obtain ⟨k1, k2, k3, k4, k5, k6⟩ := h
  refine ⟨k1.kept (hm.block P k1.lt (Or.inl hP)), k2.kept (hm.block Q k2.lt (Or.inl hQ)), ?_, fun g hg => ⟨(k4 g hg).1, Nat.lt_of_lt_of_le (k4 g hg).2 hm.size⟩, fun g hg => ⟨(k5 g hg).1, Nat.lt_of_lt_of_le (k5 g hg).2 hm.size⟩, k6⟩
  rcases k3 with h3 | ⟨h3, ln, lb, h7, h8, h9⟩
  · exact Or.inl h3
  · exact Or.inr ⟨h3, ln, lb, h7.kept hm.size (fun g hg => hm.block g (k4 g hg).2 (Or.inl (h1 g hg))), h8.kept hm.size (fun g hg => hm.block g (k5 g hg).2 (Or.inr (h2 g hg))), h9⟩
/-- Both feed, and it was too much. -/
theorem FS.over {w w5 w6 : World} {most : Int} {P Q H s : Nat} {lv lv2 : Value} {ov : Bool} (h : FS w most P Q H lv lv2 ov) (hPQ : P < Q) (h5 : RdrAt w5 P most ((H : Int) + s) (.slice none 0 0)) (h6 : RfrAt w6 Q most ((H : Int) + s) (.slice none 0 0) true) (b6 : But w5 w6 Q lv2.ownBlock) (ho : most < (H : Int) + s) : FS w6 most P Q (H + s) (.slice none 0 0) (.slice none 0 0) true := by
  obtain ⟨k1, k2, k3, k4, k5, k6⟩ := h
  exact ⟨by rw [show ((H + s : Nat) : Int) = (H : Int) + s by omega]; exact h5.kept (b6.block P h5.lt (by omega) (fun e => by have := k5 P e.symm; omega)), by rw [show ((H + s : Nat) : Int) = (H : Int) + s by omega]; exact h6, Or.inl ⟨rfl, rfl, rfl, by omega⟩, (fun g hg => by cases hg), (fun g hg => by cases hg), (fun g hg => by cases hg)⟩
/-- What the second one's feed finds. -/
theorem FS.second {w w5 : World} {most : Int} {P Q H : Nat} {lv lv2 : Value} {ov : Bool} (h : FS w most P Q H lv lv2 ov) (hPQ : P < Q) (b5 : But w w5 P lv.ownBlock) : RfrAt w5 Q most H lv2 ov ∧ (∀ ln lb, OwnM w lv2 ln lb → OwnM w5 lv2 ln lb) ∧ (∀ g, lv2.ownBlock = some g → g < w5.heap.size) := by
  obtain ⟨k1, k2, k3, k4, k5, k6⟩ := h
  refine ⟨k2.kept (b5.block Q k2.lt (by omega) (fun e => by have := k4 Q e.symm; omega)), fun ln lb h => h.kept b5.size (fun g hg => b5.block g (k5 g hg).2 (by have := (k5 g hg).1; omega) (fun e => k6 g e.symm hg)), fun g hg => Nat.lt_of_lt_of_le (k5 g hg).2 b5.size⟩
/-- Both feed on. -/
theorem FS.ok {w w5 w6 : World} {most : Int} {P Q H s n n2 : Nat} {lv lv2 v v2 : Value} {lb : List UInt8} (h : FS w most P Q H lv lv2 false) (hPQ : P < Q) (h5 : RdrAt w5 P most ((H + s : Nat) : Int) v) (o5 : OwnM w5 v n lb) (b5 : But w w5 P lv.ownBlock) (hgo : v.ownBlock = lv.ownBlock ∨ ∀ g, v.ownBlock = some g → w.heap.size ≤ g)
    (h6 : RfrAt w6 Q most ((H + s : Nat) : Int) v2 false) (o6 : OwnM w6 v2 n2 lb) (b6 : But w5 w6 Q lv2.ownBlock) (hgo2 : ∀ g, v2.ownBlock = some g → w5.heap.size ≤ g) (hn : n ≤ H + s) : FS w6 most P Q (H + s) v v2 false := by
  obtain ⟨k1, k2, k3, k4, k5, k6⟩ := h
  have hnn : n = n2 := by have := o5.1; have := o6.1; omega
  subst hnn
  have hv : ∀ g, v.ownBlock = some g → Q < g ∧ lv2.ownBlock ≠ some g := fun g hg => by
    rcases hgo with e | e
    · exact ⟨(k4 g (by rw [← e]; exact hg)).1, k6 g (by rw [← e]; exact hg)⟩
    · have h1 := e g hg
      have h2 := k2.lt
      exact ⟨by omega, fun e2 => by have := (k5 g e2).2; omega⟩
  refine ⟨h5.kept (b6.block P h5.lt (by omega) (fun e => by have := k5 P e.symm; omega)), h6, Or.inr ⟨rfl, n, lb, o5.kept b6.size (fun g hg => b6.block g (own_lt o5 g hg) (by have := (hv g hg).1; omega) (fun e => (hv g hg).2 e.symm)), o6, hn⟩, fun g hg => ⟨(hv g hg).1, Nat.lt_of_lt_of_le (own_lt o5 g hg) b6.size⟩, fun g hg => ⟨?_, own_lt o6 g hg⟩, fun g hg e => ?_⟩
  · have h1 := hgo2 g hg
    have h2 := k2.lt
    have h3 := b5.size
    omega
  · have h1 := hgo2 g e
    have h2 := own_lt o5 g hg
    omega
end Go.Proofs.Ytngncdmmlkcekaa
