/- Pieces that are fed: contracts. -/
import Derived.Test.YtngncdmmlkcekaaGot
import Derived.Test.YtngncdmmlkcekaaFRe
namespace Go.Proofs.Ytngncdmmlkcekaa
open Go.RowKit

theorem Below.ofBut {w w' : World} {P : Nat} {go : Option Nat} {B : Nat} (h : But w w' P go) (hB : B ≤ w.heap.size) (hP : B ≤ P) (hgo : ∀ g, go = some g → B ≤ g) : Below B w w' :=
  ⟨h.os, h.tape, h.output, h.size, fun k hk => h.block k (by omega) (by omega) (fun e => by have := hgo k e.symm; omega)⟩
theorem RowB.but {w w' : World} {a : Option Addr} {n P : Nat} {l : List UInt8} {go : Option Nat} (h : RowB w a n l) (hb : But w w' P go) (hP : ∀ b off, a = some ⟨b, off, none⟩ → n = 0 ∨ (b ≠ P ∧ some b ≠ go)) : RowB w' a n l := by
  refine ⟨h.1, ?_⟩
  rcases h.2 with h0 | ⟨b, off, rfl, hlt, hc⟩
  · exact Or.inl h0
  · rcases hP b off rfl with h0 | h1
    · exact Or.inl h0
    have h2 := hb.block b hlt h1.1 h1.2
    exact Or.inr ⟨b, off, rfl, Nat.lt_of_lt_of_le hlt hb.size, fun j u hj => (World.cell?_of_block (w := w) (a := ⟨b, off + j, none⟩) h2).trans (hc j u hj)⟩
/-- A literal of one piece reads on. -/
theorem stays_one {w : World} {P n c : Nat} {go : Option Nat} {a : Option Addr} {l : List UInt8} (h : RowB w a n l) (hn : a = none → n = 0 ∧ c = 0) (hP : P < w.heap.size) (hgo : ∀ g, go = some g → g < w.heap.size) (hfar : ∀ b off, a = some ⟨b, off, none⟩ → n = 0 ∨ (b ≠ P ∧ some b ≠ go)) : Stays (w.alloc (.cells #[.slice a n c] 43)) P go (some ⟨w.heap.size, 0, none⟩) 1 [l] := by
  have hl := h.len
  intro wx hb
  have hx : (w.alloc (.cells #[.slice a n c] 43)).cell? ⟨w.heap.size, 0, none⟩ = some (.slice a n c) := by simp [World.cell?_alloc_at]
  have hk : wx.heap[w.heap.size]? = (w.alloc (.cells #[.slice a n c] 43)).heap[w.heap.size]? := hb.block _ (by simp) (by omega) (fun e => by have := hgo _ e.symm; omega)
  refine ⟨[.slice a n c], ⟨rfl, Or.inr ⟨w.heap.size, 0, rfl, Nat.lt_of_lt_of_le (by simp) hb.size, fun j u hj => ?_⟩⟩, rfl, fun j u hj => ?_⟩
  · have hj2 : j < 1 := (List.getElem?_eq_some_iff.1 hj).1
    have : j = 0 := by omega
    subst this
    simp at hj; subst hj
    exact (World.cell?_of_block (w := w.alloc (.cells #[.slice a n c] 43)) (a := ⟨w.heap.size, 0 + 0, none⟩) hk).trans hx
  · have hj2 : j < 1 := (List.getElem?_eq_some_iff.1 hj).1
    have : j = 0 := by omega
    subst this
    simp at hj; subst hj
    have h2 : RowB (w.alloc (.cells #[.slice a n c] 43)) a n l := CellsAt.below h ((Below.refl _ _).alloc (Nat.le_refl _) _)
    subst hl
    exact ⟨a, c, rfl, h2.but hb hfar, hn⟩

theorem piece_take (l : List UInt8) {p K : Nat} (h : p ≤ K) : l.take K = l.take p ++ (l.drop p).take (K - p) := by
  rw [← List.take_add, show p + (K - p) = K by omega]
theorem piece_fact (l : List UInt8) {p K : Nat} (h : p ≤ K) : (TK (l.take K)).1 = (TK (l.take p)).1 ++ (TK ((l.take p).drop (TK (l.take p)).2 ++ (l.drop p).take (K - p))).1 ∧ (l.take K).drop (TK (l.take K)).2 = ((l.take p).drop (TK (l.take p)).2 ++ (l.drop p).take (K - p)).drop (TK ((l.take p).drop (TK (l.take p)).2 ++ (l.drop p).take (K - p))).2 := by
  have hi := TK_inc _ (l.take p) ((l.drop p).take (K - p)) (Nat.le_refl _)
  rw [← piece_take l h] at hi
  have hle := TK_le (l.take p)
  refine ⟨by rw [hi], ?_⟩
  rw [hi]
  show (l.take K).drop ((TK (l.take p)).2 + _) = _
  rw [← List.drop_drop, piece_take l h, List.drop_append_of_le_length hle]
theorem rowB_take {w : World} {a : Option Addr} {n : Nat} {l : List UInt8} (h : RowB w a n l) (K : Nat) (hK : K ≤ n) : RowB w a K (l.take K) := by
  have hl := h.len
  refine ⟨by rw [bc_length, List.length_take]; omega, ?_⟩
  by_cases h0 : K = 0
  · exact Or.inl h0
  rcases h.2 with h1 | ⟨b, off, rfl, hlt, hc⟩
  · omega
  · refine Or.inr ⟨b, off, rfl, hlt, fun j u hj => hc j u ?_⟩
    rw [bc, List.getElem?_map, List.getElem?_take] at hj
    split at hj
    · rw [bc, List.getElem?_map]; exact hj
    · simp at hj
theorem rowB_lit1 (w : World) (x : UInt8) : RowB (w.alloc (.cells #[.int .u8 (x.toNat : Int)] 5)) (some ⟨w.heap.size, 0, none⟩) 1 [x] := by
  refine ⟨rfl, Or.inr ⟨w.heap.size, 0, rfl, by simp, fun j u hj => ?_⟩⟩
  have hj2 : j < 1 := (List.getElem?_eq_some_iff.1 hj).1
  have : j = 0 := by omega
  subst this
  simp [bc] at hj; subst hj; simp [World.cell?_alloc_at]

/-- A piece that is fed, as a literal of one. -/
theorem feed_piece (P nb p K : Nat) (lv : Value) (ln : Nat) (Bl lb pc : List UInt8) (M0 : List (List UInt8)) (gv va : Value) (W1 W0 : Nat) (w wr : World) (ad : Option Addr) (c2 : Nat)
    (hrd : RdrAt wr P nb p lv) (how : OwnM wr lv ln lb) (hG : GotS wr W0 gv M0 P lv.ownBlock) (hrb : wr.ownsRow W1 5 1 va nb (bc Bl)) (hbel : Below w.heap.size w wr) (hgP : ∀ g, lv.ownBlock = some g → P < g) (hva : ∀ g, va.ownBlock = some g → g < P) (hwP : w.heap.size ≤ P)
    (hpc : RowB wr ad (K - p) pc) (hn : ad = none → K - p = 0 ∧ c2 = 0) (hfar : ∀ b off, ad = some ⟨b, off, none⟩ → b < P) (hln : ln ≤ p) (hpK : p ≤ K) (hK : K ≤ nb) (hnb : nb ≤ 20000) :
    Calls Try.prog 50 #[.pointer (some ⟨P, 0, none⟩), .slice (some ⟨wr.heap.size, 0, none⟩) 1 1] (wr.alloc (.cells #[.slice ad (K - p) c2] 43)) fun e w5 => ∃ rv v' n' B0, e = .returned (.tuple #[rv, .int .i64 0]) ∧ RdrAt w5 P nb K v' ∧ OwnM w5 v' n' ((lb ++ pc).drop (TK (lb ++ pc)).2) ∧ OwnF w5 B0 rv (TK (lb ++ pc)).1 ∧ GotS w5 W0 gv M0 P v'.ownBlock ∧ w5.ownsRow W1 5 1 va nb (bc Bl) ∧ Below w.heap.size w w5 ∧ (∀ g, v'.ownBlock = some g → P < g) ∧ (∀ g, v'.ownBlock = some g → g < w5.heap.size) ∧ P < B0 ∧ (∀ g, v'.ownBlock = some g → g < B0) := by
  have hPw := hrd.lt
  have hpl := hpc.len
  have hgw : ∀ g, lv.ownBlock = some g → g < wr.heap.size := fun g hg => by
    rcases how.2 with ⟨e, _⟩ | ⟨g', _, _, e, e2, _⟩
    · rw [e] at hg; cases hg
    · rw [e] at hg; simp [Value.ownBlock] at hg; omega
  have hfar2 : ∀ β, β < P → β ≠ P ∧ some β ≠ lv.ownBlock := fun β h => ⟨by omega, fun e => by have := hgP β e.symm; omega⟩
  have hst := stays_one hpc hn hPw hgw (fun b off h => Or.inr (hfar2 b (hfar b off h)))
  have hb1 := (Below.refl wr.heap.size wr).alloc (Nat.le_refl _) (.cells #[.slice ad (K - p) c2] 43)
  have hR1 := hrd.kept (hb1.block P hPw)
  have hO1 := how.kept hb1.size (fun g hg => hb1.block g (hgw g hg))
  have hG1 := hG.below hb1
  have hRB1 := own_below' hrb hb1
  have hBL1 := hbel.trans (hb1.mono hbel.size)
  have hs1 := hb1.size
  have hsum : sumL [pc] = K - p := by rw [sumL_cons, hpl]; rfl
  have hfl : [pc].flatten = pc := by simp
  refine (feed_ok P nb p lv ln lb _ 1 1 [pc] _ hR1 hO1 (fun e => by have := hgP P e; omega) hst hln (by omega) (by rw [hsum]; omega) (by rw [hsum]; omega)).mono ?_
  rintro e w5 ⟨rv, v', n', B0, rfl, hrd5, how5, hof5, hbut5, hB0, hgB, hvP5, hgo5⟩
  rw [hfl] at how5 hof5
  rw [hsum, show p + (K - p) = K by omega] at hrd5
  refine ⟨rv, v', n', B0, rfl, hrd5, how5, hof5, hG1.but hbut5 hgo5, own_same hRB1 (fun g hg => hbut5.block g (hRB1.lt g hg).2 (hfar2 g (hva g hg)).1 (hfar2 g (hva g hg)).2), hBL1.trans (Below.ofBut hbut5 hBL1.size hwP (fun g hg => by have := hgP g hg; omega)), ?_, ?_, by omega, hgB⟩
  · intro g hg
    rcases hgo5 with h | h
    · exact hgP g (by rw [← h]; exact hg)
    · have := h g hg; omega
  · intro g hg
    rcases how5.2 with ⟨e, _⟩ | ⟨g', _, _, e, e2, _⟩
    · rw [e] at hg; cases hg
    · rw [e] at hg; simp [Value.ownBlock] at hg; omega
/-- None that is fed. -/
theorem stays_none (w : World) (P : Nat) (go : Option Nat) : Stays w P go none 0 [] := fun wx _ => ⟨[], ⟨rfl, Or.inl rfl⟩, rfl, fun j u h => by simp at h⟩
/-- b[l:h], wherever b lies. -/
theorem slice_any (av : Option Addr) (n cap l h : Nat) (hav : av = none ∧ n = 0 ∧ cap = 0 ∨ ∃ β off, av = some ⟨β, off, none⟩) (h1 : l ≤ h) (h2 : h ≤ cap) :
    ∃ ad : Option Addr, (∀ W, (Instr.slice 43 (.slice av n cap) (some (.int .i64 (l : Int))) (some (.int .i64 (h : Int))) none).run Try.prog W = .ok (.slice ad (h - l) (cap - l)) W) ∧ (ad = none → h - l = 0 ∧ cap - l = 0) ∧ (∀ b o, ad = some ⟨b, o, none⟩ → ∃ o', av = some ⟨b, o', none⟩) ∧ (l < h → ∀ β off, av = some ⟨β, off, none⟩ → ad = some ⟨β, off + l, none⟩) := by
  obtain ⟨i0, hi, hz0, hz1, hz2⟩ := info_parts infoU8
  have he : Try.prog.elem 43 = 5 := by simp [Program.elem, Try.underlying43]
  have hu : Try.prog.underlying 43 = some (.slice (Try.prog.elem 43)) := by rw [he]; exact Try.underlying43
  refine ⟨if cap = l then av else av.map (·.add (l * 1)), fun W => ?_, fun h3 => ?_, fun b o h3 => ?_, fun h3 β off h4 => ?_⟩
  · rw [run_slice_lh (P := Try.prog) (w := W) 43 av n cap hu .i64 .i64 _ _ (by omega) (by omega) (by omega), he]
    simp [sizeOf, typeInfo, hi, hz1, Result.andThen, sliced]
  · rcases hav with ⟨rfl, rfl, rfl⟩ | ⟨β, off, rfl⟩
    · omega
    · split at h3 <;> simp at h3
  · rcases hav with ⟨rfl, rfl, rfl⟩ | ⟨β, off, rfl⟩
    · split at h3 <;> simp at h3
    · split at h3
      · injection h3 with h3; injection h3 with e1 e2; exact ⟨off, by rw [e1]⟩
      · simp only [Option.map_some] at h3
        rw [Addr.add_mid] at h3
        injection h3 with h3; injection h3 with e1 e2; exact ⟨off, by rw [e1]⟩
  · subst h4
    rw [if_neg (by omega), Option.map_some, Addr.add_mid, Nat.mul_one]
/-- b[:h]. -/
theorem slice_head (av : Option Addr) (n cap h : Nat) (hav : av = none ∧ n = 0 ∧ cap = 0 ∨ ∃ β off, av = some ⟨β, off, none⟩) (h2 : h ≤ cap) (W : World) : (Instr.slice 43 (.slice av n cap) none (some (.int .i64 (h : Int))) none).run Try.prog W = .ok (.slice av h cap) W := by
  obtain ⟨i0, hi, hz0, hz1, hz2⟩ := info_parts infoU8
  have he : Try.prog.elem 43 = 5 := by simp [Program.elem, Try.underlying43]
  have hu : Try.prog.underlying 43 = some (.slice (Try.prog.elem 43)) := by rw [he]; exact Try.underlying43
  rw [run_slice_h (P := Try.prog) (w := W) 43 av n cap hu .i64 _ (by omega) (by omega), he]
  rcases hav with ⟨rfl, rfl, rfl⟩ | ⟨β, off, rfl⟩
  · simp [sizeOf, typeInfo, hi, hz1, Result.andThen, sliced]
  · simp [sizeOf, typeInfo, hi, hz1, Result.andThen, sliced, Addr.add]
theorem RowB.sub {w : World} {av ad : Option Addr} {n l h : Nat} {k : List UInt8} (hr : RowB w av n k) (h1 : l ≤ h) (h2 : h ≤ n) (ha : l < h → ∀ β off, av = some ⟨β, off, none⟩ → ad = some ⟨β, off + l, none⟩) : RowB w ad (h - l) ((k.drop l).take (h - l)) := by
  have hl := hr.len
  by_cases h0 : h - l = 0
  · exact ⟨by rw [bc_length, List.length_take, List.length_drop]; omega, Or.inl h0⟩
  · obtain ⟨b, off, rfl, _, _⟩ := hr.at (by omega)
    exact RowB.part hr l h h1 h2 ad (fun hlt => ha hlt _ _ rfl)
end Go.Proofs.Ytngncdmmlkcekaa
