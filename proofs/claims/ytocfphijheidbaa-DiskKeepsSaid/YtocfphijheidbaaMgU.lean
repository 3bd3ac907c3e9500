/- Texts that others rest on, one behind the other: DkM, DkN, DkO, DkQ. -/
import Derived.Test.YtocfphijheidbaaDkL
import Derived.Test.YtocfphijheidbaaDkJ
import Derived.Test.YtocfphijheidbaaFrB
section
namespace Go.Proofs.Ytocfphijheidbaa
open Go.RowKit

def updsS (R : Nat → List UInt8) (k : Nat) (b : List UInt8) : Nat → Nat → List UInt8
  | 0 => R
  | i + 1 => updS (updsS R k b i) (k + i) (secP b i)
theorem updsS_at (R : Nat → List UInt8) (k : Nat) (b : List UInt8) : ∀ (i j : Nat), updsS R k b i j = if k ≤ j ∧ j < k + i then secP b (j - k) else R j
  | 0, j => by rw [if_neg (by omega)]; rfl
  | i + 1, j => by
    rw [updsS, updS]
    by_cases h : j = k + i
    · subst h
      rw [if_pos rfl, if_pos (by omega), show k + i - k = i by omega]
    · rw [if_neg h, updsS_at R k b i j]
      by_cases h2 : k ≤ j ∧ j < k + i
      · rw [if_pos h2, if_pos (by omega)]
      · rw [if_neg h2, if_neg (by omega)]
def newsP (k : Nat) (b : List UInt8) (i : Nat) : List (Nat × List UInt8) := (List.range i).map fun j => (k + j, secP b j)
theorem newsP_len (k : Nat) (b : List UInt8) (i : Nat) : (newsP k b i).length = i := by simp [newsP]
theorem putsP_calm (s : DkP) (k : Nat) (b : List UInt8) (hf : s.fall < 1) (hd : s.down = false) : ∀ i, putsP s k b i = { s with R := updsS s.R k b i, P := s.P ++ newsP k b i, wr := s.wr + i }
  | 0 => by simp [putsP, updsS, newsP]
  | i + 1 => by
    rw [putsP, putsP_calm s k b hf hd i]
    rw [if_neg (by show ¬ s.down = true; rw [hd]; exact Bool.false_ne_true)]
    rw [putD, if_pos (by exact hf)]
    simp only [updsS, newsP, List.range_succ, List.map_append, List.map_cons, List.map_nil, List.append_assoc, Nat.add_assoc]
theorem writeP_calm (s : DkP) (k : Nat) (b : List UInt8) (hf : s.fall < 1) (hd : s.down = false) (hk : k + (b.length + 255) / 256 ≤ s.n) : writeP s (k : Int) b = ({ s with R := updsS s.R k b ((b.length + 255) / 256), P := s.P ++ newsP k b ((b.length + 255) / 256), wr := s.wr + (b.length + 255) / 256 }, 0) := by
  rw [writeP, if_neg (by rw [hd]; exact Bool.false_ne_true), if_neg (by omega), Int.toNat_natCast, putsP_calm s k b hf hd]
  rw [if_neg (by show ¬ s.down = true; rw [hd]; exact Bool.false_ne_true)]
theorem writeP_no (s : DkP) (k : Int) (b : List UInt8) (hd : s.down = false) (hk : k < 0 ∨ (s.n : Int) - (((b.length + 255) / 256 : Nat) : Int) < k) : writeP s k b = (s, 1) := by
  rw [writeP, if_neg (by rw [hd]; exact Bool.false_ne_true), if_pos hk]
/-- A made disk. -/
def newP (n : Nat) : DkP := ⟨n, fun _ => zeroS, fun _ => zeroS, [], false, 0, 0, [], n, n⟩
/-- What the statement asks of each sector behind one Write. -/
def wantS (k m : Nat) (b : List UInt8) (i : Nat) : List UInt8 := if k ≤ i ∧ i < k + m then secP b (i - k) else zeroS
theorem calm_at (n k m : Nat) (b : List UInt8) (i : Nat) : updsS (newP n).R k b m i = wantS k m b i := by
  rw [updsS_at]
  rfl
end Go.Proofs.Ytocfphijheidbaa
end

section
namespace Go.Proofs.Ytocfphijheidbaa
open Go.RowKit

set_option maxRecDepth 100000 in
/-- slices.Clone of bytes, nil or not. -/
theorem clone_val (a : Option Addr) (n c : Nat) (l : List UInt8) (w : World) (h : ValC w (.slice a n c) l) (hn : n ≤ 100000) :
    Calls Try.prog 71 #[.slice a n c] w fun e w' => ∃ v, e = .returned v ∧ w'.ownsRow w.heap.size 5 1 v n (bc l) ∧ Below w.heap.size w w' := by
  cases a with
  | none =>
    obtain ⟨rfl, rfl⟩ := h.open.2.2.2 rfl
    have hl : l = [] := List.eq_nil_of_length_eq_zero h.open.1
    subst hl
    clear h
    have hnil := fun w => Lib.run_eql_slice_nil (P := Try.prog) w 25 5 none 0 0 0 0 Try.underlying25
    go_enter Try.func71, Try.ntmps71
    go_wp2
    go_ret
    exact ⟨_, rfl, World.ownsRow_nil _ _ _ _, Below.refl _ _⟩
  | some ad => exact clone_any ad n c l w h.open.2.2.1 (by omega)
/-- A disk with another mask, and another fall. -/
theorem DkB.planned {w w' : World} {bs : List Nat} {q qd qr : Nat} {pv mv v : Value} {s : DkP} (hB : DkB w q qd qr pv mv s) (hA : DkA w bs q qd qr pv mv) (hW : DkW s) (hb : Below w.heap.size w w') (n : Nat) (m : List UInt8) (hv : w'.ownsRow w.heap.size 5 1 v n (bc m)) (x : Int) :
    ∃ cs, DkS ((w'.setCell ⟨q, 5, none⟩ (.int .i64 x)).setCell ⟨q, 6, none⟩ v) cs q { s with fall := x, mask := m } ∧ (∀ g ∈ cs, g ∈ bs ∨ w.heap.size ≤ g) ∧ Frm w ((w'.setCell ⟨q, 5, none⟩ (.int .i64 x)).setCell ⟨q, 6, none⟩ v) bs := by
  obtain ⟨⟨hc, hd, hr, ho, -⟩, ⟨⟨a1, a2, a3, a4, -⟩, a6, ⟨b1, b2, b3, b4⟩, -⟩⟩ := hB.below hA hb
  have a0 := hA.2.1
  have hk : ∀ b, b ≠ q → ((w'.setCell ⟨q, 5, none⟩ (.int .i64 x)).setCell ⟨q, 6, none⟩ v).heap[b]? = w'.heap[b]? := fun b h => (Below.heap_setCell _ _ _ _ h).trans (Below.heap_setCell _ _ _ _ h)
  have hvg : ∀ b off l c, v = .slice (some ⟨b, off, none⟩) l c → w.heap.size ≤ b ∧ b < w'.heap.size := fun b off l c e => hv.lt b (by rw [e]; rfl)
  have hq := a0 q a1
  have hqd := a0 qd a2
  have hqr := a0 qr a3
  have hvo : ∀ g, v.ownBlock = some g → w.heap.size ≤ g ∧ g < w'.heap.size := fun g e => hv.lt g e
  refine ⟨(match v.ownBlock with | some g => g :: bs | none => bs), ⟨qd, qr, pv, v, ⟨(hc.set 5 (by simp) _).set 6 (by simp) _, hd.kept (hk _ (fun e => b1 e.symm)), hr.kept (hk _ (fun e => b2 e.symm)), own_kept ho (fun g hg => hk g (b4 g hg).1), ?_⟩, ⟨⟨?_, ?_, ?_, ?_, ?_⟩, ?_, ⟨b1, b2, b3, b4⟩, ?_⟩, hW⟩, ?_, ?_⟩
  · exact (ValC.own hv).kept (by simp) (fun b off l c e => Or.inr (hk b (fun e2 => by have := (hvg b off l c e).1; omega)))
  · split
    · exact List.mem_cons_of_mem _ a1
    · exact a1
  · split
    · exact List.mem_cons_of_mem _ a2
    · exact a2
  · split
    · exact List.mem_cons_of_mem _ a3
    · exact a3
  · intro g e
    split
    · exact List.mem_cons_of_mem _ (a4 g e)
    · exact a4 g e
  · intro b off l c e
    right
    rw [e]
    exact List.mem_cons_self
  · intro b hb2
    rw [show ((w'.setCell ⟨q, 5, none⟩ (.int .i64 x)).setCell ⟨q, 6, none⟩ v).heap.size = w'.heap.size by simp]
    split at hb2
    · rename_i g e
      rcases List.mem_cons.1 hb2 with rfl | h2
      · exact (hvo _ e).2
      · exact a6 b h2
    · exact a6 b hb2
  · intro b off l c e
    right
    have h1 := (hvg b off l c e).1
    refine ⟨by omega, by omega, by omega, fun e2 => ?_⟩
    have := a0 b (a4 b e2)
    omega
  · intro g hg
    split at hg
    · rename_i g1 e
      rcases List.mem_cons.1 hg with rfl | h2
      · exact Or.inr (hvo _ e).1
      · exact Or.inl h2
    · exact Or.inl hg
  · exact (((Frm.refl w bs).below hb (Nat.le_refl _)).set q 5 (Or.inl a1) _).set q 6 (Or.inl a1) _
set_option maxRecDepth 100000 in
theorem crashAt_any (q : Nat) (x : Int) (a : Option Addr) (n c : Nat) (m : List UInt8) (bs : List Nat) (s : DkP) (w : World) (h : DkS w bs q s) (hm : ValC w (.slice a n c) m) (hn : n ≤ 100000) : Calls Try.prog 37 #[.pointer (some ⟨q, 0, none⟩), .int .i64 x, .slice a n c] w fun e w' => e = .returned (.tuple #[]) ∧ (∃ cs, DkS w' cs q { s with fall := x, mask := m } ∧ ∀ g ∈ cs, g ∈ bs ∨ w.heap.size ≤ g) ∧ Frm w w' bs := by
  obtain ⟨qd, qr, pv, mv, hB, hA, hW⟩ := h
  have HM := Lib.hid hm
  have HX := Lib.hid (fun w' (hb : Below w.heap.size w w') => (hB.below hA hb).1.1)
  have HP := Lib.hid (fun v w' (hb : Below w.heap.size w w') hv => DkB.planned (w' := w') (v := v) hB hA hW hb n m hv x)
  clear hB hA hW hm
  go_enter Try.func37, Try.ntmps37
  go_wp2_with fail
  refine (clone_val a n c m w HM.out hn).mono ?_; rintro e w1 ⟨v, rfl, ho, hb⟩
  have hc := HX.out w1 hb
  have c5 := hc.u7.2.2.2.2.2.1
  have c6 := hc.u7.2.2.2.2.2.2
  have f5 := hc.fr 5 (by decide)
  have f6 := hc.fr 6 (by decide)
  have HR := Lib.hid (HP.out v w1 hb ho)
  obtain ⟨va, vc, rfl, -⟩ := cells_own ho
  clear hc ho hb HX HP
  go_wp2
  obtain ⟨cs, h1, h2, h3⟩ := HR.out
  refine bodyPost_end (v := .tuple #[]) (by simp [results, Try.results37, go_sem]) rfl ⟨rfl, ⟨cs, h1, h2⟩, h3⟩
end Go.Proofs.Ytocfphijheidbaa
end

section
namespace Go.Proofs.Ytocfphijheidbaa
open Go.RowKit

theorem rowBC_of1 {w : World} {g : Nat} {u1 : Value} {m1 : List UInt8} (hg : g < w.heap.size) (hc : w.cell? ⟨g, 0, none⟩ = some u1) (h1 : ValC w u1 m1) : RowBC w (some ⟨g, 0, none⟩) 1 [m1] := by
  refine ⟨[u1], ⟨rfl, Or.inr ⟨g, 0, rfl, hg, fun j u hj => ?_⟩⟩, rfl, fun j u hj => ?_⟩
  · cases j with
    | zero => rw [List.getElem?_cons_zero] at hj; rw [← hj]; exact hc
    | succ j => simp at hj
  · cases j with
    | zero =>
      rw [List.getElem?_cons_zero] at hj
      injection hj with hj
      subst hj
      exact h1
    | succ j => simp at hj
theorem rowBC_of2 {w : World} {g : Nat} {u1 u2 : Value} {m1 m2 : List UInt8} (hg : g < w.heap.size) (hc : w.cell? ⟨g, 0, none⟩ = some u1) (hd : w.cell? ⟨g, 1, none⟩ = some u2) (h1 : ValC w u1 m1) (h2 : ValC w u2 m2) : RowBC w (some ⟨g, 0, none⟩) 2 [m1, m2] := by
  refine ⟨[u1, u2], ⟨rfl, Or.inr ⟨g, 0, rfl, hg, fun j u hj => ?_⟩⟩, rfl, fun j u hj => ?_⟩
  · match j, hj with
    | 0, hj => rw [List.getElem?_cons_zero] at hj; rw [← hj]; exact hc
    | 1, hj => rw [List.getElem?_cons_succ, List.getElem?_cons_zero] at hj; rw [← hj]; exact hd
    | j + 2, hj => simp at hj
  · match j, hj with
    | 0, hj => rw [List.getElem?_cons_zero] at hj; injection hj with hj; subst hj; exact h1
    | 1, hj => rw [List.getElem?_cons_succ, List.getElem?_cons_zero] at hj; injection hj with hj; subst hj; exact h2
    | j + 2, hj => simp at hj
/-- A frame of blocks keeps bytes that lie below them. -/
theorem ValC.under {w w' : World} {bs : List Nat} {u : Value} {m : List UInt8} {B : Nat} (h : ValC w u m) (hf : Frm w w' bs) (hB : ∀ b ∈ bs, B ≤ b) (hu : ∀ g o l c, u = .slice (some ⟨g, o, none⟩) l c → l = 0 ∨ g < B) : ValC w' u m :=
  h.kept hf.size (fun b off l c' e => by
    rcases hu b off l c' e with h0 | h0
    · exact Or.inl h0
    · rcases h.lt b off l c' e with h1 | h1
      · exact Or.inl h1
      · exact Or.inr (hf.block b h1 (fun e2 => by have := hB b e2; omega)))
theorem Frm.cell {w w' : World} {bs : List Nat} (hf : Frm w w' bs) {a : Addr} {v : Value} (h : w.cell? a = some v) (ha : a.block ∉ bs) : w'.cell? a = some v := by
  have hlt := block_lt_of_cell (w := w) (a := a) h
  exact (World.cell?_of_block (hf.block a.block hlt ha)).trans h
/-- What a set of blocks becomes keeps apart from what stood. -/
theorem apart_more {w : World} {bs cs ds : List Nat} (h : ∀ g ∈ cs, g ∈ bs ∨ w.heap.size ≤ g) (hd : ∀ g ∈ ds, g < w.heap.size) (ha : ∀ g ∈ ds, g ∉ bs) : ∀ g ∈ ds, g ∉ cs := fun g h1 h2 => by
  rcases h g h2 with h3 | h3
  · exact ha g h1 h3
  · have := hd g h1; omega
end Go.Proofs.Ytocfphijheidbaa
end

section
namespace Go.Proofs.Ytocfphijheidbaa
open Go.RowKit

structure Two (w wx : World) (q1 q2 : Nat) (c1 c2 : List Nat) (s1 s2 : DkP) : Prop where
  one : DkS wx c1 q1 s1
  two : DkS wx c2 q2 s2
  g1 : ∀ g ∈ c1, w.heap.size ≤ g
  g2 : ∀ g ∈ c2, w.heap.size ≤ g
  ap : ∀ g ∈ c2, g ∉ c1
  bel : Below w.heap.size w wx
theorem Two.below {w wx wy : World} {q1 q2 : Nat} {c1 c2 : List Nat} {s1 s2 : DkP} (h : Two w wx q1 q2 c1 c2 s1 s2) (hb : Below wx.heap.size wx wy) : Two w wy q1 q2 c1 c2 s1 s2 :=
  ⟨h.one.below hb, h.two.below hb, h.g1, h.g2, h.ap, h.bel.trans (hb.mono h.bel.size)⟩
theorem Two.put1 {w wx wy : World} {q1 q2 : Nat} {c1 c2 d : List Nat} {s1 s2 s : DkP} (h : Two w wx q1 q2 c1 c2 s1 s2) (hs : DkS wy d q1 s) (hd : ∀ g ∈ d, g ∈ c1 ∨ wx.heap.size ≤ g) (hf : Frm wx wy c1) : Two w wy q1 q2 d c2 s s2 :=
  ⟨hs, h.two.frm hf h.ap, fun g hg => (hd g hg).elim (h.g1 g) (Nat.le_trans h.bel.size), h.g2, apart_more hd h.two.lt h.ap, hf.under h.bel h.g1 h.bel.size⟩
theorem Two.put2 {w wx wy : World} {q1 q2 : Nat} {c1 c2 d : List Nat} {s1 s2 s : DkP} (h : Two w wx q1 q2 c1 c2 s1 s2) (hs : DkS wy d q2 s) (hd : ∀ g ∈ d, g ∈ c2 ∨ wx.heap.size ≤ g) (hf : Frm wx wy c2) : Two w wy q1 q2 c1 d s1 s :=
  ⟨h.one.frm hf (fun g h1 h2 => h.ap g h2 h1), hs, h.g1, fun g hg => (hd g hg).elim (h.g2 g) (Nat.le_trans h.bel.size), fun g h1 h2 => (hd g h1).elim (fun h3 => h.ap g h3 h2) (fun h3 => by have := h.one.lt g h2; omega), hf.under h.bel h.g2 h.bel.size⟩
/-- A slice of one slice, in a block of its own. -/
structure LitOne (wx : World) (g : Nat) (u : Value) (c1 : List Nat) : Prop where
  lt : g < wx.heap.size
  cell : wx.cell? ⟨g, 0, none⟩ = some u
  ap : g ∉ c1
theorem LitOne.new {wx : World} {u : Value} {c1 : List Nat} (h : ∀ g ∈ c1, g < wx.heap.size) (T : TypeId) : LitOne (wx.alloc (.cells #[u] T)) wx.heap.size u c1 :=
  ⟨by rw [World.size_alloc]; omega, by rw [World.cell?_alloc_new]; rfl, fun e => Nat.lt_irrefl _ (h _ e)⟩
theorem LitOne.below {wx wy : World} {g : Nat} {u : Value} {c1 : List Nat} (h : LitOne wx g u c1) (hb : Below wx.heap.size wx wy) : LitOne wy g u c1 :=
  ⟨Nat.lt_of_lt_of_le h.lt hb.size, cell_later hb h.cell, h.ap⟩
theorem LitOne.put1 {wx wy : World} {g : Nat} {u : Value} {c1 d : List Nat} (h : LitOne wx g u c1) (hd : ∀ x ∈ d, x ∈ c1 ∨ wx.heap.size ≤ x) (hf : Frm wx wy c1) : LitOne wy g u d :=
  ⟨Nat.lt_of_lt_of_le h.lt hf.size, hf.cell h.cell h.ap, fun e => (hd g e).elim h.ap (fun h2 => by have := h.lt; omega)⟩
theorem LitOne.row {wx : World} {g : Nat} {u : Value} {c1 : List Nat} (h : LitOne wx g u c1) {m : List UInt8} (hv : ValC wx u m) : RowBB wx (some ⟨g, 0, none⟩) 1 [m] := (rowBC_of1 h.lt h.cell hv).bb
theorem parts_flat (b : List UInt8) (C : Nat) : [b.take C, b.drop C].flatten = b := by simp
end Go.Proofs.Ytocfphijheidbaa
end
