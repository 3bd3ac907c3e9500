/- Texts that others rest on, one behind the other: CeL, DkA, DkB, DkD, DkE, DkF, DkG. -/
import Derived.Test.YtocfphijheidbaaMgW
import Derived.Test.YtocfphijheidbaaShF
import Derived.Test.YtocfphijheidbaaFrB
import Derived.Deep.RegionLaw
import Derived.Laws.BitsAllLaws
import Derived.Test.YtocfphijheidbaaShL
import Derived.Great.BuildSlice
section
namespace Go.Proofs.Ytocfphijheidbaa
open Go.RowKit

theorem cellsK_own {w : World} {B n : Nat} {e : TypeId} {size : Nat} {v : Value} {xs : List Value} (h : w.ownsRow B e size v n xs) : ∃ a c, v = .slice a n c ∧ CellsAt w a (n * size) xs ∧ (a = none → n = 0 ∧ c = 0) := by
  rcases h.2 with ⟨rfl, rfl⟩ | ⟨g, cap, cur, rfl, hb, hg, rest⟩
  · exact ⟨none, 0, rfl, ⟨h.1, Or.inl (Nat.zero_mul _)⟩, fun _ => ⟨rfl, rfl⟩⟩
  · refine ⟨_, _, rfl, ⟨h.1, Or.inr ⟨g, 0, rfl, (Array.getElem?_eq_some_iff.1 hg).1, fun j u hj => ?_⟩⟩, fun h => by cases h⟩
    have := h.cells (g := g) rfl j u hj
    rwa [Addr.add_mid] at this
/-- append of a slice, wherever it lies, onto a row of the call's own. -/
theorem append_cellsL {w : World} {ops : Array Oper} {rest : List Oper} {o : Oper} {act : Act} {Q : Exit → Act → World → Prop} (hgd : o.guard = none) (s x : Operand) (t e : TypeId)
    (ho : o.op = .call { callee := .builtin .append, args := #[s, x], argTypes := #[t, t] })
    (i : TypeInfo) (z : Value) (size bytes : Nat) (ht : Try.prog.underlying t = some (.slice e)) (hi : Try.prog.info? e = some i) (hz : i.zero = some z) (hsize : i.size = size) (hby : i.bytes = bytes) (hzs : z.cells.size = size) (h0 : 0 < size)
    (B : Nat) (v : Value) (n : Nat) (xs : List Value) (hs : act.eval s = v) (hown : w.ownsRow B e size v n xs)
    (a : Option Addr) (len cap : Nat) (cs : List Value) (hx : act.eval x = .slice a len cap) (hn : a = none → len = 0 ∧ cap = 0) (hr : CellsAt w a (len * size) cs) (h1 : ∀ u ∈ cs, u.oneCell' = true)
    (hb : n + len ≤ 20000) (hb2 : bytes ≤ 3200) (hbase : B ≤ w.heap.size)
    (h : ∀ v' w', w'.ownsRow B e size v' (n + len) (xs ++ cs) → w.grownBy w' v.ownBlock → wpList Try.prog ops Q rest (act.put o.dst v') w') : wpList Try.prog ops Q (o :: rest) act w := by
  cases a with
  | none =>
    obtain ⟨rfl, rfl⟩ := hn rfl
    have hl : cs = [] := List.eq_nil_of_length_eq_zero (by rw [hr.1]; exact Nat.zero_mul _)
    subst hl
    refine wpList_append_own_none hgd s x t ho B e i size ht hi v n xs hs hown hx ?_
    refine h v w ?_ (World.grownBy.refl _ _)
    simpa using hown
  | some ad =>
    have hm : (n + len) * bytes ≤ 20000 * 3200 := Nat.mul_le_mul hb hb2
    refine wpList_append_own w hgd s x t ho B e i z size bytes ht hi hz hsize hby hzs h0 v n xs hs hown ad len cap cs hx hr.1 ?_ h1 (by unfold maxLen; omega) (by omega) hbase (fun v' w' h1 h2 _ => h v' w' h1 h2)
    intro j u hj
    rcases hr.2 with h0' | ⟨b, off, hab, _, hc⟩
    · have h3 := hr.1
      have h4 := (List.getElem?_eq_some_iff.1 hj).1
      omega
    · simp only [Option.some.injEq] at hab
      subst hab
      rw [Addr.add_mid]
      exact hc j u hj
theorem ownsRow_at {w : World} {B g n c size : Nat} {e : TypeId} {xs : List Value} (h : w.ownsRow B e size (.slice (some ⟨g, 0, none⟩) n c) n xs) (j : Nat) (u : Value) (hj : xs[j]? = some u) : w.cell? ⟨g, j, none⟩ = some u := by
  have := h.cells (g := g) rfl j u hj
  rw [Addr.add_mid, Nat.zero_add] at this
  exact this
/-- append of a slice, wherever it lies, in a region that draws. -/
theorem step_append_cellsL {w : World} {ops : Array Oper} {o : Oper} {act : Act} {K : Act → World → Prop} {Q : Exit → Act → World → Prop} {E : Prop} (hgd : o.guard = none) (s x : Operand) (t e : TypeId)
    (ho : o.op = .call { callee := .builtin .append, args := #[s, x], argTypes := #[t, t] })
    (i : TypeInfo) (z : Value) (size bytes : Nat) (ht : Try.prog.underlying t = some (.slice e)) (hi : Try.prog.info? e = some i) (hz : i.zero = some z) (hsize : i.size = size) (hby : i.bytes = bytes) (hzs : z.cells.size = size) (h0 : 0 < size)
    (B : Nat) (v : Value) (n : Nat) (xs : List Value) (hs : act.eval s = v) (hown : w.ownsRow B e size v n xs)
    (a : Option Addr) (len cap : Nat) (cs : List Value) (hx : act.eval x = .slice a len cap) (hn : a = none → len = 0 ∧ cap = 0) (hr : CellsAt w a (len * size) cs) (h1 : ∀ u ∈ cs, u.oneCell' = true)
    (hb : n + len ≤ 20000) (hb2 : bytes ≤ 3200) (hbase : B ≤ w.heap.size)
    (h : ∀ v' w', w'.ownsRow B e size v' (n + len) (xs ++ cs) → w.grownBy w' v.ownBlock → K (act.put o.dst v') w') : if Region.wanted o (yielded ops act.tmps) = true then Oper.wp Try.prog o act w K Q else E := by
  have hw : Region.wanted o (yielded ops act.tmps) = true := by simp [Region.wanted, hgd]
  rw [if_pos hw]
  cases a with
  | none =>
    obtain ⟨rfl, rfl⟩ := hn rfl
    have hl : cs = [] := List.eq_nil_of_length_eq_zero (by rw [hr.1]; exact Nat.zero_mul _)
    subst hl
    have hrun := run_append_owned_none (P := Try.prog) (w := w) B t o.type e i size ht hi v n xs hown
    unfold Oper.wp
    simp [execOp, ho, resolve, invoke, builtin, hs, hx, hrun, Result.andThen]
    exact h v w (by simpa using hown) (World.grownBy.refl _ _)
  | some ad =>
    have hm : (n + len) * bytes ≤ 20000 * 3200 := Nat.mul_le_mul hb hb2
    refine wp_append_own w s x t ho B e i z size bytes ht hi hz hsize hby hzs h0 v n xs hs hown ad len cap cs hx hr.1 ?_ h1 (by unfold maxLen; omega) (by omega) hbase (fun v' w' h1 h2 _ => h v' w' h1 h2)
    · intro j u hj
      rcases hr.2 with h0' | ⟨b, off, hab, _, hc⟩
      · have h3 := hr.1
        have h4 := (List.getElem?_eq_some_iff.1 hj).1
        omega
      · simp only [Option.some.injEq] at hab
        subst hab
        rw [Addr.add_mid]
        exact hc j u hj
theorem cells_lit (w : World) (cs : Array Value) (T : TypeId) : CellsAt (w.alloc (.cells cs T)) (some ⟨w.heap.size, 0, none⟩) cs.size cs.toList :=
  ⟨by simp, Or.inr ⟨w.heap.size, 0, rfl, by simp, fun j u hj => by
    rw [Nat.zero_add, World.cell?_alloc_new]
    rw [Array.getElem?_toList] at hj
    exact hj⟩⟩
end Go.Proofs.Ytocfphijheidbaa
end

section
namespace Go.Proofs.Ytocfphijheidbaa
open Go.RowKit

/-- Sectors laid one behind the other. -/
def secF (R : Nat → List UInt8) (i : Nat) : Int := (((R (i / 256)).getD (i % 256) 0).toNat : Int)
def flatP (P : List (Nat × List UInt8)) : List Value := P.flatMap fun x => Value.int .i64 (x.1 : Int) :: bc x.2
structure DkP where
  n : Nat
  D : Nat → List UInt8
  R : Nat → List UInt8
  P : List (Nat × List UInt8)
  down : Bool
  wr : Nat
  fall : Int
  mask : List UInt8
  cd : Nat
  cr : Nat
/-- Seven cells of a block, none frozen. -/
def DC (w : World) (q : Nat) (cs : List Value) : Prop := ∀ j c, cs[j]? = some c → w.cell? ⟨q, j, none⟩ = some c ∧ w.frozen? ⟨q, j, none⟩ = false
theorem DC.kept {w w' : World} {q : Nat} {cs : List Value} (h : DC w q cs) (hk : w'.heap[q]? = w.heap[q]?) : DC w' q cs := by
  intro j c hj
  obtain ⟨h1, h2⟩ := h j c hj
  exact ⟨(World.cell?_of_block (w := w) (a := ⟨q, j, none⟩) hk).trans h1, (World.frozen?_of_block (w := w) (a := ⟨q, j, none⟩) hk).trans h2⟩
theorem DC.set {w : World} {q : Nat} {cs : List Value} (h : DC w q cs) (i : Nat) (hi : i < cs.length) (v : Value) : DC (w.setCell ⟨q, i, none⟩ v) q (cs.set i v) := by
  intro j c hj
  by_cases e : j = i
  · subst e
    rw [List.getElem?_set_self hi] at hj
    obtain rfl := Option.some.inj hj
    have h1 := h j cs[j] (List.getElem?_eq_getElem hi)
    exact ⟨World.cell?_setCell_same _ _ _ h1.1, by rw [World.frozen?_setCell]; exact h1.2⟩
  · rw [List.getElem?_set_ne (by omega)] at hj
    have h1 := h j c hj
    exact ⟨(World.cell?_setCell_other _ _ _ _ (by intro e2; injection e2; omega)).trans h1.1, by rw [World.frozen?_setCell]; exact h1.2⟩
theorem ArA.kept {k : IntKind} {n : Nat} {w w' : World} {q o : Nat} {f : Nat → Int} (h : ArA k n w q o f) (hk : w'.heap[q]? = w.heap[q]?) : ArA k n w' q o f := by
  intro j hj
  obtain ⟨h1, h2⟩ := h j hj
  exact ⟨(World.cell?_of_block (w := w) (a := ⟨q, o + j, none⟩) hk).trans h1, (World.frozen?_of_block (w := w) (a := ⟨q, o + j, none⟩) hk).trans h2⟩
theorem own_kept {w w' : World} {B n size : Nat} {e : TypeId} {v : Value} {xs : List Value} (h : w.ownsRow B e size v n xs) (hk : ∀ g, v.ownBlock = some g → w'.heap[g]? = w.heap[g]?) : w'.ownsRow B e size v n xs := by
  refine ⟨h.1, ?_⟩
  rcases h.2 with h1 | ⟨g, cap, cur, h1, h2, h3, h4⟩
  · exact Or.inl h1
  · exact Or.inr ⟨g, cap, cur, h1, h2, (hk g (by rw [h1]; rfl)).trans h3, h4⟩
theorem ValC.kept {w w' : World} {u : Value} {m : List UInt8} (h : ValC w u m) (hs : w.heap.size ≤ w'.heap.size) (hk : ∀ b off l c, u = .slice (some ⟨b, off, none⟩) l c → l = 0 ∨ w'.heap[b]? = w.heap[b]?) : ValC w' u m := by
  obtain ⟨a, c, rfl, h1, h2, h3⟩ := h
  refine ⟨a, c, rfl, h1, ⟨h2.1, ?_⟩, h3⟩
  rcases h2.2 with h4 | ⟨b, off, rfl, hlt, hc⟩
  · exact Or.inl h4
  · rcases hk b off _ _ rfl with h5 | h5
    · exact Or.inl h5
    · exact Or.inr ⟨b, off, rfl, Nat.lt_of_lt_of_le hlt hs, fun j u hj => (World.cell?_of_block (w := w) (a := ⟨b, off + j, none⟩) h5).trans (hc j u hj)⟩
/-- All is as it was, but for these blocks. -/
structure Frm (w w' : World) (bs : List Nat) : Prop where
  os : w'.os = w.os
  tape : w'.tape = w.tape
  output : w'.output = w.output
  size : w.heap.size ≤ w'.heap.size
  block : ∀ k, k < w.heap.size → k ∉ bs → w'.heap[k]? = w.heap[k]?
theorem Frm.refl (w : World) (bs : List Nat) : Frm w w bs := ⟨rfl, rfl, rfl, Nat.le_refl _, fun _ _ _ => rfl⟩
theorem Frm.trans {w w1 w2 : World} {bs cs : List Nat} (h : Frm w w1 bs) (g : Frm w1 w2 cs) (hc : ∀ b ∈ cs, b ∈ bs ∨ w.heap.size ≤ b) : Frm w w2 bs :=
  ⟨g.os.trans h.os, g.tape.trans h.tape, g.output.trans h.output, Nat.le_trans h.size g.size, fun k hk hb => by
    rw [g.block k (Nat.lt_of_lt_of_le hk h.size) (fun e => by rcases hc k e with h1 | h1; exact hb h1; omega)]
    exact h.block k hk hb⟩
theorem Frm.below {w w1 w2 : World} {bs : List Nat} {B : Nat} (h : Frm w w1 bs) (g : Below B w1 w2) (hB : w.heap.size ≤ B) : Frm w w2 bs :=
  ⟨g.os.trans h.os, g.tape.trans h.tape, g.output.trans h.output, Nat.le_trans h.size g.size, fun k hk hb => by
    rw [g.block k (by omega)]
    exact h.block k hk hb⟩
theorem Frm.set {w w1 : World} {bs : List Nat} (h : Frm w w1 bs) (q i : Nat) (hq : q ∈ bs ∨ w.heap.size ≤ q) (v : Value) : Frm w (w1.setCell ⟨q, i, none⟩ v) bs :=
  have hb := (Below.refl 0 w1).setCell (p := ⟨q, i, none⟩) (Nat.zero_le _) v
  ⟨hb.os.trans h.os, hb.tape.trans h.tape, hb.output.trans h.output, Nat.le_trans h.size hb.size, fun k hk h1 => by
    rw [Below.heap_setCell _ _ _ _ (fun e => by rcases hq with h2 | h2; exact h1 (by rw [show k = q from e]; exact h2); (have e' : k = q := e); omega)]
    exact h.block k hk h1⟩
theorem Frm.sets {w w1 : World} {bs : List Nat} (h : Frm w w1 bs) (q o : Nat) (hq : q ∈ bs ∨ w.heap.size ≤ q) (vs : List Value) : Frm w (w1.setCells q o vs) bs := by
  induction vs generalizing o w1 with
  | nil => exact h
  | cons v vs ih => exact ih (h.set q o hq v) (o + 1)
theorem Frm.grown {w w1 w2 : World} {bs : List Nat} {row : Option Nat} (h : Frm w w1 bs) (g : w1.grownBy w2 row) (hr : ∀ b, row = some b → b ∈ bs ∨ w.heap.size ≤ b) : Frm w w2 bs :=
  ⟨g.os.trans h.os, g.tape.trans h.tape, g.output.trans h.output, Nat.le_trans h.size g.size, fun k hk hb => by
    rw [g.block k (Nat.lt_of_lt_of_le hk h.size) (fun e => by rcases hr k e.symm with h1 | h1; exact hb h1; omega)]
    exact h.block k hk hb⟩
theorem Frm.under {w0 w w1 : World} {bs : List Nat} {B : Nat} (h : Below B w0 w) (g : Frm w w1 bs) (hq : ∀ b ∈ bs, B ≤ b) (hB : B ≤ w.heap.size) : Below B w0 w1 :=
  ⟨g.os.trans h.os, g.tape.trans h.tape, g.output.trans h.output, Nat.le_trans h.size g.size, fun k hk => by rw [g.block k (by omega) (fun e => by have := hq k e; omega)]; exact h.block k hk⟩
/-- A disk: its block, its sectors, its pending writes, its mask. -/
def DkB (w : World) (q qd qr : Nat) (pv mv : Value) (s : DkP) : Prop :=
  DC w q [.slice (some ⟨qd, 0, none⟩) s.n s.cd, .slice (some ⟨qr, 0, none⟩) s.n s.cr, pv, .bool s.down, .int .i64 (s.wr : Int), .int .i64 s.fall, mv] ∧
  ArA .u8 (256 * s.n) w qd 0 (secF s.D) ∧ ArA .u8 (256 * s.n) w qr 0 (secF s.R) ∧ w.ownsRow 0 134 257 pv s.P.length (flatP s.P) ∧ ValC w mv s.mask
def DkA (w : World) (bs : List Nat) (q qd qr : Nat) (pv mv : Value) : Prop :=
  (q ∈ bs ∧ qd ∈ bs ∧ qr ∈ bs ∧ (∀ g, pv.ownBlock = some g → g ∈ bs) ∧ (∀ b off l c, mv = .slice (some ⟨b, off, none⟩) l c → l = 0 ∨ b ∈ bs)) ∧ (∀ b ∈ bs, b < w.heap.size) ∧
  (q ≠ qd ∧ q ≠ qr ∧ qd ≠ qr ∧ ∀ g, pv.ownBlock = some g → g ≠ q ∧ g ≠ qd ∧ g ≠ qr) ∧
  (∀ b off l c, mv = .slice (some ⟨b, off, none⟩) l c → l = 0 ∨ (b ≠ q ∧ b ≠ qd ∧ b ≠ qr ∧ pv.ownBlock ≠ some b))
/-- Sectors are whole. -/
def DkW (s : DkP) : Prop := (3 ≤ s.n ∧ s.n ≤ 2048) ∧ (∀ k, k < s.n → (s.D k).length = 256) ∧ (∀ k, k < s.n → (s.R k).length = 256) ∧ ∀ x ∈ s.P, x.1 < s.n ∧ x.2.length = 256
def DkS (w : World) (bs : List Nat) (q : Nat) (s : DkP) : Prop := ∃ qd qr pv mv, DkB w q qd qr pv mv s ∧ DkA w bs q qd qr pv mv ∧ DkW s
theorem DkB.kept {w w' : World} {q qd qr : Nat} {pv mv : Value} {s : DkP} (h : DkB w q qd qr pv mv s) (hs : w.heap.size ≤ w'.heap.size) (hk : ∀ b, b = q ∨ b = qd ∨ b = qr ∨ pv.ownBlock = some b ∨ (∃ off l c, mv = .slice (some ⟨b, off, none⟩) l c ∧ l ≠ 0) → w'.heap[b]? = w.heap[b]?) : DkB w' q qd qr pv mv s := by
  obtain ⟨h1, h2, h3, h4, h5⟩ := h
  refine ⟨h1.kept (hk q (Or.inl rfl)), h2.kept (hk qd (by simp)), h3.kept (hk qr (by simp)), own_kept h4 (fun g hg => hk g (by simp [hg])), h5.kept hs (fun b off l c e => ?_)⟩
  by_cases h0 : l = 0
  · exact Or.inl h0
  · exact Or.inr (hk b (Or.inr (Or.inr (Or.inr (Or.inr ⟨off, l, c, e, h0⟩)))))
theorem DkS.frm {w w' : World} {cs bs : List Nat} {q : Nat} {s : DkP} (h : DkS w cs q s) (g : Frm w w' bs) (hd : ∀ b ∈ cs, b ∉ bs) : DkS w' cs q s := by
  obtain ⟨qd, qr, pv, mv, h1, h2, h3⟩ := h
  obtain ⟨⟨a1, a2, a3, a4, a5⟩, a6, a7, a8⟩ := h2
  have hk : ∀ b ∈ cs, w'.heap[b]? = w.heap[b]? := fun b hb => g.block b (a6 b hb) (hd b hb)
  refine ⟨qd, qr, pv, mv, h1.kept g.size (fun b hb => hk b ?_), ⟨⟨a1, a2, a3, a4, a5⟩, fun b hb => Nat.lt_of_lt_of_le (a6 b hb) g.size, a7, a8⟩, h3⟩
  rcases hb with rfl | rfl | rfl | hb | ⟨off, l, c, e, h0⟩
  · exact a1
  · exact a2
  · exact a3
  · exact a4 b hb
  · rcases a5 b off l c e with h4 | h4
    · exact absurd h4 h0
    · exact h4
theorem frm_below {w w' : World} (h : Below w.heap.size w w') : Frm w w' [] := ⟨h.os, h.tape, h.output, h.size, fun k hk _ => h.block k hk⟩
theorem DkS.below {w w' : World} {cs : List Nat} {q : Nat} {s : DkP} (h : DkS w cs q s) (g : Below w.heap.size w w') : DkS w' cs q s := h.frm (frm_below g) (fun _ _ h => by simp at h)
theorem DkS.lt {w : World} {cs : List Nat} {q : Nat} {s : DkP} (h : DkS w cs q s) : ∀ b ∈ cs, b < w.heap.size := by
  obtain ⟨_, _, _, _, _, ⟨_, h2, _⟩, _⟩ := h
  exact h2
theorem DC.u7 {w : World} {q : Nat} {c0 c1 c2 c3 c4 c5 c6 : Value} (h : DC w q [c0, c1, c2, c3, c4, c5, c6]) : w.cell? ⟨q, 0, none⟩ = some c0 ∧ w.cell? ⟨q, 1, none⟩ = some c1 ∧ w.cell? ⟨q, 2, none⟩ = some c2 ∧ w.cell? ⟨q, 3, none⟩ = some c3 ∧ w.cell? ⟨q, 4, none⟩ = some c4 ∧ w.cell? ⟨q, 5, none⟩ = some c5 ∧ w.cell? ⟨q, 6, none⟩ = some c6 :=
  ⟨(h 0 _ rfl).1, (h 1 _ rfl).1, (h 2 _ rfl).1, (h 3 _ rfl).1, (h 4 _ rfl).1, (h 5 _ rfl).1, (h 6 _ rfl).1⟩
theorem DC.fr {w : World} {q : Nat} {c0 c1 c2 c3 c4 c5 c6 : Value} (h : DC w q [c0, c1, c2, c3, c4, c5, c6]) (j : Nat) (hj : j < 7) : w.frozen? ⟨q, j, none⟩ = false := by
  obtain ⟨c, hc⟩ : ∃ c, [c0, c1, c2, c3, c4, c5, c6][j]? = some c := ⟨_, List.getElem?_eq_getElem (by simpa using hj)⟩
  exact (h j c hc).2
set_option maxRecDepth 100000 in
theorem has_yes (q k : Nat) (bs : List Nat) (s : DkP) (w : World) (h : DkS w bs q s) (hk : k < s.n) : Calls Try.prog 75 #[.pointer (some ⟨q, 0, none⟩), .int .i64 (k : Int)] w fun e w' => e = .returned (.bool true) ∧ w = w' := by
  obtain ⟨qd, qr, pv, mv, ⟨hc, -, -, -, -⟩, -, -⟩ := h
  obtain ⟨-, c1, -, -, -, -, -⟩ := hc.u7
  have d1 : decide ((k : Int) < (s.n : Int)) = true := dT (by omega)
  have d2 : decide (k < s.n) = true := dT hk
  clear hc
  go_enter Try.func75, Try.ntmps75
  go_wp2
  go_ret
  exact ⟨rfl, rfl⟩
set_option maxRecDepth 100000 in
theorem has_no (q : Nat) (k : Int) (bs : List Nat) (s : DkP) (w : World) (h : DkS w bs q s) (hk : k < 0 ∨ (s.n : Int) ≤ k) : Calls Try.prog 75 #[.pointer (some ⟨q, 0, none⟩), .int .i64 k] w fun e w' => e = .returned (.bool false) ∧ w = w' := by
  obtain ⟨qd, qr, pv, mv, ⟨hc, -, -, -, -⟩, -, -⟩ := h
  obtain ⟨-, c1, -, -, -, -, -⟩ := hc.u7
  clear hc
  by_cases h0 : 0 ≤ k
  · have d0 := dT h0
    have d1 : decide (k < (s.n : Int)) = false := dF (by omega)
    clear hk h0
    go_enter Try.func75, Try.ntmps75
    go_wp2
    go_ret
    exact ⟨rfl, rfl⟩
  · have d0 := dF h0
    clear hk h0
    go_enter Try.func75, Try.ntmps75
    go_wp2
    go_ret
    exact ⟨rfl, rfl⟩
set_option maxRecDepth 100000 in
theorem up_any (q : Nat) (bs : List Nat) (s : DkP) (w : World) (h : DkS w bs q s) : Calls Try.prog 34 #[.pointer (some ⟨q, 0, none⟩)] w fun e w' => e = .returned (.bool (!s.down)) ∧ w = w' := by
  obtain ⟨qd, qr, pv, mv, ⟨hc, -, -, -, -⟩, -, -⟩ := h
  obtain ⟨-, -, -, c3, -, -, -⟩ := hc.u7
  clear hc
  obtain ⟨b, hb⟩ : ∃ b, s.down = b := ⟨_, rfl⟩
  rw [hb] at c3 ⊢
  cases b
  all_goals
    go_enter Try.func34, Try.ntmps34
    go_wp2
    go_ret
    exact ⟨rfl, rfl⟩
set_option maxRecDepth 100000 in
theorem sectors_any (q : Nat) (bs : List Nat) (s : DkP) (w : World) (h : DkS w bs q s) : Calls Try.prog 68 #[.pointer (some ⟨q, 0, none⟩)] w fun e w' => e = .returned (.int .i64 (s.n : Int)) ∧ w = w' := by
  obtain ⟨qd, qr, pv, mv, ⟨hc, -, -, -, -⟩, -, -⟩ := h
  obtain ⟨-, c1, -, -, -, -, -⟩ := hc.u7
  clear hc
  go_enter Try.func68, Try.ntmps68
  go_wp2
  go_ret
  exact ⟨rfl, rfl⟩
set_option maxRecDepth 100000 in
theorem writesN_any (q : Nat) (bs : List Nat) (s : DkP) (w : World) (h : DkS w bs q s) : Calls Try.prog 36 #[.pointer (some ⟨q, 0, none⟩)] w fun e w' => e = .returned (.int .i64 (s.wr : Int)) ∧ w = w' := by
  obtain ⟨qd, qr, pv, mv, ⟨hc, -, -, -, -⟩, -, -⟩ := h
  obtain ⟨-, -, -, -, c4, -, -⟩ := hc.u7
  clear hc
  go_enter Try.func36, Try.ntmps36
  go_wp2
  go_ret
  exact ⟨rfl, rfl⟩
set_option maxRecDepth 100000 in
theorem pending_any (q : Nat) (bs : List Nat) (s : DkP) (w : World) (h : DkS w bs q s) : Calls Try.prog 33 #[.pointer (some ⟨q, 0, none⟩)] w fun e w' => e = .returned (.int .i64 (s.P.length : Int)) ∧ w = w' := by
  obtain ⟨qd, qr, pv, mv, ⟨hc, -, -, ho, -⟩, -, -⟩ := h
  obtain ⟨a, c, rfl, -⟩ := cellsK_own ho
  obtain ⟨-, -, c2, -, -, -, -⟩ := hc.u7
  obtain ⟨L, hL⟩ : ∃ L, s.P.length = L := ⟨_, rfl⟩
  rw [hL] at c2 ⊢
  clear hc ho hL
  go_enter Try.func33, Try.ntmps33
  go_wp2
  go_ret
  exact ⟨rfl, rfl⟩
set_option maxRecDepth 100000 in
theorem reboot_any (q : Nat) (bs : List Nat) (s : DkP) (w : World) (h : DkS w bs q s) : Calls Try.prog 31 #[.pointer (some ⟨q, 0, none⟩)] w fun e w' => e = .returned (.tuple #[]) ∧ DkS w' bs q { s with down := false } ∧ Frm w w' bs := by
  obtain ⟨qd, qr, pv, mv, h1, h2, h3⟩ := h
  obtain ⟨hc, hd, hr, ho, hm⟩ := h1
  obtain ⟨⟨a1, a2, a3, a4, a5⟩, a6, ⟨b1, b2, b3, b4⟩, a8⟩ := h2
  obtain ⟨-, -, -, c3, -, -, -⟩ := hc.u7
  have f3 := hc.fr 3 (by decide)
  have hk : ∀ b, b ≠ q → (w.setCell ⟨q, 3, none⟩ (.bool false)).heap[b]? = w.heap[b]? := fun b hb => Below.heap_setCell _ _ _ _ hb
  have HS := Lib.hid (show DkS (w.setCell ⟨q, 3, none⟩ (.bool false)) bs q { s with down := false } from
    ⟨qd, qr, pv, mv, ⟨hc.set 3 (by simp) _, hd.kept (hk _ (fun e => b1 e.symm)), hr.kept (hk _ (fun e => b2 e.symm)), own_kept ho (fun g hg => hk g (b4 g hg).1), hm.kept (by simp) (fun b off l c e => by
      rcases a8 b off l c e with h0 | h0
      · exact Or.inl h0
      · exact Or.inr (hk b h0.1))⟩, ⟨⟨a1, a2, a3, a4, a5⟩, fun b hb => by simpa using a6 b hb, ⟨b1, b2, b3, b4⟩, a8⟩, h3⟩)
  have HF := Lib.hid ((Frm.refl w bs).set q 3 (Or.inl a1) (.bool false))
  clear hc hd hr ho hm a1 a2 a3 a4 a5 a6 b1 b2 b3 b4 a8 h3 hk
  go_enter Try.func31, Try.ntmps31
  go_wp2
  refine bodyPost_end (v := .tuple #[]) (by simp [results, Try.results31, go_sem]) rfl ⟨rfl, HS.out, HF.out⟩
end Go.Proofs.Ytocfphijheidbaa
end

section
namespace Go.Proofs.Ytocfphijheidbaa
open Go.RowKit

theorem secF_at (R : Nat → List UInt8) (k j : Nat) (hj : j < 256) : secF R (256 * k + j) = (((R k).getD j 0).toNat : Int) := by
  unfold secF
  rw [show (256 * k + j) / 256 = k by omega, show (256 * k + j) % 256 = j by omega]
/-- A sector's bytes. -/
theorem sec_row {w : World} {qr n k : Nat} {R : Nat → List UInt8} (h : ArA .u8 (256 * n) w qr 0 (secF R)) (hk : k < n) (hl : (R k).length = 256) : RowB w (some ⟨qr, 256 * k, none⟩) 256 (R k) := by
  have h0 := block_lt_of_cell (h 0 (by omega)).1
  simp only at h0
  refine ⟨by rw [bc_length]; exact hl, Or.inr ⟨qr, 256 * k, rfl, h0, fun j u hj => ?_⟩⟩
  have hj2 : j < 256 := by have := (List.getElem?_eq_some_iff.1 hj).1; rw [bc_length, hl] at this; exact this
  have h1 := (h (256 * k + j) (by omega)).1
  rw [Nat.zero_add, secF_at R k j hj2] at h1
  rw [h1, ← hj]
  simp [bc, List.getD_eq_getElem?_getD, List.getElem?_eq_getElem (show j < (R k).length by omega)]
theorem sec_all (q o : Nat) (W : World) : (Instr.sliceAt 131 (.pointer (some ⟨q, o, none⟩)) none none none).run Try.prog W = .ok (.slice (some ⟨q, o, none⟩) 256 256) W := by
  have he : Try.prog.elem 131 = 5 := by simp [Program.elem, Try.underlying131]
  have hl : Try.prog.arrayLen 131 = 256 := by simp [Program.arrayLen, Try.underlying131]
  have hu : Try.prog.underlying 131 = some (.array (Try.prog.arrayLen 131) (Try.prog.elem 131)) := by rw [he, hl]; exact Try.underlying131
  have z := Try.sizeOf5
  rw [run_sliceAt_array_all (P := Try.prog) W 131 ⟨q, o, none⟩ hu, he, hl]
  simp [go_sem, z, Result.andThen, slicedAt, Addr.add]
set_option maxRecDepth 100000 in
set_option maxHeartbeats 1600000 in
theorem read_yes (q k : Nat) (bs : List Nat) (s : DkP) (w : World) (h : DkS w bs q s) (hk : k < s.n) (hd : s.down = false) : Calls Try.prog 38 #[.pointer (some ⟨q, 0, none⟩), .int .i64 (k : Int)] w fun e w' => ∃ v, e = .returned (.tuple #[v, .int .i64 0]) ∧ w'.ownsRow w.heap.size 5 1 v 256 (bc (s.R k)) ∧ Below w.heap.size w w' := by
  have HD := Lib.hid h
  obtain ⟨qd, qr, pv, mv, ⟨hc, -, hr, -, -⟩, -, ⟨⟨hn3, hn⟩, -, hl, -⟩⟩ := h
  have HR := Lib.hid (sec_row hr hk (hl k hk))
  obtain ⟨-, c1, -, c3, -, -, -⟩ := hc.u7
  rw [hd] at c3
  obtain ⟨m, hm⟩ : ∃ m, 256 * k = m := ⟨_, rfl⟩
  rw [hm] at HR
  have hsl := sec_all qr m
  have hkm : k * 256 = m := by omega
  have HK := Lib.hid hk
  have d2 : decide (k < s.n) = true := dT hk
  clear hc hr hl hd
  go_enter Try.func38, Try.ntmps38
  go_wp2_with fail
  refine (has_yes q k bs s _ HD.out HK.out).mono ?_; rintro e w1 ⟨rfl, rfl⟩
  go_wp2_with fail
  refine (clone_any _ 256 256 (s.R k) _ HR.out (by decide)).mono ?_; rintro e w2 ⟨v, rfl, ho, hb⟩
  have HO := Lib.hid ho
  have HB := Lib.hid hb
  clear ho hb
  go_wp2
  go_ret2
  exact ⟨v, rfl, HO.out, HB.out⟩
set_option maxRecDepth 100000 in
theorem read_no (q : Nat) (k : Int) (bs : List Nat) (s : DkP) (w : World) (h : DkS w bs q s) (hk : k < 0 ∨ (s.n : Int) ≤ k) (hd : s.down = false) : Calls Try.prog 38 #[.pointer (some ⟨q, 0, none⟩), .int .i64 k] w fun e w' => e = .returned (.tuple #[.slice none 0 0, .int .i64 1]) ∧ w = w' := by
  have HD := Lib.hid h
  obtain ⟨qd, qr, pv, mv, ⟨hc, -, -, -, -⟩, -, -⟩ := h
  obtain ⟨-, -, -, c3, -, -, -⟩ := hc.u7
  rw [hd] at c3
  have HK := Lib.hid hk
  clear hc hd hk
  go_enter Try.func38, Try.ntmps38
  go_wp2_with fail
  refine (has_no q k bs s _ HD.out HK.out).mono ?_; rintro e w1 ⟨rfl, rfl⟩
  go_wp2
  go_ret2
  exact ⟨rfl, rfl⟩
set_option maxRecDepth 100000 in
theorem read_down (q : Nat) (k : Int) (bs : List Nat) (s : DkP) (w : World) (h : DkS w bs q s) (hd : s.down = true) : Calls Try.prog 38 #[.pointer (some ⟨q, 0, none⟩), .int .i64 k] w fun e w' => e = .returned (.tuple #[.slice none 0 0, .int .i64 9]) ∧ w = w' := by
  obtain ⟨qd, qr, pv, mv, ⟨hc, -, -, -, -⟩, -, -⟩ := h
  obtain ⟨-, -, -, c3, -, -, -⟩ := hc.u7
  rw [hd] at c3
  clear hc hd
  go_enter Try.func38, Try.ntmps38
  go_wp2
  go_ret2
  exact ⟨rfl, rfl⟩
/-- copy of elements of more cells than one. -/
theorem run_copy_cellsK (w : World) (dT sT ty elem : TypeId) (b o dLen dCap : Nat) (a : Addr) (sLen sCap size : Nat) (cs : List Value)
    (hu : Try.prog.underlying dT = some (.slice elem)) (hs : (Try.prog.info? elem).map (·.size) = some size) (hn : cs.length = Nat.min sLen dLen * size)
    (hsrc : ∀ j v, cs[j]? = some v → w.cell? (a.add j) = some v) (hc : ∀ j, j < cs.length → (w.cell? ⟨b, o + j, none⟩).isSome = true) (hf : ∀ j, j < cs.length → w.frozen? ⟨b, o + j, none⟩ = false) (h1 : ∀ v ∈ cs, v.oneCell' = true) :
    (Builtin.copy_ #[dT, sT] ty #[.slice (some ⟨b, o, none⟩) dLen dCap, .slice (some a) sLen sCap]).run Try.prog w = .ok (goInt (Nat.min sLen dLen)) (w.setCells b o cs) := by
  have hl := run_loadCells_list (P := Try.prog) w a cs hsrc
  have hst := run_storeCells_cells (P := Try.prog) b o cs 0 w (by simpa using hc) (by simpa using hf) h1
  cases hq : Try.prog.info? elem with
  | none => simp [hq] at hs
  | some i =>
    have hi : i.size = size := by simpa [hq] using hs
    simp [Builtin.copy_, run_underlying hu, Builtin.lenOf, Builtin.firstCells, sizeOf, typeInfo, hq, hi, ← hn, hl, hst]
theorem wpList_copy_K {w : World} {ops : Array Oper} {rest : List Oper} {o : Oper} {a : Act} {Q : Exit → Act → World → Prop} (hgd : o.guard = none) (d s : Operand) (dT sT : TypeId)
    (ho : o.op = .call { callee := .builtin .copy, args := #[d, s], argTypes := #[dT, sT] }) (elem : TypeId) (hu : Try.prog.underlying dT = some (.slice elem)) (size : Nat) (hsz : (Try.prog.info? elem).map (·.size) = some size)
    (b of dLen dCap : Nat) (ad : Addr) (sLen sCap : Nat) (hd : a.eval d = .slice (some ⟨b, of, none⟩) dLen dCap) (hs : a.eval s = .slice (some ad) sLen sCap)
    (cs : List Value) (hn : cs.length = Nat.min sLen dLen * size) (hsrc : ∀ j v, cs[j]? = some v → w.cell? (ad.add j) = some v)
    (hc : ∀ j, j < cs.length → (w.cell? ⟨b, of + j, none⟩).isSome = true) (hf : ∀ j, j < cs.length → w.frozen? ⟨b, of + j, none⟩ = false) (h1 : ∀ v ∈ cs, v.oneCell' = true)
    (h : wpList Try.prog ops Q rest (a.put o.dst (goInt (Nat.min sLen dLen))) (w.setCells b of cs)) : wpList Try.prog ops Q (o :: rest) a w := by
  have hrun := run_copy_cellsK w dT sT o.type elem b of dLen dCap ad sLen sCap size cs hu hsz hn hsrc hc hf h1
  refine wpList_plain hgd fun K hK => ?_
  unfold Oper.wp
  simp [execOp, ho, resolve, invoke, builtin, hd, hs, hrun, Result.andThen]
  exact hK _ _ h
theorem arL_oneC (k : IntKind) (n : Nat) (f : Nat → Int) : ∀ u ∈ arL k n f, u.oneCell' = true := by
  intro v hv
  simp only [arL, List.mem_map] at hv
  obtain ⟨_, _, rfl⟩ := hv
  rfl
theorem setCells_far (w : World) (q o : Nat) (vs : List Value) (b : Nat) (hb : b ≠ q) : (w.setCells q o vs).heap[b]? = w.heap[b]? := by
  induction vs generalizing o w with
  | nil => rfl
  | cons v vs ih => rw [World.setCells, ih]; exact Below.heap_setCell _ _ _ _ hb
theorem drew_heap (w : World) : w.drew.heap = w.heap := rfl
set_option maxRecDepth 100000 in
set_option maxHeartbeats 1600000 in
theorem settle_any (q : Nat) (bs : List Nat) (s : DkP) (w : World) (h : DkS w bs q s) : Calls Try.prog 67 #[.pointer (some ⟨q, 0, none⟩)] w fun e w' => e = .returned (.tuple #[]) ∧ DkS w' bs q { s with D := s.R, P := [] } ∧ Frm w w' bs := by
  obtain ⟨qd, qr, pv, mv, ⟨hc, hd, hr, ho, hm⟩, ⟨⟨a1, a2, a3, a4, a5⟩, a6, ⟨b1, b2, b3, b4⟩, a8⟩, hw⟩ := h
  obtain ⟨⟨hn3, hn⟩, -, hl, -⟩ := hw
  obtain ⟨c0, c1, -, -, -, -, -⟩ := hc.u7
  have hbd := (Below.refl w.heap.size w).drew
  have HD := Lib.hid (hd.below hbd)
  have HR := Lib.hid (hr.below hbd)
  have HC := Lib.hid (show DC w.drew q _ from hc.kept rfl)
  have HM := Lib.hid (hm.below hbd)
  have HA := Lib.hid (show (q ∈ bs ∧ qd ∈ bs ∧ qr ∈ bs) ∧ (∀ b ∈ bs, b < w.heap.size) ∧ q ≠ qd ∧ q ≠ qr ∧ qd ≠ qr from ⟨⟨a1, a2, a3⟩, a6, b1, b2, b3⟩)
  have HA5 := Lib.hid a5
  have HA8 := Lib.hid (show ∀ b off l c, mv = .slice (some ⟨b, off, none⟩) l c → l = 0 ∨ (b ≠ q ∧ b ≠ qd ∧ b ≠ qr) from fun b off l c e => by
    rcases a8 b off l c e with h0 | h0
    · exact Or.inl h0
    · exact Or.inr ⟨h0.1, h0.2.1, h0.2.2.1⟩)
  have HW := Lib.hid (show DkW { s with D := s.R, P := [] } from ⟨⟨hn3, hn⟩, hl, hl, fun x hx => by cases hx⟩)
  clear hc hd hr ho hm a1 a2 a3 a4 a5 a6 b1 b2 b3 b4 a8 hl hbd
  have HSZ := Lib.hid (show (Try.prog.info? 131).map (·.size) = some 256 by kernel_rfl)
  have HN1 := Lib.hid (show (arL .u8 (256 * s.n) (secF s.R)).length = Nat.min s.n s.n * 256 by
    have : Nat.min s.n s.n = s.n := Nat.min_self _
    rw [arL_length, this]; omega)
  have HN2 := Lib.hid (show ∀ j v, (arL .u8 (256 * s.n) (secF s.R))[j]? = some v → w.drew.cell? ((⟨qr, 0, none⟩ : Addr).add j) = some v from fun j v hj => by rw [Addr.add_mid]; exact HR.out.range j v hj)
  have HN3 := Lib.hid (show ∀ j, j < (arL .u8 (256 * s.n) (secF s.R)).length → (w.drew.cell? ⟨qd, 0 + j, none⟩).isSome = true from fun j hj => by rw [arL_length] at hj; rw [(HD.out j hj).1]; rfl)
  have HN4 := Lib.hid (show ∀ j, j < (arL .u8 (256 * s.n) (secF s.R)).length → w.drew.frozen? ⟨qd, 0 + j, none⟩ = false from fun j hj => by rw [arL_length] at hj; exact (HD.out j hj).2)
  have HN5 := Lib.hid (arL_oneC .u8 (256 * s.n) (secF s.R))
  go_enter Try.func67, Try.ntmps67
  go_upto_region 0 with (fail)
  go_still_tail 8, (by kernel_rfl)
  change wpList _ _ _ _ _ w.drew
  go_upto_region 1 with (refine wpList_copy_K rfl (.tmp 5) (.tmp 9) 125 125 rfl 131 Try.underlying125 256 HSZ.out qd 0 s.n s.cd ⟨qr, 0, none⟩ s.n s.cr rfl rfl (arL .u8 (256 * s.n) (secF s.R)) HN1.out HN2.out HN3.out HN4.out HN5.out ?_)
  have HD2 := Lib.hid (arA_stored (f := secF s.R) HD.out)
  have hk : ∀ b, b ≠ qd → (w.drew.setCells qd 0 (arL .u8 (256 * s.n) (secF s.R))).heap[b]? = w.drew.heap[b]? := fun b hb => setCells_far _ _ _ _ _ hb
  have HR2 := Lib.hid (HR.out.kept (hk qr (fun e => HA.out.2.2.2.2 e.symm)))
  have HC2 := Lib.hid (HC.out.kept (hk q HA.out.2.2.1))
  have HM2 := Lib.hid (HM.out.kept (w' := w.drew.setCells qd 0 (arL .u8 (256 * s.n) (secF s.R))) (by rw [setCells_size]; exact Nat.le_refl _) (fun b off l c e => by
    rcases HA8.out b off l c e with h0 | h0
    · exact Or.inl h0
    · exact Or.inr (hk b h0.2.1)))
  have HF2 := Lib.hid ((((Frm.refl w bs).below ((Below.refl w.heap.size w).drew) (Nat.le_refl _))).sets qd 0 (Or.inl HA.out.1.2.1) (arL .u8 (256 * s.n) (secF s.R)))
  obtain ⟨w2, hw2⟩ : ∃ z, w.drew.setCells qd 0 (arL .u8 (256 * s.n) (secF s.R)) = z := ⟨_, rfl⟩
  rw [hw2] at HD2 HR2 HC2 HM2 HF2 ⊢
  clear hw2 hk HD HR HC HM
  have hc2 := HC2.out.u7.2.2.1
  have hf2 := HC2.out.fr 2 (by decide)
  have hk : ∀ b, b ≠ q → (w2.setCell ⟨q, 2, none⟩ (.slice none 0 0)).heap[b]? = w2.heap[b]? := fun b hb => Below.heap_setCell _ _ _ _ hb
  have HS := Lib.hid (show DkS (w2.setCell ⟨q, 2, none⟩ (.slice none 0 0)) bs q { s with D := s.R, P := [] } from
    ⟨qd, qr, .slice none 0 0, mv, ⟨HC2.out.set 2 (by simp) _, HD2.out.kept (hk _ (fun e => HA.out.2.2.1 e.symm)), HR2.out.kept (hk _ (fun e => HA.out.2.2.2.1 e.symm)), World.ownsRow_nil _ _ _ _, HM2.out.kept (by simp) (fun b off l c e => by
      rcases HA8.out b off l c e with h0 | h0
      · exact Or.inl h0
      · exact Or.inr (hk b h0.1))⟩,
      ⟨⟨HA.out.1.1, HA.out.1.2.1, HA.out.1.2.2, (fun g hg => by cases hg), HA5.out⟩, (fun b hb => by have := HA.out.2.1 b hb; have := HF2.out.size; simp; omega), ⟨HA.out.2.2.1, HA.out.2.2.2.1, HA.out.2.2.2.2, (fun g hg => by cases hg)⟩, fun b off l c e => by
        rcases HA8.out b off l c e with h0 | h0
        · exact Or.inl h0
        · exact Or.inr ⟨h0.1, h0.2.1, h0.2.2, fun h => by cases h⟩⟩, HW.out⟩)
  have HF := Lib.hid (HF2.out.set q 2 (Or.inl HA.out.1.1) (.slice none 0 0))
  clear hk HC2 HD2 HR2 HM2 HF2 HA HA5 HA8 HW
  go_wp2
  refine bodyPost_end (v := .tuple #[]) (by simp [results, Try.results67, go_sem]) rfl ⟨rfl, HS.out, HF.out⟩
set_option maxRecDepth 100000 in
theorem flush_any (q : Nat) (bs : List Nat) (s : DkP) (w : World) (h : DkS w bs q s) (hd : s.down = false) : Calls Try.prog 27 #[.pointer (some ⟨q, 0, none⟩)] w fun e w' => e = .returned (.int .i64 0) ∧ DkS w' bs q { s with D := s.R, P := [] } ∧ Frm w w' bs := by
  have HD := Lib.hid h
  obtain ⟨qd, qr, pv, mv, ⟨hc, -, -, -, -⟩, -, -⟩ := h
  obtain ⟨-, -, -, c3, -, -, -⟩ := hc.u7
  rw [hd] at c3
  clear hc hd
  go_enter Try.func27, Try.ntmps27
  go_wp2_with fail
  refine (settle_any q bs s _ HD.out).mono ?_; rintro e w1 ⟨rfl, hs, hf⟩
  have HS := Lib.hid hs
  have HF := Lib.hid hf
  clear hs hf c3
  go_wp2
  go_ret
  exact ⟨rfl, HS.out, HF.out⟩
end Go.Proofs.Ytocfphijheidbaa
end

section
namespace Go.Proofs.Ytocfphijheidbaa
open Go.RowKit

/-- Whether the mask names a write. -/
def bitM (m : List UInt8) (i : Nat) : Bool := decide (i / 8 < m.length) && ((m.getD (i / 8) 0).toNat / 2 ^ (i % 8) % 2 == 1)
def updS (R : Nat → List UInt8) (k : Nat) (b : List UInt8) : Nat → List UInt8 := fun j => if j = k then b else R j
/-- What is read behind a fall, so many writes looked at. -/
def crR (D : Nat → List UInt8) (P : List (Nat × List UInt8)) (m : List UInt8) : Nat → (Nat → List UInt8)
  | 0 => D
  | i + 1 => if bitM m i = true then updS (crR D P m i) (P.getD i (0, [])).1 (P.getD i (0, [])).2 else crR D P m i
def crash (s : DkP) (m : List UInt8) : DkP := { s with D := crR s.D s.P m s.P.length, R := crR s.D s.P m s.P.length, P := [], down := true }
theorem crR_len {D : Nat → List UInt8} {P : List (Nat × List UInt8)} {m : List UInt8} {n : Nat} (hD : ∀ k, k < n → (D k).length = 256) (hP : ∀ x ∈ P, x.1 < n ∧ x.2.length = 256) : ∀ i, i ≤ P.length → ∀ k, k < n → (crR D P m i k).length = 256
  | 0, _, k, hk => hD k hk
  | i + 1, hi, k, hk => by
    have ih := crR_len (m := m) hD hP i (by omega)
    rw [crR]
    split
    · unfold updS
      split
      · exact (hP (P.getD i (0, [])) (by rw [List.getD_eq_getElem?_getD, List.getElem?_eq_getElem (by omega)]; exact List.getElem_mem _)).2
      · exact ih k hk
    · exact ih k hk
theorem secF_upd (R : Nat → List UInt8) (k : Nat) (b : List UInt8) (i : Nat) : secF (updS R k b) i = if i / 256 = k then ((b.getD (i % 256) 0).toNat : Int) else secF R i := by
  unfold secF updS
  split <;> rfl
/-- A sector stored. -/
theorem ArA.sector {w : World} {q n k : Nat} {R : Nat → List UInt8} (h : ArA .u8 (256 * n) w q 0 (secF R)) (hk : k < n) (b : List UInt8) (hb : b.length = 256) : ArA .u8 (256 * n) (w.setCells q (256 * k) (bc b)) q 0 (secF (updS R k b)) := by
  intro j hj
  obtain ⟨h1, h2⟩ := h j hj
  refine ⟨?_, by rw [World.frozen?_setCells]; exact h2⟩
  rw [secF_upd]
  by_cases e : j / 256 = k
  · rw [if_pos e]
    have hin := World.cell?_setCells_in q (bc b) (256 * k) w (fun i hi => by
      rw [bc_length, hb] at hi
      have := (h (256 * k + i) (by omega)).1
      rw [Nat.zero_add] at this
      rw [this]; rfl) (j % 256) (by rw [bc_length, hb]; omega)
    rw [Nat.zero_add, show j = 256 * k + j % 256 by omega]
    rw [show (256 * k + j % 256) % 256 = j % 256 by omega]
    rw [hin]
    simp [bc, List.getD_eq_getElem?_getD, List.getElem?_eq_getElem (show j % 256 < b.length by omega)]
  · rw [if_neg e, World.cell?_setCells_out q _ _ _ _ (fun _ _ => by simp only [Nat.zero_add, bc_length, hb]; omega)]
    exact h1
theorem wpStill_load_mid {ops : Array Oper} {rest : List Oper} {op : Oper} {a : Act} {w : World} {Q : Act → Prop} (hgd : op.guard = none) (ty : TypeId) (x : Operand) (ho : op.op = .load ty x)
    (b o : Nat) (hx : a.eval x = .pointer (some ⟨b, o, none⟩)) (cs : List Value) (d : TypeDesc) (hc : w.rangeAt b o cs)
    (hu : Try.prog.underlying ty = some d) (hd : d.isRow = true) (hi : (Try.prog.info? ty).map (·.size) = some cs.length)
    (h : wpStill Try.prog ops w Q rest (a.put op.dst (.agg cs.toArray))) : wpStill Try.prog ops w Q (op :: rest) a := by
  unfold wpStill
  rw [if_pos (by simp [Region.wanted, hgd])]
  unfold Oper.still execOp
  simp only [ho, hx, Instr.loadAt, Instr.sureAddr, Sem.run_bind, Sem.run_pure, Result.andThen_ok, run_loadVar_mid w b o ty cs d hc hu hd hi]
  exact ⟨rfl, h⟩
theorem flatP_at (P : List (Nat × List UInt8)) (h : ∀ x ∈ P, x.2.length = 256) (i : Nat) (hi : i < P.length) (j : Nat) (hj : j < 257) : (flatP P)[257 * i + j]? = (Value.int .i64 (((P.getD i (0, [])).1 : Nat) : Int) :: bc (P.getD i (0, [])).2)[j]? := by
  induction P generalizing i with
  | nil => simp at hi
  | cons x P ih =>
    have hx := h x (by simp)
    have hl : (Value.int .i64 (x.1 : Int) :: bc x.2).length = 257 := by rw [List.length_cons, bc_length, hx]
    have e : flatP (x :: P) = (Value.int .i64 (x.1 : Int) :: bc x.2) ++ flatP P := by simp [flatP]
    rw [e]
    cases i with
    | zero =>
      rw [List.getElem?_append_left (by rw [hl]; omega), Nat.mul_zero, Nat.zero_add]
      rfl
    | succ i =>
      rw [List.getElem?_append_right (by rw [hl]; omega), hl, show 257 * (i + 1) + j - 257 = 257 * i + j by omega]
      rw [ih (fun y hy => h y (by simp [hy])) i (by simpa using hi)]
      rfl
theorem flatP_len (P : List (Nat × List UInt8)) (h : ∀ x ∈ P, x.2.length = 256) : (flatP P).length = 257 * P.length := by
  induction P with
  | nil => rfl
  | cons x P ih =>
    have e : flatP (x :: P) = (Value.int .i64 (x.1 : Int) :: bc x.2) ++ flatP P := by simp [flatP]
    rw [e, List.length_append, List.length_cons, bc_length, h x (by simp), ih (fun y hy => h y (by simp [hy])), List.length_cons]
    omega
/-- The mask's bit, as the code asks for it. -/
theorem bit_and (v : Int) (h0 : 0 ≤ v) (h1 : v < 256) : bits .and .u8 v 1 = v % 2 := by
  obtain ⟨n, rfl⟩ : ∃ n : Nat, v = (n : Int) := ⟨v.toNat, by omega⟩
  have h := u8_and_nat n 1 (by omega) (by omega)
  have h2 : n &&& 1 = n % 2 := Nat.and_two_pow_sub_one_eq_mod n 1
  rw [h2] at h
  show bits .and .u8 (n : Int) ((1 : Nat) : Int) = _
  rw [h]
  omega
end Go.Proofs.Ytocfphijheidbaa
end

section
namespace Go.Proofs.Ytocfphijheidbaa
open Go.RowKit

theorem DkS.withR {w w' : World} {bs : List Nat} {q qd qr : Nat} {pv mv : Value} {s : DkP} {R' : Nat → List UInt8} (hB : DkB w q qd qr pv mv s) (hA : DkA w bs q qd qr pv mv) (hW : DkW s) (ho : Oth w w' qr) (hr : ArA .u8 (256 * s.n) w' qr 0 (secF R')) (hl : ∀ k, k < s.n → (R' k).length = 256) : DkS w' bs q { s with R := R' } := by
  obtain ⟨hc, hd, -, hp, hm⟩ := hB
  obtain ⟨⟨a1, a2, a3, a4, a5⟩, a6, ⟨b1, b2, b3, b4⟩, a8⟩ := hA
  have hk : ∀ b ∈ bs, b ≠ qr → w'.heap[b]? = w.heap[b]? := fun b hb hne => ho.block b (a6 b hb) hne
  refine ⟨qd, qr, pv, mv, ⟨hc.kept (hk q a1 b2), hd.kept (hk qd a2 b3), hr, own_kept hp (fun g hg => hk g (a4 g hg) (b4 g hg).2.2), hm.kept ho.size (fun b off l c e => ?_)⟩, ⟨⟨a1, a2, a3, a4, a5⟩, fun b hb => Nat.lt_of_lt_of_le (a6 b hb) ho.size, ⟨b1, b2, b3, b4⟩, a8⟩, ⟨hW.1, hW.2.1, hl, hW.2.2.2⟩⟩
  rcases a5 b off l c e with h0 | h0
  · exact Or.inl h0
  · rcases a8 b off l c e with h1 | h1
    · exact Or.inl h1
    · exact Or.inr (hk b h0 h1.2.2.1)
theorem DkS.set3 {w : World} {bs : List Nat} {q : Nat} {s : DkP} (h : DkS w bs q s) (b : Bool) : DkS (w.setCell ⟨q, 3, none⟩ (.bool b)) bs q { s with down := b } := by
  obtain ⟨qd, qr, pv, mv, h1, h2, h3⟩ := h
  obtain ⟨hc, hd, hr, ho, hm⟩ := h1
  obtain ⟨⟨a1, a2, a3, a4, a5⟩, a6, ⟨b1, b2, b3, b4⟩, a8⟩ := h2
  have hk : ∀ c, c ≠ q → (w.setCell ⟨q, 3, none⟩ (.bool b)).heap[c]? = w.heap[c]? := fun c hc => Below.heap_setCell _ _ _ _ hc
  exact ⟨qd, qr, pv, mv, ⟨hc.set 3 (by simp) _, hd.kept (hk _ (fun e => b1 e.symm)), hr.kept (hk _ (fun e => b2 e.symm)), own_kept ho (fun g hg => hk g (b4 g hg).1), hm.kept (by simp) (fun b off l c e => by
      rcases a8 b off l c e with h0 | h0
      · exact Or.inl h0
      · exact Or.inr (hk b h0.1))⟩, ⟨⟨a1, a2, a3, a4, a5⟩, fun b hb => by simpa using a6 b hb, ⟨b1, b2, b3, b4⟩, a8⟩, h3⟩
theorem DkS.cell3 {w : World} {bs : List Nat} {q : Nat} {s : DkP} (h : DkS w bs q s) : q ∈ bs ∧ w.cell? ⟨q, 3, none⟩ = some (.bool s.down) ∧ w.frozen? ⟨q, 3, none⟩ = false := by
  obtain ⟨qd, qr, pv, mv, ⟨hc, -, -, -, -⟩, ⟨⟨a1, -, -, -, -⟩, -, -, -⟩, -⟩ := h
  exact ⟨a1, hc.u7.2.2.2.1, hc.fr 3 (by decide)⟩
set_option maxRecDepth 100000 in
theorem zeroWr : Try.zeroCells134 = (Value.int .i64 0 :: bc (List.replicate 256 0)).toArray := by kernel_rfl
set_option maxRecDepth 100000 in
theorem sizeWr : (Try.prog.info? 134).map (·.size) = some 257 := by kernel_rfl
theorem sizeSec : (Try.prog.info? 131).map (·.size) = some 256 := by kernel_rfl
theorem wr_one (x : Int) (b : List UInt8) : ∀ u ∈ (Value.int .i64 x :: bc b), u.oneCell' = true := by
  intro u hu
  rcases List.mem_cons.1 hu with rfl | hu
  · rfl
  · exact bc_oneCell b u hu
/-- A write in a block of its own. -/
theorem box_write (w : World) (x : Int) (b : List UInt8) (hb : b.length = 256) (Z : Array Value) (hZ : Z = (Value.int .i64 0 :: bc (List.replicate 256 0)).toArray) (T : TypeId) : (w.alloc (.cells Z T)).there w.heap.size 0 (Value.int .i64 x :: bc b).toArray.size ∧ Below w.heap.size w ((w.alloc (.cells Z T)).setCells w.heap.size 0 (Value.int .i64 x :: bc b).toArray.toList) ∧ ((w.alloc (.cells Z T)).setCells w.heap.size 0 (Value.int .i64 x :: bc b).toArray.toList).rangeAt w.heap.size 0 (Value.int .i64 x :: bc b) ∧ ((w.alloc (.cells Z T)).setCells w.heap.size 0 (Value.int .i64 x :: bc b).toArray.toList).heap.size = w.heap.size + 1 := by
  have hl : (Value.int .i64 x :: bc b).length = 257 := by rw [List.length_cons, bc_length, hb]
  have ht : (w.alloc (.cells Z T)).there w.heap.size 0 (Value.int .i64 x :: bc b).length := by
    intro j hj
    rw [hl] at hj
    rw [Nat.zero_add, World.cell?_alloc_new, World.frozen?_alloc_new, hZ, List.getElem?_toArray, List.getElem?_eq_getElem (by rw [List.length_cons, bc_length, List.length_replicate]; omega)]
    exact ⟨rfl, rfl⟩
  refine ⟨by rw [List.size_toArray]; exact ht, shb_setCells ((Below.refl _ _).alloc (Nat.le_refl _) _) (Nat.le_refl _) _ _, World.rangeAt_setCells_same _ _ _ _ ht, by rw [setCells_size, World.size_alloc]⟩
set_option maxRecDepth 100000 in
set_option maxHeartbeats 8000000 in
theorem crash_core (q qd qr : Nat) (pv mv : Value) (bs : List Nat) (s : DkP) (ma : Option Addr) (mn mc : Nat) (m : List UInt8) (w : World) (hB : DkB w q qd qr pv mv s) (hA : DkA w bs q qd qr pv mv) (hW : DkW s) (hd : s.down = false) (hm : ValC w (.slice ma mn mc) m) (hf : ∀ b off, ma = some ⟨b, off, none⟩ → mn = 0 ∨ b ≠ qr) (hL : s.P.length ≤ 10000) (hmn : mn ≤ 1000000) :
    Calls Try.prog 30 #[.pointer (some ⟨q, 0, none⟩), .slice ma mn mc] w fun e w' => e = .returned (.tuple #[]) ∧ DkS w' bs q (crash s m) ∧ Frm w w' bs := by
  have HB := Lib.hid hB
  have HA := Lib.hid hA
  have HW := Lib.hid hW
  have HM := Lib.hid hm
  have HF := Lib.hid hf
  have HML := Lib.hid hm.open.1
  obtain ⟨hc, hdd, hr, hp, -⟩ := hB
  obtain ⟨pa, pc, rfl, -⟩ := cellsK_own hp
  obtain ⟨c0, c1, c2, c3, -, -, -⟩ := hc.u7
  rw [hd] at c3
  have hbd := (Below.refl w.heap.size w).drew
  have HSZ := Lib.hid sizeSec
  have HN1 := Lib.hid (show (arL .u8 (256 * s.n) (secF s.D)).length = Nat.min s.n s.n * 256 by
    have : Nat.min s.n s.n = s.n := Nat.min_self _
    rw [arL_length, this]; omega)
  have HN2 := Lib.hid (show ∀ j v, (arL .u8 (256 * s.n) (secF s.D))[j]? = some v → w.drew.cell? ((⟨qd, 0, none⟩ : Addr).add j) = some v from fun j v hj => by rw [Addr.add_mid]; exact (hdd.below hbd).range j v hj)
  have HN3 := Lib.hid (show ∀ j, j < (arL .u8 (256 * s.n) (secF s.D)).length → (w.drew.cell? ⟨qr, 0 + j, none⟩).isSome = true from fun j hj => by rw [arL_length] at hj; rw [((hr.below hbd) j hj).1]; rfl)
  have HN4 := Lib.hid (show ∀ j, j < (arL .u8 (256 * s.n) (secF s.D)).length → w.drew.frozen? ⟨qr, 0 + j, none⟩ = false from fun j hj => by rw [arL_length] at hj; exact ((hr.below hbd) j hj).2)
  have HN5 := Lib.hid (arL_oneC .u8 (256 * s.n) (secF s.D))
  have HR2 := Lib.hid (arA_stored (f := secF s.D) (hr.below hbd))
  have HO2 := Lib.hid (((Oth.refl w qr).below hbd (Nat.le_refl _)).sets 0 (arL .u8 (256 * s.n) (secF s.D)))
  obtain ⟨w2, hw2⟩ : ∃ z, w.drew.setCells qr 0 (arL .u8 (256 * s.n) (secF s.D)) = z := ⟨_, rfl⟩
  rw [hw2] at HR2 HO2
  have HW2 := Lib.hid hw2
  clear hw2 hbd hdd hr hp hc hd hf
  go_enter Try.func30, Try.ntmps30
  go_upto_region 1 with (fail)
  go_still_tail 8, (by kernel_rfl)
  change wpList _ _ _ _ _ w.drew
  go_upto_region 2 with (refine wpList_copy_K rfl (.tmp 13) (.tmp 17) 125 125 rfl 131 Try.underlying125 256 HSZ.out qr 0 s.n s.cr ⟨qd, 0, none⟩ s.n s.cd rfl rfl (arL .u8 (256 * s.n) (secF s.D)) HN1.out HN2.out HN3.out HN4.out HN5.out ?_; rw [HW2.out])
  clear HN1 HN2 HN3 HN4 HN5 HW2 c0 c1 c2 c3
  have hqr : q ≠ qr := HA.out.2.2.1.2.1
  have c2 := HO2.out.keeps HB.out.1.u7.2.2.1 (fun e => hqr e)
  obtain ⟨L, hLL⟩ : ∃ L, s.P.length = L := ⟨_, rfl⟩
  have HLL := Lib.hid hLL
  rw [hLL] at c2 hL
  clear hLL hm
  go_wp2_with fail
  go_loopw [24] (fun x wr => ∃ i : Nat, i ≤ L ∧ x = .int .i64 i ∧ Hid (ArA .u8 (256 * s.n) wr qr 0 (secF (crR s.D s.P m i))) ∧ Hid (Oth w wr qr)) (fun x _ => L - (intOf x).toNat)
  case atStart => exact ⟨0, Nat.zero_le _, rfl, HR2, HO2⟩
  case round =>
    clear HR2 HO2 c2
    obtain ⟨i, hi, rfl, HR, HO⟩ := hrel
    by_cases hlt : i < L
    · obtain ⟨g, hpa, hgq⟩ : ∃ g, pa = some ⟨g, 0, none⟩ ∧ g ≠ qr := by
        have ho := HB.out.2.2.2.1
        rcases ho.2 with ⟨h1, h2⟩ | ⟨g, cap, cur, h1, _⟩
        · rw [HLL.out] at h2; omega
        · injection h1 with h1
          exact ⟨g, h1, (HA.out.2.2.1.2.2.2 g (by rw [h1]; rfl)).2.2⟩
      subst hpa
      obtain ⟨x, hx⟩ : ∃ x, s.P.getD i (0, []) = x := ⟨_, rfl⟩
      have hxm : x ∈ s.P := by
        rw [← hx, List.getD_eq_getElem?_getD, List.getElem?_eq_getElem (by rw [HLL.out]; exact hlt)]
        exact List.getElem_mem _
      obtain ⟨hx1, hx2⟩ := HW.out.2.2.2 x hxm
      obtain ⟨k, b⟩ := x
      simp only at hx1 hx2
      obtain ⟨o1, ho1⟩ : ∃ o, i * 257 = o := ⟨_, rfl⟩
      have HRG := Lib.hid (show wr.rangeAt g o1 (Value.int .i64 (k : Int) :: bc b) from fun j v hj => by
        have hj2 : j < 257 := by
          have := (List.getElem?_eq_some_iff.1 hj).1
          rwa [List.length_cons, bc_length, hx2] at this
        have h1 := flatP_at s.P (fun y hy => (HW.out.2.2.2 y hy).2) i (by rw [HLL.out]; exact hlt) j hj2
        rw [hx, hj] at h1
        have h2 := ownsRow_at HB.out.2.2.2.1 (257 * i + j) v h1
        rw [show o1 + j = 257 * i + j by omega]
        exact HO.out.keeps h2 hgq)
      have HSZ2 := Lib.hid (show (Try.prog.info? 134).map (·.size) = some (Value.int .i64 (k : Int) :: bc b).length by rw [List.length_cons, bc_length, hx2]; exact sizeWr)
      obtain ⟨hbt, hbb, hbr, hbs⟩ := box_write wr (k : Int) b hx2 _ zeroWr 134
      have HBT := Lib.hid hbt
      have HBR := Lib.hid hbr
      have HO5 := Lib.hid (HO.out.below hbb HO.out.size)
      have HR5 := Lib.hid (HR.out.below hbb)
      have HH5 := Lib.hid (show wr.heap.size ≠ qr from fun e => by have := (HR.out 0 (by have := HW.out.1; omega)).1; have := block_lt_of_cell this; simp only at this; omega)
      obtain ⟨w5, hw5⟩ : ∃ z, (wr.alloc (.cells Try.zeroCells134 134)).setCells wr.heap.size 0 (Value.int .i64 (k : Int) :: bc b).toArray.toList = z := ⟨_, rfl⟩
      rw [hw5] at HBR HO5 HR5
      have HW5 := Lib.hid hw5
      obtain ⟨H, hH⟩ : ∃ z, wr.heap.size = z := ⟨_, rfl⟩
      rw [hH] at HBR HH5
      have HHE := Lib.hid hH
      have H1C := Lib.hid (show (Value.int .i64 (k : Int) :: bc b).toArray.all (·.oneCell') = true from all_oneCell_toArray (wr_one _ _))
      have HX := Lib.hid hx
      have HXL := Lib.hid hx2
      have pi0 : (0 : Int) ≤ (i : Int) := by omega
      have ri : (i : Int) < (L : Int) := by omega
      have hio : i * 257 = o1 := ho1
      have HI := Lib.hid hlt
      obtain ⟨d, hd⟩ : ∃ z, i / 8 = z := ⟨_, rfl⟩
      obtain ⟨e, he⟩ : ∃ z, i % 8 = z := ⟨_, rfl⟩
      have hdd : (i : Int).tdiv 8 = (d : Int) := by rw [Int.tdiv_eq_ediv_of_nonneg (by omega)]; omega
      have hde : (i : Int).tmod 8 = (e : Int) := by rw [Int.tmod_eq_emod_of_nonneg (by omega)]; omega
      have HBM := Lib.hid (show bitM m i = (decide (d < mn) && ((m.getD d 0).toNat / 2 ^ e % 2 == 1)) by rw [bitM, hd, he, HML.out])
      have he8 : e < 8 := by omega
      have hd10 : d ≤ 10000 := by omega
      clear hbt hbb hbr hbs hw5 hx hxm ho1 hd he hi hlt hx2 hH
      go_upto_region 5 with (first | (refine wpList_load_mid rfl 134 (.tmp 27) rfl g o1 rfl _ _ HRG.out Try.underlying134 rfl HSZ2.out ?_) | (refine wpList_store_mid rfl 134 (.tmp 5) (.tmp 28) rfl _ _ (Value.int .i64 (k : Int) :: bc b).toArray rfl rfl HBT.out (by rw [List.size_toArray]; exact HSZ2.out) H1C.out ?_; rw [HW5.out, HHE.out]))
      clear HRG HBT HW5 HHE H1C hio
      by_cases hdm : d < mn
      · have dm1 : decide (d < mn) = true := dT hdm
        have pd0 : (0 : Int) ≤ (d : Int) := by omega
        have rd : (d : Int) < (mn : Int) := by omega
        obtain ⟨bm, om, rfl, hbm, hcm⟩ : ∃ bm om, ma = some ⟨bm, om, none⟩ ∧ bm ≠ qr ∧ w.cell? ⟨bm, om + d, none⟩ = some (.int .u8 ((m.getD d 0).toNat : Int)) := by
          obtain ⟨bm, om, h1, _, h3⟩ := HM.out.open.2.2.1.at (by omega)
          refine ⟨bm, om, h1, ?_, h3 d hdm⟩
          rcases HF.out bm om h1 with h4 | h4
          · omega
          · exact h4
        have cm := HO5.out.keeps hcm hbm
        obtain ⟨y, hy⟩ : ∃ y, (m.getD d 0).toNat = y := ⟨_, rfl⟩
        have hy256 : y < 256 := by rw [← hy]; exact (m.getD d 0).toNat_lt
        rw [hy] at cm HBM
        have hpow : (2 : Nat) ^ e ≤ 128 := by
          have := Nat.pow_le_pow_right (n := 2) (by decide) (show e ≤ 7 by omega)
          simpa using this
        obtain ⟨z, hz⟩ : ∃ z, y / 2 ^ e = z := ⟨_, rfl⟩
        have hz256 : z < 256 := by rw [← hz]; exact Nat.lt_of_le_of_lt (Nat.div_le_self _ _) hy256
        have hdiv : (y : Int) / (2 : Int) ^ e = (z : Int) := by rw [← hz]; simp
        have hand := bit_and (z : Int) (by omega) (by omega)
        rw [hz] at HBM
        have HDV := Lib.hid hdiv
        have HAN := Lib.hid hand
        clear hcm hbm hy hz hpow hdm
        by_cases hbit : z % 2 = 1
        · have HBF := Lib.hid (show bitM m i = true by rw [HBM.out, dm1]; simp [hbit])
          have hand1 : bits .and .u8 (z : Int) 1 = 1 := by rw [HAN.out]; omega
          clear HAN hand hbit
          obtain ⟨o2, ho2⟩ : ∃ o, k * 256 = o := ⟨_, rfl⟩
          have HO2E := Lib.hid (show o2 = 256 * k by omega)
          have hks : k < s.n := hx1
          have pk0 : (0 : Int) ≤ (k : Int) := by omega
          have rk : (k : Int) < (s.n : Int) := by omega
          have c1' := HO5.out.keeps HB.out.1.u7.2.1 (fun e => hqr e)
          have ck := HBR.out 0 _ rfl
          rw [Nat.zero_add] at ck
          have e1 : ({ heap := w5.heap, tape := w5.tape, drawn := w5.drawn + 1, os := w5.os, output := w5.output } : World).cell? ⟨q, 1, none⟩ = some (.slice (some ⟨qr, 0, none⟩) s.n s.cr) := c1'
          have e2 : ({ heap := w5.heap, tape := w5.tape, drawn := w5.drawn + 1, os := w5.os, output := w5.output } : World).cell? ⟨H, 0, none⟩ = some (.int .i64 (k : Int)) := ck
          have HB1 := Lib.hid (show ({ heap := w5.heap, tape := w5.tape, drawn := w5.drawn + 1, os := w5.os, output := w5.output } : World).rangeAt H 1 (bc b) from fun j v hj => by
            have h1 := HBR.out (j + 1) v (by simpa using hj)
            rw [Nat.zero_add, Nat.add_comm j 1] at h1
            exact h1)
          have HSB := Lib.hid (show (Try.prog.info? 131).map (·.size) = some (bc b).length by rw [bc_length, HXL.out]; exact sizeSec)
          have HTH := Lib.hid (show w5.drew.there qr o2 (bc b).toArray.size from fun j hj => by
            rw [List.size_toArray, bc_length, HXL.out] at hj
            have h1 := HR5.out (o2 + j) (by have := HO2E.out; omega)
            rw [Nat.zero_add] at h1
            exact ⟨by show (w5.cell? _).isSome = true; rw [h1.1]; rfl, h1.2⟩)
          have HOB := Lib.hid (show (bc b).toArray.all (·.oneCell') = true from all_oneCell_toArray (bc_oneCell b))
          have hbd := (Below.refl w5.heap.size w5).drew
          have HR6 := Lib.hid (show ArA .u8 (256 * s.n) (w5.drew.setCells qr o2 (bc b).toArray.toList) qr 0 (secF (crR s.D s.P m (i + 1))) from by
            rw [crR, HBF.out, if_pos rfl, HX.out, HO2E.out]
            exact (HR5.out.below hbd).sector hks b HXL.out)
          have HO6 := Lib.hid ((HO5.out.below hbd HO5.out.size).sets o2 (bc b).toArray.toList)
          obtain ⟨w6, hw6⟩ : ∃ z, w5.drew.setCells qr o2 (bc b).toArray.toList = z := ⟨_, rfl⟩
          rw [hw6] at HR6 HO6
          have HW6 := Lib.hid hw6
          clear hbd hw6 HBF HX HR5 HO5 HBR hx1 hks
          go_upto_region 6 with (fail)
          refine wp_region_still_tail 9 (by kernel_rfl) (by kernel_rfl) ?_
          simp only [List.take_succ_cons, List.take_zero, List.drop_succ_cons, List.drop_zero]
          repeat (first | (refine wpStill_load_mid rfl 131 (.tmp 52) rfl H 1 rfl (bc b) _ HB1.out Try.underlying131 rfl HSB.out ?_) | still_step)
          refine wpStill_nil ?_
          change wpList _ _ _ _ _ w5.drew
          go_wp2_with (refine wpList_store_mid rfl 131 (.tmp 54) (.tmp 53) rfl qr o2 (bc b).toArray rfl rfl HTH.out (by rw [List.size_toArray]; exact HSB.out) HOB.out ?_; rw [HW6.out])
          go_roundw
          case rel => exact ⟨i + 1, HI.out, by go_num, HR6, HO6⟩
          case measure =>
            simp only [intOf]
            have := HI.out
            omega
        · have HBF := Lib.hid (show bitM m i = false by rw [HBM.out, dm1]; simp [hbit])
          have hand1 : bits .and .u8 (z : Int) 1 = 0 := by rw [HAN.out]; omega
          clear HAN hand hbit
          have HRN := Lib.hid (show secF (crR s.D s.P m (i + 1)) = secF (crR s.D s.P m i) by rw [crR, HBF.out]; rfl)
          clear HBF HBR HX HXL HSZ2 HH5
          go_wp2
          go_roundw
          case rel => exact ⟨i + 1, HI.out, by go_num, Lib.hid (by rw [HRN.out]; exact HR5.out), HO5⟩
          case measure =>
            simp only [intOf]
            have := HI.out
            omega
      · have dm1 : decide (d < mn) = false := dF hdm
        have dm2 : decide ((d : Int) < (mn : Int)) = false := dF (by omega)
        have HBF := Lib.hid (show bitM m i = false by rw [HBM.out, dm1]; rfl)
        clear hdm
        have HRN := Lib.hid (show secF (crR s.D s.P m (i + 1)) = secF (crR s.D s.P m i) by rw [crR, HBF.out]; rfl)
        clear HBF HBR HX HXL HSZ2 HH5
        go_wp2
        go_roundw
        case rel => exact ⟨i + 1, HI.out, by go_num, Lib.hid (by rw [HRN.out]; exact HR5.out), HO5⟩
        case measure =>
          simp only [intOf]
          have := HI.out
          omega
    · have hiL : i = L := by omega
      have HSS := Lib.hid (show DkS wr bs q { s with R := crR s.D s.P m s.P.length } from DkS.withR HB.out HA.out HW.out HO.out (by rw [HLL.out, ← hiL]; exact HR.out) (crR_len HW.out.2.1 HW.out.2.2.2 _ (Nat.le_refl _)))
      have HFF := Lib.hid (show Frm w wr bs from ⟨HO.out.os, HO.out.tape, HO.out.output, HO.out.size, fun k hk hb => HO.out.block k hk (fun e => hb (by rw [e]; exact HA.out.1.2.2.1))⟩)
      have dI : decide (i < L) = false := dF hlt
      clear hlt hi hiL HR HO
      go_wp2_with fail
      refine (settle_any q bs _ _ HSS.out).mono ?_; rintro e w7 ⟨rfl, hs, hf⟩
      have HS7 := Lib.hid hs
      have HF7 := Lib.hid (HFF.out.trans hf (fun b hb => Or.inl hb))
      obtain ⟨hqb, c3, f3⟩ := hs.cell3
      have HS8 := Lib.hid (show DkS (w7.setCell ⟨q, 3, none⟩ (.bool true)) bs q (crash s m) from HS7.out.set3 true)
      have HF8 := Lib.hid (HF7.out.set q 3 (Or.inl hqb) (.bool true))
      clear hs hf HS7 HF7 HSS HFF
      go_wp2
      refine bodyPost_end (v := .tuple #[]) (by simp [results, Try.results30, go_sem]) rfl ⟨rfl, HS8.out, HF8.out⟩
set_option maxRecDepth 100000 in
theorem crash_down (q : Nat) (bs : List Nat) (s : DkP) (mv : Value) (w : World) (h : DkS w bs q s) (hd : s.down = true) : Calls Try.prog 30 #[.pointer (some ⟨q, 0, none⟩), mv] w fun e w' => e = .returned (.tuple #[]) ∧ w = w' := by
  obtain ⟨-, c3, -⟩ := h.cell3
  rw [hd] at c3
  clear hd
  go_enter Try.func30, Try.ntmps30
  go_wp2
  refine bodyPost_ret (v := .tuple #[]) (by simp [results, Try.results30, go_sem]) rfl ⟨rfl, rfl⟩
end Go.Proofs.Ytocfphijheidbaa
end

section
namespace Go.Proofs.Ytocfphijheidbaa
open Go.RowKit

/-- append: the row lies where it lay, or in a new block. -/
theorem run_append_fr (w : World) (t ty e : TypeId) (i : TypeInfo) (z : Value) (size bytes : Nat) (ht : Try.prog.underlying t = some (.slice e)) (hi : Try.prog.info? e = some i) (hz : i.zero = some z) (hsize : i.size = size) (hby : i.bytes = bytes) (hzs : z.cells.size = size) (hsz : 0 < size)
    (v : Value) (n : Nat) (xs : List Value) (hown : w.ownsRow 0 e size v n xs) (a : Addr) (m c : Nat) (news : List Value) (hl : news.length = m * size) (hnews : ∀ (j : Nat) (u : Value), news[j]? = some u → w.cell? (a.add j) = some u) (h1 : ∀ u ∈ news, u.oneCell' = true)
    (h63 : n + m ≤ maxLen) (hbytes : (n + m) * bytes ≤ 140737488355328) :
    ∃ v' w', (Builtin.append_ #[t, t] ty #[v, .slice (some a) m c]).run Try.prog w = .ok v' w' ∧ w'.ownsRow 0 e size v' (n + m) (xs ++ news) ∧ w.grownBy w' v.ownBlock ∧ ∀ g, v'.ownBlock = some g → v.ownBlock = some g ∨ w.heap.size ≤ g := by
  obtain ⟨v', w', hr, ho, hg, -⟩ := run_append_own (P := Try.prog) w 0 t ty e i z size bytes ht hi hz hsize hby hzs hsz v n xs hown a m c news hl hnews h1 h63 hbytes (Nat.zero_le _)
  refine ⟨v', w', hr, ho, hg, fun g hvg => ?_⟩
  rcases hown.2 with ⟨rfl, rfl⟩ | ⟨g0, cap, cur, rfl, h2, h3, h4, h5, h6, h7⟩
  · obtain ⟨v2, w2, hr2, ho2, -, -⟩ := run_append_own (P := Try.prog) w w.heap.size t ty e i z size bytes ht hi hz hsize hby hzs hsz (.slice none 0 0) 0 xs ⟨hown.1, Or.inl ⟨rfl, rfl⟩⟩ a m c news hl hnews h1 h63 hbytes (Nat.le_refl _)
    rw [hr] at hr2
    injection hr2 with e1 e2
    subst e1; subst e2
    rcases ho2.2 with ⟨rfl, _⟩ | ⟨g1, c1, cur1, rfl, hb1, _⟩
    · cases hvg
    · injection hvg with hvg
      exact Or.inr (by subst hvg; exact hb1)
  · by_cases hroom : n + m ≤ cap
    · obtain ⟨w2, hr2, -, -⟩ := run_append_fits (P := Try.prog) w 0 t ty e i size ht hi hsize g0 n cap xs hown a m c news hl hnews h1 hroom
      rw [hr] at hr2
      injection hr2 with e1 e2
      subst e1
      exact Or.inl hvg
    · have holds : ∀ (j : Nat) (u : Value), xs[j]? = some u → w.cell? ((⟨g0, 0, none⟩ : Addr).add j) = some u := hown.cells (g := g0) rfl
      have hm : n + m ≤ 9223372036854775807 := by unfold maxLen at h63; omega
      have hr2 := run_append_grow (P := Try.prog) w t ty e i z ht hi hz ⟨g0, 0, none⟩ n cap xs (by rw [hsize]; exact hown.1) holds a m c news (by rw [hsize]; exact hl) hnews (by omega) (by omega) (growslice_fits (by omega) (by rw [hby]; exact hbytes))
      rw [hr] at hr2
      injection hr2 with e1 e2
      subst e1
      injection hvg with hvg
      exact Or.inr (by rw [← hvg]; exact Nat.le_refl _)
theorem step_append_fr {w : World} {ops : Array Oper} {o : Oper} {act : Act} {K : Act → World → Prop} {Q : Exit → Act → World → Prop} {E : Prop} (hgd : o.guard = none) (s x : Operand) (t e : TypeId)
    (ho : o.op = .call { callee := .builtin .append, args := #[s, x], argTypes := #[t, t] })
    (i : TypeInfo) (z : Value) (size bytes : Nat) (ht : Try.prog.underlying t = some (.slice e)) (hi : Try.prog.info? e = some i) (hz : i.zero = some z) (hsize : i.size = size) (hby : i.bytes = bytes) (hzs : z.cells.size = size) (h0 : 0 < size)
    (v : Value) (n : Nat) (xs : List Value) (hs : act.eval s = v) (hown : w.ownsRow 0 e size v n xs)
    (a : Addr) (len cap : Nat) (cs : List Value) (hx : act.eval x = .slice (some a) len cap) (hr : CellsAt w (some a) (len * size) cs) (h1 : ∀ u ∈ cs, u.oneCell' = true)
    (hb : n + len ≤ 20000) (hb2 : bytes ≤ 3200)
    (h : ∀ v' w', w'.ownsRow 0 e size v' (n + len) (xs ++ cs) → w.grownBy w' v.ownBlock → (∀ g, v'.ownBlock = some g → v.ownBlock = some g ∨ w.heap.size ≤ g) → K (act.put o.dst v') w') : if Region.wanted o (yielded ops act.tmps) = true then Oper.wp Try.prog o act w K Q else E := by
  have hw : Region.wanted o (yielded ops act.tmps) = true := by simp [Region.wanted, hgd]
  rw [if_pos hw]
  have hm : (n + len) * bytes ≤ 20000 * 3200 := Nat.mul_le_mul hb hb2
  have hcs : ∀ (j : Nat) (u : Value), cs[j]? = some u → w.cell? (a.add j) = some u := by
    intro j u hj
    rcases hr.2 with h0' | ⟨b, off, hab, _, hc⟩
    · have h3 := hr.1
      have h4 := (List.getElem?_eq_some_iff.1 hj).1
      omega
    · simp only [Option.some.injEq] at hab
      subst hab
      rw [Addr.add_mid]
      exact hc j u hj
  obtain ⟨v', w', hrun, h2, h3, h4⟩ := run_append_fr w t o.type e i z size bytes ht hi hz hsize hby hzs h0 v n xs hown a len cap cs hr.1 hcs h1 (by unfold maxLen; omega) (by omega)
  unfold Oper.wp
  simp [execOp, ho, resolve, invoke, builtin, hs, hx, hrun, Result.andThen]
  exact h v' w' h2 h3 h4
theorem wpList_append_fr {w : World} {ops : Array Oper} {rest : List Oper} {o : Oper} {act : Act} {Q : Exit → Act → World → Prop} (hgd : o.guard = none) (s x : Operand) (t e : TypeId)
    (ho : o.op = .call { callee := .builtin .append, args := #[s, x], argTypes := #[t, t] })
    (i : TypeInfo) (z : Value) (size bytes : Nat) (ht : Try.prog.underlying t = some (.slice e)) (hi : Try.prog.info? e = some i) (hz : i.zero = some z) (hsize : i.size = size) (hby : i.bytes = bytes) (hzs : z.cells.size = size) (h0 : 0 < size)
    (v : Value) (n : Nat) (xs : List Value) (hs : act.eval s = v) (hown : w.ownsRow 0 e size v n xs)
    (a : Addr) (len cap : Nat) (cs : List Value) (hx : act.eval x = .slice (some a) len cap) (hr : CellsAt w (some a) (len * size) cs) (h1 : ∀ u ∈ cs, u.oneCell' = true)
    (hb : n + len ≤ 20000) (hb2 : bytes ≤ 3200)
    (h : ∀ v' w', w'.ownsRow 0 e size v' (n + len) (xs ++ cs) → w.grownBy w' v.ownBlock → (∀ g, v'.ownBlock = some g → v.ownBlock = some g ∨ w.heap.size ≤ g) → wpList Try.prog ops Q rest (act.put o.dst v') w') : wpList Try.prog ops Q (o :: rest) act w := by
  have hw : Region.wanted o (yielded ops act.tmps) = true := by simp [Region.wanted, hgd]
  have hst := step_append_fr (ops := ops) (Q := Q) (K := wpList Try.prog ops Q rest) (E := False) hgd s x t e ho i z size bytes ht hi hz hsize hby hzs h0 v n xs hs hown a len cap cs hx hr h1 hb hb2 h
  rw [if_pos hw] at hst
  unfold wpList
  rw [if_pos hw]
  exact Or.inl hst
/-- A whole array loaded, in a region that draws. -/
theorem step_load_mid {w : World} {ops : Array Oper} {op : Oper} {act : Act} {K : Act → World → Prop} {Q : Exit → Act → World → Prop} {E : Prop} (hgd : op.guard = none) (ty : TypeId) (x : Operand) (ho : op.op = .load ty x)
    (b o : Nat) (hx : act.eval x = .pointer (some ⟨b, o, none⟩)) (cs : List Value) (d : TypeDesc) (hc : w.rangeAt b o cs)
    (hu : Try.prog.underlying ty = some d) (hd : d.isRow = true) (hi : (Try.prog.info? ty).map (·.size) = some cs.length)
    (h : K (act.put op.dst (.agg cs.toArray)) w) : if Region.wanted op (yielded ops act.tmps) = true then Oper.wp Try.prog op act w K Q else E := by
  have hw : Region.wanted op (yielded ops act.tmps) = true := by simp [Region.wanted, hgd]
  rw [if_pos hw]
  unfold Oper.wp execOp
  simp only [ho, hx, Instr.loadAt, Instr.sureAddr, Sem.run_bind, Sem.run_pure, Result.andThen_ok, run_loadVar_mid w b o ty cs d hc hu hd hi]
  exact h
/-- A write more among the pending ones. -/
theorem DkB.more {w w' : World} {bs : List Nat} {q qd qr : Nat} {pv mv v' : Value} {s : DkP} (hB : DkB w q qd qr pv mv s) (hA : DkA w bs q qd qr pv mv) (hW : DkW s) (k : Nat) (b : List UInt8) (hk : k < s.n) (hb : b.length = 256)
    (hown : w'.ownsRow 0 134 257 v' (s.P.length + 1) (flatP s.P ++ (Value.int .i64 (k : Int) :: bc b))) (hg : w.grownBy w' pv.ownBlock) (hf : ∀ g, v'.ownBlock = some g → pv.ownBlock = some g ∨ w.heap.size ≤ g) :
    ∃ cs, DkS (w'.setCell ⟨q, 2, none⟩ v') cs q { s with P := s.P ++ [(k, b)] } ∧ (∀ g ∈ cs, g ∈ bs ∨ w.heap.size ≤ g) ∧ Frm w (w'.setCell ⟨q, 2, none⟩ v') bs := by
  obtain ⟨hc, hd, hr, hp, hm⟩ := hB
  obtain ⟨⟨a1, a2, a3, a4, a5⟩, a6, ⟨b1, b2, b3, b4⟩, a8⟩ := hA
  have hk1 : ∀ c ∈ bs, pv.ownBlock ≠ some c → w'.heap[c]? = w.heap[c]? := fun c hc hne => hg.block c (a6 c hc) (fun e => hne e.symm)
  have hq : w'.heap[q]? = w.heap[q]? := hk1 q a1 (fun e => (b4 q e).1 rfl)
  have hqd : w'.heap[qd]? = w.heap[qd]? := hk1 qd a2 (fun e => (b4 qd e).2.1 rfl)
  have hqr : w'.heap[qr]? = w.heap[qr]? := hk1 qr a3 (fun e => (b4 qr e).2.2 rfl)
  have hlt : ∀ g, v'.ownBlock = some g → g < w'.heap.size := by
    intro g e
    rcases hown.2 with ⟨rfl, _⟩ | ⟨g1, c1, cur1, rfl, _, h3, _⟩
    · cases e
    · injection e with e
      subst e
      exact (Array.getElem?_eq_some_iff.1 h3).1
  have hne : ∀ g, v'.ownBlock = some g → g ≠ q ∧ g ≠ qd ∧ g ≠ qr := by
    intro g e
    rcases hf g e with h1 | h1
    · exact b4 g h1
    · have := a6 q a1; have := a6 qd a2; have := a6 qr a3
      exact ⟨by omega, by omega, by omega⟩
  have hks : ∀ c, c ≠ q → (w'.setCell ⟨q, 2, none⟩ v').heap[c]? = w'.heap[c]? := fun c hc => Below.heap_setCell _ _ _ _ hc
  have hP : (s.P ++ [(k, b)]).length = s.P.length + 1 := by simp
  have hF : flatP (s.P ++ [(k, b)]) = flatP s.P ++ (Value.int .i64 (k : Int) :: bc b) := by simp [flatP]
  have hm0 : ∀ c off l cap, mv = .slice (some ⟨c, off, none⟩) l cap → l = 0 ∨ w'.heap[c]? = w.heap[c]? := fun c off l cap e => by
    rcases a8 c off l cap e with h0 | h0
    · exact Or.inl h0
    · rcases a5 c off l cap e with h2 | h2
      · exact Or.inl h2
      · exact Or.inr (hk1 c h2 h0.2.2.2)
  refine ⟨(match v'.ownBlock with | some g => g :: bs | none => bs), ⟨qd, qr, v', mv, ⟨(hc.kept hq).set 2 (by simp) _, (hd.kept hqd).kept (hks _ (fun e => b1 e.symm)), (hr.kept hqr).kept (hks _ (fun e => b2 e.symm)), ?_, ?_⟩, ⟨⟨?_, ?_, ?_, ?_, ?_⟩, ?_, ⟨b1, b2, b3, hne⟩, ?_⟩, ⟨hW.1, hW.2.1, hW.2.2.1, ?_⟩⟩, ?_, ?_⟩
  · show World.ownsRow _ 0 _ 257 v' (s.P ++ [(k, b)]).length (flatP (s.P ++ [(k, b)]))
    rw [hP, hF]
    exact own_kept hown (fun g e => hks g (hne g e).1)
  · refine (hm.kept hg.size hm0).kept (by simp) (fun c off l cap e => ?_)
    rcases a8 c off l cap e with h0 | h0
    · exact Or.inl h0
    · exact Or.inr (hks c h0.1)
  · split
    · exact List.mem_cons_of_mem _ a1
    · exact a1
  · split
    · exact List.mem_cons_of_mem _ a2
    · exact a2
  · split
    · exact List.mem_cons_of_mem _ a3
    · exact a3
  · intro g e
    rw [e]
    exact List.mem_cons_self
  · intro c off l cap e
    rcases a5 c off l cap e with h2 | h2
    · exact Or.inl h2
    · refine Or.inr ?_
      split
      · exact List.mem_cons_of_mem _ h2
      · exact h2
  · intro c hc
    rw [show (w'.setCell ⟨q, 2, none⟩ v').heap.size = w'.heap.size by simp]
    split at hc
    · rename_i g e
      rcases List.mem_cons.1 hc with rfl | h2
      · exact hlt _ e
      · exact Nat.lt_of_lt_of_le (a6 c h2) hg.size
    · exact Nat.lt_of_lt_of_le (a6 c hc) hg.size
  · intro c off l cap e
    rcases a8 c off l cap e with h0 | h0
    · exact Or.inl h0
    · rcases a5 c off l cap e with h2 | h2
      · exact Or.inl h2
      · refine Or.inr ⟨h0.1, h0.2.1, h0.2.2.1, fun e2 => ?_⟩
        rcases hf c e2 with h3 | h3
        · exact h0.2.2.2 h3
        · have := a6 c h2; omega
  · intro x hx
    rcases List.mem_append.1 hx with h | h
    · exact hW.2.2.2 x h
    · rw [List.mem_singleton] at h
      subst h
      exact ⟨hk, hb⟩
  · intro g hg2
    split at hg2
    · rename_i g1 e
      rcases List.mem_cons.1 hg2 with rfl | h2
      · rcases hf g e with h3 | h3
        · exact Or.inl (a4 g h3)
        · exact Or.inr h3
      · exact Or.inl h2
    · exact Or.inl hg2
  · exact ((Frm.refl w bs).grown hg (fun g e => Or.inl (a4 g e))).set q 2 (Or.inl a1) v'
theorem DkS.setN {w : World} {bs : List Nat} {q : Nat} {s : DkP} (h : DkS w bs q s) (x : Nat) : DkS (w.setCell ⟨q, 4, none⟩ (.int .i64 (x : Int))) bs q { s with wr := x } := by
  obtain ⟨qd, qr, pv, mv, h1, h2, h3⟩ := h
  obtain ⟨hc, hd, hr, ho, hm⟩ := h1
  obtain ⟨⟨a1, a2, a3, a4, a5⟩, a6, ⟨b1, b2, b3, b4⟩, a8⟩ := h2
  have hk : ∀ c, c ≠ q → (w.setCell ⟨q, 4, none⟩ (.int .i64 (x : Int))).heap[c]? = w.heap[c]? := fun c hc => Below.heap_setCell _ _ _ _ hc
  exact ⟨qd, qr, pv, mv, ⟨hc.set 4 (by simp) _, hd.kept (hk _ (fun e => b1 e.symm)), hr.kept (hk _ (fun e => b2 e.symm)), own_kept ho (fun g hg => hk g (b4 g hg).1), hm.kept (by simp) (fun b off l c e => by
      rcases a8 b off l c e with h0 | h0
      · exact Or.inl h0
      · exact Or.inr (hk b h0.1))⟩, ⟨⟨a1, a2, a3, a4, a5⟩, fun b hb => by simpa using a6 b hb, ⟨b1, b2, b3, b4⟩, a8⟩, h3⟩
theorem DkS.setF {w : World} {bs : List Nat} {q : Nat} {s : DkP} (h : DkS w bs q s) (x : Int) : DkS (w.setCell ⟨q, 5, none⟩ (.int .i64 x)) bs q { s with fall := x } := by
  obtain ⟨qd, qr, pv, mv, h1, h2, h3⟩ := h
  obtain ⟨hc, hd, hr, ho, hm⟩ := h1
  obtain ⟨⟨a1, a2, a3, a4, a5⟩, a6, ⟨b1, b2, b3, b4⟩, a8⟩ := h2
  have hk : ∀ c, c ≠ q → (w.setCell ⟨q, 5, none⟩ (.int .i64 x)).heap[c]? = w.heap[c]? := fun c hc => Below.heap_setCell _ _ _ _ hc
  exact ⟨qd, qr, pv, mv, ⟨hc.set 5 (by simp) _, hd.kept (hk _ (fun e => b1 e.symm)), hr.kept (hk _ (fun e => b2 e.symm)), own_kept ho (fun g hg => hk g (b4 g hg).1), hm.kept (by simp) (fun b off l c e => by
      rcases a8 b off l c e with h0 | h0
      · exact Or.inl h0
      · exact Or.inr (hk b h0.1))⟩, ⟨⟨a1, a2, a3, a4, a5⟩, fun b hb => by simpa using a6 b hb, ⟨b1, b2, b3, b4⟩, a8⟩, h3⟩
theorem DkS.cells {w : World} {bs : List Nat} {q : Nat} {s : DkP} (h : DkS w bs q s) : q ∈ bs ∧ w.cell? ⟨q, 3, none⟩ = some (.bool s.down) ∧ w.cell? ⟨q, 4, none⟩ = some (.int .i64 (s.wr : Int)) ∧ w.cell? ⟨q, 5, none⟩ = some (.int .i64 s.fall) ∧ w.frozen? ⟨q, 3, none⟩ = false ∧ w.frozen? ⟨q, 4, none⟩ = false ∧ w.frozen? ⟨q, 5, none⟩ = false ∧ w.frozen? ⟨q, 6, none⟩ = false := by
  obtain ⟨qd, qr, pv, mv, ⟨hc, -, -, -, -⟩, ⟨⟨a1, -, -, -, -⟩, -, -, -⟩, -⟩ := h
  exact ⟨a1, hc.u7.2.2.2.1, hc.u7.2.2.2.2.1, hc.u7.2.2.2.2.2.1, hc.fr 3 (by decide), hc.fr 4 (by decide), hc.fr 5 (by decide), hc.fr 6 (by decide)⟩
end Go.Proofs.Ytocfphijheidbaa
end

section
namespace Go.Proofs.Ytocfphijheidbaa
open Go.RowKit

/-- What a part lays over the cells. -/
def layC (cs : Array Value) (off : Nat) (l : List Value) : Array Value := (cs.toList.take off ++ l ++ cs.toList.drop (off + l.length)).toArray
theorem set_lay (L : List Value) (i : Nat) (c : Value) (h : i < L.length) : L.set i c = L.take i ++ c :: L.drop (i + 1) := List.set_eq_take_append_cons_drop.trans (if_pos h)
theorem foldl_lay (off : Nat) : ∀ (l : List Value) (n : Nat) (cs : Array Value), off + n + l.length ≤ cs.size → ((l.zipIdx n).foldl (fun (cs : Array Value) (x : Value × Nat) => cs.setIfInBounds (off + x.2) x.1) cs) = layC cs (off + n) l
  | [], n, cs, _ => by simp [layC]
  | c :: l, n, cs, h => by
    simp only [List.length_cons] at h
    rw [List.zipIdx_cons, List.foldl_cons, foldl_lay off l (n + 1) _ (by simp only [Array.size_setIfInBounds]; omega)]
    unfold layC
    simp only [Array.toList_setIfInBounds]
    have hl : (cs.toList.take (off + n)).length = off + n := by rw [List.length_take, Array.length_toList]; omega
    rw [set_lay _ _ _ (by rw [Array.length_toList]; omega)]
    congr 1
    have d1 : (cs.toList.take (off + n)).drop (off + (n + 1) + l.length) = [] := List.drop_of_length_le (by rw [hl]; omega)
    have t1 : (cs.toList.take (off + n)).take (off + (n + 1)) = cs.toList.take (off + n) := List.take_of_length_le (by rw [hl]; omega)
    rw [List.take_append, hl, List.drop_append, hl, d1, t1, show off + (n + 1) - (off + n) = 1 by omega, show off + (n + 1) + l.length - (off + n) = l.length + 1 by omega]
    simp only [List.take_succ_cons, List.take_zero, List.nil_append, List.drop_succ_cons, List.drop_drop, List.length_cons, List.append_assoc, List.cons_append]
    rw [show off + n + 1 + l.length = off + n + (l.length + 1) by omega]
theorem fill_cons (place : Nat → Option (Nat × Nat)) (cs : Array Value) (i off size : Nat) (v : Value) (l : List Value) (rest : List (Nat × Value)) (hp : place i = some (off, size)) (hv : v.cells = l.toArray) (hl : l.length = size) (hs : off + size ≤ cs.size) : Instr.fill place cs ((i, v) :: rest) = Instr.fill place (layC cs off l) rest := by
  rw [Instr.fill, hp]
  simp only [hv, List.size_toArray, hl]
  rw [if_neg (by simp; omega)]
  congr 1
  have := foldl_lay off l 0 cs (by omega)
  rw [Nat.add_zero] at this
  rw [← this]
  simp
theorem layC_size (cs : Array Value) (off : Nat) (l : List Value) (h : off + l.length ≤ cs.size) : (layC cs off l).size = cs.size := by
  simp only [layC, List.size_toArray, List.length_append, List.length_take, List.length_drop, Array.length_toList]
  omega
def zWr : Value := .agg (Value.int .i64 0 :: bc (List.replicate 256 0)).toArray
theorem zWr_size : zWr.cells.size = 257 := by
  show (Value.int .i64 0 :: bc (List.replicate 256 0)).toArray.size = 257
  rw [List.size_toArray, List.length_cons, bc_length, List.length_replicate]
set_option maxRecDepth 100000 in
theorem infoWr : (Try.prog.info? 134).map (fun i => (i.zero, i.size, i.bytes)) = some (some zWr, 257, 264) := by kernel_rfl
set_option maxRecDepth 100000 in
theorem placesWr : (match Try.prog.underlying 134 with | some (.struct fields) => fields.toList.mapM (fun f => (Try.prog.info? f.type).map fun i => (f.offset, i.size)) | _ => none) = some [(0, 1), (1, 256)] := by kernel_rfl
theorem built_write (x : Int) (b : List UInt8) (hb : b.length = 256) : Try.prog.built 134 [(0, .int .i64 x), (1, .agg (bc b).toArray)] = some (Value.int .i64 x :: bc b).toArray := by
  obtain ⟨i0, hi, hz0, hz1, hz2⟩ := info_parts infoWr
  have hp := placesWr
  cases hu : Try.prog.underlying 134 with
  | none => rw [hu] at hp; cases hp
  | some d =>
    cases d with
    | struct fields =>
      rw [hu] at hp
      unfold Program.built
      simp only [hi, hu, hz0, hp]
      have hs0 : (layC zWr.cells 0 [Value.int .i64 x]).size = 257 := by rw [layC_size _ _ _ (by rw [zWr_size]; simp), zWr_size]
      have f1 := fill_cons (fun i => ([(0, 1), (1, 256)] : List (Nat × Nat)).toArray[i]?) zWr.cells 0 0 1 (.int .i64 x) [Value.int .i64 x] [(1, .agg (bc b).toArray)] rfl rfl rfl (by rw [zWr_size]; omega)
      have f2 := fill_cons (fun i => ([(0, 1), (1, 256)] : List (Nat × Nat)).toArray[i]?) (layC zWr.cells 0 [Value.int .i64 x]) 1 1 256 (.agg (bc b).toArray) (bc b) [] rfl rfl (by rw [bc_length, hb]) (by rw [hs0]; omega)
      refine (f1.trans f2).trans ?_
      rw [Instr.fill]
      refine congrArg some ?_
      have h1 : (layC zWr.cells 0 [Value.int .i64 x]).toList.length = 257 := by rw [Array.length_toList, layC_size _ _ _ (by rw [zWr_size]; simp), zWr_size]
      show layC (layC zWr.cells 0 [Value.int .i64 x]) 1 (bc b) = _
      rw [layC, List.drop_of_length_le (by rw [h1, bc_length, hb]; omega), List.append_nil]
      congr 1
    | _ => rw [hu] at hp; cases hp
theorem zero_sl (n : Nat) (z : Array Value) : ((Array.range n).map (z[· % z.size]!)).size = n := by simp
theorem step_build_write {w : World} {ops : Array Oper} {o : Oper} {act : Act} {K : Act → World → Prop} {Q : Exit → Act → World → Prop} {E : Prop} (hgd : o.guard = none) (x y : Operand) (ho : o.op = .build 134 #[(0, x), (1, y)])
    (k : Int) (b : List UInt8) (hb : b.length = 256) (hx : act.eval x = .int .i64 k) (hy : act.eval y = .agg (bc b).toArray) (h : K (act.put o.dst (.agg (Value.int .i64 k :: bc b).toArray)) w) : if Region.wanted o (yielded ops act.tmps) = true then Oper.wp Try.prog o act w K Q else E := by
  have hw : Region.wanted o (yielded ops act.tmps) = true := by simp [Region.wanted, hgd]
  rw [if_pos hw]
  have hbt : Try.prog.built 134 ((#[(0, x), (1, y)] : Array (Nat × Operand)).map fun (i, x) => (i, act.eval x)).toList = some (Value.int .i64 k :: bc b).toArray := by
    simp only [List.map_toArray, List.map_cons, List.map_nil, hx, hy]
    exact built_write k b hb
  refine wp_build 134 #[(0, x), (1, y)] ho (by rw [hbt]; rfl) ?_
  rw [hbt]
  exact h
theorem step_one_write {w : World} {ops : Array Oper} {o : Oper} {act : Act} {K : Act → World → Prop} {Q : Exit → Act → World → Prop} {E : Prop} (hgd : o.guard = none) (x : Operand) (ho : o.op = .buildSlice 126 1 #[(0, x)])
    (k : Int) (b : List UInt8) (hb : b.length = 256) (hx : act.eval x = .agg (Value.int .i64 k :: bc b).toArray) (h : K (act.put o.dst (.slice (some ⟨w.heap.size, 0, none⟩) 1 1)) (w.alloc (.cells (Value.int .i64 k :: bc b).toArray 134))) : if Region.wanted o (yielded ops act.tmps) = true then Oper.wp Try.prog o act w K Q else E := by
  have hw : Region.wanted o (yielded ops act.tmps) = true := by simp [Region.wanted, hgd]
  rw [if_pos hw]
  obtain ⟨i0, hi, hz0, hz1, hz2⟩ := info_parts infoWr
  have hl : (Value.int .i64 k :: bc b).length = 257 := by rw [List.length_cons, bc_length, hb]
  refine wp_buildSlice 126 134 1 #[(0, x)] ho _ i0 _ Try.underlying126 hi hz0 (by rw [hz1]; omega) (by rw [hz1]; omega) ?_ h
  rw [hz1]
  simp only [List.map_toArray, List.map_cons, List.map_nil, hx]
  refine (fill_cons (fun i => some (i * 257, 257)) _ 0 0 257 (.agg (Value.int .i64 k :: bc b).toArray) (Value.int .i64 k :: bc b) [] rfl rfl hl (by rw [zero_sl]; omega)).trans ?_
  rw [Instr.fill]
  refine congrArg some ?_
  rw [layC, List.drop_of_length_le (by rw [Array.length_toList, zero_sl, hl]; omega)]
  simp
end Go.Proofs.Ytocfphijheidbaa
end
