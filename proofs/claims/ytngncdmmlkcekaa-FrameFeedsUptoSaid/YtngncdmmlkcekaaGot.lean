/- The messages that a reader told so far, kept apart from what it still writes to; pieces, plain. -/
import Derived.Test.YtngncdmmlkcekaaRdr
namespace Go.Proofs.Ytngncdmmlkcekaa
open Go.RowKit

/-- What is taken of two pieces. -/
theorem TK_inc : ∀ (f : Nat) (l m : List UInt8), l.length ≤ f → TK (l ++ m) = ((TK l).1 ++ (TK (l.drop (TK l).2 ++ m)).1, (TK l).2 + (TK (l.drop (TK l).2 ++ m)).2) := by
  intro f
  induction f with
  | zero =>
    intro l m h
    have : l = [] := List.eq_nil_of_length_eq_zero (by omega)
    subst this
    have e : TK ([] : List UInt8) = ([], 0) := rfl
    rw [e]
    simp
  | succ f ih =>
    intro l m h
    have hs := TK_step l
    by_cases h1 : l.length < 2
    · rw [if_pos h1] at hs
      rw [hs]; simp
    · rw [if_neg h1] at hs
      by_cases h2 : l.length - 2 < hd2 l
      · rw [if_pos h2] at hs
        rw [hs]; simp
      · rw [if_neg h2] at hs
        have hh : hd2 (l ++ m) = hd2 l := by
          rw [hd2, hd2, List.getD_eq_getElem?_getD, List.getD_eq_getElem?_getD, List.getElem?_append_left (by omega), List.getElem?_append_left (by omega), ← List.getD_eq_getElem?_getD, ← List.getD_eq_getElem?_getD]
        have e1 : ((l ++ m).drop 2).take (hd2 l) = (l.drop 2).take (hd2 l) := by
          rw [List.drop_append_of_le_length (by omega), List.take_append_of_le_length (by rw [List.length_drop]; omega)]
        have e2 : (l ++ m).drop (2 + hd2 l) = l.drop (2 + hd2 l) ++ m := List.drop_append_of_le_length (by omega)
        have hi := ih (l.drop (2 + hd2 l)) m (by rw [List.length_drop]; omega)
        have hs2 := TK_step (l ++ m)
        rw [hh, e1, e2, if_neg (by rw [List.length_append]; omega), if_neg (by rw [List.length_append]; omega), hi] at hs2
        rw [hs2, hs]
        simp only [List.drop_drop]
        refine Prod.ext ?_ ?_
        · simp
        · show 2 + hd2 l + _ = 2 + hd2 l + _ + _
          omega

theorem own_same {w w' : World} {B n : Nat} {e : TypeId} {v : Value} {xs : List Value} (h : w.ownsRow B e 1 v n xs) (hk : ∀ g, v.ownBlock = some g → w'.heap[g]? = w.heap[g]?) : w'.ownsRow B e 1 v n xs := by
  refine ⟨h.1, ?_⟩
  rcases h.2 with h0 | ⟨g, cap, cur, rfl, hb, hg, hr⟩
  · exact Or.inl h0
  · exact Or.inr ⟨g, cap, cur, rfl, hb, (hk g rfl).trans hg, hr⟩
theorem ValB.same {w w' : World} {u : Value} {m : List UInt8} (h : ValB w u m) (hs : w.heap.size ≤ w'.heap.size) (hk : ∀ (ad : Addr) (k c : Nat), u = Value.slice (some ad) k c → k = 0 ∨ w'.heap[ad.block]? = w.heap[ad.block]?) : ValB w' u m := by
  obtain ⟨a, c, rfl, hr, hn⟩ := h
  refine ⟨a, c, rfl, ⟨hr.1, ?_⟩, hn⟩
  rcases hr.2 with h0 | ⟨b, off, rfl, hlt, hc⟩
  · exact Or.inl h0
  · rcases hk _ _ _ rfl with h1 | h1
    · exact Or.inl h1
    · have h2 : w'.heap[b]? = w.heap[b]? := h1
      exact Or.inr ⟨b, off, rfl, Nat.lt_of_lt_of_le hlt hs, fun j x hj => (World.cell?_of_block (w := w) (a := ⟨b, off + j, none⟩) h2).trans (hc j x hj)⟩
/-- A slice lies neither in a block nor in another. -/
def FarU (u : Value) (P : Nat) (go : Option Nat) : Prop := ∀ (ad : Addr) (k c : Nat), u = Value.slice (some ad) k c → k = 0 ∨ (ad.block ≠ P ∧ some ad.block ≠ go)
/-- The messages so far. -/
def GotS (w : World) (B : Nat) (v : Value) (M : List (List UInt8)) (P : Nat) (go : Option Nat) : Prop :=
  ∃ xs, w.ownsRow B 43 1 v M.length xs ∧ (∀ g, v.ownBlock = some g → g ≠ P ∧ some g ≠ go) ∧ ∀ j u, xs[j]? = some u → ValB w u (M.getD j []) ∧ Apart B w u ∧ FarU u P go
theorem GotS.nil (w : World) (B P : Nat) (go : Option Nat) : GotS w B (.slice none 0 0) [] P go := ⟨[], World.ownsRow_nil _ _ _ _, (fun g h => by cases h), (fun j u h => by simp at h)⟩
theorem GotS.bb {w : World} {B P : Nat} {v : Value} {M : List (List UInt8)} {go : Option Nat} (h : GotS w B v M P go) : OwnBB w B v M := by
  obtain ⟨xs, h1, _, h2⟩ := h
  exact ⟨xs, h1, fun j u hj => ⟨(h2 j u hj).1, (h2 j u hj).2.1⟩⟩
/-- Behind a call that wrote to the two blocks alone; the second may be a new one from then on. -/
theorem GotS.but {w w' : World} {B P : Nat} {v : Value} {M : List (List UInt8)} {go go' : Option Nat} (h : GotS w B v M P go) (hb : But w w' P go) (hgo : go' = go ∨ ∀ g, go' = some g → w.heap.size ≤ g) : GotS w' B v M P go' := by
  obtain ⟨xs, h1, h2, h3⟩ := h
  have key : ∀ g, g < w.heap.size → some g ≠ go → some g ≠ go' := by
    intro g hg hne e
    rcases hgo with h | h
    · exact hne (by rw [e, h])
    · have := h g e.symm; omega
  refine ⟨xs, own_same h1 (fun g hg => hb.block g (h1.lt g hg).2 (h2 g hg).1 (h2 g hg).2), fun g hg => ⟨(h2 g hg).1, key g (h1.lt g hg).2 (h2 g hg).2⟩, fun j u hj => ?_⟩
  obtain ⟨q1, q2, q3⟩ := h3 j u hj
  have hlt := q1.lt
  refine ⟨q1.same hb.size (fun ad k c e => ?_), fun ad k c e => ?_, fun ad k c e => ?_⟩
  · rcases q3 ad k c e with h4 | ⟨h4, h5⟩
    · exact Or.inl h4
    · rcases hlt ad k c e with h6 | h6
      · exact Or.inl h6
      · exact Or.inr (hb.block _ h6 h4 h5)
  · rcases q2 ad k c e with h4 | h4 | ⟨cur, fr, h4⟩
    · exact Or.inl h4
    · exact Or.inr (Or.inl h4)
    · rcases q3 ad k c e with h5 | ⟨h5, h6⟩
      · exact Or.inl h5
      · rcases hlt ad k c e with h7 | h7
        · exact Or.inl h7
        · exact Or.inr (Or.inr ⟨cur, fr, by rw [hb.block _ h7 h5 h6]; exact h4⟩)
  · rcases q3 ad k c e with h5 | ⟨h5, h6⟩
    · exact Or.inl h5
    · rcases hlt ad k c e with h7 | h7
      · exact Or.inl h7
      · exact Or.inr ⟨h5, key _ h7 h6⟩
/-- Behind a call that made memory alone. -/
theorem GotS.below {w w' : World} {B P : Nat} {v : Value} {M : List (List UInt8)} {go : Option Nat} (h : GotS w B v M P go) (hb : Below w.heap.size w w') : GotS w' B v M P go :=
  h.but (⟨hb.os, hb.tape, hb.output, hb.size, fun k hk _ _ => hb.block k hk⟩) (Or.inl rfl)
/-- More messages, which a call made anew. -/
theorem GotS.more {w w' : World} {B B0 P : Nat} {v v' r : Value} {M K : List (List UInt8)} {go : Option Nat} {xs ys : List Value} (h1 : w.ownsRow B 43 1 v M.length xs) (h2 : ∀ g, v.ownBlock = some g → g ≠ P ∧ some g ≠ go) (h3 : ∀ j u, xs[j]? = some u → ValB w u (M.getD j []) ∧ Apart B w u ∧ FarU u P go)
    (hr : w.ownsRow B0 43 1 r K.length ys) (hy : ∀ j u, ys[j]? = some u → w.ownsRow B0 5 1 u (K.getD j []).length (bc (K.getD j []))) (hP : P < B0) (hgo : ∀ g, go = some g → g < B0)
    (ho : w'.ownsRow B 43 1 v' (M.length + K.length) (xs ++ ys)) (hg : w.grownBy w' v.ownBlock) (hv : v'.ownBlock = v.ownBlock ∨ v'.ownBlock = some w.heap.size) (hPw : P < w.heap.size) (hgw : ∀ g, go = some g → g < w.heap.size) : GotS w' B v' (M ++ K) P go := by
  have hl : xs.length = M.length := by have := h1.1; omega
  have hlr : ys.length = K.length := by have := hr.1; omega
  refine ⟨xs ++ ys, by rw [List.length_append]; exact ho, fun g hgv => ?_, fun j x hj => ?_⟩
  · rcases hv with e | e
    · exact h2 g (by rw [← e]; exact hgv)
    · rw [e] at hgv
      have e2 := Option.some.inj hgv
      subst e2
      exact ⟨by omega, fun e3 => by have := hgw _ e3.symm; omega⟩
  · by_cases hj2 : j < M.length
    · rw [List.getElem?_append_left (by omega)] at hj
      obtain ⟨q1, q2, q3⟩ := h3 j x hj
      have e : (M ++ K).getD j [] = M.getD j [] := by rw [List.getD_eq_getElem?_getD, List.getD_eq_getElem?_getD, List.getElem?_append_left hj2]
      rw [e]
      exact ⟨q1.grow q2 h1 hg, q2.grow h1 q1.lt hg, q3⟩
    · rw [List.getElem?_append_right (by omega), hl] at hj
      have ho1 := hy (j - M.length) x hj
      have q1 := ValB.own ho1
      have q2 := Apart.own (B := B) ho1
      have e : (M ++ K).getD j [] = K.getD (j - M.length) [] := by rw [List.getD_eq_getElem?_getD, List.getD_eq_getElem?_getD, List.getElem?_append_right (by omega)]
      rw [e]
      refine ⟨q1.grow q2 h1 hg, q2.grow h1 q1.lt hg, fun ad k c e2 => ?_⟩
      have hge := (ho1.lt ad.block (by rw [e2]; rfl)).1
      exact Or.inr ⟨by omega, fun e3 => by have := hgo _ e3.symm; omega⟩

/-- append of a slice of slices onto the messages so far. -/
theorem wpList_append_got {w : World} {ops : Array Oper} {rest : List Oper} {o : Oper} {act : Act} {Q : Exit → Act → World → Prop} (hgd : o.guard = none) (s x : Operand)
    (ho : o.op = .call { callee := .builtin .append, args := #[s, x], argTypes := #[44, 44] })
    (B : Nat) (v : Value) (n : Nat) (xs : List Value) (hs : act.eval s = v) (hown : w.ownsRow B 43 1 v n xs)
    (B0 : Nat) (r : Value) (m : Nat) (ys : List Value) (hx : act.eval x = r) (hr : w.ownsRow B0 43 1 r m ys) (h1 : ∀ u ∈ ys, u.oneCell' = true)
    (hb : n + m ≤ 1000000) (hbase : B ≤ w.heap.size)
    (h : ∀ v' w', w'.ownsRow B 43 1 v' (n + m) (xs ++ ys) → w.grownBy w' v.ownBlock → (v'.ownBlock = v.ownBlock ∨ v'.ownBlock = some w.heap.size) → wpList Try.prog ops Q rest (act.put o.dst v') w') : wpList Try.prog ops Q (o :: rest) act w := by
  obtain ⟨ii, hi, hz0, hz1, hz2⟩ := info_parts infoBs
  have hly : ys.length = m := by have := hr.1; omega
  obtain ⟨a, c, rfl, hcs, hn⟩ := cells_own hr
  by_cases hm : m = 0
  · subst hm
    have hy0 : ys = [] := List.eq_nil_of_length_eq_zero hly
    subst hy0
    cases a with
    | none =>
      obtain ⟨_, rfl⟩ := hn rfl
      refine wpList_append_own_none hgd s x 44 ho B 43 ii 1 Try.underlying44 hi v n xs hs hown hx ?_
      exact h v w (by simpa using hown) (World.grownBy.refl _ _) (Or.inl rfl)
    | some ad =>
      have hrun : (Builtin.append_ #[44, 44] o.type #[v, .slice (some ad) 0 c]).run Try.prog w = .ok v w := by
        rcases hown.2 with ⟨rfl, rfl⟩ | ⟨g, cap, cur, rfl, _, _, hnc, _⟩
        · simp [Builtin.append_, run_underlying Try.underlying44, sizeOf, typeInfo, hi, Builtin.lenOf, Builtin.firstCells, loadCells, loadCellsFrom]
        · simp [Builtin.append_, run_underlying Try.underlying44, sizeOf, typeInfo, hi, Builtin.lenOf, Builtin.firstCells, hnc, storeCells, loadCells, loadCellsFrom]
      refine wpList_plain hgd fun K hK => ?_
      unfold Oper.wp
      simp [execOp, ho, resolve, invoke, builtin, hs, hx, hrun, Result.andThen]
      exact hK _ _ (h v w (by simpa using hown) (World.grownBy.refl _ _) (Or.inl rfl))
  · cases a with
    | none => exact absurd (hn rfl).1 hm
    | some ad =>
      refine wpList_append_lies w hgd s x 44 ho B 43 ii (.slice none 0 0) 1 24 Try.underlying44 hi hz0 hz1 hz2 rfl (by decide) v n xs hs hown ad m c ys hx (by rw [hly, Nat.mul_one]) ?_ h1 (by omega) (by unfold maxLen; omega) (by omega) hbase w.heap.size rfl (fun g cap w' k1 k2 k3 _ => h _ w' k1 k2 (by rcases k3 with e | e; exact Or.inl e.symm; exact Or.inr (by rw [e]; rfl)))
      intro j u hj
      rcases hcs.2 with h0 | ⟨b, off, he, _, hc⟩
      · exact absurd h0 hm
      · injection he with he
        subst he
        rw [show (⟨b, off, none⟩ : Addr).add j = ⟨b, off + j, none⟩ by simp only [Addr.add]; split <;> simp_all]
        exact hc j u hj
end Go.Proofs.Ytngncdmmlkcekaa
