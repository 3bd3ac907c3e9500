/- CeM -/
import Derived.Test.YthfnphcefkdgbaaScO

namespace Go.Proofs.Ythfnphcefkdgbaa
open Go.RowKit

/-- append of a slice, wherever it lies, onto a row of the call's own. -/
theorem append_cellsL {w : World} {ops : Array Oper} {rest : List Oper} {o : Oper} {act : Act} {Q : Exit → Act → World → Prop} (hgd : o.guard = none) (s x : Operand) (t e : TypeId)
    (ho : o.op = .call { callee := .builtin .append, args := #[s, x], argTypes := #[t, t] })
    (i : TypeInfo) (z : Value) (size bytes : Nat) (ht : Try.prog.underlying t = some (.slice e)) (hi : Try.prog.info? e = some i) (hz : i.zero = some z) (hsize : i.size = size) (hby : i.bytes = bytes) (hzs : z.cells.size = size) (h0 : 0 < size)
    (B : Nat) (v : Value) (n : Nat) (xs : List Value) (hs : act.eval s = v) (hown : w.ownsRow B e size v n xs)
    (a : Option Addr) (len cap : Nat) (cs : List Value) (hx : act.eval x = .slice a len cap) (hn : a = none → len = 0 ∧ cap = 0) (hr : CellsAt w a (len * size) cs) (h1 : ∀ u ∈ cs, u.oneCell' = true)
    (hb : n + len ≤ 20000) (hb2 : bytes ≤ 3200) (hbase : B ≤ w.heap.size)
    (h : ∀ v' w', w'.ownsRow B e size v' (n + len) (xs ++ cs) → w.grownBy w' v.ownBlock → wpList Try.prog ops Q rest (act.put o.dst v') w') : wpList Try.prog ops Q (o :: rest) act w := by
  cases a with
  | none =>
    obtain ⟨rfl, rfl⟩ := hn rfl
    have hl : cs = [] := List.eq_nil_of_length_eq_zero (by rw [hr.1]; exact Nat.zero_mul _)
    subst hl
    refine wpList_append_own_none hgd s x t ho B e i size ht hi v n xs hs hown hx ?_
    refine h v w ?_ (World.grownBy.refl _ _)
    simpa using hown
  | some ad =>
    have hm : (n + len) * bytes ≤ 20000 * 3200 := Nat.mul_le_mul hb hb2
    refine wpList_append_own w hgd s x t ho B e i z size bytes ht hi hz hsize hby hzs h0 v n xs hs hown ad len cap cs hx hr.1 ?_ h1 (by unfold maxLen; omega) (by omega) hbase (fun v' w' h1 h2 _ => h v' w' h1 h2)
    intro j u hj
    rcases hr.2 with h0' | ⟨b, off, hab, _, hc⟩
    · have h3 := hr.1
      have h4 := (List.getElem?_eq_some_iff.1 hj).1
      omega
    · simp only [Option.some.injEq] at hab
      subst hab
      rw [Addr.add_mid]
      exact hc j u hj
/-- append of a slice, wherever it lies, in a region that draws. -/
theorem step_append_cellsL {w : World} {ops : Array Oper} {o : Oper} {act : Act} {K : Act → World → Prop} {Q : Exit → Act → World → Prop} {E : Prop} (hgd : o.guard = none) (s x : Operand) (t e : TypeId)
    (ho : o.op = .call { callee := .builtin .append, args := #[s, x], argTypes := #[t, t] })
    (i : TypeInfo) (z : Value) (size bytes : Nat) (ht : Try.prog.underlying t = some (.slice e)) (hi : Try.prog.info? e = some i) (hz : i.zero = some z) (hsize : i.size = size) (hby : i.bytes = bytes) (hzs : z.cells.size = size) (h0 : 0 < size)
    (B : Nat) (v : Value) (n : Nat) (xs : List Value) (hs : act.eval s = v) (hown : w.ownsRow B e size v n xs)
    (a : Option Addr) (len cap : Nat) (cs : List Value) (hx : act.eval x = .slice a len cap) (hn : a = none → len = 0 ∧ cap = 0) (hr : CellsAt w a (len * size) cs) (h1 : ∀ u ∈ cs, u.oneCell' = true)
    (hb : n + len ≤ 20000) (hb2 : bytes ≤ 3200) (hbase : B ≤ w.heap.size)
    (h : ∀ v' w', w'.ownsRow B e size v' (n + len) (xs ++ cs) → w.grownBy w' v.ownBlock → K (act.put o.dst v') w') : if Region.wanted o (yielded ops act.tmps) = true then Oper.wp Try.prog o act w K Q else E := by
  have hw : Region.wanted o (yielded ops act.tmps) = true := by simp [Region.wanted, hgd]
  rw [if_pos hw]
  cases a with
  | none =>
    obtain ⟨rfl, rfl⟩ := hn rfl
    have hl : cs = [] := List.eq_nil_of_length_eq_zero (by rw [hr.1]; exact Nat.zero_mul _)
    subst hl
    have hrun := run_append_owned_none (P := Try.prog) (w := w) B t o.type e i size ht hi v n xs hown
    unfold Oper.wp
    simp [execOp, ho, resolve, invoke, builtin, hs, hx, hrun, Result.andThen]
    exact h v w (by simpa using hown) (World.grownBy.refl _ _)
  | some ad =>
    have hm : (n + len) * bytes ≤ 20000 * 3200 := Nat.mul_le_mul hb hb2
    refine wp_append_own w s x t ho B e i z size bytes ht hi hz hsize hby hzs h0 v n xs hs hown ad len cap cs hx hr.1 ?_ h1 (by unfold maxLen; omega) (by omega) hbase (fun v' w' h1 h2 _ => h v' w' h1 h2)
    · intro j u hj
      rcases hr.2 with h0' | ⟨b, off, hab, _, hc⟩
      · have h3 := hr.1
        have h4 := (List.getElem?_eq_some_iff.1 hj).1
        omega
      · simp only [Option.some.injEq] at hab
        subst hab
        rw [Addr.add_mid]
        exact hc j u hj
end Go.Proofs.Ythfnphcefkdgbaa
