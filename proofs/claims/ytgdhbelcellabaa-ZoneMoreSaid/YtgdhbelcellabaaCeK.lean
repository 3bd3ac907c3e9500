/- Rows of elements of more cells than one: append. -/
import Derived.Test.YtgdhbelcellabaaMgA
namespace Go.Proofs.Ytgdhbelcellabaa
open Go.RowKit

theorem cellsK_own {w : World} {B n : Nat} {e : TypeId} {size : Nat} {v : Value} {xs : List Value} (h : w.ownsRow B e size v n xs) : ∃ a c, v = .slice a n c ∧ CellsAt w a (n * size) xs ∧ (a = none → n = 0 ∧ c = 0) := by
  rcases h.2 with ⟨rfl, rfl⟩ | ⟨g, cap, cur, rfl, hb, hg, rest⟩
  · exact ⟨none, 0, rfl, ⟨h.1, Or.inl (Nat.zero_mul _)⟩, fun _ => ⟨rfl, rfl⟩⟩
  · refine ⟨_, _, rfl, ⟨h.1, Or.inr ⟨g, 0, rfl, (Array.getElem?_eq_some_iff.1 hg).1, fun j u hj => ?_⟩⟩, fun h => by cases h⟩
    have := h.cells (g := g) rfl j u hj
    rwa [Addr.add_mid] at this
/-- append of a slice, wherever it lies, onto a row of the call's own. -/
theorem append_cellsK {w : World} {ops : Array Oper} {rest : List Oper} {o : Oper} {act : Act} {Q : Exit → Act → World → Prop} (hgd : o.guard = none) (s x : Operand) (t e : TypeId)
    (ho : o.op = .call { callee := .builtin .append, args := #[s, x], argTypes := #[t, t] })
    (i : TypeInfo) (z : Value) (size bytes : Nat) (ht : Try.prog.underlying t = some (.slice e)) (hi : Try.prog.info? e = some i) (hz : i.zero = some z) (hsize : i.size = size) (hby : i.bytes = bytes) (hzs : z.cells.size = size) (h0 : 0 < size)
    (B : Nat) (v : Value) (n : Nat) (xs : List Value) (hs : act.eval s = v) (hown : w.ownsRow B e size v n xs)
    (a : Option Addr) (len cap : Nat) (cs : List Value) (hx : act.eval x = .slice a len cap) (hn : a = none → len = 0 ∧ cap = 0) (hr : CellsAt w a (len * size) cs) (h1 : ∀ u ∈ cs, u.oneCell' = true)
    (hb : n + len ≤ 1000000) (hb2 : bytes ≤ 64) (hbase : B ≤ w.heap.size)
    (h : ∀ v' w', w'.ownsRow B e size v' (n + len) (xs ++ cs) → w.grownBy w' v.ownBlock → wpList Try.prog ops Q rest (act.put o.dst v') w') : wpList Try.prog ops Q (o :: rest) act w := by
  cases a with
  | none =>
    obtain ⟨rfl, rfl⟩ := hn rfl
    have hl : cs = [] := List.eq_nil_of_length_eq_zero (by rw [hr.1]; exact Nat.zero_mul _)
    subst hl
    refine wpList_append_own_none hgd s x t ho B e i size ht hi v n xs hs hown hx ?_
    refine h v w ?_ (World.grownBy.refl _ _)
    simpa using hown
  | some ad =>
    have hm : (n + len) * bytes ≤ 1000000 * 64 := Nat.mul_le_mul hb hb2
    refine wpList_append_own w hgd s x t ho B e i z size bytes ht hi hz hsize hby hzs h0 v n xs hs hown ad len cap cs hx hr.1 ?_ h1 (by unfold maxLen; omega) (by omega) hbase (fun v' w' h1 h2 _ => h v' w' h1 h2)
    intro j u hj
    rcases hr.2 with h0' | ⟨b, off, hab, _, hc⟩
    · have h3 := hr.1
      have h4 := (List.getElem?_eq_some_iff.1 hj).1
      omega
    · simp only [Option.some.injEq] at hab
      subst hab
      rw [Addr.add_mid]
      exact hc j u hj
theorem ownsRow_at {w : World} {B g n c size : Nat} {e : TypeId} {xs : List Value} (h : w.ownsRow B e size (.slice (some ⟨g, 0, none⟩) n c) n xs) (j : Nat) (u : Value) (hj : xs[j]? = some u) : w.cell? ⟨g, j, none⟩ = some u := by
  have := h.cells (g := g) rfl j u hj
  rw [Addr.add_mid, Nat.zero_add] at this
  exact this
/-- append of a slice, wherever it lies, in a region that draws. -/
theorem step_append_cellsK {w : World} {ops : Array Oper} {o : Oper} {act : Act} {K : Act → World → Prop} {Q : Exit → Act → World → Prop} {E : Prop} (hgd : o.guard = none) (s x : Operand) (t e : TypeId)
    (ho : o.op = .call { callee := .builtin .append, args := #[s, x], argTypes := #[t, t] })
    (i : TypeInfo) (z : Value) (size bytes : Nat) (ht : Try.prog.underlying t = some (.slice e)) (hi : Try.prog.info? e = some i) (hz : i.zero = some z) (hsize : i.size = size) (hby : i.bytes = bytes) (hzs : z.cells.size = size) (h0 : 0 < size)
    (B : Nat) (v : Value) (n : Nat) (xs : List Value) (hs : act.eval s = v) (hown : w.ownsRow B e size v n xs)
    (a : Option Addr) (len cap : Nat) (cs : List Value) (hx : act.eval x = .slice a len cap) (hn : a = none → len = 0 ∧ cap = 0) (hr : CellsAt w a (len * size) cs) (h1 : ∀ u ∈ cs, u.oneCell' = true)
    (hb : n + len ≤ 1000000) (hb2 : bytes ≤ 64) (hbase : B ≤ w.heap.size)
    (h : ∀ v' w', w'.ownsRow B e size v' (n + len) (xs ++ cs) → w.grownBy w' v.ownBlock → K (act.put o.dst v') w') : if Region.wanted o (yielded ops act.tmps) = true then Oper.wp Try.prog o act w K Q else E := by
  have hw : Region.wanted o (yielded ops act.tmps) = true := by simp [Region.wanted, hgd]
  rw [if_pos hw]
  cases a with
  | none =>
    obtain ⟨rfl, rfl⟩ := hn rfl
    have hl : cs = [] := List.eq_nil_of_length_eq_zero (by rw [hr.1]; exact Nat.zero_mul _)
    subst hl
    have hrun := run_append_owned_none (P := Try.prog) (w := w) B t o.type e i size ht hi v n xs hown
    unfold Oper.wp
    simp [execOp, ho, resolve, invoke, builtin, hs, hx, hrun, Result.andThen]
    exact h v w (by simpa using hown) (World.grownBy.refl _ _)
  | some ad =>
    have hm : (n + len) * bytes ≤ 1000000 * 64 := Nat.mul_le_mul hb hb2
    refine wp_append_own w s x t ho B e i z size bytes ht hi hz hsize hby hzs h0 v n xs hs hown ad len cap cs hx hr.1 ?_ h1 (by unfold maxLen; omega) (by omega) hbase (fun v' w' h1 h2 _ => h v' w' h1 h2)
    · intro j u hj
      rcases hr.2 with h0' | ⟨b, off, hab, _, hc⟩
      · have h3 := hr.1
        have h4 := (List.getElem?_eq_some_iff.1 hj).1
        omega
      · simp only [Option.some.injEq] at hab
        subst hab
        rw [Addr.add_mid]
        exact hc j u hj
theorem cells_lit (w : World) (cs : Array Value) (T : TypeId) : CellsAt (w.alloc (.cells cs T)) (some ⟨w.heap.size, 0, none⟩) cs.size cs.toList :=
  ⟨by simp, Or.inr ⟨w.heap.size, 0, rfl, by simp, fun j u hj => by
    rw [Nat.zero_add, World.cell?_alloc_new]
    rw [Array.getElem?_toList] at hj
    exact hj⟩⟩
end Go.Proofs.Ytgdhbelcellabaa
