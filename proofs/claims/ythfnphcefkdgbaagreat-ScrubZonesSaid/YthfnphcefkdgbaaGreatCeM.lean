/- CeM -/
import Derived.Test.YthfnphcefkdgbaaGreatScO
namespace Go.Proofs.YthfnphcefkdgbaaGreat
open Go.RowKit
theorem append_cellsL {w : World} {ops : Array Oper} {rest : List Oper} {o : Oper} {act : Act} {Q : Exit → Act → World → Prop} (hgd : o.guard = none) (s x : Operand) (t e : TypeId)
  (ho : o.op = .call { callee := .builtin .append, args := #[s, x], argTypes := #[t, t] })
  (i : TypeInfo) (z : Value) (size bytes : Nat) (ht : Tryz.prog.underlying t = some (.slice e)) (hi : Tryz.prog.info? e = some i) (hz : i.zero = some z) (hsize : i.size = size) (hby : i.bytes = bytes) (hzs : z.cells.size = size) (h0 : 0 < size)
  (B : Nat) (v : Value) (n : Nat) (xs : List Value) (hs : act.eval s = v) (hown : w.ownsRow B e size v n xs)
  (a : Option Addr) (len cap : Nat) (cs : List Value) (hx : act.eval x = .slice a len cap) (hn : a = none → len = 0 ∧ cap = 0) (hr : CellsAt w a (len * size) cs) (h1 : ∀ u ∈ cs, u.oneCell' = true)
  (hb : n + len ≤ 20000) (hb2 : bytes ≤ 3200) (hbase : B ≤ w.heap.size)
  (h : ∀ v' w', w'.ownsRow B e size v' (n + len) (xs ++ cs) → w.grownBy w' v.ownBlock → wpList Tryz.prog ops Q rest (act.put o.dst v') w') : wpList Tryz.prog ops Q (o :: rest) act w := by
 cases a with
 | none =>
  obtain ⟨rfl, rfl⟩ := hn rfl
  have hl : cs = [] := List.eq_nil_of_length_eq_zero (by rw [hr.1]; exact Nat.zero_mul _)
  subst hl
  refine wpList_append_own_none hgd s x t ho B e i size ht hi v n xs hs hown hx ?_
  refine h v w ?_ (World.grownBy.refl _ _)
  simpa using hown
 | some ad =>
  have hm : (n + len) * bytes ≤ 20000 * 3200 := Nat.mul_le_mul hb hb2
  refine wpList_append_own w hgd s x t ho B e i z size bytes ht hi hz hsize hby hzs h0 v n xs hs hown ad len cap cs hx hr.1 ?_ h1 (by unfold maxLen; omega) (by omega) hbase (fun v' w' h1 h2 _ => h v' w' h1 h2)
  intro j u hj
  rcases hr.2 with h0' | ⟨b, off, hab, _, hc⟩
  · have h3 := hr.1
    have h4 := (List.getElem?_eq_some_iff.1 hj).1
    omega
  · simp only [Option.some.injEq] at hab
    subst hab
    rw [Addr.add_mid]
    exact hc j u hj
end Go.Proofs.YthfnphcefkdgbaaGreat
