/- Contracts of the document's Frames, and of both Takes (chapter 7), over this seat's translation. -/
import Derived.Test.YtocfphijheidbaaFrB
import Derived.Deep.AppendLies
import Derived.Deep.RegionLaw
import Derived.Deep.RegionHeld3
namespace Go.Proofs.Ytocfphijheidbaa
open Go.RowKit

theorem below_appD {w wr w' : World} {v : Value} {B n : Nat} {e : TypeId} {xs : List Value} {o : Obj} (hb : Below B w wr) (hB : B ≤ wr.heap.size) (hown : wr.ownsRow B e 1 v n xs) (hg : (wr.alloc o).drew.grownBy w' v.ownBlock) : Below B w w' :=
  ((hb.alloc hB o).drew).grown hg (by simp; omega) (fun k hk => (hown.lt k hk).1)
/-- append of a slice, wherever it lies, at an operation that stands behind a test. -/
theorem append_cells_g {w : World} {ops : Array Oper} {rest : List Oper} {o : Oper} {act : Act} {Q : Exit → Act → World → Prop} (hw : Region.wanted o (yielded ops act.tmps) = true) (s x : Operand) (t e : TypeId)
    (ho : o.op = .call { callee := .builtin .append, args := #[s, x], argTypes := #[t, t] })
    (i : TypeInfo) (z : Value) (bytes : Nat) (ht : Try.prog.underlying t = some (.slice e)) (hi : Try.prog.info? e = some i) (hz : i.zero = some z) (hsize : i.size = 1) (hby : i.bytes = bytes) (hzs : z.cells.size = 1)
    (B : Nat) (v : Value) (n : Nat) (xs : List Value) (hs : act.eval s = v) (hown : w.ownsRow B e 1 v n xs)
    (a : Option Addr) (len cap : Nat) (cs : List Value) (hx : act.eval x = .slice a len cap) (hn : a = none → len = 0 ∧ cap = 0) (hr : CellsAt w a len cs) (h1 : ∀ u ∈ cs, u.oneCell' = true)
    (hb : n + len ≤ 1000000) (hb2 : bytes ≤ 64) (hbase : B ≤ w.heap.size)
    (h : ∀ v' w', w'.ownsRow B e 1 v' (n + len) (xs ++ cs) → w.grownBy w' v.ownBlock → wpList Try.prog ops Q rest (act.put o.dst v') w') : wpList Try.prog ops Q (o :: rest) act w := by
  unfold wpList
  rw [if_pos hw]
  refine Or.inl ?_
  cases a with
  | none =>
    obtain ⟨rfl, rfl⟩ := hn rfl
    have hl : cs = [] := List.eq_nil_of_length_eq_zero hr.1
    subst hl
    have hrun := run_append_owned_none (P := Try.prog) (w := w) B t o.type e i 1 ht hi v n xs hown
    unfold Oper.wp
    simp [execOp, ho, resolve, invoke, builtin, hs, hx, hrun, Result.andThen]
    exact h v w (by simpa using hown) (World.grownBy.refl _ _)
  | some ad =>
    have hm : (n + len) * bytes ≤ 1000000 * 64 := Nat.mul_le_mul hb hb2
    refine wp_append_own w s x t ho B e i z 1 bytes ht hi hz hsize hby hzs (by decide) v n xs hs hown ad len cap cs hx (by rw [hr.1, Nat.mul_one]) ?_ h1 (by unfold maxLen; omega) (by omega) hbase (fun v' w' h1 h2 _ => h v' w' h1 h2)
    intro j u hj
    rcases hr.2 with h0 | ⟨b, off, hab, _, hc⟩
    · have h3 := hr.1
      have h4 := (List.getElem?_eq_some_iff.1 hj).1
      omega
    · simp only [Option.some.injEq] at hab
      subst hab
      rw [show (⟨b, off, none⟩ : Addr).add j = ⟨b, off + j, none⟩ by simp only [Addr.add]; split <;> simp_all]
      exact hc j u hj

/-- append of a slice, wherever it lies, in a region that draws. -/
theorem step_append_cells {w : World} {ops : Array Oper} {o : Oper} {act : Act} {K : Act → World → Prop} {Q : Exit → Act → World → Prop} {E : Prop} (hgd : o.guard = none) (s x : Operand) (t e : TypeId)
    (ho : o.op = .call { callee := .builtin .append, args := #[s, x], argTypes := #[t, t] })
    (i : TypeInfo) (z : Value) (bytes : Nat) (ht : Try.prog.underlying t = some (.slice e)) (hi : Try.prog.info? e = some i) (hz : i.zero = some z) (hsize : i.size = 1) (hby : i.bytes = bytes) (hzs : z.cells.size = 1)
    (B : Nat) (v : Value) (n : Nat) (xs : List Value) (hs : act.eval s = v) (hown : w.ownsRow B e 1 v n xs)
    (a : Option Addr) (len cap : Nat) (cs : List Value) (hx : act.eval x = .slice a len cap) (hn : a = none → len = 0 ∧ cap = 0) (hr : CellsAt w a len cs) (h1 : ∀ u ∈ cs, u.oneCell' = true)
    (hb : n + len ≤ 1000000) (hb2 : bytes ≤ 64) (hbase : B ≤ w.heap.size)
    (h : ∀ v' w', w'.ownsRow B e 1 v' (n + len) (xs ++ cs) → w.grownBy w' v.ownBlock → K (act.put o.dst v') w') : if Region.wanted o (yielded ops act.tmps) = true then Oper.wp Try.prog o act w K Q else E := by
  have hw : Region.wanted o (yielded ops act.tmps) = true := by simp [Region.wanted, hgd]
  rw [if_pos hw]
  cases a with
  | none =>
    obtain ⟨rfl, rfl⟩ := hn rfl
    have hl : cs = [] := List.eq_nil_of_length_eq_zero hr.1
    subst hl
    have hrun := run_append_owned_none (P := Try.prog) (w := w) B t o.type e i 1 ht hi v n xs hown
    unfold Oper.wp
    simp [execOp, ho, resolve, invoke, builtin, hs, hx, hrun, Result.andThen]
    exact h v w (by simpa using hown) (World.grownBy.refl _ _)
  | some ad =>
    have hm : (n + len) * bytes ≤ 1000000 * 64 := Nat.mul_le_mul hb hb2
    refine wp_append_own w s x t ho B e i z 1 bytes ht hi hz hsize hby hzs (by decide) v n xs hs hown ad len cap cs hx (by rw [hr.1, Nat.mul_one]) ?_ h1 (by unfold maxLen; omega) (by omega) hbase (fun v' w' h1 h2 _ => h v' w' h1 h2)
    intro j u hj
    rcases hr.2 with h0 | ⟨b, off, hab, _, hc⟩
    · have h3 := hr.1
      have h4 := (List.getElem?_eq_some_iff.1 hj).1
      omega
    · simp only [Option.some.injEq] at hab
      subst hab
      rw [show (⟨b, off, none⟩ : Addr).add j = ⟨b, off + j, none⟩ by simp only [Addr.add]; split <;> simp_all]
      exact hc j u hj

end Go.Proofs.Ytocfphijheidbaa
