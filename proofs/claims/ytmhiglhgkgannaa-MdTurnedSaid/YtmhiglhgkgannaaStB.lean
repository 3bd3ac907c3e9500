/- A whole box is stored to in a region that draws its order: one step, whatever the number of its cells. -/
import Derived.Test.YtmhiglhgkgannaaZnK
import Derived.Deep.MidRow
namespace Go.Proofs.Ytmhiglhgkgannaa
open Go.RowKit

theorem grown_sets (q : Nat) : ∀ (ds : List Value) (o : Nat) (w : World), w.grownBy (w.setCells q o ds) (some q)
  | [], _, w => World.grownBy.refl w _
  | v :: r, o, w => (grown_cell w q o v).trans (grown_sets q r (o + 1) _)
theorem CN.there {w : World} {q : Nat} {cs : List Value} (h : CN w q cs) : w.there q 0 cs.length := fun j hj => by
  obtain ⟨h1, h2⟩ := h.2 j _ (List.getElem?_eq_getElem hj)
  rw [Nat.zero_add, h1]
  exact ⟨rfl, h2⟩
theorem CN.sets {w : World} {q : Nat} {cs : List Value} (h : CN w q cs) {ds : List Value} (hl : ds.length = cs.length) : CN (w.setCells q 0 ds) q ds := by
  refine ⟨Nat.lt_of_lt_of_le h.1 (grown_sets q ds 0 w).size, fun j c hj => ?_⟩
  have hlt : j < ds.length := (List.getElem?_eq_some_iff.1 hj).1
  have h2 := World.cell?_setCells_in q ds 0 w (fun i hi => (h.there i (by omega)).1) j hlt
  rw [Nat.zero_add] at h2
  have h3 := (h.there j (by omega)).2
  rw [Nat.zero_add] at h3
  exact ⟨by rw [h2, ← (List.getElem?_eq_some_iff.1 hj).2], by rw [World.frozen?_setCells]; exact h3⟩
theorem step_store_box {w : World} {ops : Array Oper} {o : Oper} {act : Act} {K : Act → World → Prop} {Q : Exit → Act → World → Prop} {E : Prop} (hgd : o.guard = none) (ty : TypeId) (x y : Operand) (ho : o.op = .store ty x y)
    {q : Nat} {cs : List Value} (ds : List Value) (hx : act.eval x = .pointer (some ⟨q, 0, none⟩)) (hy : act.eval y = .agg ds.toArray) (hc : CN w q cs) (hl : ds.length = cs.length) (hi : (Try.prog.info? ty).map (·.size) = some ds.length) (h1 : ds.all (·.oneCell') = true)
    (h : ∀ w', CN w' q ds → w.grownBy w' (some q) → K (act.put o.dst undef) w') : if Region.wanted o (yielded ops act.tmps) = true then Oper.wp Try.prog o act w K Q else E := by
  have hw : Region.wanted o (yielded ops act.tmps) = true := by simp [Region.wanted, hgd]
  rw [if_pos hw]
  refine wp_store_mid ty x y ho q 0 ds.toArray hx hy (by have := hc.there; rw [← hl] at this; simpa using this) (by simpa using hi) (by simpa using h1) ?_
  exact h _ (by simpa using hc.sets hl) (by simpa using grown_sets q ds 0 w)
theorem wpList_store_box {ops : Array Oper} {rest : List Oper} {op : Oper} {a : Act} {w : World} {Q : Exit → Act → World → Prop} (hgd : op.guard = none) (ty : TypeId) (x y : Operand) (ho : op.op = .store ty x y)
    {q : Nat} {cs : List Value} (ds : List Value) (hx : a.eval x = .pointer (some ⟨q, 0, none⟩)) (hy : a.eval y = .agg ds.toArray) (hc : CN w q cs) (hl : ds.length = cs.length) (hi : (Try.prog.info? ty).map (·.size) = some ds.length) (h1 : ds.all (·.oneCell') = true)
    (h : ∀ w', CN w' q ds → w.grownBy w' (some q) → wpList Try.prog ops Q rest (a.put op.dst undef) w') : wpList Try.prog ops Q (op :: rest) a w := by
  refine wpList_store_mid hgd ty x y ho q 0 ds.toArray hx hy (by have := hc.there; rw [← hl] at this; simpa using this) (by simpa using hi) (by simpa using h1) ?_
  exact h _ (by simpa using hc.sets hl) (by simpa using grown_sets q ds 0 w)
theorem oneCell_cells {v : Value} (h1 : v.oneCell' = true) : v.cells = #[v] := by cases v <;> first | rfl | cases h1
theorem step_store_cell {w : World} {ops : Array Oper} {o : Oper} {act : Act} {K : Act → World → Prop} {Q : Exit → Act → World → Prop} {E : Prop} (hgd : o.guard = none) (ty : TypeId) (x y : Operand) (ho : o.op = .store ty x y)
    {q : Nat} {cs : List Value} (i : Nat) (v : Value) (hx : act.eval x = .pointer (some ⟨q, i, none⟩)) (hy : act.eval y = v) (hc : CN w q cs) (hl : i < cs.length) (hi : (Try.prog.info? ty).map (·.size) = some 1) (h1 : v.oneCell' = true)
    (h : K (act.put o.dst undef) (w.setCell ⟨q, i, none⟩ v)) : if Region.wanted o (yielded ops act.tmps) = true then Oper.wp Try.prog o act w K Q else E := by
  have hw : Region.wanted o (yielded ops act.tmps) = true := by simp [Region.wanted, hgd]
  rw [if_pos hw]
  have hs := run_storeVar_mid (P := Try.prog) w q i ty #[v] (fun j hj => by
    have hj0 : j = 0 := by simpa using hj
    subst hj0
    obtain ⟨h2, h3⟩ := hc.2 i _ (List.getElem?_eq_getElem hl)
    rw [Nat.add_zero, h2]
    exact ⟨rfl, h3⟩) (by simpa using hi) (by simp [h1])
  have he : storeVar ty ⟨q, i, none⟩ (.agg #[v]) = storeVar ty ⟨q, i, none⟩ v := by
    unfold storeVar
    rw [oneCell_cells h1]; rfl
  rw [he] at hs
  unfold Oper.wp execOp
  simp only [ho, hx, hy, Instr.storeAt, Instr.sureAddr, Sem.run_bind, Sem.run_pure, Result.andThen_ok, hs]
  exact h
end Go.Proofs.Ytmhiglhgkgannaa
