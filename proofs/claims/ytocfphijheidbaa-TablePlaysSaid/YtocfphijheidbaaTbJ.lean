/- One Wait taken out of a row: slices.Delete. -/
import Derived.Test.YtocfphijheidbaaTbI
import Derived.Test.YtocfphijheidbaaLst
namespace Go.Proofs.Ytocfphijheidbaa
open Go.RowKit

theorem own_prefixT {w : World} {B g c n size : Nat} {e : TypeId} {xs : List Value} (h : w.ownsRow B e size (.slice (some ⟨g, 0, none⟩) n c) n xs) (k : Nat) (hk : k ≤ n) : w.ownsRow B e size (.slice (some ⟨g, 0, none⟩) k c) k (xs.take (k * size)) := by
  have h0 := h.1
  have hkn : k * size ≤ n * size := Nat.mul_le_mul_right _ hk
  rcases h.2 with ⟨h', _⟩ | ⟨g', cap', cur, h', hb, hg, hnc, hcm, hcs, htake⟩
  · cases h'
  · injection h' with h1 h2 h3
    injection h1 with h1
    injection h1 with h1
    subst h1 h3
    refine ⟨by rw [List.length_take, h0]; omega, Or.inr ⟨g, c, cur, rfl, hb, hg, by omega, hcm, hcs, ?_⟩⟩
    rw [← htake, List.take_take, Nat.min_eq_left hkn]
theorem own_beyond {w : World} {B g c n size : Nat} {e : TypeId} {xs : List Value} (h : w.ownsRow B e size (.slice (some ⟨g, 0, none⟩) n c) n xs) (j : Nat) (hj : n * size ≤ j) (u : Value) : (w.setCell ⟨g, j, none⟩ u).ownsRow B e size (.slice (some ⟨g, 0, none⟩) n c) n xs := by
  rcases h.2 with ⟨h', _⟩ | ⟨g', cap', cur, h', hb, hg, hnc, hcm, hcs, htake⟩
  · cases h'
  · injection h' with h1 h2 h3
    injection h1 with h1
    injection h1 with h1
    subst h1 h3
    refine ⟨h.1, Or.inr ⟨g, c, cur.setIfInBounds j u, rfl, hb, ?_, hnc, hcm, by rw [Array.size_setIfInBounds]; exact hcs, ?_⟩⟩
    · show (w.heap.modify g _)[g]? = _
      rw [Array.getElem?_modify, if_pos rfl, hg]
      rfl
    · rw [Array.toList_setIfInBounds, List.take_set_of_le hj]
      exact htake
theorem own_beyonds {B g c n size : Nat} {e : TypeId} {xs : List Value} : ∀ (vs : List Value) (j : Nat) (w : World), n * size ≤ j → w.ownsRow B e size (.slice (some ⟨g, 0, none⟩) n c) n xs → (w.setCells g j vs).ownsRow B e size (.slice (some ⟨g, 0, none⟩) n c) n xs
  | [], _, _, _, h => h
  | v :: vs, j, w, hj, h => own_beyonds vs (j + 1) (w.setCell ⟨g, j, none⟩ v) (by omega) (own_beyond h j hj v)
theorem step_append_in {w : World} {ops : Array Oper} {o : Oper} {act : Act} {K : Act → World → Prop} {Q : Exit → Act → World → Prop} {E : Prop} (hgd : o.guard = none) (s x : Operand) (t e : TypeId)
    (ho : o.op = .call { callee := .builtin .append, args := #[s, x], argTypes := #[t, t] })
    (i : TypeInfo) (size : Nat) (ht : Try.prog.underlying t = some (.slice e)) (hi : Try.prog.info? e = some i) (hsize : i.size = size)
    (g n cap : Nat) (xs : List Value) (hs : act.eval s = .slice (some ⟨g, 0, none⟩) n cap) (hown : w.ownsRow 0 e size (.slice (some ⟨g, 0, none⟩) n cap) n xs)
    (a : Option Addr) (m c : Nat) (cs : List Value) (hx : act.eval x = .slice a m c) (hr : CellsAt w a (m * size) cs) (hn : a = none → m = 0 ∧ c = 0) (h1 : ∀ u ∈ cs, u.oneCell' = true) (hroom : n + m ≤ cap)
    (h : ∀ w', w'.ownsRow 0 e size (.slice (some ⟨g, 0, none⟩) (n + m) cap) (n + m) (xs ++ cs) → w.grownBy w' (some g) → K (act.put o.dst (.slice (some ⟨g, 0, none⟩) (n + m) cap)) w') : if Region.wanted o (yielded ops act.tmps) = true then Oper.wp Try.prog o act w K Q else E := by
  have hw : Region.wanted o (yielded ops act.tmps) = true := by simp [Region.wanted, hgd]
  rw [if_pos hw]
  cases a with
  | none =>
    obtain ⟨rfl, rfl⟩ := hn rfl
    have hl : cs = [] := List.eq_nil_of_length_eq_zero (by rw [hr.1]; exact Nat.zero_mul _)
    subst hl
    have hrun := run_append_owned_none (P := Try.prog) (w := w) 0 t o.type e i size ht hi _ n xs hown
    unfold Oper.wp
    simp [execOp, ho, resolve, invoke, builtin, hs, hx, hrun, Result.andThen]
    exact h w (by simpa using hown) (World.grownBy.refl _ _)
  | some ad =>
    have hcs : ∀ (j : Nat) (u : Value), cs[j]? = some u → w.cell? (ad.add j) = some u := by
      intro j u hj
      rcases hr.2 with h0' | ⟨b, off, hab, _, hc⟩
      · have h3 := hr.1
        have h4 := (List.getElem?_eq_some_iff.1 hj).1
        omega
      · simp only [Option.some.injEq] at hab
        subst hab
        rw [Addr.add_mid]
        exact hc j u hj
    obtain ⟨w', hrun, h2, h3⟩ := run_append_fits (P := Try.prog) w 0 t o.type e i size ht hi hsize g n cap xs hown ad m c cs hr.1 hcs h1 hroom
    unfold Oper.wp
    simp [execOp, ho, resolve, invoke, builtin, hs, hx, hrun, Result.andThen]
    exact h w' h2 h3
theorem slice_lhK {T E : TypeId} {i : TypeInfo} {size : Nat} (hu : Try.prog.underlying T = some (.slice E)) (hi : Try.prog.info? E = some i) (hz : i.size = size) (g n cap l h : Nat) (h1 : l ≤ h) (h2 : h ≤ cap) (h3 : l < cap) (W : World) : (Instr.slice T (.slice (some ⟨g, 0, none⟩) n cap) (some (.int .i64 (l : Int))) (some (.int .i64 (h : Int))) none).run Try.prog W = .ok (.slice (some ⟨g, l * size, none⟩) (h - l) (cap - l)) W := by
  have he : Try.prog.elem T = E := by simp [Program.elem, hu]
  have hu' : Try.prog.underlying T = some (.slice (Try.prog.elem T)) := by rw [he]; exact hu
  rw [run_slice_lh (P := Try.prog) (w := W) T (some ⟨g, 0, none⟩) n cap hu' .i64 .i64 (l : Int) (h : Int) (by omega) (by omega) (by omega), he]
  have e : ¬ cap = l := by omega
  simp [sizeOf, typeInfo, hi, hz, Result.andThen, sliced, e, Addr.add_mid]
theorem slice_headT {T E : TypeId} {i : TypeInfo} {size : Nat} (hu : Try.prog.underlying T = some (.slice E)) (hi : Try.prog.info? E = some i) (hz : i.size = size) (g n cap h : Nat) (h2 : h ≤ cap) (W : World) : (Instr.slice T (.slice (some ⟨g, 0, none⟩) n cap) none (some (.int .i64 (h : Int))) none).run Try.prog W = .ok (.slice (some ⟨g, 0, none⟩) h cap) W := by
  have he : Try.prog.elem T = E := by simp [Program.elem, hu]
  have hu' : Try.prog.underlying T = some (.slice (Try.prog.elem T)) := by rw [he]; exact hu
  rw [run_slice_h (P := Try.prog) (w := W) T (some ⟨g, 0, none⟩) n cap hu' .i64 _ (by omega) (by omega), he]
  simp [sizeOf, typeInfo, hi, hz, Result.andThen, sliced, Addr.add]
theorem slice_tailT {T E : TypeId} {i : TypeInfo} {size : Nat} (hu : Try.prog.underlying T = some (.slice E)) (hi : Try.prog.info? E = some i) (hz : i.size = size) (g n cap l : Nat) (h1 : l ≤ n) (h2 : n ≤ cap) :
    ∃ ad : Option Addr, (∀ W, (Instr.slice T (.slice (some ⟨g, 0, none⟩) n cap) (some (.int .i64 (l : Int))) none none).run Try.prog W = .ok (.slice ad (n - l) (cap - l)) W) ∧ (∃ x, ad = some x) ∧ (l < n → ad = some ⟨g, l * size, none⟩) := by
  have he : Try.prog.elem T = E := by simp [Program.elem, hu]
  have hu' : Try.prog.underlying T = some (.slice (Try.prog.elem T)) := by rw [he]; exact hu
  refine ⟨if cap = l then some ⟨g, 0, none⟩ else (some (⟨g, 0, none⟩ : Addr)).map (·.add (l * size)), fun W => ?_, ?_, fun h3 => ?_⟩
  · rw [run_slice_l (P := Try.prog) (w := W) T (some ⟨g, 0, none⟩) n cap hu' .i64 (l : Int) (by omega) (by omega), he]
    simp [sizeOf, typeInfo, hi, hz, Result.andThen, sliced]
  · split
    · exact ⟨_, rfl⟩
    · exact ⟨_, rfl⟩
  · rw [if_neg (by omega), Option.map_some, Addr.add_mid, Nat.zero_add]
end Go.Proofs.Ytocfphijheidbaa
