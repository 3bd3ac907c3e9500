/- Texts that others rest on, one behind the other: Rec, Fla. -/
import Derived.Test.YthfnphcefkdgbaaMgE
section
namespace Go.Proofs.Ythfnphcefkdgbaa
open Go.RowKit

theorem flatR_set (r : R5) : ∀ (L : List R5) (k : Nat), k < L.length → (((((flatR L).set (k * 5) (.string r.k.n)).set (k * 5 + 1) (.int .i64 r.k.t)).set (k * 5 + 2) (.int .i64 r.k.c)).set (k * 5 + 3) (.int .i64 r.ttl)).set (k * 5 + 4) (.string r.d) = flatR (L.set k r) := by
  intro L
  induction L with
  | nil => intro k hk; exact absurd hk (by simp)
  | cons x L ih =>
    intro k hk
    have h1 : ∀ y L, flatR (y :: L) = .string y.k.n :: .int .i64 y.k.t :: .int .i64 y.k.c :: .int .i64 y.ttl :: .string y.d :: flatR L := fun y L => rfl
    cases k with
    | zero =>
      rw [h1]
      rfl
    | succ k =>
      rw [List.set_cons_succ, h1, h1, ← ih k (by simpa using hk)]
      rw [show (k + 1) * 5 = k * 5 + 5 by omega, show k * 5 + 5 + 1 = k * 5 + 1 + 5 by omega, show k * 5 + 5 + 2 = k * 5 + 2 + 5 by omega, show k * 5 + 5 + 3 = k * 5 + 3 + 5 by omega, show k * 5 + 5 + 4 = k * 5 + 4 + 5 by omega]
      simp only [List.set_cons_succ]
theorem made_rr (n : Nat) : (madeCells (Value.agg #[.string ⟨#[]⟩, .int .i64 0, .int .i64 0, .int .i64 0, .string ⟨#[]⟩]).cells (n * 5)).toList = flatR (List.replicate n rr0) := by
  have hc : (Value.agg #[.string ⟨#[]⟩, .int .i64 0, .int .i64 0, .int .i64 0, .string ⟨#[]⟩]).cells = #[.string ⟨#[]⟩, .int .i64 0, .int .i64 0, .int .i64 0, .string ⟨#[]⟩] := by simp [Value.cells]
  apply List.ext_getElem?
  intro j
  rw [hc, flatR, flatMap_get encR 5 encR_len (by omega), Array.getElem?_toList]
  unfold madeCells
  by_cases hj : j < n * 5
  · have hd : j / 5 < n := by omega
    have hm : j % 5 < 5 := Nat.mod_lt _ (by omega)
    rw [List.getElem?_replicate, if_pos hd, Array.getElem?_map, Array.getElem?_range, if_pos hj]
    simp only [Option.map_some, Option.bind_some, List.size_toArray, List.length_cons, List.length_nil, Nat.zero_add, Nat.reduceAdd]
    obtain ⟨m, hm'⟩ : ∃ m, j % 5 = m := ⟨_, rfl⟩
    rw [hm'] at hm ⊢
    match m, hm with
    | 0, _ => rfl
    | 1, _ => rfl
    | 2, _ => rfl
    | 3, _ => rfl
    | 4, _ => rfl
  · have hd : ¬ j / 5 < n := by omega
    rw [List.getElem?_replicate, if_neg hd, Array.getElem?_map, Array.getElem?_range, if_neg hj]
    rfl
/-- Five cells of a row that is owned: they are there. -/
theorem own_cells5 {w : World} {B g n c : Nat} {L : List R5} (h : w.ownsRow B 87 5 (.slice (some ⟨g, 0, none⟩) n c) n (flatR L)) (k : Nat) (hk : k < n) : ∃ v0 v1 v2 v3 v4, w.cell? ⟨g, k * 5, none⟩ = some v0 ∧ w.cell? ⟨g, k * 5 + 1, none⟩ = some v1 ∧ w.cell? ⟨g, k * 5 + 2, none⟩ = some v2 ∧ w.cell? ⟨g, k * 5 + 3, none⟩ = some v3 ∧ w.cell? ⟨g, k * 5 + 4, none⟩ = some v4 := by
  have hl := h.1
  have hg : ∀ j, j < n * 5 → ∃ v, w.cell? ⟨g, j, none⟩ = some v := fun j hj => by
    rw [h.cellAt j hj, List.getElem?_eq_getElem (by omega)]
    exact ⟨_, rfl⟩
  obtain ⟨v0, h0⟩ := hg (k * 5) (by omega)
  obtain ⟨v1, h1⟩ := hg (k * 5 + 1) (by omega)
  obtain ⟨v2, h2⟩ := hg (k * 5 + 2) (by omega)
  obtain ⟨v3, h3⟩ := hg (k * 5 + 3) (by omega)
  obtain ⟨v4, h4⟩ := hg (k * 5 + 4) (by omega)
  exact ⟨v0, v1, v2, v3, v4, h0, h1, h2, h3, h4⟩
theorem own_set_rr {w : World} {B g n c : Nat} {L : List R5} (h : w.ownsRow B 87 5 (.slice (some ⟨g, 0, none⟩) n c) n (flatR L)) (k : Nat) (hk : k < L.length) (r : R5) : (((((w.setCell ⟨g, k * 5, none⟩ (.string r.k.n)).setCell ⟨g, k * 5 + 1, none⟩ (.int .i64 r.k.t)).setCell ⟨g, k * 5 + 2, none⟩ (.int .i64 r.k.c)).setCell ⟨g, k * 5 + 3, none⟩ (.int .i64 r.ttl)).setCell ⟨g, k * 5 + 4, none⟩ (.string r.d)).ownsRow B 87 5 (.slice (some ⟨g, 0, none⟩) n c) n (flatR (L.set k r)) := by
  have h1 := (h.stored (k * 5) (.string r.k.n)).1
  have h2 := (h1.stored (k * 5 + 1) (.int .i64 r.k.t)).1
  have h3 := (h2.stored (k * 5 + 2) (.int .i64 r.k.c)).1
  have h4 := (h3.stored (k * 5 + 3) (.int .i64 r.ttl)).1
  have h5 := (h4.stored (k * 5 + 4) (.string r.d)).1
  rw [flatR_set r L k hk] at h5
  exact h5
theorem below_set5' {B : Nat} {w w1 : World} (h : Below B w w1) {q : Nat} (hp : B ≤ q) (o : Nat) (v0 v1 v2 v3 v4 : Value) : Below B w (((((w1.setCell ⟨q, o, none⟩ v0).setCell ⟨q, o + 1, none⟩ v1).setCell ⟨q, o + 2, none⟩ v2).setCell ⟨q, o + 3, none⟩ v3).setCell ⟨q, o + 4, none⟩ v4) :=
  ((((h.setCell hp _).setCell hp _).setCell hp _).setCell hp _).setCell hp _
theorem C5.far5 {w : World} {q : Nat} {c0 c1 c2 c3 c4 : Value} (h : C5 w q c0 c1 c2 c3 c4) {g : Nat} (hp : g ≠ q) (o : Nat) (v0 v1 v2 v3 v4 : Value) : C5 (((((w.setCell ⟨g, o, none⟩ v0).setCell ⟨g, o + 1, none⟩ v1).setCell ⟨g, o + 2, none⟩ v2).setCell ⟨g, o + 3, none⟩ v3).setCell ⟨g, o + 4, none⟩ v4) q c0 c1 c2 c3 c4 :=
  ((((h.far _ hp _).far _ hp _).far _ hp _).far _ hp _).far _ hp _
theorem take_set_next {l : List R5} {n k : Nat} (hl : l.length = n) (hk : k < n) : (l.take k ++ List.replicate (n - k) rr0).set k (l[k]'(by omega)) = l.take (k + 1) ++ List.replicate (n - (k + 1)) rr0 := by
  have h1 : (l.take k).length = k := by rw [List.length_take]; omega
  rw [List.set_append_right _ _ (by omega), h1, Nat.sub_self, show n - k = (n - (k + 1)) + 1 by omega, List.replicate_succ, List.set_cons_zero, List.take_succ_eq_append_getElem (by omega), List.append_assoc]
  rfl

set_option maxRecDepth 100000 in
theorem record_any (n : ByteArray) (t c u : Int) (dv : Value) (pa : Option Addr) (dn dc : Nat) (d : ByteArray) (w : World) (hd : dv = .slice pa dn dc) : Calls Try.prog 82 #[.agg #[.string n, .int .i64 t, .int .i64 c, .int .i64 u, dv], .string d] w fun e w' => e = .returned (.agg #[.string n, .int .i64 t, .int .i64 c, .int .i64 u, .string d]) ∧ Below w.heap.size w w' := by
  subst hd
  go_enter Try.func82, Try.ntmps82
  go_wp2
  refine bodyPost_ret (v := .agg #[.string n, .int .i64 t, .int .i64 c, .int .i64 u, .string d]) (by simp [results, Try.results82, go_sem]) rfl ⟨rfl, ?_⟩
  repeat (first | exact Below.refl _ _ | refine Below.alloc ?_ (by simp) _ | refine Below.setCell ?_ (by simp) _)
end Go.Proofs.Ythfnphcefkdgbaa
end

section
namespace Go.Proofs.Ythfnphcefkdgbaa
open Go.RowKit

theorem flatP_append (A B : List SetP) : flatP (A ++ B) = flatP A ++ flatP B := List.flatMap_append
theorem flatP_take (L : List SetP) (k : Nat) (s : SetP) (h : L[k]? = some s) : flatP (L.take (k + 1)) = flatP (L.take k) ++ recs s := by
  rw [List.take_add_one, h, flatP_append]
  simp [flatP]
theorem flatP_le (L : List SetP) (k : Nat) : (flatP (L.take k)).length ≤ (flatP L).length := by
  have h : flatP L = flatP (L.take k) ++ flatP (L.drop k) := by rw [← flatP_append, List.take_append_drop]
  rw [h, List.length_append]; omega
theorem flatR_append (A B : List R5) : flatR (A ++ B) = flatR A ++ flatR B := List.flatMap_append

end Go.Proofs.Ythfnphcefkdgbaa
end
