/- Rows of records that are written to; parts of rows; clear. -/
import Derived.Test.YtkoafkajmfodkaaClR5
import Derived.Laws.OwnMore
import Derived.Maps.AppendAt
namespace Go.Proofs.Ytkoafkajmfodkaa
open Go.RowKit

def rr0 : R5 := ⟨⟨⟨#[]⟩, 0, 0⟩, 0, ⟨#[]⟩⟩
theorem flatR_set (r : R5) : ∀ (L : List R5) (k : Nat), k < L.length → (((((flatR L).set (k * 5) (.string r.k.n)).set (k * 5 + 1) (.int .i64 r.k.t)).set (k * 5 + 2) (.int .i64 r.k.c)).set (k * 5 + 3) (.int .i64 r.ttl)).set (k * 5 + 4) (.string r.d) = flatR (L.set k r) := by
  intro L
  induction L with
  | nil => intro k hk; exact absurd hk (by simp)
  | cons x L ih =>
    intro k hk
    have h1 : ∀ y L, flatR (y :: L) = .string y.k.n :: .int .i64 y.k.t :: .int .i64 y.k.c :: .int .i64 y.ttl :: .string y.d :: flatR L := fun y L => rfl
    cases k with
    | zero =>
      rw [h1]
      rfl
    | succ k =>
      rw [List.set_cons_succ, h1, h1, ← ih k (by simpa using hk)]
      rw [show (k + 1) * 5 = k * 5 + 5 by omega, show k * 5 + 5 + 1 = k * 5 + 1 + 5 by omega, show k * 5 + 5 + 2 = k * 5 + 2 + 5 by omega, show k * 5 + 5 + 3 = k * 5 + 3 + 5 by omega, show k * 5 + 5 + 4 = k * 5 + 4 + 5 by omega]
      simp only [List.set_cons_succ]
theorem made_rr (n : Nat) : (madeCells (Value.agg #[.string ⟨#[]⟩, .int .i64 0, .int .i64 0, .int .i64 0, .string ⟨#[]⟩]).cells (n * 5)).toList = flatR (List.replicate n rr0) := by
  have hc : (Value.agg #[.string ⟨#[]⟩, .int .i64 0, .int .i64 0, .int .i64 0, .string ⟨#[]⟩]).cells = #[.string ⟨#[]⟩, .int .i64 0, .int .i64 0, .int .i64 0, .string ⟨#[]⟩] := by simp [Value.cells]
  apply List.ext_getElem?
  intro j
  rw [hc, flatR, flatMap_get encR 5 encR_len (by omega), Array.getElem?_toList]
  unfold madeCells
  by_cases hj : j < n * 5
  · have hd : j / 5 < n := by omega
    have hm : j % 5 < 5 := Nat.mod_lt _ (by omega)
    rw [List.getElem?_replicate, if_pos hd, Array.getElem?_map, Array.getElem?_range, if_pos hj]
    simp only [Option.map_some, Option.bind_some, List.size_toArray, List.length_cons, List.length_nil, Nat.zero_add, Nat.reduceAdd]
    obtain ⟨m, hm'⟩ : ∃ m, j % 5 = m := ⟨_, rfl⟩
    rw [hm'] at hm ⊢
    match m, hm with
    | 0, _ => rfl
    | 1, _ => rfl
    | 2, _ => rfl
    | 3, _ => rfl
    | 4, _ => rfl
  · have hd : ¬ j / 5 < n := by omega
    rw [List.getElem?_replicate, if_neg hd, Array.getElem?_map, Array.getElem?_range, if_neg hj]
    rfl
theorem own_cells5 {w : World} {B g n c : Nat} {L : List R5} (h : w.ownsRow B 75 5 (.slice (some ⟨g, 0, none⟩) n c) n (flatR L)) (k : Nat) (hk : k < n) : ∃ v0 v1 v2 v3 v4, w.cell? ⟨g, k * 5, none⟩ = some v0 ∧ w.cell? ⟨g, k * 5 + 1, none⟩ = some v1 ∧ w.cell? ⟨g, k * 5 + 2, none⟩ = some v2 ∧ w.cell? ⟨g, k * 5 + 3, none⟩ = some v3 ∧ w.cell? ⟨g, k * 5 + 4, none⟩ = some v4 := by
  have hl := h.1
  have hg : ∀ j, j < n * 5 → ∃ v, w.cell? ⟨g, j, none⟩ = some v := fun j hj => by
    rw [h.cellAt j hj, List.getElem?_eq_getElem (by omega)]
    exact ⟨_, rfl⟩
  obtain ⟨v0, h0⟩ := hg (k * 5) (by omega)
  obtain ⟨v1, h1⟩ := hg (k * 5 + 1) (by omega)
  obtain ⟨v2, h2⟩ := hg (k * 5 + 2) (by omega)
  obtain ⟨v3, h3⟩ := hg (k * 5 + 3) (by omega)
  obtain ⟨v4, h4⟩ := hg (k * 5 + 4) (by omega)
  exact ⟨v0, v1, v2, v3, v4, h0, h1, h2, h3, h4⟩
theorem own_set_rr {w : World} {B g n c : Nat} {L : List R5} (h : w.ownsRow B 75 5 (.slice (some ⟨g, 0, none⟩) n c) n (flatR L)) (k : Nat) (hk : k < L.length) (r : R5) : (((((w.setCell ⟨g, k * 5, none⟩ (.string r.k.n)).setCell ⟨g, k * 5 + 1, none⟩ (.int .i64 r.k.t)).setCell ⟨g, k * 5 + 2, none⟩ (.int .i64 r.k.c)).setCell ⟨g, k * 5 + 3, none⟩ (.int .i64 r.ttl)).setCell ⟨g, k * 5 + 4, none⟩ (.string r.d)).ownsRow B 75 5 (.slice (some ⟨g, 0, none⟩) n c) n (flatR (L.set k r)) := by
  have h1 := (h.stored (k * 5) (.string r.k.n)).1
  have h2 := (h1.stored (k * 5 + 1) (.int .i64 r.k.t)).1
  have h3 := (h2.stored (k * 5 + 2) (.int .i64 r.k.c)).1
  have h4 := (h3.stored (k * 5 + 3) (.int .i64 r.ttl)).1
  have h5 := (h4.stored (k * 5 + 4) (.string r.d)).1
  rw [flatR_set r L k hk] at h5
  exact h5
theorem below_set5' {B : Nat} {w w1 : World} (h : Below B w w1) {q : Nat} (hp : B ≤ q) (o : Nat) (v0 v1 v2 v3 v4 : Value) : Below B w (((((w1.setCell ⟨q, o, none⟩ v0).setCell ⟨q, o + 1, none⟩ v1).setCell ⟨q, o + 2, none⟩ v2).setCell ⟨q, o + 3, none⟩ v3).setCell ⟨q, o + 4, none⟩ v4) :=
  ((((h.setCell hp _).setCell hp _).setCell hp _).setCell hp _).setCell hp _
theorem slice_headK {T E : TypeId} {i : TypeInfo} {size : Nat} (hu : Try.prog.underlying T = some (.slice E)) (hi : Try.prog.info? E = some i) (hz : i.size = size) (av : Option Addr) (n cap h : Nat) (hav : av = none ∧ n = 0 ∧ cap = 0 ∨ ∃ β off, av = some ⟨β, off, none⟩) (h2 : h ≤ cap) (W : World) : (Instr.slice T (.slice av n cap) none (some (.int .i64 (h : Int))) none).run Try.prog W = .ok (.slice av h cap) W := by
  have he : Try.prog.elem T = E := by simp [Program.elem, hu]
  have hu' : Try.prog.underlying T = some (.slice (Try.prog.elem T)) := by rw [he]; exact hu
  rw [run_slice_h (P := Try.prog) (w := W) T av n cap hu' .i64 _ (by omega) (by omega), he]
  rcases hav with ⟨rfl, rfl, rfl⟩ | ⟨β, off, rfl⟩
  · simp [sizeOf, typeInfo, hi, hz, Result.andThen, sliced]
  · simp [sizeOf, typeInfo, hi, hz, Result.andThen, sliced, Addr.add]
theorem slice_tailK {T E : TypeId} {i : TypeInfo} {size : Nat} (hu : Try.prog.underlying T = some (.slice E)) (hi : Try.prog.info? E = some i) (hz : i.size = size) (av : Option Addr) (n cap l : Nat) (hav : av = none ∧ n = 0 ∧ cap = 0 ∨ ∃ β off, av = some ⟨β, off, none⟩) (h1 : l ≤ n) (h2 : n ≤ cap) :
    ∃ ad : Option Addr, (∀ W, (Instr.slice T (.slice av n cap) (some (.int .i64 (l : Int))) none none).run Try.prog W = .ok (.slice ad (n - l) (cap - l)) W) ∧ (ad = none → n - l = 0 ∧ cap - l = 0) ∧ (l < n → ∀ β off, av = some ⟨β, off, none⟩ → ad = some ⟨β, off + l * size, none⟩) := by
  have he : Try.prog.elem T = E := by simp [Program.elem, hu]
  have hu' : Try.prog.underlying T = some (.slice (Try.prog.elem T)) := by rw [he]; exact hu
  refine ⟨if cap = l then av else av.map (·.add (l * size)), fun W => ?_, fun h3 => ?_, fun h3 β off h4 => ?_⟩
  · rw [run_slice_l (P := Try.prog) (w := W) T av n cap hu' .i64 (l : Int) (by omega) (by omega), he]
    simp [sizeOf, typeInfo, hi, hz, Result.andThen, sliced]
  · rcases hav with ⟨rfl, rfl, rfl⟩ | ⟨β, off, rfl⟩
    · omega
    · split at h3 <;> simp at h3
  · subst h4
    rw [if_neg (by omega), Option.map_some, Addr.add_mid]
theorem own_prefix {w : World} {B g c n size : Nat} {e : TypeId} {xs : List Value} (h : w.ownsRow B e size (.slice (some ⟨g, 0, none⟩) n c) n xs) (k : Nat) (hk : k ≤ n) : w.ownsRow B e size (.slice (some ⟨g, 0, none⟩) k c) k (xs.take (k * size)) := by
  have h0 := h.1
  have hkn : k * size ≤ n * size := Nat.mul_le_mul_right _ hk
  rcases h.2 with ⟨h', _⟩ | ⟨g', cap', cur, h', hb, hg, hnc, hcm, hcs, htake⟩
  · cases h'
  · injection h' with h1 h2 h3
    injection h1 with h1
    injection h1 with h1
    subst h1 h3
    refine ⟨by rw [List.length_take, h0]; omega, Or.inr ⟨g, c, cur, rfl, hb, hg, by omega, hcm, hcs, ?_⟩⟩
    rw [← htake, List.take_take, Nat.min_eq_left hkn]
def C5 (w : World) (q : Nat) (c0 c1 c2 c3 c4 : Value) : Prop := q < w.heap.size ∧ w.cell? ⟨q, 0, none⟩ = some c0 ∧ w.cell? ⟨q, 1, none⟩ = some c1 ∧ w.cell? ⟨q, 2, none⟩ = some c2 ∧ w.cell? ⟨q, 3, none⟩ = some c3 ∧ w.cell? ⟨q, 4, none⟩ = some c4 ∧ w.frozen? ⟨q, 0, none⟩ = false ∧ w.frozen? ⟨q, 1, none⟩ = false ∧ w.frozen? ⟨q, 2, none⟩ = false ∧ w.frozen? ⟨q, 3, none⟩ = false ∧ w.frozen? ⟨q, 4, none⟩ = false
theorem C5.below {w w' : World} {q : Nat} {c0 c1 c2 c3 c4 : Value} (h : C5 w q c0 c1 c2 c3 c4) (hb : Below w.heap.size w w') : C5 w' q c0 c1 c2 c3 c4 := by
  obtain ⟨h0, h1, h2, h3, h4, h5, f0, f1, f2, f3, f4⟩ := h
  exact ⟨Nat.lt_of_lt_of_le h0 hb.size, (hb.cell h0).trans h1, (hb.cell h0).trans h2, (hb.cell h0).trans h3, (hb.cell h0).trans h4, (hb.cell h0).trans h5, (hb.frozen h0).trans f0, (hb.frozen h0).trans f1, (hb.frozen h0).trans f2, (hb.frozen h0).trans f3, (hb.frozen h0).trans f4⟩
theorem c5_new (w : World) (c0 c1 c2 c3 c4 : Value) (T : TypeId) : C5 (w.alloc (.cells #[c0, c1, c2, c3, c4] T)) w.heap.size c0 c1 c2 c3 c4 := by
  refine ⟨by simp, ?_, ?_, ?_, ?_, ?_, ?_, ?_, ?_, ?_, ?_⟩ <;> simp [World.cell?_alloc_at, World.frozen?_alloc_new]

theorem grown_cell (w : World) (g j : Nat) (u : Value) : w.grownBy (w.setCell ⟨g, j, none⟩ u) (some g) := ⟨rfl, rfl, rfl, by simp, fun k _ hk => heap_setCell_other w ⟨g, j, none⟩ k u (fun e => hk (by simp [e]))⟩
theorem grown_set5 (w : World) (g o : Nat) (v0 v1 v2 v3 v4 : Value) : w.grownBy (((((w.setCell ⟨g, o, none⟩ v0).setCell ⟨g, o + 1, none⟩ v1).setCell ⟨g, o + 2, none⟩ v2).setCell ⟨g, o + 3, none⟩ v3).setCell ⟨g, o + 4, none⟩ v4) (some g) :=
  ((((grown_cell w g o v0).trans (grown_cell _ g (o + 1) v1)).trans (grown_cell _ g (o + 2) v2)).trans (grown_cell _ g (o + 3) v3)).trans (grown_cell _ g (o + 4) v4)
theorem own_at5 {w : World} {B g n c : Nat} {L : List R5} (h : w.ownsRow B 75 5 (.slice (some ⟨g, 0, none⟩) n c) n (flatR L)) (j : Nat) (r : R5) (hj : L[j]? = some r) : w.cell? ⟨g, j * 5, none⟩ = some (.string r.k.n) ∧ w.cell? ⟨g, j * 5 + 1, none⟩ = some (.int .i64 r.k.t) ∧ w.cell? ⟨g, j * 5 + 2, none⟩ = some (.int .i64 r.k.c) ∧ w.cell? ⟨g, j * 5 + 3, none⟩ = some (.int .i64 r.ttl) ∧ w.cell? ⟨g, j * 5 + 4, none⟩ = some (.string r.d) := by
  have hg : ∀ i, i < 5 → ∀ u, (encR r)[i]? = some u → w.cell? ⟨g, j * 5 + i, none⟩ = some u := fun i hi u hu => ownsRow_at h _ u (by
    rw [flatR, flatMap_get encR 5 encR_len (by omega), show (j * 5 + i) / 5 = j by omega, show (j * 5 + i) % 5 = i by omega, hj]
    exact hu)
  exact ⟨hg 0 (by omega) _ rfl, hg 1 (by omega) _ rfl, hg 2 (by omega) _ rfl, hg 3 (by omega) _ rfl, hg 4 (by omega) _ rfl⟩
theorem bel_grown {w w' : World} (h : Below w.heap.size w w') (row : Option Nat) : w.grownBy w' row := ⟨h.os, h.tape, h.output, h.size, fun k hk _ => h.block k hk⟩
/-- clear(s[k:]) of a row that is owned. -/
theorem clear_tail {w : World} {B g n c : Nat} {xs : List Value} (h : w.ownsRow B 75 5 (.slice (some ⟨g, 0, none⟩) n c) n xs) (k : Nat) (hk : k < n) (ad : Option Addr) (had : ad = some ⟨g, 0 + k * 5, none⟩) :
    ∃ w', (∀ ty, (Builtin.clear_ #[25] ty #[.slice ad (n - k) (c - k)]).run Try.prog w = .ok (.tuple #[]) w') ∧ w'.ownsRow B 75 5 (.slice (some ⟨g, 0, none⟩) k c) k (xs.take (k * 5)) ∧ w.grownBy w' (some g) := by
  subst had
  have h0 := h.1
  have hkn : k * 5 + (n - k) * 5 = n * 5 := by omega
  have hz : (Builtin.zeroCells (Value.agg #[.string ⟨#[]⟩, .int .i64 0, .int .i64 0, .int .i64 0, .string ⟨#[]⟩]).cells (n - k)).toList = flatR (List.replicate (n - k) rr0) := by
    have h9 := made_rr (n - k)
    rw [← h9]
    simp [Builtin.zeroCells, madeCells, Value.cells]
  rcases h.2 with ⟨h', _⟩ | ⟨g', cap', cur, h', hb, hg, hnc, hcm, hcs, htake⟩
  · cases h'
  injection h' with h1 h2 h3
  injection h1 with h1
  injection h1 with h1
  subst h1 h3
  have hzl : (flatR (List.replicate (n - k) rr0)).length = (n - k) * 5 := by rw [flatR_len, List.length_replicate]
  have hkc : n * 5 ≤ c * 5 := Nat.mul_le_mul_right _ hnc
  have hst := run_storeCells_at (P := Try.prog) g (0 + k * 5) 75 (flatR (List.replicate (n - k) rr0)) 0 cur w hg (by rw [hzl]; omega) (flatR_one _)
  obtain ⟨nr, hnr⟩ : ∃ nr, nr = (List.take (0 + k * 5 + 0) cur.toList ++ flatR (List.replicate (n - k) rr0) ++ List.drop (0 + k * 5 + 0 + (flatR (List.replicate (n - k) rr0)).length) cur.toList).toArray := ⟨_, rfl⟩
  rw [← hnr] at hst
  have hnl : nr.size = c * 5 := by
    rw [hnr]
    simp only [List.size_toArray, List.length_append, List.length_take, List.length_drop, hzl, Array.length_toList, hcs]
    omega
  have hnt : nr.toList.take (k * 5) = xs.take (k * 5) := by
    rw [hnr, List.append_assoc, List.take_append_of_le_length (by rw [List.length_take, Array.length_toList]; omega), ← htake, List.take_take, List.take_take, Nat.zero_add, Nat.add_zero, Nat.min_self, Nat.min_eq_left (by omega)]
  obtain ⟨m, hm⟩ : ∃ m, n - k = m + 1 := ⟨n - k - 1, by omega⟩
  refine ⟨w.setRow g nr, fun ty => ?_, ⟨?_, Or.inr ⟨g, c, nr, rfl, hb, setRow_heap w g cur nr _ _ hg, by omega, hcm, hnl, hnt⟩⟩, ⟨rfl, rfl, rfl, by simp [World.setRow], fun j _ hj => setRow_other w g j _ (fun e => hj (by rw [e]))⟩⟩
  · clear hnr hnl hnt hzl
    generalize flatR (List.replicate (n - k) rr0) = fr at hz hst
    rw [hm] at hz ⊢
    rw [Nat.zero_add] at hst
    simp [Builtin.clear_, run_underlying Try.underlying25, Try.zeroValue75, hz, hst]
  · rw [List.length_take, h0]; omega
end Go.Proofs.Ytkoafkajmfodkaa
