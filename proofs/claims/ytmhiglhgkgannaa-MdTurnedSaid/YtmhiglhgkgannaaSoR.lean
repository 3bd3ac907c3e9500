/- The contract of slices.SortFunc at records, in a row's words. -/
import Derived.Test.YtmhiglhgkgannaaSoL
import Derived.Test.YtmhiglhgkgannaaMgE
import Derived.Shelf.SlSortCmp.NoneTotal
import Derived.Laws.OwnMore
namespace Go.Proofs.Ytmhiglhgkgannaa
open Go.RowKit Go.Sort Go.Shelf

/-- Records whose names are not too long. -/
abbrev R5b : Type := { r : R5 // r.k.n.size ≤ 1000000 }
instance : Inhabited R5b := ⟨⟨⟨⟨⟨#[]⟩, 0, 0⟩, 0, ⟨#[]⟩⟩, Nat.zero_le _⟩⟩
def encB (r : R5b) : List Value := encR r.1
theorem encB_len (x : R5b) : (encB x).length = 5 := rfl
theorem encB_one (x : R5b) : ∀ v ∈ encB x, v.oneCell' = true := by
  intro v hv
  simp only [encB, encR, List.mem_cons, List.not_mem_nil, or_false] at hv
  rcases hv with rfl | rfl | rfl | rfl | rfl <;> rfl
theorem flatK_list (d : Array R5b) : (flatK encB 5 d).toList = d.toList.flatMap encB := by
  apply List.ext_getElem?
  intro t
  rw [flatMap_get encB 5 encB_len (by omega)]
  by_cases ht : t < d.size * 5
  · have h1 := get_flatK encB 5 d t ht
    have hd : t / 5 < d.size := by omega
    rw [Array.getElem?_toList, Array.getElem?_eq_getElem (by rw [size_flatK]; exact ht)]
    rw [getElem!_pos (flatK encB 5 d) t (by rw [size_flatK]; exact ht)] at h1
    rw [h1, Array.getElem?_toList, Array.getElem?_eq_getElem hd, getElem!_pos d (t / 5) hd]
    simp only [Option.bind_some]
    have h5 : t % 5 < (encB d[t / 5]).length := by rw [encB_len]; omega
    rw [getElem!_pos (encB d[t / 5]) (t % 5) h5, List.getElem?_eq_getElem h5]
  · rw [List.getElem?_eq_none (by rw [Array.length_toList, size_flatK]; omega), List.getElem?_eq_none (by rw [Array.length_toList]; omega)]
    rfl

theorem belD_grow {w w' : World} (h : BelD w.heap.size w w') : ∃ q os, w' = grow (w.drewN q) os := by
  have hq : ∀ (n : Nat) (w : World), w.drewN n = { w with drawn := w.drawn + n } := by
    intro n
    induction n with
    | zero => intro w; rfl
    | succ n ih => intro w; show (w.drewN n).drew = _; rw [ih]; rfl
  refine ⟨w'.drawn - w.drawn, w'.heap.extract w.heap.size w'.heap.size, ?_⟩
  have h1 := h.b.os
  have h2 := h.b.tape
  have h3 := h.b.output
  have h4 := h.b.size
  have h5 := h.b.block
  have h6 := h.d
  rw [hq]
  obtain ⟨hp, tp, dr, os, out⟩ := w
  obtain ⟨hp', tp', dr', os', out'⟩ := w'
  simp only at h1 h2 h3 h4 h5 h6
  subst h1 h2 h3
  simp only [grow, World.mk.injEq, true_and]
  refine ⟨?_, by omega, trivial⟩
  apply Array.ext_getElem?
  intro i
  by_cases hi : i < hp.size
  · rw [Array.getElem?_append_left hi, h5 i hi]
  · rw [Array.getElem?_append_right (by omega), Array.getElem?_extract]
    by_cases hi2 : i < hp'.size
    · rw [if_pos (by omega), show hp.size + (i - hp.size) = i by omega]
    · rw [if_neg (by omega), Array.getElem?_eq_none (by omega)]

theorem heap_sortedK {w : World} {g n : Nat} {os : Array Obj} {cur : Array Value} {e : TypeId} {fr : Nat × Nat} (F : Array Value) (hb : w.heap[g]? = some (.cells cur e fr)) :
    (grow (putRow id (Sort.ahead w n) g 0 F) os).heap[g]? = some (.cells (putCells id 0 F cur) e fr) := by
  have hg : g < w.heap.size := (Array.getElem?_eq_some_iff.1 hb).1
  rw [heap_grow_old _ _ (by simpa using hg)]
  simp [putRow, mapBlock, Sort.ahead, Array.getElem?_modify, hb, onCells]
theorem grownBy_sortedK {w : World} {g n : Nat} {os : Array Obj} (F : Array Value) : w.grownBy (grow (putRow id (Sort.ahead w n) g 0 F) os) (some g) := by
  refine ⟨rfl, rfl, rfl, by simp, fun k hk hne => ?_⟩
  rw [heap_grow_old _ _ (by simpa using hk)]
  have : g ≠ k := fun e => hne (by rw [e])
  simp [putRow, mapBlock, Sort.ahead, Array.getElem?_modify, this]
theorem take_putCellsK (cur F : Array Value) (h : F.size ≤ cur.size) : (putCells id 0 F cur).toList.take F.size = F.toList := by
  apply List.ext_getElem?
  intro j
  by_cases hj : j < F.size
  · rw [List.getElem?_take_of_lt hj, Array.getElem?_toList]
    simp [putCells, hj, show j < cur.size by omega]
  · rw [List.getElem?_take_eq_none (by omega), List.getElem?_eq_none (by simp; omega)]

/-- The order in which Group's records stand. -/
def SortedR (l : List R5) : Prop := l.Pairwise (fun x y => rcmp x y ≤ 0)
theorem sortRR_none (p : Option Addr) (cap : Nat) (fv : Value) (w : World) : Calls Try.prog 46 #[.slice p 0 cap, fv] w fun e w' => e = .returned (.tuple #[]) ∧ w' = w := by
  have h := AnyF.slices_SortFunc_none sortRR p cap fv w
  change Calls Try.prog 46 _ _ _ at h
  exact h
end Go.Proofs.Ytmhiglhgkgannaa
