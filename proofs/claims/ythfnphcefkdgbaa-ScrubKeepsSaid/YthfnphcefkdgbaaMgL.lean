/- Texts that others rest on, one behind the other: SoL, SoR. -/
import Derived.Test.YthfnphcefkdgbaaMgA
import Derived.Shelf.SlLaysF0
import Derived.Test.YthfnphcefkdgbaaMgE
import Derived.Shelf.SlSortCmp.NoneTotal
import Derived.Laws.OwnMore
section
namespace Go.Proofs.Ythfnphcefkdgbaa
open Go.Shelf
def sortRR_ren : Go.Shelf.Ren := ⟨fun | 6 => 130 | 15 => 77 | 14 => 137 | 28 => 107 | 29 => 108 | 20 => 138 | 21 => 139 | 22 => 140 | 23 => 141 | 24 => 142 | 25 => 143 | 26 => 144 | 27 => 145 | 46 => 146 | 47 => 121 | 48 => 122 | 49 => 147 | 50 => 148 | 57 => 149 | n => n, fun | 22 => 75 | 24 => 87 | 25 => 185 | 3 => 3 | 39 => 133 | 0 => 0 | 53 => 162 | 55 => 164 | 4 => 4 | 46 => 155 | 45 => 154 | 50 => 159 | 5 => 5 | 9 => 9 | 66 => 175 | 70 => 179 | 76 => 187 | 77 => 188 | n => n, fun | n => n⟩
theorem sortRR : Go.Proofs.SlLaysF0.n6 Try.prog sortRR_ren := {
  mixed := by kernel_rfl
  f6 := ⟨Try.f130.name, by decide, Try.func130.trans (congrArg some (by kernel_rfl))⟩
  f14 := ⟨Try.f137.name, by decide, Try.func137.trans (congrArg some (by kernel_rfl))⟩
  f15 := Try.func77.trans (congrArg some (by kernel_rfl))
  f20 := ⟨Try.f138.name, by decide, Try.func138.trans (congrArg some (by kernel_rfl))⟩
  f21 := ⟨Try.f139.name, by decide, Try.func139.trans (congrArg some (by kernel_rfl))⟩
  f22 := ⟨Try.f140.name, by decide, Try.func140.trans (congrArg some (by kernel_rfl))⟩
  f23 := ⟨Try.f141.name, by decide, Try.func141.trans (congrArg some (by kernel_rfl))⟩
  f24 := ⟨Try.f142.name, by decide, Try.func142.trans (congrArg some (by kernel_rfl))⟩
  f25 := ⟨Try.f143.name, by decide, Try.func143.trans (congrArg some (by kernel_rfl))⟩
  f26 := ⟨Try.f144.name, by decide, Try.func144.trans (congrArg some (by kernel_rfl))⟩
  f27 := ⟨Try.f145.name, by decide, Try.func145.trans (congrArg some (by kernel_rfl))⟩
  f28 := Try.func107.trans (congrArg some (by kernel_rfl))
  f29 := Try.func108.trans (congrArg some (by kernel_rfl))
  f46 := ⟨Try.f146.name, by decide, Try.func146.trans (congrArg some (by kernel_rfl))⟩
  f47 := Try.func121.trans (congrArg some (by kernel_rfl))
  f48 := Try.func122.trans (congrArg some (by kernel_rfl))
  f49 := ⟨Try.f147.name, by decide, Try.func147.trans (congrArg some (by kernel_rfl))⟩
  f50 := ⟨Try.f148.name, by decide, Try.func148.trans (congrArg some (by kernel_rfl))⟩
  f57 := ⟨Try.f149.name, by decide, Try.func149.trans (congrArg some (by kernel_rfl))⟩
  t0 := Try.underlying0
  a0 := Try.isAgg0
  z0 := Try.sizeOf0
  v0 := Try.zeroValue0
  t3 := Try.underlying3
  a3 := Try.isAgg3
  z3 := Try.sizeOf3
  v3 := Try.zeroValue3
  t4 := Try.underlying4
  a4 := Try.isAgg4
  z4 := Try.sizeOf4
  v4 := Try.zeroValue4
  t5 := Try.underlying5
  a5 := Try.isAgg5
  z5 := Try.sizeOf5
  v5 := Try.zeroValue5
  t9 := Try.underlying9
  a9 := Try.isAgg9
  z9 := Try.sizeOf9
  v9 := Try.zeroValue9
  t22 := Try.underlying75
  a22 := Try.isAgg75
  z22 := Try.sizeOf75
  v22 := Try.zeroValue75
  t25 := Try.underlying185
  a25 := Try.isAgg185
  z25 := Try.sizeOf185
  v25 := Try.zeroValue185
  t39 := Try.underlying133
  a39 := Try.isAgg133
  z39 := Try.sizeOf133
  v39 := Try.zeroValue133
  t45 := Try.underlying154
  a45 := Try.isAgg154
  z45 := Try.sizeOf154
  v45 := Try.zeroValue154
  t46 := Try.underlying155
  a46 := Try.isAgg155
  z46 := Try.sizeOf155
  v46 := Try.zeroValue155
  t50 := Try.underlying159
  a50 := Try.isAgg159
  z50 := Try.sizeOf159
  v50 := Try.zeroValue159
  t53 := Try.underlying162
  a53 := Try.isAgg162
  z53 := Try.sizeOf162
  v53 := Try.zeroValue162
  t55 := Try.underlying164
  a55 := Try.isAgg164
  z55 := Try.sizeOf164
  v55 := Try.zeroValue164
  t66 := Try.underlying175
  a66 := Try.isAgg175
  z66 := Try.sizeOf175
  v66 := Try.zeroValue175
  t70 := Try.underlying179
  a70 := Try.isAgg179
  z70 := Try.sizeOf179
  v70 := Try.zeroValue179
  t76 := Try.underlying187
  a76 := Try.isAgg187
  z76 := Try.sizeOf187
  v76 := Try.zeroValue187
  t77 := Try.underlying188
  a77 := Try.isAgg188
  z77 := Try.sizeOf188
  v77 := Try.zeroValue188 }
end Go.Proofs.Ythfnphcefkdgbaa
end

section
namespace Go.Proofs.Ythfnphcefkdgbaa
open Go.RowKit Go.Sort Go.Shelf

/-- Records whose names are not too long. -/
abbrev R5b : Type := { r : R5 // r.k.n.size ≤ 1000000 }
instance : Inhabited R5b := ⟨⟨⟨⟨⟨#[]⟩, 0, 0⟩, 0, ⟨#[]⟩⟩, Nat.zero_le _⟩⟩
def encB (r : R5b) : List Value := encR r.1
theorem encB_len (x : R5b) : (encB x).length = 5 := rfl
theorem encB_one (x : R5b) : ∀ v ∈ encB x, v.oneCell' = true := by
  intro v hv
  simp only [encB, encR, List.mem_cons, List.not_mem_nil, or_false] at hv
  rcases hv with rfl | rfl | rfl | rfl | rfl <;> rfl
theorem flatK_list (d : Array R5b) : (flatK encB 5 d).toList = d.toList.flatMap encB := by
  apply List.ext_getElem?
  intro t
  rw [flatMap_get encB 5 encB_len (by omega)]
  by_cases ht : t < d.size * 5
  · have h1 := get_flatK encB 5 d t ht
    have hd : t / 5 < d.size := by omega
    rw [Array.getElem?_toList, Array.getElem?_eq_getElem (by rw [size_flatK]; exact ht)]
    rw [getElem!_pos (flatK encB 5 d) t (by rw [size_flatK]; exact ht)] at h1
    rw [h1, Array.getElem?_toList, Array.getElem?_eq_getElem hd, getElem!_pos d (t / 5) hd]
    simp only [Option.bind_some]
    have h5 : t % 5 < (encB d[t / 5]).length := by rw [encB_len]; omega
    rw [getElem!_pos (encB d[t / 5]) (t % 5) h5, List.getElem?_eq_getElem h5]
  · rw [List.getElem?_eq_none (by rw [Array.length_toList, size_flatK]; omega), List.getElem?_eq_none (by rw [Array.length_toList]; omega)]
    rfl

theorem belD_grow {w w' : World} (h : BelD w.heap.size w w') : ∃ q os, w' = grow (w.drewN q) os := by
  have hq : ∀ (n : Nat) (w : World), w.drewN n = { w with drawn := w.drawn + n } := by
    intro n
    induction n with
    | zero => intro w; rfl
    | succ n ih => intro w; show (w.drewN n).drew = _; rw [ih]; rfl
  refine ⟨w'.drawn - w.drawn, w'.heap.extract w.heap.size w'.heap.size, ?_⟩
  have h1 := h.b.os
  have h2 := h.b.tape
  have h3 := h.b.output
  have h4 := h.b.size
  have h5 := h.b.block
  have h6 := h.d
  rw [hq]
  obtain ⟨hp, tp, dr, os, out⟩ := w
  obtain ⟨hp', tp', dr', os', out'⟩ := w'
  simp only at h1 h2 h3 h4 h5 h6
  subst h1 h2 h3
  simp only [grow, World.mk.injEq, true_and]
  refine ⟨?_, by omega, trivial⟩
  apply Array.ext_getElem?
  intro i
  by_cases hi : i < hp.size
  · rw [Array.getElem?_append_left hi, h5 i hi]
  · rw [Array.getElem?_append_right (by omega), Array.getElem?_extract]
    by_cases hi2 : i < hp'.size
    · rw [if_pos (by omega), show hp.size + (i - hp.size) = i by omega]
    · rw [if_neg (by omega), Array.getElem?_eq_none (by omega)]

theorem cmpLaysRR (blk off size : Nat) (w : World) : CmpLays Try.prog 131 #[] encB 5 (fun a b : R5b => rcmp a.1 b.1) blk off size w :=
  fun _ _ _ _ x y => (rcompare5 x.1 y.1 _ x.2 y.2).mono fun _ _ ⟨he, hb⟩ => ⟨he, belD_grow hb⟩

theorem heap_sortedK {w : World} {g n : Nat} {os : Array Obj} {cur : Array Value} {e : TypeId} {fr : Nat × Nat} (F : Array Value) (hb : w.heap[g]? = some (.cells cur e fr)) :
    (grow (putRow id (Sort.ahead w n) g 0 F) os).heap[g]? = some (.cells (putCells id 0 F cur) e fr) := by
  have hg : g < w.heap.size := (Array.getElem?_eq_some_iff.1 hb).1
  rw [heap_grow_old _ _ (by simpa using hg)]
  simp [putRow, mapBlock, Sort.ahead, Array.getElem?_modify, hb, onCells]
theorem grownBy_sortedK {w : World} {g n : Nat} {os : Array Obj} (F : Array Value) : w.grownBy (grow (putRow id (Sort.ahead w n) g 0 F) os) (some g) := by
  refine ⟨rfl, rfl, rfl, by simp, fun k hk hne => ?_⟩
  rw [heap_grow_old _ _ (by simpa using hk)]
  have : g ≠ k := fun e => hne (by rw [e])
  simp [putRow, mapBlock, Sort.ahead, Array.getElem?_modify, this]
theorem take_putCellsK (cur F : Array Value) (h : F.size ≤ cur.size) : (putCells id 0 F cur).toList.take F.size = F.toList := by
  apply List.ext_getElem?
  intro j
  by_cases hj : j < F.size
  · rw [List.getElem?_take_of_lt hj, Array.getElem?_toList]
    simp [putCells, hj, show j < cur.size by omega]
  · rw [List.getElem?_take_eq_none (by omega), List.getElem?_eq_none (by simp; omega)]

/-- The order in which Group's records stand. -/
def SortedR (l : List R5) : Prop := l.Pairwise (fun x y => rcmp x y ≤ 0)
theorem sortRR_some (B g n cap : Nat) (l : List R5) (w : World) (hl : ∀ r ∈ l, r.k.n.size ≤ 1000000) (hn : l.length = n) (hown : w.ownsRow B 87 5 (.slice (some ⟨g, 0, none⟩) n cap) n (flatR l)) (hsz : n ≤ 1000000) :
    Calls Try.prog 130 #[.slice (some ⟨g, 0, none⟩) n cap, .func (.func 131) #[] #[]] w fun e w' => e = .returned (.tuple #[]) ∧ ∃ l' : List R5, l'.Perm l ∧ SortedR l' ∧ w'.ownsRow B 87 5 (.slice (some ⟨g, 0, none⟩) n cap) n (flatR l') ∧ w.grownBy w' (some g) := by
  obtain ⟨d, hd⟩ : ∃ d : Array R5b, d.toList = l.attach.map (fun x => ⟨x.1, hl x.1 x.2⟩) := ⟨(l.attach.map (fun x => (⟨x.1, hl x.1 x.2⟩ : R5b))).toArray, rfl⟩
  have hdl : d.toList.map Subtype.val = l := by
    rw [hd, List.map_map]
    show l.attach.map (fun x => x.1) = l
    exact List.attach_map_subtype_val l
  have hds : d.size = n := by rw [← hn, ← hdl, List.length_map, Array.length_toList]
  have hfl : (flatK encB 5 d).toList = flatR l := by
    rw [flatK_list, ← hdl, flatR, List.flatMap_map]; rfl
  have hlt := (hown.lt g rfl)
  have hH : HoldsK encB 5 w g 0 d := by
    intro j hj
    rw [size_flatK, hds] at hj
    have h1 := hown.cellAt j hj
    refine ⟨?_, by rw [Nat.zero_add]; exact hown.frozenAt j⟩
    rw [Nat.zero_add, h1, ← hfl, Array.getElem?_toList, Array.getElem?_eq_getElem (by rw [size_flatK, hds]; exact hj), getElem!_pos _ j (by rw [size_flatK, hds]; exact hj)]
    rfl
  have eg : ∀ args w, (callFunc 131 args).run Try.prog w = .ok (.enter 131 args) w := enters_of Try.func131 (by kernel_rfl) rfl
  have hcon := AnyQ.slices_SortFunc sortRR 5 Try.isAgg87 Try.sizeOf87 encB encB_len encB_one (fun a b : R5b => rcmp a.1 b.1) (pre_rcmp.comap Subtype.val).swo 131 #[] g 0 cap d w eg (cmpLaysRR g 0 d.size w) hH hlt.2 (by omega)
  change Calls Try.prog 130 _ _ _ at hcon
  rw [hds] at hcon
  refine hcon.mono ?_
  rintro e w' ⟨rfl, d', m, os, hp, hs, rfl⟩
  have hds' : d'.size = n := by rw [hp.1, hds]
  refine ⟨rfl, d'.toList.map Subtype.val, ?_, ?_, ?_, grownBy_sortedK _⟩
  · rw [← hdl]
    refine List.Perm.map _ ?_
    have h3 := hp.2.2
    rw [show n = d'.size from hds'.symm, Array.extract_size] at h3
    rw [show d'.size = d.size by omega, Array.extract_size] at h3
    exact h3
  · rw [SortedR, List.pairwise_map, List.pairwise_iff_getElem]
    intro i j hi hj hij
    rw [Array.length_toList] at hi hj
    have h3 := hs i j (Nat.zero_le _) hij (by omega)
    rw [getElem!_pos d' i hi, getElem!_pos d' j hj] at h3
    have h4 : ¬ rcmp d'[j].1 d'[i].1 < 0 := of_decide_eq_false h3
    have h5 := pre_rcmp.anti d'[j].1 d'[i].1
    rw [Array.getElem_toList, Array.getElem_toList]
    omega
  · have hfl' : (flatK encB 5 d').toList = flatR (d'.toList.map Subtype.val) := by
      rw [flatK_list, flatR, List.flatMap_map]; rfl
    rcases hown.2 with ⟨h', _⟩ | ⟨g', cap', cur, h', hb, hgg, hnc, hcm, hcs, htake⟩
    · cases h'
    · injection h' with h1 h2 h3
      injection h1 with h1
      injection h1 with h1
      subst h1 h3
      have hsz' : (flatK encB 5 d').size = n * 5 := by rw [size_flatK, hds']
      refine ⟨by rw [flatR_len, List.length_map, Array.length_toList, hds'], Or.inr ⟨g, cap, _, rfl, hb, heap_sortedK _ hgg, hnc, hcm, by simp [putCells, hcs], ?_⟩⟩
      rw [← hfl', ← hsz']
      exact take_putCellsK cur _ (by rw [hsz', hcs]; exact Nat.mul_le_mul_right 5 hnc)
theorem sortRR_none (p : Option Addr) (cap : Nat) (fv : Value) (w : World) : Calls Try.prog 130 #[.slice p 0 cap, fv] w fun e w' => e = .returned (.tuple #[]) ∧ w' = w := by
  have h := AnyF.slices_SortFunc_none sortRR p cap fv w
  change Calls Try.prog 130 _ _ _ at h
  exact h
end Go.Proofs.Ythfnphcefkdgbaa
end
