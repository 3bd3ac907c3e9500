/- Texts that others rest on, one behind the other: DdP, SoS, SoT, RwP, CmS, AuP, AuT, AuG, AuC. -/
import Derived.Test.YthfnphcefkdgbaaGreatMgA
import Derived.Shelf.SlLaysF
import Derived.Test.YthfnphcefkdgbaaGreatMgL
import Derived.Test.YthfnphcefkdgbaaGreatMgE
import Derived.Shelf.SlSortCmp.Whole1
import Derived.Test.YthfnphcefkdgbaaGreatMgN
import Derived.Test.YthfnphcefkdgbaaGreatMgO
import Derived.Laws.OwnMore
import Derived.Maps.AppendAt
import Derived.Test.YthfnphcefkdgbaaGreatLst
import Derived.Test.YthfnphcefkdgbaaGreatMgC
import Derived.Test.YthfnphcefkdgbaaGreatMgM
import Derived.Test.YthfnphcefkdgbaaGreatMgF
import Derived.Test.YthfnphcefkdgbaaGreatMgG
import Derived.Test.YthfnphcefkdgbaaGreatMgP
import Derived.BigQuiet
import Derived.Deep.QuietTactic
section
namespace Go.Proofs.YthfnphcefkdgbaaGreat
def dd {α : Type} [DecidableEq α] : List α → List α
 | [] => []
 | [x] => [x]
 | x :: y :: l => if x = y then dd (y :: l) else x :: dd (y :: l)
theorem dd_snoc {α : Type} [DecidableEq α] : ∀ (L : List α) (y x : α), dd (L ++ [y, x]) = if y = x then dd (L ++ [y]) else dd (L ++ [y]) ++ [x]
 | [], y, x => by
  by_cases h : y = x
  · simp [dd, h]
  · simp [dd, h]
 | [a], y, x => by
  show dd (a :: y :: [x]) = if y = x then dd (a :: y :: []) else dd (a :: y :: []) ++ [x]
  by_cases h : y = x <;> by_cases h2 : a = y <;> simp [h, h2, dd]
 | a :: b :: L, y, x => by
  have ih := dd_snoc (b :: L) y x
  show dd (a :: b :: (L ++ [y, x])) = if y = x then dd (a :: b :: (L ++ [y])) else dd (a :: b :: (L ++ [y])) ++ [x]
  rw [dd, dd]
  simp only [List.cons_append] at ih
  rw [ih]
  by_cases h : y = x <;> by_cases h2 : a = b <;> simp [h, h2]
theorem take_snoc2 {α : Type} {l : List α} {k : Nat} {y x : α} (hy : l[k]? = some y) (hx : l[k + 1]? = some x) : l.take (k + 2) = l.take k ++ [y, x] ∧ l.take (k + 1) = l.take k ++ [y] := by
 have h1 : l.take (k + 1) = l.take k ++ [y] := by rw [List.take_add_one, hy]; rfl
 refine ⟨?_, h1⟩
 rw [List.take_add_one, hx, h1]; simp
theorem dd_take {α : Type} [DecidableEq α] {l : List α} {k : Nat} {y x : α} (hy : l[k]? = some y) (hx : l[k + 1]? = some x) : dd (l.take (k + 2)) = if y = x then dd (l.take (k + 1)) else dd (l.take (k + 1)) ++ [x] := by
 obtain ⟨h1, h2⟩ := take_snoc2 hy hx
 rw [h1, h2, dd_snoc]
theorem dd_same {α : Type} [DecidableEq α] (l : List α) : ∀ k, k ≤ l.length → (∀ j, j + 1 < k → l[j]? ≠ l[j + 1]?) → dd (l.take k) = l.take k
 | 0, _, _ => by simp [dd]
 | 1, _, _ => by
  cases l with
  | nil => simp [dd]
  | cons a l => simp [dd]
 | k + 2, hk, h => by
  have hy : l[k]? = some l[k] := List.getElem?_eq_getElem (by omega)
  have hx : l[k + 1]? = some l[k + 1] := List.getElem?_eq_getElem (by omega)
  have h1 := h k (by omega)
  rw [hy, hx] at h1
  rw [dd_take hy hx, if_neg (fun e => h1 (by rw [e])), dd_same l (k + 1) (by omega) (fun j hj => h j (by omega)), (take_snoc2 hy hx).2]
  refine Eq.trans ?_ (take_snoc2 hy hx).1.symm
  rw [List.append_assoc]; rfl
theorem dd_len {α : Type} [DecidableEq α] : ∀ l : List α, (dd l).length ≤ l.length
 | [] => Nat.le_refl _
 | [_] => Nat.le_refl _
 | x :: y :: l => by
  have ih := dd_len (y :: l)
  rw [dd]
  split
  · simp only [List.length_cons] at ih ⊢; omega
  · simp only [List.length_cons] at ih ⊢; omega
theorem dd_mem {α : Type} [DecidableEq α] (z : α) : ∀ l : List α, z ∈ dd l ↔ z ∈ l
 | [] => Iff.rfl
 | [_] => Iff.rfl
 | x :: y :: l => by
  have ih := dd_mem z (y :: l)
  rw [dd]
  split
  · rename_i h
    rw [ih, h]; simp
  · simp only [List.mem_cons] at ih ⊢
    rw [ih]
structure CmI {α : Type} [DecidableEq α] (l : List α) (m kw : Nat) (C : List α) : Prop where
 len : C.length = l.length
 kwe : kw = (dd (l.take m)).length
 pre : C.take kw = dd (l.take m)
 less : kw + 1 ≤ m
 rest : ∀ j, m ≤ j + 1 → C[j]? = l[j]?
theorem CmI.start {α : Type} [DecidableEq α] {l : List α} {k : Nat} {y x : α} (hne : ∀ j, j + 1 < k + 1 → l[j]? ≠ l[j + 1]?) (hy : l[k]? = some y) (hx : l[k + 1]? = some x) (he : y = x) : CmI l (k + 2) (k + 1) l := by
 have hl : k + 1 < l.length := (List.getElem?_eq_some_iff.1 hx).1
 have h1 : dd (l.take (k + 2)) = l.take (k + 1) := by rw [dd_take hy hx, if_pos he, dd_same l (k + 1) (by omega) hne]
 refine ⟨rfl, ?_, ?_, by omega, fun _ _ => rfl⟩
 · rw [h1, List.length_take]; omega
 · rw [h1]
theorem CmI.skip {α : Type} [DecidableEq α] {l C : List α} {m kw : Nat} {y x : α} (h : CmI l (m + 1) kw C) (hy : l[m]? = some y) (hx : l[m + 1]? = some x) (he : y = x) : CmI l (m + 2) kw C := by
 have h1 := dd_take hy hx
 rw [if_pos he] at h1
 exact ⟨h.len, by rw [h1]; exact h.kwe, by rw [h1]; exact h.pre, by have := h.less; omega, fun j hj => h.rest j (by omega)⟩
theorem CmI.keep {α : Type} [DecidableEq α] {l C : List α} {m kw : Nat} {y x : α} (h : CmI l (m + 1) kw C) (hy : l[m]? = some y) (hx : l[m + 1]? = some x) (he : y ≠ x) : CmI l (m + 2) (kw + 1) (C.set kw x) := by
 have hl : m + 1 < l.length := (List.getElem?_eq_some_iff.1 hx).1
 have h1 := dd_take hy hx
 rw [if_neg he] at h1
 have h2 := h.less
 refine ⟨by rw [List.length_set, h.len], ?_, ?_, by omega, fun j hj => ?_⟩
 · rw [h1, List.length_append, ← h.kwe]; rfl
 · rw [h1, ← h.pre]
   apply List.ext_getElem?
   intro i
   rcases Nat.lt_trichotomy i kw with hi | hi | hi
   · rw [List.getElem?_take_of_lt (by omega), List.getElem?_set_ne (by omega), List.getElem?_append_left (by rw [List.length_take, h.len]; omega), List.getElem?_take_of_lt hi]
   · subst hi
     rw [List.getElem?_take_of_lt (by omega), List.getElem?_set_self (by rw [h.len]; omega), List.getElem?_append_right (by rw [List.length_take, h.len]; omega), List.length_take, h.len, Nat.min_eq_left (by omega), Nat.sub_self]
     rfl
   · rw [List.getElem?_take_eq_none (by omega), List.getElem?_eq_none (by rw [List.length_append, List.length_take, h.len, List.length_singleton]; omega)]
 · rw [List.getElem?_set_ne (by omega)]; exact h.rest j (by omega)
theorem dd_short {α : Type} [DecidableEq α] (l : List α) (h : l.length < 2) : dd l = l := by
 match l, h with
 | [], _ => rfl
 | [_], _ => rfl
 | _ :: _ :: _, h => simp at h; omega
end Go.Proofs.YthfnphcefkdgbaaGreat
end
section
namespace Go.Proofs.YthfnphcefkdgbaaGreat
open Go.Shelf
def sortSS_ren : Go.Shelf.Ren := ⟨fun | 6 => 158 | 15 => 147 | 14 => 179 | 28 => 175 | 29 => 176 | 20 => 188 | 21 => 189 | 22 => 190 | 23 => 191 | 24 => 192 | 25 => 193 | 26 => 194 | 27 => 195 | 46 => 199 | 47 => 184 | 48 => 185 | 49 => 200 | 50 => 201 | 57 => 202 | n => n, fun | 22 => 36 | 24 => 9 | 25 => 170 | 3 => 3 | 39 => 177 | 0 => 0 | 53 => 231 | 55 => 233 | 4 => 4 | 46 => 225 | 45 => 224 | 50 => 119 | 5 => 5 | 9 => 9 | 66 => 239 | 70 => 243 | 76 => 252 | 77 => 253 | n => n, fun | n => n⟩
theorem sortSS : Go.Proofs.SlLaysF.n6 Tryz.prog sortSS_ren := {
 mixed := by kernel_rfl
 f6 := ⟨Tryz.f158.name, by decide, Tryz.func158.trans (congrArg some (by kernel_rfl))⟩
 f14 := ⟨Tryz.f179.name, by decide, Tryz.func179.trans (congrArg some (by kernel_rfl))⟩
 f15 := Tryz.func147.trans (congrArg some (by kernel_rfl))
 f20 := ⟨Tryz.f188.name, by decide, Tryz.func188.trans (congrArg some (by kernel_rfl))⟩
 f21 := ⟨Tryz.f189.name, by decide, Tryz.func189.trans (congrArg some (by kernel_rfl))⟩
 f22 := ⟨Tryz.f190.name, by decide, Tryz.func190.trans (congrArg some (by kernel_rfl))⟩
 f23 := ⟨Tryz.f191.name, by decide, Tryz.func191.trans (congrArg some (by kernel_rfl))⟩
 f24 := ⟨Tryz.f192.name, by decide, Tryz.func192.trans (congrArg some (by kernel_rfl))⟩
 f25 := ⟨Tryz.f193.name, by decide, Tryz.func193.trans (congrArg some (by kernel_rfl))⟩
 f26 := ⟨Tryz.f194.name, by decide, Tryz.func194.trans (congrArg some (by kernel_rfl))⟩
 f27 := ⟨Tryz.f195.name, by decide, Tryz.func195.trans (congrArg some (by kernel_rfl))⟩
 f28 := Tryz.func175.trans (congrArg some (by kernel_rfl))
 f29 := Tryz.func176.trans (congrArg some (by kernel_rfl))
 f46 := ⟨Tryz.f199.name, by decide, Tryz.func199.trans (congrArg some (by kernel_rfl))⟩
 f47 := Tryz.func184.trans (congrArg some (by kernel_rfl))
 f48 := Tryz.func185.trans (congrArg some (by kernel_rfl))
 f49 := ⟨Tryz.f200.name, by decide, Tryz.func200.trans (congrArg some (by kernel_rfl))⟩
 f50 := ⟨Tryz.f201.name, by decide, Tryz.func201.trans (congrArg some (by kernel_rfl))⟩
 f57 := ⟨Tryz.f202.name, by decide, Tryz.func202.trans (congrArg some (by kernel_rfl))⟩
 t0 := Tryz.underlying0
 a0 := Tryz.isAgg0
 z0 := Tryz.sizeOf0
 v0 := Tryz.zeroValue0
 t3 := Tryz.underlying3
 a3 := Tryz.isAgg3
 z3 := Tryz.sizeOf3
 v3 := Tryz.zeroValue3
 t4 := Tryz.underlying4
 a4 := Tryz.isAgg4
 z4 := Tryz.sizeOf4
 v4 := Tryz.zeroValue4
 t5 := Tryz.underlying5
 a5 := Tryz.isAgg5
 z5 := Tryz.sizeOf5
 v5 := Tryz.zeroValue5
 t9 := Tryz.underlying9
 a9 := Tryz.isAgg9
 z9 := Tryz.sizeOf9
 v9 := Tryz.zeroValue9
 t22 := Tryz.underlying36
 a22 := Tryz.isAgg36
 z22 := Tryz.sizeOf36
 v22 := Tryz.zeroValue36
 t25 := Tryz.underlying170
 a25 := Tryz.isAgg170
 z25 := Tryz.sizeOf170
 v25 := Tryz.zeroValue170
 t39 := Tryz.underlying177
 a39 := Tryz.isAgg177
 z39 := Tryz.sizeOf177
 v39 := Tryz.zeroValue177
 t45 := Tryz.underlying224
 a45 := Tryz.isAgg224
 z45 := Tryz.sizeOf224
 v45 := Tryz.zeroValue224
 t46 := Tryz.underlying225
 a46 := Tryz.isAgg225
 z46 := Tryz.sizeOf225
 v46 := Tryz.zeroValue225
 t50 := Tryz.underlying119
 a50 := Tryz.isAgg119
 z50 := Tryz.sizeOf119
 v50 := Tryz.zeroValue119
 t53 := Tryz.underlying231
 a53 := Tryz.isAgg231
 z53 := Tryz.sizeOf231
 v53 := Tryz.zeroValue231
 t55 := Tryz.underlying233
 a55 := Tryz.isAgg233
 z55 := Tryz.sizeOf233
 v55 := Tryz.zeroValue233
 t66 := Tryz.underlying239
 a66 := Tryz.isAgg239
 z66 := Tryz.sizeOf239
 v66 := Tryz.zeroValue239
 t70 := Tryz.underlying243
 a70 := Tryz.isAgg243
 z70 := Tryz.sizeOf243
 v70 := Tryz.zeroValue243
 t76 := Tryz.underlying252
 a76 := Tryz.isAgg252
 z76 := Tryz.sizeOf252
 v76 := Tryz.zeroValue252
 t77 := Tryz.underlying253
 a77 := Tryz.isAgg253
 z77 := Tryz.sizeOf253
 v77 := Tryz.zeroValue253
 a24 := Tryz.isAgg9
 z24 := Tryz.sizeOf9 }
end Go.Proofs.YthfnphcefkdgbaaGreat
end
section
namespace Go.Proofs.YthfnphcefkdgbaaGreat
open Go.RowKit Go.Sort Go.Shelf
abbrev Sb : Type := { s : ByteArray // s.size ≤ 1000000 }
instance : Inhabited Sb := ⟨⟨⟨#[]⟩, Nat.zero_le _⟩⟩
def encT (r : Sb) : Value := .string r.1
theorem encT_one : OneCell encT := fun _ => rfl
def SortedS (l : List ByteArray) : Prop := l.Pairwise (fun x y => cmpS x y ≤ 0)
theorem cmpLaysSS (blk off size : Nat) (w : World) : CmpLays1 Tryz.prog 113 #[] encT (fun a b : Sb => cmpS a.1 b.1) blk off size w :=
 fun _ _ _ _ x y => (compareD_any x.1 y.1 _ x.2 y.2).mono fun _ _ ⟨he, hb⟩ => ⟨he, belD_grow hb⟩
theorem heap_sorted1 {w : World} {g n : Nat} {os : Array Obj} {cur : Array Value} {e : TypeId} {fr : Nat × Nat} (d : Array Sb) (hb : w.heap[g]? = some (.cells cur e fr)) :
  (sortWorld encT w g 0 n d os).heap[g]? = some (.cells (putCells encT 0 d cur) e fr) := by
 have hg : g < w.heap.size := (Array.getElem?_eq_some_iff.1 hb).1
 rw [sortWorld, heap_grow_old _ _ (by simpa using hg)]
 simp [putRow, mapBlock, Sort.ahead, Array.getElem?_modify, hb, onCells]
theorem grownBy_sorted1 {w : World} {g n : Nat} {os : Array Obj} (d : Array Sb) : w.grownBy (sortWorld encT w g 0 n d os) (some g) := by
 refine ⟨rfl, rfl, rfl, by simp [sortWorld], fun k hk hne => ?_⟩
 rw [sortWorld, heap_grow_old _ _ (by simpa using hk)]
 have : g ≠ k := fun e => hne (by rw [e])
 simp [putRow, mapBlock, Sort.ahead, Array.getElem?_modify, this]
theorem take_putCells1 (cur : Array Value) (d : Array Sb) (h : d.size ≤ cur.size) : (putCells encT 0 d cur).toList.take d.size = sc (d.toList.map Subtype.val) := by
 apply List.ext_getElem?
 intro j
 by_cases hj : j < d.size
 · rw [List.getElem?_take_of_lt hj, Array.getElem?_toList]
   simp [putCells, hj, show j < cur.size by omega, sc, encT]
 · rw [List.getElem?_take_eq_none (by omega), List.getElem?_eq_none (by simp [sc]; omega)]
theorem sortSS_some (B g n cap : Nat) (l : List ByteArray) (w : World) (hl : ∀ r ∈ l, r.size ≤ 1000000) (hn : l.length = n) (hown : w.ownsRow B 9 1 (.slice (some ⟨g, 0, none⟩) n cap) n (sc l)) (hsz : n ≤ 1000000) :
   Calls Tryz.prog 158 #[.slice (some ⟨g, 0, none⟩) n cap, .func (.func 113) #[] #[]] w fun e w' => e = .returned (.tuple #[]) ∧ ∃ l' : List ByteArray, l'.Perm l ∧ SortedS l' ∧ w'.ownsRow B 9 1 (.slice (some ⟨g, 0, none⟩) n cap) n (sc l') ∧ w.grownBy w' (some g) := by
 obtain ⟨d, hd⟩ : ∃ d : Array Sb, d.toList = l.attach.map (fun x => ⟨x.1, hl x.1 x.2⟩) := ⟨(l.attach.map (fun x => (⟨x.1, hl x.1 x.2⟩ : Sb))).toArray, rfl⟩
 have hdl : d.toList.map Subtype.val = l := by
   rw [hd, List.map_map]
   show l.attach.map (fun x => x.1) = l
   exact List.attach_map_subtype_val l
 have hds : d.size = n := by rw [← hn, ← hdl, List.length_map, Array.length_toList]
 have hlt := (hown.lt g rfl)
 have hH : Holds encT w g 0 d := by
   intro j hj
   rw [hds] at hj
   have h1 := hown.cellAt j (by omega)
   refine ⟨?_, by rw [Nat.zero_add]; exact hown.frozenAt j⟩
   rw [Nat.zero_add, h1, ← hdl, getElem!_pos d j (by omega)]
   simp [sc, encT, show j < d.size by omega]
 have eg : ∀ args w, (callFunc 113 args).run Tryz.prog w = .ok (.enter 113 args) w := enters_of Tryz.func113 (by kernel_rfl) rfl
 have hcon := Any.slices_SortFunc sortSS encT encT_one (fun a b : Sb => cmpS a.1 b.1) (IsPre.comap ord_cmpS.pre Subtype.val).swo 113 #[] g 0 cap d w eg (cmpLaysSS g 0 d.size w) hH hlt.2 (by omega)
 change Calls Tryz.prog 158 _ _ _ at hcon
 rw [hds] at hcon
 refine hcon.mono ?_
 rintro e w' ⟨rfl, d', m, os, hp, hs, rfl⟩
 have hds' : d'.size = n := by rw [hp.1, hds]
 refine ⟨rfl, d'.toList.map Subtype.val, ?_, ?_, ?_, grownBy_sorted1 _⟩
 · rw [← hdl]
   refine List.Perm.map _ ?_
   have h3 := hp.2.2
   rw [show n = d'.size from hds'.symm, Array.extract_size] at h3
   rw [show d'.size = d.size by omega, Array.extract_size] at h3
   exact h3
 · rw [SortedS, List.pairwise_map, List.pairwise_iff_getElem]
   intro i j hi hj hij
   rw [Array.length_toList] at hi hj
   have h3 := hs i j (Nat.zero_le _) hij (by omega)
   rw [getElem!_pos d' i hi, getElem!_pos d' j hj] at h3
   have h4 : ¬ cmpS d'[j].1 d'[i].1 < 0 := of_decide_eq_false h3
   have h5 := ord_cmpS.anti d'[j].1 d'[i].1
   rw [Array.getElem_toList, Array.getElem_toList]
   omega
 · rcases hown.2 with ⟨h', _⟩ | ⟨g', cap', cur, h', hb, hgg, hnc, hcm, hcs, htake⟩
   · cases h'
   · injection h' with h1 h2 h3
     injection h1 with h1
     injection h1 with h1
     subst h1 h3
     refine ⟨by simp [sc, hds'], Or.inr ⟨g, cap, _, rfl, hb, heap_sorted1 _ hgg, hnc, hcm, by simp [putCells, hcs], ?_⟩⟩
     rw [Nat.mul_one, ← hds']
     exact take_putCells1 cur d' (by omega)
theorem sortSS_none (p : Option Addr) (cap : Nat) (fv : Value) (w : World) : Calls Tryz.prog 158 #[.slice p 0 cap, fv] w fun e w' => e = .returned (.tuple #[]) ∧ w' = w := by
 have h := AnyF.slices_SortFunc_none { sortSS with } p cap fv w
 change Calls Tryz.prog 158 _ _ _ at h
 exact h
end Go.Proofs.YthfnphcefkdgbaaGreat
end
section
namespace Go.Proofs.YthfnphcefkdgbaaGreat
open Go.RowKit
theorem slice_headK {T E : TypeId} {i : TypeInfo} {size : Nat} (hu : Tryz.prog.underlying T = some (.slice E)) (hi : Tryz.prog.info? E = some i) (hz : i.size = size) (av : Option Addr) (n cap h : Nat) (hav : av = none ∧ n = 0 ∧ cap = 0 ∨ ∃ β off, av = some ⟨β, off, none⟩) (h2 : h ≤ cap) (W : World) : (Instr.slice T (.slice av n cap) none (some (.int .i64 (h : Int))) none).run Tryz.prog W = .ok (.slice av h cap) W := by
 have he : Tryz.prog.elem T = E := by simp [Program.elem, hu]
 have hu' : Tryz.prog.underlying T = some (.slice (Tryz.prog.elem T)) := by rw [he]; exact hu
 rw [run_slice_h (P := Tryz.prog) (w := W) T av n cap hu' .i64 _ (by omega) (by omega), he]
 rcases hav with ⟨rfl, rfl, rfl⟩ | ⟨β, off, rfl⟩
 · simp [sizeOf, typeInfo, hi, hz, Result.andThen, sliced]
 · simp [sizeOf, typeInfo, hi, hz, Result.andThen, sliced, Addr.add]
theorem slice_tailK {T E : TypeId} {i : TypeInfo} {size : Nat} (hu : Tryz.prog.underlying T = some (.slice E)) (hi : Tryz.prog.info? E = some i) (hz : i.size = size) (av : Option Addr) (n cap l : Nat) (hav : av = none ∧ n = 0 ∧ cap = 0 ∨ ∃ β off, av = some ⟨β, off, none⟩) (h1 : l ≤ n) (h2 : n ≤ cap) :
   ∃ ad : Option Addr, (∀ W, (Instr.slice T (.slice av n cap) (some (.int .i64 (l : Int))) none none).run Tryz.prog W = .ok (.slice ad (n - l) (cap - l)) W) ∧ (ad = none → n - l = 0 ∧ cap - l = 0) ∧ (l < n → ∀ β off, av = some ⟨β, off, none⟩ → ad = some ⟨β, off + l * size, none⟩) := by
 have he : Tryz.prog.elem T = E := by simp [Program.elem, hu]
 have hu' : Tryz.prog.underlying T = some (.slice (Tryz.prog.elem T)) := by rw [he]; exact hu
 refine ⟨if cap = l then av else av.map (·.add (l * size)), fun W => ?_, fun h3 => ?_, fun h3 β off h4 => ?_⟩
 · rw [run_slice_l (P := Tryz.prog) (w := W) T av n cap hu' .i64 (l : Int) (by omega) (by omega), he]
   simp [sizeOf, typeInfo, hi, hz, Result.andThen, sliced]
 · rcases hav with ⟨rfl, rfl, rfl⟩ | ⟨β, off, rfl⟩
   · omega
   · split at h3 <;> simp at h3
 · subst h4
   rw [if_neg (by omega), Option.map_some, Addr.add_mid]
end Go.Proofs.YthfnphcefkdgbaaGreat
end
section
namespace Go.Proofs.YthfnphcefkdgbaaGreat
open Go.RowKit
theorem sc_set (l : List ByteArray) (k : Nat) (x : ByteArray) : (sc l).set k (.string x) = sc (l.set k x) := by rw [sc, sc, List.map_set]
theorem sc_take (l : List ByteArray) (k : Nat) : (sc l).take k = sc (l.take k) := by rw [sc, sc, List.map_take]
theorem info_parts1 : ∃ i, Tryz.prog.info? 9 = some i ∧ i.zero = some (.string ⟨#[]⟩) ∧ i.size = 1 ∧ i.bytes = 16 := by
 have h : (Tryz.prog.info? 9).map (fun i => (i.zero, i.size, i.bytes)) = some (some (.string ⟨#[]⟩), 1, 16) := by kernel_rfl
 exact info_parts h
theorem toList_injS {s t : ByteArray} (h : s.toList = t.toList) : s = t := by
 have h2 : s.data.toList = t.data.toList := (bs_toList s.data.toList).symm.trans (Eq.trans h (bs_toList t.data.toList))
 exact ByteArray.ext (Array.toList_inj.1 h2)
theorem own_someS {w : World} {B g n c : Nat} {l : List ByteArray} (h : w.ownsRow B 9 1 (.slice (some ⟨g, 0, none⟩) n c) n (sc l)) (j : Nat) (hj : j < n) : ∃ v, w.cell? ⟨g, j, none⟩ = some v := by
 have hl : l.length = n := by have := h.1; rw [sc, List.length_map] at this; omega
 exact ⟨_, ownsRow_at h j _ (by rw [sc, List.getElem?_map, List.getElem?_eq_getElem (by omega)]; rfl)⟩
theorem clear_tailS {w : World} {B g n c : Nat} {xs : List Value} (h : w.ownsRow B 9 1 (.slice (some ⟨g, 0, none⟩) n c) n xs) (k : Nat) (hk : k < n) (ad : Option Addr) (had : ad = some ⟨g, 0 + k * 1, none⟩) :
   ∃ w', (∀ ty, (Builtin.clear_ #[36] ty #[.slice ad (n - k) (c - k)]).run Tryz.prog w = .ok (.tuple #[]) w') ∧ w'.ownsRow B 9 1 (.slice (some ⟨g, 0, none⟩) k c) k (xs.take k) ∧ w.grownBy w' (some g) := by
 subst had
 have h0 := h.1
 have hz : (Builtin.zeroCells (Value.string ⟨#[]⟩).cells (n - k)).toList = List.replicate (n - k) (Value.string ⟨#[]⟩) := by
   apply List.ext_getElem?
   intro i
   by_cases hi : i < n - k
   · simp [Builtin.zeroCells, Value.cells, hi, Nat.mod_one]
   · rw [List.getElem?_eq_none (by simp [Builtin.zeroCells, Value.cells]; omega), List.getElem?_eq_none (by simp; omega)]
 rcases h.2 with ⟨h', _⟩ | ⟨g', cap', cur, h', hb, hg, hnc, hcm, hcs, htake⟩
 · cases h'
 injection h' with h1 h2 h3
 injection h1 with h1
 injection h1 with h1
 subst h1 h3
 have hzl : (List.replicate (n - k) (Value.string ⟨#[]⟩)).length = n - k := List.length_replicate ..
 have hst := run_storeCells_at (P := Tryz.prog) g (0 + k * 1) 9 (List.replicate (n - k) (Value.string ⟨#[]⟩)) 0 cur w hg (by rw [hzl]; omega) (fun u hu => by rw [List.eq_of_mem_replicate hu]; rfl)
 obtain ⟨nr, hnr⟩ : ∃ nr, nr = (List.take (0 + k * 1 + 0) cur.toList ++ List.replicate (n - k) (Value.string ⟨#[]⟩) ++ List.drop (0 + k * 1 + 0 + (List.replicate (n - k) (Value.string ⟨#[]⟩)).length) cur.toList).toArray := ⟨_, rfl⟩
 rw [← hnr] at hst
 have hnl : nr.size = c * 1 := by
   rw [hnr]
   simp only [List.size_toArray, List.length_append, List.length_take, List.length_drop, hzl, Array.length_toList, hcs]
   omega
 have hnt : nr.toList.take (k * 1) = xs.take k := by
   rw [hnr, List.append_assoc, List.take_append_of_le_length (by rw [List.length_take, Array.length_toList]; omega), ← htake, List.take_take, List.take_take, Nat.zero_add, Nat.add_zero, Nat.min_self, Nat.min_eq_left (by omega), Nat.mul_one]
 obtain ⟨m, hm⟩ : ∃ m, n - k = m + 1 := ⟨n - k - 1, by omega⟩
 refine ⟨w.setRow g nr, fun ty => ?_, ⟨?_, Or.inr ⟨g, c, nr, rfl, hb, setRow_heap w g cur nr _ _ hg, by omega, hcm, hnl, hnt⟩⟩, ⟨rfl, rfl, rfl, by simp [World.setRow], fun j _ hj => setRow_other w g j _ (fun e => hj (by rw [e]))⟩⟩
 · clear hnr hnl hnt hzl
   generalize List.replicate (n - k) (Value.string ⟨#[]⟩) = fr at hz hst
   rw [hm] at hz ⊢
   rw [Nat.zero_add] at hst
   rw [Nat.mul_one] at hst
   simp [Builtin.clear_, run_underlying Tryz.underlying36, Tryz.zeroValue9, hz, hst]
 · rw [List.length_take, h0]; omega
theorem own_atS {w : World} {B g n c : Nat} {l : List ByteArray} (h : w.ownsRow B 9 1 (.slice (some ⟨g, 0, none⟩) n c) n (sc l)) (j : Nat) (x : ByteArray) (hj : l[j]? = some x) : w.cell? ⟨g, j, none⟩ = some (.string x) :=
 ownsRow_at h j _ (by rw [sc, List.getElem?_map, hj]; rfl)
set_option maxRecDepth 100000 in
set_option maxHeartbeats 4000000 in
theorem compactS_any (B g n c : Nat) (l : List ByteArray) (w : World) (hown : w.ownsRow B 9 1 (.slice (some ⟨g, 0, none⟩) n c) n (sc l)) (hn : n ≤ 1000000) :
   Calls Tryz.prog 159 #[.slice (some ⟨g, 0, none⟩) n c] w fun e w' => ∃ m, m = (dd l).length ∧ e = .returned (.slice (some ⟨g, 0, none⟩) m c) ∧ w'.ownsRow B 9 1 (.slice (some ⟨g, 0, none⟩) m c) m (sc (dd l)) ∧ w.grownBy w' (some g) := by
 have hl : l.length = n := by have := hown.1; rw [sc, List.length_map] at this; omega
 have hnc : n ≤ c := by
   rcases hown.2 with ⟨hv, _⟩ | ⟨g', cap, cur, hv, _, _, hnc, _⟩
   · cases hv
   · injection hv with h1 h2 h3
     subst h3; exact hnc
 have HL := Lib.hid hl
 have HC := Lib.hid hnc
 have HO := Lib.hid hown
 have HG := Lib.hid (bel_grown (Below.refl w.heap.size w) (some g))
 by_cases h2 : n < 2
 · have hd := dd_short l (by omega)
   have d1 : decide (n < 2) = true := dT h2
   have d2 : decide ((n : Int) < 2) = true := dT (by omega)
   have HP := Lib.hid (show ∃ m, m = (dd l).length ∧ Ending.returned (.slice (some ⟨g, 0, none⟩) n c) = .returned (.slice (some ⟨g, 0, none⟩) m c) ∧ w.ownsRow B 9 1 (.slice (some ⟨g, 0, none⟩) m c) m (sc (dd l)) ∧ w.grownBy w (some g) from ⟨n, by rw [hd, hl], rfl, by rw [hd]; exact hown, HG.out⟩)
   clear hd hl hnc hown h2
   go_enter Tryz.func159, Tryz.ntmps159
   go_wp2
   go_ret
   exact HP.out
 have d1 : decide (n < 2) = false := dF h2
 have d2 : decide ((n : Int) < 2) = false := dF (by omega)
 have HN2 := Lib.hid (show 2 ≤ n by omega)
 obtain ⟨i0, hi, hz0, hz1, hz2⟩ := info_parts1
 have HI := Lib.hid hi
 have HZ1 := Lib.hid hz1
 clear hl hnc hown h2 hi hz0 hz1 hz2
 go_enter Tryz.func159, Tryz.ntmps159
 go_wp2_with fail
 clear d1 d2
 go_loopw [3] (fun i wr => ∃ k : Nat, 1 ≤ k ∧ k ≤ n ∧ i = .int .i64 k ∧ Hid (∀ j, j + 1 < k → l[j]? ≠ l[j + 1]?) ∧ Hid (wr.ownsRow B 9 1 (.slice (some ⟨g, 0, none⟩) n c) n (sc l)) ∧ Hid (w.grownBy wr (some g))) (fun i _ => n - (intOf i).toNat)
 case atStart => exact ⟨1, Nat.le_refl _, by have := HN2.out; omega, rfl, Lib.hid (fun j hj => by omega), HO, HG⟩
 case round =>
   obtain ⟨k, hk1, hk, rfl, hne, ho, hgr⟩ := hrel
   by_cases hlt : k < n
   · obtain ⟨k0, rfl⟩ : ∃ k0, k = k0 + 1 := ⟨k - 1, by omega⟩
     obtain ⟨y, hy⟩ : ∃ y, l[k0]? = some y := ⟨_, List.getElem?_eq_getElem (by rw [HL.out]; omega)⟩
     obtain ⟨x, hx⟩ : ∃ x, l[k0 + 1]? = some x := ⟨_, List.getElem?_eq_getElem (by rw [HL.out]; omega)⟩
     have HY := Lib.hid hy
     have HX := Lib.hid hx
     obtain ⟨k1, hk1e⟩ : ∃ k1, k0 + 1 = k1 := ⟨_, rfl⟩
     have HK1 := Lib.hid hk1e
     have hbd := (Below.refl wr.heap.size wr).drew
     have C1 := Lib.hid (show wr.drew.cell? ⟨g, k1, none⟩ = some (.string x) from (hbd.cell (ho.out.lt g rfl).2).trans (own_atS ho.out k1 x (by rw [← hk1e]; exact hx)))
     have C0 := Lib.hid (show wr.drew.cell? ⟨g, k0, none⟩ = some (.string y) from (hbd.cell (ho.out.lt g rfl).2).trans (own_atS ho.out k0 y hy))
     have HO2 := Lib.hid (own_below' ho.out hbd)
     have HG2 := Lib.hid (hgr.out.trans (bel_grown hbd (some g)))
     rw [hk1e] at hlt ⊢
     have f1 : (k1 : Int) - 1 = (k0 : Int) := by omega
     have f2 : IntKind.i64.wrap (k0 : Int) = (k0 : Int) := by have := hn; rw [IntKind.wrap_i64]; omega
     have i0' : (0 : Int) ≤ (k0 : Int) := by omega
     have i1 : (0 : Int) ≤ (k1 : Int) := by omega
     have i2 : (k1 : Int) < (n : Int) := by omega
     have i3 : (k0 : Int) < (n : Int) := by omega
     have HLT := Lib.hid hlt
     obtain ⟨v, hv⟩ : ∃ v, (x.toList == y.toList) = v := ⟨_, rfl⟩
     have HV := Lib.hid hv
     clear hx hy hbd hk1e ho hgr hk hk1
     go_upto_region 6 with (fail)
     refine wp_region_held_drew (S := (fun wx => wx.cell? ⟨g, k1, none⟩ = some (.string x) ∧ wx.cell? ⟨g, k0, none⟩ = some (.string y))) (by kernel_rfl) (⟨C1.out, C0.out⟩) (fun hHeld => ?_)
     refine Plan.of [0, 1, 2, 3, 4, 5, 6, 7, 8, 9] ?_
     iterate 10 (refine Plan.w (v := ?_) rfl hHeld (by rfl) ?_ ?_; rotate_left; (focus (intro w hSw; (try dsimp only at hSw); go_simp; try with_reducible rfl)); try simp only [Act.put, List.setIfInBounds_toArray, List.set_cons_zero, List.set_cons_succ])
     refine Plan.fin ?_
     refine wpAnyH_done (by kernel_rfl) ?_ _
     clear hHeld C1 C0 f1 f2 i0' i3 hv
     cases v
     case false =>
      have hxy : ¬ y = x := fun e => by have h := HV.out; rw [e] at h; simp at h
      have HNE := Lib.hid (show ∀ j, j + 1 < k1 + 1 → l[j]? ≠ l[j + 1]? from fun j hj => by
        by_cases h : j = k0
        · subst h
          rw [HY.out, HX.out]
          intro e
          exact hxy (Option.some.inj e)
        · exact hne.out j (by have := HK1.out; omega))
      clear hxy hne
      go_wp2
      go_roundw
      case rel => exact ⟨k1 + 1, by omega, by have := HLT.out; omega, by have := HLT.out; go_num, HNE, HO2, HG2⟩
      case measure => have := HLT.out; simp [intOf]; omega
     have hxy : y = x := toList_injS (beq_iff_eq.1 HV.out).symm
     have HS := Lib.hid (show CmI l (k0 + 2) (k0 + 1) l from CmI.start (fun j hj => hne.out j (by have := HK1.out; omega)) HY.out HX.out hxy)
     have hck : ¬ c = k1 := by have := HC.out; have := HLT.out; omega
     clear hxy hne
     go_wp2_with fail
     obtain ⟨n1, hn1⟩ : ∃ x, n - k1 = x := ⟨_, rfl⟩
     obtain ⟨c1, hc1⟩ : ∃ x, c - k1 = x := ⟨_, rfl⟩
     have HN1 := Lib.hid hn1
     rw [hn1, hc1]
     have HLE := Lib.hid (show l.length = n from HL.out)
     clear hn1 hc1 hck
     go_loopw [3, 5] (fun i j wr => ∃ (kw k2 : Nat) (C : List ByteArray), 1 ≤ k2 ∧ k2 ≤ n1 ∧ kw < n ∧ i = .int .i64 kw ∧ j = .int .i64 k2 ∧ Hid (CmI l (k1 + k2) kw C) ∧ Hid (wr.ownsRow B 9 1 (.slice (some ⟨g, 0, none⟩) n c) n (sc C)) ∧ Hid (w.grownBy wr (some g))) (fun _ j _ => n1 - (intOf j).toNat)
     case atStart => exact ⟨k1, 1, l, Nat.le_refl _, by have := HN1.out; have := HLT.out; omega, HLT.out, rfl, rfl, Lib.hid (by have h := HS.out; have := HK1.out; rw [show k1 + 1 = k0 + 2 by omega, ← HK1.out]; exact h), HO2, HG2⟩
     case round =>
      obtain ⟨kw, k2, C, hk21, hk2, hkw, rfl, rfl, hcm, ho, hgr⟩ := hrel
      by_cases hlt2 : k2 < n1
      · obtain ⟨k3, rfl⟩ : ∃ k3, k2 = k3 + 1 := ⟨k2 - 1, by omega⟩
        obtain ⟨y2, hy2⟩ : ∃ y, l[k1 + k3]? = some y := ⟨_, List.getElem?_eq_getElem (by rw [HLE.out]; have := HN1.out; omega)⟩
        obtain ⟨x2, hx2⟩ : ∃ x, l[k1 + k3 + 1]? = some x := ⟨_, List.getElem?_eq_getElem (by rw [HLE.out]; have := HN1.out; omega)⟩
        have HY2 := Lib.hid hy2
        have HX2 := Lib.hid hx2
        have hcx := (hcm.out.rest (k1 + k3 + 1) (by omega)).trans hx2
        have hcy := (hcm.out.rest (k1 + k3) (by omega)).trans hy2
        obtain ⟨k4, hk4⟩ : ∃ k4, k3 + 1 = k4 := ⟨_, rfl⟩
        have HK4 := Lib.hid hk4
        have hbd := (Below.refl wr.heap.size wr).drew
        have C1 := Lib.hid (show wr.drew.cell? ⟨g, k1 + k4, none⟩ = some (.string x2) from (hbd.cell (ho.out.lt g rfl).2).trans (own_atS ho.out (k1 + k4) x2 (by rw [← hk4]; exact hcx)))
        have C0 := Lib.hid (show wr.drew.cell? ⟨g, k1 + k3, none⟩ = some (.string y2) from (hbd.cell (ho.out.lt g rfl).2).trans (own_atS ho.out (k1 + k3) y2 hcy))
        have HO2 := Lib.hid (own_below' ho.out hbd)
        have HG2 := Lib.hid (hgr.out.trans (bel_grown hbd (some g)))
        rw [hk4] at hlt2 ⊢
        have f1 : (k4 : Int) - 1 = (k3 : Int) := by omega
        have f2 : IntKind.i64.wrap (k3 : Int) = (k3 : Int) := by have := hn; have := HN1.out; rw [IntKind.wrap_i64]; omega
        have i0' : (0 : Int) ≤ (k3 : Int) := by omega
        have i1 : (0 : Int) ≤ (k4 : Int) := by omega
        have i2 : (k4 : Int) < (n1 : Int) := by omega
        have i3 : (k3 : Int) < (n1 : Int) := by omega
        have HLT2 := Lib.hid hlt2
        have HKW := Lib.hid hkw
        obtain ⟨v, hv⟩ : ∃ v, (x2.toList == y2.toList) = v := ⟨_, rfl⟩
        have HV := Lib.hid hv
        clear hx2 hy2 hcx hcy hbd hk4 ho hgr hk2 hk21
        go_upto_region 11 with (fail)
        refine wp_region_held_drew (S := (fun wx => wx.cell? ⟨g, k1 + k4, none⟩ = some (.string x2) ∧ wx.cell? ⟨g, k1 + k3, none⟩ = some (.string y2))) (by kernel_rfl) (⟨C1.out, C0.out⟩) (fun hHeld => ?_)
        refine Plan.of [0, 1, 2, 3, 4, 5, 6, 7, 8, 9] ?_
        iterate 10 (refine Plan.w (v := ?_) rfl hHeld (by rfl) ?_ ?_; rotate_left; (focus (intro w hSw; (try dsimp only at hSw); go_simp; try with_reducible rfl)); try simp only [Act.put, List.setIfInBounds_toArray, List.set_cons_zero, List.set_cons_succ])
        refine Plan.fin ?_
        refine wpAnyH_done (by kernel_rfl) ?_ _
        clear hHeld C0 f1 f2 i0' i3 hv
        cases v
        case true =>
          have hxy : y2 = x2 := toList_injS (beq_iff_eq.1 HV.out).symm
          have HD := Lib.hid (show CmI l (k1 + (k4 + 1)) kw C by
           have h := CmI.skip (m := k1 + k3) (by have h := hcm.out; exact h) HY2.out HX2.out hxy
           have := HK4.out
           rw [show k1 + (k4 + 1) = k1 + k3 + 2 by omega]; exact h)
          have hb4 : (k4 : Int) ≤ 1000000 := by have := HN1.out; have := HLT2.out; omega
          clear hxy hcm C1
          go_wp2
          go_roundw
          case rel => exact ⟨kw, k4 + 1, C, by omega, by have := HLT2.out; omega, HKW.out, rfl, by have := HLT2.out; have := HN1.out; have := hn; go_num, HD, HO2, HG2⟩
          case measure => have := HLT2.out; simp [intOf]; omega
        have hxy : ¬ y2 = x2 := fun e => by have h := HV.out; rw [e] at h; simp at h
        have HD := Lib.hid (show CmI l (k1 + (k4 + 1)) (kw + 1) (C.set kw x2) by
          have h := CmI.keep (m := k1 + k3) (by have h := hcm.out; exact h) HY2.out HX2.out hxy
          have := HK4.out
          rw [show k1 + (k4 + 1) = k1 + k3 + 2 by omega]; exact h)
        have HKW2 := Lib.hid (show kw + 1 < n by have h := HD.out.less; have := HN1.out; have := HLT2.out; omega)
        have i5 : (0 : Int) ≤ (kw : Int) := by omega
        have i6 : (kw : Int) < (n : Int) := by omega
        clear hxy hcm
        have HS := Lib.hid (HO2.out.stored kw (.string x2))
        have hf := HO2.out.frozenAt kw
        obtain ⟨v0, hv0⟩ : ∃ v, wr.drew.cell? ⟨g, kw, none⟩ = some v := own_someS HO2.out kw HKW.out
        have c1' := C1.out
        have hb4 : (k4 : Int) ≤ 1000000 := by have := HN1.out; have := HLT2.out; omega
        have HO4 := Lib.hid (by have h := HS.out.1; rw [sc_set] at h; exact h)
        have HG4 := Lib.hid (HG2.out.trans (grown_cell _ g kw (.string x2)))
        clear HS HO2 HG2 C1
        go_wp2
        go_roundw
        case rel => exact ⟨kw + 1, k4 + 1, C.set kw x2, by omega, by have := HLT2.out; omega, HKW2.out, by have := HKW2.out; have := hn; go_num, by have := HLT2.out; have := HN1.out; have := hn; go_num, HD, HO4, HG4⟩
        case measure => have := HLT2.out; simp [intOf]; omega
      · have hk2n : k1 + k2 = n := by have := HN1.out; have := HLT.out; omega
        have hd := hcm.out
        rw [hk2n, ← HLE.out] at hd
        have hp := hd.pre
        have hke := hd.kwe
        rw [List.take_length] at hp hke
        obtain ⟨ad, hrun, hdn, hds⟩ := slice_tailK Tryz.underlying36 HI.out HZ1.out (some ⟨g, 0, none⟩) n c kw (Or.inr ⟨g, 0, rfl⟩) (by omega) HC.out
        have had := hds hkw g 0 rfl
        obtain ⟨wz, hcl, hoz, hgz⟩ := clear_tailS ho.out kw hkw ad had
        have hhd := slice_headK Tryz.underlying36 HI.out HZ1.out (some ⟨g, 0, none⟩) n c kw (Or.inr ⟨g, 0, rfl⟩) (by have := HC.out; omega)
        rw [sc_take, hp] at hoz
        have HP := Lib.hid (show ∃ m, m = (dd l).length ∧ Ending.returned (.slice (some ⟨g, 0, none⟩) kw c) = .returned (.slice (some ⟨g, 0, none⟩) m c) ∧ wz.ownsRow B 9 1 (.slice (some ⟨g, 0, none⟩) m c) m (sc (dd l)) ∧ w.grownBy wz (some g) from ⟨kw, hke, rfl, hoz, hgr.out.trans hgz⟩)
        have i5 : (0 : Int) ≤ (kw : Int) := by omega
        clear hd hp hke ho hgr hds had hdn hoz hgz hcm hk2n
        go_wp2
        go_ret
        exact HP.out
   · have hkn : k = n := by omega
     have hd : dd l = l := by
      have h := dd_same l k (by rw [HL.out]; omega) hne.out
      rwa [hkn, ← HL.out, List.take_length] at h
     have HP := Lib.hid (show ∃ m, m = (dd l).length ∧ Ending.returned (.slice (some ⟨g, 0, none⟩) n c) = .returned (.slice (some ⟨g, 0, none⟩) m c) ∧ wr.ownsRow B 9 1 (.slice (some ⟨g, 0, none⟩) m c) m (sc (dd l)) ∧ w.grownBy wr (some g) from ⟨n, by rw [hd, HL.out], rfl, by rw [hd]; exact ho.out, hgr.out⟩)
     clear hd hkn hne ho hgr
     go_wp2
     go_ret
     exact HP.out
end Go.Proofs.YthfnphcefkdgbaaGreat
end
section
namespace Go.Proofs.YthfnphcefkdgbaaGreat
open Go.RowKit
def tgL (s : SetP) : List ByteArray := if s.k.t = 2 then s.data.filter (fun d => tgB 2 d) else []
def nsD (L : List SetP) : List ByteArray := L.flatMap tgL
def TgOf (L : List SetP) (T : List ByteArray) : Prop := T.Pairwise (fun x y => cmpS x y < 0) ∧ ∀ x, x ∈ T ↔ x ∈ nsD L
theorem TgOf.uniq {L : List SetP} {T U : List ByteArray} (h : TgOf L T) (k : TgOf L U) : T = U :=
 pw_ext (f := cmpS) (fun _ _ => ord_cmpS.anti _ _) h.1 k.1 (fun x => (h.2 x).trans (k.2 x).symm)
theorem dd_strict {α : Type} [DecidableEq α] {f : α → α → Int} (hf : IsOrd f) : ∀ l : List α, l.Pairwise (fun x y => f x y ≤ 0) → (dd l).Pairwise (fun x y => f x y < 0)
 | [], _ => List.Pairwise.nil
 | [_], _ => List.pairwise_singleton _ _
 | x :: y :: l, h => by
  have ih := dd_strict hf (y :: l) (List.pairwise_cons.1 h).2
  have h1 := (List.pairwise_cons.1 h).1
  have h2 := (List.pairwise_cons.1 (List.pairwise_cons.1 h).2).1
  rw [dd]
  split
  · exact ih
  · rename_i hne
    refine List.pairwise_cons.2 ⟨fun z hz => ?_, ih⟩
    rw [dd_mem] at hz
    have hxz := h1 z hz
    have hxy := h1 y (by simp)
    have hn : f x z ≠ 0 := by
     intro e
     have e2 := (hf.zero x z).1 e
     have hyz : f y z ≤ 0 := by
      rcases List.mem_cons.1 hz with rfl | hz
      · have := (hf.zero z z).2 rfl; omega
      · exact h2 z hz
     rw [← e2] at hyz
     have h3 := hf.anti x y
     exact hne ((hf.zero x y).1 (by omega))
    omega
theorem tgOf_dd {L : List SetP} {l : List ByteArray} (hp : l.Perm (nsD L)) (hs : l.Pairwise (fun x y => cmpS x y ≤ 0)) : TgOf L (dd l) :=
 ⟨dd_strict ord_cmpS l hs, fun x => (dd_mem x l).trans hp.mem_iff⟩
theorem nsD_snoc {L : List SetP} {k : Nat} {s : SetP} (h : L[k]? = some s) : nsD (L.take (k + 1)) = nsD (L.take k) ++ tgL s := by
 rw [nsD, nsD, List.take_add_one, h, List.flatMap_append]; simp
theorem tgL_le (s : SetP) : (tgL s).length ≤ s.data.length := by
 rw [tgL]; split
 · exact List.length_filter_le _ _
 · exact Nat.zero_le _
theorem nsD_le : ∀ L : List SetP, (nsD L).length ≤ sumD L
 | [] => Nat.le_refl _
 | s :: L => by
  have h1 := nsD_le L
  have h2 := tgL_le s
  rw [nsD, List.flatMap_cons, List.length_append, sumD]
  rw [nsD] at h1
  omega
theorem sumD_take : ∀ (L : List SetP) (k : Nat) (s : SetP), L[k]? = some s → sumD (L.take k) + s.data.length ≤ sumD L
 | [], k, s, h => by simp at h
 | a :: L, 0, s, h => by
  obtain rfl : a = s := by simpa using h
  simp [sumD]
 | a :: L, k + 1, s, h => by
  have ih := sumD_take L k s (by simpa using h)
  rw [List.take_succ_cons, sumD, sumD]; omega
theorem nsD_room {L : List SetP} {k : Nat} {s : SetP} (h : L[k]? = some s) : (nsD (L.take k)).length + s.data.length ≤ sumD L := by
 have h1 := nsD_le (L.take k)
 have h2 := sumD_take L k s h
 omega
theorem tgS_2 {d : ByteArray} (h : tgB 2 d = true) : tgS 2 d = d := by rw [tgS, if_pos h, if_neg (by decide)]
theorem fil_snoc {l : List ByteArray} {j : Nat} {d : ByteArray} (h : l[j]? = some d) : (l.take (j + 1)).filter (fun d => tgB 2 d) = (l.take j).filter (fun d => tgB 2 d) ++ (if tgB 2 d = true then [d] else []) := by
 rw [List.take_add_one, h, List.filter_append]
 by_cases hd : tgB 2 d = true <;> simp [hd]
theorem nsD_mem {L : List SetP} {x : ByteArray} (h : x ∈ nsD L) : ∃ s ∈ L, x ∈ s.data ∧ s.k.t = 2 ∧ tgB 2 x = true := by
 rw [nsD, List.mem_flatMap] at h
 obtain ⟨s, hs, hx⟩ := h
 rw [tgL] at hx
 split at hx
 · rename_i ht
   rw [List.mem_filter] at hx
   exact ⟨s, hs, hx.1, ht, hx.2⟩
 · cases hx
theorem tgB_sz {x : ByteArray} (h : tgB 2 x = true) : x.size ≤ 1000000 := by
 have h1 : (decide (0 ≤ (2 : Int) ∧ (2 : Int) ≤ 65535) && decide (x.size ≤ 1000) && mayKR 2 x) = true := by
  rw [tgB, Bool.and_eq_true] at h
  exact h.1
 simp only [Bool.and_eq_true, decide_eq_true_eq] at h1
 omega
end Go.Proofs.YthfnphcefkdgbaaGreat
end
section
namespace Go.Proofs.YthfnphcefkdgbaaGreat
open Go.RowKit
set_option maxRecDepth 100000 in
set_option maxHeartbeats 2000000 in
theorem compactS_none (w : World) : Calls Tryz.prog 159 #[.slice none 0 0] w fun e w' => e = .returned (.slice none 0 0) ∧ w = w' := by
 go_enter Tryz.func159, Tryz.ntmps159
 go_wp2
 go_ret
 exact ⟨rfl, rfl⟩
def TgR (L : List SetP) (w : World) (e : Ending) (w' : World) : Prop := ∃ ta tc T m, T.length = m ∧ m ≤ sumD L ∧ e = .returned (.slice ta m tc) ∧ TgOf L T ∧ w'.ownsRow w.heap.size 9 1 (.slice ta m tc) m (sc T) ∧ Below w.heap.size w w'
set_option maxRecDepth 100000 in
set_option maxHeartbeats 4000000 in
theorem targets_any (a : Option Addr) (n c : Nat) (L : List SetP) (w : World) (h : SetsAt w a n L) (hn : n ≤ 100000) (hz : ∀ s ∈ L, ∀ d ∈ s.data, d.size ≤ 1000000) (hs : sumD L ≤ 100000) :
  Calls Tryz.prog 123 #[.slice a n c] w fun e w' => TgR L w e w' := by
 have HR := Lib.hid h
 have HZ := Lib.hid hz
 have HSU := Lib.hid hs
 have HLN := Lib.hid h.1
 clear h hz hs
 go_enter Tryz.func123, Tryz.ntmps123
 go_wp2_with fail
 go_loopw [12, 3] (fun i v wr => ∃ k : Nat, k ≤ n ∧ i = .int .i64 k ∧ Hid (wr.ownsRow w.heap.size 9 1 v (nsD (L.take k)).length (sc (nsD (L.take k)))) ∧ Hid (Below w.heap.size w wr)) (fun i _ _ => n - (intOf i).toNat)
 case atStart => exact ⟨0, Nat.zero_le _, rfl, World.ownsRow_nil _ _ _ _, Below.refl _ _⟩
 case round =>
  obtain ⟨k, hk, rfl, ho, hbw⟩ := hrel
  by_cases hlt : k < n
  · rcases HR.out.2 with h9 | ⟨b, o, rfl, hbl, hc⟩
    · omega
    obtain ⟨pa, ca, hs2⟩ := hc k hlt
    have hLk : L[k]? = some (L.getD k ssD) := by rw [List.getD_eq_getElem?_getD, List.getElem?_eq_getElem (by rw [HLN.out]; exact hlt)]; rfl
    obtain ⟨s, hss⟩ : ∃ s, L.getD k ssD = s := ⟨_, rfl⟩
    rw [hss] at hs2 hLk
    have hsn := nsD_snoc hLk
    have hroom := nsD_room hLk
    have hszd := HZ.out s (List.mem_of_getElem? hLk)
    obtain ⟨⟨sn, st, sk⟩, su, sd⟩ := s
    obtain ⟨x0, x1, x2, x3, x4, hsr, -⟩ := hs2
    replace hsr : RowS w pa sd.length sd := hsr
    replace x4 : w.cell? ⟨b, o + k * 5 + 4, none⟩ = some (.slice pa sd.length ca) := x4
    replace hroom : (nsD (L.take k)).length + sd.length ≤ sumD L := hroom
    replace hszd : ∀ d ∈ sd, d.size ≤ 1000000 := hszd
    obtain ⟨dl, hdl⟩ : ∃ x, sd.length = x := ⟨_, rfl⟩
    rw [hdl] at hsr x4 hroom
    have HRM := Lib.hid hroom
    have HSD := Lib.hid hszd
    have HDL := Lib.hid hdl
    have HSN := Lib.hid hsn
    have HSR := Lib.hid hsr
    have c0 : wr.cell? ⟨b, o + k * 5, none⟩ = some (.string sn) := cell_later4 hbw.out x0
    have c1 : wr.cell? ⟨b, o + k * 5 + 1, none⟩ = some (.int .i64 st) := cell_later4 hbw.out x1
    have c2 : wr.cell? ⟨b, o + k * 5 + 2, none⟩ = some (.int .i64 sk) := cell_later4 hbw.out x2
    have c3 : wr.cell? ⟨b, o + k * 5 + 3, none⟩ = some (.int .i64 su) := cell_later4 hbw.out x3
    have c4 := cell_later4 hbw.out x4
    have i1 : (0 : Int) ≤ (k : Int) := by omega
    have i2 : (k : Int) < (n : Int) := by omega
    have HLT := Lib.hid hlt
    have hba := (Below.refl wr.heap.size wr).alloc (Nat.le_refl _) (.cells #[.string sn, .int .i64 st, .int .i64 sk, .int .i64 su, .slice pa dl ca] 38)
    have HC5 := Lib.hid (c5_new wr (.string sn) (.int .i64 st) (.int .i64 sk) (.int .i64 su) (.slice pa dl ca) 38)
    have HO1 := Lib.hid (own_below' ho.out hba)
    have HB1 := Lib.hid (hbw.out.trans (hba.mono hbw.out.size))
    clear x0 x1 x2 x3 x4 hsr hroom hszd hdl hsn hLk hss hbl hc hba ho hbw hlt hk
    go_upto_region 5 with (fail)
    obtain ⟨w1, hw⟩ : ∃ x, wr.alloc (.cells #[.string sn, .int .i64 st, .int .i64 sk, .int .i64 su, .slice pa dl ca] 38) = x := ⟨_, rfl⟩
    rw [hw] at HC5 HO1 HB1 ⊢
    clear hw c0 c1 c2 c3 c4
    obtain ⟨q5, hq⟩ : ∃ x, wr.heap.size = x := ⟨_, rfl⟩
    rw [hq] at HC5 ⊢
    clear hq
    obtain ⟨-, y0, y1, y2, -⟩ := HC5.out
    go_wp2_with fail
    refine (isK ⟨sn, st, sk⟩ (some ⟨w1.heap.size, 0, none⟩) 1 1 [2] _ (row_lit1 w1 2 3) (by omega)).mono ?_; rintro e w2 ⟨rfl, hb⟩
    have hba := (Below.refl w1.heap.size w1).alloc (Nat.le_refl _) (.cells #[.int .i64 2] 3)
    have hbb := hba.trans (hb.mono hba.size)
    have HC2 := Lib.hid (HC5.out.below hbb)
    have HO2 := Lib.hid (own_below' HO1.out hbb)
    have HB2 := Lib.hid (HB1.out.trans (hbb.mono HB1.out.size))
    clear hba hb hbb HC5 HO1 HB1 y0 y1 y2
    by_cases hst : st = 2
    case neg =>
      rw [show decide ((⟨sn, st, sk⟩ : Ky).t ∈ [(2 : Int)]) = false from dF (by simpa using hst)]
      have HN := Lib.hid (show nsD (L.take (k + 1)) = nsD (L.take k) by rw [HSN.out, tgL, if_neg hst, List.append_nil])
      clear hst
      go_wp2
      go_roundw
      case rel => exact ⟨k + 1, by have := HLT.out; omega, by have := HLT.out; go_num, by rw [HN.out]; exact HO2, HB2⟩
      case measure => have := HLT.out; simp [intOf]; omega
    rw [show decide ((⟨sn, st, sk⟩ : Ky).t ∈ [(2 : Int)]) = true from dT (by simpa using hst)]
    have HN := Lib.hid (show nsD (L.take (k + 1)) = nsD (L.take k) ++ sd.filter (fun d => tgB 2 d) by rw [HSN.out, tgL, if_pos hst])
    obtain ⟨X, hX⟩ : ∃ X, nsD (L.take k) = X := ⟨_, rfl⟩
    rw [hX] at HO2 HRM HN
    clear hst hX
    obtain ⟨-, -, -, -, -, y4, -⟩ := HC2.out
    go_wp2_with fail
    clear y4 HC2
    have hdn : dl ≤ 100000 := by have h1 := HRM.out; have h2 := HSU.out; omega
    go_loopw [24, 3] (fun i v w3 => ∃ j : Nat, j ≤ dl ∧ i = .int .i64 j ∧ Hid (w3.ownsRow w.heap.size 9 1 v (X ++ (sd.take j).filter (fun d => tgB 2 d)).length (sc (X ++ (sd.take j).filter (fun d => tgB 2 d)))) ∧ Hid (Below w.heap.size w w3)) (fun i _ _ => dl - (intOf i).toNat)
    case atStart => exact ⟨0, Nat.zero_le _, rfl, Lib.hid (by simpa using HO2.out), HB2⟩
    case round =>
      obtain ⟨j, hj, rfl, ho, hb3⟩ := hrel
      clear HO2 HB2
      by_cases hlt : j < dl
      · obtain ⟨d, hd⟩ : ∃ d, sd[j]? = some d := ⟨_, List.getElem?_eq_getElem (by rw [HDL.out]; exact hlt)⟩
        have HFS := Lib.hid (fil_snoc hd)
        have hsz := HSD.out d (List.mem_of_getElem? hd)
        rcases (HSR.out.below hb3.out).2 with h9 | ⟨b2, o2, rfl, hbl2, hcd⟩
        · omega
        have c0 := hcd j hlt
        rw [show sd.getD j ByteArray.empty = d by rw [List.getD_eq_getElem?_getD, hd]; rfl] at c0
        have i3 : (0 : Int) ≤ (j : Int) := by omega
        have i4 : (j : Int) < (dl : Int) := by omega
        have HLT2 := Lib.hid hlt
        have HSZ := Lib.hid hsz
        have HYL := Lib.hid (show (X ++ (sd.take j).filter (fun d => tgB 2 d)).length + 1 ≤ 1000000 by
          have h1 := List.length_filter_le (fun d => tgB 2 d) (sd.take j)
          rw [List.length_take] at h1
          rw [List.length_append]
          have h2 := HRM.out
          have h3 := HSU.out
          omega)
        obtain ⟨Y, hY⟩ : ∃ Y, X ++ (sd.take j).filter (fun d => tgB 2 d) = Y := ⟨_, rfl⟩
        have HY := Lib.hid hY
        rw [hY] at ho HYL
        clear hd hsz hbl2 hcd hlt hj hY
        go_wp2_with fail
        refine (target_any 2 d wr HSZ.out).mono ?_; rintro e w4 ⟨rfl, hb⟩
        have HO4 := Lib.hid (own_below' ho.out hb)
        have HB4 := Lib.hid (hb3.out.trans (hb.mono hb3.out.size))
        clear ho hb3 hb c0
        obtain ⟨v, hv⟩ : ∃ x, tgB 2 d = x := ⟨_, rfl⟩
        have HV := Lib.hid hv
        rw [hv]
        clear hv
        cases v
        · have HE := Lib.hid (show X ++ (sd.take (j + 1)).filter (fun d => tgB 2 d) = Y by rw [HFS.out, HV.out, ← HY.out]; simp)
          go_wp2
          go_roundw
          case rel => exact ⟨j + 1, by have := HLT2.out; omega, by have := HLT2.out; go_num, by rw [HE.out]; exact HO4, HB4⟩
          case measure => have := HLT2.out; simp [intOf]; omega
        · have HE := Lib.hid (show X ++ (sd.take (j + 1)).filter (fun d => tgB 2 d) = Y ++ [d] by rw [HFS.out, HV.out, ← HY.out]; simp)
          rw [tgS_2 HV.out]
          have hal := (Below.refl w4.heap.size w4).alloc (Nat.le_refl _) (.cells #[.string d] 9)
          have HAL := Lib.hid hal
          clear hal
          go_wp2_with (at_builtin; refine append_rowS rfl _ _ rfl w.heap.size _ Y.length (sc Y) rfl (own_below' HO4.out HAL.out) (some ⟨w4.heap.size, 0, none⟩) 1 1 [d] rfl (fun h => by cases h) (rowS_lit1 w4 d _) HYL.out (by have := HB4.out.size; simp; omega) ?_)
          intro v' w6 hown' hgrow'
          have HO6 := Lib.hid (show w6.ownsRow w.heap.size 9 1 v' (Y ++ [d]).length (sc (Y ++ [d])) by rw [List.length_append, sc, List.map_append]; exact hown')
          have HB6 := Lib.hid ((HB4.out.trans (HAL.out.mono HB4.out.size)).grown hgrow' (by have := HB4.out.size; simp; omega) (fun k hk => (HO4.out.lt k hk).1))
          clear hown' hgrow'
          go_wp2
          go_roundw
          case rel => exact ⟨j + 1, by have := HLT2.out; omega, by have := HLT2.out; go_num, by rw [HE.out]; exact HO6, HB6⟩
          case measure => have := HLT2.out; simp [intOf]; omega
      · obtain rfl : j = dl := by omega
        have hfull : (sd.take j) = sd := List.take_of_length_le (by rw [HDL.out]; exact Nat.le_refl _)
        rw [hfull, ← HN.out] at ho
        clear hfull hlt hj
        go_wp2
        go_roundw
        case rel => exact ⟨k + 1, by have := HLT.out; omega, by have := HLT.out; go_num, ho, hb3⟩
        case measure => have := HLT.out; simp [intOf]; omega
  · obtain rfl : k = n := by omega
    rw [show L.take k = L from List.take_of_length_le (by rw [HLN.out]; exact Nat.le_refl _)] at ho
    have hN : (nsD L).length ≤ 100000 := Nat.le_trans (nsD_le L) HSU.out
    have hszs : ∀ x ∈ nsD L, x.size ≤ 1000000 := fun x hx => by obtain ⟨s, -, -, -, h⟩ := nsD_mem hx; exact tgB_sz h
    have HSZ := Lib.hid hszs
    obtain ⟨ta, tc, rfl, -, -⟩ := rowS_of_own ho.out
    obtain ⟨N, hNN⟩ : ∃ x, (nsD L).length = x := ⟨_, rfl⟩
    have HNN := Lib.hid hNN
    rw [hNN] at ho hN ⊢
    have HN := Lib.hid hN
    rcases ho.out.2 with ⟨hv, h0⟩ | ⟨g, cap, cur, hv, -⟩
    · obtain ⟨rfl, rfl, rfl⟩ : ta = none ∧ N = 0 ∧ tc = 0 := by
        simp only [Value.slice.injEq] at hv
        exact ⟨hv.1, h0, hv.2.2⟩
      have HNIL := Lib.hid (List.length_eq_zero_iff.1 HNN.out)
      clear hv h0 hN hszs hNN hlt hk
      go_wp2_with fail
      refine (sortSS_none none 0 _ _).mono ?_; rintro e w5 ⟨rfl, rfl⟩
      go_wp2_with fail
      refine (compactS_none _).mono ?_; rintro e w6 ⟨rfl, rfl⟩
      go_wp2
      go_ret
      exact ⟨none, 0, [], 0, rfl, Nat.zero_le _, rfl, ⟨List.Pairwise.nil, fun x => by rw [HNIL.out]⟩, World.ownsRow_nil _ _ _ _, hbw.out⟩
    · obtain rfl : ta = some ⟨g, 0, none⟩ := by
        simp only [Value.slice.injEq] at hv
        exact hv.1
      clear hv hN hszs hNN hlt hk
      go_wp2_with fail
      refine (sortSS_some w.heap.size g N tc (nsD L) _ HSZ.out HNN.out ho.out (by have := HN.out; omega)).mono ?_; rintro e w5 ⟨rfl, l', hp, hs, ho5, hg5⟩
      have HB5 := Lib.hid (hbw.out.grown hg5 hbw.out.size (fun k hk => (ho.out.lt k hk).1))
      have HO5 := Lib.hid ho5
      have HT := Lib.hid (tgOf_dd hp hs)
      have HPL := Lib.hid hp.length_eq
      have HPL := Lib.hid hp.length_eq
      have HPL := Lib.hid hp.length_eq
      have HPL := Lib.hid hp.length_eq
      clear hp hs ho5 hg5 hbw ho
      go_wp2_with fail
      refine (compactS_any w.heap.size g N tc l' w5 HO5.out (by have := HN.out; omega)).mono ?_; rintro e w6 ⟨m, hm, rfl, ho6, hg6⟩
      have HB6 := Lib.hid (HB5.out.grown hg6 HB5.out.size (fun k hk => (HO5.out.lt k hk).1))
      have HO6 := Lib.hid ho6
      have HM := Lib.hid hm.symm
      have HMS := Lib.hid (show m ≤ sumD L by rw [hm]; exact Nat.le_trans (dd_len l') (by rw [HPL.out]; exact nsD_le L))
      have HMS := Lib.hid (show m ≤ sumD L by rw [hm]; exact Nat.le_trans (dd_len l') (by rw [HPL.out]; exact nsD_le L))
      have HMS := Lib.hid (show m ≤ sumD L by rw [hm]; exact Nat.le_trans (dd_len l') (by rw [HPL.out]; exact nsD_le L))
      have HMS := Lib.hid (show m ≤ sumD L by rw [hm]; exact Nat.le_trans (dd_len l') (by rw [HPL.out]; exact nsD_le L))
      clear hm ho6 hg6
      go_wp2
      go_ret
      exact ⟨_, _, _, m, HM.out, HMS.out, rfl, HT.out, HO6.out, HB6.out⟩
end Go.Proofs.YthfnphcefkdgbaaGreat
end
section
namespace Go.Proofs.YthfnphcefkdgbaaGreat
open Go.RowKit
noncomputable def glueF (S : List SetP) (n : ByteArray) (t : Int) : List SetP := (findK S ⟨n, t, 1⟩).toList
noncomputable def glueN (S : List SetP) (n : ByteArray) : List SetP := glueF S n 1 ++ glueF S n 28
noncomputable def glueP (S : List SetP) (T : List ByteArray) : List SetP := T.flatMap (glueN S)
theorem glueF_le (S : List SetP) (n : ByteArray) (t : Int) : (glueF S n t).length ≤ 1 := by
 rw [glueF]; cases findK S ⟨n, t, 1⟩ <;> simp
theorem glueN_le (S : List SetP) (n : ByteArray) : (glueN S n).length ≤ 2 := by
 rw [glueN, List.length_append]; have := glueF_le S n 1; have := glueF_le S n 28; omega
theorem glueP_le (S : List SetP) : ∀ T : List ByteArray, (glueP S T).length ≤ 2 * T.length
 | [] => Nat.le_refl _
 | n :: T => by
  have h1 := glueP_le S T
  have h2 := glueN_le S n
  rw [glueP, List.flatMap_cons, List.length_append, List.length_cons]
  rw [glueP] at h1
  omega
theorem glueP_snoc {S : List SetP} {T : List ByteArray} {k : Nat} {x : ByteArray} (h : T[k]? = some x) : glueP S (T.take (k + 1)) = glueP S (T.take k) ++ glueN S x := by
 rw [glueP, glueP, List.take_add_one, h, List.flatMap_append]; simp
noncomputable def glueK (S : List SetP) (n : ByteArray) (j : Nat) : List SetP := if j = 0 then [] else if j = 1 then glueF S n 1 else glueN S n
def kindG (j : Nat) : Int := if j = 0 then 1 else 28
theorem glueK_next (S : List SetP) (n : ByteArray) (j : Nat) (h : j < 2) : glueK S n (j + 1) = glueK S n j ++ glueF S n (kindG j) := by
 match j, h with
 | 0, _ => simp [glueK, kindG]
 | 1, _ => simp [glueK, kindG, glueN]
theorem glueK_le (S : List SetP) (n : ByteArray) (j : Nat) : (glueK S n j).length ≤ 2 := by
 rw [glueK]; split
 · simp
 · split
   · have := glueF_le S n 1; omega
   · exact glueN_le S n
def LitI (w : World) (q : Nat) : Prop := (∃ cur fr, w.heap[q]? = some (.cells cur 3 fr)) ∧ w.cell? ⟨q, 0, none⟩ = some (.int .i64 1) ∧ w.cell? ⟨q, 1, none⟩ = some (.int .i64 28)
theorem LitI.at {w : World} {q : Nat} (h : LitI w q) (j : Nat) (hj : j < 2) : w.cell? ⟨q, j, none⟩ = some (.int .i64 (kindG j)) := by
 match j, hj with
 | 0, _ => exact h.2.1
 | 1, _ => exact h.2.2
theorem LitI.lt {w : World} {q : Nat} (h : LitI w q) : q < w.heap.size := by
 obtain ⟨⟨cur, fr, h⟩, -⟩ := h
 exact (Array.getElem?_eq_some_iff.1 h).1
theorem LitI.below {w w' : World} {q : Nat} (h : LitI w q) (hb : Below w.heap.size w w') : LitI w' q := by
 have hl := h.lt
 obtain ⟨⟨cur, fr, h⟩, h1, h2⟩ := h
 exact ⟨⟨cur, fr, by rw [hb.block q hl]; exact h⟩, cell_later4 hb h1, cell_later4 hb h2⟩
theorem LitI.grown {w w' : World} {q : Nat} {row : Option Nat} (h : LitI w q) (hg : w.grownBy w' row) (hne : row ≠ some q) : LitI w' q := by
 have hl := h.lt
 obtain ⟨⟨cur, fr, h⟩, h1, h2⟩ := h
 exact ⟨⟨cur, fr, by rw [hg.block q hl (fun e => hne e.symm)]; exact h⟩, hg.cell h1 (fun e => hne e.symm), hg.cell h2 (fun e => hne e.symm)⟩
theorem LitI.ne {w : World} {q B n s : Nat} {e : TypeId} {v : Value} {xs : List Value} (h : LitI w q) (he : e ≠ 3) (ho : w.ownsRow B e s v n xs) : v.ownBlock ≠ some q := by
 intro e2
 obtain ⟨⟨cur, fr, h⟩, -⟩ := h
 rcases ho.2 with ⟨rfl, _⟩ | ⟨g2, c2, u2, rfl, _, hg2, _⟩
 · cases e2
 · have : g2 = q := by simpa [Value.ownBlock] using e2
   subst this
   rw [h] at hg2
   simp at hg2
   exact he hg2.2.1.symm
theorem LitI.new (w : World) : LitI (w.alloc (.cells #[.int .i64 1, .int .i64 28] 3)) w.heap.size :=
 ⟨⟨#[.int .i64 1, .int .i64 28], (0, 0), by show (w.heap.push _)[w.heap.size]? = _; simp⟩, by simp [World.cell?_alloc_at], by simp [World.cell?_alloc_at]⟩
theorem OwnD.grow {w w' : World} {B B2 n : Nat} {P : List (SetP × Value)} {v : Value} {xs : List Value} (h : OwnD w B P) (hr : w.ownsRow B2 38 5 v n xs) (hg : w.grownBy w' v.ownBlock) : OwnD w' B P :=
 ⟨fun p hp => (h.1 p hp).kept hg (own_ne2 (by decide) (h.1 p hp) hr), h.2⟩
theorem OwnSets.app {w w1 wa w2 : World} {B : Nat} {v v' : Value} {L : List (SetP × Value)} {s : SetP} {dv : Value} (h : OwnSets w B v L) (hB : B ≤ w.heap.size) (hb : Below w.heap.size w w1) (ho : w1.ownsRow w.heap.size 9 1 dv s.data.length (sc s.data)) (ha : Below w1.heap.size w1 wa)
  (hn : w2.ownsRow B 38 5 v' (L.length + 1) (flatS L ++ encS (s, dv))) (hg : wa.grownBy w2 v.ownBlock) : OwnSets w2 B v' (L ++ [(s, dv)]) := by
 have hd : OwnD w1 B (L ++ [(s, dv)]) := OwnD.snoc ⟨h.2.1, h.2.2⟩ hb ho hB
 have hr := own_below' (own_below' h.1 hb) ha
 have hd2 := (hd.below ha).grow hr hg
 refine ⟨?_, hd2.1, hd2.2⟩
 have e : flatS (L ++ [(s, dv)]) = flatS L ++ encS (s, dv) := by simp [flatS]
 rw [e, List.length_append]
 exact hn
def GlR (S L : List SetP) (w : World) (e : Ending) (w' : World) : Prop := ∃ v G T m, e = .returned v ∧ TgOf L T ∧ G.map Prod.fst = glueP S T ∧ G.length = m ∧ m ≤ 2 * sumD L ∧ OwnSets w' w.heap.size v G ∧ Below w.heap.size w w'
set_option maxRecDepth 100000 in
set_option maxHeartbeats 4000000 in
theorem glue_any (z : Nat) (apex : ByteArray) (S : List SetP) (a : Option Addr) (n c : Nat) (L : List SetP) (w : World) (hzn : ZnAt w z apex S) (hr : RiseS S) (hsz : SzZ S) (h : SetsAt w a n L) (hn : n ≤ 100000) (hz : ∀ s ∈ L, ∀ d ∈ s.data, d.size ≤ 1000000) (hs : sumD L ≤ 100000) :
  Calls Tryz.prog 78 #[.pointer (some ⟨z, 0, none⟩), .slice a n c] w fun e w' => GlR S L w e w' := by
 have HT0 := Lib.hid (targets_any a n c L w h hn hz hs)
 have HZN := Lib.hid hzn
 have HRI := Lib.hid hr
 have HSZ := Lib.hid hsz
 have HSU := Lib.hid hs
 obtain ⟨j0, hi, hz0, hz1, hz2⟩ := info_parts infoSet
 have HI := Lib.hid hi
 have HZ0 := Lib.hid hz0
 have HZ1 := Lib.hid hz1
 have HZ2 := Lib.hid hz2
 clear h hn hz hs hzn hr hsz hi hz0 hz1 hz2
 go_enter Tryz.func78, Tryz.ntmps78
 go_wp2_with fail
 refine HT0.out.mono ?_; rintro e w1 ⟨ta, tc, T, m, hTl, hms, rfl, htg, hot, hb⟩
 obtain ⟨ta', tc', he, hrt, -⟩ := rowS_of_own hot
 simp only [Value.slice.injEq] at he
 obtain ⟨rfl, -, rfl⟩ := he
 have HTL := Lib.hid hTl
 have HMS := Lib.hid hms
 have HTG := Lib.hid htg
 have HRT := Lib.hid hrt
 have HTZ := Lib.hid (show ∀ x ∈ T, x.size ≤ 1000000 from fun x hx => by obtain ⟨s, -, -, -, h⟩ := nsD_mem ((htg.2 x).1 hx); exact tgB_sz h)
 have HB1 := Lib.hid hb
 have hmn : m ≤ 100000 := by have := HSU.out; omega
 have HMN := Lib.hid hmn
 clear HT0 hTl hms htg hot hrt hb
 go_wp2_with fail
 go_loopw [17, 5] (fun i v wr => ∃ (k : Nat) (Lp : List (SetP × Value)), k ≤ m ∧ i = .int .i64 k ∧ Hid (Lp.map Prod.fst = glueP S (T.take k)) ∧ Hid (OwnSets wr w1.heap.size v Lp) ∧ Hid (Below w1.heap.size w1 wr)) (fun i _ _ => m - (intOf i).toNat)
 case atStart => exact ⟨0, [], Nat.zero_le _, rfl, Lib.hid (by simp [glueP]), Lib.hid (OwnSets.nil _ _), Lib.hid (Below.refl _ _)⟩
 case round =>
  obtain ⟨k, Lp, hk, rfl, hmp, hos, hbw⟩ := hrel
  by_cases hlt : k < m
  · rcases (HRT.out.below hbw.out).2 with h9 | ⟨b, o, rfl, hbl, hcd⟩
    · omega
    have c0 := hcd k hlt
    obtain ⟨x, hx⟩ : ∃ x, T[k]? = some x := ⟨_, List.getElem?_eq_getElem (by rw [HTL.out]; exact hlt)⟩
    rw [show T.getD k ByteArray.empty = x by rw [List.getD_eq_getElem?_getD, hx]; rfl] at c0
    have HXZ := Lib.hid (HTZ.out x (List.mem_of_getElem? hx))
    have HSN := Lib.hid (glueP_snoc (S := S) hx)
    have HPL := Lib.hid (show (glueP S (T.take k)).length + 2 ≤ 300000 by have h1 := glueP_le S (T.take k); rw [List.length_take] at h1; omega)
    have i1 : (0 : Int) ≤ (k : Int) := by omega
    have i2 : (k : Int) < (m : Int) := by omega
    have HLT := Lib.hid hlt
    clear hbl hcd hx hlt hk hmn
    go_upto_region 7 with (fail)
    clear c0
    have hba := (Below.refl wr.heap.size wr).alloc (Nat.le_refl _) (.cells #[.int .i64 1, .int .i64 28] 3)
    have HLI := Lib.hid (LitI.new wr)
    have HOS1 := Lib.hid (hos.out.below hba)
    have HB2 := Lib.hid (hbw.out.trans (hba.mono hbw.out.size))
    clear hba hos hbw
    go_wp2_with fail
    obtain ⟨w2, hw⟩ : ∃ x, wr.alloc (.cells #[.int .i64 1, .int .i64 28] 3) = x := ⟨_, rfl⟩
    rw [hw] at HLI HOS1 HB2 ⊢
    clear hw
    obtain ⟨q, hq⟩ : ∃ x, wr.heap.size = x := ⟨_, rfl⟩
    rw [hq] at HLI ⊢
    clear hq
    go_loopw [23, 5] (fun i v wr => ∃ (j : Nat) (Lq : List (SetP × Value)), j ≤ 2 ∧ i = .int .i64 j ∧ Hid (Lq.map Prod.fst = glueP S (T.take k) ++ glueK S x j) ∧ Hid (OwnSets wr w1.heap.size v Lq) ∧ Hid (LitI wr q) ∧ Hid (Below w1.heap.size w1 wr)) (fun i _ _ => 2 - (intOf i).toNat)
    case atStart => exact ⟨0, Lp, Nat.zero_le _, rfl, Lib.hid (by rw [hmp.out]; simp [glueK]), HOS1, HLI, HB2⟩
    case round =>
      obtain ⟨j, Lq, hj, rfl, hmq, hos, hli, hbw⟩ := hrel
      clear HLI HOS1 HB2
      by_cases hlt : j < 2
      · have c0 := hli.out.at j hlt
        have HGK := Lib.hid (glueK_next S x j hlt)
        have HKL := Lib.hid (show Lq.length + 1 ≤ 1000000 by
          have h1 : (Lq.map Prod.fst).length = _ := congrArg List.length hmq.out
          rw [List.length_map, List.length_append] at h1
          have h2 := HPL.out
          have h3 := glueK_le S x j
          omega)
        obtain ⟨kd, hkd⟩ : ∃ y, kindG j = y := ⟨_, rfl⟩
        rw [hkd] at c0 HGK
        have i3 : (0 : Int) ≤ (j : Int) := by omega
        have i4 : (j : Int) < 2 := by omega
        have HLT2 := Lib.hid hlt
        clear hkd hlt hj
        go_wp2_with fail
        refine (akey_any x kd wr).mono ?_; rintro e w3 ⟨rfl, hb⟩
        have HOS3 := Lib.hid (hos.out.below hb)
        have HLI3 := Lib.hid (hli.out.below hb)
        have HB3 := Lib.hid (hbw.out.trans (hb.mono hbw.out.size))
        have HB3S := Lib.hid HB3.out.size
        clear hb c0 hos hli hbw
        go_wp2_with fail
        refine (zget_any z apex S x kd 1 w3 ((HZN.out.below HB1.out).below HB3.out) HRI.out HSZ.out HXZ.out).mono ?_; rintro e w4 ⟨hf, hb⟩
        have HB4 := Lib.hid (HB3.out.trans (hb.mono HB3.out.size))
        have HLI4 := Lib.hid (HLI3.out.below hb)
        rcases hf with ⟨s, dv, hfs, rfl, ho⟩ | ⟨hfn, rfl⟩
        · have HF := Lib.hid (show glueF S x kd = [s] by rw [glueF, hfs]; rfl)
          have HSL := Lib.hid (show s.data.length ≤ 100000 from (HSZ.out.2 s (find_mem hfs)).2)
          obtain ⟨⟨sn, st, sk⟩, su, sd⟩ := s
          replace ho : w4.ownsRow w3.heap.size 9 1 dv sd.length (sc sd) := ho
          obtain ⟨da, dc, rfl, -, -⟩ := rowS_of_own ho
          obtain ⟨dl, hdl⟩ : ∃ x, sd.length = x := ⟨_, rfl⟩
          have HDL := Lib.hid hdl
          rw [hdl] at ho
          have HO := Lib.hid ho
          have HBG := Lib.hid hb
          have hba := (Below.refl w4.heap.size w4).alloc (Nat.le_refl _) (.cells #[.string sn, .int .i64 st, .int .i64 sk, .int .i64 su, .slice da dl dc] 38)
          have HC5 := Lib.hid (c5_new w4 (.string sn) (.int .i64 st) (.int .i64 sk) (.int .i64 su) (.slice da dl dc) 38)
          have HBA := Lib.hid hba
          dsimp only
          rw [hdl]
          clear hfs ho hdl hb hba HB3 HLI3
          go_upto_region 12 with (fail)
          obtain ⟨w5, hw⟩ : ∃ x, w4.alloc (.cells #[.string sn, .int .i64 st, .int .i64 sk, .int .i64 su, .slice da dl dc] 38) = x := ⟨_, rfl⟩
          rw [hw] at HC5 HBA ⊢
          clear hw
          obtain ⟨q10, hq⟩ : ∃ x, w4.heap.size = x := ⟨_, rfl⟩
          rw [hq] at HC5 ⊢
          clear hq
          obtain ⟨-, y0, y1, y2, y3, y4, -⟩ := HC5.out
          have hba := (Below.refl w5.heap.size w5).alloc (Nat.le_refl _) (.cells #[.string sn, .int .i64 st, .int .i64 sk, .int .i64 su, .slice da dl dc] 38)
          have HBA2 := Lib.hid (HBA.out.trans (hba.mono HBA.out.size))
          have HOA := Lib.hid (own_below' (own_below' HOS3.out.1 HBG.out) HBA2.out)
          clear hba HC5
          go_wp2_with (at_builtin; refine append_cellsK rfl _ _ 61 38 rfl j0 _ 5 64 Tryz.underlying61 HI.out HZ0.out HZ1.out HZ2.out rfl (by decide) w1.heap.size _ Lq.length (flatS Lq) rfl HOA.out (some ⟨w5.heap.size, 0, none⟩) 1 1 (encS (⟨⟨sn, st, sk⟩, su, sd⟩, .slice da dl dc)) rfl (fun h => by cases h) (cells_lit w5 #[.string sn, .int .i64 st, .int .i64 sk, .int .i64 su, .slice da dl dc] _) (encS_one _ ⟨_, _, _, rfl⟩) HKL.out (by decide) (by have h1 := HB4.out.size; have h2 := HBA.out.size; simp; omega) ?_)
          intro v' w6 hown' hgrow'
          have HOS6 := Lib.hid (OwnSets.app HOS3.out HB3S.out HBG.out (by rw [HDL.out]; exact HO.out) HBA2.out hown' hgrow')
          have HLI6 := Lib.hid ((HLI4.out.below HBA2.out).grown hgrow' (fun e => (HLI4.out.below HBA2.out).ne (by decide) HOA.out e))
          have HB6 := Lib.hid ((HB4.out.trans (HBA2.out.mono HB4.out.size)).grown hgrow' (by have h1 := HB4.out.size; have h2 := HBA2.out.size; omega) (fun k hk => (HOA.out.lt k hk).1))
          have HM6 := Lib.hid (show (Lq ++ [((⟨⟨sn, st, sk⟩, su, sd⟩ : SetP), Value.slice da dl dc)]).map Prod.fst = glueP S (T.take k) ++ glueK S x (j + 1) by rw [List.map_append, hmq.out, HGK.out, HF.out, List.append_assoc]; rfl)
          clear hown' hgrow'
          go_wp2
          go_roundw
          case rel => exact ⟨j + 1, _, by have := HLT2.out; omega, by have := HLT2.out; go_num, HM6, HOS6, HLI6, HB6⟩
          case measure => have := HLT2.out; simp [intOf]; omega
        · have HF := Lib.hid (show glueF S x kd = [] by rw [glueF, hfn]; rfl)
          have hba := (Below.refl w4.heap.size w4).alloc (Nat.le_refl _) (.cells #[.string ⟨#[]⟩, .int .i64 0, .int .i64 0, .int .i64 0, .slice none 0 0] 38)
          have HOS6 := Lib.hid ((HOS3.out.below hb).below hba)
          have HLI6 := Lib.hid (HLI4.out.below hba)
          have HB6 := Lib.hid (HB4.out.trans (hba.mono HB4.out.size))
          have HM6 := Lib.hid (show Lq.map Prod.fst = glueP S (T.take k) ++ glueK S x (j + 1) by rw [hmq.out, HGK.out, HF.out, List.append_nil])
          clear hb hba hfn HB3 HB4 HLI3 HLI4 HOS3
          go_wp2
          go_roundw
          case rel => exact ⟨j + 1, _, by have := HLT2.out; omega, by have := HLT2.out; go_num, HM6, HOS6, HLI6, HB6⟩
          case measure => have := HLT2.out; simp [intOf]; omega
      · obtain rfl : j = 2 := by omega
        have HMP := Lib.hid (show Lq.map Prod.fst = glueP S (T.take (k + 1)) by rw [hmq.out, HSN.out]; rfl)
        clear hmq hlt hj
        have hkb : k ≤ 100000 := by have h1 := HLT.out; have h2 := HMN.out; omega
        go_wp2
        go_roundw
        case rel => exact ⟨k + 1, Lq, by have := HLT.out; omega, by have := HLT.out; have := HMN.out; go_num, HMP, hos, hbw⟩
        case measure => have := HLT.out; simp [intOf]; omega
  · obtain rfl : k = m := by omega
    rw [show T.take k = T from List.take_of_length_le (by rw [HTL.out]; exact Nat.le_refl _)] at hmp
    have HG := Lib.hid (show Lp.length = (glueP S T).length by rw [← hmp.out, List.length_map])
    clear hlt hk
    go_wp2
    go_ret
    exact ⟨_, Lp, T, _, rfl, HTG.out, hmp.out, rfl, by rw [HG.out]; have h1 := glueP_le S T; rw [HTL.out] at h1; have := HMS.out; omega, ⟨own_mono4 hos.out.1 HB1.out.size, fun p hp => own_mono4 (hos.out.2.1 p hp) HB1.out.size, hos.out.2.2⟩, HB1.out.trans (hbw.out.mono HB1.out.size)⟩
end Go.Proofs.YthfnphcefkdgbaaGreat
end
section
namespace Go.Proofs.YthfnphcefkdgbaaGreat
open Go.RowKit
theorem CN.v3 {w : World} {q : Nat} {c0 c1 c2 : Value} (h : CN w q [c0, c1, c2]) : w.cell? ⟨q, 0, none⟩ = some c0 ∧ w.cell? ⟨q, 1, none⟩ = some c1 ∧ w.cell? ⟨q, 2, none⟩ = some c2 ∧ w.frozen? ⟨q, 0, none⟩ = false ∧ w.frozen? ⟨q, 1, none⟩ = false ∧ w.frozen? ⟨q, 2, none⟩ = false :=
 ⟨(h.2 0 _ rfl).1, (h.2 1 _ rfl).1, (h.2 2 _ rfl).1, (h.2 0 _ rfl).2, (h.2 1 _ rfl).2, (h.2 2 _ rfl).2⟩
theorem CN.t3 {w : World} {q : Nat} {c0 c1 c2 : Value} (h : CN w q [c0, c1, c2]) (d0 d1 d2 : Value) : CN (((w.setCell ⟨q, 0, none⟩ d0).setCell ⟨q, 1, none⟩ d1).setCell ⟨q, 2, none⟩ d2) q [d0, d1, d2] :=
 (((h.set 0 (by simp) d0).set 1 (by simp) d1).set 2 (by simp) d2)
theorem CN.s5 {w : World} {q : Nat} {c0 c1 c2 c3 c4 : Value} (h : CN w q [c0, c1, c2, c3, c4]) (d0 d1 d2 d3 d4 : Value) : CN (((((w.setCell ⟨q, 0, none⟩ (d0)).setCell ⟨q, 1, none⟩ (d1)).setCell ⟨q, 2, none⟩ (d2)).setCell ⟨q, 3, none⟩ (d3)).setCell ⟨q, 4, none⟩ (d4)) q [d0, d1, d2, d3, d4] :=
 (((((h.set 0 (by simp) d0).set 1 (by simp) d1).set 2 (by simp) d2).set 3 (by simp) d3).set 4 (by simp) d4)
theorem grown_s5 (w : World) (q : Nat) (d0 d1 d2 d3 d4 : Value) : w.grownBy (((((w.setCell ⟨q, 0, none⟩ (d0)).setCell ⟨q, 1, none⟩ (d1)).setCell ⟨q, 2, none⟩ (d2)).setCell ⟨q, 3, none⟩ (d3)).setCell ⟨q, 4, none⟩ (d4)) (some q) :=
 (((((grown_cell w q 0 d0).trans (grown_cell _ q 1 d1)).trans (grown_cell _ q 2 d2)).trans (grown_cell _ q 3 d3)).trans (grown_cell _ q 4 d4))
end Go.Proofs.YthfnphcefkdgbaaGreat
end
