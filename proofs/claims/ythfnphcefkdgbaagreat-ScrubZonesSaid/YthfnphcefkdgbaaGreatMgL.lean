/- Texts that others rest on, one behind the other: SoL, SoR, GrW, RGm, RGs. -/
import Derived.Test.YthfnphcefkdgbaaGreatMgA
import Derived.Shelf.SlLaysF0
import Derived.Test.YthfnphcefkdgbaaGreatMgE
import Derived.Shelf.SlSortCmp.NoneTotal
import Derived.Laws.OwnMore
import Derived.Deep.DeepCutAuto
import Derived.Deep.AppendLies
import Derived.Deep.RegionLaw
import Derived.Test.YthfnphcefkdgbaaGreatMgK
section
namespace Go.Proofs.YthfnphcefkdgbaaGreat
open Go.Shelf
def sortRR_ren : Go.Shelf.Ren := ⟨fun | 6 => 103 | 15 => 147 | 14 => 146 | 28 => 175 | 29 => 176 | 20 => 167 | 21 => 168 | 22 => 169 | 23 => 170 | 24 => 171 | 25 => 172 | 26 => 173 | 27 => 174 | 46 => 183 | 47 => 184 | 48 => 185 | 49 => 186 | 50 => 187 | 57 => 198 | n => n, fun | 22 => 22 | 24 => 111 | 25 => 171 | 3 => 3 | 39 => 177 | 0 => 0 | 53 => 231 | 55 => 233 | 4 => 4 | 46 => 225 | 45 => 224 | 50 => 119 | 5 => 5 | 9 => 9 | 66 => 239 | 70 => 243 | 76 => 252 | 77 => 253 | n => n, fun | n => n⟩
theorem sortRR : Go.Proofs.SlLaysF0.n6 Tryz.prog sortRR_ren := {
 mixed := by kernel_rfl
 f6 := ⟨Tryz.f103.name, by decide, Tryz.func103.trans (congrArg some (by kernel_rfl))⟩
 f14 := ⟨Tryz.f146.name, by decide, Tryz.func146.trans (congrArg some (by kernel_rfl))⟩
 f15 := Tryz.func147.trans (congrArg some (by kernel_rfl))
 f20 := ⟨Tryz.f167.name, by decide, Tryz.func167.trans (congrArg some (by kernel_rfl))⟩
 f21 := ⟨Tryz.f168.name, by decide, Tryz.func168.trans (congrArg some (by kernel_rfl))⟩
 f22 := ⟨Tryz.f169.name, by decide, Tryz.func169.trans (congrArg some (by kernel_rfl))⟩
 f23 := ⟨Tryz.f170.name, by decide, Tryz.func170.trans (congrArg some (by kernel_rfl))⟩
 f24 := ⟨Tryz.f171.name, by decide, Tryz.func171.trans (congrArg some (by kernel_rfl))⟩
 f25 := ⟨Tryz.f172.name, by decide, Tryz.func172.trans (congrArg some (by kernel_rfl))⟩
 f26 := ⟨Tryz.f173.name, by decide, Tryz.func173.trans (congrArg some (by kernel_rfl))⟩
 f27 := ⟨Tryz.f174.name, by decide, Tryz.func174.trans (congrArg some (by kernel_rfl))⟩
 f28 := Tryz.func175.trans (congrArg some (by kernel_rfl))
 f29 := Tryz.func176.trans (congrArg some (by kernel_rfl))
 f46 := ⟨Tryz.f183.name, by decide, Tryz.func183.trans (congrArg some (by kernel_rfl))⟩
 f47 := Tryz.func184.trans (congrArg some (by kernel_rfl))
 f48 := Tryz.func185.trans (congrArg some (by kernel_rfl))
 f49 := ⟨Tryz.f186.name, by decide, Tryz.func186.trans (congrArg some (by kernel_rfl))⟩
 f50 := ⟨Tryz.f187.name, by decide, Tryz.func187.trans (congrArg some (by kernel_rfl))⟩
 f57 := ⟨Tryz.f198.name, by decide, Tryz.func198.trans (congrArg some (by kernel_rfl))⟩
 t0 := Tryz.underlying0
 a0 := Tryz.isAgg0
 z0 := Tryz.sizeOf0
 v0 := Tryz.zeroValue0
 t3 := Tryz.underlying3
 a3 := Tryz.isAgg3
 z3 := Tryz.sizeOf3
 v3 := Tryz.zeroValue3
 t4 := Tryz.underlying4
 a4 := Tryz.isAgg4
 z4 := Tryz.sizeOf4
 v4 := Tryz.zeroValue4
 t5 := Tryz.underlying5
 a5 := Tryz.isAgg5
 z5 := Tryz.sizeOf5
 v5 := Tryz.zeroValue5
 t9 := Tryz.underlying9
 a9 := Tryz.isAgg9
 z9 := Tryz.sizeOf9
 v9 := Tryz.zeroValue9
 t22 := Tryz.underlying22
 a22 := Tryz.isAgg22
 z22 := Tryz.sizeOf22
 v22 := Tryz.zeroValue22
 t25 := Tryz.underlying171
 a25 := Tryz.isAgg171
 z25 := Tryz.sizeOf171
 v25 := Tryz.zeroValue171
 t39 := Tryz.underlying177
 a39 := Tryz.isAgg177
 z39 := Tryz.sizeOf177
 v39 := Tryz.zeroValue177
 t45 := Tryz.underlying224
 a45 := Tryz.isAgg224
 z45 := Tryz.sizeOf224
 v45 := Tryz.zeroValue224
 t46 := Tryz.underlying225
 a46 := Tryz.isAgg225
 z46 := Tryz.sizeOf225
 v46 := Tryz.zeroValue225
 t50 := Tryz.underlying119
 a50 := Tryz.isAgg119
 z50 := Tryz.sizeOf119
 v50 := Tryz.zeroValue119
 t53 := Tryz.underlying231
 a53 := Tryz.isAgg231
 z53 := Tryz.sizeOf231
 v53 := Tryz.zeroValue231
 t55 := Tryz.underlying233
 a55 := Tryz.isAgg233
 z55 := Tryz.sizeOf233
 v55 := Tryz.zeroValue233
 t66 := Tryz.underlying239
 a66 := Tryz.isAgg239
 z66 := Tryz.sizeOf239
 v66 := Tryz.zeroValue239
 t70 := Tryz.underlying243
 a70 := Tryz.isAgg243
 z70 := Tryz.sizeOf243
 v70 := Tryz.zeroValue243
 t76 := Tryz.underlying252
 a76 := Tryz.isAgg252
 z76 := Tryz.sizeOf252
 v76 := Tryz.zeroValue252
 t77 := Tryz.underlying253
 a77 := Tryz.isAgg253
 z77 := Tryz.sizeOf253
 v77 := Tryz.zeroValue253 }
end Go.Proofs.YthfnphcefkdgbaaGreat
end
section
namespace Go.Proofs.YthfnphcefkdgbaaGreat
open Go.RowKit Go.Sort Go.Shelf
abbrev R5b : Type := { r : R5 // r.k.n.size ≤ 1000000 }
instance : Inhabited R5b := ⟨⟨⟨⟨⟨#[]⟩, 0, 0⟩, 0, ⟨#[]⟩⟩, Nat.zero_le _⟩⟩
def encB (r : R5b) : List Value := encR r.1
theorem encB_len (x : R5b) : (encB x).length = 5 := rfl
theorem encB_one (x : R5b) : ∀ v ∈ encB x, v.oneCell' = true := by
 intro v hv
 simp only [encB, encR, List.mem_cons, List.not_mem_nil, or_false] at hv
 rcases hv with rfl | rfl | rfl | rfl | rfl <;> rfl
theorem flatK_list (d : Array R5b) : (flatK encB 5 d).toList = d.toList.flatMap encB := by
 apply List.ext_getElem?
 intro t
 rw [flatMap_get encB 5 encB_len (by omega)]
 by_cases ht : t < d.size * 5
 · have h1 := get_flatK encB 5 d t ht
   have hd : t / 5 < d.size := by omega
   rw [Array.getElem?_toList, Array.getElem?_eq_getElem (by rw [size_flatK]; exact ht)]
   rw [getElem!_pos (flatK encB 5 d) t (by rw [size_flatK]; exact ht)] at h1
   rw [h1, Array.getElem?_toList, Array.getElem?_eq_getElem hd, getElem!_pos d (t / 5) hd]
   simp only [Option.bind_some]
   have h5 : t % 5 < (encB d[t / 5]).length := by rw [encB_len]; omega
   rw [getElem!_pos (encB d[t / 5]) (t % 5) h5, List.getElem?_eq_getElem h5]
 · rw [List.getElem?_eq_none (by rw [Array.length_toList, size_flatK]; omega), List.getElem?_eq_none (by rw [Array.length_toList]; omega)]
   rfl
theorem belD_grow {w w' : World} (h : BelD w.heap.size w w') : ∃ q os, w' = grow (w.drewN q) os := by
 have hq : ∀ (n : Nat) (w : World), w.drewN n = { w with drawn := w.drawn + n } := by
   intro n
   induction n with
   | zero => intro w; rfl
   | succ n ih => intro w; show (w.drewN n).drew = _; rw [ih]; rfl
 refine ⟨w'.drawn - w.drawn, w'.heap.extract w.heap.size w'.heap.size, ?_⟩
 have h1 := h.b.os
 have h2 := h.b.tape
 have h3 := h.b.output
 have h4 := h.b.size
 have h5 := h.b.block
 have h6 := h.d
 rw [hq]
 obtain ⟨hp, tp, dr, os, out⟩ := w
 obtain ⟨hp', tp', dr', os', out'⟩ := w'
 simp only at h1 h2 h3 h4 h5 h6
 subst h1 h2 h3
 simp only [grow, World.mk.injEq, true_and]
 refine ⟨?_, by omega, trivial⟩
 apply Array.ext_getElem?
 intro i
 by_cases hi : i < hp.size
 · rw [Array.getElem?_append_left hi, h5 i hi]
 · rw [Array.getElem?_append_right (by omega), Array.getElem?_extract]
   by_cases hi2 : i < hp'.size
   · rw [if_pos (by omega), show hp.size + (i - hp.size) = i by omega]
   · rw [if_neg (by omega), Array.getElem?_eq_none (by omega)]
theorem cmpLaysRR (blk off size : Nat) (w : World) : CmpLays Tryz.prog 104 #[] encB 5 (fun a b : R5b => rcmp a.1 b.1) blk off size w :=
 fun _ _ _ _ x y => (rcompare5 x.1 y.1 _ x.2 y.2).mono fun _ _ ⟨he, hb⟩ => ⟨he, belD_grow hb⟩
theorem heap_sortedK {w : World} {g n : Nat} {os : Array Obj} {cur : Array Value} {e : TypeId} {fr : Nat × Nat} (F : Array Value) (hb : w.heap[g]? = some (.cells cur e fr)) :
  (grow (putRow id (Sort.ahead w n) g 0 F) os).heap[g]? = some (.cells (putCells id 0 F cur) e fr) := by
 have hg : g < w.heap.size := (Array.getElem?_eq_some_iff.1 hb).1
 rw [heap_grow_old _ _ (by simpa using hg)]
 simp [putRow, mapBlock, Sort.ahead, Array.getElem?_modify, hb, onCells]
theorem grownBy_sortedK {w : World} {g n : Nat} {os : Array Obj} (F : Array Value) : w.grownBy (grow (putRow id (Sort.ahead w n) g 0 F) os) (some g) := by
 refine ⟨rfl, rfl, rfl, by simp, fun k hk hne => ?_⟩
 rw [heap_grow_old _ _ (by simpa using hk)]
 have : g ≠ k := fun e => hne (by rw [e])
 simp [putRow, mapBlock, Sort.ahead, Array.getElem?_modify, this]
theorem take_putCellsK (cur F : Array Value) (h : F.size ≤ cur.size) : (putCells id 0 F cur).toList.take F.size = F.toList := by
 apply List.ext_getElem?
 intro j
 by_cases hj : j < F.size
 · rw [List.getElem?_take_of_lt hj, Array.getElem?_toList]
   simp [putCells, hj, show j < cur.size by omega]
 · rw [List.getElem?_take_eq_none (by omega), List.getElem?_eq_none (by simp; omega)]
def SortedR (l : List R5) : Prop := l.Pairwise (fun x y => rcmp x y ≤ 0)
theorem sortRR_some (B g n cap : Nat) (l : List R5) (w : World) (hl : ∀ r ∈ l, r.k.n.size ≤ 1000000) (hn : l.length = n) (hown : w.ownsRow B 111 5 (.slice (some ⟨g, 0, none⟩) n cap) n (flatR l)) (hsz : n ≤ 1000000) :
   Calls Tryz.prog 103 #[.slice (some ⟨g, 0, none⟩) n cap, .func (.func 104) #[] #[]] w fun e w' => e = .returned (.tuple #[]) ∧ ∃ l' : List R5, l'.Perm l ∧ SortedR l' ∧ w'.ownsRow B 111 5 (.slice (some ⟨g, 0, none⟩) n cap) n (flatR l') ∧ w.grownBy w' (some g) := by
 obtain ⟨d, hd⟩ : ∃ d : Array R5b, d.toList = l.attach.map (fun x => ⟨x.1, hl x.1 x.2⟩) := ⟨(l.attach.map (fun x => (⟨x.1, hl x.1 x.2⟩ : R5b))).toArray, rfl⟩
 have hdl : d.toList.map Subtype.val = l := by
   rw [hd, List.map_map]
   show l.attach.map (fun x => x.1) = l
   exact List.attach_map_subtype_val l
 have hds : d.size = n := by rw [← hn, ← hdl, List.length_map, Array.length_toList]
 have hfl : (flatK encB 5 d).toList = flatR l := by
   rw [flatK_list, ← hdl, flatR, List.flatMap_map]; rfl
 have hlt := (hown.lt g rfl)
 have hH : HoldsK encB 5 w g 0 d := by
   intro j hj
   rw [size_flatK, hds] at hj
   have h1 := hown.cellAt j hj
   refine ⟨?_, by rw [Nat.zero_add]; exact hown.frozenAt j⟩
   rw [Nat.zero_add, h1, ← hfl, Array.getElem?_toList, Array.getElem?_eq_getElem (by rw [size_flatK, hds]; exact hj), getElem!_pos _ j (by rw [size_flatK, hds]; exact hj)]
   rfl
 have eg : ∀ args w, (callFunc 104 args).run Tryz.prog w = .ok (.enter 104 args) w := enters_of Tryz.func104 (by kernel_rfl) rfl
 have hcon := AnyQ.slices_SortFunc sortRR 5 Tryz.isAgg111 Tryz.sizeOf111 encB encB_len encB_one (fun a b : R5b => rcmp a.1 b.1) (pre_rcmp.comap Subtype.val).swo 104 #[] g 0 cap d w eg (cmpLaysRR g 0 d.size w) hH hlt.2 (by omega)
 change Calls Tryz.prog 103 _ _ _ at hcon
 rw [hds] at hcon
 refine hcon.mono ?_
 rintro e w' ⟨rfl, d', m, os, hp, hs, rfl⟩
 have hds' : d'.size = n := by rw [hp.1, hds]
 refine ⟨rfl, d'.toList.map Subtype.val, ?_, ?_, ?_, grownBy_sortedK _⟩
 · rw [← hdl]
   refine List.Perm.map _ ?_
   have h3 := hp.2.2
   rw [show n = d'.size from hds'.symm, Array.extract_size] at h3
   rw [show d'.size = d.size by omega, Array.extract_size] at h3
   exact h3
 · rw [SortedR, List.pairwise_map, List.pairwise_iff_getElem]
   intro i j hi hj hij
   rw [Array.length_toList] at hi hj
   have h3 := hs i j (Nat.zero_le _) hij (by omega)
   rw [getElem!_pos d' i hi, getElem!_pos d' j hj] at h3
   have h4 : ¬ rcmp d'[j].1 d'[i].1 < 0 := of_decide_eq_false h3
   have h5 := pre_rcmp.anti d'[j].1 d'[i].1
   rw [Array.getElem_toList, Array.getElem_toList]
   omega
 · have hfl' : (flatK encB 5 d').toList = flatR (d'.toList.map Subtype.val) := by
     rw [flatK_list, flatR, List.flatMap_map]; rfl
   rcases hown.2 with ⟨h', _⟩ | ⟨g', cap', cur, h', hb, hgg, hnc, hcm, hcs, htake⟩
   · cases h'
   · injection h' with h1 h2 h3
     injection h1 with h1
     injection h1 with h1
     subst h1 h3
     have hsz' : (flatK encB 5 d').size = n * 5 := by rw [size_flatK, hds']
     refine ⟨by rw [flatR_len, List.length_map, Array.length_toList, hds'], Or.inr ⟨g, cap, _, rfl, hb, heap_sortedK _ hgg, hnc, hcm, by simp [putCells, hcs], ?_⟩⟩
     rw [← hfl', ← hsz']
     exact take_putCellsK cur _ (by rw [hsz', hcs]; exact Nat.mul_le_mul_right 5 hnc)
theorem sortRR_none (p : Option Addr) (cap : Nat) (fv : Value) (w : World) : Calls Tryz.prog 103 #[.slice p 0 cap, fv] w fun e w' => e = .returned (.tuple #[]) ∧ w' = w := by
 have h := AnyF.slices_SortFunc_none sortRR p cap fv w
 change Calls Tryz.prog 103 _ _ _ at h
 exact h
end Go.Proofs.YthfnphcefkdgbaaGreat
end
section
namespace Go.Proofs.YthfnphcefkdgbaaGreat
open Go.RowKit
def OwnSets (w : World) (B : Nat) (v : Value) (L : List (SetP × Value)) : Prop :=
 w.ownsRow B 38 5 v L.length (flatS L) ∧ (∀ p ∈ L, w.ownsRow B 9 1 p.2 p.1.data.length (sc p.1.data)) ∧ L.Pairwise (fun p q => ∀ g, p.2.ownBlock = some g → q.2.ownBlock ≠ some g)
theorem OwnSets.nil (w : World) (B : Nat) : OwnSets w B (.slice none 0 0) [] := ⟨World.ownsRow_nil _ _ _ _, (fun p h => by cases h), List.Pairwise.nil⟩
theorem infoSet : (Tryz.prog.info? 38).map (fun i => (i.zero, i.size, i.bytes)) = some (some (.agg #[.string ⟨#[]⟩, .int .i64 0, .int .i64 0, .int .i64 0, .slice none 0 0]), 5, 64) := by kernel_rfl
theorem own_ne2 {w : World} {B1 B2 n1 n2 s1 s2 : Nat} {e1 e2 : TypeId} {v1 v2 : Value} {x1 x2 : List Value} (he : e1 ≠ e2) (h1 : w.ownsRow B1 e1 s1 v1 n1 x1) (h2 : w.ownsRow B2 e2 s2 v2 n2 x2) : v1.ownBlock = none ∨ v1.ownBlock ≠ v2.ownBlock := by
 rcases h1.2 with ⟨rfl, _⟩ | ⟨g1, c1, u1, rfl, _, hg1, _⟩
 · exact Or.inl rfl
 · right
   rcases h2.2 with ⟨rfl, _⟩ | ⟨g2, c2, u2, rfl, _, hg2, _⟩
   · simp [Value.ownBlock]
   · simp only [Value.ownBlock]
     intro h
     have hgg : g1 = g2 := by simpa using h
     subst hgg
     rw [hg1] at hg2
     simp at hg2
     exact he hg2.2
theorem OwnSets.below {w w' : World} {B : Nat} {v : Value} {L : List (SetP × Value)} (h : OwnSets w B v L) (hb : Below w.heap.size w w') : OwnSets w' B v L :=
 ⟨own_below' h.1 hb, fun p hp => own_below' (h.2.1 p hp) hb, h.2.2⟩
def TyAt (w : World) (q : Nat) : Prop := ∃ cur fr, w.heap[q]? = some (.cells cur 111 fr)
theorem TyAt.below {w w' : World} {q : Nat} (h : TyAt w q) (hb : Below w.heap.size w w') : TyAt w' q := by
 obtain ⟨cur, fr, h⟩ := h
 exact ⟨cur, fr, by rw [hb.block q (Array.getElem?_eq_some_iff.1 h).1]; exact h⟩
theorem TyAt.grown {w w' : World} {q : Nat} {row : Option Nat} (h : TyAt w q) (hg : w.grownBy w' row) (hne : row ≠ some q) : TyAt w' q := by
 obtain ⟨cur, fr, h⟩ := h
 exact ⟨cur, fr, by rw [hg.block q (Array.getElem?_eq_some_iff.1 h).1 (fun e => hne e.symm)]; exact h⟩
theorem TyAt.ne {w : World} {q B n s : Nat} {e : TypeId} {v : Value} {xs : List Value} (h : TyAt w q) (he : e ≠ 111) (ho : w.ownsRow B e s v n xs) : v.ownBlock ≠ some q := by
 intro e2
 obtain ⟨cur, fr, h⟩ := h
 rcases ho.2 with ⟨rfl, _⟩ | ⟨g2, c2, u2, rfl, _, hg2, _⟩
 · cases e2
 · have : g2 = q := by simpa [Value.ownBlock] using e2
   subst this
   rw [h] at hg2
   simp at hg2
   exact he hg2.2.1.symm
def ST (B : Nat) (w0 : World) (q g n cap : Nat) (r : R5) (l : List R5) (sv : Value) (L : List (SetP × Value)) (w : World) : Prop :=
 RRAt5 w q r ∧ w.ownsRow B 111 5 (.slice (some ⟨g, 0, none⟩) n cap) n (flatR l) ∧ OwnSets w B sv L ∧ Below B w0 w ∧ TyAt w q
theorem ST.below {B : Nat} {w0 w w' : World} {q g n cap : Nat} {r : R5} {l : List R5} {sv : Value} {L : List (SetP × Value)} (h : ST B w0 q g n cap r l sv L w) (hb : Below w.heap.size w w') (hB : B ≤ w.heap.size) : ST B w0 q g n cap r l sv L w' :=
 ⟨h.1.below hb, own_below' h.2.1 hb, h.2.2.1.below hb, h.2.2.2.1.trans (hb.mono hB), h.2.2.2.2.below hb⟩
def addD (s : SetP) (r : R5) : SetP := if s.data.getLast? = some r.d then s else { s with data := s.data ++ [r.d] }
def lastOr (S : List SetP) (r : R5) : SetP := (S.getLast?).getD ⟨r.k, r.ttl, []⟩
noncomputable def grpK (l : List R5) : Nat → List SetP
 | 0 => []
 | k + 1 =>
  match l[k]? with
  | none => grpK l k
  | some r => open Classical in if 0 < k ∧ (l[k - 1]?.map R5.k) = some r.k then (grpK l k).dropLast ++ [addD { (lastOr (grpK l k) r) with ttl := min (lastOr (grpK l k) r).ttl r.ttl } r] else grpK l k ++ [addD ⟨r.k, r.ttl, []⟩ r]
theorem row_cells {w : World} {B g n cap : Nat} {l : List R5} (h : w.ownsRow B 111 5 (.slice (some ⟨g, 0, none⟩) n cap) n (flatR l)) (j : Nat) (r : R5) (hr : l[j]? = some r) : w.cell? ⟨g, j * 5, none⟩ = some (.string r.k.n) ∧ w.cell? ⟨g, j * 5 + 1, none⟩ = some (.int .i64 r.k.t) ∧ w.cell? ⟨g, j * 5 + 2, none⟩ = some (.int .i64 r.k.c) ∧ w.cell? ⟨g, j * 5 + 3, none⟩ = some (.int .i64 r.ttl) ∧ w.cell? ⟨g, j * 5 + 4, none⟩ = some (.string r.d) := by
 have hg : ∀ i, i < 5 → ∀ u, (encR r)[i]? = some u → w.cell? ⟨g, j * 5 + i, none⟩ = some u := fun i hi u hu => ownsRow_at h _ _ (by
  rw [flatR, flatMap_get encR 5 encR_len (by omega), show (j * 5 + i) / 5 = j by omega, show (j * 5 + i) % 5 = i by omega, hr]
  exact hu)
 exact ⟨hg 0 (by omega) _ rfl, hg 1 (by omega) _ rfl, hg 2 (by omega) _ rfl, hg 3 (by omega) _ rfl, hg 4 (by omega) _ rfl⟩
theorem ST.shown {B : Nat} {w0 : World} {q g n cap k : Nat} {rn rd pn pd : ByteArray} {rt rc ru pt pc pu : Int} {l : List R5} {sv : Value} {L : List (SetP × Value)} {wx : World} (h : ST B w0 q g n cap ⟨⟨rn, rt, rc⟩, ru, rd⟩ l sv L wx) (hp : l[k]? = some ⟨⟨pn, pt, pc⟩, pu, pd⟩) : Hid (ST B w0 q g n cap ⟨⟨rn, rt, rc⟩, ru, rd⟩ l sv L wx) ∧ wx.cell? ⟨q, 0, none⟩ = some (.string rn) ∧ wx.cell? ⟨q, 1, none⟩ = some (.int .i64 rt) ∧ wx.cell? ⟨q, 2, none⟩ = some (.int .i64 rc) ∧ wx.cell? ⟨q, 3, none⟩ = some (.int .i64 ru) ∧ wx.cell? ⟨q, 4, none⟩ = some (.string rd) ∧ wx.cell? ⟨g, k * 5, none⟩ = some (.string pn) ∧ wx.cell? ⟨g, k * 5 + 1, none⟩ = some (.int .i64 pt) ∧ wx.cell? ⟨g, k * 5 + 2, none⟩ = some (.int .i64 pc) ∧ wx.cell? ⟨g, k * 5 + 3, none⟩ = some (.int .i64 pu) ∧ wx.cell? ⟨g, k * 5 + 4, none⟩ = some (.string pd) :=
 have h1 := row_cells h.2.1 k _ hp
 ⟨h, h.1.2.1, h.1.2.2.1, h.1.2.2.2.1, h.1.2.2.2.2.1, h.1.2.2.2.2.2, h1.1, h1.2.1, h1.2.2.1, h1.2.2.2.1, h1.2.2.2.2⟩
theorem ST.next {B : Nat} {w0 : World} {q g n cap k : Nat} {rn rd pn pd : ByteArray} {rt rc ru pt pc pu : Int} {l : List R5} {sv : Value} {L : List (SetP × Value)} {wx wy : World} (hb : Below wx.heap.size wx wy) (hp : Hid (l[k]? = some ⟨⟨pn, pt, pc⟩, pu, pd⟩)) (hB : Hid (B ≤ w0.heap.size)) (h : Hid (ST B w0 q g n cap ⟨⟨rn, rt, rc⟩, ru, rd⟩ l sv L wx) ∧ wx.cell? ⟨q, 0, none⟩ = some (.string rn) ∧ wx.cell? ⟨q, 1, none⟩ = some (.int .i64 rt) ∧ wx.cell? ⟨q, 2, none⟩ = some (.int .i64 rc) ∧ wx.cell? ⟨q, 3, none⟩ = some (.int .i64 ru) ∧ wx.cell? ⟨q, 4, none⟩ = some (.string rd) ∧ wx.cell? ⟨g, k * 5, none⟩ = some (.string pn) ∧ wx.cell? ⟨g, k * 5 + 1, none⟩ = some (.int .i64 pt) ∧ wx.cell? ⟨g, k * 5 + 2, none⟩ = some (.int .i64 pc) ∧ wx.cell? ⟨g, k * 5 + 3, none⟩ = some (.int .i64 pu) ∧ wx.cell? ⟨g, k * 5 + 4, none⟩ = some (.string pd)) : Hid (ST B w0 q g n cap ⟨⟨rn, rt, rc⟩, ru, rd⟩ l sv L wy) ∧ wy.cell? ⟨q, 0, none⟩ = some (.string rn) ∧ wy.cell? ⟨q, 1, none⟩ = some (.int .i64 rt) ∧ wy.cell? ⟨q, 2, none⟩ = some (.int .i64 rc) ∧ wy.cell? ⟨q, 3, none⟩ = some (.int .i64 ru) ∧ wy.cell? ⟨q, 4, none⟩ = some (.string rd) ∧ wy.cell? ⟨g, k * 5, none⟩ = some (.string pn) ∧ wy.cell? ⟨g, k * 5 + 1, none⟩ = some (.int .i64 pt) ∧ wy.cell? ⟨g, k * 5 + 2, none⟩ = some (.int .i64 pc) ∧ wy.cell? ⟨g, k * 5 + 3, none⟩ = some (.int .i64 pu) ∧ wy.cell? ⟨g, k * 5 + 4, none⟩ = some (.string pd) :=
 ST.shown (h.1.out.below hb (Nat.le_trans hB.out h.1.out.2.2.2.1.size)) hp.out
theorem ST.get {B : Nat} {w0 : World} {q g n cap k : Nat} {rn rd pn pd : ByteArray} {rt rc ru pt pc pu : Int} {l : List R5} {sv : Value} {L : List (SetP × Value)} {wx : World} (h : Hid (ST B w0 q g n cap ⟨⟨rn, rt, rc⟩, ru, rd⟩ l sv L wx) ∧ wx.cell? ⟨q, 0, none⟩ = some (.string rn) ∧ wx.cell? ⟨q, 1, none⟩ = some (.int .i64 rt) ∧ wx.cell? ⟨q, 2, none⟩ = some (.int .i64 rc) ∧ wx.cell? ⟨q, 3, none⟩ = some (.int .i64 ru) ∧ wx.cell? ⟨q, 4, none⟩ = some (.string rd) ∧ wx.cell? ⟨g, k * 5, none⟩ = some (.string pn) ∧ wx.cell? ⟨g, k * 5 + 1, none⟩ = some (.int .i64 pt) ∧ wx.cell? ⟨g, k * 5 + 2, none⟩ = some (.int .i64 pc) ∧ wx.cell? ⟨g, k * 5 + 3, none⟩ = some (.int .i64 pu) ∧ wx.cell? ⟨g, k * 5 + 4, none⟩ = some (.string pd)) : ST B w0 q g n cap ⟨⟨rn, rt, rc⟩, ru, rd⟩ l sv L wx := h.1.out
theorem RQ.shown {wx : World} {q : Nat} {rn rd : ByteArray} {rt rc ru : Int} (h : RRAt5 wx q ⟨⟨rn, rt, rc⟩, ru, rd⟩) : Hid (RRAt5 wx q ⟨⟨rn, rt, rc⟩, ru, rd⟩) ∧ wx.cell? ⟨q, 0, none⟩ = some (.string rn) ∧ wx.cell? ⟨q, 1, none⟩ = some (.int .i64 rt) ∧ wx.cell? ⟨q, 2, none⟩ = some (.int .i64 rc) ∧ wx.cell? ⟨q, 3, none⟩ = some (.int .i64 ru) ∧ wx.cell? ⟨q, 4, none⟩ = some (.string rd) := ⟨h, h.2.1, h.2.2.1, h.2.2.2.1, h.2.2.2.2.1, h.2.2.2.2.2⟩
theorem RQ.next {wx wy : World} {q : Nat} {rn rd : ByteArray} {rt rc ru : Int} (hb : Below wx.heap.size wx wy) (h : Hid (RRAt5 wx q ⟨⟨rn, rt, rc⟩, ru, rd⟩) ∧ wx.cell? ⟨q, 0, none⟩ = some (.string rn) ∧ wx.cell? ⟨q, 1, none⟩ = some (.int .i64 rt) ∧ wx.cell? ⟨q, 2, none⟩ = some (.int .i64 rc) ∧ wx.cell? ⟨q, 3, none⟩ = some (.int .i64 ru) ∧ wx.cell? ⟨q, 4, none⟩ = some (.string rd)) : Hid (RRAt5 wy q ⟨⟨rn, rt, rc⟩, ru, rd⟩) ∧ wy.cell? ⟨q, 0, none⟩ = some (.string rn) ∧ wy.cell? ⟨q, 1, none⟩ = some (.int .i64 rt) ∧ wy.cell? ⟨q, 2, none⟩ = some (.int .i64 rc) ∧ wy.cell? ⟨q, 3, none⟩ = some (.int .i64 ru) ∧ wy.cell? ⟨q, 4, none⟩ = some (.string rd) := RQ.shown (h.1.out.below hb)
theorem RRAt5.grown {w w' : World} {q : Nat} {r : R5} {row : Option Nat} (h : RRAt5 w q r) (hg : w.grownBy w' row) (hne : row ≠ some q) : RRAt5 w' q r := by
 obtain ⟨h0, h1, h2, h3, h4, h5⟩ := h
 have hk : ∀ i v, w.cell? ⟨q, i, none⟩ = some v → w'.cell? ⟨q, i, none⟩ = some v := fun i v hv => hg.cell hv (fun e => hne e.symm)
 exact ⟨Nat.lt_of_lt_of_le h0 hg.size, hk _ _ h1, hk _ _ h2, hk _ _ h3, hk _ _ h4, hk _ _ h5⟩
theorem RQ.grown {wx wy : World} {q : Nat} {rn rd : ByteArray} {rt rc ru : Int} {row : Option Nat} (hg : wx.grownBy wy row) (hne : row ≠ some q) (h : Hid (RRAt5 wx q ⟨⟨rn, rt, rc⟩, ru, rd⟩) ∧ wx.cell? ⟨q, 0, none⟩ = some (.string rn) ∧ wx.cell? ⟨q, 1, none⟩ = some (.int .i64 rt) ∧ wx.cell? ⟨q, 2, none⟩ = some (.int .i64 rc) ∧ wx.cell? ⟨q, 3, none⟩ = some (.int .i64 ru) ∧ wx.cell? ⟨q, 4, none⟩ = some (.string rd)) : Hid (RRAt5 wy q ⟨⟨rn, rt, rc⟩, ru, rd⟩) ∧ wy.cell? ⟨q, 0, none⟩ = some (.string rn) ∧ wy.cell? ⟨q, 1, none⟩ = some (.int .i64 rt) ∧ wy.cell? ⟨q, 2, none⟩ = some (.int .i64 rc) ∧ wy.cell? ⟨q, 3, none⟩ = some (.int .i64 ru) ∧ wy.cell? ⟨q, 4, none⟩ = some (.string rd) := RQ.shown (h.1.out.grown hg hne)
theorem OwnSets.snoc {w w' : World} {B : Nat} {v v' : Value} {L : List (SetP × Value)} (h : OwnSets w B v L) (s : SetP) (hs : s.data = []) (ho : w'.ownsRow B 38 5 v' (L.length + 1) (flatS L ++ encS (s, .slice none 0 0))) (hg : w.grownBy w' v.ownBlock) : OwnSets w' B v' (L ++ [(s, .slice none 0 0)]) := by
 refine ⟨by rw [flatS_append, List.length_append]; show w'.ownsRow B 38 5 v' (L.length + 1) (flatS L ++ (encS (s, .slice none 0 0) ++ [])); rw [List.append_nil]; exact ho, fun p hp => ?_, ?_⟩
 · rcases List.mem_append.1 hp with hp | hp
   · exact (h.2.1 p hp).kept hg (own_ne2 (by decide) (h.2.1 p hp) h.1)
   · obtain rfl := List.mem_singleton.1 hp
     rw [hs]; exact World.ownsRow_nil _ _ _ _
 · rw [List.pairwise_append]
   refine ⟨h.2.2, List.pairwise_singleton _ _, fun p _ q hq g _ e => ?_⟩
   obtain rfl := List.mem_singleton.1 hq
   cases e
theorem grpK_len (l : List R5) : ∀ k, (grpK l k).length ≤ k := by
 intro k
 induction k with
 | zero => exact Nat.le_refl _
 | succ k ih =>
  rw [grpK]
  split
  · omega
  · split
    · rw [List.length_append, List.length_dropLast, List.length_singleton]; omega
    · rw [List.length_append, List.length_singleton]; omega
theorem grpK_ne (l : List R5) (k : Nat) (r : R5) (hr : l[k]? = some r) : grpK l (k + 1) ≠ [] := by
 rw [grpK, hr]
 dsimp only
 split <;> simp
theorem RQ.get {wx : World} {q : Nat} {rn rd : ByteArray} {rt rc ru : Int} (h : Hid (RRAt5 wx q ⟨⟨rn, rt, rc⟩, ru, rd⟩) ∧ wx.cell? ⟨q, 0, none⟩ = some (.string rn) ∧ wx.cell? ⟨q, 1, none⟩ = some (.int .i64 rt) ∧ wx.cell? ⟨q, 2, none⟩ = some (.int .i64 rc) ∧ wx.cell? ⟨q, 3, none⟩ = some (.int .i64 ru) ∧ wx.cell? ⟨q, 4, none⟩ = some (.string rd)) : RRAt5 wx q ⟨⟨rn, rt, rc⟩, ru, rd⟩ := h.1.out
theorem flatS_last (L0 : List (SetP × Value)) (p p' : SetP × Value) (j : Nat) (u : Value) (h : (encS p).set j u = encS p') : (flatS (L0 ++ [p])).set (L0.length * 5 + j) u = flatS (L0 ++ [p']) := by
 rw [flatS_append, flatS_append]
 have e : ∀ x, flatS [x] = encS x := fun x => by rw [flatS, List.flatMap_cons, List.flatMap_nil, List.append_nil]
 rw [e, e, List.set_append_right _ _ (by rw [flatS_len]; omega), flatS_len, Nat.add_sub_cancel_left, h]
theorem OwnSets.shape {w : World} {B : Nat} {v : Value} {L0 : List (SetP × Value)} {p : SetP × Value} (h : OwnSets w B v (L0 ++ [p])) : ∃ g c, v = .slice (some ⟨g, 0, none⟩) (L0.length + 1) c ∧ B ≤ g ∧ g < w.heap.size := by
 have h1 := h.1
 rw [List.length_append] at h1
 have h1 : w.ownsRow B 38 5 v (L0.length + 1) (flatS (L0 ++ [p])) := h1
 rcases h1.2 with ⟨_, h0⟩ | ⟨g, cap, cur, rfl, hb, hg, _⟩
 · omega
 · exact ⟨g, cap, rfl, hb, (Array.getElem?_eq_some_iff.1 hg).1⟩
theorem OwnSets.last {w : World} {B g c : Nat} {L0 : List (SetP × Value)} {s : SetP} {dv : Value} (h : OwnSets w B (.slice (some ⟨g, 0, none⟩) (L0.length + 1) c) (L0 ++ [(s, dv)])) : w.cell? ⟨g, L0.length * 5 + 3, none⟩ = some (.int .i64 s.ttl) ∧ w.cell? ⟨g, L0.length * 5 + 4, none⟩ = some dv ∧ (∀ j, w.frozen? ⟨g, j, none⟩ = false) ∧ w.ownsRow B 9 1 dv s.data.length (sc s.data) := by
 have h1 := h.1
 rw [List.length_append] at h1
 have h1 : w.ownsRow B 38 5 (.slice (some ⟨g, 0, none⟩) (L0.length + 1) c) (L0.length + 1) (flatS (L0 ++ [(s, dv)])) := h1
 have hj : ∀ j u, j < 5 → (encS (s, dv))[j]? = some u → w.cell? ⟨g, L0.length * 5 + j, none⟩ = some u := fun j u hj hu => ownsRow_at h1 _ _ (by
  rw [flatS_append, List.getElem?_append_right (by rw [flatS_len]; omega), flatS_len, Nat.add_sub_cancel_left, flatS, List.flatMap_cons, List.flatMap_nil, List.append_nil]
  exact hu)
 exact ⟨hj 3 _ (by omega) rfl, hj 4 _ (by omega) rfl, fun j => h1.frozenAt j, h.2.1 (s, dv) (by simp)⟩
theorem OwnSets.setTtl {w : World} {B g c : Nat} {L0 : List (SetP × Value)} {s : SetP} {dv : Value} (h : OwnSets w B (.slice (some ⟨g, 0, none⟩) (L0.length + 1) c) (L0 ++ [(s, dv)])) (x : Int) : OwnSets (w.setCell ⟨g, L0.length * 5 + 3, none⟩ (.int .i64 x)) B (.slice (some ⟨g, 0, none⟩) (L0.length + 1) c) (L0 ++ [({ s with ttl := x }, dv)]) ∧ w.grownBy (w.setCell ⟨g, L0.length * 5 + 3, none⟩ (.int .i64 x)) (some g) := by
 have h1 := h.1
 rw [List.length_append] at h1
 have h1 : w.ownsRow B 38 5 (.slice (some ⟨g, 0, none⟩) (L0.length + 1) c) (L0.length + 1) (flatS (L0 ++ [(s, dv)])) := h1
 obtain ⟨k1, k2⟩ := h1.stored (L0.length * 5 + 3) (.int .i64 x)
 rw [flatS_last L0 (s, dv) ({ s with ttl := x }, dv) 3 _ rfl] at k1
 refine ⟨⟨by rw [List.length_append]; exact k1, fun p hp => ?_, ?_⟩, k2⟩
 · rcases List.mem_append.1 hp with hp | hp
   · have h5 := h.2.1 p (List.mem_append_left _ hp)
     exact h5.kept k2 (own_ne2 (by decide) h5 h1)
   · obtain rfl := List.mem_singleton.1 hp
     have h5 := h.2.1 (s, dv) (by simp)
     exact h5.kept k2 (own_ne2 (by decide) h5 h1)
 · have h6 := h.2.2
   rw [List.pairwise_append] at h6 ⊢
   refine ⟨h6.1, List.pairwise_singleton _ _, fun p hp q hq => ?_⟩
   obtain rfl := List.mem_singleton.1 hq
   exact h6.2.2 p hp (s, dv) (by simp)
theorem OwnSets.setData {w w1 : World} {B g c : Nat} {L0 : List (SetP × Value)} {s : SetP} {dv dv' : Value} {d : ByteArray} (h : OwnSets w B (.slice (some ⟨g, 0, none⟩) (L0.length + 1) c) (L0 ++ [(s, dv)])) (ho : w1.ownsRow B 9 1 dv' (s.data.length + 1) (sc s.data ++ [.string d])) (hg : w.grownBy w1 dv.ownBlock) (hd : dv'.ownBlock = dv.ownBlock ∨ dv'.ownBlock = some w.heap.size) : OwnSets (w1.setCell ⟨g, L0.length * 5 + 4, none⟩ dv') B (.slice (some ⟨g, 0, none⟩) (L0.length + 1) c) (L0 ++ [({ s with data := s.data ++ [d] }, dv')]) ∧ w1.grownBy (w1.setCell ⟨g, L0.length * 5 + 4, none⟩ dv') (some g) := by
 have h1 := h.1
 rw [List.length_append] at h1
 have h1 : w.ownsRow B 38 5 (.slice (some ⟨g, 0, none⟩) (L0.length + 1) c) (L0.length + 1) (flatS (L0 ++ [(s, dv)])) := h1
 have hds := h.2.1 (s, dv) (by simp)
 have h2 := h1.kept hg (own_ne2 (by decide) h1 hds)
 obtain ⟨k1, k2⟩ := h2.stored (L0.length * 5 + 4) dv'
 rw [flatS_last L0 (s, dv) ({ s with data := s.data ++ [d] }, dv') 4 _ rfl] at k1
 have h6 := h.2.2
 rw [List.pairwise_append] at h6
 refine ⟨⟨by rw [List.length_append]; exact k1, fun p hp => ?_, ?_⟩, k2⟩
 · rcases List.mem_append.1 hp with hp | hp
   · have h5 := h.2.1 p (List.mem_append_left _ hp)
     have h7 := h5.kept hg (by
      cases e : p.2.ownBlock with
      | none => exact Or.inl rfl
      | some x =>
       right
       intro e2
       exact h6.2.2 p hp (s, dv) (by simp) x e e2.symm)
     exact h7.kept k2 (own_ne2 (by decide) h7 h2)
   · obtain rfl := List.mem_singleton.1 hp
     have h7 : w1.ownsRow B 9 1 dv' (s.data ++ [d]).length (sc (s.data ++ [d])) := by
      rw [List.length_append, sc_append]; exact ho
     exact h7.kept k2 (own_ne2 (by decide) h7 h2)
 · rw [List.pairwise_append]
   refine ⟨h6.1, List.pairwise_singleton _ _, fun p hp q hq x hx => ?_⟩
   obtain rfl := List.mem_singleton.1 hq
   intro e
   have e : dv'.ownBlock = some x := e
   rcases hd with h8 | h8
   · exact h6.2.2 p hp (s, dv) (by simp) x hx (by rw [← h8]; exact e)
   · rw [h8] at e
     have e2 := Option.some.inj e
     have h9 := ((h.2.1 p (List.mem_append_left _ hp)).lt x hx).2
     omega
theorem ST.set {B : Nat} {w0 w w1 : World} {q g n cap gs cs m : Nat} {r : R5} {l : List R5} {L L' : List (SetP × Value)} (h : ST B w0 q g n cap r l (.slice (some ⟨gs, 0, none⟩) m cs) L w) (ho : OwnSets w1 B (.slice (some ⟨gs, 0, none⟩) m cs) L') (hg : w.grownBy w1 (some gs)) (hB : B ≤ w.heap.size) (hgs : B ≤ gs) : ST B w0 q g n cap r l (.slice (some ⟨gs, 0, none⟩) m cs) L' w1 :=
 have hne : (some gs : Option Nat) ≠ some q := h.2.2.2.2.ne (by decide) h.2.2.1.1
 ⟨h.1.grown hg hne, h.2.1.kept hg (own_ne2 (by decide) h.2.1 h.2.2.1.1), ho, h.2.2.2.1.grown hg hB (fun k hk => by injection hk with hk; omega), h.2.2.2.2.grown hg hne⟩
theorem ST.app {B : Nat} {w0 w w1 : World} {q g n cap : Nat} {r : R5} {l : List R5} {sv dv : Value} {L : List (SetP × Value)} {nd : Nat} {xs : List Value} (h : ST B w0 q g n cap r l sv L w) (hd : w.ownsRow B 9 1 dv nd xs) (hg : w.grownBy w1 dv.ownBlock) (hB : B ≤ w.heap.size) : RRAt5 w1 q r ∧ w1.ownsRow B 111 5 (.slice (some ⟨g, 0, none⟩) n cap) n (flatR l) ∧ Below B w0 w1 ∧ TyAt w1 q :=
 have hne := h.2.2.2.2.ne (by decide) hd
 ⟨h.1.grown hg hne, h.2.1.kept hg (own_ne2 (by decide) h.2.1 hd), h.2.2.2.1.grown hg hB (fun k hk => (hd.lt k hk).1), h.2.2.2.2.grown hg hne⟩
theorem grpK_step {l : List R5} {k : Nat} {r : R5} {L L0 : List (SetP × Value)} {s : SetP} {dv dv' : Value} {nw : Bool} (hr : l[k]? = some r) (hL : L.map Prod.fst = grpK l k) (hnw : nw = true ↔ ¬ (0 < k ∧ (l[k - 1]?.map R5.k) = some r.k)) (hc : (nw = true → L0 = L ∧ s = ⟨r.k, r.ttl, []⟩) ∧ (nw = false → L = L0 ++ [(s, dv)])) : (L0 ++ [(addD { s with ttl := min s.ttl r.ttl } r, dv')]).map Prod.fst = grpK l (k + 1) := by
 rw [grpK, hr]
 dsimp only
 cases nw with
 | true =>
  obtain ⟨rfl, rfl⟩ := hc.1 rfl
  rw [if_neg (hnw.1 rfl), List.map_append, hL]
  simp only [List.map_cons, List.map_nil, Int.min_self]
 | false =>
  have h1 : 0 < k ∧ (l[k - 1]?.map R5.k) = some r.k := Classical.not_not.1 (fun h => by have := hnw.2 h; cases this)
  rw [if_pos h1, ← hL, hc.2 rfl, lastOr]
  simp
theorem ST.newset {B : Nat} {w0 wy w8 : World} {q g n cap : Nat} {r : R5} {l : List R5} {sv v8 : Value} {L : List (SetP × Value)} {o : Obj} {s : SetP} (h : ST B w0 q g n cap r l sv L wy) (hs : s.data = []) (HO : w8.ownsRow B 38 5 v8 (L.length + 1) (flatS L ++ encS (s, .slice none 0 0))) (HG : (wy.alloc o).grownBy w8 sv.ownBlock) (hB : B ≤ wy.heap.size) : ST B w0 q g n cap r l v8 (L ++ [(s, .slice none 0 0)]) w8 := by
 have ha := h.below ((Below.refl wy.heap.size wy).alloc (Nat.le_refl _) o) hB
 have hne := ha.2.2.2.2.ne (by decide) ha.2.2.1.1
 exact ⟨ha.1.grown HG hne, ha.2.1.kept HG (own_ne2 (by decide) ha.2.1 ha.2.2.1.1), ha.2.2.1.snoc s hs HO HG, ha.2.2.2.1.grown HG (by simp; omega) (fun k hk => (ha.2.2.1.1.lt k hk).1), ha.2.2.2.2.grown HG hne⟩
theorem ST.addOne {B : Nat} {w0 wl w2 : World} {q g n cap gs cs : Nat} {r : R5} {l : List R5} {L0 : List (SetP × Value)} {s : SetP} {dv dv' : Value} {d : ByteArray} (h : ST B w0 q g n cap r l (.slice (some ⟨gs, 0, none⟩) (L0.length + 1) cs) (L0 ++ [(s, dv)]) wl) (ho : w2.ownsRow B 9 1 dv' (s.data.length + 1) (sc s.data ++ [.string d])) (hg : wl.grownBy w2 dv.ownBlock) (hd : dv'.ownBlock = dv.ownBlock ∨ dv'.ownBlock = some wl.heap.size) (hB : B ≤ wl.heap.size) (hgs : B ≤ gs) : ST B w0 q g n cap r l (.slice (some ⟨gs, 0, none⟩) (L0.length + 1) cs) (L0 ++ [({ s with data := s.data ++ [d] }, dv')]) (w2.setCell ⟨gs, L0.length * 5 + 4, none⟩ dv') := by
 have hds := h.2.2.1.2.1 (s, dv) (by simp)
 obtain ⟨k1, k2⟩ := h.2.2.1.setData ho hg hd
 have hs2 := h.2.2.1.1.kept hg (own_ne2 (by decide) h.2.2.1.1 hds)
 obtain ⟨a1, a2, a3, a4⟩ := h.app hds hg hB
 have hne : (some gs : Option Nat) ≠ some q := a4.ne (by decide) hs2
 exact ⟨a1.grown k2 hne, a2.kept k2 (own_ne2 (by decide) a2 hs2), k1, a3.grown k2 (Nat.le_trans hB hg.size) (fun k hk => by injection hk with hk; omega), a4.grown k2 hne⟩
theorem grpK_data (l : List R5) : ∀ k, ∀ s ∈ grpK l k, s.data.length ≤ k := by
 intro k
 induction k with
 | zero => intro s hs; cases hs
 | succ k ih =>
  intro s hs
  have had : ∀ (s : SetP) (r : R5), s.data.length ≤ k → (addD s r).data.length ≤ k + 1 := fun s r h => by
    unfold addD
    split
    · omega
    · simp only [List.length_append, List.length_singleton]; omega
  rw [grpK] at hs
  split at hs
  · have := ih s hs; omega
  · rename_i r hr
    split at hs
    · rcases List.mem_append.1 hs with h | h
      · have := ih s (List.dropLast_subset _ h); omega
      · obtain rfl := List.mem_singleton.1 h
        refine had _ _ ?_
        show (lastOr (grpK l k) r).data.length ≤ k
        unfold lastOr
        cases e : (grpK l k).getLast? with
        | none => exact Nat.zero_le _
        | some x => exact ih x (List.mem_of_getLast? e)
    · rcases List.mem_append.1 hs with h | h
      · have := ih s h; omega
      · obtain rfl := List.mem_singleton.1 h
        exact had _ _ (Nat.zero_le _)
theorem step_one_str {wl : World} {ops : Array Oper} {o : Oper} {act : Act} {K : Act → World → Prop} {Q : Exit → Act → World → Prop} {E : Prop} (hgd : o.guard = none) (s x : Operand)
   (ho : o.op = .call { callee := .builtin .append, args := #[s, x], argTypes := #[36, 36] })
   (B : Nat) (v : Value) (n : Nat) (xs : List Value) (hs : act.eval s = v) (hown : wl.ownsRow B 9 1 v n xs) (b : Nat) (d : ByteArray) (hx : act.eval x = .slice (some ⟨b, 0, none⟩) 1 1) (hc : wl.cell? ⟨b, 0, none⟩ = some (.string d)) (hn : n ≤ 100000) (hB : B ≤ wl.heap.size)
   (h : ∀ v' w', w'.ownsRow B 9 1 v' (n + 1) (xs ++ [.string d]) → wl.grownBy w' v.ownBlock → (v'.ownBlock = v.ownBlock ∨ v'.ownBlock = some wl.heap.size) → K (act.put o.dst v') w') : if Region.wanted o (yielded ops act.tmps) = true then Oper.wp Tryz.prog o act wl K Q else E := by
 obtain ⟨i0, hi0, hy0, hy1, hy2⟩ := info_parts infoStr
 refine step_append_lies wl hgd s x 36 ho B 9 i0 (.string ⟨#[]⟩) 1 16 Tryz.underlying36 hi0 hy0 hy1 hy2 rfl (by decide) v n xs hs hown ⟨b, 0, none⟩ 1 1 [.string d] hx rfl ?_ (one_str d) (by decide) (by unfold maxLen; omega) (by omega) hB _ rfl ?_
 · intro j u hj
   have hj2 : j < 1 := (List.getElem?_eq_some_iff.1 hj).1
   have : j = 0 := by omega
   subst this
   simp at hj
   subst hj
   rw [Addr.add_mid]
   exact hc
 · intro g cap w' k1 k2 k3 _
   refine h _ w' k1 k2 ?_
   rcases k3 with e | e
   · exact Or.inl e.symm
   · exact Or.inr (by rw [e]; rfl)
theorem own_capS {w : World} {B g n c : Nat} {xs : List Value} (h : w.ownsRow B 9 1 (.slice (some ⟨g, 0, none⟩) n c) n xs) : n ≤ 9223372036854775807 := by
 rcases h.2 with ⟨h', _⟩ | ⟨g', cap', cur, h', hb, hgg, hnc, hcm, hcs, htake⟩
 · cases h'
 · unfold maxLen at hcm; omega
theorem ix_rr (g n cap k : Nat) (h : k < n) (W : World) : (Instr.indexAt 22 (.slice (some ⟨g, 0, none⟩) n cap) (.int .i64 (k : Int))).run Tryz.prog W = .ok (.pointer (some ⟨g, k * 5, none⟩)) W := by
 go_simp
set_option maxRecDepth 100000 in
set_option maxHeartbeats 6400000 in
theorem groupLoop (a : Option Addr) (n c : Nat) (l : List R5) (w : World) (h : RowR w a n l) (hn : a = none → n = 0 ∧ c = 0) (hlen : n ≤ 100000) (hl : ∀ r ∈ l, r.k.n.size ≤ 1000000) :
   Calls Tryz.prog 54 #[.slice a n c] w fun e w' => ∃ v l' L, e = .returned v ∧ l'.Perm l ∧ SortedR l' ∧ OwnSets w' w.heap.size v L ∧ L.map Prod.fst = grpK l' n ∧ Below w.heap.size w w' := by
 have HR := Lib.hid h
 have HN := Lib.hid hn
 clear h hn
 go_enter Tryz.func54, Tryz.ntmps54
 go_wp2_with fail
 refine (cloneRR a n c l w HR.out HN.out hlen).mono ?_; rintro e w1 ⟨v1, rfl, hown, hb⟩
 have hB1 := hb
 rcases hown.2 with ⟨rfl, rfl⟩ | ⟨g, cap, cur, rfl, hgb, _⟩
 · have HB1 := Lib.hid hB1
   have hl0 : l = [] := List.eq_nil_of_length_eq_zero HR.out.1
   clear hown hb hB1
   go_wp2_with fail
   refine (sortRR_none none 0 _ w1).mono ?_; rintro e w2 ⟨rfl, rfl⟩
   go_wp2_with fail
   go_loopw [4, 14] (fun sv i wr => sv = .slice none 0 0 ∧ i = .int .i64 0 ∧ w2 = wr) (fun _ _ _ => 0)
   case atStart => exact ⟨rfl, rfl, rfl⟩
   case round =>
     obtain ⟨rfl, rfl, rfl⟩ := hrel
     go_wp2
     go_ret
     exact ⟨_, [], [], rfl, by rw [hl0], List.Pairwise.nil, OwnSets.nil _ _, rfl, HB1.out⟩
 have HB1 := Lib.hid hb
 have HO1 := Lib.hid hown
 clear hown hb hB1
 go_wp2_with fail
 refine (sortRR_some w.heap.size g n cap l w1 hl HR.out.1 HO1.out (by omega)).mono ?_; rintro e w2 ⟨rfl, l', hperm, hsort, hown2, hgr⟩
 have HP := Lib.hid hperm
 have HS := Lib.hid hsort
 have HO2 := Lib.hid hown2
 have HB2 := Lib.hid (HB1.out.grown hgr HB1.out.size (fun k hk => by injection hk with hk; omega))
 have hln : l'.length = n := by rw [hperm.length_eq]; exact HR.out.1
 have HLN := Lib.hid hln
 clear hperm hsort hown2 hgr HB1 HO1 hln
 go_wp2_with fail
 go_loopw [4, 14] (fun sv i wr => ∃ (k : Nat) (L : List (SetP × Value)), k ≤ n ∧ i = .int .i64 k ∧ wr.ownsRow w.heap.size 111 5 (.slice (some ⟨g, 0, none⟩) n cap) n (flatR l') ∧ OwnSets wr w.heap.size sv L ∧ Hid (L.map Prod.fst = grpK l' k) ∧ Below w.heap.size w wr) (fun _ i _ => n - (intOf i).toNat)
 case atStart => exact ⟨0, [], Nat.zero_le _, rfl, HO2.out, OwnSets.nil _ _, rfl, HB2.out⟩
 case round =>
   obtain ⟨k, L, hk, rfl, hown, hos, hL, hbel⟩ := hrel
   have HO := Lib.hid hown
   have HOS := Lib.hid hos
   have HBL := Lib.hid hbel
   clear hown hos hbel HO2 HB2
   by_cases hlt : k < n
   · obtain ⟨_, _, e1, hrr, _⟩ := rowR_own HO.out
     obtain ⟨b, off, r, e2, hbl, hr, c0, c1, c2, c3, c4⟩ := hrr.at k hlt
     injection e1 with e1 e3 e4
     rw [← e1] at e2
     injection e2 with e2
     injection e2 with e2 e5
     subst e2 e5
     rw [Nat.zero_add] at c0 c1 c2 c3 c4
     obtain ⟨⟨rn, rt, rc⟩, ru, rd⟩ := r
     have hst : ST w.heap.size w wr.heap.size g n cap ⟨⟨rn, rt, rc⟩, ru, rd⟩ l' u4 L (wr.alloc (.cells #[.string rn, .int .i64 rt, .int .i64 rc, .int .i64 ru, .string rd] 111)) :=
      ⟨rrAt5_new wr ⟨⟨rn, rt, rc⟩, ru, rd⟩ _, own_below' HO.out ((Below.refl _ _).alloc (Nat.le_refl _) _), HOS.out.below ((Below.refl _ _).alloc (Nat.le_refl _) _), HBL.out.alloc HBL.out.size _, ⟨_, _, heap_alloc_new _ _⟩⟩
     have HRK := Lib.hid hr
     clear hrr e1 e3 e4 hr
     go_upto_region 7 with fail
     obtain ⟨w3, hw3⟩ : ∃ x, wr.alloc (.cells #[.string rn, .int .i64 rt, .int .i64 rc, .int .i64 ru, .string rd] 111) = x := ⟨_, rfl⟩
     obtain ⟨q, hq⟩ : ∃ x, wr.heap.size = x := ⟨_, rfl⟩
     rw [hw3, hq] at hst ⊢
     have HST := Lib.hid hst
     clear hst hw3 c0 c1 c2 c3 c4
     go_cut [31] (fun t wx => ∃ nw : Bool, t = .bool nw ∧ Hid (nw = true ↔ ¬ (0 < k ∧ (l'[k - 1]?.map R5.k) = some ⟨rn, rt, rc⟩)) ∧ Hid (ST w.heap.size w q g n cap ⟨⟨rn, rt, rc⟩, ru, rd⟩ l' u4 L wx))
     case first =>
      by_cases hk0 : k = 0
      · subst hk0
        go_quiet (fail)
        rename_i nq
        have hbq := below_drewN (Below.refl w3.heap.size w3) nq
        go_wp2
        go_meet
        exact ⟨true, rfl, Lib.hid (by simp), HST.out.below hbq HST.out.2.2.2.1.size⟩
      · obtain ⟨k0, hk1⟩ : ∃ k0, k = k0 + 1 := ⟨k - 1, by omega⟩
        have hk2 : k0 < l'.length := by rw [HLN.out]; omega
        obtain ⟨⟨⟨pn, pt, pc⟩, pu, pd⟩, hpr⟩ : ∃ r, l'[k0]? = some r := ⟨_, List.getElem?_eq_getElem hk2⟩
        have HPR := Lib.hid hpr
        have HWW := Lib.hid (Nat.le_refl w.heap.size)
        have HK := Lib.hid (ST.next ((Below.refl w3.heap.size w3).drew) HPR HWW (ST.shown HST.out hpr))
        have HK1 := Lib.hid (fun wx => keyOf' rn rt rc ru rd wx)
        have HK2 := Lib.hid (fun wx => keyOf' pn pt pc pu pd wx)
        have hne := key_neq rn pn rt rc pt pc
        have HKS := Lib.hid (key_same ⟨rn, rt, rc⟩ ⟨pn, pt, pc⟩)
        have i1 : (k0 : Int) < (n : Int) := by omega
        have i6 : k0 < n := by omega
        have i3 : ((k : Int) == 0) = false := eF (by omega)
        have i4 : (k : Int) - 1 = (k0 : Int) := by omega
        have i5 : IntKind.i64.wrap ((k : Int) - 1) = (k0 : Int) := by rw [IntKind.wrap_i64]; omega
        have i7 : IntKind.i64.wrap (k0 : Int) = (k0 : Int) := by rw [IntKind.wrap_i64]; omega
        have hix := ix_rr g n cap k0 i6
        have HK0 := Lib.hid hk1
        obtain ⟨nw, hnw⟩ : ∃ x, (!(rn.toList == pn.toList && (rt == pt && rc == pc))) = x := ⟨_, rfl⟩
        rw [hnw] at hne
        have HNW := Lib.hid hnw
        clear hnw hpr hk1
        go_region_held3 (fun wx => Hid (ST w.heap.size w q g n cap ⟨⟨rn, rt, rc⟩, ru, rd⟩ l' u4 L wx) ∧ wx.cell? ⟨q, 0, none⟩ = some (.string rn) ∧ wx.cell? ⟨q, 1, none⟩ = some (.int .i64 rt) ∧ wx.cell? ⟨q, 2, none⟩ = some (.int .i64 rc) ∧ wx.cell? ⟨q, 3, none⟩ = some (.int .i64 ru) ∧ wx.cell? ⟨q, 4, none⟩ = some (.string rd) ∧ wx.cell? ⟨g, k0 * 5, none⟩ = some (.string pn) ∧ wx.cell? ⟨g, k0 * 5 + 1, none⟩ = some (.int .i64 pt) ∧ wx.cell? ⟨g, k0 * 5 + 2, none⟩ = some (.int .i64 pc) ∧ wx.cell? ⟨g, k0 * 5 + 3, none⟩ = some (.int .i64 pu) ∧ wx.cell? ⟨g, k0 * 5 + 4, none⟩ = some (.string pd)) (first | (exact HK.out) | assumption | (refine ST.next hb.b HPR HWW ?_; assumption))
         (first
           | (go_at_call 106; first | (with_reducible refine (HK1.out _).mono ?_; rintro e wy ⟨rfl, hb⟩) | (with_reducible refine (HK2.out _).mono ?_; rintro e wy ⟨rfl, hb⟩)))
        all_goals
         go_wp2
         go_meet
         refine ⟨nw, rfl, ?_, ST.get (k := k0) (pn := pn) (pd := pd) (pt := pt) (pc := pc) (pu := pu) ?_⟩
         · refine Lib.hid ?_
           rw [← HNW.out, HK0.out, Nat.add_sub_cancel, HPR.out]
           have h9 := HKS.out
           simp only [Option.map_some, Option.some.injEq, Nat.succ_pos, true_and, Bool.not_eq_true', ← Bool.not_eq_true]
           rw [h9]
           exact ⟨fun h e => h e.symm, fun h e => h e.symm⟩
         · assumption
     case rest =>
      obtain ⟨nw, rfl, hnw, hst⟩ := hcut
      have HLL := Lib.hid (show L.length ≤ k by rw [← List.length_map (f := Prod.fst), hL.out]; exact grpK_len l' k)
      go_upto_if 31 with fail
      go_cut [4] (fun sv wx => ∃ (L0 : List (SetP × Value)) (s : SetP) (dv : Value), Hid (ST w.heap.size w q g n cap ⟨⟨rn, rt, rc⟩, ru, rd⟩ l' sv (L0 ++ [(s, dv)]) wx) ∧ Hid ((nw = true → L0 = L ∧ s = ⟨⟨rn, rt, rc⟩, ru, []⟩) ∧ (nw = false → L = L0 ++ [(s, dv)])))
      case first =>
        cases nw with
        | true =>
         obtain ⟨i1, hi1, hz0, hz1, hz2⟩ := info_parts infoSet
         have HI := Lib.hid hi1
         have HZ0 := Lib.hid hz0
         have HZ1 := Lib.hid hz1
         have HZ2 := Lib.hid hz2
         have HK1 := Lib.hid (fun wx => keyOf' rn rt rc ru rd wx)
         have hbd := (Below.refl wc.heap.size wc).drew
         have HSTd := Lib.hid (hst.out.below hbd hst.out.2.2.2.1.size)
         have HQ := Lib.hid (RQ.shown HSTd.out.1)
         have hlen8 : L.length + 1 ≤ 1000000 := by have := HLL.out; omega
         have HNQ := Lib.hid (show u4.ownBlock ≠ some q from fun e => by have := (HOS.out.1.lt q e).2; omega)
         clear hi1 hz0 hz1 hz2 hbd
         go_wp2_with fail
         go_region_held3 (fun wx => Hid (RRAt5 wx q ⟨⟨rn, rt, rc⟩, ru, rd⟩) ∧ wx.cell? ⟨q, 0, none⟩ = some (.string rn) ∧ wx.cell? ⟨q, 1, none⟩ = some (.int .i64 rt) ∧ wx.cell? ⟨q, 2, none⟩ = some (.int .i64 rc) ∧ wx.cell? ⟨q, 3, none⟩ = some (.int .i64 ru) ∧ wx.cell? ⟨q, 4, none⟩ = some (.string rd)) (first | (exact HQ.out) | assumption | (refine RQ.next hb.b ?_; assumption) | (refine RQ.next ((Below.refl _ _).alloc (Nat.le_refl _) _) ?_; assumption) | (refine RQ.grown HG8.out HNQ.out ?_; assumption))
           (first
             | (go_at_call 106; refine (HK1.out _).mono ?_; rintro e wy ⟨rfl, hb⟩; have HST8 := Lib.hid (HSTd.out.below hb.b HSTd.out.2.2.2.1.size))
             | (refine step_append_cellsK (by rfl) _ _ 61 38 (by rfl) i1 _ 5 64 Tryz.underlying61 HI.out HZ0.out HZ1.out HZ2.out rfl (by decide) w.heap.size _ L.length _ (by rfl) (HST8.out.2.2.1.1.alloc _) _ 1 1 (encS (⟨⟨rn, rt, rc⟩, ru, []⟩, .slice none 0 0)) (by rfl) (fun h => by cases h) (cells_lit _ _ _) (by intro u hu; simp only [encS, List.mem_cons, List.not_mem_nil, or_false] at hu; rcases hu with rfl | rfl | rfl | rfl | rfl <;> rfl) hlen8 (by decide) (by have := HST8.out.2.2.2.1.size; simp; omega) ?_; intro v8 w8 hown8 hgrow8; have HO8 := Lib.hid hown8; have HG8 := Lib.hid hgrow8; clear hown8 hgrow8))
         all_goals
           go_wp2
           go_meet
           exact ⟨L, ⟨⟨rn, rt, rc⟩, ru, []⟩, .slice none 0 0, Lib.hid (HST8.out.newset rfl HO8.out HG8.out HST8.out.2.2.2.1.size), Lib.hid (by first | exact ⟨fun _ => ⟨rfl, rfl⟩, fun h => by cases h⟩ | exact ⟨rfl, rfl⟩ | simp)⟩
        | false =>
         have hne : L ≠ [] := by
           intro e
           have h1 := hL.out
           rw [e] at h1
           have h2 := hnw.out
           have h3 : 0 < k ∧ (l'[k - 1]?.map R5.k) = some ⟨rn, rt, rc⟩ := Classical.not_not.1 (fun h => by have := h2.2 h; cases this)
           obtain ⟨k0, rfl⟩ : ∃ k0, k = k0 + 1 := ⟨k - 1, by omega⟩
           have hk2 : k0 < l'.length := by rw [HLN.out]; omega
           exact grpK_ne l' k0 _ (List.getElem?_eq_getElem hk2) h1.symm
         obtain ⟨L0, ⟨s, dv⟩, hLe⟩ := (List.eq_nil_or_concat L).resolve_left hne
         rw [List.concat_eq_append] at hLe
         go_wp2_with fail
         go_meet
         exact ⟨L0, s, dv, Lib.hid (hLe ▸ hst.out), Lib.hid (by first | exact ⟨fun h => by cases h, fun _ => hLe⟩ | exact hLe | (simp; exact hLe))⟩
      case rest =>
        obtain ⟨L0, s, dv, hst2, hcase⟩ := hcut
        have HST2 := hst2
        obtain ⟨gs, cs, rfl, hgsB, hgs⟩ := hst2.out.2.2.1.shape
        have HSN := Lib.hid hst2.out.2.2.1
        have HCL := Lib.hid (show L0.length + 1 ≤ k + 1 by
         have h1 := HLL.out
         have h2 := hcase.out
         cases nw with
         | true => rw [(h2.1 rfl).1]; omega
         | false => have h3 := congrArg List.length (h2.2 rfl); rw [List.length_append, List.length_singleton] at h3; omega)
        obtain ⟨m, hm⟩ : ∃ x, L0.length = x := ⟨_, rfl⟩
        obtain ⟨t3, t4, t5, t6⟩ := HSN.out.last
        have HM := Lib.hid hm
        rw [hm] at t3 t4 HCL HST2 ⊢
        have hmb : m < 200000 := by have := HCL.out; omega
        have t7 := t5 (m * 5 + 3)
        have r3 := HST2.out.1.2.2.2.2.1
        have i1 : ((m + 1 : Nat) : Int) - 1 = (m : Int) := by omega
        clear hst hst2 t5 t6 hm
        go_upto_region 10 with fail
        go_cut [] (fun wx => Hid (ST w.heap.size w q g n cap ⟨⟨rn, rt, rc⟩, ru, rd⟩ l' (.slice (some ⟨gs, 0, none⟩) (m + 1) cs) (L0 ++ [({ s with ttl := min s.ttl ru }, dv)]) wx))
        case first =>
         have hB0 := HST2.out.2.2.2.1.size
         have HFIN := Lib.hid (fun (x : Int) => show ST w.heap.size w q g n cap ⟨⟨rn, rt, rc⟩, ru, rd⟩ l' (.slice (some ⟨gs, 0, none⟩) (m + 1) cs) (L0 ++ [({ s with ttl := x }, dv)]) (wc.drew.setCell ⟨gs, m * 5 + 3, none⟩ (.int .i64 x)) from by
           have h1 := HST2.out.below ((Below.refl wc.heap.size wc).drew) hB0
           have h2 := (HSN.out.below ((Below.refl wc.heap.size wc).drew)).setTtl x
           rw [HM.out] at h2
           exact h1.set h2.1 h2.2 (by show w.heap.size ≤ wc.heap.size; exact hB0) hgsB)
         by_cases htt : ru < s.ttl
         · have d1 := dT htt
           have hmin : min s.ttl ru = ru := by omega
           have HF := Lib.hid (HFIN.out ru)
           clear hB0
           go_region
           all_goals
             go_wp2
             go_meet
             rw [hmin]; exact HF.out
         · have d1 := dF htt
           have hmin : min s.ttl ru = s.ttl := by omega
           have HF := Lib.hid (HFIN.out s.ttl)
           clear hB0
           go_region
           all_goals
             go_wp2
             go_meet
             rw [hmin]; exact HF.out
        case rest =>
         have HST3 := hcut
         obtain ⟨s1, hs1⟩ : ∃ x : SetP, { s with ttl := min s.ttl ru } = x := ⟨_, rfl⟩
         rw [hs1] at HST3
         have HS1 := Lib.hid hs1
         have HSN3 := Lib.hid (show OwnSets wc w.heap.size (.slice (some ⟨gs, 0, none⟩) (L0.length + 1) cs) (L0 ++ [(s1, dv)]) by rw [HM.out]; exact HST3.out.2.2.1)
         obtain ⟨_, u4', u5', u6'⟩ := HSN3.out.last
         rw [HM.out] at u4'
         have u7' := u5' (m * 5 + 4)
         have r4 := HST3.out.1.2.2.2.2.2
         have HD := Lib.hid u6'
         clear hs1 u5' t3 t4 t7 r3 HSN HST2
         go_upto_region 11 with fail
         go_cut [77] (fun t wx => ∃ ad : Bool, t = .bool ad ∧ Hid (ad = true ↔ ¬ s1.data.getLast? = some rd) ∧ Hid (ST w.heap.size w q g n cap ⟨⟨rn, rt, rc⟩, ru, rd⟩ l' (.slice (some ⟨gs, 0, none⟩) (m + 1) cs) (L0 ++ [(s1, dv)]) wx))
         case first =>
           rcases List.eq_nil_or_concat s1.data with h0 | ⟨ini, x, hix⟩
           · have hd2 := HD.out
             rw [h0] at hd2
             rcases hd2.2 with ⟨rfl, _⟩ | ⟨gd, cd, _, rfl, _⟩
             all_goals
               go_quiet (fail)
               rename_i nq
               have hbq := below_drewN (Below.refl wc.heap.size wc) nq
               go_wp2
               go_meet
               exact ⟨true, rfl, Lib.hid (by rw [h0]; simp), HST3.out.below hbq HST3.out.2.2.2.1.size⟩
           · rw [List.concat_eq_append] at hix
             obtain ⟨j, hj⟩ : ∃ y, ini.length = y := ⟨_, rfl⟩
             have hd2 := HD.out
             rw [hix, List.length_append, List.length_singleton, hj] at hd2
             have hgl : s1.data.getLast? = some x := by rw [hix]; simp
             rcases hd2.2 with ⟨_, h0⟩ | ⟨gd, cd, _, rfl, _⟩
             · omega
             have hx1 := ownsRow_at hd2 j (.string x) (by
               rw [sc_append, List.getElem?_append_right (by simp [sc, hj]), show (sc ini).length = j by simp [sc, hj], Nat.sub_self]; rfl)
             have i3 : ((j + 1 : Nat) : Int) - 1 = (j : Int) := by omega
             have i4 : (((j + 1 : Nat) : Int) == 0) = false := eF (by omega)
             have i5 : ((j : Int) + 1 == 0) = false := eF (by omega)
             have i6 : (j : Int) + 1 - 1 = (j : Int) := by omega
             have i7 : (j : Int) < (j : Int) + 1 := by omega
             have HGL := Lib.hid hgl
             have hjb : j + 1 ≤ 9223372036854775807 := by
               have h8 := own_capS hd2
               omega
             clear hd2 hix hj hgl
             by_cases hxe : x.toList = rd.toList
             · have e1 : (x.toList == rd.toList) = true := by simpa using hxe
               have e2 : (x.toList != rd.toList) = false := by simpa using hxe
               have HXE := Lib.hid (show x = rd by rw [Lib.toList_data, Lib.toList_data] at hxe; exact ba_eq hxe)
               go_quiet (fail)
               rename_i nq
               have hbq := below_drewN (Below.refl wc.heap.size wc) nq
               go_wp2
               go_meet
               exact ⟨false, rfl, Lib.hid (by rw [HGL.out, HXE.out]; simp), HST3.out.below hbq HST3.out.2.2.2.1.size⟩
             · have e1 : (x.toList == rd.toList) = false := by simpa using hxe
               have e2 : (x.toList != rd.toList) = true := by simpa using hxe
               have HXE := Lib.hid (show ¬ x = rd from fun h => hxe (by rw [h]))
               clear hxe
               go_quiet (fail)
               rename_i nq
               have hbq := below_drewN (Below.refl wc.heap.size wc) nq
               go_wp2
               go_meet
               exact ⟨true, rfl, Lib.hid (by rw [HGL.out]; simpa using HXE.out), HST3.out.below hbq HST3.out.2.2.2.1.size⟩
         case rest =>
           obtain ⟨ad, rfl, hadd, hst4⟩ := hcut
           have HST4 := hst4
           have HDL := Lib.hid (show s1.data.length ≤ k by
             rw [← HS1.out]
             show s.data.length ≤ k
             have h2 := hcase.out
             cases nw with
             | true => rw [(h2.1 rfl).2]; exact Nat.zero_le _
             | false => exact grpK_data l' k s (by rw [← hL.out, h2.2 rfl]; simp))
           have HSN4 := Lib.hid (show OwnSets wc w.heap.size (.slice (some ⟨gs, 0, none⟩) (L0.length + 1) cs) (L0 ++ [(s1, dv)]) by rw [HM.out]; exact HST4.out.2.2.1)
           obtain ⟨_, v4, v5, v6⟩ := HSN4.out.last
           rw [HM.out] at v4
           have v7 := v5 (m * 5 + 4)
           have r5 := HST4.out.1.2.2.2.2.2
           have HD4 := Lib.hid v6
           clear hst4 u4' u6' u7' r4 v5 v6 HSN3 HST3 HD
           have HFN := Lib.hid (fun dv' => grpK_step (dv' := dv') HRK.out hL.out hnw.out hcase.out)
           have HFIN := Lib.hid (show ∀ (dv' : Value) (wx : World), ST w.heap.size w q g n cap ⟨⟨rn, rt, rc⟩, ru, rd⟩ l' (.slice (some ⟨gs, 0, none⟩) (m + 1) cs) (L0 ++ [(addD s1 ⟨⟨rn, rt, rc⟩, ru, rd⟩, dv')]) wx → ∃ (k' : Nat) (L' : List (SetP × Value)), k' ≤ n ∧ Value.int .i64 ((k : Int) + 1) = .int .i64 k' ∧ wx.ownsRow w.heap.size 111 5 (.slice (some ⟨g, 0, none⟩) n cap) n (flatR l') ∧ OwnSets wx w.heap.size (.slice (some ⟨gs, 0, none⟩) (m + 1) cs) L' ∧ Hid (L'.map Prod.fst = grpK l' k') ∧ Below w.heap.size w wx from fun dv' wx h => ⟨k + 1, _, by omega, rfl, h.2.1, h.2.2.1, by
             have h9 := HFN.out dv'
             rw [show ({ s with ttl := min s.ttl ru } : SetP) = s1 from HS1.out] at h9
             exact h9, h.2.2.2.1⟩)
           cases ad with
             | false =>
               have hz : s1.data.getLast? = some rd := Classical.not_not.1 (fun h => by have := hadd.out.2 h; cases this)
               have HF := Lib.hid (show ST w.heap.size w q g n cap ⟨⟨rn, rt, rc⟩, ru, rd⟩ l' (.slice (some ⟨gs, 0, none⟩) (m + 1) cs) (L0 ++ [(addD s1 ⟨⟨rn, rt, rc⟩, ru, rd⟩, dv)]) wc by rw [addD, if_pos hz]; exact HST4.out)
               go_wp2
               go_roundw
               case rel => exact HFIN.out dv _ HF.out
               case measure => simp [intOf]; omega
             | true =>
               have hz : ¬ s1.data.getLast? = some rd := hadd.out.1 rfl
               have HAD := Lib.hid (show addD s1 ⟨⟨rn, rt, rc⟩, ru, rd⟩ = { s1 with data := s1.data ++ [rd] } by rw [addD, if_neg hz])
               obtain ⟨dl, hdl⟩ : ∃ x, s1.data.length = x := ⟨_, rfl⟩
               have HDLe := Lib.hid hdl
               have hdlb : dl ≤ 100000 := by have := HDL.out; omega
               rw [hdl] at HD4
               have hB4 := HST4.out.2.2.2.1.size
               have HNE := Lib.hid (show some gs ≠ dv.ownBlock from fun e => by
                rcases own_ne2 (by decide) HD4.out HSN4.out.1 with h | h
                · rw [h] at e; cases e
                · exact h e.symm)
               have hgl : gs < wc.heap.size := block_lt_of_cell v4
               have HY4 := Lib.hid (show ∀ o, ((wc.alloc o).drew).cell? ⟨gs, m * 5 + 4, none⟩ = some dv from fun o => (((Below.refl wc.heap.size wc).alloc (Nat.le_refl _) o).drew.cell hgl).trans v4)
               have HY7 := Lib.hid (show ∀ o, ((wc.alloc o).drew).frozen? ⟨gs, m * 5 + 4, none⟩ = false from fun o => (((Below.refl wc.heap.size wc).alloc (Nat.le_refl _) o).drew.frozen hgl).trans v7)
               have HLT := Lib.hid (show ∀ o, gs < ((wc.alloc o).drew).heap.size from fun o => Nat.lt_of_lt_of_le hgl ((Below.refl wc.heap.size wc).alloc (Nat.le_refl _) o).drew.size)
               have HDA := Lib.hid (show ∀ o, ((wc.alloc o).drew).ownsRow w.heap.size 9 1 dv dl (sc s1.data) from fun o => (HD4.out.alloc o).drew)
               have HBA := Lib.hid (show ∀ o, w.heap.size ≤ ((wc.alloc o).drew).heap.size from fun o => Nat.le_trans hB4 ((Below.refl wc.heap.size wc).alloc (Nat.le_refl _) o).drew.size)
               have y3 : (wc.alloc (.cells #[.string rd] 9)).cell? ⟨gs, m * 5 + 4, none⟩ = some dv := HY4.out _
               clear hz hdl
               go_wp2_with fail
               go_region_law (refine step_one_str (by rfl) _ _ (by rfl) w.heap.size _ dl _ (by rfl) (HDA.out _) _ rd (by rfl) (by simp [World.cell?_alloc_at]) hdlb (HBA.out _) ?_; intro dv2 w2 hown2 hgrow2 hk3; obtain ⟨ga, ca, hve, _, _⟩ := cellsK_own hown2; subst hve; have HO2 := Lib.hid hown2; have HG2 := Lib.hid hgrow2; have HK3 := Lib.hid hk3; have y4 := hgrow2.cell (HY4.out _) HNE.out; have y7 := (World.frozen?_of_block (a := ⟨gs, m * 5 + 4, none⟩) (hgrow2.block gs (HLT.out _) HNE.out)).trans (HY7.out _); clear hown2 hgrow2 hk3)
               all_goals
                go_wp2
                go_roundw
                case rel =>
                  refine HFIN.out (.slice ga (dl + 1) ca) _ ?_
                  rw [HAD.out]
                  have h1 := fun o => HST4.out.below (w' := (wc.alloc o).drew) ((Below.refl wc.heap.size wc).alloc (Nat.le_refl _) o).drew hB4
                  rw [← HM.out] at h1 ⊢
                  refine (h1 _).addOne ?_ HG2.out HK3.out (HBA.out _) hgsB
                  rw [HDLe.out]
                  exact HO2.out
                case measure => simp [intOf]; omega
   · have hkn : n = k := by omega
     subst hkn
     go_wp2
     go_ret
     exact ⟨u4, l', L, rfl, HP.out, HS.out, HOS.out, hL.out, HBL.out⟩
end Go.Proofs.YthfnphcefkdgbaaGreat
end
section
namespace Go.Proofs.YthfnphcefkdgbaaGreat
open Go.RowKit
def OwnRS (w : World) (B : Nat) (v : Value) (L : List (SetP × Value)) : Prop :=
 w.ownsRow B 43 5 v L.length (flatS L) ∧ (∀ p ∈ L, w.ownsRow B 9 1 p.2 p.1.data.length (sc p.1.data)) ∧ L.Pairwise (fun p q => ∀ g, p.2.ownBlock = some g → q.2.ownBlock ≠ some g)
theorem OwnRS.nil (w : World) (B : Nat) : OwnRS w B (.slice none 0 0) [] := ⟨World.ownsRow_nil _ _ _ _, (fun p h => by cases h), List.Pairwise.nil⟩
theorem OwnRS.below {w w' : World} {B : Nat} {v : Value} {L : List (SetP × Value)} (h : OwnRS w B v L) (hb : Below w.heap.size w w') : OwnRS w' B v L :=
 ⟨own_below' h.1 hb, fun p hp => own_below' (h.2.1 p hp) hb, h.2.2⟩
theorem OwnRS.data {w : World} {B : Nat} {v : Value} {L : List (SetP × Value)} (h : OwnRS w B v L) : ∀ p ∈ L, DataAt w p := fun p hp => by
 obtain ⟨a, c, h1, h2, h3⟩ := rowS_of_own (h.2.1 p hp)
 exact ⟨a, c, h1, h2, h3⟩
theorem OwnRS.at {w : World} {B : Nat} {v : Value} {L : List (SetP × Value)} (h : OwnRS w B v L) : ∃ a c, v = .slice a L.length c ∧ SetsAt w a L.length (L.map Prod.fst) ∧ (a = none → L.length = 0 ∧ c = 0) := setsAt_own h.1 h.data
theorem own_prefixG {w : World} {B g c n size : Nat} {e : TypeId} {xs : List Value} (h : w.ownsRow B e size (.slice (some ⟨g, 0, none⟩) n c) n xs) (k : Nat) (hk : k ≤ n) : w.ownsRow B e size (.slice (some ⟨g, 0, none⟩) k c) k (xs.take (k * size)) := by
 have h0 := h.1
 have hkn : k * size ≤ n * size := Nat.mul_le_mul_right _ hk
 rcases h.2 with ⟨h', _⟩ | ⟨g', cap', cur, h', hb, hg, hnc, hcm, hcs, htake⟩
 · cases h'
 · injection h' with h1 h2 h3
   injection h1 with h1
   injection h1 with h1
   subst h1 h3
   refine ⟨by rw [List.length_take, h0]; omega, Or.inr ⟨g, c, cur, rfl, hb, hg, by omega, hcm, hcs, ?_⟩⟩
   rw [← htake, List.take_take, Nat.min_eq_left hkn]
theorem flatS_mid (A D : List (SetP × Value)) (p : SetP × Value) : flatS (A ++ p :: D) = flatS A ++ (encS p ++ flatS D) := by
 rw [flatS_append]; rfl
theorem flatS_setG (A D : List (SetP × Value)) (p p' : SetP × Value) (j : Nat) (u : Value) (hj : j < 5) (h : (encS p).set j u = encS p') : (flatS (A ++ p :: D)).set (A.length * 5 + j) u = flatS (A ++ p' :: D) := by
 rw [flatS_mid, flatS_mid, List.set_append_right _ _ (by rw [flatS_len]; omega), flatS_len, Nat.add_sub_cancel_left, List.set_append_left _ _ (by rw [encS_len]; exact hj), h]
theorem OwnRS.shape {w : World} {B : Nat} {v : Value} {L : List (SetP × Value)} (h : OwnRS w B v L) (h0 : 0 < L.length) : ∃ g c, v = .slice (some ⟨g, 0, none⟩) L.length c ∧ B ≤ g ∧ g < w.heap.size := by
 rcases h.1.2 with ⟨_, h1⟩ | ⟨g, cap, cur, rfl, hb, hg, _⟩
 · omega
 · exact ⟨g, cap, rfl, hb, (Array.getElem?_eq_some_iff.1 hg).1⟩
theorem OwnRS.cells {w : World} {B g n c : Nat} {A D : List (SetP × Value)} {s : SetP} {dv : Value} (h : OwnRS w B (.slice (some ⟨g, 0, none⟩) n c) (A ++ (s, dv) :: D)) : (∀ j u, j < 5 → (encS (s, dv))[j]? = some u → w.cell? ⟨g, A.length * 5 + j, none⟩ = some u) ∧ (∀ j, w.frozen? ⟨g, j, none⟩ = false) ∧ w.ownsRow B 9 1 dv s.data.length (sc s.data) ∧ n = (A ++ (s, dv) :: D).length := by
 have hn : n = (A ++ (s, dv) :: D).length := by
  have h2 := h.1.2
  rcases h2 with ⟨h', _⟩ | ⟨g', cap', cur, h', _⟩
  · cases h'
  · injection h'
 subst hn
 refine ⟨fun j u hj hu => ownsRow_at h.1 _ _ ?_, fun j => h.1.frozenAt j, h.2.1 (s, dv) (by simp), rfl⟩
 rw [flatS_mid, List.getElem?_append_right (by rw [flatS_len]; omega), flatS_len, Nat.add_sub_cancel_left, List.getElem?_append_left (by rw [encS_len]; exact hj)]
 exact hu
theorem OwnRS.put {w w1 : World} {B g n c : Nat} {A D : List (SetP × Value)} {s s' : SetP} {dv dv' : Value} (h : OwnRS w B (.slice (some ⟨g, 0, none⟩) n c) (A ++ (s, dv) :: D)) (hg : w.grownBy w1 dv.ownBlock) (ho : w1.ownsRow B 9 1 dv' s'.data.length (sc s'.data)) (hd : dv'.ownBlock = dv.ownBlock ∨ ∃ k, dv'.ownBlock = some k ∧ w.heap.size ≤ k) (j : Nat) (u : Value) (hj : j < 5) (he : (encS (s, dv)).set j u = encS (s', dv')) : OwnRS (w1.setCell ⟨g, A.length * 5 + j, none⟩ u) B (.slice (some ⟨g, 0, none⟩) n c) (A ++ (s', dv') :: D) ∧ w1.grownBy (w1.setCell ⟨g, A.length * 5 + j, none⟩ u) (some g) := by
 obtain ⟨_, _, _, hn⟩ := h.cells
 have hlen : (A ++ (s', dv') :: D).length = n := by rw [hn]; simp
 have hall : ∀ p, p ∈ A ∨ p ∈ D → p ∈ A ++ (s, dv) :: D := fun p hp => by
   rcases hp with hp | hp
   · exact List.mem_append_left _ hp
   · exact List.mem_append_right _ (List.mem_cons_of_mem _ hp)
 have hdv := h.2.1 (s, dv) (by simp)
 have h1 : w.ownsRow B 43 5 (.slice (some ⟨g, 0, none⟩) n c) n (flatS (A ++ (s, dv) :: D)) := by
   have := h.1; rw [← hn] at this; exact this
 have h2 := h1.kept hg (own_ne2 (by decide) h1 hdv)
 obtain ⟨k1, k2⟩ := h2.stored (A.length * 5 + j) u
 rw [flatS_setG A D (s, dv) (s', dv') j u hj he] at k1
 obtain ⟨pA, pD, pX⟩ := List.pairwise_append.1 h.2.2
 obtain ⟨pS, pD'⟩ := List.pairwise_cons.1 pD
 have hne : ∀ p, p ∈ A ∨ p ∈ D → p.2.ownBlock = none ∨ p.2.ownBlock ≠ dv.ownBlock := fun p hp => by
   cases e : p.2.ownBlock with
   | none => exact Or.inl rfl
   | some x =>
     right
     intro e2
     rcases hp with hp | hp
     · exact pX p hp (s, dv) List.mem_cons_self x e e2.symm
     · exact pS p hp x e2.symm e
 have hnew : ∀ p, p ∈ A ∨ p ∈ D → ∀ x, p.2.ownBlock = some x → dv'.ownBlock ≠ some x := fun p hp x e e2 => by
   rcases hd with h8 | ⟨k, h8, hk⟩
   · rcases hne p hp with h9 | h9
     · rw [h9] at e; cases e
     · exact h9 (by rw [e, ← h8, e2])
   · rw [h8] at e2
     have e3 := Option.some.inj e2
     have h9 := ((h.2.1 p (hall p hp)).lt x e).2
     omega
 refine ⟨⟨by rw [hlen]; exact k1, fun p hp => ?_, ?_⟩, k2⟩
 · have old : p ∈ A ∨ p ∈ D → (w1.setCell ⟨g, A.length * 5 + j, none⟩ u).ownsRow B 9 1 p.2 p.1.data.length (sc p.1.data) := fun hp => by
     have h7 := (h.2.1 p (hall p hp)).kept hg (hne p hp)
     exact h7.kept k2 (own_ne2 (by decide) h7 h2)
   rcases List.mem_append.1 hp with hp | hp
   · exact old (Or.inl hp)
   · rcases List.mem_cons.1 hp with rfl | hp
     · exact ho.kept k2 (own_ne2 (by decide) ho h2)
     · exact old (Or.inr hp)
 · refine List.pairwise_append.2 ⟨pA, List.pairwise_cons.2 ⟨fun q hq x hx => ?_, pD'⟩, fun p hp q hq x hx => ?_⟩
   · intro e
     exact hnew q (Or.inr hq) x e hx
   · rcases List.mem_cons.1 hq with rfl | hq
     · exact hnew p (Or.inl hp) x hx
     · exact pX p hp q (List.mem_cons_of_mem _ hq) x hx
theorem OwnRS.ins {w w1 : World} {B : Nat} {v v' : Value} {A D : List (SetP × Value)} {s : SetP} (h : OwnRS w B v (A ++ D)) (hs : s.data = []) (ho : w1.ownsRow B 43 5 v' (A.length + (1 + D.length)) (flatS A ++ (encS (s, .slice none 0 0) ++ flatS D))) (hd : ∀ p ∈ A ++ D, w1.ownsRow B 9 1 p.2 p.1.data.length (sc p.1.data)) : OwnRS w1 B v' (A ++ (s, .slice none 0 0) :: D) := by
 obtain ⟨pA, pD, pX⟩ := List.pairwise_append.1 h.2.2
 refine ⟨?_, fun p hp => ?_, ?_⟩
 · rw [flatS_mid, List.length_append, List.length_cons, Nat.add_comm D.length 1]; exact ho
 · rcases List.mem_append.1 hp with hp | hp
   · exact hd p (List.mem_append_left _ hp)
   · rcases List.mem_cons.1 hp with rfl | hp
     · show w1.ownsRow B 9 1 (.slice none 0 0) s.data.length (sc s.data)
       rw [hs]; exact World.ownsRow_nil _ _ _ _
     · exact hd p (List.mem_append_right _ hp)
 · refine List.pairwise_append.2 ⟨pA, List.pairwise_cons.2 ⟨(fun q hq x hx => by cases hx), pD⟩, fun p hp q hq x hx => ?_⟩
   rcases List.mem_cons.1 hq with rfl | hq
   · intro e; cases e
   · exact pX p hp q hq x hx
end Go.Proofs.YthfnphcefkdgbaaGreat
end
section
namespace Go.Proofs.YthfnphcefkdgbaaGreat
open Go.RowKit
theorem slice_headKG {T E : TypeId} {i : TypeInfo} {size : Nat} (hu : Tryz.prog.underlying T = some (.slice E)) (hi : Tryz.prog.info? E = some i) (hz : i.size = size) (av : Option Addr) (n cap h : Nat) (hav : av = none ∧ n = 0 ∧ cap = 0 ∨ ∃ β off, av = some ⟨β, off, none⟩) (h2 : h ≤ cap) (W : World) : (Instr.slice T (.slice av n cap) none (some (.int .i64 (h : Int))) none).run Tryz.prog W = .ok (.slice av h cap) W := by
 have he : Tryz.prog.elem T = E := by simp [Program.elem, hu]
 have hu' : Tryz.prog.underlying T = some (.slice (Tryz.prog.elem T)) := by rw [he]; exact hu
 rw [run_slice_h (P := Tryz.prog) (w := W) T av n cap hu' .i64 _ (by omega) (by omega), he]
 rcases hav with ⟨rfl, rfl, rfl⟩ | ⟨β, off, rfl⟩
 · simp [sizeOf, typeInfo, hi, hz, Result.andThen, sliced]
 · simp [sizeOf, typeInfo, hi, hz, Result.andThen, sliced, Addr.add]
theorem slice_tailKG {T E : TypeId} {i : TypeInfo} {size : Nat} (hu : Tryz.prog.underlying T = some (.slice E)) (hi : Tryz.prog.info? E = some i) (hz : i.size = size) (av : Option Addr) (n cap l : Nat) (hav : av = none ∧ n = 0 ∧ cap = 0 ∨ ∃ β off, av = some ⟨β, off, none⟩) (h1 : l ≤ n) (h2 : n ≤ cap) :
   ∃ ad : Option Addr, (∀ W, (Instr.slice T (.slice av n cap) (some (.int .i64 (l : Int))) none none).run Tryz.prog W = .ok (.slice ad (n - l) (cap - l)) W) ∧ (ad = none → n - l = 0 ∧ cap - l = 0) ∧ (l < n → ∀ β off, av = some ⟨β, off, none⟩ → ad = some ⟨β, off + l * size, none⟩) := by
 have he : Tryz.prog.elem T = E := by simp [Program.elem, hu]
 have hu' : Tryz.prog.underlying T = some (.slice (Tryz.prog.elem T)) := by rw [he]; exact hu
 refine ⟨if cap = l then av else av.map (·.add (l * size)), fun W => ?_, fun h3 => ?_, fun h3 β off h4 => ?_⟩
 · rw [run_slice_l (P := Tryz.prog) (w := W) T av n cap hu' .i64 (l : Int) (by omega) (by omega), he]
   simp [sizeOf, typeInfo, hi, hz, Result.andThen, sliced]
 · rcases hav with ⟨rfl, rfl, rfl⟩ | ⟨β, off, rfl⟩
   · omega
   · split at h3 <;> simp at h3
 · subst h4
   rw [if_neg (by omega), Option.map_some, Addr.add_mid]
theorem own_form {w : World} {B n size : Nat} {e : TypeId} {v : Value} {xs : List Value} (h : w.ownsRow B e size v n xs) : ∃ a c, v = .slice a n c ∧ (a = none ∧ n = 0 ∧ c = 0 ∨ ∃ β off, a = some ⟨β, off, none⟩) ∧ n ≤ c := by
 rcases h.2 with ⟨rfl, rfl⟩ | ⟨g, cap, cur, rfl, _, _, hn, _⟩
 · exact ⟨none, 0, rfl, Or.inl ⟨rfl, rfl, rfl⟩, Nat.le_refl _⟩
 · exact ⟨_, _, rfl, Or.inr ⟨_, _, rfl⟩, hn⟩
theorem own_head {T E : TypeId} {i : TypeInfo} {size : Nat} (hu : Tryz.prog.underlying T = some (.slice E)) (hi : Tryz.prog.info? E = some i) (hz : i.size = size) {w : World} {B n c : Nat} {a : Option Addr} {xs : List Value} (h : w.ownsRow B E size (.slice a n c) n xs) (k : Nat) (hk : k ≤ n) : (∀ W, (Instr.slice T (.slice a n c) none (some (.int .i64 (k : Int))) none).run Tryz.prog W = .ok (.slice a k c) W) ∧ w.ownsRow B E size (.slice a k c) k (xs.take (k * size)) := by
 obtain ⟨a', c', hv, hav, hnc⟩ := own_form h
 injection hv with e1 e2 e3
 subst e1 e3
 refine ⟨slice_headKG hu hi hz a n c k hav (by omega), ?_⟩
 rcases h.2 with ⟨hv, rfl⟩ | ⟨g, cap, cur, hv, _⟩
 · obtain rfl : k = 0 := by omega
   injection hv with e1 e2 e3
   subst e1 e3
   rw [Nat.zero_mul, List.take_zero]
   exact World.ownsRow_nil _ _ _ _
 · injection hv with e1 e2 e3
   subst e1
   exact own_prefixG h k hk
theorem own_tail {T E : TypeId} {i : TypeInfo} {size : Nat} (hu : Tryz.prog.underlying T = some (.slice E)) (hi : Tryz.prog.info? E = some i) (hz : i.size = size) (h0 : 0 < size) {w : World} {B n c : Nat} {a : Option Addr} {xs : List Value} (h : w.ownsRow B E size (.slice a n c) n xs) (k : Nat) (hk : k ≤ n) : ∃ ad, (∀ W, (Instr.slice T (.slice a n c) (some (.int .i64 (k : Int))) none none).run Tryz.prog W = .ok (.slice ad (n - k) (c - k)) W) ∧ CellsAt w ad ((n - k) * size) (xs.drop (k * size)) ∧ (ad = none → n - k = 0 ∧ c - k = 0) := by
 obtain ⟨a', c', hv, hav, hnc⟩ := own_form h
 injection hv with e1 e2 e3
 subst e1 e3
 obtain ⟨ad, hrun, hnil, hsome⟩ := slice_tailKG hu hi hz a n c k hav hk hnc
 refine ⟨ad, hrun, ⟨by rw [List.length_drop, h.1, Nat.sub_mul], ?_⟩, hnil⟩
 by_cases hkn : k < n
 · right
   rcases hav with ⟨_, h9, _⟩ | ⟨β, off, rfl⟩
   · omega
   have had := hsome hkn β off rfl
   obtain ⟨a2, c2, hv2, hcells, _⟩ := cellsK_own h
   injection hv2 with e1 e2 e3
   subst e1
   rcases hcells.2 with h9 | ⟨b, o, hbo, hlt, hc⟩
   · have : 0 < n * size := Nat.mul_pos (by omega) h0
     omega
   · injection hbo with hbo
     injection hbo with e1 e2
     subst e1 e2
     refine ⟨β, off + k * size, had, hlt, fun j u hj => ?_⟩
     rw [List.getElem?_drop] at hj
     rw [Nat.add_assoc]
     exact hc _ u hj
 · left
   have : n - k = 0 := by omega
   rw [this, Nat.zero_mul]
end Go.Proofs.YthfnphcefkdgbaaGreat
end
