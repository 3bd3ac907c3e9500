/- The document's Group: the walk. -/
import Derived.Test.YthfnphcefkdgbaaGreatMgA
import Derived.Test.YthfnphcefkdgbaaGreatMgL
import Derived.Test.YthfnphcefkdgbaaGreatMgM
import Derived.Test.YthfnphcefkdgbaaGreatLst
import Derived.Test.YthfnphcefkdgbaaGreatMgE
import Derived.Test.YthfnphcefkdgbaaGreatFix
import Derived.Deep.CutBlock
namespace Go.Proofs.YthfnphcefkdgbaaGreat
open Go.RowKit
set_option maxRecDepth 100000 in
theorem rkeyOf_any (n : ByteArray) (t c u : Int) (d : ByteArray) (w : World) : Calls Tryz.prog 110 #[.agg #[.string n, .int .i64 t, .int .i64 c, .int .i64 u, .string d]] w fun e w' => e = .returned (.agg #[.string n, .int .i64 t, .int .i64 c]) ∧ Below w.heap.size w w' := by
 go_enter Tryz.func110, Tryz.ntmps110
 go_wp2
 refine bodyPost_ret (v := .agg #[.string n, .int .i64 t, .int .i64 c]) (by simp [results, Tryz.results110, go_sem]) rfl ⟨rfl, ?_⟩
 repeat (first | exact Below.refl _ _ | refine Below.alloc ?_ (by simp) _ | refine Below.setCell ?_ (by simp) _)
def RG (w : World) (l : List R5) (k : Nat) (v : Value) (wr : World) (L : List (SetP × Value)) : Prop := OwnRS wr w.heap.size v L ∧ Canon (l.take k) (L.map Prod.fst) ∧ Below w.heap.size w wr ∧ L.length ≤ k ∧ ∀ p ∈ L, p.1.data.length ≤ k
def SG (w : World) (q : Nat) (p : Addr) (rn : ByteArray) (rt rc ru : Int) (wx : World) : Prop := Below w.heap.size w wx ∧ p.block < w.heap.size ∧ w.cell? p = some (.int .i64 ru) ∧ KyAt wx q ⟨rn, rt, rc⟩
theorem SG.all {w : World} {q : Nat} {p : Addr} {rn : ByteArray} {rt rc ru : Int} {wx : World} (h : SG w q p rn rt rc ru wx) : Hid (SG w q p rn rt rc ru wx) ∧ wx.cell? p = some (.int .i64 ru) ∧ wx.cell? ⟨q, 0, none⟩ = some (.string rn) ∧ wx.cell? ⟨q, 1, none⟩ = some (.int .i64 rt) ∧ wx.cell? ⟨q, 2, none⟩ = some (.int .i64 rc) :=
 ⟨Lib.hid h, (h.1.cell h.2.1).trans h.2.2.1, h.2.2.2.2.1, h.2.2.2.2.2.1, h.2.2.2.2.2.2⟩
theorem SG.below {w : World} {q : Nat} {p : Addr} {rn : ByteArray} {rt rc ru : Int} {wx wy : World} (h : SG w q p rn rt rc ru wx) (hb : Below wx.heap.size wx wy) : SG w q p rn rt rc ru wy := ⟨h.1.trans (hb.mono h.1.size), h.2.1, h.2.2.1, h.2.2.2.below hb⟩
theorem SG.grown {w : World} {q : Nat} {p : Addr} {rn : ByteArray} {rt rc ru : Int} {wx wy : World} {row : Option Nat} (h : SG w q p rn rt rc ru wx) (hg : wx.grownBy wy row) (hr : ∀ k, row = some k → w.heap.size ≤ k ∧ k ≠ q) : SG w q p rn rt rc ru wy := by
 have hne : some q ≠ row := fun e => (hr q e.symm).2 rfl
 obtain ⟨h1, h2, h3, h4⟩ := h.2.2.2
 exact ⟨h.1.grown hg h.1.size (fun k hk => (hr k hk).1), h.2.1, h.2.2.1, Nat.lt_of_lt_of_le h1 hg.size, hg.cell h2 hne, hg.cell h3 hne, hg.cell h4 hne⟩
theorem flatS_one {w : World} {B : Nat} {L : List (SetP × Value)} (h : ∀ p ∈ L, w.ownsRow B 9 1 p.2 p.1.data.length (sc p.1.data)) : ∀ u ∈ flatS L, u.oneCell' = true := by
 intro u hu
 obtain ⟨p, hp, hu⟩ := List.mem_flatMap.1 hu
 obtain ⟨a, c, e, _⟩ := own_form (h p hp)
 exact encS_one p ⟨a, _, c, e⟩ u hu
theorem flatS_drop (L : List (SetP × Value)) (j : Nat) (hj : j ≤ L.length) : (flatS L).take (j * 5) = flatS (L.take j) ∧ (flatS L).drop (j * 5) = flatS (L.drop j) := by
 have h1 : flatS L = flatS (L.take j) ++ flatS (L.drop j) := by rw [← flatS_append, List.take_append_drop]
 have h2 : (flatS (L.take j)).length = j * 5 := by rw [flatS_len, List.length_take, Nat.min_eq_left hj]
 constructor
 · rw [h1, ← h2, List.take_left]
 · rw [h1, ← h2, List.drop_left]
def MidG (w : World) (l : List R5) (k : Nat) (r : R5) (j : Nat) (v : Value) (wx : World) (A D : List (SetP × Value)) (s : SetP) (dv : Value) : Prop := OwnRS wx w.heap.size v (A ++ (s, dv) :: D) ∧ A.length = j ∧ s.k = r.k ∧ Below w.heap.size w wx ∧ ((s = ⟨r.k, r.ttl, []⟩ ∧ Canon (l.take k) ((A ++ D).map Prod.fst) ∧ (∀ a ∈ A, kcmp a.1.k r.k < 0) ∧ (∀ x ∈ D, kcmp r.k x.1.k < 0)) ∨ Canon (l.take k) ((A ++ (s, dv) :: D).map Prod.fst)) ∧ (A ++ (s, dv) :: D).length ≤ k + 1 ∧ ∀ p ∈ A ++ (s, dv) :: D, p.1.data.length ≤ k
theorem own_up {w : World} {B B' size n : Nat} {e : TypeId} {v : Value} {xs : List Value} (h : w.ownsRow B e size v n xs) (hB : ∀ k, v.ownBlock = some k → B' ≤ k) : w.ownsRow B' e size v n xs := by
 refine ⟨h.1, ?_⟩
 rcases h.2 with h2 | ⟨g, cap, cur, hv, hb, h3⟩
 · exact Or.inl h2
 · exact Or.inr ⟨g, cap, cur, hv, hB g (by rw [hv]; rfl), h3⟩
theorem own_blk (a : Option Addr) (n m c : Nat) : (Value.slice a n c).ownBlock = (Value.slice a m c).ownBlock := by
 cases a with
 | none => rfl
 | some x => first | rfl | (obtain ⟨b, o, p⟩ := x; rfl)
theorem mid_pair {l : List R5} {k : Nat} {A D : List (SetP × Value)} {s : SetP} {dv : Value} {r : R5} (h : (s = ⟨r.k, r.ttl, []⟩ ∧ Canon (l.take k) ((A ++ D).map Prod.fst) ∧ (∀ a ∈ A, kcmp a.1.k r.k < 0) ∧ (∀ x ∈ D, kcmp r.k x.1.k < 0)) ∨ Canon (l.take k) ((A ++ (s, dv) :: D).map Prod.fst)) : s.data.Pairwise (fun x y => cmpB x y < 0) := by
 rcases h with ⟨h, -⟩ | h
 · rw [h]; exact List.Pairwise.nil
 · exact h.rise s (List.mem_map.2 ⟨(s, dv), by simp, rfl⟩)
theorem mid_canon {l : List R5} {k : Nat} {A D : List (SetP × Value)} {s : SetP} {dv : Value} {r : R5} (hk : l[k]? = some r) (hs : s.k = r.k) (h : (s = ⟨r.k, r.ttl, []⟩ ∧ Canon (l.take k) ((A ++ D).map Prod.fst) ∧ (∀ a ∈ A, kcmp a.1.k r.k < 0) ∧ (∀ x ∈ D, kcmp r.k x.1.k < 0)) ∨ Canon (l.take k) ((A ++ (s, dv) :: D).map Prod.fst)) {data' : List ByteArray} (hm : ∀ d, d ∈ data' ↔ d ∈ s.data ∨ d = r.d) (hr : data'.Pairwise (fun x y => cmpB x y < 0)) (hnew : s.data = [] → data' = [r.d]) (dv' : Value) : Canon (l.take (k + 1)) ((A ++ (⟨s.k, min s.ttl r.ttl, data'⟩, dv') :: D).map Prod.fst) := by
 rw [List.take_add_one, hk, List.map_append, List.map_cons]
 rcases h with ⟨h1, h2, h3, h4⟩ | h
 · rw [hnew (by rw [h1]), h1]
   rw [List.map_append] at h2
   have e : min r.ttl r.ttl = r.ttl := by omega
   show Canon (l.take k ++ [r]) (A.map Prod.fst ++ ⟨r.k, min r.ttl r.ttl, [r.d]⟩ :: D.map Prod.fst)
   rw [e]
   exact canon_ins_new h2 (fun a ha => by obtain ⟨p, hp, rfl⟩ := List.mem_map.1 ha; exact h3 p hp) (fun a ha => by obtain ⟨p, hp, rfl⟩ := List.mem_map.1 ha; exact h4 p hp)
 · rw [List.map_append, List.map_cons] at h
   exact canon_ins_same h hs hm hr
theorem mid_ins {data : List ByteArray} {rd : ByteArray} (hp : data.Pairwise (fun x y => cmpB x y < 0)) {x nd : Nat} (hnd : data.length = nd) (hx : x ≤ nd) (ha : ∀ i, i < x → cmpB (data.getD i ByteArray.empty) rd < 0) (hne : ¬ (x < nd ∧ data.getD x ByteArray.empty = rd)) (hn : x < nd → ¬ cmpB (data.getD x ByteArray.empty) rd < 0) : (data.take x ++ rd :: data.drop x).Pairwise (fun x y => cmpB x y < 0) ∧ ∀ d, d ∈ data.take x ++ rd :: data.drop x ↔ d ∈ data ∨ d = rd := by
 constructor
 · refine rise_ins (by rw [List.take_append_drop]; exact hp) (fun a h => ?_) (fun a h => ?_)
   · obtain ⟨i, hi⟩ := List.getElem?_of_mem h
     obtain ⟨h1, h2⟩ := List.getElem?_eq_some_iff.1 hi
     rw [List.length_take] at h1
     rw [List.getElem_take] at h2
     have h3 := ha i (by omega)
     rw [List.getD_eq_getElem?_getD, List.getElem?_eq_getElem (by omega), Option.getD_some, h2] at h3
     exact h3
   · by_cases hxn : x < nd
     · have h1 := hn hxn
       have h2 : ¬ data.getD x ByteArray.empty = rd := fun e => hne ⟨hxn, e⟩
       obtain ⟨dx, hdx⟩ : ∃ dx, data[x]? = some dx := ⟨_, List.getElem?_eq_getElem (by omega)⟩
       have e : data.getD x ByteArray.empty = dx := by rw [List.getD_eq_getElem?_getD, hdx]; rfl
       rw [e] at h1 h2
       have h3 : cmpB dx rd ≠ 0 := fun h => h2 ((ord_cmpB.zero _ _).1 h)
       have h4 := ord_cmpB.anti dx rd
       exact drop_gt ord_cmpB.pre hp hdx (by omega) a h
     · rw [List.drop_eq_nil_of_le (by omega)] at h; cases h
 · intro d
   have h1 : d ∈ data ↔ d ∈ data.take x ∨ d ∈ data.drop x := by
     rw [← List.mem_append, List.take_append_drop]
   rw [List.mem_append, List.mem_cons, h1]
   constructor
   · rintro (h | h | h)
     · exact Or.inl (Or.inl h)
     · exact Or.inr h
     · exact Or.inl (Or.inr h)
   · rintro ((h | h) | h)
     · exact Or.inl h
     · exact Or.inr (Or.inr h)
     · exact Or.inr (Or.inl h)
theorem RG.of_mid {w wr wx : World} {l : List R5} {k j : Nat} {r : R5} {v v2 : Value} {A D : List (SetP × Value)} {s : SetP} {dv dv' : Value} (hmid : MidG w l k r j v wx A D s dv) (hk : l[k]? = some r) {data' : List ByteArray} (hm : ∀ d, d ∈ data' ↔ d ∈ s.data ∨ d = r.d) (hr : data'.Pairwise (fun x y => cmpB x y < 0)) (hnew : s.data = [] → data' = [r.d]) (hlen : data'.length ≤ k + 1) (ho : OwnRS wr w.heap.size v2 (A ++ (⟨s.k, min s.ttl r.ttl, data'⟩, dv') :: D)) (hb : Below w.heap.size w wr) : RG w l (k + 1) v2 wr (A ++ (⟨s.k, min s.ttl r.ttl, data'⟩, dv') :: D) := by
 refine ⟨ho, mid_canon hk hmid.2.2.1 hmid.2.2.2.2.1 hm hr hnew dv', hb, ?_, fun p hp => ?_⟩
 · have := hmid.2.2.2.2.2.1
   rw [List.length_append, List.length_cons] at this ⊢
   exact this
 · have h9 := hmid.2.2.2.2.2.2
   rcases mem_mid.1 hp with hp | rfl | hp
   · exact Nat.le_succ_of_le (h9 p (mem_mid.2 (Or.inl hp)))
   · exact hlen
   · exact Nat.le_succ_of_le (h9 p (mem_mid.2 (Or.inr (Or.inr hp))))
theorem cell_lat {w wx : World} {a : Addr} {v : Value} (hb : Below w.heap.size w wx) (hl : a.block < w.heap.size) (h : w.cell? a = some v) : wx.cell? a = some v := (hb.cell hl).trans h
theorem sc_dropL (l : List ByteArray) (k : Nat) : (sc l).drop k = sc (l.drop k) := by rw [sc, sc, List.map_drop]
theorem sc_takeL (l : List ByteArray) (k : Nat) : (sc l).take k = sc (l.take k) := by rw [sc, sc, List.map_take]
theorem mid_row {w : World} {B x nd n : Nat} {v : Value} {data : List ByteArray} {rd : ByteArray} (hnd : data.length = nd) (hx : x ≤ nd) (h : w.ownsRow B 9 1 v n ((sc data).take (x * 1) ++ ((#[Value.string rd] : Array Value).toList ++ (sc data).drop (x * 1)))) (hn : x + (1 + (nd - x)) = n) : w.ownsRow B 9 1 v (data.take x ++ rd :: data.drop x).length (sc (data.take x ++ rd :: data.drop x)) := by
 have e : (data.take x ++ rd :: data.drop x).length = n := by
  rw [List.length_append, List.length_cons, List.length_take, List.length_drop]; omega
 rw [e]
 rw [Nat.mul_one, sc_takeL, sc_dropL] at h
 have e2 : sc (data.take x ++ rd :: data.drop x) = sc (data.take x) ++ ((#[Value.string rd] : Array Value).toList ++ sc (data.drop x)) := by
  rw [sc_append]; rfl
 rw [e2]; exact h
theorem sc_oneC {n x : Nat} {data : List ByteArray} (_ : ((sc data).drop x).length = n) : ∀ u ∈ (sc data).drop x, u.oneCell' = true := fun u hu => sc_oneCell data u (List.mem_of_mem_drop hu)
theorem sc_oneC2 {n x : Nat} {data : List ByteArray} {rd : ByteArray} (_ : ((sc data).drop x).length = n) : ∀ u ∈ (#[Value.string rd] : Array Value).toList ++ (sc data).drop x, u.oneCell' = true := fun u hu => by
 rcases List.mem_append.1 hu with hu | hu
 · obtain rfl := List.mem_singleton.1 (show u ∈ [Value.string rd] from hu); rfl
 · exact sc_oneCell data u (List.mem_of_mem_drop hu)
set_option maxRecDepth 100000 in
set_option maxHeartbeats 40000000 in
theorem rgroup_any (a : Option Addr) (n c : Nat) (l : List R5) (w : World) (h : RowR w a n l) (hlen : n ≤ 1000) (hl : ∀ r ∈ l, r.k.n.size ≤ 1000000) :
  Calls Tryz.prog 58 #[.slice a n c] w fun e w' => ∃ a' c' S, e = .returned (.slice a' S.length c') ∧ Canon l S ∧ SetsAt w' a' S.length S ∧ Below w.heap.size w w' := by
 have HR := Lib.hid h
 have HLN := Lib.hid h.1
 have HSZ := Lib.hid hl
 obtain ⟨i1, hi, hy0, hy1, hy2⟩ := info_parts infoRSet
 have HI := Lib.hid hi
 have HZ0 := Lib.hid hy0
 have HZ1 := Lib.hid hy1
 have HZ2 := Lib.hid hy2
 clear hi hy0 hy1 hy2
 clear h hl
 go_enter Tryz.func58, Tryz.ntmps58
 go_wp2_with fail
 go_loopw [3, 4] (fun v i wr => ∃ (k : Nat) (L : List (SetP × Value)), k ≤ n ∧ i = .int .i64 k ∧ Hid (RG w l k v wr L)) (fun _ i _ => n - (intOf i).toNat)
 case atStart => exact ⟨0, [], Nat.zero_le _, rfl, OwnRS.nil _ _, by simpa using Canon.nil, Below.refl _ _, Nat.le_refl _, (fun p hp => by cases hp)⟩
 case round =>
  obtain ⟨k, L, hk, rfl, hrg⟩ := hrel
  by_cases hlt : k < n
  · obtain ⟨b, o, r, rfl, hbl0, hr, x0, x1, x2, x3, x4⟩ := HR.out.at k hlt
    have HBL := Lib.hid hbl0
    have HC3W := Lib.hid x3
    have HC4W := Lib.hid x4
    have c0 := (hrg.out.2.2.1.cell (p := ⟨b, _, none⟩) hbl0).trans x0
    have c1 := (hrg.out.2.2.1.cell (p := ⟨b, _, none⟩) hbl0).trans x1
    have c2 := (hrg.out.2.2.1.cell (p := ⟨b, _, none⟩) hbl0).trans x2
    have c3 := (hrg.out.2.2.1.cell (p := ⟨b, _, none⟩) hbl0).trans x3
    have c4 := (hrg.out.2.2.1.cell (p := ⟨b, _, none⟩) hbl0).trans x4
    clear x0 x1 x2 x3 x4 hbl0
    obtain ⟨⟨rn, rt, rc⟩, ru, rd⟩ := r
    replace c0 : wr.cell? ⟨b, o + k * 5, none⟩ = some (.string rn) := c0
    replace c1 : wr.cell? ⟨b, o + k * 5 + 1, none⟩ = some (.int .i64 rt) := c1
    replace c2 : wr.cell? ⟨b, o + k * 5 + 2, none⟩ = some (.int .i64 rc) := c2
    replace c3 : wr.cell? ⟨b, o + k * 5 + 3, none⟩ = some (.int .i64 ru) := c3
    replace c4 : wr.cell? ⟨b, o + k * 5 + 4, none⟩ = some (.string rd) := c4
    have hrs : rn.size ≤ 1000000 := HSZ.out _ (List.mem_of_getElem? hr)
    have HRK := Lib.hid hr
    have HC3 := Lib.hid c3
    have HC4 := Lib.hid c4
    clear hr
    go_wp2_with fail
    refine (rkeyOf_any rn rt rc ru rd wr).mono ?_; rintro e w2 ⟨rfl, hb⟩
    have hal := (Below.refl w2.heap.size w2).alloc (Nat.le_refl _) (.cells #[.string rn, .int .i64 rt, .int .i64 rc] 41)
    have HBA := Lib.hid (hb.trans (hal.mono hb.size))
    have HKY := Lib.hid (kyAt_new w2 ⟨rn, rt, rc⟩ 41)
    have HW2 := Lib.hid hb.size
    clear hb hal c0 c1 c2 c3 c4
    obtain ⟨a3, c3', rfl, hsa, _⟩ := hrg.out.1.at
    obtain ⟨m, hm⟩ : ∃ x, L.length = x := ⟨_, rfl⟩
    rw [hm] at hrg hsa ⊢
    obtain ⟨S, hS⟩ : ∃ x, L.map Prod.fst = x := ⟨_, rfl⟩
    rw [hS] at hsa
    have HM := Lib.hid hm
    have HSQ := Lib.hid hS
    have hcn := hrg.out.2.1
    rw [hS] at hcn
    have HCN := Lib.hid hcn
    have HSL := Lib.hid (show S.length = m by rw [← hS, List.length_map]; exact hm)
    have HSS := Lib.hid (fun (s : SetP) (hs : s ∈ S) => show s.k.n.size ≤ 1000000 by
     obtain ⟨⟨r, hr, h1, _⟩, _⟩ := hcn.low s hs
     rw [← h1]; exact HSZ.out r (List.mem_of_mem_take hr))
    go_upto_block 2 with fail
    obtain ⟨w3, hw3⟩ : ∃ x, w2.alloc (.cells #[.string rn, .int .i64 rt, .int .i64 rc] 41) = x := ⟨_, rfl⟩
    obtain ⟨q, hq⟩ : ∃ x, w2.heap.size = x := ⟨_, rfl⟩
    rw [hw3] at HBA HKY ⊢
    rw [hq] at HKY ⊢
    have HKY3 := HKY
    have HQE := Lib.hid hq
    have HS3 := Lib.hid (hsa.below HBA.out)
    have hmk : m ≤ n := by have := hrg.out.2.2.2.1; omega
    clear hm hS hcn hsa hw3 hq HKY
    go_cut [6] (fun at' wx => ∃ j : Nat, j ≤ m ∧ at' = .int .i64 j ∧ Hid (∀ i, i < j → kcmp (S.getD i ssD).k ⟨rn, rt, rc⟩ < 0) ∧ Hid (j < m → ¬ kcmp (S.getD j ssD).k ⟨rn, rt, rc⟩ < 0) ∧ Hid (Below w3.heap.size w3 wx))
    case first =>
     go_wp2_with fail
     go_loopw [6] (fun i wr => ∃ j : Nat, j ≤ m ∧ i = .int .i64 j ∧ Hid (∀ i, i < j → kcmp (S.getD i ssD).k ⟨rn, rt, rc⟩ < 0) ∧ Hid (Below w3.heap.size w3 wr)) (fun i _ => m - (intOf i).toNat)
     case atStart => exact ⟨0, Nat.zero_le _, rfl, (fun i hi => absurd hi (by omega)), Below.refl _ _⟩
     case round =>
       obtain ⟨j, hj, rfl, hall, HBJ⟩ := hrel
       by_cases hj2 : j < m
       · rcases HS3.out.2 with h9 | ⟨g, go, hgo, hgl, hc⟩
         · omega
         obtain ⟨p5, c5, hs⟩ := hc j hj2
         have hmem : S.getD j ssD ∈ S := by
           rw [List.getD_eq_getElem?_getD, List.getElem?_eq_getElem (by have := HSL.out; omega)]
           exact List.getElem_mem _
         have hsz := (HSS.out _ hmem)
         obtain ⟨s, hss⟩ : ∃ s, S.getD j ssD = s := ⟨_, rfl⟩
         rw [hss] at hs hsz
         have HSJ := Lib.hid hss
         obtain ⟨⟨sn, st, sc1⟩, su, sd⟩ := s
         replace hsz : sn.size ≤ 1000000 := hsz
         obtain ⟨z0, z1, z2, -⟩ := hs
         replace z0 : w3.cell? ⟨g, go + j * 5, none⟩ = some (.string sn) := z0
         replace z1 : w3.cell? ⟨g, go + j * 5 + 1, none⟩ = some (.int .i64 st) := z1
         replace z2 : w3.cell? ⟨g, go + j * 5 + 2, none⟩ = some (.int .i64 sc1) := z2
         obtain ⟨hqs, p0, p1, p2⟩ := HKY3.out
         replace p0 : w3.cell? ⟨q, 0, none⟩ = some (.string rn) := p0
         replace p1 : w3.cell? ⟨q, 1, none⟩ = some (.int .i64 rt) := p1
         replace p2 : w3.cell? ⟨q, 2, none⟩ = some (.int .i64 rc) := p2
         have HCM := Lib.hid (fun wx => rcompareK ⟨sn, st, sc1⟩ ⟨rn, rt, rc⟩ wx hsz hrs)
         obtain ⟨x, hx⟩ : ∃ x, kcmp ⟨sn, st, sc1⟩ ⟨rn, rt, rc⟩ = x := ⟨_, rfl⟩
         rw [hx] at HCM
         have HX := Lib.hid hx
         have i0 : (0 : Int) ≤ (j : Int) := by omega
         have i2 : (j : Int) < (m : Int) := by omega
         clear hc hmem hss hx
         subst hgo
         by_cases hx0 : x < 0
         · have d1 := dT hx0
           have HN := Lib.hid (show ∀ i, i < j + 1 → kcmp (S.getD i ssD).k ⟨rn, rt, rc⟩ < 0 from fun i hi => by
             by_cases e : i = j
             · subst e; rw [HSJ.out]; show kcmp ⟨sn, st, sc1⟩ ⟨rn, rt, rc⟩ < 0; rw [HX.out]; exact hx0
             · exact hall.out i (by omega))
           go_wp2_with fail
           have hfix : Fix w3 [(⟨g, go + j * 5, none⟩, .string sn), (⟨g, go + j * 5 + 1, none⟩, .int .i64 st), (⟨g, go + j * 5 + 2, none⟩, .int .i64 sc1), (⟨q, 0, none⟩, .string rn), (⟨q, 1, none⟩, .int .i64 rt), (⟨q, 2, none⟩, .int .i64 rc)] wr := ⟨HBJ.out, by
             intro c hc
             simp only [List.mem_cons, List.not_mem_nil, or_false] at hc
             rcases hc with rfl | rfl | rfl | rfl | rfl | rfl
             · exact ⟨hgl, z0⟩
             · exact ⟨hgl, z1⟩
             · exact ⟨hgl, z2⟩
             · exact ⟨hqs, p0⟩
             · exact ⟨hqs, p1⟩
             · exact ⟨hqs, p2⟩⟩
           have HFX := Lib.hid hfix.drew.all6
           clear hfix
           refine wp_region_held_drew (S := (fun wx => Hid (Fix w3 [(⟨g, go + j * 5, none⟩, .string sn), (⟨g, go + j * 5 + 1, none⟩, .int .i64 st), (⟨g, go + j * 5 + 2, none⟩, .int .i64 sc1), (⟨q, 0, none⟩, .string rn), (⟨q, 1, none⟩, .int .i64 rt), (⟨q, 2, none⟩, .int .i64 rc)] wx) ∧ wx.cell? ⟨g, go + j * 5, none⟩ = some (.string sn) ∧ wx.cell? ⟨g, go + j * 5 + 1, none⟩ = some (.int .i64 st) ∧ wx.cell? ⟨g, go + j * 5 + 2, none⟩ = some (.int .i64 sc1) ∧ wx.cell? ⟨q, 0, none⟩ = some (.string rn) ∧ wx.cell? ⟨q, 1, none⟩ = some (.int .i64 rt) ∧ wx.cell? ⟨q, 2, none⟩ = some (.int .i64 rc))) (by kernel_rfl) (HFX.out) (fun hHeld => ?_)
           refine Plan.of [0, 1, 2, 3, 4, 5, 6, 7, 8, 9, 10] ?_
           iterate 11 (refine Plan.w (v := ?_) rfl hHeld (by rfl) ?_ ?_; rotate_left; (focus (intro w hSw; (try dsimp only at hSw); go_simp; try with_reducible rfl)); try simp only [Act.put, List.setIfInBounds_toArray, List.set_cons_zero, List.set_cons_succ])
           refine Plan.fin ?_
           refine wpAnyH_ready (rs := [11]) (by kernel_rfl) (by simp) ?_
           refine AllReadyH.cons (o := { dst := some 31, op := Go.Op.call { callee := Go.Callee.value (Go.Operand.func 111), args := #[Go.Operand.tmp 29, Go.Operand.tmp 30], argTypes := #[41, 41] }, type := 3, pos := "ref.go:548", after := #[{ on := 9, ground := Go.Ground.data }, { on := 10, ground := Go.Ground.data }, { on := 4, ground := Go.Ground.chain }, { on := 4, ground := Go.Ground.guard }], guard := some (4, true) }) rfl (fun K hK => ?_) AllReadyH.nil
           go_simp
           refine (HCM.out _).mono ?_; rintro e wy ⟨rfl, hb⟩
           go_wp2_with fail
           refine hK.out _ _ (Fix.next6 hb hHeld) (fun hHeld2 => ?_)
           clear hK K hHeld
           have hHeld := hHeld2
           clear hHeld2
           try simp only [Act.put, List.setIfInBounds_toArray, List.set_cons_zero, List.set_cons_succ]
           refine Plan.of [12, 13] ?_
           iterate 2 (refine Plan.w (v := ?_) rfl hHeld (by rfl) ?_ ?_; rotate_left; (focus (intro w hSw; (try dsimp only at hSw); go_simp; try with_reducible rfl)); try simp only [Act.put, List.setIfInBounds_toArray, List.set_cons_zero, List.set_cons_succ])
           refine Plan.fin ?_
           refine wpAnyH_done (by kernel_rfl) ?_ _
           go_wp2
           go_roundw
           case rel => exact ⟨j + 1, by omega, by go_num, HN, Lib.hid (Fix.get6 hHeld)⟩
           case measure => simp [intOf]; omega
         · have d1 := dF hx0
           have HN := Lib.hid (show j < m → ¬ kcmp (S.getD j ssD).k ⟨rn, rt, rc⟩ < 0 from fun _ => by
             rw [HSJ.out]; show ¬ kcmp ⟨sn, st, sc1⟩ ⟨rn, rt, rc⟩ < 0; rw [HX.out]; exact hx0)
           go_wp2_with fail
           have hfix : Fix w3 [(⟨g, go + j * 5, none⟩, .string sn), (⟨g, go + j * 5 + 1, none⟩, .int .i64 st), (⟨g, go + j * 5 + 2, none⟩, .int .i64 sc1), (⟨q, 0, none⟩, .string rn), (⟨q, 1, none⟩, .int .i64 rt), (⟨q, 2, none⟩, .int .i64 rc)] wr := ⟨HBJ.out, by
             intro c hc
             simp only [List.mem_cons, List.not_mem_nil, or_false] at hc
             rcases hc with rfl | rfl | rfl | rfl | rfl | rfl
             · exact ⟨hgl, z0⟩
             · exact ⟨hgl, z1⟩
             · exact ⟨hgl, z2⟩
             · exact ⟨hqs, p0⟩
             · exact ⟨hqs, p1⟩
             · exact ⟨hqs, p2⟩⟩
           have HFX := Lib.hid hfix.drew.all6
           clear hfix
           refine wp_region_held_drew (S := (fun wx => Hid (Fix w3 [(⟨g, go + j * 5, none⟩, .string sn), (⟨g, go + j * 5 + 1, none⟩, .int .i64 st), (⟨g, go + j * 5 + 2, none⟩, .int .i64 sc1), (⟨q, 0, none⟩, .string rn), (⟨q, 1, none⟩, .int .i64 rt), (⟨q, 2, none⟩, .int .i64 rc)] wx) ∧ wx.cell? ⟨g, go + j * 5, none⟩ = some (.string sn) ∧ wx.cell? ⟨g, go + j * 5 + 1, none⟩ = some (.int .i64 st) ∧ wx.cell? ⟨g, go + j * 5 + 2, none⟩ = some (.int .i64 sc1) ∧ wx.cell? ⟨q, 0, none⟩ = some (.string rn) ∧ wx.cell? ⟨q, 1, none⟩ = some (.int .i64 rt) ∧ wx.cell? ⟨q, 2, none⟩ = some (.int .i64 rc))) (by kernel_rfl) (HFX.out) (fun hHeld => ?_)
           refine Plan.of [0, 1, 2, 3, 4, 5, 6, 7, 8, 9, 10] ?_
           iterate 11 (refine Plan.w (v := ?_) rfl hHeld (by rfl) ?_ ?_; rotate_left; (focus (intro w hSw; (try dsimp only at hSw); go_simp; try with_reducible rfl)); try simp only [Act.put, List.setIfInBounds_toArray, List.set_cons_zero, List.set_cons_succ])
           refine Plan.fin ?_
           refine wpAnyH_ready (rs := [11]) (by kernel_rfl) (by simp) ?_
           refine AllReadyH.cons (o := { dst := some 31, op := Go.Op.call { callee := Go.Callee.value (Go.Operand.func 111), args := #[Go.Operand.tmp 29, Go.Operand.tmp 30], argTypes := #[41, 41] }, type := 3, pos := "ref.go:548", after := #[{ on := 9, ground := Go.Ground.data }, { on := 10, ground := Go.Ground.data }, { on := 4, ground := Go.Ground.chain }, { on := 4, ground := Go.Ground.guard }], guard := some (4, true) }) rfl (fun K hK => ?_) AllReadyH.nil
           go_simp
           refine (HCM.out _).mono ?_; rintro e wy ⟨rfl, hb⟩
           go_wp2_with fail
           refine hK.out _ _ (Fix.next6 hb hHeld) (fun hHeld2 => ?_)
           clear hK K hHeld
           have hHeld := hHeld2
           clear hHeld2
           try simp only [Act.put, List.setIfInBounds_toArray, List.set_cons_zero, List.set_cons_succ]
           refine Plan.of [12, 13] ?_
           iterate 2 (refine Plan.w (v := ?_) rfl hHeld (by rfl) ?_ ?_; rotate_left; (focus (intro w hSw; (try dsimp only at hSw); go_simp; try with_reducible rfl)); try simp only [Act.put, List.setIfInBounds_toArray, List.set_cons_zero, List.set_cons_succ])
           refine Plan.fin ?_
           refine wpAnyH_done (by kernel_rfl) ?_ _
           go_wp2
           go_meet
           exact ⟨j, hj, rfl, hall, HN, Lib.hid (Fix.get6 hHeld)⟩
       · have hjm : j = m := by omega
         have HN := Lib.hid (show j < m → ¬ kcmp (S.getD j ssD).k ⟨rn, rt, rc⟩ < 0 from fun h => absurd h hj2)
         have d1 : decide (j < m) = false := dF hj2
         clear hjm
         go_wp2_with fail
         go_quiet (fail)
         rename_i nq
         have HBQ := Lib.hid (below_drewN HBJ.out nq)
         go_wp2
         go_meet
         exact ⟨j, hj, rfl, hall, HN, HBQ⟩
    case rest =>
    obtain ⟨j, hj, rfl, hall, hnot, HBJ⟩ := hcut
    go_upto_region 9 with fail
    go_cut [49] (fun t wx => ∃ nw : Bool, t = .bool nw ∧ Hid (nw = false ↔ j < m ∧ kcmp (S.getD j ssD).k ⟨rn, rt, rc⟩ = 0) ∧ Hid (Below w3.heap.size w3 wx))
    case first =>
     by_cases hj2 : j < m
     · have e1 : ((j : Int) == (m : Int)) = false := eF (by omega)
       have e2 : (j == m) = false := by simp; omega
       rcases HS3.out.2 with h9 | ⟨g, go, hgo, hgl, hc⟩
       · omega
       obtain ⟨p5, c5, hs⟩ := hc j hj2
       have hmem : S.getD j ssD ∈ S := by
         rw [List.getD_eq_getElem?_getD, List.getElem?_eq_getElem (by have := HSL.out; omega)]
         exact List.getElem_mem _
       have hsz := (HSS.out _ hmem)
       obtain ⟨s, hss⟩ : ∃ s, S.getD j ssD = s := ⟨_, rfl⟩
       rw [hss] at hs hsz
       have HSJ := Lib.hid hss
       obtain ⟨⟨sn, st, sc1⟩, su, sd⟩ := s
       replace hsz : sn.size ≤ 1000000 := hsz
       obtain ⟨z0, z1, z2, -⟩ := hs
       replace z0 : w3.cell? ⟨g, go + j * 5, none⟩ = some (.string sn) := z0
       replace z1 : w3.cell? ⟨g, go + j * 5 + 1, none⟩ = some (.int .i64 st) := z1
       replace z2 : w3.cell? ⟨g, go + j * 5 + 2, none⟩ = some (.int .i64 sc1) := z2
       obtain ⟨hqs, p0, p1, p2⟩ := HKY3.out
       replace p0 : w3.cell? ⟨q, 0, none⟩ = some (.string rn) := p0
       replace p1 : w3.cell? ⟨q, 1, none⟩ = some (.int .i64 rt) := p1
       replace p2 : w3.cell? ⟨q, 2, none⟩ = some (.int .i64 rc) := p2
       have HCM := Lib.hid (fun wx => rcompareK ⟨sn, st, sc1⟩ ⟨rn, rt, rc⟩ wx hsz hrs)
       obtain ⟨x, hx⟩ : ∃ x, kcmp ⟨sn, st, sc1⟩ ⟨rn, rt, rc⟩ = x := ⟨_, rfl⟩
       rw [hx] at HCM
       have HX := Lib.hid hx
       have i0 : (0 : Int) ≤ (j : Int) := by omega
       have i2 : (j : Int) < (m : Int) := by omega
       clear hc hmem hss hx
       subst hgo
       by_cases hx0 : x = 0
       · have d1 : (x != 0) = false := nF hx0
         have HN := Lib.hid (show false = false ↔ j < m ∧ kcmp (S.getD j ssD).k ⟨rn, rt, rc⟩ = 0 from ⟨fun _ => ⟨hj2, by rw [HSJ.out]; show kcmp ⟨sn, st, sc1⟩ ⟨rn, rt, rc⟩ = 0; rw [HX.out]; exact hx0⟩, fun _ => rfl⟩)
         have HX0 := Lib.hid hx0
         clear hx0
         have hfix : Fix w3 [(⟨g, go + j * 5, none⟩, .string sn), (⟨g, go + j * 5 + 1, none⟩, .int .i64 st), (⟨g, go + j * 5 + 2, none⟩, .int .i64 sc1), (⟨q, 0, none⟩, .string rn), (⟨q, 1, none⟩, .int .i64 rt), (⟨q, 2, none⟩, .int .i64 rc)] wc := ⟨HBJ.out, by
           intro c hc
           simp only [List.mem_cons, List.not_mem_nil, or_false] at hc
           rcases hc with rfl | rfl | rfl | rfl | rfl | rfl
           · exact ⟨hgl, z0⟩
           · exact ⟨hgl, z1⟩
           · exact ⟨hgl, z2⟩
           · exact ⟨hqs, p0⟩
           · exact ⟨hqs, p1⟩
           · exact ⟨hqs, p2⟩⟩
         have HFX := Lib.hid hfix.drew.all6
         clear hfix
         refine wp_region_held_drew (S := (fun wx => Hid (Fix w3 [(⟨g, go + j * 5, none⟩, .string sn), (⟨g, go + j * 5 + 1, none⟩, .int .i64 st), (⟨g, go + j * 5 + 2, none⟩, .int .i64 sc1), (⟨q, 0, none⟩, .string rn), (⟨q, 1, none⟩, .int .i64 rt), (⟨q, 2, none⟩, .int .i64 rc)] wx) ∧ wx.cell? ⟨g, go + j * 5, none⟩ = some (.string sn) ∧ wx.cell? ⟨g, go + j * 5 + 1, none⟩ = some (.int .i64 st) ∧ wx.cell? ⟨g, go + j * 5 + 2, none⟩ = some (.int .i64 sc1) ∧ wx.cell? ⟨q, 0, none⟩ = some (.string rn) ∧ wx.cell? ⟨q, 1, none⟩ = some (.int .i64 rt) ∧ wx.cell? ⟨q, 2, none⟩ = some (.int .i64 rc))) (by kernel_rfl) (HFX.out) (fun hHeld => ?_)
         refine Plan.of [0, 1, 2, 3, 4, 5, 6, 7, 8, 9, 10] ?_
         iterate 11 (refine Plan.w (v := ?_) rfl hHeld (by rfl) ?_ ?_; rotate_left; (focus (intro w hSw; (try dsimp only at hSw); go_simp; try with_reducible rfl)); try simp only [Act.put, List.setIfInBounds_toArray, List.set_cons_zero, List.set_cons_succ])
         refine Plan.fin ?_
         refine wpAnyH_ready (rs := [11]) (by kernel_rfl) (by simp) ?_
         refine AllReadyH.cons (o := { dst := some 47, op := Go.Op.call { callee := Go.Callee.value (Go.Operand.func 111), args := #[Go.Operand.tmp 45, Go.Operand.tmp 46], argTypes := #[41, 41] }, type := 3, pos := "ref.go:551", after := #[{ on := 9, ground := Go.Ground.data }, { on := 10, ground := Go.Ground.data }, { on := 4, ground := Go.Ground.chain }, { on := 4, ground := Go.Ground.guard }], guard := some (4, false) }) rfl (fun K hK => ?_) AllReadyH.nil
         go_simp
         refine (HCM.out _).mono ?_; rintro e wy ⟨rfl, hb⟩
         go_wp2_with fail
         refine hK.out _ _ (Fix.next6 hb hHeld) (fun hHeld2 => ?_)
         clear hK K hHeld
         have hHeld := hHeld2
         clear hHeld2
         try simp only [Act.put, List.setIfInBounds_toArray, List.set_cons_zero, List.set_cons_succ]
         refine Plan.of [12, 13] ?_
         iterate 2 (refine Plan.w (v := ?_) rfl hHeld (by rfl) ?_ ?_; rotate_left; (focus (intro w hSw; (try dsimp only at hSw); go_simp; try with_reducible rfl)); try simp only [Act.put, List.setIfInBounds_toArray, List.set_cons_zero, List.set_cons_succ])
         refine Plan.fin ?_
         refine wpAnyH_done (by kernel_rfl) ?_ _
         go_wp2
         go_meet
         exact ⟨false, rfl, Lib.hid (by first | exact HN.out | (have h7 := HN.out; simpa using h7)), Lib.hid (Fix.get6 hHeld)⟩
       · have d1 : (x != 0) = true := nT hx0
         have HN := Lib.hid (show true = false ↔ j < m ∧ kcmp (S.getD j ssD).k ⟨rn, rt, rc⟩ = 0 from ⟨(fun h => by cases h), fun h => absurd (by
           have h1 := h.2
           rw [HSJ.out] at h1
           exact HX.out.symm.trans h1) hx0⟩)
         have HX0 := Lib.hid hx0
         clear hx0
         have hfix : Fix w3 [(⟨g, go + j * 5, none⟩, .string sn), (⟨g, go + j * 5 + 1, none⟩, .int .i64 st), (⟨g, go + j * 5 + 2, none⟩, .int .i64 sc1), (⟨q, 0, none⟩, .string rn), (⟨q, 1, none⟩, .int .i64 rt), (⟨q, 2, none⟩, .int .i64 rc)] wc := ⟨HBJ.out, by
           intro c hc
           simp only [List.mem_cons, List.not_mem_nil, or_false] at hc
           rcases hc with rfl | rfl | rfl | rfl | rfl | rfl
           · exact ⟨hgl, z0⟩
           · exact ⟨hgl, z1⟩
           · exact ⟨hgl, z2⟩
           · exact ⟨hqs, p0⟩
           · exact ⟨hqs, p1⟩
           · exact ⟨hqs, p2⟩⟩
         have HFX := Lib.hid hfix.drew.all6
         clear hfix
         refine wp_region_held_drew (S := (fun wx => Hid (Fix w3 [(⟨g, go + j * 5, none⟩, .string sn), (⟨g, go + j * 5 + 1, none⟩, .int .i64 st), (⟨g, go + j * 5 + 2, none⟩, .int .i64 sc1), (⟨q, 0, none⟩, .string rn), (⟨q, 1, none⟩, .int .i64 rt), (⟨q, 2, none⟩, .int .i64 rc)] wx) ∧ wx.cell? ⟨g, go + j * 5, none⟩ = some (.string sn) ∧ wx.cell? ⟨g, go + j * 5 + 1, none⟩ = some (.int .i64 st) ∧ wx.cell? ⟨g, go + j * 5 + 2, none⟩ = some (.int .i64 sc1) ∧ wx.cell? ⟨q, 0, none⟩ = some (.string rn) ∧ wx.cell? ⟨q, 1, none⟩ = some (.int .i64 rt) ∧ wx.cell? ⟨q, 2, none⟩ = some (.int .i64 rc))) (by kernel_rfl) (HFX.out) (fun hHeld => ?_)
         refine Plan.of [0, 1, 2, 3, 4, 5, 6, 7, 8, 9, 10] ?_
         iterate 11 (refine Plan.w (v := ?_) rfl hHeld (by rfl) ?_ ?_; rotate_left; (focus (intro w hSw; (try dsimp only at hSw); go_simp; try with_reducible rfl)); try simp only [Act.put, List.setIfInBounds_toArray, List.set_cons_zero, List.set_cons_succ])
         refine Plan.fin ?_
         refine wpAnyH_ready (rs := [11]) (by kernel_rfl) (by simp) ?_
         refine AllReadyH.cons (o := { dst := some 47, op := Go.Op.call { callee := Go.Callee.value (Go.Operand.func 111), args := #[Go.Operand.tmp 45, Go.Operand.tmp 46], argTypes := #[41, 41] }, type := 3, pos := "ref.go:551", after := #[{ on := 9, ground := Go.Ground.data }, { on := 10, ground := Go.Ground.data }, { on := 4, ground := Go.Ground.chain }, { on := 4, ground := Go.Ground.guard }], guard := some (4, false) }) rfl (fun K hK => ?_) AllReadyH.nil
         go_simp
         refine (HCM.out _).mono ?_; rintro e wy ⟨rfl, hb⟩
         go_wp2_with fail
         refine hK.out _ _ (Fix.next6 hb hHeld) (fun hHeld2 => ?_)
         clear hK K hHeld
         have hHeld := hHeld2
         clear hHeld2
         try simp only [Act.put, List.setIfInBounds_toArray, List.set_cons_zero, List.set_cons_succ]
         refine Plan.of [12, 13] ?_
         iterate 2 (refine Plan.w (v := ?_) rfl hHeld (by rfl) ?_ ?_; rotate_left; (focus (intro w hSw; (try dsimp only at hSw); go_simp; try with_reducible rfl)); try simp only [Act.put, List.setIfInBounds_toArray, List.set_cons_zero, List.set_cons_succ])
         refine Plan.fin ?_
         refine wpAnyH_done (by kernel_rfl) ?_ _
         go_wp2
         go_meet
         exact ⟨true, rfl, Lib.hid (by first | exact HN.out | (have h7 := HN.out; simpa using h7)), Lib.hid (Fix.get6 hHeld)⟩
     · have hjm : j = m := by omega
       have e1 : ((j : Int) == (m : Int)) = true := eT (by omega)
       have e2 : (j == m) = true := by simpa using hjm
       have HN := Lib.hid (show true = false ↔ j < m ∧ kcmp (S.getD j ssD).k ⟨rn, rt, rc⟩ = 0 from ⟨(fun h => by cases h), fun h => absurd h.1 hj2⟩)
       clear hjm
       go_quiet (fail)
       rename_i nq
       have HBQ := Lib.hid (below_drewN HBJ.out nq)
       go_wp2
       go_meet
       exact ⟨true, rfl, Lib.hid (by first | exact HN.out | (have h7 := HN.out; simpa using h7)), HBQ⟩
    case rest =>
    obtain ⟨nw, rfl, hnw, HB9⟩ := hcut
    clear HBJ
    go_upto_if 49 with fail
    go_cut [3] (fun v wx => ∃ (A D : List (SetP × Value)) (s : SetP) (dv : Value), Hid (MidG w l k ⟨⟨rn, rt, rc⟩, ru, rd⟩ j v wx A D s dv))
    case first =>
     have HB3 := Lib.hid (hrg.out.2.2.1.trans ((HBA.out.trans (HB9.out.mono HBA.out.size)).mono hrg.out.2.2.1.size))
     have HOW := Lib.hid (show OwnRS wc w.heap.size (.slice a3 m c3') L from (hrg.out.1.below HBA.out).below HB9.out)
     have hlk : L.length ≤ k := hrg.out.2.2.2.1
     have hdk : ∀ p ∈ L, p.1.data.length ≤ k := hrg.out.2.2.2.2
     have HDK := Lib.hid hdk
     have HKY9 := Lib.hid (HKY3.out.below HB9.out)
     have hmL : L.length = m := HM.out
     have HTD := Lib.hid (show L = L.take j ++ L.drop j from (List.take_append_drop j L).symm)
     have HTJ := Lib.hid (show (L.take j).length = j by rw [List.length_take]; omega)
     cases nw with
     | false =>
       obtain ⟨hjm, hkz⟩ := hnw.out.1 (by first | rfl | trivial)
       obtain ⟨p, hp⟩ : ∃ p, L[j]? = some p := ⟨_, List.getElem?_eq_getElem (by omega)⟩
       obtain ⟨s, dv⟩ := p
       have hLj : L = L.take j ++ (s, dv) :: L.drop (j + 1) := by
         obtain ⟨h1, h2⟩ := List.getElem?_eq_some_iff.1 hp
         rw [← h2, ← List.drop_eq_getElem_cons h1, List.take_append_drop]
       have hSj : S.getD j ssD = s := by
         rw [← HSQ.out, List.getD_eq_getElem?_getD, List.getElem?_map, hp]; rfl
       have hsk : s.k = ⟨rn, rt, rc⟩ := by
         rw [hSj] at hkz
         exact (ord_kcmp.zero _ _).1 hkz
       have HF := Lib.hid (show MidG w l k ⟨⟨rn, rt, rc⟩, ru, rd⟩ j (.slice a3 m c3') wc (L.take j) (L.drop (j + 1)) s dv from by
         refine ⟨by rw [← hLj]; exact HOW.out, HTJ.out, hsk, HB3.out, Or.inr (by rw [← hLj, HSQ.out]; exact HCN.out), by rw [← hLj]; omega, by rw [← hLj]; exact HDK.out⟩)
       clear hjm hkz hp hLj hSj hsk hlk hdk hmL
       go_wp2
       go_meet
       exact ⟨_, _, _, _, HF⟩
     | true =>
       have HLT := Lib.hid (show (∀ a ∈ L.take j, kcmp a.1.k ⟨rn, rt, rc⟩ < 0) ∧ (∀ x ∈ L.drop j, kcmp ⟨rn, rt, rc⟩ x.1.k < 0) from by
         have hgS : ∀ i (h : i < L.length), S.getD i ssD = (L[i]'h).1 := fun i h => by
           rw [← HSQ.out, List.getD_eq_getElem?_getD, List.getElem?_map, List.getElem?_eq_getElem h]; rfl
         constructor
         · intro a ha
           obtain ⟨i, hi⟩ := List.getElem?_of_mem ha
           obtain ⟨h1, h2⟩ := List.getElem?_eq_some_iff.1 hi
           rw [List.length_take] at h1
           rw [List.getElem_take] at h2
           have h3 := hall.out i (by omega)
           rw [hgS i (by omega), h2] at h3
           exact h3
         · intro x hx
           by_cases hjm : j < m
           · have h1 := hnot.out hjm
             have h2 : ¬ kcmp (S.getD j ssD).k ⟨rn, rt, rc⟩ = 0 := fun e => by
               have := hnw.out.2 ⟨hjm, e⟩
               cases this
             have h3 := ord_kcmp.anti (S.getD j ssD).k ⟨rn, rt, rc⟩
             have h4 : kcmp ⟨rn, rt, rc⟩ (S.getD j ssD).k < 0 := by omega
             have hSx : x.1 ∈ S.drop j := by
               rw [← HSQ.out, ← List.map_drop]
               exact List.mem_map.2 ⟨x, hx, rfl⟩
             obtain ⟨i, hi⟩ := List.getElem?_of_mem hSx
             rw [List.getElem?_drop] at hi
             obtain ⟨h5, h6⟩ := List.getElem?_eq_some_iff.1 hi
             have hpw := List.pairwise_iff_getElem.1 HCN.out.keys
             by_cases hi0 : i = 0
             · subst hi0
               have h7 : S.getD j ssD = x.1 := by
                rw [List.getD_eq_getElem?_getD, show S[j]? = some x.1 from hi]; rfl
               rw [h7] at h4; exact h4
             · have h8 := hpw j (j + i) (by have := HSL.out; omega) h5 (by omega)
               have h9 : S[j]'(by have := HSL.out; omega) = S.getD j ssD := by
                rw [List.getD_eq_getElem?_getD, List.getElem?_eq_getElem (by have := HSL.out; omega)]; rfl
               rw [h6, h9] at h8
               exact ord_kcmp.pre.lt_le h4 (by omega)
           · have : L.drop j = [] := List.drop_eq_nil_of_le (by omega)
             rw [this] at hx; cases hx)
       obtain ⟨hrunH, own1⟩ := own_head Tryz.underlying50 HI.out HZ1.out (show wc.ownsRow w.heap.size 43 5 (.slice a3 m c3') m (flatS L) by have h1 := HOW.out.1; rw [HM.out] at h1; exact h1) j hj
       obtain ⟨ad, hrunT, hct, hnt⟩ := own_tail Tryz.underlying50 HI.out HZ1.out (by decide) (show wc.ownsRow w.heap.size 43 5 (.slice a3 m c3') m (flatS L) by have h1 := HOW.out.1; rw [HM.out] at h1; exact h1) j hj
       obtain ⟨q1, q2⟩ := flatS_drop L j (by omega)
       rw [q1] at own1
       rw [q2] at hct
       have HOP := Lib.hid own1
       have HCT := Lib.hid hct
       have HNT := Lib.hid hnt
       have HQN := Lib.hid (show ∀ y, (Value.slice a3 j c3').ownBlock = some y → y ≠ q from fun y hy => by
         have h1 : (Value.slice a3 m c3').ownBlock = some y := by
           cases a3 with
           | none => cases hy
           | some x => exact hy
         have h2 := (hrg.out.1.1.lt y h1).2
         have h3 := HW2.out
         have h4 := HQE.out
         omega)
       have HON := Lib.hid (show ∀ u ∈ (#[Value.string rn, .int .i64 rt, .int .i64 rc, .int .i64 ru, .slice none 0 0] : Array Value).toList ++ flatS (L.drop j), u.oneCell' = true from fun u hu => by
         rcases List.mem_append.1 hu with hu | hu
         · exact encS_one (⟨⟨rn, rt, rc⟩, ru, []⟩, .slice none 0 0) ⟨_, _, _, rfl⟩ u hu
         · exact flatS_one (fun p hp => HOW.out.2.1 p (List.drop_subset _ _ hp)) u hu)
       have HMJ := Lib.hid (show (L.drop j).length = m - j by rw [List.length_drop, HM.out])
       have HSG := Lib.hid (show SG w q ⟨b, o + k * 5 + 3, none⟩ rn rt rc ru wc.drew from SG.below ⟨HB3.out, HBL.out, HC3W.out, HKY9.out⟩ ((Below.refl _ _).drew))
       have i0 : (0 : Int) ≤ (k : Int) := by omega
       have i2 : (k : Int) < (n : Int) := by omega
       have i3 : (0 : Int) ≤ (j : Int) := by omega
       have hmn : m ≤ 1000 := by omega
       clear own1 hct hnt q1 q2 hlk hdk hmL
       go_wp2_with fail
       refine wp_region_held_drew (S := (fun wx => Hid (SG w q ⟨b, o + k * 5 + 3, none⟩ rn rt rc ru wx) ∧ wx.cell? ⟨b, o + k * 5 + 3, none⟩ = some (.int .i64 ru) ∧ wx.cell? ⟨q, 0, none⟩ = some (.string rn) ∧ wx.cell? ⟨q, 1, none⟩ = some (.int .i64 rt) ∧ wx.cell? ⟨q, 2, none⟩ = some (.int .i64 rc))) (by kernel_rfl) (HSG.out.all) (fun hHeld => ?_)
       refine Plan.of [0, 1, 2, 3, 4, 5, 6, 7, 8, 9, 11, 12, 13] ?_
       iterate 13 (refine Plan.w (v := ?_) rfl hHeld (by rfl) ?_ ?_; rotate_left; (focus (intro w hSw; (try dsimp only at hSw); go_simp; try with_reducible rfl)); try simp only [Act.put, List.setIfInBounds_toArray, List.set_cons_zero, List.set_cons_succ])
       refine Plan.fin ?_
       refine wpAnyH_ready (rs := [10]) (by kernel_rfl) (by simp) ?_
       refine AllReadyH.cons (o := { dst := some 60, op := Go.Op.buildSlice 50 1 #[(0, Go.Operand.tmp 59)], type := 50, pos := "ref.go:552", after := #[{ on := 9, ground := Go.Ground.data }], guard := none }) rfl (fun K hK => ?_) AllReadyH.nil
       go_simp
       have HL1 := Lib.hid (World.ownsRow_lit (base := w.heap.size) (e := 43) (size := 5) wc.drew #[.string rn, .int .i64 rt, .int .i64 rc, .int .i64 ru, .slice none 0 0] 1 HB3.out.size (by decide) rfl)
       have HP1 := Lib.hid (own_below' HOP.out (((Below.refl wc.heap.size wc).drew).alloc (Nat.le_refl _) (.cells #[.string rn, .int .i64 rt, .int .i64 rc, .int .i64 ru, .slice none 0 0] 43)))
       have HCT1 := Lib.hid (HCT.out.below (((Below.refl wc.heap.size wc).drew).alloc (Nat.le_refl _) (.cells #[.string rn, .int .i64 rt, .int .i64 rc, .int .i64 ru, .slice none 0 0] 43)))
       have HD1 := Lib.hid (fun p hp => own_below' (HOW.out.2.1 p hp) (((Below.refl wc.heap.size wc).drew).alloc (Nat.le_refl _) (.cells #[.string rn, .int .i64 rt, .int .i64 rc, .int .i64 ru, .slice none 0 0] 43)))
       refine hK.out _ _ ((SG.below hHeld.1.out ((Below.refl _ _).alloc (Nat.le_refl _) _)).all) (fun hHeld2 => ?_)
       clear hK K hHeld
       have hHeld := hHeld2
       clear hHeld2
       try simp only [Act.put, List.setIfInBounds_toArray, List.set_cons_zero, List.set_cons_succ]
       refine wpAnyH_ready (rs := [14]) (by kernel_rfl) (by simp) ?_
       refine AllReadyH.cons (o := { dst := some 64, op := Go.Op.call { callee := Go.Callee.builtin Go.Builtin.append, args := #[Go.Operand.tmp 60, Go.Operand.tmp 63], argTypes := #[50, 50] }, type := 50, pos := "ref.go:552", after := #[{ on := 10, ground := Go.Ground.data }, { on := 13, ground := Go.Ground.data }], guard := none }) rfl (fun K hK => ?_) AllReadyH.nil
       refine step_append_cellsK (by rfl) _ _ 50 43 (by rfl) i1 _ 5 64 Tryz.underlying50 HI.out HZ0.out HZ1.out HZ2.out rfl (by decide) w.heap.size _ 1 _ (by rfl) HL1.out ad (m - j) (c3' - j) (flatS (L.drop j)) (by rfl) HNT.out HCT1.out (flatS_one (fun p hp => HD1.out p (List.drop_subset _ _ hp))) (by omega) (by decide) hHeld.1.out.1.size ?_
       intro v3 w4 hown3 hgrow3
       have HO3 := Lib.hid hown3
       have HP2 := Lib.hid (HP1.out.kept hgrow3 (by
         cases e : (Value.slice a3 j c3').ownBlock with
         | none => exact Or.inl rfl
         | some y =>
           right
           have h1 := (HOP.out.lt y e).2
           intro e2
           have e3 : some y = some wc.heap.size := e2
           have e4 := Option.some.inj e3
           omega))
       have HD2 := Lib.hid (fun p hp => (HD1.out p hp).kept hgrow3 (by
         cases e : p.2.ownBlock with
         | none => exact Or.inl rfl
         | some y =>
           right
           have h1 := ((HOW.out.2.1 p hp).lt y e).2
           intro e2
           have e3 : some y = some wc.heap.size := e2
           have e4 := Option.some.inj e3
           omega))
       refine hK.out _ _ ((SG.grown hHeld.1.out hgrow3 (fun y hy => by   have e3 : some wc.heap.size = some y := hy;   have e4 := Option.some.inj e3 ;   have h1 := HKY9.out.1 ;   have h2 := HB3.out.size ;   omega)).all) (fun hHeld2 => ?_)
       clear hK K hHeld
       have hHeld := hHeld2
       clear hHeld2
       try simp only [Act.put, List.setIfInBounds_toArray, List.set_cons_zero, List.set_cons_succ]
       refine wpAnyH_ready (rs := [15]) (by kernel_rfl) (by simp) ?_
       refine AllReadyH.cons (o := { dst := some 65, op := Go.Op.call { callee := Go.Callee.builtin Go.Builtin.append, args := #[Go.Operand.tmp 52, Go.Operand.tmp 64], argTypes := #[50, 50] }, type := 50, pos := "ref.go:552", after := #[{ on := 2, ground := Go.Ground.data }, { on := 14, ground := Go.Ground.data }, { on := 14, ground := Go.Ground.chain }], guard := none }) rfl (fun K hK => ?_) AllReadyH.nil
       obtain ⟨a5, c5, rfl, hc5, hn5⟩ := cellsK_own HO3.out
       refine step_append_cellsK (by rfl) _ _ 50 43 (by rfl) i1 _ 5 64 Tryz.underlying50 HI.out HZ0.out HZ1.out HZ2.out rfl (by decide) w.heap.size _ j _ (by rfl) HP2.out a5 (1 + (m - j)) c5 _ (by rfl) hn5 hc5 HON.out (by omega) (by decide) hHeld.1.out.1.size ?_
       intro v6 w6 hown6 hgrow6
       have HO6 := Lib.hid hown6
       have HD3 := Lib.hid (fun p hp => (HD2.out p hp).kept hgrow6 (own_ne2 (by decide) (HD2.out p hp) HP2.out))
       refine hK.out _ _ ((SG.grown hHeld.1.out hgrow6 (fun y hy => ⟨(HOP.out.lt y hy).1, HQN.out y hy⟩)).all) (fun hHeld2 => ?_)
       clear hK K hHeld
       have hHeld := hHeld2
       clear hHeld2
       try simp only [Act.put, List.setIfInBounds_toArray, List.set_cons_zero, List.set_cons_succ]
       refine Plan.of [16] ?_
       refine Plan.w (v := ?_) rfl hHeld (by rfl) ?_ ?_; rotate_left; (focus (intro w hSw; (try dsimp only at hSw); go_simp; try with_reducible rfl)); try simp only [Act.put, List.setIfInBounds_toArray, List.set_cons_zero, List.set_cons_succ]
       refine Plan.fin ?_
       refine wpAnyH_done (by kernel_rfl) ?_ _
       go_wp2
       go_meet
       refine ⟨L.take j, L.drop j, ⟨⟨rn, rt, rc⟩, ru, []⟩, .slice none 0 0, Lib.hid ⟨OwnRS.ins (w := wc) (v := .slice a3 m c3') (by rw [List.take_append_drop]; exact HOW.out) rfl ?_ ?_, HTJ.out, rfl, hHeld.1.out.1, Or.inl ⟨rfl, by rw [List.take_append_drop, HSQ.out]; exact HCN.out, HLT.out.1, HLT.out.2⟩, ?_, ?_⟩⟩
       · rw [HTJ.out, HMJ.out]; exact HO6.out
       · exact fun p hp => HD3.out p (by rw [List.take_append_drop] at hp; exact hp)
       · rw [List.length_append, List.length_cons, HTJ.out, HMJ.out]
         have := hrg.out.2.2.2.1
         have := HM.out
         omega
       · intro p hp
         rcases mem_mid.1 hp with hp | rfl | hp
         · exact HDK.out p (List.take_subset _ _ hp)
         · exact Nat.zero_le _
         · exact HDK.out p (List.drop_subset _ _ hp)
    case rest =>
    obtain ⟨A, D, s, dv, hmid⟩ := hcut
    obtain ⟨g, cg, rfl, hgB, hgl⟩ := hmid.out.1.shape (by rw [List.length_append, List.length_cons]; omega)
    obtain ⟨hcell, hfrz, hown, -⟩ := hmid.out.1.cells
    obtain ⟨m2, hm2⟩ : ∃ x, (A ++ (s, dv) :: D).length = x := ⟨_, rfl⟩
    have hj9 : A.length = j := hmid.out.2.1
    have t3 : wc.cell? ⟨g, A.length * 5 + 3, none⟩ = some (.int .i64 s.ttl) := hcell 3 _ (by omega) rfl
    have t4 : wc.cell? ⟨g, A.length * 5 + 4, none⟩ = some dv := hcell 4 _ (by omega) rfl
    rw [hj9] at t3 t4
    have t7 := hfrz (j * 5 + 3)
    have hjm2 : j < m2 := by rw [← hm2, ← hj9, List.length_append, List.length_cons]; omega
    rw [hm2] at hmid ⊢
    obtain ⟨pd, cd, rfl, hrow, hdn⟩ := rowS_of_own hown
    have HROW := Lib.hid hrow
    have HDN := Lib.hid hdn
    have HM2 := Lib.hid hm2
    have HJ9 := Lib.hid hj9
    have HFZ := Lib.hid hfrz
    have HOWN := Lib.hid hown
    have hbw := hmid.out.2.2.2.1
    have u3' := (hbw.cell (p := ⟨b, _, none⟩) HBL.out).trans HC3W.out
    have u4' := (hbw.cell (p := ⟨b, _, none⟩) HBL.out).trans HC4W.out
    replace u3' : wc.cell? ⟨b, o + k * 5 + 3, none⟩ = some (.int .i64 ru) := u3'
    replace u4' : wc.cell? ⟨b, o + k * 5 + 4, none⟩ = some (.string rd) := u4'
    obtain ⟨nd, hnd⟩ : ∃ x, s.data.length = x := ⟨_, rfl⟩
    have hnd5 : nd ≤ 1000 := by
     have h1 : s.data.length ≤ k := hmid.out.2.2.2.2.2.2 (s, .slice pd s.data.length cd) (by simp)
     omega
    rw [hnd] at t4
    have HND := Lib.hid hnd
    have i0 : (0 : Int) ≤ (k : Int) := by omega
    have i2 : (k : Int) < (n : Int) := by omega
    have i3 : (0 : Int) ≤ (j : Int) := by omega
    have i4 : (j : Int) < (m2 : Int) := by omega
    clear hcell hfrz hown hj9 hm2 hrow hdn hbw hnd
    go_upto_region 12 with fail
    go_cut [] (fun wx => Hid (OwnRS wx w.heap.size (.slice (some ⟨g, 0, none⟩) m2 cg) (A ++ ({ s with ttl := min s.ttl ru }, .slice pd s.data.length cd) :: D) ∧ Below w.heap.size w wx))
    case first =>
     have HFIN := Lib.hid (fun (x : Int) => show OwnRS (wc.drew.setCell ⟨g, j * 5 + 3, none⟩ (.int .i64 x)) w.heap.size (.slice (some ⟨g, 0, none⟩) m2 cg) (A ++ ({ s with ttl := x }, .slice pd s.data.length cd) :: D) ∧ Below w.heap.size w (wc.drew.setCell ⟨g, j * 5 + 3, none⟩ (.int .i64 x)) from by
       have h1 := (hmid.out.1.below ((Below.refl wc.heap.size wc).drew)).put (World.grownBy.refl _ _) (s' := { s with ttl := x }) (own_below' HOWN.out ((Below.refl wc.heap.size wc).drew)) (Or.inl rfl) 3 (.int .i64 x) (by omega) rfl
       rw [HJ9.out] at h1
       exact ⟨h1.1, (hmid.out.2.2.2.1.drew).setCell hgB _⟩)
     by_cases htt : ru < s.ttl
     · have d1 := dT htt
       have hmin : min s.ttl ru = ru := by omega
       have HF := Lib.hid (HFIN.out ru)
       go_region
       all_goals
         go_wp2
         go_meet
         rw [hmin]; exact HF.out
     · have d1 := dF htt
       have hmin : min s.ttl ru = s.ttl := by omega
       have HF := Lib.hid (HFIN.out s.ttl)
       go_region
       all_goals
         go_wp2
         go_meet
         rw [hmin]; exact HF.out
    case rest =>
    have HOR := Lib.hid hcut.out.1
    have HBR := Lib.hid hcut.out.2
    clear hcut u3' u4' t3 t4 t7
    obtain ⟨wd, hwd⟩ : ∃ x, wc = x := ⟨_, rfl⟩
    rw [hwd] at HOR HBR ⊢
    clear hwd
    obtain ⟨hcell, hfrz, hown, -⟩ := HOR.out.cells
    have t4 : wd.cell? ⟨g, A.length * 5 + 4, none⟩ = some (.slice pd s.data.length cd) := hcell 4 _ (by omega) rfl
    rw [HJ9.out, HND.out] at t4
    have t8 := hfrz (j * 5 + 4)
    obtain ⟨_, _, hv9, hrow2, _⟩ := rowS_of_own (l := s.data) (n := s.data.length) hown
    injection hv9 with e1 e2 e3
    subst e1 e3
    rw [HND.out] at hrow2
    have HRW := Lib.hid hrow2
    have u4' := (HBR.out.cell (p := ⟨b, _, none⟩) HBL.out).trans HC4W.out
    replace u4' : wd.cell? ⟨b, o + k * 5 + 4, none⟩ = some (.string rd) := u4'
    clear hcell hfrz hown hrow2
    go_upto_block 4 with fail
    go_cut [8] (fun dv wx => ∃ (x q9 : Nat), x ≤ nd ∧ dv = .int .i64 x ∧ Hid (∀ i, i < x → cmpB (s.data.getD i ByteArray.empty) rd < 0) ∧ Hid (x < nd → ¬ cmpB (s.data.getD x ByteArray.empty) rd < 0) ∧ wx = wd.drewN q9)
    case first =>
     go_wp2_with fail
     go_loopw [8] (fun i wr => ∃ (x q9 : Nat), x ≤ nd ∧ i = .int .i64 x ∧ Hid (∀ i, i < x → cmpB (s.data.getD i ByteArray.empty) rd < 0) ∧ wr = wd.drewN q9) (fun i _ => nd - (intOf i).toNat)
     case atStart => exact ⟨0, 0, Nat.zero_le _, rfl, (fun i hi => absurd hi (by omega)), rfl⟩
     case round =>
       obtain ⟨x, q9, hx, rfl, hall2, rfl⟩ := hrel
       by_cases hxn : x < nd
       · rcases HRW.out.2 with h9 | ⟨b2, o2, rfl, hbl2, hc⟩
         · omega
         have y0 := hc x hxn
         obtain ⟨dx, hdx⟩ : ∃ y, s.data.getD x ByteArray.empty = y := ⟨_, rfl⟩
         rw [hdx] at y0
         have HDX := Lib.hid hdx
         have i5 : (0 : Int) ≤ (x : Int) := by omega
         have i6 : (x : Int) < (nd : Int) := by omega
         clear hc hdx
         by_cases hcm : cmpB dx rd < 0
         · have g1 := (less_of_cmp hcm).1
           have HN := Lib.hid (show ∀ i, i < x + 1 → cmpB (s.data.getD i ByteArray.empty) rd < 0 from fun i hi => by
             by_cases e : i = x
             · subst e; rw [HDX.out]; exact hcm
             · exact hall2.out i (by omega))
           clear hcm
           go_wp2_with fail
           go_quiet (fail)
           go_wp2
           rename_i nq
           go_roundw
           case rel => exact ⟨x + 1, q9 + nq, by omega, by go_num, HN, by first | rfl | exact drewN_add _ _ _⟩
           case measure => simp [intOf]; omega
         · have g1 : Op.bytesLess dx.toList rd.toList = false := by
             rw [bytesLess_cmp, Lib.toList_data, Lib.toList_data]; exact dF hcm
           have HN := Lib.hid (show x < nd → ¬ cmpB (s.data.getD x ByteArray.empty) rd < 0 from fun _ => by rw [HDX.out]; exact hcm)
           clear hcm
           go_wp2_with fail
           go_quiet (fail)
           go_wp2
           rename_i nq
           go_meet
           exact ⟨x, q9 + nq, hx, rfl, hall2, HN, by first | rfl | exact drewN_add _ _ _⟩
       · have d1 : decide (x < nd) = false := dF hxn
         have HN := Lib.hid (show x < nd → ¬ cmpB (s.data.getD x ByteArray.empty) rd < 0 from fun h => absurd h hxn)
         go_wp2_with fail
         go_quiet (fail)
         go_wp2
         rename_i nq
         go_meet
         exact ⟨x, q9 + nq, hx, rfl, hall2, HN, by first | rfl | exact drewN_add _ _ _⟩
    case rest =>
    obtain ⟨x, q9, hx, rfl, hall2, hnot2, rfl⟩ := hcut
    go_upto_region 16 with fail
    go_cut [127] (fun t wx => ∃ (tv : Bool) (q10 : Nat), t = .bool tv ∧ Hid (tv = false ↔ x < nd ∧ s.data.getD x ByteArray.empty = rd) ∧ wx = wd.drewN q10)
    case first =>
     by_cases hxn : x < nd
     · rcases HRW.out.2 with h9 | ⟨b2, o2, hpd, hbl2, hc⟩
       · omega
       have y0 := hc x hxn
       obtain ⟨dx, hdx⟩ : ∃ y, s.data.getD x ByteArray.empty = y := ⟨_, rfl⟩
       rw [hdx] at y0
       have HDX := Lib.hid hdx
       subst hpd
       have e1 : ((x : Int) == (nd : Int)) = false := eF (by omega)
       have e2 : (x == nd) = false := by simp; omega
       have i5 : (0 : Int) ≤ (x : Int) := by omega
       have i6 : (x : Int) < (nd : Int) := by omega
       clear hc hdx
       by_cases hde : dx = rd
       · have g1 : (dx.toList != rd.toList) = false := by rw [hde]; simp
         have g0 : (dx.toList == rd.toList) = true := by rw [hde]; simp
         have HN := Lib.hid (show false = false ↔ x < nd ∧ s.data.getD x ByteArray.empty = rd from ⟨fun _ => ⟨hxn, by rw [HDX.out]; exact hde⟩, fun _ => rfl⟩)
         clear hde
         go_quiet (fail)
         go_wp2
         rename_i nq
         go_meet
         exact ⟨false, q9 + nq, rfl, Lib.hid (by first | exact HN.out | (have h7 := HN.out; simpa using h7)), by first | rfl | exact drewN_add _ _ _⟩
       · have g1 : (dx.toList != rd.toList) = true := by
           rw [bne, beq_eq_false_iff_ne.2 (fun e => hde (toList_inj4 e))]; rfl
         have g0 : (dx.toList == rd.toList) = false := beq_eq_false_iff_ne.2 (fun e => hde (toList_inj4 e))
         have HN := Lib.hid (show true = false ↔ x < nd ∧ s.data.getD x ByteArray.empty = rd from ⟨(fun h => by cases h), fun h => absurd (HDX.out.symm.trans h.2) hde⟩)
         clear hde
         go_quiet (fail)
         go_wp2
         rename_i nq
         go_meet
         exact ⟨true, q9 + nq, rfl, Lib.hid (by first | exact HN.out | (have h7 := HN.out; simpa using h7)), by first | rfl | exact drewN_add _ _ _⟩
     · have hxe : x = nd := by omega
       have e1 : ((x : Int) == (nd : Int)) = true := eT (by omega)
       have e2 : (x == nd) = true := by simpa using hxe
       have HN := Lib.hid (show true = false ↔ x < nd ∧ s.data.getD x ByteArray.empty = rd from ⟨(fun h => by cases h), fun h => absurd h.1 hxn⟩)
       clear hxe
       go_quiet (fail)
       go_wp2
       rename_i nq
       go_meet
       exact ⟨true, q9 + nq, rfl, Lib.hid (by first | exact HN.out | (have h7 := HN.out; simpa using h7)), by first | rfl | exact drewN_add _ _ _⟩
    case rest =>
    obtain ⟨tv, q10, rfl, htv, rfl⟩ := hcut
    have HPW := Lib.hid (mid_pair hmid.out.2.2.2.2.1)
    have HDK2 := Lib.hid (show s.data.length ≤ k from hmid.out.2.2.2.2.2.2 (s, .slice pd s.data.length cd) (by simp))
    have HBQ := Lib.hid (below_drewN (Below.refl wd.heap.size wd) q10)
    cases tv with
    | false =>
     obtain ⟨hxn, hde⟩ := htv.out.1 rfl
     have hin : rd ∈ s.data := by
       rw [← hde, List.getD_eq_getElem?_getD, List.getElem?_eq_getElem (by have := HND.out; omega)]
       exact List.getElem_mem _
     have HF := Lib.hid (RG.of_mid hmid.out HRK.out (data' := s.data) (fun d => ⟨Or.inl, fun h => h.elim id (fun e => by rw [e]; exact hin)⟩) HPW.out (fun e => by rw [e] at hin; cases hin) (Nat.le_succ_of_le HDK2.out) (HOR.out.below HBQ.out) (HBR.out.trans (HBQ.out.mono HBR.out.size)))
     clear hxn hde hin
     go_wp2
     go_roundw
     case rel => exact ⟨k + 1, _, by omega, by go_num, HF⟩
     case measure => simp [intOf]; omega
    | true =>
     have HMI := Lib.hid (mid_ins HPW.out HND.out hx hall2.out (fun h => by have := htv.out.2 h; cases this) hnot2.out)
     have HDL := Lib.hid (show (s.data.take x ++ rd :: s.data.drop x).length ≤ k + 1 by
       have := HDK2.out
       have := HND.out
       rw [List.length_append, List.length_cons, List.length_take, List.length_drop]; omega)
     obtain ⟨-, -, hown9, -⟩ := HOR.out.cells
     replace hown9 : wd.ownsRow w.heap.size 9 1 (.slice pd s.data.length cd) s.data.length (sc s.data) := hown9
     rw [HND.out] at hown9
     obtain ⟨i2, hj, hy0, hy1, hy2⟩ := info_parts infoStr
     obtain ⟨hrunH, own1⟩ := own_head Tryz.underlying36 hj hy1 hown9 x hx
     obtain ⟨ad, hrunT, hct, hnt⟩ := own_tail Tryz.underlying36 hj hy1 (by decide) hown9 x hx
     have HJ := Lib.hid hj
     have HY0 := Lib.hid hy0
     have HY1 := Lib.hid hy1
     have HY2 := Lib.hid hy2
     have OWN1 := Lib.hid own1
     have HCT := Lib.hid hct
     have HNT := Lib.hid hnt
     have HGB0 := Lib.hid hgB
     have HGLT := Lib.hid (show (⟨g, j * 5 + 4, none⟩ : Addr).block < wd.heap.size from (HOR.out.1.lt g rfl).2)
     have HBLT := Lib.hid (show (⟨b, o + k * 5 + 4, none⟩ : Addr).block < wd.heap.size from Nat.lt_of_lt_of_le HBL.out HBR.out.size)
     have T4W := Lib.hid t4
     have U4W := Lib.hid u4'
     have i0 : (0 : Int) ≤ (k : Int) := by omega
     have i2' : (k : Int) < (n : Int) := by omega
     clear hj hy0 hy1 hy2 own1 hct hnt hown9 t4 u4' hrg hgB
     go_upto_region 17 with fail
     obtain ⟨we, hwe⟩ : ∃ x, (wd.drewN q10).drew = x := ⟨_, rfl⟩
     have HBX := Lib.hid (show Below wd.heap.size wd we by rw [← hwe]; exact HBQ.out.drew)
     refine wp_region_last_drew (S := (fun wx => Hid (Below w.heap.size w wx) ∧ wx.cell? ⟨g, j * 5 + 4, none⟩ = some (.slice pd nd cd) ∧ wx.cell? ⟨b, o + k * 5 + 4, none⟩ = some (.string rd))) (L := 23) (by kernel_rfl) (by rw [hwe]; exact ⟨Lib.hid (HBR.out.trans (HBX.out.mono HBR.out.size)), cell_lat HBX.out HGLT.out T4W.out, cell_lat HBX.out HBLT.out U4W.out⟩) (fun hHeld => ?_)
     rw [hwe] at hHeld ⊢
     clear hwe
     refine wpAnyL_take (i := 0) (oi := { dst := some 128, op := Go.Op.move (Go.Operand.tmp 7), type := 175, pos := "ref.go:561", after := #[], guard := none }) (v := ?v0_5101) rfl (by kernel_rfl) (by kernel_rfl) (by kernel_rfl) (by kernel_rfl) (by kernel_rfl) (fun _ _ _ h => h) (Or.inl ⟨by rfl, ?y0_5101⟩) hHeld ?r0_5101
     case y0_5101 => intro w hSw; (try dsimp only at hSw); go_simp; try with_reducible rfl
     try simp only [Act.put, List.setIfInBounds_toArray, List.set_cons_zero, List.set_cons_succ]
     refine wpAnyL_take (i := 1) (oi := { dst := some 129, op := Go.Op.move (Go.Operand.tmp 7), type := 175, pos := "ref.go:561", after := #[], guard := none }) (v := ?v1_5101) rfl (by kernel_rfl) (by kernel_rfl) (by kernel_rfl) (by kernel_rfl) (by kernel_rfl) (fun _ _ _ h => h) (Or.inl ⟨by rfl, ?y1_5101⟩) hHeld ?r1_5101
     case y1_5101 => intro w hSw; (try dsimp only at hSw); go_simp; try with_reducible rfl
     try simp only [Act.put, List.setIfInBounds_toArray, List.set_cons_zero, List.set_cons_succ]
     refine wpAnyL_take (i := 2) (oi := { dst := some 130, op := Go.Op.nilCheck (Go.Operand.tmp 129), type := 0, pos := "ref.go:561", after := #[{ on := 1, ground := Go.Ground.data }], guard := none }) (v := ?v2_5101) rfl (by kernel_rfl) (by kernel_rfl) (by kernel_rfl) (by kernel_rfl) (by kernel_rfl) (fun _ _ _ h => h) (Or.inl ⟨by rfl, ?y2_5101⟩) hHeld ?r2_5101
     case y2_5101 => intro w hSw; (try dsimp only at hSw); go_simp; try with_reducible rfl
     try simp only [Act.put, List.setIfInBounds_toArray, List.set_cons_zero, List.set_cons_succ]
     refine wpAnyL_take (i := 3) (oi := { dst := some 131, op := Go.Op.fieldAddr 43 (Go.Operand.tmp 130) 2, type := 0, pos := "ref.go:561", after := #[{ on := 2, ground := Go.Ground.data }], guard := none }) (v := ?v3_5101) rfl (by kernel_rfl) (by kernel_rfl) (by kernel_rfl) (by kernel_rfl) (by kernel_rfl) (fun _ _ _ h => h) (Or.inl ⟨by rfl, ?y3_5101⟩) hHeld ?r3_5101
     case y3_5101 => intro w hSw; (try dsimp only at hSw); go_simp; try with_reducible rfl
     try simp only [Act.put, List.setIfInBounds_toArray, List.set_cons_zero, List.set_cons_succ]
     refine wpAnyL_take (i := 4) (oi := { dst := some 132, op := Go.Op.load 36 (Go.Operand.tmp 131), type := 36, pos := "ref.go:561", after := #[{ on := 3, ground := Go.Ground.data }], guard := none }) (v := ?v4_5101) rfl (by kernel_rfl) (by kernel_rfl) (by kernel_rfl) (by kernel_rfl) (by kernel_rfl) (fun _ _ _ h => h) (Or.inl ⟨by rfl, ?y4_5101⟩) hHeld ?r4_5101
     case y4_5101 => intro w hSw; (try dsimp only at hSw); go_simp; try with_reducible rfl
     try simp only [Act.put, List.setIfInBounds_toArray, List.set_cons_zero, List.set_cons_succ]
     refine wpAnyL_take (i := 5) (oi := { dst := some 133, op := Go.Op.move (Go.Operand.tmp 8), type := 3, pos := "ref.go:561", after := #[], guard := none }) (v := ?v5_5101) rfl (by kernel_rfl) (by kernel_rfl) (by kernel_rfl) (by kernel_rfl) (by kernel_rfl) (fun _ _ _ h => h) (Or.inl ⟨by rfl, ?y5_5101⟩) hHeld ?r5_5101
     case y5_5101 => intro w hSw; (try dsimp only at hSw); go_simp; try with_reducible rfl
     try simp only [Act.put, List.setIfInBounds_toArray, List.set_cons_zero, List.set_cons_succ]
     refine wpAnyL_take (i := 6) (oi := { dst := some 134, op := Go.Op.slice 36 (Go.Operand.tmp 132) none (some (Go.Operand.tmp 133)) none, type := 36, pos := "ref.go:561", after := #[{ on := 4, ground := Go.Ground.data }, { on := 5, ground := Go.Ground.data }], guard := none }) (v := ?v6_5101) rfl (by kernel_rfl) (by kernel_rfl) (by kernel_rfl) (by kernel_rfl) (by kernel_rfl) (fun _ _ _ h => h) (Or.inl ⟨by rfl, ?y6_5101⟩) hHeld ?r6_5101
     case y6_5101 => intro w hSw; (try dsimp only at hSw); go_simp; try with_reducible rfl
     try simp only [Act.put, List.setIfInBounds_toArray, List.set_cons_zero, List.set_cons_succ]
     refine wpAnyL_take (i := 7) (oi := { dst := some 135, op := Go.Op.move (Go.Operand.tmp 0), type := 22, pos := "ref.go:561", after := #[], guard := none }) (v := ?v7_5101) rfl (by kernel_rfl) (by kernel_rfl) (by kernel_rfl) (by kernel_rfl) (by kernel_rfl) (fun _ _ _ h => h) (Or.inl ⟨by rfl, ?y7_5101⟩) hHeld ?r7_5101
     case y7_5101 => intro w hSw; (try dsimp only at hSw); go_simp; try with_reducible rfl
     try simp only [Act.put, List.setIfInBounds_toArray, List.set_cons_zero, List.set_cons_succ]
     refine wpAnyL_take (i := 8) (oi := { dst := some 136, op := Go.Op.move (Go.Operand.tmp 4), type := 3, pos := "ref.go:561", after := #[], guard := none }) (v := ?v8_5101) rfl (by kernel_rfl) (by kernel_rfl) (by kernel_rfl) (by kernel_rfl) (by kernel_rfl) (fun _ _ _ h => h) (Or.inl ⟨by rfl, ?y8_5101⟩) hHeld ?r8_5101
     case y8_5101 => intro w hSw; (try dsimp only at hSw); go_simp; try with_reducible rfl
     try simp only [Act.put, List.setIfInBounds_toArray, List.set_cons_zero, List.set_cons_succ]
     refine wpAnyL_take (i := 9) (oi := { dst := some 137, op := Go.Op.indexAddr 22 (Go.Operand.tmp 135) (Go.Operand.tmp 136), type := 0, pos := "ref.go:561", after := #[{ on := 7, ground := Go.Ground.data }, { on := 8, ground := Go.Ground.data }], guard := none }) (v := ?v9_5101) rfl (by kernel_rfl) (by kernel_rfl) (by kernel_rfl) (by kernel_rfl) (by kernel_rfl) (fun _ _ _ h => h) (Or.inl ⟨by rfl, ?y9_5101⟩) hHeld ?r9_5101
     case y9_5101 => intro w hSw; (try dsimp only at hSw); go_simp; try with_reducible rfl
     try simp only [Act.put, List.setIfInBounds_toArray, List.set_cons_zero, List.set_cons_succ]
     refine wpAnyL_take (i := 10) (oi := { dst := some 138, op := Go.Op.fieldAddr 111 (Go.Operand.tmp 137) 4, type := 0, pos := "ref.go:561", after := #[{ on := 9, ground := Go.Ground.data }], guard := none }) (v := ?v10_5101) rfl (by kernel_rfl) (by kernel_rfl) (by kernel_rfl) (by kernel_rfl) (by kernel_rfl) (fun _ _ _ h => h) (Or.inl ⟨by rfl, ?y10_5101⟩) hHeld ?r10_5101
     case y10_5101 => intro w hSw; (try dsimp only at hSw); go_simp; try with_reducible rfl
     try simp only [Act.put, List.setIfInBounds_toArray, List.set_cons_zero, List.set_cons_succ]
     refine wpAnyL_take (i := 11) (oi := { dst := some 139, op := Go.Op.load 9 (Go.Operand.tmp 138), type := 9, pos := "ref.go:561", after := #[{ on := 10, ground := Go.Ground.data }], guard := none }) (v := ?v11_5101) rfl (by kernel_rfl) (by kernel_rfl) (by kernel_rfl) (by kernel_rfl) (by kernel_rfl) (fun _ _ _ h => h) (Or.inl ⟨by rfl, ?y11_5101⟩) hHeld ?r11_5101
     case y11_5101 => intro w hSw; (try dsimp only at hSw); go_simp; try with_reducible rfl
     try simp only [Act.put, List.setIfInBounds_toArray, List.set_cons_zero, List.set_cons_succ]
     refine wpAnyL_take (i := 13) (oi := { dst := some 141, op := Go.Op.move (Go.Operand.tmp 7), type := 175, pos := "ref.go:561", after := #[], guard := none }) (v := ?v13_5101) rfl (by kernel_rfl) (by kernel_rfl) (by kernel_rfl) (by kernel_rfl) (by kernel_rfl) (fun _ _ _ h => h) (Or.inl ⟨by rfl, ?y13_5101⟩) hHeld ?r13_5101
     case y13_5101 => intro w hSw; (try dsimp only at hSw); go_simp; try with_reducible rfl
     try simp only [Act.put, List.setIfInBounds_toArray, List.set_cons_zero, List.set_cons_succ]
     refine wpAnyL_take (i := 14) (oi := { dst := some 142, op := Go.Op.nilCheck (Go.Operand.tmp 141), type := 0, pos := "ref.go:561", after := #[{ on := 13, ground := Go.Ground.data }], guard := none }) (v := ?v14_5101) rfl (by kernel_rfl) (by kernel_rfl) (by kernel_rfl) (by kernel_rfl) (by kernel_rfl) (fun _ _ _ h => h) (Or.inl ⟨by rfl, ?y14_5101⟩) hHeld ?r14_5101
     case y14_5101 => intro w hSw; (try dsimp only at hSw); go_simp; try with_reducible rfl
     try simp only [Act.put, List.setIfInBounds_toArray, List.set_cons_zero, List.set_cons_succ]
     refine wpAnyL_take (i := 15) (oi := { dst := some 143, op := Go.Op.fieldAddr 43 (Go.Operand.tmp 142) 2, type := 0, pos := "ref.go:561", after := #[{ on := 14, ground := Go.Ground.data }], guard := none }) (v := ?v15_5101) rfl (by kernel_rfl) (by kernel_rfl) (by kernel_rfl) (by kernel_rfl) (by kernel_rfl) (fun _ _ _ h => h) (Or.inl ⟨by rfl, ?y15_5101⟩) hHeld ?r15_5101
     case y15_5101 => intro w hSw; (try dsimp only at hSw); go_simp; try with_reducible rfl
     try simp only [Act.put, List.setIfInBounds_toArray, List.set_cons_zero, List.set_cons_succ]
     refine wpAnyL_take (i := 16) (oi := { dst := some 144, op := Go.Op.load 36 (Go.Operand.tmp 143), type := 36, pos := "ref.go:561", after := #[{ on := 15, ground := Go.Ground.data }], guard := none }) (v := ?v16_5101) rfl (by kernel_rfl) (by kernel_rfl) (by kernel_rfl) (by kernel_rfl) (by kernel_rfl) (fun _ _ _ h => h) (Or.inl ⟨by rfl, ?y16_5101⟩) hHeld ?r16_5101
     case y16_5101 => intro w hSw; (try dsimp only at hSw); go_simp; try with_reducible rfl
     try simp only [Act.put, List.setIfInBounds_toArray, List.set_cons_zero, List.set_cons_succ]
     refine wpAnyL_take (i := 17) (oi := { dst := some 145, op := Go.Op.move (Go.Operand.tmp 8), type := 3, pos := "ref.go:561", after := #[], guard := none }) (v := ?v17_5101) rfl (by kernel_rfl) (by kernel_rfl) (by kernel_rfl) (by kernel_rfl) (by kernel_rfl) (fun _ _ _ h => h) (Or.inl ⟨by rfl, ?y17_5101⟩) hHeld ?r17_5101
     case y17_5101 => intro w hSw; (try dsimp only at hSw); go_simp; try with_reducible rfl
     try simp only [Act.put, List.setIfInBounds_toArray, List.set_cons_zero, List.set_cons_succ]
     refine wpAnyL_take (i := 18) (oi := { dst := some 146, op := Go.Op.slice 36 (Go.Operand.tmp 144) (some (Go.Operand.tmp 145)) none none, type := 36, pos := "ref.go:561", after := #[{ on := 16, ground := Go.Ground.data }, { on := 17, ground := Go.Ground.data }], guard := none }) (v := ?v18_5101) rfl (by kernel_rfl) (by kernel_rfl) (by kernel_rfl) (by kernel_rfl) (by kernel_rfl) (fun _ _ _ h => h) (Or.inl ⟨by rfl, ?y18_5101⟩) hHeld ?r18_5101
     case y18_5101 => intro w hSw; (try dsimp only at hSw); go_simp; try with_reducible rfl
     try simp only [Act.put, List.setIfInBounds_toArray, List.set_cons_zero, List.set_cons_succ]
     refine wpAnyL_ready (rs := [12]) (by kernel_rfl) (by simp) ?_
     refine AllReadyL.cons (o := { dst := some 140, op := Go.Op.buildSlice 36 1 #[(0, Go.Operand.tmp 139)], type := 36, pos := "ref.go:561", after := #[{ on := 11, ground := Go.Ground.data }], guard := none }) rfl (by decide) (fun K hK => ?_) AllReadyL.nil
     go_simp
     have hb := (Below.refl _ _ : Below we.heap.size we we).alloc (Nat.le_refl _) (.cells #[.string rd] 9)
     have HL1 := Lib.hid (World.ownsRow_lit (base := wd.heap.size) (e := 9) (size := 1) we #[.string rd] 1 HBX.out.size (by decide) rfl)
     obtain ⟨wx1, hwf⟩ : ∃ x, we.alloc (.cells #[.string rd] 9) = x := ⟨_, rfl⟩
     rw [hwf] at hb HL1 ⊢
     clear hwf
     replace HBX := Lib.hid (HBX.out.trans (hb.mono HBX.out.size))
     refine hK.out _ _ (⟨Lib.hid (hHeld.1.out.trans (hb.mono hHeld.1.out.size)), cell_lat HBX.out HGLT.out T4W.out, cell_lat HBX.out HBLT.out U4W.out⟩) (fun hHeld2 => ?_)
     clear hK K hHeld
     have hHeld := hHeld2
     clear hHeld2
     try simp only [Act.put, List.setIfInBounds_toArray, List.set_cons_zero, List.set_cons_succ]
     refine wpAnyL_ready (rs := [19]) (by kernel_rfl) (by simp) ?_
     refine AllReadyL.cons (o := { dst := some 147, op := Go.Op.call { callee := Go.Callee.builtin Go.Builtin.append, args := #[Go.Operand.tmp 140, Go.Operand.tmp 146], argTypes := #[36, 36] }, type := 36, pos := "ref.go:561", after := #[{ on := 12, ground := Go.Ground.data }, { on := 18, ground := Go.Ground.data }], guard := none }) rfl (by decide) (fun K hK => ?_) AllReadyL.nil
     refine step_append_cellsK (by rfl) _ _ 36 9 (by rfl) i2 _ 1 16 Tryz.underlying36 HJ.out HY0.out HY1.out HY2.out rfl (by decide) wd.heap.size _ 1 _ (by rfl) HL1.out ad (nd - x) (cd - x) _ (by rfl) HNT.out (HCT.out.below HBX.out) (sc_oneC HCT.out.1) (by omega) (by decide) HBX.out.size ?_
     intro v3 wx2 hown3 hgrow3
     have HO3 := Lib.hid hown3
     have HBS := Lib.hid (fun k hk => Nat.le_trans HBR.out.size (HL1.out.lt k hk).1)
     replace HBX := Lib.hid (HBX.out.grown hgrow3 HBX.out.size (fun k hk => (HL1.out.lt k hk).1))
     have HB2 := Lib.hid (hHeld.1.out.grown hgrow3 hHeld.1.out.size HBS.out)
     clear hown3 hgrow3
     refine hK.out _ _ (⟨Lib.hid HB2.out, cell_lat HBX.out HGLT.out T4W.out, cell_lat HBX.out HBLT.out U4W.out⟩) (fun hHeld2 => ?_)
     clear hK K hHeld
     have hHeld := hHeld2
     clear hHeld2
     try simp only [Act.put, List.setIfInBounds_toArray, List.set_cons_zero, List.set_cons_succ]
     refine wpAnyL_ready (rs := [20]) (by kernel_rfl) (by simp) ?_
     refine AllReadyL.cons (o := { dst := some 148, op := Go.Op.call { callee := Go.Callee.builtin Go.Builtin.append, args := #[Go.Operand.tmp 134, Go.Operand.tmp 147], argTypes := #[36, 36] }, type := 36, pos := "ref.go:561", after := #[{ on := 6, ground := Go.Ground.data }, { on := 19, ground := Go.Ground.data }, { on := 19, ground := Go.Ground.chain }], guard := none }) rfl (by decide) (fun K hK => ?_) AllReadyL.nil
     obtain ⟨a5, c5, rfl, hc5, hn5⟩ := cellsK_own HO3.out
     obtain ⟨p5, rfl⟩ : ∃ p, a5 = some p := by
       cases a5 with
       | none => exact absurd (hn5 rfl).1 (by omega)
       | some p => exact ⟨p, rfl⟩
     have HEAD2 := Lib.hid (own_below' OWN1.out HBX.out)
     have HOR2 := Lib.hid (HOR.out.below HBX.out)
     refine step_append_fg (by rfl) _ _ 36 9 (by rfl) i2 _ 1 16 Tryz.underlying36 HJ.out HY0.out HY1.out HY2.out rfl (by decide) _ x _ (by rfl) (own_up HEAD2.out (fun _ _ => Nat.zero_le _)) p5 (1 + (nd - x)) c5 _ (by rfl) hc5 (sc_oneC2 HCT.out.1) (by omega) (by decide) ?_
     intro v6 wx3 hown6 hgrow6 hnew6
     obtain ⟨a6, c6, rfl, -, hn6⟩ := cellsK_own hown6
     obtain ⟨nl, hnl⟩ : ∃ y, x + (1 + (nd - x)) = y := ⟨_, rfl⟩
     rw [hnl] at hown6 hnew6 hn6 ⊢
     have HNL := Lib.hid hnl
     have HNW := Lib.hid (show ∀ k, (Value.slice a6 nl c6).ownBlock = some k → (Value.slice pd x cd).ownBlock = some k ∨ wx2.heap.size ≤ k from hnew6)
     have HUP := Lib.hid (fun k hk => show w.heap.size ≤ k by
       rcases HNW.out k hk with h | h
       · exact (HEAD2.out.lt k h).1
       · exact Nat.le_trans HB2.out.size h)
     have HO6 := Lib.hid (mid_row HND.out hx (own_up hown6 HUP.out) hnl)
     have HDD := Lib.hid (show (Value.slice a6 nl c6).ownBlock = (Value.slice pd s.data.length cd).ownBlock ∨ ∃ k, (Value.slice a6 nl c6).ownBlock = some k ∧ wx2.heap.size ≤ k by
       cases e : (Value.slice a6 nl c6).ownBlock with
       | none =>
         exfalso
         cases a6 with
         | none => have h1 := (hn6 rfl).1; omega
         | some p => cases e
       | some k =>
         rcases HNW.out k e with h | h
         · exact Or.inl (h.symm.trans (own_blk pd x s.data.length cd))
         · exact Or.inr ⟨k, rfl, h⟩)
     have HGB := Lib.hid (show wx2.grownBy wx3 (Value.slice pd s.data.length cd).ownBlock by rw [own_blk pd s.data.length x cd]; exact hgrow6)
     have HNE := Lib.hid (own_ne2 (by decide) HOR2.out.1 HEAD2.out)
     have hk9 := HOR2.out.1.kept hgrow6 HNE.out
     rw [← HOR2.out.cells.2.2.2] at hk9
     have HF9 := Lib.hid (hk9.frozenAt (j * 5 + 4))
     clear hk9
     have HPT := Lib.hid (HOR2.out.put (s' := ⟨s.k, min s.ttl ru, s.data.take x ++ rd :: s.data.drop x⟩) HGB.out HO6.out HDD.out 4 (.slice a6 nl c6) (by decide) rfl)
     have HT9 := Lib.hid (hgrow6.cell hHeld.2.1 (fun e => by
       rcases HNE.out with h | h
       · cases h
       · exact h e))
     have HU9 := Lib.hid (hgrow6.cell hHeld.2.2 (fun e => by
       have h1 := (HEAD2.out.lt b e.symm).1
       have h2 := HBL.out
       omega))
     have HB3 := Lib.hid (HB2.out.grown hgrow6 HB2.out.size (fun k hk => (HEAD2.out.lt k hk).1))
     clear hown6 hgrow6 hnew6 hn6 hnl hc5 hn5
     refine hK.out _ _ (⟨Lib.hid HB3.out, HT9.out, HU9.out⟩) (fun hHeld2 => ?_)
     clear hK K hHeld
     have hHeld := hHeld2
     clear hHeld2
     try simp only [Act.put, List.setIfInBounds_toArray, List.set_cons_zero, List.set_cons_succ]
     refine wpAnyL_take (i := 21) (oi := { dst := some 149, op := Go.Op.nilCheck (Go.Operand.tmp 128), type := 0, pos := "ref.go:561", after := #[{ on := 0, ground := Go.Ground.data }, { on := 0, ground := Go.Ground.phase }, { on := 1, ground := Go.Ground.phase }, { on := 2, ground := Go.Ground.phase }, { on := 3, ground := Go.Ground.phase }, { on := 4, ground := Go.Ground.phase }, { on := 5, ground := Go.Ground.phase }, { on := 6, ground := Go.Ground.phase }, { on := 7, ground := Go.Ground.phase }, { on := 8, ground := Go.Ground.phase }, { on := 9, ground := Go.Ground.phase }, { on := 10, ground := Go.Ground.phase }, { on := 11, ground := Go.Ground.phase }, { on := 12, ground := Go.Ground.phase }, { on := 13, ground := Go.Ground.phase }, { on := 14, ground := Go.Ground.phase }, { on := 15, ground := Go.Ground.phase }, { on := 16, ground := Go.Ground.phase }, { on := 17, ground := Go.Ground.phase }, { on := 18, ground := Go.Ground.phase }, { on := 19, ground := Go.Ground.phase }, { on := 20, ground := Go.Ground.phase }], guard := none }) (v := ?v21_5104) rfl (by kernel_rfl) (by kernel_rfl) (by kernel_rfl) (by kernel_rfl) (by kernel_rfl) (fun _ _ _ h => h) (Or.inl ⟨by rfl, ?y21_5104⟩) hHeld ?r21_5104
     case y21_5104 => intro w hSw; (try dsimp only at hSw); go_simp; try with_reducible rfl
     try simp only [Act.put, List.setIfInBounds_toArray, List.set_cons_zero, List.set_cons_succ]
     refine wpAnyL_take (i := 22) (oi := { dst := some 150, op := Go.Op.fieldAddr 43 (Go.Operand.tmp 149) 2, type := 0, pos := "ref.go:561", after := #[{ on := 21, ground := Go.Ground.data }, { on := 0, ground := Go.Ground.phase }, { on := 1, ground := Go.Ground.phase }, { on := 2, ground := Go.Ground.phase }, { on := 3, ground := Go.Ground.phase }, { on := 4, ground := Go.Ground.phase }, { on := 5, ground := Go.Ground.phase }, { on := 6, ground := Go.Ground.phase }, { on := 7, ground := Go.Ground.phase }, { on := 8, ground := Go.Ground.phase }, { on := 9, ground := Go.Ground.phase }, { on := 10, ground := Go.Ground.phase }, { on := 11, ground := Go.Ground.phase }, { on := 12, ground := Go.Ground.phase }, { on := 13, ground := Go.Ground.phase }, { on := 14, ground := Go.Ground.phase }, { on := 15, ground := Go.Ground.phase }, { on := 16, ground := Go.Ground.phase }, { on := 17, ground := Go.Ground.phase }, { on := 18, ground := Go.Ground.phase }, { on := 19, ground := Go.Ground.phase }, { on := 20, ground := Go.Ground.phase }], guard := none }) (v := ?v22_5104) rfl (by kernel_rfl) (by kernel_rfl) (by kernel_rfl) (by kernel_rfl) (by kernel_rfl) (fun _ _ _ h => h) (Or.inl ⟨by rfl, ?y22_5104⟩) hHeld ?r22_5104
     case y22_5104 => intro w hSw; (try dsimp only at hSw); go_simp; try with_reducible rfl
     try simp only [Act.put, List.setIfInBounds_toArray, List.set_cons_zero, List.set_cons_succ]
     refine wpAnyL_ready (rs := [23]) (by kernel_rfl) (by simp) ?_
     refine AllReadyL.last (o := { dst := none, op := Go.Op.store 36 (Go.Operand.tmp 150) (Go.Operand.tmp 148), type := 0, pos := "ref.go:561", after := #[{ on := 22, ground := Go.Ground.data }, { on := 20, ground := Go.Ground.data }, { on := 20, ground := Go.Ground.chain }, { on := 0, ground := Go.Ground.phase }, { on := 1, ground := Go.Ground.phase }, { on := 2, ground := Go.Ground.phase }, { on := 3, ground := Go.Ground.phase }, { on := 4, ground := Go.Ground.phase }, { on := 5, ground := Go.Ground.phase }, { on := 6, ground := Go.Ground.phase }, { on := 7, ground := Go.Ground.phase }, { on := 8, ground := Go.Ground.phase }, { on := 9, ground := Go.Ground.phase }, { on := 10, ground := Go.Ground.phase }, { on := 11, ground := Go.Ground.phase }, { on := 12, ground := Go.Ground.phase }, { on := 13, ground := Go.Ground.phase }, { on := 14, ground := Go.Ground.phase }, { on := 15, ground := Go.Ground.phase }, { on := 16, ground := Go.Ground.phase }, { on := 17, ground := Go.Ground.phase }, { on := 18, ground := Go.Ground.phase }, { on := 19, ground := Go.Ground.phase }, { on := 20, ground := Go.Ground.phase }], guard := none }) rfl (by decide) (fun K hK => ?_) AllReadyL.nil
     have t9 := HT9.out
     have f9 := HF9.out
     go_wp2_with fail
     clear t9 f9
     refine hK.out _ _ trivial (fun _ => ?_)
     clear hK K
     try simp only [Act.put, List.setIfInBounds_toArray, List.set_cons_zero, List.set_cons_succ]
     refine wpAnyL_done (by kernel_rfl) ?_ _
     rw [HJ9.out] at HPT
     have HBF := Lib.hid (HB3.out.setCell (p := ⟨g, j * 5 + 4, none⟩) HGB0.out (.slice a6 nl c6))
     have HF := Lib.hid (RG.of_mid hmid.out HRK.out HMI.out.2 HMI.out.1 (fun e => by rw [e]; simp) HDL.out HPT.out.1 HBF.out)
     go_wp2
     go_roundw
     case rel => exact ⟨k + 1, _, by omega, by go_num, HF⟩
     case measure => simp [intOf]; omega
  · have hkn : k = n := by omega
    subst hkn
    obtain ⟨a3, c3, rfl, hsa, _⟩ := hrg.out.1.at
    have hcn := hrg.out.2.1
    rw [List.take_of_length_le (by rw [HLN.out]; exact Nat.le_refl _)] at hcn
    have HF := Lib.hid (show ∃ a' c' S, Ending.returned (.slice a3 L.length c3) = .returned (.slice a' S.length c') ∧ Canon l S ∧ SetsAt wr a' S.length S ∧ Below w.heap.size w wr from ⟨a3, c3, L.map Prod.fst, by rw [List.length_map], hcn, by rw [List.length_map]; exact hsa, hrg.out.2.2.1⟩)
    clear hcn hsa
    go_wp2
    go_ret
    exact HF.out
end Go.Proofs.YthfnphcefkdgbaaGreat
