/- Texts that others rest on, one behind the other: Rec, SkD, PlS, CpR. -/
import Derived.Test.YthfnphcefkdgbaaGreatMgE
section
namespace Go.Proofs.YthfnphcefkdgbaaGreat
open Go.RowKit
theorem flatR_set (r : R5) : ∀ (L : List R5) (k : Nat), k < L.length → (((((flatR L).set (k * 5) (.string r.k.n)).set (k * 5 + 1) (.int .i64 r.k.t)).set (k * 5 + 2) (.int .i64 r.k.c)).set (k * 5 + 3) (.int .i64 r.ttl)).set (k * 5 + 4) (.string r.d) = flatR (L.set k r) := by
 intro L
 induction L with
 | nil => intro k hk; exact absurd hk (by simp)
 | cons x L ih =>
  intro k hk
  have h1 : ∀ y L, flatR (y :: L) = .string y.k.n :: .int .i64 y.k.t :: .int .i64 y.k.c :: .int .i64 y.ttl :: .string y.d :: flatR L := fun y L => rfl
  cases k with
  | zero =>
   rw [h1]
   rfl
  | succ k =>
   rw [List.set_cons_succ, h1, h1, ← ih k (by simpa using hk)]
   rw [show (k + 1) * 5 = k * 5 + 5 by omega, show k * 5 + 5 + 1 = k * 5 + 1 + 5 by omega, show k * 5 + 5 + 2 = k * 5 + 2 + 5 by omega, show k * 5 + 5 + 3 = k * 5 + 3 + 5 by omega, show k * 5 + 5 + 4 = k * 5 + 4 + 5 by omega]
   simp only [List.set_cons_succ]
theorem made_rr (n : Nat) : (madeCells (Value.agg #[.string ⟨#[]⟩, .int .i64 0, .int .i64 0, .int .i64 0, .string ⟨#[]⟩]).cells (n * 5)).toList = flatR (List.replicate n rr0) := by
 have hc : (Value.agg #[.string ⟨#[]⟩, .int .i64 0, .int .i64 0, .int .i64 0, .string ⟨#[]⟩]).cells = #[.string ⟨#[]⟩, .int .i64 0, .int .i64 0, .int .i64 0, .string ⟨#[]⟩] := by simp [Value.cells]
 apply List.ext_getElem?
 intro j
 rw [hc, flatR, flatMap_get encR 5 encR_len (by omega), Array.getElem?_toList]
 unfold madeCells
 by_cases hj : j < n * 5
 · have hd : j / 5 < n := by omega
   have hm : j % 5 < 5 := Nat.mod_lt _ (by omega)
   rw [List.getElem?_replicate, if_pos hd, Array.getElem?_map, Array.getElem?_range, if_pos hj]
   simp only [Option.map_some, Option.bind_some, List.size_toArray, List.length_cons, List.length_nil, Nat.zero_add, Nat.reduceAdd]
   obtain ⟨m, hm'⟩ : ∃ m, j % 5 = m := ⟨_, rfl⟩
   rw [hm'] at hm ⊢
   match m, hm with
   | 0, _ => rfl
   | 1, _ => rfl
   | 2, _ => rfl
   | 3, _ => rfl
   | 4, _ => rfl
 · have hd : ¬ j / 5 < n := by omega
   rw [List.getElem?_replicate, if_neg hd, Array.getElem?_map, Array.getElem?_range, if_neg hj]
   rfl
theorem own_cells5 {w : World} {B g n c : Nat} {L : List R5} (h : w.ownsRow B 111 5 (.slice (some ⟨g, 0, none⟩) n c) n (flatR L)) (k : Nat) (hk : k < n) : ∃ v0 v1 v2 v3 v4, w.cell? ⟨g, k * 5, none⟩ = some v0 ∧ w.cell? ⟨g, k * 5 + 1, none⟩ = some v1 ∧ w.cell? ⟨g, k * 5 + 2, none⟩ = some v2 ∧ w.cell? ⟨g, k * 5 + 3, none⟩ = some v3 ∧ w.cell? ⟨g, k * 5 + 4, none⟩ = some v4 := by
 have hl := h.1
 have hg : ∀ j, j < n * 5 → ∃ v, w.cell? ⟨g, j, none⟩ = some v := fun j hj => by
  rw [h.cellAt j hj, List.getElem?_eq_getElem (by omega)]
  exact ⟨_, rfl⟩
 obtain ⟨v0, h0⟩ := hg (k * 5) (by omega)
 obtain ⟨v1, h1⟩ := hg (k * 5 + 1) (by omega)
 obtain ⟨v2, h2⟩ := hg (k * 5 + 2) (by omega)
 obtain ⟨v3, h3⟩ := hg (k * 5 + 3) (by omega)
 obtain ⟨v4, h4⟩ := hg (k * 5 + 4) (by omega)
 exact ⟨v0, v1, v2, v3, v4, h0, h1, h2, h3, h4⟩
theorem own_set_rr {w : World} {B g n c : Nat} {L : List R5} (h : w.ownsRow B 111 5 (.slice (some ⟨g, 0, none⟩) n c) n (flatR L)) (k : Nat) (hk : k < L.length) (r : R5) : (((((w.setCell ⟨g, k * 5, none⟩ (.string r.k.n)).setCell ⟨g, k * 5 + 1, none⟩ (.int .i64 r.k.t)).setCell ⟨g, k * 5 + 2, none⟩ (.int .i64 r.k.c)).setCell ⟨g, k * 5 + 3, none⟩ (.int .i64 r.ttl)).setCell ⟨g, k * 5 + 4, none⟩ (.string r.d)).ownsRow B 111 5 (.slice (some ⟨g, 0, none⟩) n c) n (flatR (L.set k r)) := by
 have h1 := (h.stored (k * 5) (.string r.k.n)).1
 have h2 := (h1.stored (k * 5 + 1) (.int .i64 r.k.t)).1
 have h3 := (h2.stored (k * 5 + 2) (.int .i64 r.k.c)).1
 have h4 := (h3.stored (k * 5 + 3) (.int .i64 r.ttl)).1
 have h5 := (h4.stored (k * 5 + 4) (.string r.d)).1
 rw [flatR_set r L k hk] at h5
 exact h5
theorem below_set5' {B : Nat} {w w1 : World} (h : Below B w w1) {q : Nat} (hp : B ≤ q) (o : Nat) (v0 v1 v2 v3 v4 : Value) : Below B w (((((w1.setCell ⟨q, o, none⟩ v0).setCell ⟨q, o + 1, none⟩ v1).setCell ⟨q, o + 2, none⟩ v2).setCell ⟨q, o + 3, none⟩ v3).setCell ⟨q, o + 4, none⟩ v4) :=
 ((((h.setCell hp _).setCell hp _).setCell hp _).setCell hp _).setCell hp _
theorem C5.far5 {w : World} {q : Nat} {c0 c1 c2 c3 c4 : Value} (h : C5 w q c0 c1 c2 c3 c4) {g : Nat} (hp : g ≠ q) (o : Nat) (v0 v1 v2 v3 v4 : Value) : C5 (((((w.setCell ⟨g, o, none⟩ v0).setCell ⟨g, o + 1, none⟩ v1).setCell ⟨g, o + 2, none⟩ v2).setCell ⟨g, o + 3, none⟩ v3).setCell ⟨g, o + 4, none⟩ v4) q c0 c1 c2 c3 c4 :=
 ((((h.far _ hp _).far _ hp _).far _ hp _).far _ hp _).far _ hp _
theorem take_set_next {l : List R5} {n k : Nat} (hl : l.length = n) (hk : k < n) : (l.take k ++ List.replicate (n - k) rr0).set k (l[k]'(by omega)) = l.take (k + 1) ++ List.replicate (n - (k + 1)) rr0 := by
 have h1 : (l.take k).length = k := by rw [List.length_take]; omega
 rw [List.set_append_right _ _ (by omega), h1, Nat.sub_self, show n - k = (n - (k + 1)) + 1 by omega, List.replicate_succ, List.set_cons_zero, List.take_succ_eq_append_getElem (by omega), List.append_assoc]
 rfl
set_option maxRecDepth 100000 in
theorem record_any (n : ByteArray) (t c u : Int) (dv : Value) (pa : Option Addr) (dn dc : Nat) (d : ByteArray) (w : World) (hd : dv = .slice pa dn dc) : Calls Tryz.prog 125 #[.agg #[.string n, .int .i64 t, .int .i64 c, .int .i64 u, dv], .string d] w fun e w' => e = .returned (.agg #[.string n, .int .i64 t, .int .i64 c, .int .i64 u, .string d]) ∧ Below w.heap.size w w' := by
 subst hd
 go_enter Tryz.func125, Tryz.ntmps125
 go_wp2
 refine bodyPost_ret (v := .agg #[.string n, .int .i64 t, .int .i64 c, .int .i64 u, .string d]) (by simp [results, Tryz.results125, go_sem]) rfl ⟨rfl, ?_⟩
 repeat (first | exact Below.refl _ _ | refine Below.alloc ?_ (by simp) _ | refine Below.setCell ?_ (by simp) _)
set_option maxRecDepth 100000 in
set_option maxHeartbeats 1600000 in
theorem records_any (n : ByteArray) (t c u : Int) (d : List ByteArray) (a : Option Addr) (dn dc : Nat) (w : World) (h : RowS w a dn d) (hl : dn ≤ 100000) : Calls Tryz.prog 80 #[.agg #[.string n, .int .i64 t, .int .i64 c, .int .i64 u, .slice a dn dc]] w fun e w' => ∃ v, e = .returned v ∧ w'.ownsRow w.heap.size 111 5 v dn (flatR (recs ⟨⟨n, t, c⟩, u, d⟩)) ∧ Below w.heap.size w w' := by
 obtain ⟨i0, hi, hz0, hz1, hz2⟩ := info_parts infoRR
 have h1 := (Below.refl w.heap.size w).alloc (Nat.le_refl _) (.cells #[.string n, .int .i64 t, .int .i64 c, .int .i64 u, .slice a dn dc] 38)
 obtain ⟨w1, hmk, hown, hgr⟩ := run_make_full (P := Tryz.prog) (w.alloc (.cells #[.string n, .int .i64 t, .int .i64 c, .int .i64 u, .slice a dn dc] 38)) w.heap.size 22 111 i0 _ 5 Tryz.underlying22 hi hz0 hz1 .i64 .i64 dn (by rw [hz2]; omega) (by unfold maxLen; omega) (by simp)
 rw [made_rr, World.size_alloc] at hown
 rw [World.size_alloc] at hmk
 have hb2 := (Below.refl _ (w.alloc (.cells #[.string n, .int .i64 t, .int .i64 c, .int .i64 u, .slice a dn dc] 38))).grown hgr (Nat.le_refl _) (fun k hk => by cases hk)
 have C1 := Lib.hid ((c5_new w (.string n) (.int .i64 t) (.int .i64 c) (.int .i64 u) (.slice a dn dc) 38).below hb2)
 have HB1 := Lib.hid (h1.trans (hb2.mono h1.size))
 obtain ⟨g, hg⟩ : ∃ g, w.heap.size + 1 = g := ⟨_, rfl⟩
 rw [hg] at hmk hown
 have HO := Lib.hid hown
 have HR := Lib.hid h
 have HL := Lib.hid (show (recs ⟨⟨n, t, c⟩, u, d⟩).length = dn by rw [recs, List.length_map]; exact h.1)
 have hgq : g ≠ w.heap.size := by omega
 have HG := Lib.hid hg
 clear h1 hb2 hgr hown h hg hz0 hz1 hz2 hi
 go_enter Tryz.func80, Tryz.ntmps80
 obtain ⟨_, p0, p1, p2, p3, p4, _⟩ := C1.out
 go_wp2_with fail
 go_loopw [13] (fun i wr => ∃ k : Nat, k ≤ dn ∧ i = .int .i64 k ∧ Hid (wr.ownsRow w.heap.size 111 5 (.slice (some ⟨g, 0, none⟩) dn dn) dn (flatR ((recs ⟨⟨n, t, c⟩, u, d⟩).take k ++ List.replicate (dn - k) rr0))) ∧ Hid (C5 wr w.heap.size (.string n) (.int .i64 t) (.int .i64 c) (.int .i64 u) (.slice a dn dc)) ∧ Below w.heap.size w wr) (fun i _ => dn - (intOf i).toNat)
 case atStart => exact ⟨0, Nat.zero_le _, rfl, by simpa using HO, C1, HB1.out⟩
 case round =>
  obtain ⟨k, hk, rfl, ho, hc5, hbw⟩ := hrel
  clear p0 p1 p2 p3 p4 HO C1 HB1
  by_cases hlt : k < dn
  · have HBW := Lib.hid hbw
    rcases (HR.out.below hbw).2 with h9 | ⟨b, o, rfl, hbl, hc⟩
    · omega
    have e0 := hc k hlt
    have HN := Lib.hid (take_set_next HL.out hlt)
    have hlk : (recs ⟨⟨n, t, c⟩, u, d⟩)[k]'(by have := HL.out; omega) = ⟨⟨n, t, c⟩, u, d.getD k ByteArray.empty⟩ := by
      simp only [recs, List.getElem_map]
      rw [List.getD_eq_getElem?_getD, List.getElem?_eq_getElem (by have := HR.out.1; omega)]
      rfl
    rw [hlk] at HN
    obtain ⟨x, hx⟩ : ∃ x, d.getD k ByteArray.empty = x := ⟨_, rfl⟩
    rw [hx] at e0 HN
    clear hc hx hlk hbw
    obtain ⟨_, p0, p1, p2, p3, p4, _⟩ := hc5.out
    go_wp2_with fail
    refine (record_any n t c u _ _ _ _ x wr rfl).mono ?_; rintro e w2 ⟨rfl, hb⟩
    have HO2 := Lib.hid (own_below' ho.out hb)
    have HC2 := Lib.hid (hc5.out.below hb)
    have HB2 := Lib.hid (HBW.out.trans (hb.mono HBW.out.size))
    clear hb p0 p1 p2 p3 p4 e0 ho hc5
    obtain ⟨v0, v1, v2, v3, v4, y0, y1, y2, y3, y4⟩ := own_cells5 HO2.out k hlt
    have f0 := HO2.out.frozenAt (k * 5)
    have f1 := HO2.out.frozenAt (k * 5 + 1)
    have f2 := HO2.out.frozenAt (k * 5 + 2)
    have f3 := HO2.out.frozenAt (k * 5 + 3)
    have f4 := HO2.out.frozenAt (k * 5 + 4)
    have HO3 := own_set_rr HO2.out k (by rw [List.length_append, List.length_take, List.length_replicate, HL.out]; omega) ⟨⟨n, t, c⟩, u, x⟩
    rw [HN.out] at HO3
    have HO3 := Lib.hid HO3
    have HC3 := Lib.hid (HC2.out.far5 hgq (k * 5) (.string n) (.int .i64 t) (.int .i64 c) (.int .i64 u) (.string x))
    have HB3 := Lib.hid (below_set5' HB2.out (q := g) (by have := HG.out; omega) (k * 5) (.string n) (.int .i64 t) (.int .i64 c) (.int .i64 u) (.string x))
    go_wp2
    go_roundw
    case rel => exact ⟨k + 1, by omega, by go_num, HO3, HC3, HB3.out⟩
    case measure => simp [intOf]; omega
  · have hkn : k = dn := by omega
    subst hkn
    have HF := Lib.hid (show wr.ownsRow w.heap.size 111 5 (.slice (some ⟨g, 0, none⟩) k k) k (flatR (recs ⟨⟨n, t, c⟩, u, d⟩)) by
      have h1 := ho.out
      rw [Nat.sub_self, List.replicate_zero, List.append_nil, List.take_of_length_le (by rw [HL.out]; exact Nat.le_refl _)] at h1
      exact h1)
    have HBW := Lib.hid hbw
    clear ho hc5 hbw
    go_wp2
    go_ret
    exact ⟨_, rfl, HF.out, HBW.out⟩
end Go.Proofs.YthfnphcefkdgbaaGreat
end
section
namespace Go.Proofs.YthfnphcefkdgbaaGreat
open Go.RowKit
end Go.Proofs.YthfnphcefkdgbaaGreat
end
section
namespace Go.Proofs.YthfnphcefkdgbaaGreat
open Go.RowKit
def DataAt (w : World) (p : SetP × Value) : Prop := ∃ a c, p.2 = .slice a p.1.data.length c ∧ RowS w a p.1.data.length p.1.data ∧ (a = none → p.1.data.length = 0 ∧ c = 0)
theorem DataAt.below {w w' : World} {p : SetP × Value} (h : DataAt w p) (hb : Below w.heap.size w w') : DataAt w' p := by
 obtain ⟨a, c, h1, h2, h3⟩ := h
 exact ⟨a, c, h1, h2.below hb, h3⟩
theorem flatS_at {w : World} {a : Option Addr} {n : Nat} {L : List (SetP × Value)} (h : CellsAt w a (n * 5) (flatS L)) (hn : L.length = n) (hd : ∀ p ∈ L, DataAt w p) : SetsAt w a n (L.map Prod.fst) := by
 refine ⟨by rw [List.length_map]; exact hn, ?_⟩
 rcases h.2 with h0 | ⟨b, off, rfl, hlt, hc⟩
 · exact Or.inl (by omega)
 refine Or.inr ⟨b, off, rfl, hlt, fun k hk => ?_⟩
 obtain ⟨p, hp⟩ : ∃ p, L[k]? = some p := ⟨_, List.getElem?_eq_getElem (by omega)⟩
 obtain ⟨da, dc, h1, h2, h3⟩ := hd p (List.mem_of_getElem? hp)
 have hg : ∀ i, i < 5 → ∀ u, (encS p)[i]? = some u → w.cell? ⟨b, off + k * 5 + i, none⟩ = some u := fun i hi u hu => by
   have h4 := hc (k * 5 + i) u (by
    rw [flatS, flatMap_get encS 5 encS_len (by omega), show (k * 5 + i) / 5 = k by omega, show (k * 5 + i) % 5 = i by omega, hp]
    exact hu)
   rw [Nat.add_assoc]; exact h4
 have hgd : (L.map Prod.fst).getD k ssD = p.1 := by
   rw [List.getD_eq_getElem?_getD, List.getElem?_map, hp]; rfl
 rw [hgd]
 exact ⟨da, dc, hg 0 (by omega) _ rfl, hg 1 (by omega) _ rfl, hg 2 (by omega) _ rfl, hg 3 (by omega) _ rfl, by rw [← h1]; exact hg 4 (by omega) _ rfl, h2, h3⟩
theorem setsAt_own {w : World} {B n : Nat} {e : TypeId} {v : Value} {L : List (SetP × Value)} (h : w.ownsRow B e 5 v n (flatS L)) (hd : ∀ p ∈ L, DataAt w p) : ∃ a c, v = .slice a n c ∧ SetsAt w a n (L.map Prod.fst) ∧ (a = none → n = 0 ∧ c = 0) := by
 obtain ⟨a, c, e, h1, h2⟩ := cellsK_own h
 exact ⟨a, c, e, flatS_at h1 (by have := h.1; rw [flatS_len] at this; omega) hd, h2⟩
theorem infoRSet : (Tryz.prog.info? 43).map (fun i => (i.zero, i.size, i.bytes)) = some (some (.agg #[.string ⟨#[]⟩, .int .i64 0, .int .i64 0, .int .i64 0, .slice none 0 0]), 5, 64) := by kernel_rfl
theorem encS_one (p : SetP × Value) (h : ∃ a n c, p.2 = .slice a n c) : ∀ u ∈ encS p, u.oneCell' = true := by
 obtain ⟨a, n, c, h⟩ := h
 intro u hu
 simp only [encS, List.mem_cons, List.not_mem_nil, or_false] at hu
 rcases hu with rfl | rfl | rfl | rfl | rfl
 · rfl
 · rfl
 · rfl
 · rfl
 · rw [h]; rfl
theorem sameP_iff (s t : SetP) : sameP s t = true ↔ s = t := by
 obtain ⟨⟨n, a, c⟩, u, d⟩ := s
 obtain ⟨⟨n', a', c'⟩, u', d'⟩ := t
 have h := key_same ⟨n, a, c⟩ ⟨n', a', c'⟩
 simp only [sameP, Bool.and_eq_true] at h ⊢
 simp only [SetP.mk.injEq]
 constructor
 · rintro ⟨h1, h2, h3⟩
   exact ⟨h.1 h1, by simpa using h2, by simpa using h3⟩
 · rintro ⟨h1, h2, h3⟩
   exact ⟨h.2 h1, by simpa using h2, by simpa using h3⟩
end Go.Proofs.YthfnphcefkdgbaaGreat
end
section
namespace Go.Proofs.YthfnphcefkdgbaaGreat
open Go.RowKit
end Go.Proofs.YthfnphcefkdgbaaGreat
end
