/- Zones: Sets, Soa. -/
import Derived.Test.YtfopfplpfhncfaaGreatZnC
import Derived.Test.YtfopfplpfhncfaaGreatSBa
import Derived.Test.YtfopfplpfhncfaaGreatMgC
namespace Go.Proofs.YtfopfplpfhncfaaGreat
open Go.RowKit

theorem flatS_set (p : SetP × Value) : ∀ (L : List (SetP × Value)) (k : Nat), k < L.length → (((((flatS L).set (k * 5) (.string p.1.k.n)).set (k * 5 + 1) (.int .i64 p.1.k.t)).set (k * 5 + 2) (.int .i64 p.1.k.c)).set (k * 5 + 3) (.int .i64 p.1.ttl)).set (k * 5 + 4) p.2 = flatS (L.set k p) := by
  intro L
  induction L with
  | nil => intro k hk; exact absurd hk (by simp)
  | cons x L ih =>
    intro k hk
    have h1 : ∀ y L, flatS (y :: L) = .string y.1.k.n :: .int .i64 y.1.k.t :: .int .i64 y.1.k.c :: .int .i64 y.1.ttl :: y.2 :: flatS L := fun y L => rfl
    cases k with
    | zero =>
      rw [h1]
      rfl
    | succ k =>
      rw [List.set_cons_succ, h1, h1, ← ih k (by simpa using hk)]
      rw [show (k + 1) * 5 = k * 5 + 5 by omega, show k * 5 + 5 + 1 = k * 5 + 1 + 5 by omega, show k * 5 + 5 + 2 = k * 5 + 2 + 5 by omega, show k * 5 + 5 + 3 = k * 5 + 3 + 5 by omega, show k * 5 + 5 + 4 = k * 5 + 4 + 5 by omega]
      simp only [List.set_cons_succ]
def zS : SetP × Value := (sZ, .slice none 0 0)
theorem made_ss (n : Nat) : (madeCells (Value.agg #[.string ⟨#[]⟩, .int .i64 0, .int .i64 0, .int .i64 0, .slice none 0 0]).cells (n * 5)).toList = flatS (List.replicate n zS) := by
  have hc : (Value.agg #[.string ⟨#[]⟩, .int .i64 0, .int .i64 0, .int .i64 0, .slice none 0 0]).cells = #[.string ⟨#[]⟩, .int .i64 0, .int .i64 0, .int .i64 0, .slice none 0 0] := by simp [Value.cells]
  apply List.ext_getElem?
  intro j
  rw [hc, flatS, flatMap_get encS 5 encS_len (by omega), Array.getElem?_toList]
  unfold madeCells
  by_cases hj : j < n * 5
  · have hd : j / 5 < n := by omega
    have hm : j % 5 < 5 := Nat.mod_lt _ (by omega)
    rw [List.getElem?_replicate, if_pos hd, Array.getElem?_map, Array.getElem?_range, if_pos hj]
    simp only [Option.map_some, Option.bind_some, List.size_toArray, List.length_cons, List.length_nil, Nat.zero_add, Nat.reduceAdd]
    obtain ⟨m, hm'⟩ : ∃ m, j % 5 = m := ⟨_, rfl⟩
    rw [hm'] at hm ⊢
    match m, hm with
    | 0, _ => rfl
    | 1, _ => rfl
    | 2, _ => rfl
    | 3, _ => rfl
    | 4, _ => rfl
  · have hd : ¬ j / 5 < n := by omega
    rw [List.getElem?_replicate, if_neg hd, Array.getElem?_map, Array.getElem?_range, if_neg hj]
    rfl
theorem own_cells5S {w : World} {B g n c : Nat} {L : List (SetP × Value)} (h : w.ownsRow B 38 5 (.slice (some ⟨g, 0, none⟩) n c) n (flatS L)) (k : Nat) (hk : k < n) : ∃ v0 v1 v2 v3 v4, w.cell? ⟨g, k * 5, none⟩ = some v0 ∧ w.cell? ⟨g, k * 5 + 1, none⟩ = some v1 ∧ w.cell? ⟨g, k * 5 + 2, none⟩ = some v2 ∧ w.cell? ⟨g, k * 5 + 3, none⟩ = some v3 ∧ w.cell? ⟨g, k * 5 + 4, none⟩ = some v4 := by
  have hl := h.1
  have hg : ∀ j, j < n * 5 → ∃ v, w.cell? ⟨g, j, none⟩ = some v := fun j hj => by
    rw [h.cellAt j hj, List.getElem?_eq_getElem (by omega)]
    exact ⟨_, rfl⟩
  obtain ⟨v0, h0⟩ := hg (k * 5) (by omega)
  obtain ⟨v1, h1⟩ := hg (k * 5 + 1) (by omega)
  obtain ⟨v2, h2⟩ := hg (k * 5 + 2) (by omega)
  obtain ⟨v3, h3⟩ := hg (k * 5 + 3) (by omega)
  obtain ⟨v4, h4⟩ := hg (k * 5 + 4) (by omega)
  exact ⟨v0, v1, v2, v3, v4, h0, h1, h2, h3, h4⟩
theorem own_set_ss {w : World} {B g n c : Nat} {L : List (SetP × Value)} (h : w.ownsRow B 38 5 (.slice (some ⟨g, 0, none⟩) n c) n (flatS L)) (k : Nat) (hk : k < L.length) (p : SetP × Value) : (((((w.setCell ⟨g, k * 5, none⟩ (.string p.1.k.n)).setCell ⟨g, k * 5 + 1, none⟩ (.int .i64 p.1.k.t)).setCell ⟨g, k * 5 + 2, none⟩ (.int .i64 p.1.k.c)).setCell ⟨g, k * 5 + 3, none⟩ (.int .i64 p.1.ttl)).setCell ⟨g, k * 5 + 4, none⟩ p.2).ownsRow B 38 5 (.slice (some ⟨g, 0, none⟩) n c) n (flatS (L.set k p)) := by
  have h1 := (h.stored (k * 5) (.string p.1.k.n)).1
  have h2 := (h1.stored (k * 5 + 1) (.int .i64 p.1.k.t)).1
  have h3 := (h2.stored (k * 5 + 2) (.int .i64 p.1.k.c)).1
  have h4 := (h3.stored (k * 5 + 3) (.int .i64 p.1.ttl)).1
  have h5 := (h4.stored (k * 5 + 4) p.2).1
  rw [flatS_set p L k hk] at h5
  exact h5
theorem grown_set5 (w : World) (g o : Nat) (v0 v1 v2 v3 v4 : Value) : w.grownBy (((((w.setCell ⟨g, o, none⟩ v0).setCell ⟨g, o + 1, none⟩ v1).setCell ⟨g, o + 2, none⟩ v2).setCell ⟨g, o + 3, none⟩ v3).setCell ⟨g, o + 4, none⟩ v4) (some g) :=
  (((((grown_cell w g o v0).trans (grown_cell _ g (o + 1) v1)).trans (grown_cell _ g (o + 2) v2)).trans (grown_cell _ g (o + 3) v3)).trans (grown_cell _ g (o + 4) v4))
theorem set_next {α : Type} {P : List α} {z x : α} {n k : Nat} (hP : P.length = k) (hk : k < n) : (P ++ List.replicate (n - k) z).set k x = (P ++ [x]) ++ List.replicate (n - (k + 1)) z := by
  rw [List.set_append_right _ _ (by omega), hP, Nat.sub_self, show n - k = (n - (k + 1)) + 1 by omega, List.replicate_succ, List.set_cons_zero, List.append_assoc]
  rfl
/-- The data of sets, each its own. -/
def OwnD (w : World) (B : Nat) (P : List (SetP × Value)) : Prop := (∀ p ∈ P, w.ownsRow B 9 1 p.2 p.1.data.length (sc p.1.data)) ∧ P.Pairwise (fun p q => ∀ g, p.2.ownBlock = some g → q.2.ownBlock ≠ some g)
theorem OwnD.below {w w' : World} {B : Nat} {P : List (SetP × Value)} (h : OwnD w B P) (hb : Below w.heap.size w w') : OwnD w' B P := ⟨fun p hp => own_below' (h.1 p hp) hb, h.2⟩
theorem OwnD.snoc {w w' : World} {B : Nat} {P : List (SetP × Value)} {s : SetP} {dv : Value} (h : OwnD w B P) (hb : Below w.heap.size w w') (ho : w'.ownsRow w.heap.size 9 1 dv s.data.length (sc s.data)) (hB : B ≤ w.heap.size) : OwnD w' B (P ++ [(s, dv)]) := by
  refine ⟨fun p hp => ?_, ?_⟩
  · rcases List.mem_append.1 hp with h1 | h1
    · exact own_below' (h.1 p h1) hb
    · obtain rfl := List.mem_singleton.1 h1; exact own_mono4 ho hB
  · rw [List.pairwise_append]
    refine ⟨h.2, List.pairwise_singleton _ _, fun p hp q hq g hg e => ?_⟩
    obtain rfl := List.mem_singleton.1 hq
    have h1 := ((h.1 p hp).lt g hg).2
    have h2 := (ho.lt g e).1
    omega
theorem OwnD.kept {w w' : World} {B B2 n g c : Nat} {P : List (SetP × Value)} {xs : List Value} (h : OwnD w B P) (hr : w.ownsRow B2 38 5 (.slice (some ⟨g, 0, none⟩) n c) n xs) (hg : w.grownBy w' (some g)) : OwnD w' B P :=
  ⟨fun p hp => (h.1 p hp).kept hg (own_ne2 (by decide) (h.1 p hp) hr), h.2⟩

set_option maxRecDepth 100000 in
set_option maxHeartbeats 1600000 in
theorem zsets_any (z : Nat) (apex : ByteArray) (S : List SetP) (w : World) (h : ZnAt w z apex S) (hz : SzZ S) : Calls Tryz.prog 26 #[.pointer (some ⟨z, 0, none⟩)] w fun e w' => ∃ v L, e = .returned v ∧ L.map Prod.fst = S ∧ OwnSets w' w.heap.size v L ∧ Below w.heap.size w w' := by
  obtain ⟨i0, hi, hz0, hz1, hz2⟩ := info_parts infoSet
  obtain ⟨a, c, h2, hsa⟩ := h
  have HD := Lib.hid (fun s hs => (hz.2 s hs).2)
  obtain ⟨len, hlen⟩ : ∃ x, S.length = x := ⟨_, rfl⟩
  rw [hlen] at h2 hsa
  have hln : len ≤ 100000 := by rw [← hlen]; exact hz.1
  obtain ⟨w1, hmk, hown, hgr⟩ := run_make_full (P := Tryz.prog) w w.heap.size 61 38 i0 _ 5 Tryz.underlying61 hi hz0 hz1 .i64 .i64 len (by rw [hz2]; omega) (by unfold maxLen; omega) (by simp)
  rw [made_ss] at hown
  have hb2 := (Below.refl _ w).grown hgr (Nat.le_refl _) (fun k hk => by cases hk)
  obtain ⟨g, hg⟩ : ∃ g, w.heap.size = g := ⟨_, rfl⟩
  rw [hg] at hmk
  rw [show World.ownsRow w1 w.heap.size 38 5 (.slice (some ⟨w.heap.size, 0, none⟩) len len) len (flatS (List.replicate len zS)) = World.ownsRow w1 w.heap.size 38 5 (.slice (some ⟨g, 0, none⟩) len len) len (flatS (List.replicate len zS)) by rw [hg]] at hown
  have HO := Lib.hid hown
  have HB := Lib.hid hb2
  have HR := Lib.hid hsa
  have HL := Lib.hid hlen
  have HY := Lib.hid (h2.below hb2)
  have HG := Lib.hid hg
  obtain ⟨-, y1⟩ := h2.w2
  clear hb2 hgr hown hsa h2 hz hg hz0 hz1 hz2 hi hlen
  go_enter Tryz.func26, Tryz.ntmps26
  go_upto_region 2 with (fail)
  clear y1 hmk
  obtain ⟨-, y1⟩ := HY.out.w2
  go_wp2_with fail
  clear y1
  go_loopw [17] (fun i wr => ∃ (k : Nat) (P : List (SetP × Value)), k ≤ len ∧ i = .int .i64 k ∧ Hid (P.map Prod.fst = S.take k ∧ P.length = k) ∧ Hid (OwnD wr w.heap.size P) ∧ Hid (wr.ownsRow w.heap.size 38 5 (.slice (some ⟨g, 0, none⟩) len len) len (flatS (P ++ List.replicate (len - k) zS))) ∧ Hid (Below w.heap.size w wr)) (fun i _ => len - (intOf i).toNat)
  case atStart => exact ⟨0, [], Nat.zero_le _, rfl, Lib.hid ⟨rfl, rfl⟩, Lib.hid ⟨(fun p hp => by cases hp), List.Pairwise.nil⟩, by simpa using HO, HB⟩
  case round =>
    obtain ⟨k, P, hk, rfl, hP, hod, ho, hbw⟩ := hrel
    clear HO HB HY
    by_cases hlt : k < len
    · rcases (HR.out.below hbw.out).2 with h9 | ⟨b, o, rfl, hbl, hc⟩
      · omega
      obtain ⟨p, c9, hs⟩ := hc k hlt
      have hLk : S[k]? = some (S.getD k ssD) := by
        rw [List.getD_eq_getElem?_getD, List.getElem?_eq_getElem (by have := HL.out; omega)]; rfl
      obtain ⟨s, hss⟩ : ∃ s, S.getD k ssD = s := ⟨_, rfl⟩
      rw [hss] at hs hLk
      have hdl := HD.out s (List.mem_of_getElem? hLk)
      have HTK := Lib.hid (show ∀ dv, (P ++ [(s, dv)]).map Prod.fst = S.take (k + 1) ∧ (P ++ [(s, dv)]).length = k + 1 from fun dv => by
        rw [List.map_append, hP.out.1, List.take_add_one, hLk, List.length_append, hP.out.2]; exact ⟨rfl, rfl⟩)
      obtain ⟨⟨sn, st, sc1⟩, su, sd⟩ := s
      obtain ⟨dl, hdl2⟩ : ∃ x, sd.length = x := ⟨_, rfl⟩
      obtain ⟨c0, c1, c2, c3, c4, hrow, hnil⟩ := hs
      replace c0 : wr.cell? ⟨b, o + k * 5, none⟩ = some (.string sn) := c0
      replace c1 : wr.cell? ⟨b, o + k * 5 + 1, none⟩ = some (.int .i64 st) := c1
      replace c2 : wr.cell? ⟨b, o + k * 5 + 2, none⟩ = some (.int .i64 sc1) := c2
      replace c3 : wr.cell? ⟨b, o + k * 5 + 3, none⟩ = some (.int .i64 su) := c3
      replace c4 : wr.cell? ⟨b, o + k * 5 + 4, none⟩ = some (.slice p sd.length c9) := c4
      replace hrow : RowS wr p sd.length sd := hrow
      replace hnil : p = none → sd.length = 0 ∧ c9 = 0 := hnil
      replace hdl : sd.length ≤ 100000 := hdl
      rw [hdl2] at c4 hrow hnil hdl
      have HDL := Lib.hid hdl2
      have hb1 := (Below.refl wr.heap.size wr).alloc (Nat.le_refl _) (.cells #[.string sn, .int .i64 st, .int .i64 sc1, .int .i64 su, .slice p dl c9] 38)
      have HCP := Lib.hid (copy_any sn st sc1 su sd p dl c9 _ (hrow.below hb1) hnil hdl)
      have HB1 := Lib.hid hb1
      have i1 : (0 : Int) ≤ (k : Int) := by omega
      have i2 : (k : Int) < (len : Int) := by omega
      clear hc hss hdl2 hrow hnil hdl hLk hb1 hbl
      go_wp2_with fail
      refine HCP.out.mono ?_; rintro e w2 ⟨dv, rfl, hown, hb⟩
      have HBX := Lib.hid (HB1.out.trans (hb.mono HB1.out.size))
      have HB2 := Lib.hid (hbw.out.trans (HBX.out.mono hbw.out.size))
      have HO2 := Lib.hid (own_below' ho.out HBX.out)
      have hown2 := own_mono4 hown HB1.out.size
      obtain ⟨a', c', rfl, _⟩ := cells_own hown
      have HD2 := Lib.hid (hod.out.snoc (s := ⟨⟨sn, st, sc1⟩, su, sd⟩) HBX.out (by show World.ownsRow _ _ _ _ _ sd.length (sc sd); rw [HDL.out]; exact hown2) hbw.out.size)
      clear hb hown hown2 HCP c0 c1 c2 c3 c4 ho hod hbw HBX
      obtain ⟨v0, v1, v2, v3, v4, y0, y1, y2, y3, y4⟩ := own_cells5S HO2.out k hlt
      have f0 := HO2.out.frozenAt (k * 5)
      have f1 := HO2.out.frozenAt (k * 5 + 1)
      have f2 := HO2.out.frozenAt (k * 5 + 2)
      have f3 := HO2.out.frozenAt (k * 5 + 3)
      have f4 := HO2.out.frozenAt (k * 5 + 4)
      have HO3 := own_set_ss HO2.out k (by rw [List.length_append, hP.out.2, List.length_replicate]; omega) (⟨⟨sn, st, sc1⟩, su, sd⟩, .slice a' dl c')
      rw [set_next hP.out.2 hlt] at HO3
      have HO3 := Lib.hid HO3
      have HD3 := Lib.hid (HD2.out.kept HO2.out (grown_set5 w2 g (k * 5) (.string sn) (.int .i64 st) (.int .i64 sc1) (.int .i64 su) (.slice a' dl c')))
      have HB3 := Lib.hid (below_set5' HB2.out (q := g) (by have := HG.out; omega) (k * 5) (.string sn) (.int .i64 st) (.int .i64 sc1) (.int .i64 su) (.slice a' dl c'))
      go_wp2
      go_roundw
      case rel => exact ⟨k + 1, P ++ [(⟨⟨sn, st, sc1⟩, su, sd⟩, .slice a' dl c')], by omega, by go_num, Lib.hid (HTK.out _), HD3, HO3, HB3⟩
      case measure => simp [intOf]; omega
    · have hkn : k = len := by omega
      subst hkn
      have HPL := Lib.hid (show P.map Prod.fst = S by rw [hP.out.1, List.take_of_length_le (by rw [HL.out]; exact Nat.le_refl _)])
      have HOS := Lib.hid (show OwnSets wr w.heap.size (.slice (some ⟨g, 0, none⟩) k k) P from ⟨by rw [hP.out.2]; have h5 := ho.out; rw [Nat.sub_self, List.replicate_zero, List.append_nil] at h5; exact h5, hod.out.1, hod.out.2⟩)
      clear hP ho hod
      go_wp2
      go_ret
      exact ⟨_, _, rfl, HPL.out, HOS.out, hbw.out⟩
end Go.Proofs.YtfopfplpfhncfaaGreat
