/- The document's Encode. -/
import Derived.Test.YtkoafkajmfodkaaRwE
import Derived.Test.YtkoafkajmfodkaaRwF
namespace Go.Proofs.Ytkoafkajmfodkaa
open Go.RowKit

theorem fits_two5 {p : Int} (h : 0 ≤ p ∧ p ≤ 65535) : fits p 2 = true := by
  unfold fits
  have e : (2 : Int) ^ (8 * (2 : Int).toNat) = 65536 := by decide
  simp only [decide_eq_true_eq]
  refine ⟨by omega, by omega, by omega, ?_⟩
  rw [e]; omega
theorem fits_four5 {p : Int} (h : 0 ≤ p ∧ p ≤ 4294967295) : fits p 4 = true := by
  unfold fits
  have e : (2 : Int) ^ (8 * (4 : Int).toNat) = 4294967296 := by decide
  simp only [decide_eq_true_eq]
  refine ⟨by omega, by omega, by omega, ?_⟩
  rw [e]; omega
theorem joinL_six {a b c d e f : Int} (h1 : fits a 2 = true) (h2 : fits b 2 = true) (h3 : fits c 2 = true) (h4 : fits d 2 = true) (h5 : fits e 2 = true) (h6 : fits f 2 = true) : joinL 2 [a, b, c, d, e, f] = putL a 2 ++ putL b 2 ++ putL c 2 ++ putL d 2 ++ putL e 2 ++ putL f 2 := by
  have hj : joinOk 2 [a, b, c, d, e, f] = true := join_yes (by omega) (fun j hj => by
    match j, hj with
    | 0, _ => exact h1
    | 1, _ => exact h2
    | 2, _ => exact h3
    | 3, _ => exact h4
    | 4, _ => exact h5
    | 5, _ => exact h6
    | j + 6, hj => (simp at hj; omega))
  rw [joinL, if_pos hj, putL, if_pos h1, putL, if_pos h2, putL, if_pos h3, putL, if_pos h4, putL, if_pos h5, putL, if_pos h6]
  show ([] ++ putTo a 2 2) ++ putTo b 2 2 ++ putTo c 2 2 ++ putTo d 2 2 ++ putTo e 2 2 ++ putTo f 2 2 = _
  rw [List.nil_append]
  rfl
theorem fit_rr {r : R5} (h : mayRr r = true) : FitR r := by
  have h1 : mayR r.k.n r.k.t r.k.c r.ttl r.d = true := h
  simp only [mayR, Bool.and_eq_true, decide_eq_true_eq] at h1
  obtain ⟨_, _, h3, h4, h5⟩ := h1
  simp only [mayD, Bool.and_eq_true, decide_eq_true_eq] at h5
  exact ⟨fits_two5 h5.1.1, fits_two5 h3, fits_four5 (by omega)⟩
theorem fit_x {r : R5} (h : mayX r = true) : FitR r := by
  unfold mayX at h
  cases h1 : mayRr r
  · rw [h1, Bool.false_or] at h
    simp only [mayO, Bool.and_eq_true, decide_eq_true_eq] at h
    obtain ⟨h2, _, h4, h5, _⟩ := h
    exact ⟨fits_two5 (by omega), fits_two5 (inR_t h4), fits_four5 (inR_t h5)⟩
  · exact fit_rr h1
theorem fits_all {A N X : List R5} (ha : A.all mayRr = true) (hn : N.all mayRr = true) (hx : X.all mayX = true) : ∀ r ∈ A ++ (N ++ X), FitR r := by
  intro r hr
  simp only [List.mem_append] at hr
  rcases hr with h | h | h
  · exact fit_rr (List.all_eq_true.1 ha _ h)
  · exact fit_rr (List.all_eq_true.1 hn _ h)
  · exact fit_x (List.all_eq_true.1 hx _ h)
theorem own_kd {w w' : World} {B B2 q n size : Nat} {nv : Value} {E : Ents} {X : List UInt8} {e : TypeId} {v : Value} {xs : List Value} (h : w.ownsRow B e size v n xs) (hs : DrS w B2 q nv E X) (hk : Kd w w' nv) (h1 : e ≠ 108) (h2 : e ≠ 5) (h3 : e ≠ 3) (h4 : e ≠ 9) : w'.ownsRow B e size v n xs := by
  refine ⟨h.1, ?_⟩
  rcases h.2 with hn | ⟨g, cap, cur, e1, e2, hg, rest⟩
  · exact Or.inl hn
  · exact Or.inr ⟨g, cap, cur, e1, e2, (hk g cur e hg h1 h2 h3 (hs.ne ⟨cur, hg⟩ h4)).trans hg, rest⟩
set_option maxRecDepth 100000 in
set_option maxHeartbeats 8000000 in
theorem rencode_any (mi mo mr : Int) (b1 b2 b3 b4 b5 : Bool) (most : Int) (qa na sa xa : Option Addr) (ql qc nl nc sl sc xl xc : Nat) (Q : List Ky) (A N X : List R5) (w : World) (hq : RowQ w qa ql Q) (ha : RowR w na nl A) (han : na = none → nl = 0 ∧ nc = 0) (hn : RowR w sa sl N) (hnn : sa = none → sl = 0 ∧ sc = 0) (hx : RowR w xa xl X) (hxn : xa = none → xl = 0 ∧ xc = 0) (hl : ql ≤ 100000 ∧ nl ≤ 30000 ∧ sl ≤ 30000 ∧ xl ≤ 30000) (hz : ∀ r ∈ Q, r.n.size ≤ 1000000) (hza : SzN A) (hzn : SzN N) (hzx : SzN X) :
    Calls Try.prog 18 #[.agg #[.int .i64 mi, .int .i64 mo, .int .i64 mr, .bool b1, .bool b2, .bool b3, .bool b4, .bool b5, .slice qa ql qc, .slice na nl nc, .slice sa sl sc, .slice xa xl xc], .int .i64 most] w fun e w' => ∃ v, e = .returned (.tuple #[v, .int .i64 (encEG mi mo mr b1 b2 b3 b4 b5 Q A N X most)]) ∧ w'.ownsRow w.heap.size 5 1 v (encLG mi mo mr b1 b2 b3 b4 b5 Q A N X most).length (bc (encLG mi mo mr b1 b2 b3 b4 b5 Q A N X most)) ∧ Below w.heap.size w w' := by
  have hb1 := (Below.refl w.heap.size w).alloc (Nat.le_refl _) (.cells #[.int .i64 mi, .int .i64 mo, .int .i64 mr, .bool b1, .bool b2, .bool b3, .bool b4, .bool b5, .slice qa ql qc, .slice na nl nc, .slice sa sl sc, .slice xa xl xc] 32)
  have HC := Lib.hid (CN.new w #[.int .i64 mi, .int .i64 mo, .int .i64 mr, .bool b1, .bool b2, .bool b3, .bool b4, .bool b5, .slice qa ql qc, .slice na nl nc, .slice sa sl sc, .slice xa xl xc] 32)
  have HQ := Lib.hid (hq.below hb1)
  have HRA := Lib.hid (ha.below hb1)
  have HRN := Lib.hid (hn.below hb1)
  have HRX := Lib.hid (hx.below hb1)
  have HNO := Lib.hid (show (na = none → nl = 0 ∧ nc = 0) ∧ (sa = none → sl = 0 ∧ sc = 0) ∧ (xa = none → xl = 0 ∧ xc = 0) from ⟨han, hnn, hxn⟩)
  have HB := Lib.hid hb1
  have HZ := Lib.hid hz
  have HZA := Lib.hid (show SzN A ∧ SzN N ∧ SzN X from ⟨hza, hzn, hzx⟩)
  have HLL := Lib.hid hl
  have HQL := Lib.hid (show Q.length = ql ∧ A.length = nl ∧ N.length = sl ∧ X.length = xl from ⟨hq.1, ha.1, hn.1, hx.1⟩)
  obtain ⟨w1, hw1⟩ : ∃ x, w.alloc (.cells #[.int .i64 mi, .int .i64 mo, .int .i64 mr, .bool b1, .bool b2, .bool b3, .bool b4, .bool b5, .slice qa ql qc, .slice na nl nc, .slice sa sl sc, .slice xa xl xc] 32) = x := ⟨_, rfl⟩
  obtain ⟨g, hg⟩ : ∃ x, w.heap.size = x := ⟨_, rfl⟩
  rw [hw1] at HC HB HQ HRA HRN HRX
  have HC1 := HC.out
  rw [hg] at HC1
  replace HC := Lib.hid HC1
  have HW1 := Lib.hid hw1
  have HG := Lib.hid hg
  clear hb1 hq ha han hn hnn hx hxn hz hza hzn hzx hl hw1 hg HC1
  go_enter Try.func18, Try.ntmps18
  go_upto_region 1 with (fail)
  rw [HW1.out, HG.out]
  obtain ⟨y0, y1, y2, y3, y4, y5, y6, y7, y8, y9, y10, y11⟩ := cn12 HC.out
  go_wp2_with fail
  clear y0 y1 y2 y3 y4 y5 y6 y7 y8 y9 y10 y11
  refine (rmay_any5 mi mo mr b1 b2 b3 b4 b5 qa na sa xa ql qc nl nc sl sc xl xc Q A N X _ HQ.out HRA.out HNO.out.1 HRN.out HNO.out.2.1 HRX.out HNO.out.2.2 (by have := HLL.out; omega) HZ.out HZA.out.1 HZA.out.2.1 HZA.out.2.2).mono ?_; rintro e w2 ⟨rfl, hb⟩
  replace HC := Lib.hid (HC.out.below hb)
  replace HQ := Lib.hid (HQ.out.below hb)
  replace HRA := Lib.hid (HRA.out.below hb)
  replace HRN := Lib.hid (HRN.out.below hb)
  replace HRX := Lib.hid (HRX.out.below hb)
  replace HB := Lib.hid (HB.out.trans (hb.mono HB.out.size))
  clear hb
  cases hmay : mayM mi mo mr Q A N X
  · have HE := Lib.hid (encG_no (b1 := b1) (b2 := b2) (b3 := b3) (b4 := b4) (b5 := b5) (most := most) hmay)
    clear hmay
    go_wp2
    go_ret2
    refine ⟨.slice none 0 0, ret_vi5 (v := .slice none 0 0) HE.out.1.symm, by rw [HE.out.2]; exact World.ownsRow_nil _ _ _ _, HB.out⟩
  have HMAY := Lib.hid hmay
  obtain ⟨p1, p2, p3, p4, p5, p6⟩ := mayM_parts hmay
  have HRO := Lib.hid (recs_ok p5 p6 p4)
  have HFT := Lib.hid (fits_all p5 p6 p4)
  have HQK := Lib.hid p3
  have HCT := Lib.hid (show ql + nl + sl + xl ≤ 300 by have := HQL.out; omega)
  have hof : okF mo mr = true := by simp only [headM, Bool.and_eq_true] at p1; rw [okF, p1.2.1, p1.2.2]; rfl
  have HOF := Lib.hid hof
  have hfr := flag_rng hof b1 b2 b3 b4 b5
  have hmi : 0 ≤ mi ∧ mi ≤ 65535 := by simp only [headM, Bool.and_eq_true] at p1; exact inR_t p1.1
  obtain ⟨fl, hfl⟩ : ∃ x, flagV mo mr b1 b2 b3 b4 b5 = x := ⟨_, rfl⟩
  rw [hfl] at hfr
  have HSIX := Lib.hid (joinL_six (a := mi) (b := fl) (c := (ql : Int)) (d := (nl : Int)) (e := (sl : Int)) (f := (xl : Int)) (fits_two5 hmi) (fits_two5 hfr) (fits_two5 (by have := HCT.out; omega)) (fits_two5 (by have := HCT.out; omega)) (fits_two5 (by have := HCT.out; omega)) (fits_two5 (by have := HCT.out; omega)))
  have HFL := Lib.hid hfl
  clear hmay p1 p2 p3 p4 p5 p6 hof hfr hmi hfl
  have hb3 := (Below.refl w2.heap.size w2).alloc (Nat.le_refl _) (.cells #[.slice none 0 0, .slice none 0 0, .slice none 0 0] 108)
  have c6 := CN.new w2 #[.slice none 0 0, .slice none 0 0, .slice none 0 0] 108
  have t6 := TB.new w2 #[.slice none 0 0, .slice none 0 0, .slice none 0 0] 108
  obtain ⟨w3, hw3⟩ : ∃ x, w2.alloc (.cells #[.slice none 0 0, .slice none 0 0, .slice none 0 0] 108) = x := ⟨_, rfl⟩
  obtain ⟨q6, hq6⟩ : ∃ x, w2.heap.size = x := ⟨_, rfl⟩
  rw [hw3] at hb3 c6 t6
  have HMB := Lib.hid hq6
  have hb3' := hb3
  rw [hq6] at c6 t6 hb3'
  have HW := Lib.hid hb3'
  have HS := Lib.hid (show DrS w3 q6 q6 (.slice none 0 0) [] [] from ⟨_, _, c6, t6, ⟨rfl, Or.inl ⟨rfl, rfl⟩⟩, ⟨rfl, Or.inl ⟨rfl, rfl⟩⟩, ⟨rfl, Or.inl ⟨rfl, rfl⟩⟩, (fun e he => by simp at he), Nat.le_refl _⟩)
  have HLE := Lib.hid (show q6 ≤ w3.heap.size by rw [← hq6]; exact hb3.size)
  have HW3 := Lib.hid hw3
  clear hb3 hb3' c6 t6 hw3 hq6
  go_upto_region 4 with (fail)
  rw [HW3.out, HMB.out]
  obtain ⟨y0, y1, y2, y3, y4, y5, y6, y7, y8, y9, y10, y11⟩ := cn12 (HC.out.below (by rw [HMB.out]; exact HW.out))
  go_wp2_with fail
  refine (rflags_any mi mo mr b1 b2 b3 b4 b5 _).mono ?_; rintro e w4 ⟨rfl, hb⟩
  clear y0 y1 y2 y3 y4 y5 y6 y7 y8 y9 y10 y11
  rw [if_pos HOF.out, if_pos HOF.out, HFL.out]
  replace HS := Lib.hid (HS.out.below hb)
  replace HW := Lib.hid (HW.out.trans (hb.mono HLE.out))
  replace HLE := Lib.hid (Nat.le_trans HLE.out hb.size)
  clear hb
  obtain ⟨y0, y1, y2, y3, y4, y5, y6, y7, y8, y9, y10, y11⟩ := cn12 (HC.out.below (by rw [HMB.out]; exact HW.out))
  go_wp2_with fail
  clear y0 y1 y2 y3 y4 y5 y6 y7 y8 y9 y10 y11
  refine (rnumS q6 q6 (.slice none 0 0) [] [] mi 2 _ HS.out (Nat.le_refl _) (by decide)).mono ?_; rintro e v0 ⟨rfl, hs, hb, -⟩
  replace HS := Lib.hid hs
  replace HW := Lib.hid (HW.out.trans hb)
  replace HLE := Lib.hid (Nat.le_trans HLE.out hb.size)
  clear hs hb
  obtain ⟨y0, y1, y2, y3, y4, y5, y6, y7, y8, y9, y10, y11⟩ := cn12 (HC.out.below (by rw [HMB.out]; exact HW.out))
  go_wp2_with fail
  clear y0 y1 y2 y3 y4 y5 y6 y7 y8 y9 y10 y11
  refine (rnumS q6 q6 (.slice none 0 0) [] ([] ++ putL mi 2) fl 2 _ HS.out (Nat.le_refl _) (by have := putL_le mi 2; simp only [List.length_append, List.length_nil]; omega)).mono ?_; rintro e v1 ⟨rfl, hs, hb, -⟩
  replace HS := Lib.hid hs
  replace HW := Lib.hid (HW.out.trans hb)
  replace HLE := Lib.hid (Nat.le_trans HLE.out hb.size)
  clear hs hb
  obtain ⟨y0, y1, y2, y3, y4, y5, y6, y7, y8, y9, y10, y11⟩ := cn12 (HC.out.below (by rw [HMB.out]; exact HW.out))
  go_wp2_with fail
  clear y0 y1 y2 y3 y4 y5 y6 y7 y8 y9 y10 y11
  refine (rnumS q6 q6 (.slice none 0 0) [] (([] ++ putL mi 2) ++ putL fl 2) (ql : Int) 2 _ HS.out (Nat.le_refl _) (by have := putL_le mi 2; have := putL_le fl 2; simp only [List.length_append, List.length_nil]; omega)).mono ?_; rintro e v2 ⟨rfl, hs, hb, -⟩
  replace HS := Lib.hid hs
  replace HW := Lib.hid (HW.out.trans hb)
  replace HLE := Lib.hid (Nat.le_trans HLE.out hb.size)
  clear hs hb
  obtain ⟨y0, y1, y2, y3, y4, y5, y6, y7, y8, y9, y10, y11⟩ := cn12 (HC.out.below (by rw [HMB.out]; exact HW.out))
  go_wp2_with fail
  clear y0 y1 y2 y3 y4 y5 y6 y7 y8 y9 y10 y11
  refine (rnumS q6 q6 (.slice none 0 0) [] ((([] ++ putL mi 2) ++ putL fl 2) ++ putL (ql : Int) 2) (nl : Int) 2 _ HS.out (Nat.le_refl _) (by have := putL_le mi 2; have := putL_le fl 2; have := putL_le (ql : Int) 2; simp only [List.length_append, List.length_nil]; omega)).mono ?_; rintro e v3 ⟨rfl, hs, hb, -⟩
  replace HS := Lib.hid hs
  replace HW := Lib.hid (HW.out.trans hb)
  replace HLE := Lib.hid (Nat.le_trans HLE.out hb.size)
  clear hs hb
  obtain ⟨y0, y1, y2, y3, y4, y5, y6, y7, y8, y9, y10, y11⟩ := cn12 (HC.out.below (by rw [HMB.out]; exact HW.out))
  go_wp2_with fail
  clear y0 y1 y2 y3 y4 y5 y6 y7 y8 y9 y10 y11
  refine (rnumS q6 q6 (.slice none 0 0) [] (((([] ++ putL mi 2) ++ putL fl 2) ++ putL (ql : Int) 2) ++ putL (nl : Int) 2) (sl : Int) 2 _ HS.out (Nat.le_refl _) (by have := putL_le mi 2; have := putL_le fl 2; have := putL_le (ql : Int) 2; have := putL_le (nl : Int) 2; simp only [List.length_append, List.length_nil]; omega)).mono ?_; rintro e v4 ⟨rfl, hs, hb, -⟩
  replace HS := Lib.hid hs
  replace HW := Lib.hid (HW.out.trans hb)
  replace HLE := Lib.hid (Nat.le_trans HLE.out hb.size)
  clear hs hb
  obtain ⟨y0, y1, y2, y3, y4, y5, y6, y7, y8, y9, y10, y11⟩ := cn12 (HC.out.below (by rw [HMB.out]; exact HW.out))
  go_wp2_with fail
  clear y0 y1 y2 y3 y4 y5 y6 y7 y8 y9 y10 y11
  refine (rnumS q6 q6 (.slice none 0 0) [] ((((([] ++ putL mi 2) ++ putL fl 2) ++ putL (ql : Int) 2) ++ putL (nl : Int) 2) ++ putL (sl : Int) 2) (xl : Int) 2 _ HS.out (Nat.le_refl _) (by have := putL_le mi 2; have := putL_le fl 2; have := putL_le (ql : Int) 2; have := putL_le (nl : Int) 2; have := putL_le (sl : Int) 2; simp only [List.length_append, List.length_nil]; omega)).mono ?_; rintro e v5 ⟨rfl, hs, hb, -⟩
  replace HS := Lib.hid hs
  replace HW := Lib.hid (HW.out.trans hb)
  replace HLE := Lib.hid (Nat.le_trans HLE.out hb.size)
  clear hs hb
  replace HS := Lib.hid (show DrS v5 q6 q6 (.slice none 0 0) [] (joinL 2 [mi, fl, (ql : Int), (nl : Int), (sl : Int), (xl : Int)]) by rw [HSIX.out]; have h := HS.out; rw [List.nil_append] at h; exact h)
  obtain ⟨y0, y1, y2, y3, y4, y5, y6, y7, y8, y9, y10, y11⟩ := cn12 (HC.out.below (by rw [HMB.out]; exact HW.out))
  clear y0 y1 y2 y3 y4 y5 y6 y7 y8 y9 y10 y11
  obtain ⟨X0, hX0⟩ : ∃ x, joinL 2 [mi, fl, (ql : Int), (nl : Int), (sl : Int), (xl : Int)] = x := ⟨_, rfl⟩
  rw [hX0] at HS
  have HX0L := Lib.hid (show X0.length ≤ 12 by have := joinL_two [mi, fl, (ql : Int), (nl : Int), (sl : Int), (xl : Int)]; rw [hX0] at this; exact this)
  have HEX := Lib.hid (show encXG mi mo mr b1 b2 b3 b4 b5 Q A N X = ((A ++ (N ++ X)).foldl wR (Q.foldl wQ (X0, fun _ => none))).1 by unfold encXG encX0; rw [← hX0, HFL.out, HQL.out.1, HQL.out.2.1, HQL.out.2.2.1, HQL.out.2.2.2])
  clear hX0
  have hql : ql ≤ 300 := by have := HCT.out; omega
  go_wp2_with fail
  go_loopw [9] (fun i wr => ∃ (k : Nat) (nv : Value) (E : Ents), i = .int .i64 k ∧ k ≤ ql ∧ Hid (DrS wr q6 q6 nv E ((Q.take k).foldl wQ (X0, fun _ => none)).1) ∧ Hid (lkE E = ((Q.take k).foldl wQ (X0, fun _ => none)).2) ∧ Hid (((Q.take k).foldl wQ (X0, fun _ => none)).1.length ≤ 12 + 270 * k) ∧ Hid (Below q6 w2 wr) ∧ Hid (q6 ≤ wr.heap.size)) (fun i _ => ql - (intOf i).toNat)
  case atStart => exact ⟨0, .slice none 0 0, [], rfl, by omega, HS, Lib.hid lkE_nil, by simpa using HX0L, HW, HLE⟩
  case round =>
    clear HS HW HLE
    obtain ⟨k, nv, E, rfl, hk, HS, HLK, HXL, HW, HLE⟩ := hrel
    have hbw : Below w2.heap.size w2 wr := by rw [HMB.out]; exact HW.out
    have HBW := Lib.hid hbw
    clear hbw
    by_cases hlt : k < ql
    · obtain ⟨b, o, r, rfl, hbl, hr, c0, c1, c2⟩ := (HQ.out.below HBW.out).at k hlt
      obtain ⟨n, t, c⟩ := r
      have hmk := List.all_eq_true.1 HQK.out _ (List.mem_of_getElem? hr)
      simp only [mayK, Bool.and_eq_true] at hmk
      obtain ⟨m1, m2, m3⟩ := hmk
      have HFK := Lib.hid (show fits t 2 = true ∧ fits c 2 = true from ⟨fits_two5 (inR_t m2), fits_two5 (inR_t m3)⟩)
      obtain ⟨l1, l2, l3⟩ := labs_spec m1
      have HNX := Lib.hid (show (Q.take (k + 1)).foldl wQ (X0, fun _ => none) = wQ ((Q.take k).foldl wQ (X0, fun _ => none)) ⟨n, t, c⟩ by
        rw [List.take_add_one, hr]; simp)
      obtain ⟨L, hL⟩ : ∃ L, labs n = L := ⟨_, rfl⟩
      rw [hL] at l1 l2 l3
      have HLB := Lib.hid hL
      have HOK := Lib.hid (show OkL L ∧ off L L.length ≤ 254 ∧ n = nameB L from ⟨l1, l2, l3⟩)
      have HKC := Lib.hid (show w2.cell? ⟨b, o + k * 3, none⟩ = some (.string n) ∧ w2.cell? ⟨b, o + k * 3 + 1, none⟩ = some (.int .i64 t) ∧ w2.cell? ⟨b, o + k * 3 + 2, none⟩ = some (.int .i64 c) ∧ b < w2.heap.size by
        have hbq : b < w2.heap.size := by
          rcases HQ.out.2.2 with h0 | ⟨b', o', e, hb', _⟩
          · omega
          · injection e with e; injection e with e1 e2; rw [e1]; exact hb'
        exact ⟨(HBW.out.cell (p := ⟨b, o + k * 3, none⟩) hbq).symm.trans c0, (HBW.out.cell (p := ⟨b, o + k * 3 + 1, none⟩) hbq).symm.trans c1, (HBW.out.cell (p := ⟨b, o + k * 3 + 2, none⟩) hbq).symm.trans c2, hbq⟩)
      obtain ⟨⟨X1, f⟩, hXf⟩ : ∃ a, (Q.take k).foldl wQ (X0, fun _ => none) = a := ⟨_, rfl⟩
      rw [hXf] at HS HLK HXL HNX
      replace HS : Hid (DrS wr q6 q6 nv E X1) := HS
      replace HLK : Hid (lkE E = f) := HLK
      replace HXL : Hid (X1.length ≤ 12 + 270 * k) := HXL
      have HNX2 := Lib.hid (show (Q.take (k + 1)).foldl wQ (X0, fun _ => none) = ((wNm f X1 L).1 ++ putL t 2 ++ putL c 2, (wNm f X1 L).2) by rw [HNX.out, List.append_assoc, ← joinL_app HFK.out.1 HFK.out.2, ← HLB.out]; rfl)
      have HXN := Lib.hid (wNm_le L f X1)
      replace c0 : wr.cell? ⟨b, o + k * 3, none⟩ = some (.string n) := c0
      obtain ⟨y0, y1, y2, y3, y4, y5, y6, y7, y8, y9, y10, y11⟩ := cn12 (HC.out.below HBW.out)
      clear hr hbl hL hXf HNX m1 m2 m3 l1 l2 l3 c1 c2
      go_wp2_with fail
      clear y0 y1 y2 y3 y4 y5 y6 y7 y8 y9 y10 y11 c0
      rw [HOK.out.2.2]
      refine (rname_any q6 q6 nv E X1 L wr HOK.out.1 HOK.out.2.1 HS.out (Nat.le_refl _) (by have := HXL.out; omega)).mono ?_; rintro e w8 ⟨rfl, hd8⟩
      obtain ⟨nv8, E8, hs8, he8, hb8, hk8, ho8⟩ := hd8
      rw [HLK.out] at hs8 he8
      have HE8 := Lib.hid he8
      replace HS := Lib.hid hs8
      replace HW := Lib.hid (HW.out.trans hb8)
      replace HLE := Lib.hid (Nat.le_trans HLE.out hb8.size)
      replace HBW := Lib.hid (show Below w2.heap.size w2 w8 by rw [HMB.out]; exact HW.out)
      obtain ⟨y0, y1, y2, y3, y4, y5, y6, y7, y8, y9, y10, y11⟩ := cn12 (HC.out.below HBW.out)
      have c1 : w8.cell? ⟨b, o + k * 3 + 1, none⟩ = some (.int .i64 t) := (HBW.out.cell (p := ⟨b, o + k * 3 + 1, none⟩) HKC.out.2.2.2).trans HKC.out.2.1
      clear hs8 he8 hb8 hk8 ho8
      go_wp2_with fail
      clear y0 y1 y2 y3 y4 y5 y6 y7 y8 y9 y10 y11 c1
      refine (rnumS q6 q6 nv8 E8 _ t 2 w8 HS.out (Nat.le_refl _) (by have := HXL.out; have := HXN.out; have := HOK.out.2.1; omega)).mono ?_; rintro e w9 ⟨rfl, hs9, hb9, -⟩
      replace HS := Lib.hid hs9
      replace HW := Lib.hid (HW.out.trans hb9)
      replace HLE := Lib.hid (Nat.le_trans HLE.out hb9.size)
      replace HBW := Lib.hid (show Below w2.heap.size w2 w9 by rw [HMB.out]; exact HW.out)
      obtain ⟨y0, y1, y2, y3, y4, y5, y6, y7, y8, y9, y10, y11⟩ := cn12 (HC.out.below HBW.out)
      have c2 : w9.cell? ⟨b, o + k * 3 + 2, none⟩ = some (.int .i64 c) := (HBW.out.cell (p := ⟨b, o + k * 3 + 2, none⟩) HKC.out.2.2.2).trans HKC.out.2.2.1
      clear hs9 hb9
      go_wp2_with fail
      clear y0 y1 y2 y3 y4 y5 y6 y7 y8 y9 y10 y11 c2
      refine (rnumS q6 q6 nv8 E8 _ c 2 w9 HS.out (Nat.le_refl _) (by have := HXL.out; have := HXN.out; have := HOK.out.2.1; have := putL_le t 2; rw [List.length_append]; omega)).mono ?_; rintro e w10 ⟨rfl, hs10, hb10, -⟩
      replace HW := Lib.hid (HW.out.trans hb10)
      replace HLE := Lib.hid (Nat.le_trans HLE.out hb10.size)
      have HS2 := Lib.hid (show DrS w10 q6 q6 nv8 E8 ((Q.take (k + 1)).foldl wQ (X0, fun _ => none)).1 by rw [HNX2.out]; exact hs10)
      have HLK2 := Lib.hid (show lkE E8 = ((Q.take (k + 1)).foldl wQ (X0, fun _ => none)).2 by rw [HNX2.out]; exact HE8.out)
      have HXL2 := Lib.hid (show ((Q.take (k + 1)).foldl wQ (X0, fun _ => none)).1.length ≤ 12 + 270 * (k + 1) by
        rw [HNX2.out]
        show ((wNm f X1 L).1 ++ putL t 2 ++ putL c 2).length ≤ _
        rw [List.length_append, List.length_append]
        have := HXL.out; have := HXN.out; have := HOK.out.2.1; have := putL_le t 2; have := putL_le c 2
        have h2 : (putL t 2).length = 2 := by rw [← putL_join HFK.out.1, joinL, if_pos (join_yes (by omega) (fun j hj => by have : j = 0 := by simp at hj; omega
                                                                                                                            subst this; exact HFK.out.1)), joinTo_length]; rfl
        have h3 : (putL c 2).length = 2 := by rw [← putL_join HFK.out.2, joinL, if_pos (join_yes (by omega) (fun j hj => by have : j = 0 := by simp at hj; omega
                                                                                                                            subst this; exact HFK.out.2)), joinTo_length]; rfl
        omega)
      clear hs10 hb10 HS HXL HNX2
      go_wp2
      go_roundw
      case rel => exact ⟨k + 1, nv8, E8, by go_num, by omega, HS2, HLK2, HXL2, HW, HLE⟩
      case measure => simp [intOf]; omega
    · obtain rfl : k = ql := by omega
      have htk : Q.take k = Q := by rw [← HQL.out.1]; exact List.take_length
      rw [htk] at HS HLK HXL
      obtain ⟨⟨X1, f1⟩, hXf⟩ : ∃ a, Q.foldl wQ (X0, fun _ => none) = a := ⟨_, rfl⟩
      rw [hXf] at HS HLK HXL HEX
      replace HS : Hid (DrS wr q6 q6 nv E X1) := HS
      replace HLK : Hid (lkE E = f1) := HLK
      replace HXL : Hid (X1.length ≤ 12 + 270 * k) := HXL
      clear hlt hk htk hXf
      have HRA2 := Lib.hid (HRA.out.below HBW.out)
      have HRN2 := Lib.hid (HRN.out.below HBW.out)
      have HRX2 := Lib.hid (HRX.out.below HBW.out)
      obtain ⟨y0, y1, y2, y3, y4, y5, y6, y7, y8, y9, y10, y11⟩ := cn12 (HC.out.below HBW.out)
      go_wp2_with fail
      refine (rall_any mi mo mr b1 b2 b3 b4 b5 _ _ _ _ _ _ nl nc sl sc xl xc A N X wr HRA2.out HNO.out.1 HRN2.out HNO.out.2.1 HRX2.out HNO.out.2.2 (by have := HLL.out; omega)).mono ?_; rintro e w9 ⟨v9, rfl, ho, hb⟩
      clear y0 y1 y2 y3 y4 y5 y6 y7 y8 y9 y10 y11
      obtain ⟨L, hL⟩ : ∃ x, A ++ (N ++ X) = x := ⟨_, rfl⟩
      obtain ⟨nn, hnn⟩ : ∃ x, nl + sl + xl = x := ⟨_, rfl⟩
      rw [hL, hnn] at ho
      rw [hL] at HEX HRO HFT
      have HNN := Lib.hid (show nn ≤ 300 by have := HCT.out; omega)
      have HLN := Lib.hid (show L.length = nn by have := HQL.out; rw [← hL, ← hnn]; simp only [List.length_append]; omega)
      obtain ⟨a9, c9, rfl, -⟩ := rowR_own ho
      have HO9 := Lib.hid ho
      replace HS := Lib.hid (HS.out.below hb)
      replace HW := Lib.hid (HW.out.trans (hb.mono HLE.out))
      replace HLE := Lib.hid (Nat.le_trans HLE.out hb.size)
      obtain ⟨b9, hb9⟩ : ∃ x, wr.heap.size = x := ⟨_, rfl⟩
      rw [hb9] at HO9
      clear ho hb hL hnn HRA2 HRN2 HRX2 hb9
      go_wp2_with fail
      have hnn9 := HNN.out
      go_loopw [11] (fun i wx => ∃ (j : Nat) (nv : Value) (E : Ents), i = .int .i64 j ∧ j ≤ nn ∧ Hid (DrS wx q6 q6 nv E ((L.take j).foldl wR (X1, f1)).1) ∧ Hid (lkE E = ((L.take j).foldl wR (X1, f1)).2) ∧ Hid (Below q6 w2 wx) ∧ Hid (q6 ≤ wx.heap.size) ∧ Hid (wx.ownsRow b9 75 5 (.slice a9 nn c9) nn (flatR L))) (fun i _ => nn - (intOf i).toNat)
      case atStart => exact ⟨0, nv, E, rfl, by omega, HS, HLK, HW, HLE, HO9⟩
      case round =>
        clear HS HW HLE HO9 HLK
        obtain ⟨j, nv, E, rfl, hj, HS, HLK, HW, HLE, HO9⟩ := hrel
        by_cases hlt : j < nn
        · obtain ⟨b, o, r, rfl, hbl, hr, c0, c1, c2, c3, c4⟩ := (rowR_own2 HO9.out).1.at j hlt
          have hro := HRO.out r (List.mem_of_getElem? hr)
          have hft := HFT.out r (List.mem_of_getElem? hr)
          have HLB := Lib.hid (foldR_le (L.take j) (X1, f1) (fun x hx => HRO.out x (List.mem_of_mem_take hx)))
          have HNX := Lib.hid (show (L.take (j + 1)).foldl wR (X1, f1) = wR ((L.take j).foldl wR (X1, f1)) r by
            rw [List.take_add_one, hr]; simp)
          obtain ⟨⟨rn, rt, rc⟩, ru, rd⟩ := r
          have HRK := Lib.hid hro
          have HFK := Lib.hid hft
          replace c0 : wr.cell? ⟨b, o + j * 5, none⟩ = some (.string rn) := c0
          replace c1 : wr.cell? ⟨b, o + j * 5 + 1, none⟩ = some (.int .i64 rt) := c1
          replace c2 : wr.cell? ⟨b, o + j * 5 + 2, none⟩ = some (.int .i64 rc) := c2
          replace c3 : wr.cell? ⟨b, o + j * 5 + 3, none⟩ = some (.int .i64 ru) := c3
          replace c4 : wr.cell? ⟨b, o + j * 5 + 4, none⟩ = some (.string rd) := c4
          have HLJ := Lib.hid (show ((L.take j).foldl wR (X1, f1)).1.length ≤ 681012 by
            have h1 := HLB.out; have h2 := HXL.out; have h3 := HNN.out
            have h4 : (L.take j).length ≤ 300 := by rw [List.length_take, HLN.out]; omega
            have h5 : ((X1, f1) : List UInt8 × Pls).1.length = X1.length := rfl
            rw [h5] at h1
            have h6 := HCT.out
            omega)
          clear hr hbl hro hft HLB
          go_wp2_with fail
          clear c0 c1 c2 c3 c4
          refine (rrecord_any q6 q6 nv E rn rt rc ru rd _ _ HRK.out.1 HRK.out.2.1 HRK.out.2.2.1 HRK.out.2.2.2 HFK.out HS.out (Nat.le_refl _) (by have := HLJ.out; omega)).mono ?_; rintro e w10 ⟨rfl, hd10⟩
          obtain ⟨nv9, E9, hs10, he10, hb10, hk10, ho10⟩ := hd10
          rw [HLK.out] at hs10 he10
          replace HW := Lib.hid (HW.out.trans hb10)
          replace HLE := Lib.hid (Nat.le_trans HLE.out hb10.size)
          replace HO9 := Lib.hid (own_kd HO9.out HS.out hk10 (by decide) (by decide) (by decide) (by decide))
          have HS2 := Lib.hid (show DrS w10 q6 q6 nv9 E9 ((L.take (j + 1)).foldl wR (X1, f1)).1 by rw [HNX.out]; exact hs10)
          have HLK2 := Lib.hid (show lkE E9 = ((L.take (j + 1)).foldl wR (X1, f1)).2 by rw [HNX.out]; exact he10)
          clear hs10 hb10 hk10 he10 ho10 HS HNX
          go_wp2
          go_roundw
          case rel => exact ⟨j + 1, nv9, E9, by go_num, by omega, HS2, HLK2, HW, HLE, HO9⟩
          case measure => simp [intOf]; omega
        · obtain rfl : j = nn := by omega
          have htk : L.take j = L := by rw [← HLN.out]; exact List.take_length
          rw [htk, ← HEX.out] at HS
          obtain ⟨bv, av, hc, ht, ho, -⟩ := HS.out
          obtain ⟨zl, hzl⟩ : ∃ x, (encXG mi mo mr b1 b2 b3 b4 b5 Q A N X).length = x := ⟨_, rfl⟩
          rw [hzl] at ho
          obtain ⟨va, vc, rfl, -⟩ := cellsK_own ho
          have HO := Lib.hid ho
          have HXV := Lib.hid hzl
          have HBZ := Lib.hid (HB.out.trans (HW.out.mono (by have := HB.out.size; have := HMB.out; omega)))
          have HSZ := Lib.hid (show w.heap.size ≤ q6 by have := HB.out.size; have := HMB.out; omega)
          have z0 : wr.cell? ⟨q6, 0, none⟩ = some (.slice va zl vc) := (hc.2 0 _ rfl).1
          clear hc ht ho hzl htk hlt hj
          by_cases hc1 : most < (zl : Int)
          · have d1 := dT hc1
            have HE := Lib.hid (encG_long (b1 := b1) (b2 := b2) (b3 := b3) (b4 := b4) (b5 := b5) (most := most) HMAY.out (Or.inl (by rw [HXV.out]; exact hc1)))
            clear hc1
            go_wp2
            go_ret2
            refine ⟨.slice none 0 0, ret_vi5 (v := .slice none 0 0) HE.out.1.symm, by rw [HE.out.2]; exact World.ownsRow_nil _ _ _ _, HBZ.out⟩
          have d1 := dF hc1
          by_cases hc2 : 16000 < zl
          · have d2 := dT (p := (16000 : Int) < (zl : Int)) (by omega)
            have HE := Lib.hid (encG_long (b1 := b1) (b2 := b2) (b3 := b3) (b4 := b4) (b5 := b5) (most := most) HMAY.out (Or.inr (by rw [HXV.out]; exact hc2)))
            clear hc1 hc2
            go_wp2
            go_ret2
            refine ⟨.slice none 0 0, ret_vi5 (v := .slice none 0 0) HE.out.1.symm, by rw [HE.out.2]; exact World.ownsRow_nil _ _ _ _, HBZ.out⟩
          have d2 := dF (p := (16000 : Int) < (zl : Int)) (by omega)
          have HE := Lib.hid (encG_yes (b1 := b1) (b2 := b2) (b3 := b3) (b4 := b4) (b5 := b5) (most := most) HMAY.out (by rw [HXV.out]; exact hc1) (by rw [HXV.out]; exact hc2))
          clear hc1 hc2
          go_wp2
          go_ret2
          refine ⟨.slice va zl vc, ret_vi5 (v := .slice va zl vc) HE.out.1.symm, by rw [HE.out.2, HXV.out]; exact own_mono4 HO.out HSZ.out, HBZ.out⟩
end Go.Proofs.Ytkoafkajmfodkaa
