/- FrontOpts: the walk. -/
import Derived.Test.YtgppkpdjpcegbaaFtK
import Derived.Deep.RegionHeld3
namespace Go.Proofs.Ytgppkpdjpcegbaa
open Go.RowKit

theorem mok_o {id : Int} {q : Ky} {o : OptP} (hq : q.n.size ≤ 1000000) (ho : putE o = 0) : Mok (oM id q o) := by
  refine ⟨⟨by show (1 : Nat) ≤ 100000; decide, Nat.zero_le _, Nat.zero_le _, by show (1 : Nat) ≤ 30000; decide⟩, fun r hr => ?_, (fun r hr => by cases hr), (fun r hr => by cases hr), fun r hr => ?_⟩
  · rw [List.mem_singleton.1 hr]; exact hq
  · rw [List.mem_singleton.1 hr, putR_ok ho]
    exact ⟨by show (ByteArray.mk #[0]).size ≤ _; decide, by show o.data.size ≤ _; have := (putE_rng ho).2.2.2; omega⟩
theorem putE_o {sz vr : Int} (h1 : 0 ≤ sz ∧ sz ≤ 65535) (h2 : 0 ≤ vr ∧ vr ≤ 255) : putE ⟨sz, vr, 0, false, ⟨#[]⟩⟩ = 0 := by
  rw [putE]
  simp only [inR_mk h1.1 h1.2, inR_mk h2.1 h2.2]
  rfl
theorem rowO_o (w : World) (sz vr : Int) : RowO (w.alloc (.cells #[.int .i64 sz, .int .i64 vr, .int .i64 0, .bool false, .string ⟨#[]⟩] 42)) (some ⟨w.heap.size, 0, none⟩) 1 [⟨sz, vr, 0, false, ⟨#[]⟩⟩] :=
  ⟨rfl, cells_lit w #[.int .i64 sz, .int .i64 vr, .int .i64 0, .bool false, .string ⟨#[]⟩] 42⟩
theorem qst_refl (n : ByteArray) (t c : Int) (W : World) : (binOp .eql 27 (.agg #[.string n, .int .i64 t, .int .i64 c]) (.agg #[.string n, .int .i64 t, .int .i64 c])).run Try.prog W = .ok (.bool true) W := by
  rw [qst_eql]; simp
theorem askK_no {q : Ky} (h : q.t = 0 ∨ q.t = 252 ∨ q.t = 255 ∨ q.t = 41) : askK q = false := by
  have h2 : q.t ∈ ([0, 252, 255, 41] : List Int) := by simp; omega
  rw [askK, decide_eq_true h2]; simp
theorem askK_yes {q : Ky} (hc : q.c = 1) (h : ¬ (q.t = 0 ∨ q.t = 252 ∨ q.t = 255 ∨ q.t = 41)) : askK q = true := by
  have h2 : ¬ q.t ∈ ([0, 252, 255, 41] : List Int) := by simp; omega
  rw [askK, decide_eq_false h2, hc]; rfl
set_option maxRecDepth 100000 in
set_option maxHeartbeats 32000000 in
theorem walkOpts (id : Int) (qn : ByteArray) (qt qk sz vr : Int) (w : World) : Calls Try.prog 6 #[.int .i64 id, .agg #[.string qn, .int .i64 qt, .int .i64 qk], .int .i64 sz, .int .i64 vr] w fun e w' => e = .returned (.bool true) ∧ Below w.heap.size w w' := by
  have HB := Lib.hid (Below.refl w.heap.size w)
  go_enter Try.func6, Try.ntmps6
  have hba := (Below.refl _ _ : Below w.heap.size w w).alloc (Nat.le_refl _) (.cells #[.string qn, .int .i64 qt, .int .i64 qk] 27)
  have HQ := Lib.hid (CN.new w #[.string qn, .int .i64 qt, .int .i64 qk] 27)
  replace HB := Lib.hid (HB.out.trans (hba.mono HB.out.size))
  obtain ⟨w2, hw⟩ : ∃ x, w.alloc (.cells #[.string qn, .int .i64 qt, .int .i64 qk] 27) = x := ⟨_, rfl⟩
  obtain ⟨q2, hq⟩ : ∃ x, w.heap.size = x := ⟨_, rfl⟩
  rw [hw, hq] at HQ
  rw [hw] at HB
  have HW := Lib.hid hw
  have HQ_ := Lib.hid hq
  clear hba hw hq
  go_upto_region 1 with (fail)
  rw [HW.out, HQ_.out]
  clear HW HQ_
  go_wp2_with fail
  refine (first22 _).mono ?_; rintro e w3 ⟨rfl, hb⟩
  replace HB := Lib.hid (HB.out.trans (hb.mono HB.out.size))
  replace HQ := Lib.hid (HQ.out.below hb)
  clear hb
  by_cases g1 : id < 0
  · have d1 : decide (id < 0) = true := dT (by omega)
    obtain ⟨p0, p1, p2, _⟩ := HQ.out.v3
    go_wp2_with fail
    refine (first22 _).mono ?_; rintro e w4 ⟨rfl, hb⟩
    clear p0 p1 p2
    clear d1
    replace HB := Lib.hid (HB.out.trans (hb.mono HB.out.size))
    replace HQ := Lib.hid (HQ.out.below hb)
    clear hb
    go_wp2
    go_ret
    exact ⟨rfl, HB.out⟩
  have d1 : decide (id < 0) = false := dF (by omega)
  by_cases g2 : 65535 < id
  · have d2 : decide ((65535 : Int) < id) = true := dT (by omega)
    obtain ⟨p0, p1, p2, _⟩ := HQ.out.v3
    go_wp2_with fail
    refine (first22 _).mono ?_; rintro e w4 ⟨rfl, hb⟩
    clear p0 p1 p2
    clear d2
    replace HB := Lib.hid (HB.out.trans (hb.mono HB.out.size))
    replace HQ := Lib.hid (HQ.out.below hb)
    clear hb
    go_wp2
    go_ret
    exact ⟨rfl, HB.out⟩
  have d2 : decide ((65535 : Int) < id) = false := dF (by omega)
  by_cases g3 : 300 < qn.size
  · have d3 : decide ((300 : Int) < (qn.size : Int)) = true := dT (by omega)
    obtain ⟨p0, p1, p2, _⟩ := HQ.out.v3
    go_wp2_with fail
    refine (first22 _).mono ?_; rintro e w4 ⟨rfl, hb⟩
    clear p0 p1 p2
    clear d3
    replace HB := Lib.hid (HB.out.trans (hb.mono HB.out.size))
    replace HQ := Lib.hid (HQ.out.below hb)
    clear hb
    go_wp2
    go_ret
    exact ⟨rfl, HB.out⟩
  have d3 : decide ((300 : Int) < (qn.size : Int)) = false := dF (by omega)
  by_cases g4 : sz < 0
  · have d4 : decide (sz < 0) = true := dT (by omega)
    obtain ⟨p0, p1, p2, _⟩ := HQ.out.v3
    go_wp2_with fail
    refine (first22 _).mono ?_; rintro e w4 ⟨rfl, hb⟩
    clear p0 p1 p2
    clear d4
    replace HB := Lib.hid (HB.out.trans (hb.mono HB.out.size))
    replace HQ := Lib.hid (HQ.out.below hb)
    clear hb
    go_wp2
    go_ret
    exact ⟨rfl, HB.out⟩
  have d4 : decide (sz < 0) = false := dF (by omega)
  by_cases g5 : 65535 < sz
  · have d5 : decide ((65535 : Int) < sz) = true := dT (by omega)
    obtain ⟨p0, p1, p2, _⟩ := HQ.out.v3
    go_wp2_with fail
    refine (first22 _).mono ?_; rintro e w4 ⟨rfl, hb⟩
    clear p0 p1 p2
    clear d5
    replace HB := Lib.hid (HB.out.trans (hb.mono HB.out.size))
    replace HQ := Lib.hid (HQ.out.below hb)
    clear hb
    go_wp2
    go_ret
    exact ⟨rfl, HB.out⟩
  have d5 : decide ((65535 : Int) < sz) = false := dF (by omega)
  by_cases g6 : vr < 0
  · have d6 : decide (vr < 0) = true := dT (by omega)
    obtain ⟨p0, p1, p2, _⟩ := HQ.out.v3
    go_wp2_with fail
    refine (first22 _).mono ?_; rintro e w4 ⟨rfl, hb⟩
    clear p0 p1 p2
    clear d6
    replace HB := Lib.hid (HB.out.trans (hb.mono HB.out.size))
    replace HQ := Lib.hid (HQ.out.below hb)
    clear hb
    go_wp2
    go_ret
    exact ⟨rfl, HB.out⟩
  have d6 : decide (vr < 0) = false := dF (by omega)
  by_cases g7 : 255 < vr
  · have d7 : decide ((255 : Int) < vr) = true := dT (by omega)
    obtain ⟨p0, p1, p2, _⟩ := HQ.out.v3
    go_wp2_with fail
    refine (first22 _).mono ?_; rintro e w4 ⟨rfl, hb⟩
    clear p0 p1 p2
    clear d7
    replace HB := Lib.hid (HB.out.trans (hb.mono HB.out.size))
    replace HQ := Lib.hid (HQ.out.below hb)
    clear hb
    go_wp2
    go_ret
    exact ⟨rfl, HB.out⟩
  have d7 : decide ((255 : Int) < vr) = false := dF (by omega)
  by_cases g8 : qk ≠ 1
  · have d8 : (qk != 1) = true := nT (by omega)
    obtain ⟨p0, p1, p2, _⟩ := HQ.out.v3
    go_wp2_with fail
    refine (first22 _).mono ?_; rintro e w4 ⟨rfl, hb⟩
    clear p0 p1 p2
    clear d8
    replace HB := Lib.hid (HB.out.trans (hb.mono HB.out.size))
    replace HQ := Lib.hid (HQ.out.below hb)
    clear hb
    go_wp2
    go_ret
    exact ⟨rfl, HB.out⟩
  have d8 : (qk != 1) = false := nF (by omega)
  have HPE := Lib.hid (putE_o (sz := sz) (vr := vr) ⟨by omega, by omega⟩ ⟨by omega, by omega⟩)
  have HQS := Lib.hid (show qn.size ≤ 1000000 by omega)
  obtain rfl : qk = 1 := by omega
  clear g1 g2 g3 g4 g5 g6 g7 g8
  have OV : True := trivial
  clear OV
  obtain ⟨p0, p1, p2, _⟩ := HQ.out.v3
  have hba := (Below.refl w3.heap.size w3).alloc (Nat.le_refl _) (.cells #[.string qn, .int .i64 qt, .int .i64 1] 27)
  have HRQ := Lib.hid (rowQ_one w3 qn qt 1)
  replace HB := Lib.hid (HB.out.trans (hba.mono HB.out.size))
  replace HQ := Lib.hid (HQ.out.below hba)
  obtain ⟨wq1, hwq⟩ : ∃ x, w3.alloc (.cells #[.string qn, .int .i64 qt, .int .i64 1] 27) = x := ⟨_, rfl⟩
  obtain ⟨qq1, hqq⟩ : ∃ x, w3.heap.size = x := ⟨_, rfl⟩
  rw [hwq, hqq] at HRQ
  rw [hwq] at HB HQ
  have HW := Lib.hid hwq
  have HQ_ := Lib.hid hqq
  clear hba hwq hqq
  go_wp2_with fail
  rw [HW.out, HQ_.out]
  clear HW HQ_
  refine (ask_ex id (some ⟨qq1, 0, none⟩) 1 1 [⟨qn, qt, 1⟩] _ HRQ.out (fun h => by cases h) (by decide)).mono ?_; rintro e w4 ⟨qa, qc, rfl, ho, hb⟩
  replace HB := Lib.hid (HB.out.trans (hb.mono HB.out.size))
  replace HQ := Lib.hid (HQ.out.below hb)
  clear hb
  clear p0 p1 p2
  have HOQ := Lib.hid ho
  clear ho HRQ
  have hba := (Below.refl w4.heap.size w4).alloc (Nat.le_refl _) (.cells #[.int .i64 sz, .int .i64 vr, .int .i64 0, .bool false, .string ⟨#[]⟩] 42)
  have HRQ := Lib.hid (rowO_o w4 sz vr)
  replace HB := Lib.hid (HB.out.trans (hba.mono HB.out.size))
  replace HQ := Lib.hid (HQ.out.below hba)
  replace HOQ := Lib.hid (own_below' HOQ.out hba)
  obtain ⟨wq2, hwq⟩ : ∃ x, w4.alloc (.cells #[.int .i64 sz, .int .i64 vr, .int .i64 0, .bool false, .string ⟨#[]⟩] 42) = x := ⟨_, rfl⟩
  obtain ⟨qq2, hqq⟩ : ∃ x, w4.heap.size = x := ⟨_, rfl⟩
  rw [hwq, hqq] at HRQ
  rw [hwq] at HB HQ HOQ
  have HW := Lib.hid hwq
  have HQ_ := Lib.hid hqq
  clear hba hwq hqq
  go_wp2_with fail
  rw [HW.out, HQ_.out]
  clear HW HQ_
  refine (withW_any _ (askM id [⟨qn, qt, 1⟩]) _ 1 1 [⟨sz, vr, 0, false, ⟨#[]⟩⟩] _ (msgAt_q id 0 false false HOQ.out rfl) ⟨(by show (1 : Nat) ≤ 10000; decide), Nat.zero_le _, Nat.zero_le _, Nat.zero_le _⟩ HRQ.out (by decide) (fun o ho => by rw [List.mem_singleton.1 ho]; show (ByteArray.mk #[]).size ≤ _; decide)).mono ?_; rintro e w5 ⟨⟨v, rfl, ho⟩, hb⟩
  replace HB := Lib.hid (HB.out.trans (hb.mono HB.out.size))
  replace HQ := Lib.hid (HQ.out.below hb)
  replace HOQ := Lib.hid (own_below' HOQ.out hb)
  clear hb
  rw [withP_ask HPE.out] at ho
  rw [opt_putE HPE.out]
  obtain ⟨qa2, qc2, na2, nc2, sa2, sc2, xa2, xc2, rfl, k1, k2, k3, k4⟩ := MsgOwn.open (mi := id) (mo := 0) (mr := 0) (b1 := false) (b2 := false) (b3 := false) (b4 := false) (b5 := false) (Q := [⟨qn, qt, 1⟩]) (A := []) (N := []) (X := [putR ⟨sz, vr, 0, false, ⟨#[]⟩⟩]) (ql := 1) (nl := 0) (sl := 0) (xl := 1) ho rfl rfl rfl rfl
  have HMO := Lib.hid ho.at
  clear ho k1 k2 k3 k4 HRQ
  clear HOQ
  have hba := (Below.refl _ _ : Below w5.heap.size w5 w5).alloc (Nat.le_refl _) (.cells #[.int .i64 id, .int .i64 0, .int .i64 0, .bool false, .bool false, .bool false, .bool false, .bool false, .slice qa2 1 qc2, .slice na2 0 nc2, .slice sa2 0 sc2, .slice xa2 1 xc2] 37)
  have HM := Lib.hid (CN.new w5 #[.int .i64 id, .int .i64 0, .int .i64 0, .bool false, .bool false, .bool false, .bool false, .bool false, .slice qa2 1 qc2, .slice na2 0 nc2, .slice sa2 0 sc2, .slice xa2 1 xc2] 37)
  replace HB := Lib.hid (HB.out.trans (hba.mono HB.out.size))
  replace HQ := Lib.hid (HQ.out.below hba)
  replace HMO := Lib.hid (HMO.out.below hba)
  obtain ⟨w6, hw⟩ : ∃ x, w5.alloc (.cells #[.int .i64 id, .int .i64 0, .int .i64 0, .bool false, .bool false, .bool false, .bool false, .bool false, .slice qa2 1 qc2, .slice na2 0 nc2, .slice sa2 0 sc2, .slice xa2 1 xc2] 37) = x := ⟨_, rfl⟩
  obtain ⟨q6, hq⟩ : ∃ x, w5.heap.size = x := ⟨_, rfl⟩
  rw [hw, hq] at HM
  rw [hw] at HB HQ HMO
  have HW := Lib.hid hw
  have HQ_ := Lib.hid hq
  clear hba hw hq
  go_upto_region 6 with (fail)
  rw [HW.out, HQ_.out]
  clear HW HQ_
  obtain ⟨y0, y1, y2, y3, y4, y5, y6, y7, y8, y9, y10, y11, f0, f1, f2, f3, f4, f5, f6, f7, f8, f9, f10, f11⟩ := HM.out.u12
  obtain ⟨EE, hE⟩ : ∃ x, encE2 (oM id ⟨qn, qt, 1⟩ ⟨sz, vr, 0, false, ⟨#[]⟩⟩) 16000 = x := ⟨_, rfl⟩
  obtain ⟨LL, hL⟩ : ∃ x, encL2 (oM id ⟨qn, qt, 1⟩ ⟨sz, vr, 0, false, ⟨#[]⟩⟩) 16000 = x := ⟨_, rfl⟩
  have HEE := Lib.hid hE
  have HLL := Lib.hid hL
  clear hE hL
  go_wp2_with fail
  refine (enc_y _ (oM id ⟨qn, qt, 1⟩ ⟨sz, vr, 0, false, ⟨#[]⟩⟩) 16000 _ HMO.out (mok_o HQS.out HPE.out)).mono ?_; rintro e w7 ⟨u, rfl, ho, hb⟩
  replace HB := Lib.hid (HB.out.trans (hb.mono HB.out.size))
  replace HQ := Lib.hid (HQ.out.below hb)
  replace HMO := Lib.hid (HMO.out.below hb)
  replace HM := Lib.hid (HM.out.below hb)
  clear hb
  rw [HLL.out] at ho
  rw [HEE.out]
  obtain ⟨nL, hn⟩ : ∃ x, LL.length = x := ⟨_, rfl⟩
  rw [hn] at ho
  have HNL := Lib.hid hn
  obtain ⟨aL, cL, rfl, -⟩ := cellsK_own ho
  have HV := Lib.hid ho
  clear ho hn y0 y1 y2 y3 y4 y5 y6 y7 y8 y9 y10 y11 f0 f1 f2 f3 f4 f5 f6 f7 f8 f9 f10 f11
  clear HM HMO
  by_cases eE : EE = 0
  rotate_left
  · have n1 := nT eE
    clear eE
    go_wp2_with fail
    refine (first22 _).mono ?_; rintro e w8 ⟨rfl, hb⟩
    replace HB := Lib.hid (HB.out.trans (hb.mono HB.out.size))
    replace HQ := Lib.hid (HQ.out.below hb)
    replace HV := Lib.hid (own_below' HV.out hb)
    clear hb
    go_wp2
    go_ret
    exact ⟨rfl, HB.out⟩
  have n1 := nF eE
  subst eE
  have hro := fun (t : Bool) => readM_o (fr := ⟨#[99]⟩) (tcp := t) HEE.out
  rw [HLL.out, HNL.out] at hro
  have HRO := Lib.hid hro
  have HZ := Lib.hid (hro false).2
  clear hro
  by_cases gv : 0 < vr
  · have d9 := dT gv
    have hvk := vM_ok HEE.out
    have hrv := fun (t : Bool) => read_ver (fr := ⟨#[99]⟩) (tcp := t) (id := id) (q := ⟨qn, qt, 1⟩) HPE.out gv
    rw [hvk.1] at hrv
    obtain ⟨LV, hLV⟩ : ∃ x, encL2 (vM id ⟨qn, qt, 1⟩) 16000 = x := ⟨_, rfl⟩
    rw [hLV] at hrv hvk
    have HRV := Lib.hid hrv
    obtain ⟨nV, hnV⟩ : ∃ x, LV.length = x := ⟨_, rfl⟩
    rw [hnV] at hvk
    have HNV := Lib.hid hnV
    have HDV := Lib.hid hvk.2.2
    clear hvk hrv hLV hnV gv
    go_wp2_with fail
    refine (read_bad ⟨#[99]⟩ false aL nL cL LL LV _ (rowB_own HV.out).1 (rowB_own HV.out).2 (by have := HZ.out; omega) (own_cap HV.out) ((HRO.out false).1.trans (HRV.out false))).mono ?_; rintro e w8 ⟨⟨v, rfl, ho⟩, hb⟩
    replace HB := Lib.hid (HB.out.trans (hb.mono HB.out.size))
    replace HQ := Lib.hid (HQ.out.below hb)
    replace HV := Lib.hid (own_below' HV.out hb)
    clear hb
    obtain ⟨bA, kA, rfl, -⟩ := cellsK_own ho
    have HTA := Lib.hid ho
    clear ho
    have hba := (Below.refl _ _ : Below w8.heap.size w8 w8).alloc (Nat.le_refl _) (.cells #[.string ⟨#[]⟩, .int .i64 0, .int .i64 0, .string ⟨#[]⟩, .int .i64 0, .int .i64 0, .bool false, .bool false, .bool false] 29)
    have HJA := Lib.hid (CN.new w8 #[.string ⟨#[]⟩, .int .i64 0, .int .i64 0, .string ⟨#[]⟩, .int .i64 0, .int .i64 0, .bool false, .bool false, .bool false] 29)
    replace HB := Lib.hid (HB.out.trans (hba.mono HB.out.size))
    replace HQ := Lib.hid (HQ.out.below hba)
    replace HV := Lib.hid (own_below' HV.out hba)
    replace HTA := Lib.hid (own_below' HTA.out hba)
    obtain ⟨w9, hw⟩ : ∃ x, w8.alloc (.cells #[.string ⟨#[]⟩, .int .i64 0, .int .i64 0, .string ⟨#[]⟩, .int .i64 0, .int .i64 0, .bool false, .bool false, .bool false] 29) = x := ⟨_, rfl⟩
    obtain ⟨q9, hq⟩ : ∃ x, w8.heap.size = x := ⟨_, rfl⟩
    rw [hw, hq] at HJA
    rw [hw] at HB HQ HV HTA
    have HW := Lib.hid hw
    have HQ_ := Lib.hid hq
    clear hba hw hq
    go_upto_region 10 with (fail)
    rw [HW.out, HQ_.out]
    clear HW HQ_
    go_wp2_with fail
    refine (read_bad ⟨#[99]⟩ true aL nL cL LL LV _ (rowB_own HV.out).1 (rowB_own HV.out).2 (by have := HZ.out; omega) (own_cap HV.out) ((HRO.out true).1.trans (HRV.out true))).mono ?_; rintro e w10 ⟨⟨v, rfl, ho⟩, hb⟩
    replace HB := Lib.hid (HB.out.trans (hb.mono HB.out.size))
    replace HQ := Lib.hid (HQ.out.below hb)
    replace HV := Lib.hid (own_below' HV.out hb)
    replace HTA := Lib.hid (own_below' HTA.out hb)
    replace HJA := Lib.hid (HJA.out.below hb)
    clear hb
    obtain ⟨bB, kB, rfl, -⟩ := cellsK_own ho
    have HTB := Lib.hid ho
    clear ho
    have hba := (Below.refl _ _ : Below w10.heap.size w10 w10).alloc (Nat.le_refl _) (.cells #[.string ⟨#[]⟩, .int .i64 0, .int .i64 0, .string ⟨#[]⟩, .int .i64 0, .int .i64 0, .bool false, .bool false, .bool false] 29)
    have HJB := Lib.hid (CN.new w10 #[.string ⟨#[]⟩, .int .i64 0, .int .i64 0, .string ⟨#[]⟩, .int .i64 0, .int .i64 0, .bool false, .bool false, .bool false] 29)
    replace HB := Lib.hid (HB.out.trans (hba.mono HB.out.size))
    replace HQ := Lib.hid (HQ.out.below hba)
    replace HV := Lib.hid (own_below' HV.out hba)
    replace HTA := Lib.hid (own_below' HTA.out hba)
    replace HJA := Lib.hid (HJA.out.below hba)
    replace HTB := Lib.hid (own_below' HTB.out hba)
    obtain ⟨w11, hw⟩ : ∃ x, w10.alloc (.cells #[.string ⟨#[]⟩, .int .i64 0, .int .i64 0, .string ⟨#[]⟩, .int .i64 0, .int .i64 0, .bool false, .bool false, .bool false] 29) = x := ⟨_, rfl⟩
    obtain ⟨q11, hq⟩ : ∃ x, w10.heap.size = x := ⟨_, rfl⟩
    rw [hw, hq] at HJB
    rw [hw] at HB HQ HV HTA HJA HTB
    have HW := Lib.hid hw
    have HQ_ := Lib.hid hq
    clear hba hw hq
    go_upto_region 11 with (fail)
    rw [HW.out, HQ_.out]
    clear HW HQ_
    clear HV HTB HJA HJB
    replace HTA := Lib.hid (show World.ownsRow _ _ _ 1 (.slice bA nV kA) nV (bc LV) from by have h := HTA.out; rw [HNV.out] at h; exact h)
    rw [HNV.out]
    go_wp2_with fail
    refine (decode_ok LV (vM id ⟨qn, qt, 1⟩) bA nV kA _ (rowB_own HTA.out).1 (rowB_own HTA.out).2 (by have := HDV.out.2; omega) HDV.out.1).mono ?_; rintro e w12 ⟨v, rfl, ho, -, hb⟩
    replace HB := Lib.hid (HB.out.trans (hb.mono HB.out.size))
    replace HQ := Lib.hid (HQ.out.below hb)
    replace HTA := Lib.hid (own_below' HTA.out hb)
    clear hb
    obtain ⟨qa, ql, qc, na, nl, nc, sa, sl, sc, xa, xl, xc, rfl, hp⟩ := MsgAt.parts (mi := id) (mo := 0) (mr := 0) (b1 := true) (b2 := false) (b3 := false) (b4 := false) (b5 := true) (Q := [⟨qn, qt, 1⟩]) (A := []) (N := []) (X := [putR (optW 1)]) ho.at
    have HP := Lib.hid hp
    obtain ⟨⟨l1, l2, l3, l4⟩, hrq, -⟩ := hp.lens
    replace l1 : ql = 1 := l1.symm
    subst l1
    clear ho l2 l3 l4
    clear HTA
    have HRQ := Lib.hid hrq
    clear hrq hp
    have hba := (Below.refl _ _ : Below w12.heap.size w12 w12).alloc (Nat.le_refl _) (.cells #[.int .i64 id, .int .i64 0, .int .i64 0, .bool true, .bool false, .bool false, .bool false, .bool true, .slice qa 1 qc, .slice na nl nc, .slice sa sl sc, .slice xa xl xc] 37)
    have HM := Lib.hid (CN.new w12 #[.int .i64 id, .int .i64 0, .int .i64 0, .bool true, .bool false, .bool false, .bool false, .bool true, .slice qa 1 qc, .slice na nl nc, .slice sa sl sc, .slice xa xl xc] 37)
    replace HB := Lib.hid (HB.out.trans (hba.mono HB.out.size))
    replace HQ := Lib.hid (HQ.out.below hba)
    replace HP := Lib.hid (HP.out.below hba)
    replace HRQ := Lib.hid (HRQ.out.below hba)
    obtain ⟨w13, hw⟩ : ∃ x, w12.alloc (.cells #[.int .i64 id, .int .i64 0, .int .i64 0, .bool true, .bool false, .bool false, .bool false, .bool true, .slice qa 1 qc, .slice na nl nc, .slice sa sl sc, .slice xa xl xc] 37) = x := ⟨_, rfl⟩
    obtain ⟨q13, hq⟩ : ∃ x, w12.heap.size = x := ⟨_, rfl⟩
    rw [hw, hq] at HM
    rw [hw] at HB HQ HP HRQ
    have HW := Lib.hid hw
    have HQ_ := Lib.hid hq
    clear hba hw hq
    go_upto_region 13 with (fail)
    rw [HW.out, HQ_.out]
    clear HW HQ_
    obtain ⟨y0, y1, y2, y3, y4, y5, y6, y7, y8, y9, y10, y11, f0, f1, f2, f3, f4, f5, f6, f7, f8, f9, f10, f11⟩ := HM.out.u12
    go_wp2_with fail
    refine (getM_is _ (vM id ⟨qn, qt, 1⟩) _ 1232 0 1 false ⟨#[]⟩ true 0 HP.out (by show (1 : Nat) ≤ 100000; decide) (getO_put (show putE (optW 1) = 0 from rfl))).mono ?_; rintro e w14 ⟨rfl, hb⟩
    replace HB := Lib.hid (HB.out.trans (hb.mono HB.out.size))
    replace HQ := Lib.hid (HQ.out.below hb)
    replace HP := Lib.hid (HP.out.below hb)
    replace HRQ := Lib.hid (HRQ.out.below hb)
    replace HM := Lib.hid (HM.out.below hb)
    clear hb
    clear y0 y1 y2 y3 y4 y5 y6 y7 y8 y9 y10 y11 f0 f1 f2 f3 f4 f5 f6 f7 f8 f9 f10 f11
    have hba := (Below.refl _ _ : Below w14.heap.size w14 w14).alloc (Nat.le_refl _) (.cells #[.int .i64 1232, .int .i64 0, .int .i64 1, .bool false, .string ⟨#[]⟩] 42)
    have HO5 := Lib.hid (CN.new w14 #[.int .i64 1232, .int .i64 0, .int .i64 1, .bool false, .string ⟨#[]⟩] 42)
    replace HB := Lib.hid (HB.out.trans (hba.mono HB.out.size))
    replace HQ := Lib.hid (HQ.out.below hba)
    replace HP := Lib.hid (HP.out.below hba)
    replace HRQ := Lib.hid (HRQ.out.below hba)
    replace HM := Lib.hid (HM.out.below hba)
    obtain ⟨w15, hw⟩ : ∃ x, w14.alloc (.cells #[.int .i64 1232, .int .i64 0, .int .i64 1, .bool false, .string ⟨#[]⟩] 42) = x := ⟨_, rfl⟩
    obtain ⟨q15, hq⟩ : ∃ x, w14.heap.size = x := ⟨_, rfl⟩
    rw [hw, hq] at HO5
    rw [hw] at HB HQ HP HRQ HM
    have HW := Lib.hid hw
    have HQ_ := Lib.hid hq
    clear hba hw hq
    go_upto_region 14 with (fail)
    rw [HW.out, HQ_.out]
    clear HW HQ_
    obtain ⟨bq, oq, r, rfl, hbl, hr2, c0, c1, c2⟩ := HRQ.out.at 0 (by decide)
    obtain rfl : ⟨qn, qt, 1⟩ = r := by simpa using hr2
    replace c0 : w15.cell? ⟨bq, oq, none⟩ = some (.string qn) := by simpa using c0
    replace c1 : w15.cell? ⟨bq, oq + 1, none⟩ = some (.int .i64 qt) := by simpa using c1
    replace c2 : w15.cell? ⟨bq, oq + 2, none⟩ = some (.int .i64 1) := by simpa using c2
    have HXQ := Lib.hid (fun wx (hx : Below w15.heap.size w15 wx) => (⟨cell_bel hx c0, cell_bel hx c1, cell_bel hx c2⟩ : wx.cell? ⟨bq, oq, none⟩ = some (.string qn) ∧ wx.cell? ⟨bq, oq + 1, none⟩ = some (.int .i64 qt) ∧ wx.cell? ⟨bq, oq + 2, none⟩ = some (.int .i64 1)))
    clear hr2 hbl c0 c1 c2
    have eI : (id == id) = true := beq_self_eq_true id
    have hke := qst_refl qn qt 1
    refine wp_region_held_drew (S := (fun wx => Below w15.heap.size w15 wx)) (by kernel_rfl) ((Below.refl w15.heap.size w15).drew) (fun hHeld => ?_)
    refine wpAnyH_ready (rs := [0]) (by kernel_rfl) (by simp) ?_
    refine AllReadyH.cons (o := { dst := some 115, op := Go.Op.call { callee := Go.Callee.value (Go.Operand.func 7), args := #[], argTypes := #[] }, type := 4, pos := "more.go:28", after := #[], guard := none }) rfl (fun K hK => ?_) AllReadyH.nil
    go_simp
    refine (first22 _).mono ?_; rintro e wt0 ⟨rfl, hb⟩
    go_wp2_with fail
    refine hK.out _ _ (hHeld.trans (hb.mono hHeld.size)) (fun hHeld2 => ?_)
    clear hK K hHeld
    have hHeld := hHeld2
    clear hHeld2
    try simp only [Act.put, List.setIfInBounds_toArray, List.set_cons_zero, List.set_cons_succ]
    refine wpAnyH_take (i := 1) (oi := { dst := some 116, op := Go.Op.move (Go.Operand.tmp 115), type := 4, pos := "more.go:28", after := #[{ on := 0, ground := Go.Ground.data }, { on := 0, ground := Go.Ground.chain }], guard := none }) (v := ?v1_710102) rfl (by kernel_rfl) (by kernel_rfl) (by kernel_rfl) (fun _ _ _ h => h) (Or.inl ⟨by rfl, ?y1_710102⟩) hHeld ?r1_710102
    case y1_710102 => intro w hSw; (try dsimp only at hSw); go_simp; try with_reducible rfl
    try simp only [Act.put, List.setIfInBounds_toArray, List.set_cons_zero, List.set_cons_succ]
    refine wpAnyH_take (i := 2) (oi := { dst := some 117, op := Go.Op.move (Go.Operand.tmp 15), type := 4, pos := "more.go:28", after := #[{ on := 1, ground := Go.Ground.guard }], guard := some (1, true) }) (v := ?v2_710102) rfl (by kernel_rfl) (by kernel_rfl) (by kernel_rfl) (fun _ _ _ h => h) (Or.inl ⟨by rfl, ?y2_710102⟩) hHeld ?r2_710102
    case y2_710102 => intro w hSw; (try dsimp only at hSw); go_simp; try with_reducible rfl
    try simp only [Act.put, List.setIfInBounds_toArray, List.set_cons_zero, List.set_cons_succ]
    refine wpAnyH_take (i := 3) (oi := { dst := some 118, op := Go.Op.unOp Go.UnOp.not 4 (Go.Operand.tmp 117), type := 4, pos := "more.go:28", after := #[{ on := 2, ground := Go.Ground.data }, { on := 1, ground := Go.Ground.guard }], guard := some (1, true) }) (v := ?v3_710102) rfl (by kernel_rfl) (by kernel_rfl) (by kernel_rfl) (fun _ _ _ h => h) (Or.inl ⟨by rfl, ?y3_710102⟩) hHeld ?r3_710102
    case y3_710102 => intro w hSw; (try dsimp only at hSw); go_simp; try with_reducible rfl
    try simp only [Act.put, List.setIfInBounds_toArray, List.set_cons_zero, List.set_cons_succ]
    refine wpAnyH_take (i := 4) (oi := { dst := some 119, op := Go.Op.pick (Go.Operand.tmp 116) (Go.Operand.tmp 118) (Go.Operand.const (Go.Value.bool false)), type := 4, pos := "more.go:28", after := #[{ on := 1, ground := Go.Ground.data }, { on := 3, ground := Go.Ground.data }], guard := none }) (v := ?v4_710102) rfl (by kernel_rfl) (by kernel_rfl) (by kernel_rfl) (fun _ _ _ h => h) (Or.inl ⟨by rfl, ?y4_710102⟩) hHeld ?r4_710102
    case y4_710102 => intro w hSw; (try dsimp only at hSw); go_simp; try with_reducible rfl
    try simp only [Act.put, List.setIfInBounds_toArray, List.set_cons_zero, List.set_cons_succ]
    refine wpAnyH_take (i := 5) (oi := { dst := some 120, op := Go.Op.move (Go.Operand.tmp 119), type := 4, pos := "more.go:28", after := #[{ on := 4, ground := Go.Ground.data }, { on := 1, ground := Go.Ground.chain }], guard := none }) (v := ?v5_710102) rfl (by kernel_rfl) (by kernel_rfl) (by kernel_rfl) (fun _ _ _ h => h) (Or.inl ⟨by rfl, ?y5_710102⟩) hHeld ?r5_710102
    case y5_710102 => intro w hSw; (try dsimp only at hSw); go_simp; try with_reducible rfl
    try simp only [Act.put, List.setIfInBounds_toArray, List.set_cons_zero, List.set_cons_succ]
    refine wpAnyH_take (i := 6) (oi := { dst := some 121, op := Go.Op.move (Go.Operand.tmp 18), type := 4, pos := "more.go:28", after := #[{ on := 5, ground := Go.Ground.guard }], guard := some (5, true) }) (v := ?v6_710102) rfl (by kernel_rfl) (by kernel_rfl) (by kernel_rfl) (fun _ _ _ h => h) (Or.inl ⟨by rfl, ?y6_710102⟩) hHeld ?r6_710102
    case y6_710102 => intro w hSw; (try dsimp only at hSw); go_simp; try with_reducible rfl
    try simp only [Act.put, List.setIfInBounds_toArray, List.set_cons_zero, List.set_cons_succ]
    refine wpAnyH_take (i := 7) (oi := { dst := some 122, op := Go.Op.unOp Go.UnOp.not 4 (Go.Operand.tmp 121), type := 4, pos := "more.go:28", after := #[{ on := 6, ground := Go.Ground.data }, { on := 5, ground := Go.Ground.guard }], guard := some (5, true) }) (v := ?v7_710102) rfl (by kernel_rfl) (by kernel_rfl) (by kernel_rfl) (fun _ _ _ h => h) (Or.inl ⟨by rfl, ?y7_710102⟩) hHeld ?r7_710102
    case y7_710102 => intro w hSw; (try dsimp only at hSw); go_simp; try with_reducible rfl
    try simp only [Act.put, List.setIfInBounds_toArray, List.set_cons_zero, List.set_cons_succ]
    refine wpAnyH_take (i := 8) (oi := { dst := some 123, op := Go.Op.pick (Go.Operand.tmp 120) (Go.Operand.tmp 122) (Go.Operand.const (Go.Value.bool false)), type := 4, pos := "more.go:28", after := #[{ on := 5, ground := Go.Ground.data }, { on := 7, ground := Go.Ground.data }], guard := none }) (v := ?v8_710102) rfl (by kernel_rfl) (by kernel_rfl) (by kernel_rfl) (fun _ _ _ h => h) (Or.inl ⟨by rfl, ?y8_710102⟩) hHeld ?r8_710102
    case y8_710102 => intro w hSw; (try dsimp only at hSw); go_simp; try with_reducible rfl
    try simp only [Act.put, List.setIfInBounds_toArray, List.set_cons_zero, List.set_cons_succ]
    refine wpAnyH_take (i := 9) (oi := { dst := some 124, op := Go.Op.move (Go.Operand.tmp 123), type := 4, pos := "more.go:28", after := #[{ on := 8, ground := Go.Ground.data }, { on := 5, ground := Go.Ground.chain }], guard := none }) (v := ?v9_710102) rfl (by kernel_rfl) (by kernel_rfl) (by kernel_rfl) (fun _ _ _ h => h) (Or.inl ⟨by rfl, ?y9_710102⟩) hHeld ?r9_710102
    case y9_710102 => intro w hSw; (try dsimp only at hSw); go_simp; try with_reducible rfl
    try simp only [Act.put, List.setIfInBounds_toArray, List.set_cons_zero, List.set_cons_succ]
    refine wpAnyH_take (i := 10) (oi := { dst := some 125, op := Go.Op.move (Go.Operand.tmp 20), type := 38, pos := "more.go:28", after := #[{ on := 9, ground := Go.Ground.guard }], guard := some (9, true) }) (v := ?v10_710102) rfl (by kernel_rfl) (by kernel_rfl) (by kernel_rfl) (fun _ _ _ h => h) (Or.inl ⟨by rfl, ?y10_710102⟩) hHeld ?r10_710102
    case y10_710102 => intro w hSw; (try dsimp only at hSw); go_simp; try with_reducible rfl
    try simp only [Act.put, List.setIfInBounds_toArray, List.set_cons_zero, List.set_cons_succ]
    refine wpAnyH_take (i := 11) (oi := { dst := some 126, op := Go.Op.binOp Go.BinOp.eql 38 (Go.Operand.tmp 125) (Go.Operand.const (Go.Value.int Go.IntKind.i64 0)) 38, type := 4, pos := "more.go:28", after := #[{ on := 10, ground := Go.Ground.data }, { on := 9, ground := Go.Ground.guard }], guard := some (9, true) }) (v := ?v11_710102) rfl (by kernel_rfl) (by kernel_rfl) (by kernel_rfl) (fun _ _ _ h => h) (Or.inl ⟨by rfl, ?y11_710102⟩) hHeld ?r11_710102
    case y11_710102 => intro w hSw; (try dsimp only at hSw); go_simp; try with_reducible rfl
    try simp only [Act.put, List.setIfInBounds_toArray, List.set_cons_zero, List.set_cons_succ]
    refine wpAnyH_take (i := 12) (oi := { dst := some 127, op := Go.Op.pick (Go.Operand.tmp 124) (Go.Operand.tmp 126) (Go.Operand.const (Go.Value.bool false)), type := 4, pos := "more.go:28", after := #[{ on := 9, ground := Go.Ground.data }, { on := 11, ground := Go.Ground.data }], guard := none }) (v := ?v12_710102) rfl (by kernel_rfl) (by kernel_rfl) (by kernel_rfl) (fun _ _ _ h => h) (Or.inl ⟨by rfl, ?y12_710102⟩) hHeld ?r12_710102
    case y12_710102 => intro w hSw; (try dsimp only at hSw); go_simp; try with_reducible rfl
    try simp only [Act.put, List.setIfInBounds_toArray, List.set_cons_zero, List.set_cons_succ]
    refine wpAnyH_take (i := 13) (oi := { dst := some 128, op := Go.Op.move (Go.Operand.tmp 127), type := 4, pos := "more.go:28", after := #[{ on := 12, ground := Go.Ground.data }, { on := 9, ground := Go.Ground.chain }], guard := none }) (v := ?v13_710102) rfl (by kernel_rfl) (by kernel_rfl) (by kernel_rfl) (fun _ _ _ h => h) (Or.inl ⟨by rfl, ?y13_710102⟩) hHeld ?r13_710102
    case y13_710102 => intro w hSw; (try dsimp only at hSw); go_simp; try with_reducible rfl
    try simp only [Act.put, List.setIfInBounds_toArray, List.set_cons_zero, List.set_cons_succ]
    refine wpAnyH_take (i := 14) (oi := { dst := some 129, op := Go.Op.move (Go.Operand.tmp 22), type := 4, pos := "more.go:28", after := #[{ on := 13, ground := Go.Ground.guard }], guard := some (13, true) }) (v := ?v14_710102) rfl (by kernel_rfl) (by kernel_rfl) (by kernel_rfl) (fun _ _ _ h => h) (Or.inl ⟨by rfl, ?y14_710102⟩) hHeld ?r14_710102
    case y14_710102 => intro w hSw; (try dsimp only at hSw); go_simp; try with_reducible rfl
    try simp only [Act.put, List.setIfInBounds_toArray, List.set_cons_zero, List.set_cons_succ]
    refine wpAnyH_take (i := 15) (oi := { dst := some 130, op := Go.Op.pick (Go.Operand.tmp 128) (Go.Operand.tmp 129) (Go.Operand.const (Go.Value.bool false)), type := 4, pos := "more.go:28", after := #[{ on := 13, ground := Go.Ground.data }, { on := 14, ground := Go.Ground.data }], guard := none }) (v := ?v15_710102) rfl (by kernel_rfl) (by kernel_rfl) (by kernel_rfl) (fun _ _ _ h => h) (Or.inl ⟨by rfl, ?y15_710102⟩) hHeld ?r15_710102
    case y15_710102 => intro w hSw; (try dsimp only at hSw); go_simp; try with_reducible rfl
    try simp only [Act.put, List.setIfInBounds_toArray, List.set_cons_zero, List.set_cons_succ]
    refine wpAnyH_take (i := 16) (oi := { dst := some 131, op := Go.Op.move (Go.Operand.tmp 130), type := 4, pos := "more.go:28", after := #[{ on := 15, ground := Go.Ground.data }, { on := 13, ground := Go.Ground.chain }], guard := none }) (v := ?v16_710102) rfl (by kernel_rfl) (by kernel_rfl) (by kernel_rfl) (fun _ _ _ h => h) (Or.inl ⟨by rfl, ?y16_710102⟩) hHeld ?r16_710102
    case y16_710102 => intro w hSw; (try dsimp only at hSw); go_simp; try with_reducible rfl
    try simp only [Act.put, List.setIfInBounds_toArray, List.set_cons_zero, List.set_cons_succ]
    refine wpAnyH_take (i := 17) (oi := { dst := some 132, op := Go.Op.move (Go.Operand.tmp 23), type := 38, pos := "more.go:28", after := #[{ on := 16, ground := Go.Ground.guard }], guard := some (16, true) }) (v := ?v17_710102) rfl (by kernel_rfl) (by kernel_rfl) (by kernel_rfl) (fun _ _ _ h => h) (Or.inl ⟨by rfl, ?y17_710102⟩) hHeld ?r17_710102
    case y17_710102 => intro w hSw; (try dsimp only at hSw); go_simp; try with_reducible rfl
    try simp only [Act.put, List.setIfInBounds_toArray, List.set_cons_zero, List.set_cons_succ]
    refine wpAnyH_take (i := 18) (oi := { dst := some 133, op := Go.Op.binOp Go.BinOp.eql 38 (Go.Operand.tmp 132) (Go.Operand.const (Go.Value.int Go.IntKind.i64 0)) 38, type := 4, pos := "more.go:28", after := #[{ on := 17, ground := Go.Ground.data }, { on := 16, ground := Go.Ground.guard }], guard := some (16, true) }) (v := ?v18_710102) rfl (by kernel_rfl) (by kernel_rfl) (by kernel_rfl) (fun _ _ _ h => h) (Or.inl ⟨by rfl, ?y18_710102⟩) hHeld ?r18_710102
    case y18_710102 => intro w hSw; (try dsimp only at hSw); go_simp; try with_reducible rfl
    try simp only [Act.put, List.setIfInBounds_toArray, List.set_cons_zero, List.set_cons_succ]
    refine wpAnyH_take (i := 19) (oi := { dst := some 134, op := Go.Op.pick (Go.Operand.tmp 131) (Go.Operand.tmp 133) (Go.Operand.const (Go.Value.bool false)), type := 4, pos := "more.go:28", after := #[{ on := 16, ground := Go.Ground.data }, { on := 18, ground := Go.Ground.data }], guard := none }) (v := ?v19_710102) rfl (by kernel_rfl) (by kernel_rfl) (by kernel_rfl) (fun _ _ _ h => h) (Or.inl ⟨by rfl, ?y19_710102⟩) hHeld ?r19_710102
    case y19_710102 => intro w hSw; (try dsimp only at hSw); go_simp; try with_reducible rfl
    try simp only [Act.put, List.setIfInBounds_toArray, List.set_cons_zero, List.set_cons_succ]
    refine wpAnyH_take (i := 20) (oi := { dst := some 135, op := Go.Op.move (Go.Operand.tmp 134), type := 4, pos := "more.go:28", after := #[{ on := 19, ground := Go.Ground.data }, { on := 16, ground := Go.Ground.chain }], guard := none }) (v := ?v20_710102) rfl (by kernel_rfl) (by kernel_rfl) (by kernel_rfl) (fun _ _ _ h => h) (Or.inl ⟨by rfl, ?y20_710102⟩) hHeld ?r20_710102
    case y20_710102 => intro w hSw; (try dsimp only at hSw); go_simp; try with_reducible rfl
    try simp only [Act.put, List.setIfInBounds_toArray, List.set_cons_zero, List.set_cons_succ]
    refine wpAnyH_take (i := 21) (oi := { dst := some 136, op := Go.Op.fieldAddr 42 (Go.Operand.tmp 21) 2, type := 0, pos := "more.go:28", after := #[{ on := 20, ground := Go.Ground.guard }], guard := some (20, true) }) (v := ?v21_710102) rfl (by kernel_rfl) (by kernel_rfl) (by kernel_rfl) (fun _ _ _ h => h) (Or.inl ⟨by rfl, ?y21_710102⟩) hHeld ?r21_710102
    case y21_710102 => intro w hSw; (try dsimp only at hSw); go_simp; try with_reducible rfl
    try simp only [Act.put, List.setIfInBounds_toArray, List.set_cons_zero, List.set_cons_succ]
    refine wpAnyH_take (i := 22) (oi := { dst := some 137, op := Go.Op.load 3 (Go.Operand.tmp 136), type := 3, pos := "more.go:28", after := #[{ on := 21, ground := Go.Ground.data }, { on := 20, ground := Go.Ground.guard }], guard := some (20, true) }) (v := ?v22_710102) rfl (by kernel_rfl) (by kernel_rfl) (by kernel_rfl) (fun _ _ _ h => h) (Or.inl ⟨by rfl, ?y22_710102⟩) hHeld ?r22_710102
    case y22_710102 => intro w hSw; (try dsimp only at hSw); obtain ⟨o0, o1, o2, o3, o4, _⟩ := (HO5.out.below hSw).u5; go_simp; try with_reducible rfl
    try simp only [Act.put, List.setIfInBounds_toArray, List.set_cons_zero, List.set_cons_succ]
    refine wpAnyH_take (i := 23) (oi := { dst := some 138, op := Go.Op.binOp Go.BinOp.eql 3 (Go.Operand.tmp 137) (Go.Operand.const (Go.Value.int Go.IntKind.i64 1)) 3, type := 4, pos := "more.go:28", after := #[{ on := 22, ground := Go.Ground.data }, { on := 20, ground := Go.Ground.guard }], guard := some (20, true) }) (v := ?v23_710102) rfl (by kernel_rfl) (by kernel_rfl) (by kernel_rfl) (fun _ _ _ h => h) (Or.inl ⟨by rfl, ?y23_710102⟩) hHeld ?r23_710102
    case y23_710102 => intro w hSw; (try dsimp only at hSw); go_simp; try with_reducible rfl
    try simp only [Act.put, List.setIfInBounds_toArray, List.set_cons_zero, List.set_cons_succ]
    refine wpAnyH_take (i := 24) (oi := { dst := some 139, op := Go.Op.pick (Go.Operand.tmp 135) (Go.Operand.tmp 138) (Go.Operand.const (Go.Value.bool false)), type := 4, pos := "more.go:28", after := #[{ on := 20, ground := Go.Ground.data }, { on := 23, ground := Go.Ground.data }], guard := none }) (v := ?v24_710102) rfl (by kernel_rfl) (by kernel_rfl) (by kernel_rfl) (fun _ _ _ h => h) (Or.inl ⟨by rfl, ?y24_710102⟩) hHeld ?r24_710102
    case y24_710102 => intro w hSw; (try dsimp only at hSw); go_simp; try with_reducible rfl
    try simp only [Act.put, List.setIfInBounds_toArray, List.set_cons_zero, List.set_cons_succ]
    refine wpAnyH_take (i := 25) (oi := { dst := some 140, op := Go.Op.move (Go.Operand.tmp 139), type := 4, pos := "more.go:28", after := #[{ on := 24, ground := Go.Ground.data }, { on := 20, ground := Go.Ground.chain }], guard := none }) (v := ?v25_710102) rfl (by kernel_rfl) (by kernel_rfl) (by kernel_rfl) (fun _ _ _ h => h) (Or.inl ⟨by rfl, ?y25_710102⟩) hHeld ?r25_710102
    case y25_710102 => intro w hSw; (try dsimp only at hSw); go_simp; try with_reducible rfl
    try simp only [Act.put, List.setIfInBounds_toArray, List.set_cons_zero, List.set_cons_succ]
    refine wpAnyH_take (i := 26) (oi := { dst := some 141, op := Go.Op.fieldAddr 42 (Go.Operand.tmp 21) 1, type := 0, pos := "more.go:28", after := #[{ on := 25, ground := Go.Ground.guard }], guard := some (25, true) }) (v := ?v26_710102) rfl (by kernel_rfl) (by kernel_rfl) (by kernel_rfl) (fun _ _ _ h => h) (Or.inl ⟨by rfl, ?y26_710102⟩) hHeld ?r26_710102
    case y26_710102 => intro w hSw; (try dsimp only at hSw); go_simp; try with_reducible rfl
    try simp only [Act.put, List.setIfInBounds_toArray, List.set_cons_zero, List.set_cons_succ]
    refine wpAnyH_take (i := 27) (oi := { dst := some 142, op := Go.Op.load 3 (Go.Operand.tmp 141), type := 3, pos := "more.go:28", after := #[{ on := 26, ground := Go.Ground.data }, { on := 25, ground := Go.Ground.guard }], guard := some (25, true) }) (v := ?v27_710102) rfl (by kernel_rfl) (by kernel_rfl) (by kernel_rfl) (fun _ _ _ h => h) (Or.inl ⟨by rfl, ?y27_710102⟩) hHeld ?r27_710102
    case y27_710102 => intro w hSw; (try dsimp only at hSw); obtain ⟨o0, o1, o2, o3, o4, _⟩ := (HO5.out.below hSw).u5; go_simp; try with_reducible rfl
    try simp only [Act.put, List.setIfInBounds_toArray, List.set_cons_zero, List.set_cons_succ]
    refine wpAnyH_take (i := 28) (oi := { dst := some 143, op := Go.Op.binOp Go.BinOp.eql 3 (Go.Operand.tmp 142) (Go.Operand.const (Go.Value.int Go.IntKind.i64 0)) 3, type := 4, pos := "more.go:28", after := #[{ on := 27, ground := Go.Ground.data }, { on := 25, ground := Go.Ground.guard }], guard := some (25, true) }) (v := ?v28_710102) rfl (by kernel_rfl) (by kernel_rfl) (by kernel_rfl) (fun _ _ _ h => h) (Or.inl ⟨by rfl, ?y28_710102⟩) hHeld ?r28_710102
    case y28_710102 => intro w hSw; (try dsimp only at hSw); go_simp; try with_reducible rfl
    try simp only [Act.put, List.setIfInBounds_toArray, List.set_cons_zero, List.set_cons_succ]
    refine wpAnyH_take (i := 29) (oi := { dst := some 144, op := Go.Op.pick (Go.Operand.tmp 140) (Go.Operand.tmp 143) (Go.Operand.const (Go.Value.bool false)), type := 4, pos := "more.go:28", after := #[{ on := 25, ground := Go.Ground.data }, { on := 28, ground := Go.Ground.data }], guard := none }) (v := ?v29_710102) rfl (by kernel_rfl) (by kernel_rfl) (by kernel_rfl) (fun _ _ _ h => h) (Or.inl ⟨by rfl, ?y29_710102⟩) hHeld ?r29_710102
    case y29_710102 => intro w hSw; (try dsimp only at hSw); go_simp; try with_reducible rfl
    try simp only [Act.put, List.setIfInBounds_toArray, List.set_cons_zero, List.set_cons_succ]
    refine wpAnyH_take (i := 30) (oi := { dst := some 145, op := Go.Op.move (Go.Operand.tmp 144), type := 4, pos := "more.go:28", after := #[{ on := 29, ground := Go.Ground.data }, { on := 25, ground := Go.Ground.chain }], guard := none }) (v := ?v30_710102) rfl (by kernel_rfl) (by kernel_rfl) (by kernel_rfl) (fun _ _ _ h => h) (Or.inl ⟨by rfl, ?y30_710102⟩) hHeld ?r30_710102
    case y30_710102 => intro w hSw; (try dsimp only at hSw); go_simp; try with_reducible rfl
    try simp only [Act.put, List.setIfInBounds_toArray, List.set_cons_zero, List.set_cons_succ]
    refine wpAnyH_take (i := 31) (oi := { dst := some 146, op := Go.Op.fieldAddr 37 (Go.Operand.tmp 19) 0, type := 0, pos := "more.go:28", after := #[{ on := 30, ground := Go.Ground.guard }], guard := some (30, true) }) (v := ?v31_710102) rfl (by kernel_rfl) (by kernel_rfl) (by kernel_rfl) (fun _ _ _ h => h) (Or.inl ⟨by rfl, ?y31_710102⟩) hHeld ?r31_710102
    case y31_710102 => intro w hSw; (try dsimp only at hSw); go_simp; try with_reducible rfl
    try simp only [Act.put, List.setIfInBounds_toArray, List.set_cons_zero, List.set_cons_succ]
    refine wpAnyH_take (i := 32) (oi := { dst := some 147, op := Go.Op.fieldAddr 33 (Go.Operand.tmp 146) 2, type := 0, pos := "more.go:28", after := #[{ on := 31, ground := Go.Ground.data }, { on := 30, ground := Go.Ground.guard }], guard := some (30, true) }) (v := ?v32_710102) rfl (by kernel_rfl) (by kernel_rfl) (by kernel_rfl) (fun _ _ _ h => h) (Or.inl ⟨by rfl, ?y32_710102⟩) hHeld ?r32_710102
    case y32_710102 => intro w hSw; (try dsimp only at hSw); go_simp; try with_reducible rfl
    try simp only [Act.put, List.setIfInBounds_toArray, List.set_cons_zero, List.set_cons_succ]
    refine wpAnyH_take (i := 33) (oi := { dst := some 148, op := Go.Op.load 3 (Go.Operand.tmp 147), type := 3, pos := "more.go:28", after := #[{ on := 32, ground := Go.Ground.data }, { on := 30, ground := Go.Ground.guard }], guard := some (30, true) }) (v := ?v33_710102) rfl (by kernel_rfl) (by kernel_rfl) (by kernel_rfl) (fun _ _ _ h => h) (Or.inl ⟨by rfl, ?y33_710102⟩) hHeld ?r33_710102
    case y33_710102 => intro w hSw; (try dsimp only at hSw); obtain ⟨y0, y1, y2, y3, y4, y5, y6, y7, y8, y9, y10, y11, _⟩ := (HM.out.below hSw).u12; go_simp; try with_reducible rfl
    try simp only [Act.put, List.setIfInBounds_toArray, List.set_cons_zero, List.set_cons_succ]
    refine wpAnyH_take (i := 34) (oi := { dst := some 149, op := Go.Op.binOp Go.BinOp.eql 3 (Go.Operand.tmp 148) (Go.Operand.const (Go.Value.int Go.IntKind.i64 0)) 3, type := 4, pos := "more.go:28", after := #[{ on := 33, ground := Go.Ground.data }, { on := 30, ground := Go.Ground.guard }], guard := some (30, true) }) (v := ?v34_710102) rfl (by kernel_rfl) (by kernel_rfl) (by kernel_rfl) (fun _ _ _ h => h) (Or.inl ⟨by rfl, ?y34_710102⟩) hHeld ?r34_710102
    case y34_710102 => intro w hSw; (try dsimp only at hSw); go_simp; try with_reducible rfl
    try simp only [Act.put, List.setIfInBounds_toArray, List.set_cons_zero, List.set_cons_succ]
    refine wpAnyH_take (i := 35) (oi := { dst := some 150, op := Go.Op.pick (Go.Operand.tmp 145) (Go.Operand.tmp 149) (Go.Operand.const (Go.Value.bool false)), type := 4, pos := "more.go:28", after := #[{ on := 30, ground := Go.Ground.data }, { on := 34, ground := Go.Ground.data }], guard := none }) (v := ?v35_710102) rfl (by kernel_rfl) (by kernel_rfl) (by kernel_rfl) (fun _ _ _ h => h) (Or.inl ⟨by rfl, ?y35_710102⟩) hHeld ?r35_710102
    case y35_710102 => intro w hSw; (try dsimp only at hSw); go_simp; try with_reducible rfl
    try simp only [Act.put, List.setIfInBounds_toArray, List.set_cons_zero, List.set_cons_succ]
    refine wpAnyH_take (i := 36) (oi := { dst := some 151, op := Go.Op.move (Go.Operand.tmp 150), type := 4, pos := "more.go:28", after := #[{ on := 35, ground := Go.Ground.data }, { on := 30, ground := Go.Ground.chain }], guard := none }) (v := ?v36_710102) rfl (by kernel_rfl) (by kernel_rfl) (by kernel_rfl) (fun _ _ _ h => h) (Or.inl ⟨by rfl, ?y36_710102⟩) hHeld ?r36_710102
    case y36_710102 => intro w hSw; (try dsimp only at hSw); go_simp; try with_reducible rfl
    try simp only [Act.put, List.setIfInBounds_toArray, List.set_cons_zero, List.set_cons_succ]
    refine wpAnyH_take (i := 37) (oi := { dst := some 152, op := Go.Op.fieldAddr 37 (Go.Operand.tmp 19) 0, type := 0, pos := "more.go:28", after := #[{ on := 36, ground := Go.Ground.guard }], guard := some (36, true) }) (v := ?v37_710102) rfl (by kernel_rfl) (by kernel_rfl) (by kernel_rfl) (fun _ _ _ h => h) (Or.inl ⟨by rfl, ?y37_710102⟩) hHeld ?r37_710102
    case y37_710102 => intro w hSw; (try dsimp only at hSw); go_simp; try with_reducible rfl
    try simp only [Act.put, List.setIfInBounds_toArray, List.set_cons_zero, List.set_cons_succ]
    refine wpAnyH_take (i := 38) (oi := { dst := some 153, op := Go.Op.fieldAddr 33 (Go.Operand.tmp 152) 0, type := 0, pos := "more.go:28", after := #[{ on := 37, ground := Go.Ground.data }, { on := 36, ground := Go.Ground.guard }], guard := some (36, true) }) (v := ?v38_710102) rfl (by kernel_rfl) (by kernel_rfl) (by kernel_rfl) (fun _ _ _ h => h) (Or.inl ⟨by rfl, ?y38_710102⟩) hHeld ?r38_710102
    case y38_710102 => intro w hSw; (try dsimp only at hSw); go_simp; try with_reducible rfl
    try simp only [Act.put, List.setIfInBounds_toArray, List.set_cons_zero, List.set_cons_succ]
    refine wpAnyH_take (i := 39) (oi := { dst := some 154, op := Go.Op.load 3 (Go.Operand.tmp 153), type := 3, pos := "more.go:28", after := #[{ on := 38, ground := Go.Ground.data }, { on := 36, ground := Go.Ground.guard }], guard := some (36, true) }) (v := ?v39_710102) rfl (by kernel_rfl) (by kernel_rfl) (by kernel_rfl) (fun _ _ _ h => h) (Or.inl ⟨by rfl, ?y39_710102⟩) hHeld ?r39_710102
    case y39_710102 => intro w hSw; (try dsimp only at hSw); obtain ⟨y0, y1, y2, y3, y4, y5, y6, y7, y8, y9, y10, y11, _⟩ := (HM.out.below hSw).u12; go_simp; try with_reducible rfl
    try simp only [Act.put, List.setIfInBounds_toArray, List.set_cons_zero, List.set_cons_succ]
    refine wpAnyH_take (i := 40) (oi := { dst := some 155, op := Go.Op.move (Go.Operand.tmp 0), type := 3, pos := "more.go:28", after := #[{ on := 36, ground := Go.Ground.guard }], guard := some (36, true) }) (v := ?v40_710102) rfl (by kernel_rfl) (by kernel_rfl) (by kernel_rfl) (fun _ _ _ h => h) (Or.inl ⟨by rfl, ?y40_710102⟩) hHeld ?r40_710102
    case y40_710102 => intro w hSw; (try dsimp only at hSw); go_simp; try with_reducible rfl
    try simp only [Act.put, List.setIfInBounds_toArray, List.set_cons_zero, List.set_cons_succ]
    refine wpAnyH_take (i := 41) (oi := { dst := some 156, op := Go.Op.binOp Go.BinOp.eql 3 (Go.Operand.tmp 154) (Go.Operand.tmp 155) 3, type := 4, pos := "more.go:28", after := #[{ on := 39, ground := Go.Ground.data }, { on := 40, ground := Go.Ground.data }, { on := 36, ground := Go.Ground.guard }], guard := some (36, true) }) (v := ?v41_710102) rfl (by kernel_rfl) (by kernel_rfl) (by kernel_rfl) (fun _ _ _ h => h) (Or.inl ⟨by rfl, ?y41_710102⟩) hHeld ?r41_710102
    case y41_710102 => intro w hSw; (try dsimp only at hSw); go_simp; try with_reducible rfl
    try simp only [Act.put, List.setIfInBounds_toArray, List.set_cons_zero, List.set_cons_succ]
    refine wpAnyH_take (i := 42) (oi := { dst := some 157, op := Go.Op.pick (Go.Operand.tmp 151) (Go.Operand.tmp 156) (Go.Operand.const (Go.Value.bool false)), type := 4, pos := "more.go:28", after := #[{ on := 36, ground := Go.Ground.data }, { on := 41, ground := Go.Ground.data }], guard := none }) (v := ?v42_710102) rfl (by kernel_rfl) (by kernel_rfl) (by kernel_rfl) (fun _ _ _ h => h) (Or.inl ⟨by rfl, ?y42_710102⟩) hHeld ?r42_710102
    case y42_710102 => intro w hSw; (try dsimp only at hSw); go_simp; try with_reducible rfl
    try simp only [Act.put, List.setIfInBounds_toArray, List.set_cons_zero, List.set_cons_succ]
    refine wpAnyH_take (i := 43) (oi := { dst := some 158, op := Go.Op.move (Go.Operand.tmp 157), type := 4, pos := "more.go:28", after := #[{ on := 42, ground := Go.Ground.data }, { on := 36, ground := Go.Ground.chain }], guard := none }) (v := ?v43_710102) rfl (by kernel_rfl) (by kernel_rfl) (by kernel_rfl) (fun _ _ _ h => h) (Or.inl ⟨by rfl, ?y43_710102⟩) hHeld ?r43_710102
    case y43_710102 => intro w hSw; (try dsimp only at hSw); go_simp; try with_reducible rfl
    try simp only [Act.put, List.setIfInBounds_toArray, List.set_cons_zero, List.set_cons_succ]
    refine wpAnyH_take (i := 44) (oi := { dst := some 159, op := Go.Op.fieldAddr 37 (Go.Operand.tmp 19) 1, type := 0, pos := "more.go:28", after := #[{ on := 43, ground := Go.Ground.guard }], guard := some (43, true) }) (v := ?v44_710102) rfl (by kernel_rfl) (by kernel_rfl) (by kernel_rfl) (fun _ _ _ h => h) (Or.inl ⟨by rfl, ?y44_710102⟩) hHeld ?r44_710102
    case y44_710102 => intro w hSw; (try dsimp only at hSw); go_simp; try with_reducible rfl
    try simp only [Act.put, List.setIfInBounds_toArray, List.set_cons_zero, List.set_cons_succ]
    refine wpAnyH_take (i := 45) (oi := { dst := some 160, op := Go.Op.load 34 (Go.Operand.tmp 159), type := 34, pos := "more.go:28", after := #[{ on := 44, ground := Go.Ground.data }, { on := 43, ground := Go.Ground.guard }], guard := some (43, true) }) (v := ?v45_710102) rfl (by kernel_rfl) (by kernel_rfl) (by kernel_rfl) (fun _ _ _ h => h) (Or.inl ⟨by rfl, ?y45_710102⟩) hHeld ?r45_710102
    case y45_710102 => intro w hSw; (try dsimp only at hSw); obtain ⟨y0, y1, y2, y3, y4, y5, y6, y7, y8, y9, y10, y11, _⟩ := (HM.out.below hSw).u12; go_simp; try with_reducible rfl
    try simp only [Act.put, List.setIfInBounds_toArray, List.set_cons_zero, List.set_cons_succ]
    refine wpAnyH_take (i := 46) (oi := { dst := some 161, op := Go.Op.call { callee := Go.Callee.builtin Go.Builtin.len, args := #[Go.Operand.tmp 160], argTypes := #[34] }, type := 3, pos := "more.go:28", after := #[{ on := 45, ground := Go.Ground.data }, { on := 43, ground := Go.Ground.guard }], guard := some (43, true) }) (v := ?v46_710102) rfl (by kernel_rfl) (by kernel_rfl) (by kernel_rfl) (fun _ _ _ h => h) (Or.inl ⟨by rfl, ?y46_710102⟩) hHeld ?r46_710102
    case y46_710102 => intro w hSw; (try dsimp only at hSw); go_simp; try with_reducible rfl
    try simp only [Act.put, List.setIfInBounds_toArray, List.set_cons_zero, List.set_cons_succ]
    refine wpAnyH_take (i := 47) (oi := { dst := some 162, op := Go.Op.binOp Go.BinOp.eql 3 (Go.Operand.tmp 161) (Go.Operand.const (Go.Value.int Go.IntKind.i64 1)) 3, type := 4, pos := "more.go:28", after := #[{ on := 46, ground := Go.Ground.data }, { on := 43, ground := Go.Ground.guard }], guard := some (43, true) }) (v := ?v47_710102) rfl (by kernel_rfl) (by kernel_rfl) (by kernel_rfl) (fun _ _ _ h => h) (Or.inl ⟨by rfl, ?y47_710102⟩) hHeld ?r47_710102
    case y47_710102 => intro w hSw; (try dsimp only at hSw); go_simp; try with_reducible rfl
    try simp only [Act.put, List.setIfInBounds_toArray, List.set_cons_zero, List.set_cons_succ]
    refine wpAnyH_take (i := 48) (oi := { dst := some 163, op := Go.Op.pick (Go.Operand.tmp 158) (Go.Operand.tmp 162) (Go.Operand.const (Go.Value.bool false)), type := 4, pos := "more.go:28", after := #[{ on := 43, ground := Go.Ground.data }, { on := 47, ground := Go.Ground.data }], guard := none }) (v := ?v48_710102) rfl (by kernel_rfl) (by kernel_rfl) (by kernel_rfl) (fun _ _ _ h => h) (Or.inl ⟨by rfl, ?y48_710102⟩) hHeld ?r48_710102
    case y48_710102 => intro w hSw; (try dsimp only at hSw); go_simp; try with_reducible rfl
    try simp only [Act.put, List.setIfInBounds_toArray, List.set_cons_zero, List.set_cons_succ]
    refine wpAnyH_take (i := 49) (oi := { dst := some 164, op := Go.Op.move (Go.Operand.tmp 163), type := 4, pos := "more.go:28", after := #[{ on := 48, ground := Go.Ground.data }, { on := 43, ground := Go.Ground.chain }], guard := none }) (v := ?v49_710102) rfl (by kernel_rfl) (by kernel_rfl) (by kernel_rfl) (fun _ _ _ h => h) (Or.inl ⟨by rfl, ?y49_710102⟩) hHeld ?r49_710102
    case y49_710102 => intro w hSw; (try dsimp only at hSw); go_simp; try with_reducible rfl
    try simp only [Act.put, List.setIfInBounds_toArray, List.set_cons_zero, List.set_cons_succ]
    refine wpAnyH_take (i := 50) (oi := { dst := some 165, op := Go.Op.fieldAddr 37 (Go.Operand.tmp 19) 1, type := 0, pos := "more.go:28", after := #[{ on := 49, ground := Go.Ground.guard }], guard := some (49, true) }) (v := ?v50_710102) rfl (by kernel_rfl) (by kernel_rfl) (by kernel_rfl) (fun _ _ _ h => h) (Or.inl ⟨by rfl, ?y50_710102⟩) hHeld ?r50_710102
    case y50_710102 => intro w hSw; (try dsimp only at hSw); go_simp; try with_reducible rfl
    try simp only [Act.put, List.setIfInBounds_toArray, List.set_cons_zero, List.set_cons_succ]
    refine wpAnyH_take (i := 51) (oi := { dst := some 166, op := Go.Op.load 34 (Go.Operand.tmp 165), type := 34, pos := "more.go:28", after := #[{ on := 50, ground := Go.Ground.data }, { on := 49, ground := Go.Ground.guard }], guard := some (49, true) }) (v := ?v51_710102) rfl (by kernel_rfl) (by kernel_rfl) (by kernel_rfl) (fun _ _ _ h => h) (Or.inl ⟨by rfl, ?y51_710102⟩) hHeld ?r51_710102
    case y51_710102 => intro w hSw; (try dsimp only at hSw); obtain ⟨y0, y1, y2, y3, y4, y5, y6, y7, y8, y9, y10, y11, _⟩ := (HM.out.below hSw).u12; go_simp; try with_reducible rfl
    try simp only [Act.put, List.setIfInBounds_toArray, List.set_cons_zero, List.set_cons_succ]
    refine wpAnyH_take (i := 52) (oi := { dst := some 167, op := Go.Op.indexAddr 34 (Go.Operand.tmp 166) (Go.Operand.const (Go.Value.int Go.IntKind.i64 0)), type := 0, pos := "more.go:28", after := #[{ on := 51, ground := Go.Ground.data }, { on := 49, ground := Go.Ground.guard }], guard := some (49, true) }) (v := ?v52_710102) rfl (by kernel_rfl) (by kernel_rfl) (by kernel_rfl) (fun _ _ _ h => h) (Or.inl ⟨by rfl, ?y52_710102⟩) hHeld ?r52_710102
    case y52_710102 => intro w hSw; (try dsimp only at hSw); go_simp; try with_reducible rfl
    try simp only [Act.put, List.setIfInBounds_toArray, List.set_cons_zero, List.set_cons_succ]
    refine wpAnyH_take (i := 53) (oi := { dst := some 168, op := Go.Op.load 27 (Go.Operand.tmp 167), type := 27, pos := "more.go:28", after := #[{ on := 52, ground := Go.Ground.data }, { on := 49, ground := Go.Ground.guard }], guard := some (49, true) }) (v := ?v53_710102) rfl (by kernel_rfl) (by kernel_rfl) (by kernel_rfl) (fun _ _ _ h => h) (Or.inl ⟨by rfl, ?y53_710102⟩) hHeld ?r53_710102
    case y53_710102 => intro w hSw; (try dsimp only at hSw); obtain ⟨c0, c1, c2⟩ := HXQ.out w hSw; go_simp; try with_reducible rfl
    try simp only [Act.put, List.setIfInBounds_toArray, List.set_cons_zero, List.set_cons_succ]
    refine wpAnyH_take (i := 54) (oi := { dst := some 169, op := Go.Op.load 27 (Go.Operand.tmp 5), type := 27, pos := "more.go:28", after := #[{ on := 49, ground := Go.Ground.guard }], guard := some (49, true) }) (v := ?v54_710102) rfl (by kernel_rfl) (by kernel_rfl) (by kernel_rfl) (fun _ _ _ h => h) (Or.inl ⟨by rfl, ?y54_710102⟩) hHeld ?r54_710102
    case y54_710102 => intro w hSw; (try dsimp only at hSw); obtain ⟨p0, p1, p2, _⟩ := (HQ.out.below hSw).v3; go_simp; try with_reducible rfl
    try simp only [Act.put, List.setIfInBounds_toArray, List.set_cons_zero, List.set_cons_succ]
    refine wpAnyH_take (i := 55) (oi := { dst := some 170, op := Go.Op.binOp Go.BinOp.eql 27 (Go.Operand.tmp 168) (Go.Operand.tmp 169) 27, type := 4, pos := "more.go:28", after := #[{ on := 53, ground := Go.Ground.data }, { on := 54, ground := Go.Ground.data }, { on := 49, ground := Go.Ground.guard }], guard := some (49, true) }) (v := ?v55_710102) rfl (by kernel_rfl) (by kernel_rfl) (by kernel_rfl) (fun _ _ _ h => h) (Or.inl ⟨by rfl, ?y55_710102⟩) hHeld ?r55_710102
    case y55_710102 => intro w hSw; (try dsimp only at hSw); go_simp; try with_reducible rfl
    try simp only [Act.put, List.setIfInBounds_toArray, List.set_cons_zero, List.set_cons_succ]
    refine wpAnyH_take (i := 56) (oi := { dst := some 171, op := Go.Op.pick (Go.Operand.tmp 164) (Go.Operand.tmp 170) (Go.Operand.const (Go.Value.bool false)), type := 4, pos := "more.go:28", after := #[{ on := 49, ground := Go.Ground.data }, { on := 55, ground := Go.Ground.data }], guard := none }) (v := ?v56_710102) rfl (by kernel_rfl) (by kernel_rfl) (by kernel_rfl) (fun _ _ _ h => h) (Or.inl ⟨by rfl, ?y56_710102⟩) hHeld ?r56_710102
    case y56_710102 => intro w hSw; (try dsimp only at hSw); go_simp; try with_reducible rfl
    try simp only [Act.put, List.setIfInBounds_toArray, List.set_cons_zero, List.set_cons_succ]
    refine wpAnyH_take (i := 57) (oi := { dst := some 8, op := Go.Op.assign (Go.Operand.tmp 171), type := 4, pos := "more.go:28", after := #[{ on := 56, ground := Go.Ground.data }, { on := 49, ground := Go.Ground.chain }, { on := 0, ground := Go.Ground.phase }, { on := 1, ground := Go.Ground.phase }, { on := 2, ground := Go.Ground.phase }, { on := 3, ground := Go.Ground.phase }, { on := 4, ground := Go.Ground.phase }, { on := 5, ground := Go.Ground.phase }, { on := 6, ground := Go.Ground.phase }, { on := 7, ground := Go.Ground.phase }, { on := 8, ground := Go.Ground.phase }, { on := 9, ground := Go.Ground.phase }, { on := 10, ground := Go.Ground.phase }, { on := 11, ground := Go.Ground.phase }, { on := 12, ground := Go.Ground.phase }, { on := 13, ground := Go.Ground.phase }, { on := 14, ground := Go.Ground.phase }, { on := 15, ground := Go.Ground.phase }, { on := 16, ground := Go.Ground.phase }, { on := 17, ground := Go.Ground.phase }, { on := 18, ground := Go.Ground.phase }, { on := 19, ground := Go.Ground.phase }, { on := 20, ground := Go.Ground.phase }, { on := 21, ground := Go.Ground.phase }, { on := 22, ground := Go.Ground.phase }, { on := 23, ground := Go.Ground.phase }, { on := 24, ground := Go.Ground.phase }, { on := 25, ground := Go.Ground.phase }, { on := 26, ground := Go.Ground.phase }, { on := 27, ground := Go.Ground.phase }, { on := 28, ground := Go.Ground.phase }, { on := 29, ground := Go.Ground.phase }, { on := 30, ground := Go.Ground.phase }, { on := 31, ground := Go.Ground.phase }, { on := 32, ground := Go.Ground.phase }, { on := 33, ground := Go.Ground.phase }, { on := 34, ground := Go.Ground.phase }, { on := 35, ground := Go.Ground.phase }, { on := 36, ground := Go.Ground.phase }, { on := 37, ground := Go.Ground.phase }, { on := 38, ground := Go.Ground.phase }, { on := 39, ground := Go.Ground.phase }, { on := 40, ground := Go.Ground.phase }, { on := 41, ground := Go.Ground.phase }, { on := 42, ground := Go.Ground.phase }, { on := 43, ground := Go.Ground.phase }, { on := 44, ground := Go.Ground.phase }, { on := 45, ground := Go.Ground.phase }, { on := 46, ground := Go.Ground.phase }, { on := 47, ground := Go.Ground.phase }, { on := 48, ground := Go.Ground.phase }, { on := 49, ground := Go.Ground.phase }, { on := 50, ground := Go.Ground.phase }, { on := 51, ground := Go.Ground.phase }, { on := 52, ground := Go.Ground.phase }, { on := 53, ground := Go.Ground.phase }, { on := 54, ground := Go.Ground.phase }, { on := 55, ground := Go.Ground.phase }, { on := 56, ground := Go.Ground.phase }], guard := none }) (v := ?v57_710102) rfl (by kernel_rfl) (by kernel_rfl) (by kernel_rfl) (fun _ _ _ h => h) (Or.inl ⟨by rfl, ?y57_710102⟩) hHeld ?r57_710102
    case y57_710102 => intro w hSw; (try dsimp only at hSw); go_simp; try with_reducible rfl
    try simp only [Act.put, List.setIfInBounds_toArray, List.set_cons_zero, List.set_cons_succ]
    refine wpAnyH_done (by kernel_rfl) ?_ _
    go_wp2
    go_ret
    exact ⟨rfl, HB.out.trans (hHeld.mono HB.out.size)⟩
  have d9 := dF gv
  have HGV := Lib.hid (show ¬ 0 < vr from gv)
  clear gv
  by_cases gr : qt = 0 ∨ qt = 252 ∨ qt = 255 ∨ qt = 41
  · have hrv := fun (t : Bool) => read_refuse (fr := ⟨#[99]⟩) (tcp := t) (id := id) (q := ⟨qn, qt, 1⟩) HPE.out HGV.out (askK_no gr)
    have hvk := fM_ok HEE.out
    have HRV := Lib.hid hrv
    have HDV := Lib.hid hvk
    clear hrv hvk
    have HGR := Lib.hid gr
    clear gr
    go_wp2_with fail
    refine (read_bad ⟨#[99]⟩ false aL nL cL LL (failL id 0 5 false [⟨qn, qt, 1⟩]) _ (rowB_own HV.out).1 (rowB_own HV.out).2 (by have := HZ.out; omega) (own_cap HV.out) ((HRO.out false).1.trans (HRV.out false))).mono ?_; rintro e w8 ⟨⟨v, rfl, ho⟩, hb⟩
    replace HB := Lib.hid (HB.out.trans (hb.mono HB.out.size))
    replace HQ := Lib.hid (HQ.out.below hb)
    replace HV := Lib.hid (own_below' HV.out hb)
    clear hb
    obtain ⟨bA, kA, rfl, -⟩ := cellsK_own ho
    have HTA := Lib.hid ho
    clear ho
    have hba := (Below.refl _ _ : Below w8.heap.size w8 w8).alloc (Nat.le_refl _) (.cells #[.string ⟨#[]⟩, .int .i64 0, .int .i64 0, .string ⟨#[]⟩, .int .i64 0, .int .i64 0, .bool false, .bool false, .bool false] 29)
    have HJA := Lib.hid (CN.new w8 #[.string ⟨#[]⟩, .int .i64 0, .int .i64 0, .string ⟨#[]⟩, .int .i64 0, .int .i64 0, .bool false, .bool false, .bool false] 29)
    replace HB := Lib.hid (HB.out.trans (hba.mono HB.out.size))
    replace HQ := Lib.hid (HQ.out.below hba)
    replace HV := Lib.hid (own_below' HV.out hba)
    replace HTA := Lib.hid (own_below' HTA.out hba)
    obtain ⟨w9, hw⟩ : ∃ x, w8.alloc (.cells #[.string ⟨#[]⟩, .int .i64 0, .int .i64 0, .string ⟨#[]⟩, .int .i64 0, .int .i64 0, .bool false, .bool false, .bool false] 29) = x := ⟨_, rfl⟩
    obtain ⟨q9, hq⟩ : ∃ x, w8.heap.size = x := ⟨_, rfl⟩
    rw [hw, hq] at HJA
    rw [hw] at HB HQ HV HTA
    have HW := Lib.hid hw
    have HQ_ := Lib.hid hq
    clear hba hw hq
    go_upto_region 10 with (fail)
    rw [HW.out, HQ_.out]
    clear HW HQ_
    go_wp2_with fail
    refine (read_bad ⟨#[99]⟩ true aL nL cL LL (failL id 0 5 false [⟨qn, qt, 1⟩]) _ (rowB_own HV.out).1 (rowB_own HV.out).2 (by have := HZ.out; omega) (own_cap HV.out) ((HRO.out true).1.trans (HRV.out true))).mono ?_; rintro e w10 ⟨⟨v, rfl, ho⟩, hb⟩
    replace HB := Lib.hid (HB.out.trans (hb.mono HB.out.size))
    replace HQ := Lib.hid (HQ.out.below hb)
    replace HV := Lib.hid (own_below' HV.out hb)
    replace HTA := Lib.hid (own_below' HTA.out hb)
    replace HJA := Lib.hid (HJA.out.below hb)
    clear hb
    obtain ⟨bB, kB, rfl, -⟩ := cellsK_own ho
    have HTB := Lib.hid ho
    clear ho
    have hba := (Below.refl _ _ : Below w10.heap.size w10 w10).alloc (Nat.le_refl _) (.cells #[.string ⟨#[]⟩, .int .i64 0, .int .i64 0, .string ⟨#[]⟩, .int .i64 0, .int .i64 0, .bool false, .bool false, .bool false] 29)
    have HJB := Lib.hid (CN.new w10 #[.string ⟨#[]⟩, .int .i64 0, .int .i64 0, .string ⟨#[]⟩, .int .i64 0, .int .i64 0, .bool false, .bool false, .bool false] 29)
    replace HB := Lib.hid (HB.out.trans (hba.mono HB.out.size))
    replace HQ := Lib.hid (HQ.out.below hba)
    replace HV := Lib.hid (own_below' HV.out hba)
    replace HTA := Lib.hid (own_below' HTA.out hba)
    replace HJA := Lib.hid (HJA.out.below hba)
    replace HTB := Lib.hid (own_below' HTB.out hba)
    obtain ⟨w11, hw⟩ : ∃ x, w10.alloc (.cells #[.string ⟨#[]⟩, .int .i64 0, .int .i64 0, .string ⟨#[]⟩, .int .i64 0, .int .i64 0, .bool false, .bool false, .bool false] 29) = x := ⟨_, rfl⟩
    obtain ⟨q11, hq⟩ : ∃ x, w10.heap.size = x := ⟨_, rfl⟩
    rw [hw, hq] at HJB
    rw [hw] at HB HQ HV HTA HJA HTB
    have HW := Lib.hid hw
    have HQ_ := Lib.hid hq
    clear hba hw hq
    go_upto_region 11 with (fail)
    rw [HW.out, HQ_.out]
    clear HW HQ_
    clear HV HTB HJA HJB
    obtain ⟨nV, hnV⟩ : ∃ x, (failL id 0 5 false [⟨qn, qt, 1⟩]).length = x := ⟨_, rfl⟩
    rw [hnV]
    have HNV := Lib.hid (show nV ≤ 16000 by rw [← hnV]; exact HDV.out.2)
    replace HTA := Lib.hid (show World.ownsRow _ _ _ 1 (.slice bA nV kA) nV (bc (failL id 0 5 false [⟨qn, qt, 1⟩])) from by have h := HTA.out; rw [hnV] at h; exact h)
    clear hnV
    obtain ⟨p0, p1, p2, _⟩ := HQ.out.v3
    go_upto_region 15 with (fail)
    have HPT := Lib.hid (show True from trivial)
    rcases HGR.out with h | h | h | h
    · subst h
      clear p0 p1 p2
      obtain ⟨p0, p1, p2, _⟩ := HQ.out.v3
      go_wp2_with fail
      refine (decode_ok (failL id 0 5 false [⟨qn, 0, 1⟩]) (failM id 0 5 false [⟨qn, 0, 1⟩]) bA nV kA _ (rowB_own HTA.out).1 (rowB_own HTA.out).2 (by have := HNV.out; omega) HDV.out.1).mono ?_; rintro e w12 ⟨v, rfl, ho, -, hb⟩
      replace HB := Lib.hid (HB.out.trans (hb.mono HB.out.size))
      replace HQ := Lib.hid (HQ.out.below hb)
      replace HTA := Lib.hid (own_below' HTA.out hb)
      clear hb
      clear p0 p1 p2
      obtain ⟨qa, ql, qc, na, nl, nc, sa, sl, sc, xa, xl, xc, rfl, hp⟩ := MsgAt.parts (mi := id) (mo := 0) (mr := 5) (b1 := true) (b2 := false) (b3 := false) (b4 := false) (b5 := true) (A := []) (N := []) (X := []) ho.at
      clear ho hp
      have hba := (Below.refl _ _ : Below w12.heap.size w12 w12).alloc (Nat.le_refl _) (.cells #[.int .i64 id, .int .i64 0, .int .i64 5, .bool true, .bool false, .bool false, .bool false, .bool true, .slice qa ql qc, .slice na nl nc, .slice sa sl sc, .slice xa xl xc] 37)
      have HM := Lib.hid (CN.new w12 #[.int .i64 id, .int .i64 0, .int .i64 5, .bool true, .bool false, .bool false, .bool false, .bool true, .slice qa ql qc, .slice na nl nc, .slice sa sl sc, .slice xa xl xc] 37)
      replace HB := Lib.hid (HB.out.trans (hba.mono HB.out.size))
      replace HQ := Lib.hid (HQ.out.below hba)
      replace HTA := Lib.hid (own_below' HTA.out hba)
      obtain ⟨w13, hw⟩ : ∃ x, w12.alloc (.cells #[.int .i64 id, .int .i64 0, .int .i64 5, .bool true, .bool false, .bool false, .bool false, .bool true, .slice qa ql qc, .slice na nl nc, .slice sa sl sc, .slice xa xl xc] 37) = x := ⟨_, rfl⟩
      obtain ⟨q13, hq⟩ : ∃ x, w12.heap.size = x := ⟨_, rfl⟩
      rw [hw, hq] at HM
      rw [hw] at HB HQ HTA
      have HW := Lib.hid hw
      have HQ_ := Lib.hid hq
      clear hba hw hq
      go_upto_region 17 with (fail)
      rw [HW.out, HQ_.out]
      clear HW HQ_
      have eI : (id == id) = true := beq_self_eq_true id
      go_wp2_with fail
      refine (first22 _).mono ?_; rintro e w14 ⟨rfl, hb⟩
      replace HB := Lib.hid (HB.out.trans (hb.mono HB.out.size))
      replace HQ := Lib.hid (HQ.out.below hb)
      replace HTA := Lib.hid (own_below' HTA.out hb)
      replace HM := Lib.hid (HM.out.below hb)
      clear hb
      obtain ⟨y0, y1, y2, y3, y4, y5, y6, y7, y8, y9, y10, y11, f0, f1, f2, f3, f4, f5, f6, f7, f8, f9, f10, f11⟩ := HM.out.u12
      go_wp2
      go_ret
      exact ⟨rfl, HB.out⟩
    · subst h
      clear p0 p1 p2
      obtain ⟨p0, p1, p2, _⟩ := HQ.out.v3
      go_wp2_with fail
      refine (decode_ok (failL id 0 5 false [⟨qn, 252, 1⟩]) (failM id 0 5 false [⟨qn, 252, 1⟩]) bA nV kA _ (rowB_own HTA.out).1 (rowB_own HTA.out).2 (by have := HNV.out; omega) HDV.out.1).mono ?_; rintro e w12 ⟨v, rfl, ho, -, hb⟩
      replace HB := Lib.hid (HB.out.trans (hb.mono HB.out.size))
      replace HQ := Lib.hid (HQ.out.below hb)
      replace HTA := Lib.hid (own_below' HTA.out hb)
      clear hb
      clear p0 p1 p2
      obtain ⟨qa, ql, qc, na, nl, nc, sa, sl, sc, xa, xl, xc, rfl, hp⟩ := MsgAt.parts (mi := id) (mo := 0) (mr := 5) (b1 := true) (b2 := false) (b3 := false) (b4 := false) (b5 := true) (A := []) (N := []) (X := []) ho.at
      clear ho hp
      have hba := (Below.refl _ _ : Below w12.heap.size w12 w12).alloc (Nat.le_refl _) (.cells #[.int .i64 id, .int .i64 0, .int .i64 5, .bool true, .bool false, .bool false, .bool false, .bool true, .slice qa ql qc, .slice na nl nc, .slice sa sl sc, .slice xa xl xc] 37)
      have HM := Lib.hid (CN.new w12 #[.int .i64 id, .int .i64 0, .int .i64 5, .bool true, .bool false, .bool false, .bool false, .bool true, .slice qa ql qc, .slice na nl nc, .slice sa sl sc, .slice xa xl xc] 37)
      replace HB := Lib.hid (HB.out.trans (hba.mono HB.out.size))
      replace HQ := Lib.hid (HQ.out.below hba)
      replace HTA := Lib.hid (own_below' HTA.out hba)
      obtain ⟨w13, hw⟩ : ∃ x, w12.alloc (.cells #[.int .i64 id, .int .i64 0, .int .i64 5, .bool true, .bool false, .bool false, .bool false, .bool true, .slice qa ql qc, .slice na nl nc, .slice sa sl sc, .slice xa xl xc] 37) = x := ⟨_, rfl⟩
      obtain ⟨q13, hq⟩ : ∃ x, w12.heap.size = x := ⟨_, rfl⟩
      rw [hw, hq] at HM
      rw [hw] at HB HQ HTA
      have HW := Lib.hid hw
      have HQ_ := Lib.hid hq
      clear hba hw hq
      go_upto_region 17 with (fail)
      rw [HW.out, HQ_.out]
      clear HW HQ_
      have eI : (id == id) = true := beq_self_eq_true id
      go_wp2_with fail
      refine (first22 _).mono ?_; rintro e w14 ⟨rfl, hb⟩
      replace HB := Lib.hid (HB.out.trans (hb.mono HB.out.size))
      replace HQ := Lib.hid (HQ.out.below hb)
      replace HTA := Lib.hid (own_below' HTA.out hb)
      replace HM := Lib.hid (HM.out.below hb)
      clear hb
      obtain ⟨y0, y1, y2, y3, y4, y5, y6, y7, y8, y9, y10, y11, f0, f1, f2, f3, f4, f5, f6, f7, f8, f9, f10, f11⟩ := HM.out.u12
      go_wp2
      go_ret
      exact ⟨rfl, HB.out⟩
    · subst h
      clear p0 p1 p2
      obtain ⟨p0, p1, p2, _⟩ := HQ.out.v3
      go_wp2_with fail
      refine (decode_ok (failL id 0 5 false [⟨qn, 255, 1⟩]) (failM id 0 5 false [⟨qn, 255, 1⟩]) bA nV kA _ (rowB_own HTA.out).1 (rowB_own HTA.out).2 (by have := HNV.out; omega) HDV.out.1).mono ?_; rintro e w12 ⟨v, rfl, ho, -, hb⟩
      replace HB := Lib.hid (HB.out.trans (hb.mono HB.out.size))
      replace HQ := Lib.hid (HQ.out.below hb)
      replace HTA := Lib.hid (own_below' HTA.out hb)
      clear hb
      clear p0 p1 p2
      obtain ⟨qa, ql, qc, na, nl, nc, sa, sl, sc, xa, xl, xc, rfl, hp⟩ := MsgAt.parts (mi := id) (mo := 0) (mr := 5) (b1 := true) (b2 := false) (b3 := false) (b4 := false) (b5 := true) (A := []) (N := []) (X := []) ho.at
      clear ho hp
      have hba := (Below.refl _ _ : Below w12.heap.size w12 w12).alloc (Nat.le_refl _) (.cells #[.int .i64 id, .int .i64 0, .int .i64 5, .bool true, .bool false, .bool false, .bool false, .bool true, .slice qa ql qc, .slice na nl nc, .slice sa sl sc, .slice xa xl xc] 37)
      have HM := Lib.hid (CN.new w12 #[.int .i64 id, .int .i64 0, .int .i64 5, .bool true, .bool false, .bool false, .bool false, .bool true, .slice qa ql qc, .slice na nl nc, .slice sa sl sc, .slice xa xl xc] 37)
      replace HB := Lib.hid (HB.out.trans (hba.mono HB.out.size))
      replace HQ := Lib.hid (HQ.out.below hba)
      replace HTA := Lib.hid (own_below' HTA.out hba)
      obtain ⟨w13, hw⟩ : ∃ x, w12.alloc (.cells #[.int .i64 id, .int .i64 0, .int .i64 5, .bool true, .bool false, .bool false, .bool false, .bool true, .slice qa ql qc, .slice na nl nc, .slice sa sl sc, .slice xa xl xc] 37) = x := ⟨_, rfl⟩
      obtain ⟨q13, hq⟩ : ∃ x, w12.heap.size = x := ⟨_, rfl⟩
      rw [hw, hq] at HM
      rw [hw] at HB HQ HTA
      have HW := Lib.hid hw
      have HQ_ := Lib.hid hq
      clear hba hw hq
      go_upto_region 17 with (fail)
      rw [HW.out, HQ_.out]
      clear HW HQ_
      have eI : (id == id) = true := beq_self_eq_true id
      go_wp2_with fail
      refine (first22 _).mono ?_; rintro e w14 ⟨rfl, hb⟩
      replace HB := Lib.hid (HB.out.trans (hb.mono HB.out.size))
      replace HQ := Lib.hid (HQ.out.below hb)
      replace HTA := Lib.hid (own_below' HTA.out hb)
      replace HM := Lib.hid (HM.out.below hb)
      clear hb
      obtain ⟨y0, y1, y2, y3, y4, y5, y6, y7, y8, y9, y10, y11, f0, f1, f2, f3, f4, f5, f6, f7, f8, f9, f10, f11⟩ := HM.out.u12
      go_wp2
      go_ret
      exact ⟨rfl, HB.out⟩
    · subst h
      clear p0 p1 p2
      obtain ⟨p0, p1, p2, _⟩ := HQ.out.v3
      go_wp2_with fail
      refine (decode_ok (failL id 0 5 false [⟨qn, 41, 1⟩]) (failM id 0 5 false [⟨qn, 41, 1⟩]) bA nV kA _ (rowB_own HTA.out).1 (rowB_own HTA.out).2 (by have := HNV.out; omega) HDV.out.1).mono ?_; rintro e w12 ⟨v, rfl, ho, -, hb⟩
      replace HB := Lib.hid (HB.out.trans (hb.mono HB.out.size))
      replace HQ := Lib.hid (HQ.out.below hb)
      replace HTA := Lib.hid (own_below' HTA.out hb)
      clear hb
      clear p0 p1 p2
      obtain ⟨qa, ql, qc, na, nl, nc, sa, sl, sc, xa, xl, xc, rfl, hp⟩ := MsgAt.parts (mi := id) (mo := 0) (mr := 5) (b1 := true) (b2 := false) (b3 := false) (b4 := false) (b5 := true) (A := []) (N := []) (X := []) ho.at
      clear ho hp
      have hba := (Below.refl _ _ : Below w12.heap.size w12 w12).alloc (Nat.le_refl _) (.cells #[.int .i64 id, .int .i64 0, .int .i64 5, .bool true, .bool false, .bool false, .bool false, .bool true, .slice qa ql qc, .slice na nl nc, .slice sa sl sc, .slice xa xl xc] 37)
      have HM := Lib.hid (CN.new w12 #[.int .i64 id, .int .i64 0, .int .i64 5, .bool true, .bool false, .bool false, .bool false, .bool true, .slice qa ql qc, .slice na nl nc, .slice sa sl sc, .slice xa xl xc] 37)
      replace HB := Lib.hid (HB.out.trans (hba.mono HB.out.size))
      replace HQ := Lib.hid (HQ.out.below hba)
      replace HTA := Lib.hid (own_below' HTA.out hba)
      obtain ⟨w13, hw⟩ : ∃ x, w12.alloc (.cells #[.int .i64 id, .int .i64 0, .int .i64 5, .bool true, .bool false, .bool false, .bool false, .bool true, .slice qa ql qc, .slice na nl nc, .slice sa sl sc, .slice xa xl xc] 37) = x := ⟨_, rfl⟩
      obtain ⟨q13, hq⟩ : ∃ x, w12.heap.size = x := ⟨_, rfl⟩
      rw [hw, hq] at HM
      rw [hw] at HB HQ HTA
      have HW := Lib.hid hw
      have HQ_ := Lib.hid hq
      clear hba hw hq
      go_upto_region 17 with (fail)
      rw [HW.out, HQ_.out]
      clear HW HQ_
      have eI : (id == id) = true := beq_self_eq_true id
      go_wp2_with fail
      refine (first22 _).mono ?_; rintro e w14 ⟨rfl, hb⟩
      replace HB := Lib.hid (HB.out.trans (hb.mono HB.out.size))
      replace HQ := Lib.hid (HQ.out.below hb)
      replace HTA := Lib.hid (own_below' HTA.out hb)
      replace HM := Lib.hid (HM.out.below hb)
      clear hb
      obtain ⟨y0, y1, y2, y3, y4, y5, y6, y7, y8, y9, y10, y11, f0, f1, f2, f3, f4, f5, f6, f7, f8, f9, f10, f11⟩ := HM.out.u12
      go_wp2
      go_ret
      exact ⟨rfl, HB.out⟩
  have hrv := fun (t : Bool) => (HRO.out t).1.trans (read_yes (fr := ⟨#[99]⟩) (tcp := t) (id := id) (q := ⟨qn, qt, 1⟩) HPE.out HGV.out (askK_yes rfl gr))
  obtain ⟨sx, hsx⟩ : ∃ x, min (max sz 512) 1232 = x := ⟨_, rfl⟩
  have HSX := Lib.hid hsx
  have HRYA := Lib.hid (show readO ⟨#[99]⟩ false (bs LL) = .inr ⟨⟨qn, qt, 1⟩, ⟨#[99]⟩, id, sx, false, true, false⟩ from by rw [← hsx]; exact hrv false)
  have HRYB := Lib.hid (show readO ⟨#[99]⟩ true (bs LL) = .inr ⟨⟨qn, qt, 1⟩, ⟨#[99]⟩, id, 16000, false, true, true⟩ from hrv true)
  have t1 : (qt == 0) = false := eF (fun h => gr (Or.inl h))
  have t2 : (qt == 252) = false := eF (fun h => gr (Or.inr (Or.inl h)))
  have t3 : (qt == 255) = false := eF (fun h => gr (Or.inr (Or.inr (Or.inl h))))
  have t4 : (qt == 41) = false := eF (fun h => gr (Or.inr (Or.inr (Or.inr h))))
  clear hrv gr hsx
  go_wp2_with fail
  refine (read_good ⟨#[99]⟩ false aL nL cL LL qn qt 1 ⟨#[99]⟩ id sx false true false _ (rowB_own HV.out).1 (rowB_own HV.out).2 (by have := HZ.out; omega) (own_cap HV.out) HRYA.out).mono ?_; rintro e w8 ⟨⟨v, rfl, ho⟩, hb⟩
  replace HB := Lib.hid (HB.out.trans (hb.mono HB.out.size))
  replace HQ := Lib.hid (HQ.out.below hb)
  replace HV := Lib.hid (own_below' HV.out hb)
  clear hb
  obtain ⟨bA, kA, rfl, -⟩ := cellsK_own ho
  have HTA := Lib.hid ho
  clear ho
  have hba := (Below.refl _ _ : Below w8.heap.size w8 w8).alloc (Nat.le_refl _) (.cells #[.string qn, .int .i64 qt, .int .i64 1, .string ⟨#[99]⟩, .int .i64 id, .int .i64 sx, .bool false, .bool true, .bool false] 29)
  have HJA := Lib.hid (CN.new w8 #[.string qn, .int .i64 qt, .int .i64 1, .string ⟨#[99]⟩, .int .i64 id, .int .i64 sx, .bool false, .bool true, .bool false] 29)
  replace HB := Lib.hid (HB.out.trans (hba.mono HB.out.size))
  replace HQ := Lib.hid (HQ.out.below hba)
  replace HV := Lib.hid (own_below' HV.out hba)
  replace HTA := Lib.hid (own_below' HTA.out hba)
  obtain ⟨w9, hw⟩ : ∃ x, w8.alloc (.cells #[.string qn, .int .i64 qt, .int .i64 1, .string ⟨#[99]⟩, .int .i64 id, .int .i64 sx, .bool false, .bool true, .bool false] 29) = x := ⟨_, rfl⟩
  obtain ⟨q9, hq⟩ : ∃ x, w8.heap.size = x := ⟨_, rfl⟩
  rw [hw, hq] at HJA
  rw [hw] at HB HQ HV HTA
  have HW := Lib.hid hw
  have HQ_ := Lib.hid hq
  clear hba hw hq
  go_upto_region 10 with (fail)
  rw [HW.out, HQ_.out]
  clear HW HQ_
  go_wp2_with fail
  refine (read_good ⟨#[99]⟩ true aL nL cL LL qn qt 1 ⟨#[99]⟩ id 16000 false true true _ (rowB_own HV.out).1 (rowB_own HV.out).2 (by have := HZ.out; omega) (own_cap HV.out) HRYB.out).mono ?_; rintro e w10 ⟨⟨v, rfl, ho⟩, hb⟩
  replace HB := Lib.hid (HB.out.trans (hb.mono HB.out.size))
  replace HQ := Lib.hid (HQ.out.below hb)
  replace HV := Lib.hid (own_below' HV.out hb)
  replace HTA := Lib.hid (own_below' HTA.out hb)
  replace HJA := Lib.hid (HJA.out.below hb)
  clear hb
  obtain ⟨bB, kB, rfl, -⟩ := cellsK_own ho
  have HTB := Lib.hid ho
  clear ho
  have hba := (Below.refl _ _ : Below w10.heap.size w10 w10).alloc (Nat.le_refl _) (.cells #[.string qn, .int .i64 qt, .int .i64 1, .string ⟨#[99]⟩, .int .i64 id, .int .i64 16000, .bool false, .bool true, .bool true] 29)
  have HJB := Lib.hid (CN.new w10 #[.string qn, .int .i64 qt, .int .i64 1, .string ⟨#[99]⟩, .int .i64 id, .int .i64 16000, .bool false, .bool true, .bool true] 29)
  replace HB := Lib.hid (HB.out.trans (hba.mono HB.out.size))
  replace HQ := Lib.hid (HQ.out.below hba)
  replace HV := Lib.hid (own_below' HV.out hba)
  replace HTA := Lib.hid (own_below' HTA.out hba)
  replace HJA := Lib.hid (HJA.out.below hba)
  replace HTB := Lib.hid (own_below' HTB.out hba)
  obtain ⟨w11, hw⟩ : ∃ x, w10.alloc (.cells #[.string qn, .int .i64 qt, .int .i64 1, .string ⟨#[99]⟩, .int .i64 id, .int .i64 16000, .bool false, .bool true, .bool true] 29) = x := ⟨_, rfl⟩
  obtain ⟨q11, hq⟩ : ∃ x, w10.heap.size = x := ⟨_, rfl⟩
  rw [hw, hq] at HJB
  rw [hw] at HB HQ HV HTA HJA HTB
  have HW := Lib.hid hw
  have HQ_ := Lib.hid hq
  clear hba hw hq
  go_upto_region 11 with (fail)
  rw [HW.out, HQ_.out]
  clear HW HQ_
  clear HV HTA HTB
  obtain ⟨p0, p1, p2, _⟩ := HQ.out.v3
  go_upto_region 18 with (fail)
  clear p0 p1 p2
  go_wp2_with fail
  refine (first22 _).mono ?_; rintro e w12 ⟨rfl, hb⟩
  replace HB := Lib.hid (HB.out.trans (hb.mono HB.out.size))
  replace HQ := Lib.hid (HQ.out.below hb)
  replace HJA := Lib.hid (HJA.out.below hb)
  replace HJB := Lib.hid (HJB.out.below hb)
  clear hb
  obtain ⟨p0, p1, p2, _⟩ := HQ.out.v3
  obtain ⟨x0, x1, x2, x3, x4, x5, x6, x7, x8, u0, u1, u2, u3, u4, u5, u6, u7, u8⟩ := HJA.out.v9
  obtain ⟨z0, z1, z2, z3, z4, z5, z6, z7, z8, v0, v1, v2, v3, v4, v5, v6, v7, v8⟩ := HJB.out.v9
  have eI : (id == id) = true := beq_self_eq_true id
  have hke := qst_refl qn qt 1
  have hmm := HSX.out
  have eS : (sx == sx) = true := beq_self_eq_true sx
  go_wp2
  go_ret
  exact ⟨rfl, HB.out⟩

end Go.Proofs.Ytgppkpdjpcegbaa
