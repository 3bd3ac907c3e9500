/- ShaCuts: the walk. -/
import Derived.Test.YtocfphijheidbaaShL
namespace Go.Proofs.Ytocfphijheidbaa
open Go.RowKit

set_option maxRecDepth 100000 in
set_option maxHeartbeats 8000000 in
theorem walkCuts (a : Option Addr) (n c : Nat) (bl : List UInt8) (cut : Int) (w : World) (hv : ValC w (.slice a n c) bl) (hn : n ≤ 9223372036854775807) :
    Calls Try.prog 5 #[.slice a n c, .int .i64 cut] w fun e w' => e = .returned (.bool true) ∧ Below w.heap.size w w' := by
  have HV := Lib.hid hv
  clear hv
  go_enter Try.func5, Try.ntmps5
  go_wp2_with fail
  refine (first8 _).mono ?_; rintro e w1 ⟨rfl, hb⟩
  have HB := Lib.hid hb
  replace HV := Lib.hid (HV.out.below hb)
  clear hb
  by_cases hbad : 3000 < n ∨ cut < 0 ∨ (n : Int) < cut
  · have hd : decide ((3000 : Int) < (n : Int)) = true ∨ decide ((3000 : Int) < (n : Int)) = false ∧ (decide (cut < 0) = true ∨ decide (cut < 0) = false ∧ decide ((n : Int) < cut) = true) := by
      simp only [decide_eq_true_eq, decide_eq_false_iff_not]; omega
    clear hbad
    rcases hd with d1 | ⟨d1, d2 | ⟨d2, d3⟩⟩
    all_goals
      go_wp2_with fail
      refine (first8 _).mono ?_; rintro e w2 ⟨rfl, hb⟩
      have HB2 := Lib.hid (HB.out.trans (hb.mono HB.out.size)); clear hb
      go_wp2
      go_ret
      exact ⟨rfl, HB2.out⟩
  have d1 : decide ((3000 : Int) < (n : Int)) = false := dF (by omega)
  have d2 : decide (cut < 0) = false := dF (by omega)
  have d3 : decide ((n : Int) < cut) = false := dF (by omega)
  obtain ⟨kk, rfl⟩ : ∃ kk : Nat, cut = (kk : Int) := ⟨cut.toNat, by omega⟩
  have d3' : decide (n < kk) = false := dF (by omega)
  have hkn : kk ≤ n := by omega
  have hn3 : n ≤ 3000 := by omega
  have hBL := HV.out.open.1
  have HBL := Lib.hid hBL
  obtain ⟨hs1, HH⟩ := HV.out.head kk hkn
  have HHD := Lib.hid HH
  obtain ⟨ad, hs2, HR, HG⟩ := HV.out.rest kk hkn
  have HRS := Lib.hid HR
  have HGS := Lib.hid HG
  obtain ⟨m2, hm2⟩ : ∃ x, n - kk = x := ⟨_, rfl⟩
  obtain ⟨c2, hc2⟩ : ∃ x, c - kk = x := ⟨_, rfl⟩
  have HM2 := Lib.hid hm2
  have HC2 := Lib.hid hc2
  rw [hm2, hc2] at hs2 HRS
  rw [hm2] at HGS
  clear HH HR HG hm2 hc2 hbad hBL
  go_wp2_with fail
  refine (new_any _).mono ?_; rintro e w2 ⟨q, rfl, hq, hs, hb⟩
  have HVF := Lib.hid (ValF.old HV.out hb hq)
  have HQ := Lib.hid (show w.heap.size ≤ q by have := HB.out.size; omega)
  replace HB := Lib.hid (HB.out.trans (hb.mono HB.out.size))
  have HS := Lib.hid hs
  clear hb hs hq HV
  have HVH := Lib.hid (HVF.out.head hkn (HHD.out _))
  have HVR := Lib.hid (ValF.rest (k := kk) HVF.out (by rw [HM2.out, HC2.out]; exact HRS.out _) (by rw [HM2.out]; exact HGS.out))
  rw [HM2.out, HC2.out] at HVR
  clear HHD HRS HGS HM2 HC2
  have HF := Lib.hid (FarC.lit HVH.out HS.out.lt _ rfl)
  have hba := (Below.refl w2.heap.size w2).alloc (Nat.le_refl _) (.cells #[.slice a kk c] 25)
  replace HB := Lib.hid (HB.out.trans (hba.mono HB.out.size))
  replace HVF := Lib.hid (HVF.out.below hba)
  replace HS := Lib.hid (HS.out.below hba)
  replace HVH := Lib.hid (HVH.out.below hba)
  replace HVR := Lib.hid (HVR.out.below hba)
  clear hba
  go_wp2_with fail
  refine (writes_any q [] _ 1 1 [bl.take kk] _ HS.out HF.out (by decide) (by simp; omega)).mono ?_; rintro e w3 ⟨rfl, hs, ho⟩
  replace HB := Lib.hid (ho.under HB.out HQ.out HB.out.size)
  replace HVF := Lib.hid (HVF.out.oth ho)
  replace HVH := Lib.hid (HVH.out.oth ho)
  replace HVR := Lib.hid (HVR.out.oth ho)
  replace HS := Lib.hid (show ShL w3 q (bl.take kk) by simpa using hs)
  clear hs ho HF
  have HLT := Lib.hid (show bl.length ≤ 3000 by rw [HBL.out]; exact hn3)
  go_wp2_with fail
  refine (sum_any q _ _ HS.out (by have := HLT.out; rw [List.length_take]; omega)).mono ?_; rintro e w4 ⟨vx, rfl, hx, hb⟩
  have HX := Lib.hid (ValF.own hx (HS.out.lt))
  replace HB := Lib.hid (HB.out.trans (hb.mono HB.out.size))
  replace HVF := Lib.hid (HVF.out.below hb)
  replace HS := Lib.hid (HS.out.below hb)
  replace HVH := Lib.hid (HVH.out.below hb)
  replace HVR := Lib.hid (HVR.out.below hb)
  clear hb
  obtain ⟨ax, cx, rfl⟩ := own_shape48 hx
  clear hx
  go_wp2_with fail
  refine (copy_any q _ _ HS.out).mono ?_; rintro e w5 ⟨p, rfl, hp, hs, hb⟩
  have HQP := Lib.hid (show p ≠ q by have := HS.out.lt; omega)
  replace HB := Lib.hid (HB.out.trans (hb.mono HB.out.size))
  replace HVF := Lib.hid (HVF.out.below hb)
  replace HS := Lib.hid (HS.out.below hb)
  replace HVH := Lib.hid (HVH.out.below hb)
  replace HVR := Lib.hid (HVR.out.below hb)
  replace HX := Lib.hid (HX.out.below hb)
  clear hb
  have HP := Lib.hid hs
  clear hs hp
  have HF := Lib.hid (FarC.lit2 (valF_nil _ q) HVR.out HS.out.lt _ rfl)
  have hba := (Below.refl w5.heap.size w5).alloc (Nat.le_refl _) (.cells #[.slice none 0 0, .slice ad m2 c2] 25)
  replace HB := Lib.hid (HB.out.trans (hba.mono HB.out.size))
  replace HVF := Lib.hid (HVF.out.below hba)
  replace HS := Lib.hid (HS.out.below hba)
  replace HVH := Lib.hid (HVH.out.below hba)
  replace HVR := Lib.hid (HVR.out.below hba)
  replace HX := Lib.hid (HX.out.below hba)
  replace HP := Lib.hid (HP.out.below hba)
  clear hba
  go_wp2_with fail
  refine (writes_any q _ _ 2 2 [[], bl.drop kk] _ HS.out HF.out (by decide) (by have := HLT.out; simp; omega)).mono ?_; rintro e w6 ⟨rfl, hs, ho⟩
  replace HB := Lib.hid (ho.under HB.out HQ.out HB.out.size)
  replace HVF := Lib.hid (HVF.out.oth ho)
  replace HVH := Lib.hid (HVH.out.oth ho)
  replace HVR := Lib.hid (HVR.out.oth ho)
  replace HX := Lib.hid (HX.out.oth ho)
  replace HP := Lib.hid (HP.out.oth ho HQP.out)
  replace HS := Lib.hid (show ShL w6 q bl by simpa using hs)
  clear hs ho HF
  have HF := Lib.hid (FarC.nil w6 q)
  go_wp2_with fail
  refine (writes_any q _ _ 0 0 [] _ HS.out HF.out (by decide) (by have := HLT.out; simp; omega)).mono ?_; rintro e w7 ⟨rfl, hs, ho⟩
  replace HB := Lib.hid (ho.under HB.out HQ.out HB.out.size)
  replace HVF := Lib.hid (HVF.out.oth ho)
  replace HVH := Lib.hid (HVH.out.oth ho)
  replace HVR := Lib.hid (HVR.out.oth ho)
  replace HX := Lib.hid (HX.out.oth ho)
  replace HP := Lib.hid (HP.out.oth ho HQP.out)
  replace HS := Lib.hid (show ShL w7 q bl by simpa using hs)
  clear hs ho HF
  go_wp2_with fail
  refine (first8 _).mono ?_; rintro e w8 ⟨rfl, hb⟩
  replace HB := Lib.hid (HB.out.trans (hb.mono HB.out.size))
  replace HVF := Lib.hid (HVF.out.below hb)
  replace HS := Lib.hid (HS.out.below hb)
  replace HVH := Lib.hid (HVH.out.below hb)
  replace HVR := Lib.hid (HVR.out.below hb)
  replace HX := Lib.hid (HX.out.below hb)
  replace HP := Lib.hid (HP.out.below hb)
  clear hb
  go_wp2_with fail
  refine (sum_any q _ _ HS.out (by have := HLT.out; omega)).mono ?_; rintro e w9 ⟨vy1, rfl, hy1, hb⟩
  have Hy1 := Lib.hid (ValF.own hy1 (HS.out.lt))
  replace HB := Lib.hid (HB.out.trans (hb.mono HB.out.size))
  replace HVF := Lib.hid (HVF.out.below hb)
  replace HS := Lib.hid (HS.out.below hb)
  replace HVH := Lib.hid (HVH.out.below hb)
  replace HVR := Lib.hid (HVR.out.below hb)
  replace HX := Lib.hid (HX.out.below hb)
  replace HP := Lib.hid (HP.out.below hb)
  clear hb
  obtain ⟨ay1, cy1, rfl⟩ := own_shape48 hy1
  clear hy1
  have HF := Lib.hid (rowBC_lit1 _ _ _ _ rfl HVF.out.1)
  have hba := (Below.refl w9.heap.size w9).alloc (Nat.le_refl _) (.cells #[.slice a n c] 25)
  replace HB := Lib.hid (HB.out.trans (hba.mono HB.out.size))
  replace HVF := Lib.hid (HVF.out.below hba)
  replace HS := Lib.hid (HS.out.below hba)
  replace HVH := Lib.hid (HVH.out.below hba)
  replace HVR := Lib.hid (HVR.out.below hba)
  replace HX := Lib.hid (HX.out.below hba)
  replace HP := Lib.hid (HP.out.below hba)
  replace Hy1 := Lib.hid (Hy1.out.below hba)
  clear hba
  go_wp2_with fail
  refine (sums_any _ 1 1 [bl] _ HF.out (by decide) (by have := HLT.out; simp; omega)).mono ?_; rintro e w10 ⟨vy2, rfl, hy2, hb⟩
  have Hy2 := Lib.hid (ValF.own hy2 (HS.out.lt))
  replace HB := Lib.hid (HB.out.trans (hb.mono HB.out.size))
  replace HVF := Lib.hid (HVF.out.below hb)
  replace HS := Lib.hid (HS.out.below hb)
  replace HVH := Lib.hid (HVH.out.below hb)
  replace HVR := Lib.hid (HVR.out.below hb)
  replace HX := Lib.hid (HX.out.below hb)
  replace HP := Lib.hid (HP.out.below hb)
  replace Hy1 := Lib.hid (Hy1.out.below hb)
  clear hb
  obtain ⟨ay2, cy2, rfl⟩ := own_shape48 hy2
  clear hy2 HF
  have hy2 := Hy2.out.1
  rw [show ([bl] : List (List UInt8)).flatten = bl by simp] at hy2
  go_wp2_with fail
  refine (shaL_bytes Hy1.out.1 hy2).mono ?_; rintro e wz ⟨rfl, rfl⟩
  clear hy2
  have HF := Lib.hid (rowBC_lit1 _ _ _ _ rfl HVH.out.1)
  have hba := (Below.refl w10.heap.size w10).alloc (Nat.le_refl _) (.cells #[.slice a kk c] 25)
  replace HB := Lib.hid (HB.out.trans (hba.mono HB.out.size))
  replace HVF := Lib.hid (HVF.out.below hba)
  replace HS := Lib.hid (HS.out.below hba)
  replace HVH := Lib.hid (HVH.out.below hba)
  replace HVR := Lib.hid (HVR.out.below hba)
  replace HX := Lib.hid (HX.out.below hba)
  replace HP := Lib.hid (HP.out.below hba)
  replace Hy1 := Lib.hid (Hy1.out.below hba)
  replace Hy2 := Lib.hid (Hy2.out.below hba)
  clear hba
  go_wp2_with fail
  refine (sums_any _ 1 1 [bl.take kk] _ HF.out (by decide) (by have := HLT.out; simp; omega)).mono ?_; rintro e w11 ⟨vy3, rfl, hy3, hb⟩
  have Hy3 := Lib.hid (ValF.own hy3 (HS.out.lt))
  replace HB := Lib.hid (HB.out.trans (hb.mono HB.out.size))
  replace HVF := Lib.hid (HVF.out.below hb)
  replace HS := Lib.hid (HS.out.below hb)
  replace HVH := Lib.hid (HVH.out.below hb)
  replace HVR := Lib.hid (HVR.out.below hb)
  replace HX := Lib.hid (HX.out.below hb)
  replace HP := Lib.hid (HP.out.below hb)
  replace Hy1 := Lib.hid (Hy1.out.below hb)
  replace Hy2 := Lib.hid (Hy2.out.below hb)
  clear hb
  obtain ⟨ay3, cy3, rfl⟩ := own_shape48 hy3
  clear hy3 HF
  have hy3 := Hy3.out.1
  rw [show ([bl.take kk] : List (List UInt8)).flatten = bl.take kk by simp] at hy3
  go_wp2_with fail
  refine (shaL_bytes HX.out.1 hy3).mono ?_; rintro e wz ⟨rfl, rfl⟩
  clear hy3
  go_wp2_with fail
  refine (sum_any p _ _ HP.out (by have := HLT.out; rw [List.length_take]; omega)).mono ?_; rintro e w12 ⟨vy4, rfl, hy4, hb⟩
  have Hy4 := Lib.hid (ValF.own hy4 (HS.out.lt))
  replace HB := Lib.hid (HB.out.trans (hb.mono HB.out.size))
  replace HVF := Lib.hid (HVF.out.below hb)
  replace HS := Lib.hid (HS.out.below hb)
  replace HVH := Lib.hid (HVH.out.below hb)
  replace HVR := Lib.hid (HVR.out.below hb)
  replace HX := Lib.hid (HX.out.below hb)
  replace HP := Lib.hid (HP.out.below hb)
  replace Hy1 := Lib.hid (Hy1.out.below hb)
  replace Hy2 := Lib.hid (Hy2.out.below hb)
  replace Hy3 := Lib.hid (Hy3.out.below hb)
  clear hb
  obtain ⟨ay4, cy4, rfl⟩ := own_shape48 hy4
  clear hy4
  go_wp2_with fail
  refine (shaL_bytes Hy4.out.1 HX.out.1).mono ?_; rintro e wz ⟨rfl, rfl⟩
  have HF := Lib.hid (rowBC_lit3 _ _ _ _ _ _ _ _ rfl (valC_nil _) HVF.out.1 (valC_nil _))
  have hba := (Below.refl w12.heap.size w12).alloc (Nat.le_refl _) (.cells #[.slice none 0 0, .slice a n c, .slice none 0 0] 25)
  replace HB := Lib.hid (HB.out.trans (hba.mono HB.out.size))
  replace HVF := Lib.hid (HVF.out.below hba)
  replace HS := Lib.hid (HS.out.below hba)
  replace HVH := Lib.hid (HVH.out.below hba)
  replace HVR := Lib.hid (HVR.out.below hba)
  replace HX := Lib.hid (HX.out.below hba)
  replace HP := Lib.hid (HP.out.below hba)
  replace Hy1 := Lib.hid (Hy1.out.below hba)
  replace Hy2 := Lib.hid (Hy2.out.below hba)
  replace Hy3 := Lib.hid (Hy3.out.below hba)
  replace Hy4 := Lib.hid (Hy4.out.below hba)
  clear hba
  go_wp2_with fail
  refine (sums_any _ 3 3 [[], bl, []] _ HF.out (by decide) (by have := HLT.out; simp; omega)).mono ?_; rintro e w13 ⟨vy5, rfl, hy5, hb⟩
  have Hy5 := Lib.hid (ValF.own hy5 (HS.out.lt))
  replace HB := Lib.hid (HB.out.trans (hb.mono HB.out.size))
  replace HVF := Lib.hid (HVF.out.below hb)
  replace HS := Lib.hid (HS.out.below hb)
  replace HVH := Lib.hid (HVH.out.below hb)
  replace HVR := Lib.hid (HVR.out.below hb)
  replace HX := Lib.hid (HX.out.below hb)
  replace HP := Lib.hid (HP.out.below hb)
  replace Hy1 := Lib.hid (Hy1.out.below hb)
  replace Hy2 := Lib.hid (Hy2.out.below hb)
  replace Hy3 := Lib.hid (Hy3.out.below hb)
  replace Hy4 := Lib.hid (Hy4.out.below hb)
  clear hb
  obtain ⟨ay5, cy5, rfl⟩ := own_shape48 hy5
  clear hy5 HF
  have HF := Lib.hid (rowBC_lit1 _ _ _ _ rfl HVF.out.1)
  have hba := (Below.refl w13.heap.size w13).alloc (Nat.le_refl _) (.cells #[.slice a n c] 25)
  replace HB := Lib.hid (HB.out.trans (hba.mono HB.out.size))
  replace HVF := Lib.hid (HVF.out.below hba)
  replace HS := Lib.hid (HS.out.below hba)
  replace HVH := Lib.hid (HVH.out.below hba)
  replace HVR := Lib.hid (HVR.out.below hba)
  replace HX := Lib.hid (HX.out.below hba)
  replace HP := Lib.hid (HP.out.below hba)
  replace Hy1 := Lib.hid (Hy1.out.below hba)
  replace Hy2 := Lib.hid (Hy2.out.below hba)
  replace Hy3 := Lib.hid (Hy3.out.below hba)
  replace Hy4 := Lib.hid (Hy4.out.below hba)
  replace Hy5 := Lib.hid (Hy5.out.below hba)
  clear hba
  go_wp2_with fail
  refine (sums_any _ 1 1 [bl] _ HF.out (by decide) (by have := HLT.out; simp; omega)).mono ?_; rintro e w14 ⟨vy6, rfl, hy6, hb⟩
  have Hy6 := Lib.hid (ValF.own hy6 (HS.out.lt))
  replace HB := Lib.hid (HB.out.trans (hb.mono HB.out.size))
  replace HVF := Lib.hid (HVF.out.below hb)
  replace HS := Lib.hid (HS.out.below hb)
  replace HVH := Lib.hid (HVH.out.below hb)
  replace HVR := Lib.hid (HVR.out.below hb)
  replace HX := Lib.hid (HX.out.below hb)
  replace HP := Lib.hid (HP.out.below hb)
  replace Hy1 := Lib.hid (Hy1.out.below hb)
  replace Hy2 := Lib.hid (Hy2.out.below hb)
  replace Hy3 := Lib.hid (Hy3.out.below hb)
  replace Hy4 := Lib.hid (Hy4.out.below hb)
  replace Hy5 := Lib.hid (Hy5.out.below hb)
  clear hb
  obtain ⟨ay6, cy6, rfl⟩ := own_shape48 hy6
  clear hy6 HF
  have hy5 := Hy5.out.1
  rw [show ([[], bl, []] : List (List UInt8)).flatten = bl by simp] at hy5
  have hy6 := Hy6.out.1
  rw [show ([bl] : List (List UInt8)).flatten = bl by simp] at hy6
  go_wp2_with fail
  refine (shaL_bytes hy5 hy6).mono ?_; rintro e wz ⟨rfl, rfl⟩
  clear hy5 hy6
  have HKL := Lib.hid (show (bl.take kk).length = kk by rw [List.length_take, HBL.out]; omega)
  go_wp2_with fail
  refine (len_any q _ _ HS.out).mono ?_; rintro e wz ⟨rfl, rfl⟩
  rw [HBL.out]
  go_wp2_with fail
  refine (len_any p _ _ HP.out).mono ?_; rintro e wz ⟨rfl, rfl⟩
  rw [HKL.out]
  go_wp2
  go_ret
  exact ⟨rfl, HB.out⟩
end Go.Proofs.Ytocfphijheidbaa
