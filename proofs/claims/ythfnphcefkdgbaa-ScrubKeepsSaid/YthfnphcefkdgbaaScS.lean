/- Contract of scrub.Sort. -/
import Derived.Test.YthfnphcefkdgbaaScR
namespace Go.Proofs.Ythfnphcefkdgbaa
open Go.RowKit

section
variable {cut qn : ByteArray} {qt qc rc : Int} {aa : Bool} {A N X : List SetP}
theorem sort_tc : sortS cut qn qt qc rc aa true A N X = ⟨6, 0, [], emB⟩ := if_pos rfl
theorem sort_rc (h : ¬ (rc = 0 ∨ rc = 3)) : sortS cut qn qt qc rc aa false A N X = badO := by rw [sortS, if_neg (by simp), if_pos h]
theorem sort_an (h : rc = 0 ∨ rc = 3) (ha : (ansO A qn qt qc (rankF aa)).isSome = true) : sortS cut qn qt qc rc aa false A N X = (ansO A qn qt qc (rankF aa)).getD badO := by
  obtain ⟨o, ho⟩ := Option.isSome_iff_exists.1 ha
  rw [sortS, if_neg (by simp), if_neg (fun h2 => h2 h), ho]; rfl
theorem sort_nx (h : rc = 3) (ha : ansO A qn qt qc (rankF aa) = none) : sortS cut qn qt qc rc aa false A N X = noO 4 qn aa N := by
  rw [sortS, if_neg (by simp), if_neg (fun h2 => h2 (Or.inr h)), ha]; exact if_pos h
theorem sort_rf (h : rc = 0) (ha : ansO A qn qt qc (rankF aa) = none) (hr : (refO cut qn qt N X).isSome = true) : sortS cut qn qt qc rc aa false A N X = (refO cut qn qt N X).getD badO := by
  obtain ⟨o, ho⟩ := Option.isSome_iff_exists.1 hr
  rw [sortS, if_neg (by simp), if_neg (fun h2 => h2 (Or.inl h)), ha]
  refine (if_neg (by omega)).trans ?_
  rw [ho]; rfl
theorem sort_nd (h : rc = 0) (ha : ansO A qn qt qc (rankF aa) = none) (hr : refO cut qn qt N X = none) : sortS cut qn qt qc rc aa false A N X = noO 5 qn aa N := by
  rw [sortS, if_neg (by simp), if_neg (fun h2 => h2 (Or.inl h)), ha]
  refine (if_neg (by omega)).trans ?_
  rw [hr]; rfl
end
set_option maxRecDepth 100000 in
set_option maxHeartbeats 8000000 in
theorem sort_any (cut qn : ByteArray) (qt qc : Int) (m : MsgP) (mv : Value) (w : World) (h : MsgAt w mv m) (hs : ScM m) (hc : cut.size ≤ 1000000) (hqs : qn.size ≤ 1000000) :
    Calls Try.prog 37 #[.string cut, .agg #[.string qn, .int .i64 qt, .int .i64 qc], mv] w fun e w' => (∃ v, e = .returned v ∧ OutUp w' w.heap.size v (sortF cut qn qt qc m)) ∧ Below w.heap.size w w' := by
  obtain ⟨mi, mo, mr, b1, b2, b3, b4, b5, Q, A, N, X⟩ := m
  have HM := Lib.hid h
  obtain ⟨pa, pc, aa, ac, na, nc, xa, xc, rfl, -, ⟨hra, -⟩, ⟨hrn, -⟩, ⟨hrx, -⟩⟩ := h
  have hs9 := hs
  obtain ⟨⟨hl1, hk1, hd1⟩, ⟨hl2, hk2, hd2⟩, ⟨hl3, hk3, hd3⟩⟩ := hs
  dsimp only at *
  obtain ⟨pl, hpl⟩ : ∃ x, Q.length = x := ⟨_, rfl⟩
  obtain ⟨al, hal⟩ : ∃ x, A.length = x := ⟨_, rfl⟩
  obtain ⟨nl, hnl⟩ : ∃ x, N.length = x := ⟨_, rfl⟩
  obtain ⟨xl, hxl⟩ : ∃ x, X.length = x := ⟨_, rfl⟩
  rw [hal] at hra hl1
  rw [hnl] at hrn hl2
  rw [hxl] at hrx hl3
  rw [hpl, hal, hnl, hxl]
  have HCT := Lib.hid hc
  have HB := Lib.hid (Below.refl w.heap.size w)
  rw [hpl, hal, hnl, hxl] at HM
  have HSM := Lib.hid hs9
  have HQS := Lib.hid hqs
  clear hra hrn hrx hl1 hk1 hd1 hl2 hk2 hd2 hl3 hk3 hd3 hpl hal hnl hxl hc hqs hs9
  go_enter Try.func37, Try.ntmps37
  have hba := (Below.refl _ _ : Below w.heap.size w w).alloc (Nat.le_refl _) (.cells #[.string qn, .int .i64 qt, .int .i64 qc] 71)
  have C1 := Lib.hid (CN.new w #[.string qn, .int .i64 qt, .int .i64 qc] 71)
  replace HM := Lib.hid (HM.out.below hba)
  replace HB := Lib.hid (HB.out.trans (hba.mono HB.out.size))
  obtain ⟨w2, hw⟩ : ∃ x, w.alloc (.cells #[.string qn, .int .i64 qt, .int .i64 qc] 71) = x := ⟨_, rfl⟩
  obtain ⟨q2, hq⟩ : ∃ x, w.heap.size = x := ⟨_, rfl⟩
  rw [hw, hq] at C1
  rw [hw] at HM HB
  have HWw2 := Lib.hid hw
  have HQq2 := Lib.hid hq
  clear hba hw hq
  have hba := (Below.refl _ _ : Below w2.heap.size w2 w2).alloc (Nat.le_refl _) (.cells #[.int .i64 mi, .int .i64 mo, .int .i64 mr, .bool b1, .bool b2, .bool b3, .bool b4, .bool b5, .slice pa pl pc, .slice aa al ac, .slice na nl nc, .slice xa xl xc] 77)
  have C2 := Lib.hid (CN.new w2 #[.int .i64 mi, .int .i64 mo, .int .i64 mr, .bool b1, .bool b2, .bool b3, .bool b4, .bool b5, .slice pa pl pc, .slice aa al ac, .slice na nl nc, .slice xa xl xc] 77)
  replace HM := Lib.hid (HM.out.below hba)
  replace HB := Lib.hid (HB.out.trans (hba.mono HB.out.size))
  replace C1 := Lib.hid (C1.out.below hba)
  obtain ⟨w3, hw⟩ : ∃ x, w2.alloc (.cells #[.int .i64 mi, .int .i64 mo, .int .i64 mr, .bool b1, .bool b2, .bool b3, .bool b4, .bool b5, .slice pa pl pc, .slice aa al ac, .slice na nl nc, .slice xa xl xc] 77) = x := ⟨_, rfl⟩
  obtain ⟨q3, hq⟩ : ∃ x, w2.heap.size = x := ⟨_, rfl⟩
  rw [hw, hq] at C2
  rw [hw] at HM HB C1
  have HSq3 := Lib.hid (show q2 + 1 = q3 by rw [← HQq2.out, ← hq, ← HWw2.out, World.size_alloc])
  have HWw3 := Lib.hid hw
  have HQq3 := Lib.hid hq
  clear hba hw hq
  have hba := (Below.refl _ _ : Below w3.heap.size w3 w3).alloc (Nat.le_refl _) (.cells #[.int .i64 0, .int .i64 0, .slice none 0 0, .string ⟨#[]⟩] 81)
  have C3 := Lib.hid (CN.new w3 #[.int .i64 0, .int .i64 0, .slice none 0 0, .string ⟨#[]⟩] 81)
  replace HM := Lib.hid (HM.out.below hba)
  replace HB := Lib.hid (HB.out.trans (hba.mono HB.out.size))
  replace C1 := Lib.hid (C1.out.below hba)
  replace C2 := Lib.hid (C2.out.below hba)
  obtain ⟨w4, hw⟩ : ∃ x, w3.alloc (.cells #[.int .i64 0, .int .i64 0, .slice none 0 0, .string ⟨#[]⟩] 81) = x := ⟨_, rfl⟩
  obtain ⟨q4, hq⟩ : ∃ x, w3.heap.size = x := ⟨_, rfl⟩
  rw [hw, hq] at C3
  rw [hw] at HM HB C1 C2
  have HSq4 := Lib.hid (show q3 + 1 = q4 by rw [← HQq3.out, ← hq, ← HWw3.out, World.size_alloc])
  have HWw4 := Lib.hid hw
  have HQq4 := Lib.hid hq
  clear hba hw hq
  go_upto_region 1 with (fail)
  rw [HWw2.out, HWw3.out, HWw4.out]
  rw [show (Value.pointer (some { block := w.heap.size + 1 + 1, off := 0 })) = Value.pointer (some { block := q4, off := 0 }) by rw [HQq2.out, HSq3.out, HSq4.out]]
  rw [show (Value.pointer (some { block := w.heap.size + 1, off := 0 })) = Value.pointer (some { block := q3, off := 0 }) by rw [HQq2.out, HSq3.out]]
  rw [show (Value.pointer (some { block := w.heap.size, off := 0 })) = Value.pointer (some { block := q2, off := 0 }) by rw [HQq2.out]]
  have HQZ := Lib.hid (show w.heap.size ≤ q4 by have h := HSq3.out; have h2 := HSq4.out; have h3 := HQq2.out; omega)
  obtain ⟨p0, p1, p2, _⟩ := C1.out.u3
  obtain ⟨m0, m1, m2, m3, m4, m5, m6, m7, m8, m9, m10, m11, _⟩ := C2.out.u12
  cases b3
  · by_cases r0 : mr = 0 ∨ mr = 3
    · have R0 := Lib.hid r0
      by_cases z0 : mr = 0
      · have f0 := nF z0
        clear z0 r0
        go_upto_region 5 with (fail)
        clear f0
        have HFA := Lib.hid (show q4 + 1 ≤ w4.heap.size from C3.out.1)
        go_wp2_with fail
        refine (answered_any cut qn qt qc ⟨mi, mo, mr, b1, b2, false, b4, b5, Q, A, N, X⟩ _ w4 HM.out HSM.out HCT.out).mono ?_; rintro e w5 ⟨⟨v, rfl, hou⟩, hb⟩
        clear p0 p1 p2 m0 m1 m2 m3 m4 m5 m6 m7 m8 m9 m10 m11
        replace HM := Lib.hid (HM.out.below hb)
        replace HB := Lib.hid (HB.out.trans (hb.mono HB.out.size))
        replace C1 := Lib.hid (C1.out.below hb)
        replace C2 := Lib.hid (C2.out.below hb)
        replace C3 := Lib.hid (C3.out.below hb)
        clear hb
        obtain ⟨O1, hO⟩ : ∃ x, (ansO (wiF cut A) qn qt qc (rankF b2)).getD badO = x := ⟨_, rfl⟩
        rw [hO] at hou
        have HO1 := Lib.hid hO
        clear hO
        obtain ⟨k1, t1, s1, n1⟩ := O1
        obtain ⟨oa1, on1, oc1, rfl, hrk, hnn⟩ := hou
        have HRK1 := Lib.hid (hrk.mono HFA.out)
        have HNN1 := Lib.hid hnn
        clear hrk hnn HFA
        dsimp only at HRK1
        dsimp only
        obtain ⟨bb1, hbb⟩ : ∃ x, (ansO (wiF cut A) qn qt qc (rankF b2)).isSome = x := ⟨_, rfl⟩
        rw [hbb]
        have HBB1 := Lib.hid hbb
        clear hbb
        have hba := (Below.refl _ _ : Below w5.heap.size w5 w5).alloc (Nat.le_refl _) (.cells #[.int .i64 k1, .int .i64 t1, .slice oa1 on1 oc1, .string n1] 81)
        have C5 := Lib.hid (CN.new w5 #[.int .i64 k1, .int .i64 t1, .slice oa1 on1 oc1, .string n1] 81)
        replace HM := Lib.hid (HM.out.below hba)
        replace HB := Lib.hid (HB.out.trans (hba.mono HB.out.size))
        replace C1 := Lib.hid (C1.out.below hba)
        replace C2 := Lib.hid (C2.out.below hba)
        replace C3 := Lib.hid (C3.out.below hba)
        replace HRK1 := Lib.hid (HRK1.out.below hba)
        obtain ⟨w6, hw⟩ : ∃ x, w5.alloc (.cells #[.int .i64 k1, .int .i64 t1, .slice oa1 on1 oc1, .string n1] 81) = x := ⟨_, rfl⟩
        obtain ⟨q6, hq⟩ : ∃ x, w5.heap.size = x := ⟨_, rfl⟩
        rw [hw, hq] at C5
        rw [hw] at HM HB C1 C2 C3 HRK1
        have HW := Lib.hid hw
        have HQ_ := Lib.hid hq
        clear hba hw hq
        go_upto_region 6 with (fail)
        rw [HW.out, HQ_.out]
        clear HW HQ_
        cases bb1
        · have HN1 := Lib.hid (show ansO (wiF cut A) qn qt qc (rankF b2) = none from Option.isSome_eq_false_iff.1 HBB1.out |> Option.isNone_iff_eq_none.1)
          clear C5 HRK1
          obtain ⟨p0, p1, p2, _⟩ := C1.out.u3
          obtain ⟨m0, m1, m2, m3, m4, m5, m6, m7, m8, m9, m10, m11, _⟩ := C2.out.u12
          by_cases r3 : mr = 3
          · have f3 := eT r3
            have HR3 := Lib.hid r3
            clear r3
            go_upto_region 9 with (fail)
            have HFA := Lib.hid (show q4 + 1 ≤ w6.heap.size from C3.out.1)
            go_wp2_with fail
            refine (nothing_any 4 cut qn qt qc ⟨mi, mo, mr, b1, b2, false, b4, b5, Q, A, N, X⟩ _ w6 HM.out HSM.out HCT.out HQS.out).mono ?_; rintro e w7 ⟨⟨v, rfl, hou⟩, hb⟩
            clear p0 p1 p2 m0 m1 m2 m3 m4 m5 m6 m7 m8 m9 m10 m11
            replace HM := Lib.hid (HM.out.below hb)
            replace HB := Lib.hid (HB.out.trans (hb.mono HB.out.size))
            replace C1 := Lib.hid (C1.out.below hb)
            replace C2 := Lib.hid (C2.out.below hb)
            replace C3 := Lib.hid (C3.out.below hb)
            clear hb
            obtain ⟨O2, hO⟩ : ∃ x, noO 4 qn b2 (wiF cut N) = x := ⟨_, rfl⟩
            rw [hO] at hou
            have HO2 := Lib.hid hO
            clear hO
            obtain ⟨k2, t2, s2, n2⟩ := O2
            obtain ⟨oa2, on2, oc2, rfl, hrk, hnn⟩ := hou
            have HRK2 := Lib.hid (hrk.mono HFA.out)
            have HNN2 := Lib.hid hnn
            clear hrk hnn HFA
            dsimp only at HRK2
            dsimp only
            obtain ⟨y0, y1, y2, y3, g0, g1, g2, g3⟩ := C3.out.o4
            have KZ := Lib.hid (C3.out.p4 (.int .i64 k2) (.int .i64 t2) (.slice oa2 on2 oc2) (.string n2))
            have HGZ := Lib.hid (grown_p4 w7 q4 (.int .i64 k2) (.int .i64 t2) (.slice oa2 on2 oc2) (.string n2))
            have HBZ := Lib.hid (HB.out.grown HGZ.out HB.out.size (fun k hk => by injection hk with hk; rw [← hk]; exact HQZ.out))
            have HRK2Z := Lib.hid (HRK2.out.far HGZ.out (Nat.lt_succ_self _))
            repeat go_step
            obtain ⟨wz, hwz⟩ : ∃ x, ((((w7.setCell ⟨q4, 0, none⟩ (.int .i64 k2)).setCell ⟨q4, 1, none⟩ (.int .i64 t2)).setCell ⟨q4, 2, none⟩ (.slice oa2 on2 oc2)).setCell ⟨q4, 3, none⟩ (.string n2)) = x := ⟨_, rfl⟩
            rw [hwz] at KZ HBZ HRK2Z ⊢
            clear hwz HGZ y0 y1 y2 y3 g0 g1 g2 g3
            obtain ⟨z0, z1, z2, z3, _⟩ := KZ.out.o4
            refine bodyPost_ret (v := .agg #[.int .i64 k2, .int .i64 t2, .slice oa2 on2 oc2, .string n2]) (by simp [results, Try.results37, go_sem, z0, z1, z2, z3]) rfl ⟨⟨_, rfl, by rw [show sortF cut qn qt qc ⟨mi, mo, mr, b1, b2, false, b4, b5, Q, A, N, X⟩ = ⟨k2, t2, s2, n2⟩ from (sort_nx HR3.out HN1.out).trans HO2.out]; exact ⟨_, _, _, rfl, HRK2Z.out.mono (Nat.le_succ_of_le HQZ.out), HNN2.out⟩⟩, HBZ.out⟩
          · have f3 := eF r3
            have HR0 := Lib.hid (show mr = 0 from R0.out.resolve_right r3)
            clear r3
            go_upto_region 10 with (fail)
            have HFA := Lib.hid (show q4 + 1 ≤ w6.heap.size from C3.out.1)
            go_wp2_with fail
            refine (referred_any cut qn qt qc ⟨mi, mo, mr, b1, b2, false, b4, b5, Q, A, N, X⟩ _ w6 HM.out HSM.out HCT.out HQS.out).mono ?_; rintro e w7 ⟨⟨v, rfl, hou⟩, hb⟩
            clear p0 p1 p2 m0 m1 m2 m3 m4 m5 m6 m7 m8 m9 m10 m11
            replace HM := Lib.hid (HM.out.below hb)
            replace HB := Lib.hid (HB.out.trans (hb.mono HB.out.size))
            replace C1 := Lib.hid (C1.out.below hb)
            replace C2 := Lib.hid (C2.out.below hb)
            replace C3 := Lib.hid (C3.out.below hb)
            clear hb
            obtain ⟨O3, hO⟩ : ∃ x, (refO cut qn qt (wiF cut N) (wiF cut X)).getD badO = x := ⟨_, rfl⟩
            rw [hO] at hou
            have HO3 := Lib.hid hO
            clear hO
            obtain ⟨k3, t3, s3, n3⟩ := O3
            obtain ⟨oa3, on3, oc3, rfl, hrk, hnn⟩ := hou
            have HRK3 := Lib.hid (hrk.mono HFA.out)
            have HNN3 := Lib.hid hnn
            clear hrk hnn HFA
            dsimp only at HRK3
            dsimp only
            obtain ⟨bb3, hbb⟩ : ∃ x, (refO cut qn qt (wiF cut N) (wiF cut X)).isSome = x := ⟨_, rfl⟩
            rw [hbb]
            have HBB3 := Lib.hid hbb
            clear hbb
            have hba := (Below.refl _ _ : Below w7.heap.size w7 w7).alloc (Nat.le_refl _) (.cells #[.int .i64 k3, .int .i64 t3, .slice oa3 on3 oc3, .string n3] 81)
            have C6 := Lib.hid (CN.new w7 #[.int .i64 k3, .int .i64 t3, .slice oa3 on3 oc3, .string n3] 81)
            replace HM := Lib.hid (HM.out.below hba)
            replace HB := Lib.hid (HB.out.trans (hba.mono HB.out.size))
            replace C1 := Lib.hid (C1.out.below hba)
            replace C2 := Lib.hid (C2.out.below hba)
            replace C3 := Lib.hid (C3.out.below hba)
            replace HRK3 := Lib.hid (HRK3.out.below hba)
            obtain ⟨w8, hw⟩ : ∃ x, w7.alloc (.cells #[.int .i64 k3, .int .i64 t3, .slice oa3 on3 oc3, .string n3] 81) = x := ⟨_, rfl⟩
            obtain ⟨q8, hq⟩ : ∃ x, w7.heap.size = x := ⟨_, rfl⟩
            rw [hw, hq] at C6
            rw [hw] at HM HB C1 C2 C3 HRK3
            have HW := Lib.hid hw
            have HQ_ := Lib.hid hq
            clear hba hw hq
            go_upto_region 11 with (fail)
            rw [HW.out, HQ_.out]
            clear HW HQ_
            cases bb3
            · have HN3 := Lib.hid (show refO cut qn qt (wiF cut N) (wiF cut X) = none from Option.isSome_eq_false_iff.1 HBB3.out |> Option.isNone_iff_eq_none.1)
              clear C6 HRK3
              obtain ⟨p0, p1, p2, _⟩ := C1.out.u3
              obtain ⟨m0, m1, m2, m3, m4, m5, m6, m7, m8, m9, m10, m11, _⟩ := C2.out.u12
              go_upto_region 13 with (fail)
              have HFA := Lib.hid (show q4 + 1 ≤ w8.heap.size from C3.out.1)
              go_wp2_with fail
              refine (nothing_any 5 cut qn qt qc ⟨mi, mo, mr, b1, b2, false, b4, b5, Q, A, N, X⟩ _ w8 HM.out HSM.out HCT.out HQS.out).mono ?_; rintro e w9 ⟨⟨v, rfl, hou⟩, hb⟩
              clear p0 p1 p2 m0 m1 m2 m3 m4 m5 m6 m7 m8 m9 m10 m11
              replace HM := Lib.hid (HM.out.below hb)
              replace HB := Lib.hid (HB.out.trans (hb.mono HB.out.size))
              replace C1 := Lib.hid (C1.out.below hb)
              replace C2 := Lib.hid (C2.out.below hb)
              replace C3 := Lib.hid (C3.out.below hb)
              clear hb
              obtain ⟨O2, hO⟩ : ∃ x, noO 5 qn b2 (wiF cut N) = x := ⟨_, rfl⟩
              rw [hO] at hou
              have HO2 := Lib.hid hO
              clear hO
              obtain ⟨k2, t2, s2, n2⟩ := O2
              obtain ⟨oa2, on2, oc2, rfl, hrk, hnn⟩ := hou
              have HRK2 := Lib.hid (hrk.mono HFA.out)
              have HNN2 := Lib.hid hnn
              clear hrk hnn HFA
              dsimp only at HRK2
              dsimp only
              obtain ⟨y0, y1, y2, y3, g0, g1, g2, g3⟩ := C3.out.o4
              have KZ := Lib.hid (C3.out.p4 (.int .i64 k2) (.int .i64 t2) (.slice oa2 on2 oc2) (.string n2))
              have HGZ := Lib.hid (grown_p4 w9 q4 (.int .i64 k2) (.int .i64 t2) (.slice oa2 on2 oc2) (.string n2))
              have HBZ := Lib.hid (HB.out.grown HGZ.out HB.out.size (fun k hk => by injection hk with hk; rw [← hk]; exact HQZ.out))
              have HRK2Z := Lib.hid (HRK2.out.far HGZ.out (Nat.lt_succ_self _))
              repeat go_step
              obtain ⟨wz, hwz⟩ : ∃ x, ((((w9.setCell ⟨q4, 0, none⟩ (.int .i64 k2)).setCell ⟨q4, 1, none⟩ (.int .i64 t2)).setCell ⟨q4, 2, none⟩ (.slice oa2 on2 oc2)).setCell ⟨q4, 3, none⟩ (.string n2)) = x := ⟨_, rfl⟩
              rw [hwz] at KZ HBZ HRK2Z ⊢
              clear hwz HGZ y0 y1 y2 y3 g0 g1 g2 g3
              obtain ⟨z0, z1, z2, z3, _⟩ := KZ.out.o4
              refine bodyPost_ret (v := .agg #[.int .i64 k2, .int .i64 t2, .slice oa2 on2 oc2, .string n2]) (by simp [results, Try.results37, go_sem, z0, z1, z2, z3]) rfl ⟨⟨_, rfl, by rw [show sortF cut qn qt qc ⟨mi, mo, mr, b1, b2, false, b4, b5, Q, A, N, X⟩ = ⟨k2, t2, s2, n2⟩ from (sort_nd HR0.out HN1.out HN3.out).trans HO2.out]; exact ⟨_, _, _, rfl, HRK2Z.out.mono (Nat.le_succ_of_le HQZ.out), HNN2.out⟩⟩, HBZ.out⟩
            · go_upto_region 12 with (fail)
              obtain ⟨y0_, y1_, y2_, y3_, _⟩ := C6.out.o4
              obtain ⟨y0, y1, y2, y3, g0, g1, g2, g3⟩ := C3.out.o4
              have KZ := Lib.hid (C3.out.p4 (.int .i64 k3) (.int .i64 t3) (.slice oa3 on3 oc3) (.string n3))
              have HGZ := Lib.hid (grown_p4 w8 q4 (.int .i64 k3) (.int .i64 t3) (.slice oa3 on3 oc3) (.string n3))
              have HBZ := Lib.hid (HB.out.grown HGZ.out HB.out.size (fun k hk => by injection hk with hk; rw [← hk]; exact HQZ.out))
              have HRK3Z := Lib.hid (HRK3.out.far HGZ.out (Nat.lt_succ_self _))
              repeat go_step
              obtain ⟨wz, hwz⟩ : ∃ x, ((((w8.setCell ⟨q4, 0, none⟩ (.int .i64 k3)).setCell ⟨q4, 1, none⟩ (.int .i64 t3)).setCell ⟨q4, 2, none⟩ (.slice oa3 on3 oc3)).setCell ⟨q4, 3, none⟩ (.string n3)) = x := ⟨_, rfl⟩
              rw [hwz] at KZ HBZ HRK3Z ⊢
              clear hwz HGZ y0 y1 y2 y3 g0 g1 g2 g3
              obtain ⟨z0, z1, z2, z3, _⟩ := KZ.out.o4
              refine bodyPost_ret (v := .agg #[.int .i64 k3, .int .i64 t3, .slice oa3 on3 oc3, .string n3]) (by simp [results, Try.results37, go_sem, z0, z1, z2, z3]) rfl ⟨⟨_, rfl, by rw [show sortF cut qn qt qc ⟨mi, mo, mr, b1, b2, false, b4, b5, Q, A, N, X⟩ = ⟨k3, t3, s3, n3⟩ from (sort_rf HR0.out HN1.out HBB3.out).trans HO3.out]; exact ⟨_, _, _, rfl, HRK3Z.out.mono (Nat.le_succ_of_le HQZ.out), HNN3.out⟩⟩, HBZ.out⟩
        · go_upto_region 7 with (fail)
          obtain ⟨y0_, y1_, y2_, y3_, _⟩ := C5.out.o4
          obtain ⟨y0, y1, y2, y3, g0, g1, g2, g3⟩ := C3.out.o4
          have KZ := Lib.hid (C3.out.p4 (.int .i64 k1) (.int .i64 t1) (.slice oa1 on1 oc1) (.string n1))
          have HGZ := Lib.hid (grown_p4 w6 q4 (.int .i64 k1) (.int .i64 t1) (.slice oa1 on1 oc1) (.string n1))
          have HBZ := Lib.hid (HB.out.grown HGZ.out HB.out.size (fun k hk => by injection hk with hk; rw [← hk]; exact HQZ.out))
          have HRK1Z := Lib.hid (HRK1.out.far HGZ.out (Nat.lt_succ_self _))
          repeat go_step
          obtain ⟨wz, hwz⟩ : ∃ x, ((((w6.setCell ⟨q4, 0, none⟩ (.int .i64 k1)).setCell ⟨q4, 1, none⟩ (.int .i64 t1)).setCell ⟨q4, 2, none⟩ (.slice oa1 on1 oc1)).setCell ⟨q4, 3, none⟩ (.string n1)) = x := ⟨_, rfl⟩
          rw [hwz] at KZ HBZ HRK1Z ⊢
          clear hwz HGZ y0 y1 y2 y3 g0 g1 g2 g3
          obtain ⟨z0, z1, z2, z3, _⟩ := KZ.out.o4
          refine bodyPost_ret (v := .agg #[.int .i64 k1, .int .i64 t1, .slice oa1 on1 oc1, .string n1]) (by simp [results, Try.results37, go_sem, z0, z1, z2, z3]) rfl ⟨⟨_, rfl, by rw [show sortF cut qn qt qc ⟨mi, mo, mr, b1, b2, false, b4, b5, Q, A, N, X⟩ = ⟨k1, t1, s1, n1⟩ from (sort_an R0.out HBB1.out).trans HO1.out]; exact ⟨_, _, _, rfl, HRK1Z.out.mono (Nat.le_succ_of_le HQZ.out), HNN1.out⟩⟩, HBZ.out⟩
      · have f0 := nT z0
        have f1 := nF (r0.resolve_left z0)
        clear z0 r0
        go_upto_region 5 with (fail)
        clear f0 f1
        have HFA := Lib.hid (show q4 + 1 ≤ w4.heap.size from C3.out.1)
        go_wp2_with fail
        refine (answered_any cut qn qt qc ⟨mi, mo, mr, b1, b2, false, b4, b5, Q, A, N, X⟩ _ w4 HM.out HSM.out HCT.out).mono ?_; rintro e w5 ⟨⟨v, rfl, hou⟩, hb⟩
        clear p0 p1 p2 m0 m1 m2 m3 m4 m5 m6 m7 m8 m9 m10 m11
        replace HM := Lib.hid (HM.out.below hb)
        replace HB := Lib.hid (HB.out.trans (hb.mono HB.out.size))
        replace C1 := Lib.hid (C1.out.below hb)
        replace C2 := Lib.hid (C2.out.below hb)
        replace C3 := Lib.hid (C3.out.below hb)
        clear hb
        obtain ⟨O1, hO⟩ : ∃ x, (ansO (wiF cut A) qn qt qc (rankF b2)).getD badO = x := ⟨_, rfl⟩
        rw [hO] at hou
        have HO1 := Lib.hid hO
        clear hO
        obtain ⟨k1, t1, s1, n1⟩ := O1
        obtain ⟨oa1, on1, oc1, rfl, hrk, hnn⟩ := hou
        have HRK1 := Lib.hid (hrk.mono HFA.out)
        have HNN1 := Lib.hid hnn
        clear hrk hnn HFA
        dsimp only at HRK1
        dsimp only
        obtain ⟨bb1, hbb⟩ : ∃ x, (ansO (wiF cut A) qn qt qc (rankF b2)).isSome = x := ⟨_, rfl⟩
        rw [hbb]
        have HBB1 := Lib.hid hbb
        clear hbb
        have hba := (Below.refl _ _ : Below w5.heap.size w5 w5).alloc (Nat.le_refl _) (.cells #[.int .i64 k1, .int .i64 t1, .slice oa1 on1 oc1, .string n1] 81)
        have C5 := Lib.hid (CN.new w5 #[.int .i64 k1, .int .i64 t1, .slice oa1 on1 oc1, .string n1] 81)
        replace HM := Lib.hid (HM.out.below hba)
        replace HB := Lib.hid (HB.out.trans (hba.mono HB.out.size))
        replace C1 := Lib.hid (C1.out.below hba)
        replace C2 := Lib.hid (C2.out.below hba)
        replace C3 := Lib.hid (C3.out.below hba)
        replace HRK1 := Lib.hid (HRK1.out.below hba)
        obtain ⟨w6, hw⟩ : ∃ x, w5.alloc (.cells #[.int .i64 k1, .int .i64 t1, .slice oa1 on1 oc1, .string n1] 81) = x := ⟨_, rfl⟩
        obtain ⟨q6, hq⟩ : ∃ x, w5.heap.size = x := ⟨_, rfl⟩
        rw [hw, hq] at C5
        rw [hw] at HM HB C1 C2 C3 HRK1
        have HW := Lib.hid hw
        have HQ_ := Lib.hid hq
        clear hba hw hq
        go_upto_region 6 with (fail)
        rw [HW.out, HQ_.out]
        clear HW HQ_
        cases bb1
        · have HN1 := Lib.hid (show ansO (wiF cut A) qn qt qc (rankF b2) = none from Option.isSome_eq_false_iff.1 HBB1.out |> Option.isNone_iff_eq_none.1)
          clear C5 HRK1
          obtain ⟨p0, p1, p2, _⟩ := C1.out.u3
          obtain ⟨m0, m1, m2, m3, m4, m5, m6, m7, m8, m9, m10, m11, _⟩ := C2.out.u12
          by_cases r3 : mr = 3
          · have f3 := eT r3
            have HR3 := Lib.hid r3
            clear r3
            go_upto_region 9 with (fail)
            have HFA := Lib.hid (show q4 + 1 ≤ w6.heap.size from C3.out.1)
            go_wp2_with fail
            refine (nothing_any 4 cut qn qt qc ⟨mi, mo, mr, b1, b2, false, b4, b5, Q, A, N, X⟩ _ w6 HM.out HSM.out HCT.out HQS.out).mono ?_; rintro e w7 ⟨⟨v, rfl, hou⟩, hb⟩
            clear p0 p1 p2 m0 m1 m2 m3 m4 m5 m6 m7 m8 m9 m10 m11
            replace HM := Lib.hid (HM.out.below hb)
            replace HB := Lib.hid (HB.out.trans (hb.mono HB.out.size))
            replace C1 := Lib.hid (C1.out.below hb)
            replace C2 := Lib.hid (C2.out.below hb)
            replace C3 := Lib.hid (C3.out.below hb)
            clear hb
            obtain ⟨O2, hO⟩ : ∃ x, noO 4 qn b2 (wiF cut N) = x := ⟨_, rfl⟩
            rw [hO] at hou
            have HO2 := Lib.hid hO
            clear hO
            obtain ⟨k2, t2, s2, n2⟩ := O2
            obtain ⟨oa2, on2, oc2, rfl, hrk, hnn⟩ := hou
            have HRK2 := Lib.hid (hrk.mono HFA.out)
            have HNN2 := Lib.hid hnn
            clear hrk hnn HFA
            dsimp only at HRK2
            dsimp only
            obtain ⟨y0, y1, y2, y3, g0, g1, g2, g3⟩ := C3.out.o4
            have KZ := Lib.hid (C3.out.p4 (.int .i64 k2) (.int .i64 t2) (.slice oa2 on2 oc2) (.string n2))
            have HGZ := Lib.hid (grown_p4 w7 q4 (.int .i64 k2) (.int .i64 t2) (.slice oa2 on2 oc2) (.string n2))
            have HBZ := Lib.hid (HB.out.grown HGZ.out HB.out.size (fun k hk => by injection hk with hk; rw [← hk]; exact HQZ.out))
            have HRK2Z := Lib.hid (HRK2.out.far HGZ.out (Nat.lt_succ_self _))
            repeat go_step
            obtain ⟨wz, hwz⟩ : ∃ x, ((((w7.setCell ⟨q4, 0, none⟩ (.int .i64 k2)).setCell ⟨q4, 1, none⟩ (.int .i64 t2)).setCell ⟨q4, 2, none⟩ (.slice oa2 on2 oc2)).setCell ⟨q4, 3, none⟩ (.string n2)) = x := ⟨_, rfl⟩
            rw [hwz] at KZ HBZ HRK2Z ⊢
            clear hwz HGZ y0 y1 y2 y3 g0 g1 g2 g3
            obtain ⟨z0, z1, z2, z3, _⟩ := KZ.out.o4
            refine bodyPost_ret (v := .agg #[.int .i64 k2, .int .i64 t2, .slice oa2 on2 oc2, .string n2]) (by simp [results, Try.results37, go_sem, z0, z1, z2, z3]) rfl ⟨⟨_, rfl, by rw [show sortF cut qn qt qc ⟨mi, mo, mr, b1, b2, false, b4, b5, Q, A, N, X⟩ = ⟨k2, t2, s2, n2⟩ from (sort_nx HR3.out HN1.out).trans HO2.out]; exact ⟨_, _, _, rfl, HRK2Z.out.mono (Nat.le_succ_of_le HQZ.out), HNN2.out⟩⟩, HBZ.out⟩
          · have f3 := eF r3
            have HR0 := Lib.hid (show mr = 0 from R0.out.resolve_right r3)
            clear r3
            go_upto_region 10 with (fail)
            have HFA := Lib.hid (show q4 + 1 ≤ w6.heap.size from C3.out.1)
            go_wp2_with fail
            refine (referred_any cut qn qt qc ⟨mi, mo, mr, b1, b2, false, b4, b5, Q, A, N, X⟩ _ w6 HM.out HSM.out HCT.out HQS.out).mono ?_; rintro e w7 ⟨⟨v, rfl, hou⟩, hb⟩
            clear p0 p1 p2 m0 m1 m2 m3 m4 m5 m6 m7 m8 m9 m10 m11
            replace HM := Lib.hid (HM.out.below hb)
            replace HB := Lib.hid (HB.out.trans (hb.mono HB.out.size))
            replace C1 := Lib.hid (C1.out.below hb)
            replace C2 := Lib.hid (C2.out.below hb)
            replace C3 := Lib.hid (C3.out.below hb)
            clear hb
            obtain ⟨O3, hO⟩ : ∃ x, (refO cut qn qt (wiF cut N) (wiF cut X)).getD badO = x := ⟨_, rfl⟩
            rw [hO] at hou
            have HO3 := Lib.hid hO
            clear hO
            obtain ⟨k3, t3, s3, n3⟩ := O3
            obtain ⟨oa3, on3, oc3, rfl, hrk, hnn⟩ := hou
            have HRK3 := Lib.hid (hrk.mono HFA.out)
            have HNN3 := Lib.hid hnn
            clear hrk hnn HFA
            dsimp only at HRK3
            dsimp only
            obtain ⟨bb3, hbb⟩ : ∃ x, (refO cut qn qt (wiF cut N) (wiF cut X)).isSome = x := ⟨_, rfl⟩
            rw [hbb]
            have HBB3 := Lib.hid hbb
            clear hbb
            have hba := (Below.refl _ _ : Below w7.heap.size w7 w7).alloc (Nat.le_refl _) (.cells #[.int .i64 k3, .int .i64 t3, .slice oa3 on3 oc3, .string n3] 81)
            have C6 := Lib.hid (CN.new w7 #[.int .i64 k3, .int .i64 t3, .slice oa3 on3 oc3, .string n3] 81)
            replace HM := Lib.hid (HM.out.below hba)
            replace HB := Lib.hid (HB.out.trans (hba.mono HB.out.size))
            replace C1 := Lib.hid (C1.out.below hba)
            replace C2 := Lib.hid (C2.out.below hba)
            replace C3 := Lib.hid (C3.out.below hba)
            replace HRK3 := Lib.hid (HRK3.out.below hba)
            obtain ⟨w8, hw⟩ : ∃ x, w7.alloc (.cells #[.int .i64 k3, .int .i64 t3, .slice oa3 on3 oc3, .string n3] 81) = x := ⟨_, rfl⟩
            obtain ⟨q8, hq⟩ : ∃ x, w7.heap.size = x := ⟨_, rfl⟩
            rw [hw, hq] at C6
            rw [hw] at HM HB C1 C2 C3 HRK3
            have HW := Lib.hid hw
            have HQ_ := Lib.hid hq
            clear hba hw hq
            go_upto_region 11 with (fail)
            rw [HW.out, HQ_.out]
            clear HW HQ_
            cases bb3
            · have HN3 := Lib.hid (show refO cut qn qt (wiF cut N) (wiF cut X) = none from Option.isSome_eq_false_iff.1 HBB3.out |> Option.isNone_iff_eq_none.1)
              clear C6 HRK3
              obtain ⟨p0, p1, p2, _⟩ := C1.out.u3
              obtain ⟨m0, m1, m2, m3, m4, m5, m6, m7, m8, m9, m10, m11, _⟩ := C2.out.u12
              go_upto_region 13 with (fail)
              have HFA := Lib.hid (show q4 + 1 ≤ w8.heap.size from C3.out.1)
              go_wp2_with fail
              refine (nothing_any 5 cut qn qt qc ⟨mi, mo, mr, b1, b2, false, b4, b5, Q, A, N, X⟩ _ w8 HM.out HSM.out HCT.out HQS.out).mono ?_; rintro e w9 ⟨⟨v, rfl, hou⟩, hb⟩
              clear p0 p1 p2 m0 m1 m2 m3 m4 m5 m6 m7 m8 m9 m10 m11
              replace HM := Lib.hid (HM.out.below hb)
              replace HB := Lib.hid (HB.out.trans (hb.mono HB.out.size))
              replace C1 := Lib.hid (C1.out.below hb)
              replace C2 := Lib.hid (C2.out.below hb)
              replace C3 := Lib.hid (C3.out.below hb)
              clear hb
              obtain ⟨O2, hO⟩ : ∃ x, noO 5 qn b2 (wiF cut N) = x := ⟨_, rfl⟩
              rw [hO] at hou
              have HO2 := Lib.hid hO
              clear hO
              obtain ⟨k2, t2, s2, n2⟩ := O2
              obtain ⟨oa2, on2, oc2, rfl, hrk, hnn⟩ := hou
              have HRK2 := Lib.hid (hrk.mono HFA.out)
              have HNN2 := Lib.hid hnn
              clear hrk hnn HFA
              dsimp only at HRK2
              dsimp only
              obtain ⟨y0, y1, y2, y3, g0, g1, g2, g3⟩ := C3.out.o4
              have KZ := Lib.hid (C3.out.p4 (.int .i64 k2) (.int .i64 t2) (.slice oa2 on2 oc2) (.string n2))
              have HGZ := Lib.hid (grown_p4 w9 q4 (.int .i64 k2) (.int .i64 t2) (.slice oa2 on2 oc2) (.string n2))
              have HBZ := Lib.hid (HB.out.grown HGZ.out HB.out.size (fun k hk => by injection hk with hk; rw [← hk]; exact HQZ.out))
              have HRK2Z := Lib.hid (HRK2.out.far HGZ.out (Nat.lt_succ_self _))
              repeat go_step
              obtain ⟨wz, hwz⟩ : ∃ x, ((((w9.setCell ⟨q4, 0, none⟩ (.int .i64 k2)).setCell ⟨q4, 1, none⟩ (.int .i64 t2)).setCell ⟨q4, 2, none⟩ (.slice oa2 on2 oc2)).setCell ⟨q4, 3, none⟩ (.string n2)) = x := ⟨_, rfl⟩
              rw [hwz] at KZ HBZ HRK2Z ⊢
              clear hwz HGZ y0 y1 y2 y3 g0 g1 g2 g3
              obtain ⟨z0, z1, z2, z3, _⟩ := KZ.out.o4
              refine bodyPost_ret (v := .agg #[.int .i64 k2, .int .i64 t2, .slice oa2 on2 oc2, .string n2]) (by simp [results, Try.results37, go_sem, z0, z1, z2, z3]) rfl ⟨⟨_, rfl, by rw [show sortF cut qn qt qc ⟨mi, mo, mr, b1, b2, false, b4, b5, Q, A, N, X⟩ = ⟨k2, t2, s2, n2⟩ from (sort_nd HR0.out HN1.out HN3.out).trans HO2.out]; exact ⟨_, _, _, rfl, HRK2Z.out.mono (Nat.le_succ_of_le HQZ.out), HNN2.out⟩⟩, HBZ.out⟩
            · go_upto_region 12 with (fail)
              obtain ⟨y0_, y1_, y2_, y3_, _⟩ := C6.out.o4
              obtain ⟨y0, y1, y2, y3, g0, g1, g2, g3⟩ := C3.out.o4
              have KZ := Lib.hid (C3.out.p4 (.int .i64 k3) (.int .i64 t3) (.slice oa3 on3 oc3) (.string n3))
              have HGZ := Lib.hid (grown_p4 w8 q4 (.int .i64 k3) (.int .i64 t3) (.slice oa3 on3 oc3) (.string n3))
              have HBZ := Lib.hid (HB.out.grown HGZ.out HB.out.size (fun k hk => by injection hk with hk; rw [← hk]; exact HQZ.out))
              have HRK3Z := Lib.hid (HRK3.out.far HGZ.out (Nat.lt_succ_self _))
              repeat go_step
              obtain ⟨wz, hwz⟩ : ∃ x, ((((w8.setCell ⟨q4, 0, none⟩ (.int .i64 k3)).setCell ⟨q4, 1, none⟩ (.int .i64 t3)).setCell ⟨q4, 2, none⟩ (.slice oa3 on3 oc3)).setCell ⟨q4, 3, none⟩ (.string n3)) = x := ⟨_, rfl⟩
              rw [hwz] at KZ HBZ HRK3Z ⊢
              clear hwz HGZ y0 y1 y2 y3 g0 g1 g2 g3
              obtain ⟨z0, z1, z2, z3, _⟩ := KZ.out.o4
              refine bodyPost_ret (v := .agg #[.int .i64 k3, .int .i64 t3, .slice oa3 on3 oc3, .string n3]) (by simp [results, Try.results37, go_sem, z0, z1, z2, z3]) rfl ⟨⟨_, rfl, by rw [show sortF cut qn qt qc ⟨mi, mo, mr, b1, b2, false, b4, b5, Q, A, N, X⟩ = ⟨k3, t3, s3, n3⟩ from (sort_rf HR0.out HN1.out HBB3.out).trans HO3.out]; exact ⟨_, _, _, rfl, HRK3Z.out.mono (Nat.le_succ_of_le HQZ.out), HNN3.out⟩⟩, HBZ.out⟩
        · go_upto_region 7 with (fail)
          obtain ⟨y0_, y1_, y2_, y3_, _⟩ := C5.out.o4
          obtain ⟨y0, y1, y2, y3, g0, g1, g2, g3⟩ := C3.out.o4
          have KZ := Lib.hid (C3.out.p4 (.int .i64 k1) (.int .i64 t1) (.slice oa1 on1 oc1) (.string n1))
          have HGZ := Lib.hid (grown_p4 w6 q4 (.int .i64 k1) (.int .i64 t1) (.slice oa1 on1 oc1) (.string n1))
          have HBZ := Lib.hid (HB.out.grown HGZ.out HB.out.size (fun k hk => by injection hk with hk; rw [← hk]; exact HQZ.out))
          have HRK1Z := Lib.hid (HRK1.out.far HGZ.out (Nat.lt_succ_self _))
          repeat go_step
          obtain ⟨wz, hwz⟩ : ∃ x, ((((w6.setCell ⟨q4, 0, none⟩ (.int .i64 k1)).setCell ⟨q4, 1, none⟩ (.int .i64 t1)).setCell ⟨q4, 2, none⟩ (.slice oa1 on1 oc1)).setCell ⟨q4, 3, none⟩ (.string n1)) = x := ⟨_, rfl⟩
          rw [hwz] at KZ HBZ HRK1Z ⊢
          clear hwz HGZ y0 y1 y2 y3 g0 g1 g2 g3
          obtain ⟨z0, z1, z2, z3, _⟩ := KZ.out.o4
          refine bodyPost_ret (v := .agg #[.int .i64 k1, .int .i64 t1, .slice oa1 on1 oc1, .string n1]) (by simp [results, Try.results37, go_sem, z0, z1, z2, z3]) rfl ⟨⟨_, rfl, by rw [show sortF cut qn qt qc ⟨mi, mo, mr, b1, b2, false, b4, b5, Q, A, N, X⟩ = ⟨k1, t1, s1, n1⟩ from (sort_an R0.out HBB1.out).trans HO1.out]; exact ⟨_, _, _, rfl, HRK1Z.out.mono (Nat.le_succ_of_le HQZ.out), HNN1.out⟩⟩, HBZ.out⟩
    · have f0 := nT (fun h => r0 (Or.inl h))
      have f1 := nT (fun h => r0 (Or.inr h))
      have HR := Lib.hid r0
      clear r0
      go_upto_region 4 with (fail)
      clear p0 p1 p2 m0 m1 m2 m3 m4 m5 m6 m7 m8 m9 m10 m11
      obtain ⟨y0, y1, y2, y3, g0, g1, g2, g3⟩ := C3.out.o4
      have KZ := Lib.hid (C3.out.p4 (.int .i64 0) (.int .i64 0) (.slice none 0 0) (.string ⟨#[]⟩))
      have HGZ := Lib.hid (grown_p4 w4 q4 (.int .i64 0) (.int .i64 0) (.slice none 0 0) (.string ⟨#[]⟩))
      have HBZ := Lib.hid (HB.out.grown HGZ.out HB.out.size (fun k hk => by injection hk with hk; rw [← hk]; exact HQZ.out))
      repeat go_step
      obtain ⟨wz, hwz⟩ : ∃ x, ((((w4.setCell ⟨q4, 0, none⟩ (.int .i64 0)).setCell ⟨q4, 1, none⟩ (.int .i64 0)).setCell ⟨q4, 2, none⟩ (.slice none 0 0)).setCell ⟨q4, 3, none⟩ (.string ⟨#[]⟩)) = x := ⟨_, rfl⟩
      rw [hwz] at KZ HBZ ⊢
      clear hwz HGZ y0 y1 y2 y3 g0 g1 g2 g3
      obtain ⟨z0, z1, z2, z3, _⟩ := KZ.out.o4
      refine bodyPost_ret (v := .agg #[.int .i64 0, .int .i64 0, .slice none 0 0, .string ⟨#[]⟩]) (by simp [results, Try.results37, go_sem, z0, z1, z2, z3]) rfl ⟨⟨_, rfl, by rw [show sortF cut qn qt qc ⟨mi, mo, mr, b1, b2, false, b4, b5, Q, A, N, X⟩ = ⟨0, 0, [], emB⟩ from sort_rc HR.out]; exact ⟨none, 0, 0, rfl, RkUp.nil _ _ _, fun _ => ⟨rfl, rfl⟩⟩⟩, HBZ.out⟩
  · go_upto_region 2 with (fail)
    clear p0 p1 p2 m0 m1 m2 m3 m4 m5 m6 m7 m8 m9 m10 m11
    obtain ⟨y0, y1, y2, y3, g0, g1, g2, g3⟩ := C3.out.o4
    have KZ := Lib.hid (C3.out.p4 (.int .i64 6) (.int .i64 0) (.slice none 0 0) (.string ⟨#[]⟩))
    have HGZ := Lib.hid (grown_p4 w4 q4 (.int .i64 6) (.int .i64 0) (.slice none 0 0) (.string ⟨#[]⟩))
    have HBZ := Lib.hid (HB.out.grown HGZ.out HB.out.size (fun k hk => by injection hk with hk; rw [← hk]; exact HQZ.out))
    repeat go_step
    obtain ⟨wz, hwz⟩ : ∃ x, ((((w4.setCell ⟨q4, 0, none⟩ (.int .i64 6)).setCell ⟨q4, 1, none⟩ (.int .i64 0)).setCell ⟨q4, 2, none⟩ (.slice none 0 0)).setCell ⟨q4, 3, none⟩ (.string ⟨#[]⟩)) = x := ⟨_, rfl⟩
    rw [hwz] at KZ HBZ ⊢
    clear hwz HGZ y0 y1 y2 y3 g0 g1 g2 g3
    obtain ⟨z0, z1, z2, z3, _⟩ := KZ.out.o4
    refine bodyPost_ret (v := .agg #[.int .i64 6, .int .i64 0, .slice none 0 0, .string ⟨#[]⟩]) (by simp [results, Try.results37, go_sem, z0, z1, z2, z3]) rfl ⟨⟨_, rfl, by rw [show sortF cut qn qt qc ⟨mi, mo, mr, b1, b2, true, b4, b5, Q, A, N, X⟩ = ⟨6, 0, [], emB⟩ from sort_tc]; exact ⟨none, 0, 0, rfl, RkUp.nil _ _ _, fun _ => ⟨rfl, rfl⟩⟩⟩, HBZ.out⟩
end Go.Proofs.Ythfnphcefkdgbaa
