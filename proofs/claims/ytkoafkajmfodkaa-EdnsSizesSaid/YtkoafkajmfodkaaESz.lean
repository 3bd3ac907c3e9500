/- EdnsSizes: the walk. -/
import Derived.Test.YtkoafkajmfodkaaFs6
namespace Go.Proofs.Ytkoafkajmfodkaa
open Go.RowKit

set_option maxRecDepth 100000 in
set_option maxHeartbeats 16000000 in
theorem walkSizes (mi mo mr : Int) (b1 b2 b3 b4 b5 : Bool) (qa na sa xa : Option Addr) (ql qc nl nc sl sc xl xc : Nat) (l k z : Int) (m : MsgP) (w : World) (hm : MsgAt w (.agg #[.int .i64 mi, .int .i64 mo, .int .i64 mr, .bool b1, .bool b2, .bool b3, .bool b4, .bool b5, .slice qa ql qc, .slice na nl nc, .slice sa sl sc, .slice xa xl xc]) m) (hz : SzM m) :
    Calls Try.prog 12 #[.agg #[.int .i64 mi, .int .i64 mo, .int .i64 mr, .bool b1, .bool b2, .bool b3, .bool b4, .bool b5, .slice qa ql qc, .slice na nl nc, .slice sa sl sc, .slice xa xl xc], .int .i64 l, .int .i64 k, .int .i64 z] w fun e w' => e = .returned (.bool true) ∧ Below w.heap.size w w' := by
  have hb0 := (Below.refl w.heap.size w).alloc (Nat.le_refl _) (.cells #[.int .i64 mi, .int .i64 mo, .int .i64 mr, .bool b1, .bool b2, .bool b3, .bool b4, .bool b5, .slice qa ql qc, .slice na nl nc, .slice sa sl sc, .slice xa xl xc] 27)
  have HB0 := Lib.hid hb0
  have HC0 := Lib.hid (CN.new w #[.int .i64 mi, .int .i64 mo, .int .i64 mr, .bool b1, .bool b2, .bool b3, .bool b4, .bool b5, .slice qa ql qc, .slice na nl nc, .slice sa sl sc, .slice xa xl xc] 27)
  have HM0 := Lib.hid (hm.below hb0)
  have HZ := Lib.hid hz
  clear hm hz hb0
  obtain ⟨q0, hq0⟩ : ∃ x, w.heap.size = x := ⟨_, rfl⟩
  have HC0' := HC0.out
  rw [hq0] at HC0'
  replace HC0 := Lib.hid HC0'
  have HQ0 := Lib.hid hq0
  clear HC0' hq0
  go_enter Try.func12, Try.ntmps12
  go_wp2_with fail
  refine (first6 _).mono ?_; rintro e w2 ⟨rfl, hb⟩
  rw [HQ0.out]
  have HB2 := Lib.hid (HB0.out.trans (hb.mono HB0.out.size))
  have HC2 := Lib.hid (HC0.out.below hb)
  have HM2 := Lib.hid (HM0.out.below hb)
  clear hb HC0 HM0
  obtain ⟨y0, y1, y2, y3, y4, y5, y6, y7, y8, y9, y10, y11, _⟩ := HC2.out.u12
  go_wp2_with fail
  refine (few5_any _ m _ HM2.out HZ.out).mono ?_; rintro e w3 ⟨he, hb⟩
  have HB3 := Lib.hid (HB2.out.trans (hb.mono HB2.out.size))
  have HC3 := Lib.hid (HC2.out.below hb)
  have HM3 := Lib.hid (HM2.out.below hb)
  clear hb HC2 HM2 y0 y1 y2 y3 y4 y5 y6 y7 y8 y9 y10 y11
  rcases he with rfl | ⟨rfl, hsm⟩
  · go_wp2_with fail
    refine (first6 _).mono ?_; rintro e wf ⟨rfl, hbf⟩
    have HBF := Lib.hid (HB3.out.trans (hbf.mono HB3.out.size))
    clear hbf
    go_wp2
    go_ret
    exact ⟨rfl, HBF.out⟩
  have HSM := Lib.hid hsm
  clear hsm
  by_cases h1 : k < l
  · have d1 := dT h1
    go_wp2_with fail
    refine (first6 _).mono ?_; rintro e wf ⟨rfl, hbf⟩
    have HBF := Lib.hid (HB3.out.trans (hbf.mono HB3.out.size))
    clear hbf
    go_wp2
    go_ret
    exact ⟨rfl, HBF.out⟩
  have d1 := dF h1
  by_cases h2 : z < 0
  · have d2 := dT h2
    go_wp2_with fail
    refine (first6 _).mono ?_; rintro e wf ⟨rfl, hbf⟩
    have HBF := Lib.hid (HB3.out.trans (hbf.mono HB3.out.size))
    clear hbf
    go_wp2
    go_ret
    exact ⟨rfl, HBF.out⟩
  have d2 := dF h2
  by_cases h3 : 65535 < z
  · have d3 := dT h3
    go_wp2_with fail
    refine (first6 _).mono ?_; rintro e wf ⟨rfl, hbf⟩
    have HBF := Lib.hid (HB3.out.trans (hbf.mono HB3.out.size))
    clear hbf
    go_wp2
    go_ret
    exact ⟨rfl, HBF.out⟩
  have d3 := dF h3
  have hpe := Lib.hid (putE_size (s := z) (d := false) (by omega) (by omega))
  have hpe0 := Lib.hid (putE_size (s := 0) (d := false) (by omega) (by omega))
  obtain ⟨y0, y1, y2, y3, y4, y5, y6, y7, y8, y9, y10, y11, _⟩ := HC3.out.u12
  go_wp2_with fail
  refine (sizeM_any _ m _ l k HM3.out (HSM.out.sm.2.2.2)).mono ?_; rintro e w4 ⟨rfl, hb⟩
  obtain ⟨n, hn⟩ : ∃ n, sizeO m.x l k = n := ⟨_, rfl⟩
  have hnr := sizeO_rng m.x (l := l) (k := k) (by omega)
  rw [hn] at hnr ⊢
  have HNR := Lib.hid hnr
  have HB4 := Lib.hid (HB3.out.trans (hb.mono HB3.out.size))
  have HC4 := Lib.hid (HC3.out.below hb)
  have HM4 := Lib.hid (HM3.out.below hb)
  clear hb hn hnr HC3 HM3 y0 y1 y2 y3 y4 y5 y6 y7 y8 y9 y10 y11
  obtain ⟨y0, y1, y2, y3, y4, y5, y6, y7, y8, y9, y10, y11, _⟩ := HC4.out.u12
  go_wp2_with fail
  refine (stripM_any _ m _ HM4.out HSM.out.sm).mono ?_; rintro e w5 ⟨v5, rfl, hmo, hb⟩
  have hat := hmo.at
  obtain ⟨mi1, mo1, mr1, b11, b21, b31, b41, b51, qa1, na1, sa1, xa1, ql1, qc1, nl1, nc1, sl1, sc1, xl1, xc1, rfl⟩ := hat.cells
  have HB5 := Lib.hid (HB4.out.trans (hb.mono HB4.out.size))
  clear hb hmo HC4 HM4 y0 y1 y2 y3 y4 y5 y6 y7 y8 y9 y10 y11
  have hba := (Below.refl w5.heap.size w5).alloc (Nat.le_refl _) (.cells #[.int .i64 mi1, .int .i64 mo1, .int .i64 mr1, .bool b11, .bool b21, .bool b31, .bool b41, .bool b51, .slice qa1 ql1 qc1, .slice na1 nl1 nc1, .slice sa1 sl1 sc1, .slice xa1 xl1 xc1] 27)
  have HC6 := Lib.hid (CN.new w5 #[.int .i64 mi1, .int .i64 mo1, .int .i64 mr1, .bool b11, .bool b21, .bool b31, .bool b41, .bool b51, .slice qa1 ql1 qc1, .slice na1 nl1 nc1, .slice sa1 sl1 sc1, .slice xa1 xl1 xc1] 27)
  have HM6 := Lib.hid (hat.below hba)
  have HB6 := Lib.hid (HB5.out.trans (hba.mono HB5.out.size))
  obtain ⟨w6, hw6⟩ : ∃ x, w5.alloc (.cells #[.int .i64 mi1, .int .i64 mo1, .int .i64 mr1, .bool b11, .bool b21, .bool b31, .bool b41, .bool b51, .slice qa1 ql1 qc1, .slice na1 nl1 nc1, .slice sa1 sl1 sc1, .slice xa1 xl1 xc1] 27) = x := ⟨_, rfl⟩
  obtain ⟨q1, hq1⟩ : ∃ x, w5.heap.size = x := ⟨_, rfl⟩
  rw [hw6, hq1] at HC6
  rw [hw6] at HM6 HB6
  have HW6 := Lib.hid hw6
  have HQ1 := Lib.hid hq1
  clear hba hw6 hq1 hat
  have hsm1 : SmallM { m with x := keepR optB m.x } := ⟨HSM.out.1, HSM.out.2.1, HSM.out.2.2.1, by
    have h9 := HSM.out.2.2.2
    exact ⟨by have := List.length_filter_le (fun r => !optB r) m.x; show (keepR optB m.x).length ≤ 400; rw [keepR]; omega, fun r hr => h9.2 r (List.mem_filter.1 hr).1⟩⟩
  have HS1 := Lib.hid hsm1
  clear hsm1
  go_upto_region 7 with fail
  rw [HW6.out, HQ1.out]
  obtain ⟨y0, y1, y2, y3, y4, y5, y6, y7, y8, y9, y10, y11, _⟩ := HC6.out.u12
  have hba := (Below.refl w6.heap.size w6).alloc (Nat.le_refl _) (.cells #[.int .i64 z, .int .i64 0, .int .i64 0, .bool false, .string ⟨#[]⟩] 80)
  have HM6' := Lib.hid (HM6.out.below hba)
  have HB6' := Lib.hid (HB6.out.trans (hba.mono HB6.out.size))
  have HC6' := Lib.hid (HC6.out.below hba)
  clear hba HW6 HQ1
  go_wp2_with fail
  refine (withM_any _ _ _ 1 1 [⟨z, 0, 0, false, ⟨#[]⟩⟩] _ HM6'.out HS1.out (rowO_lit1 w6 z false) (by omega) (by intro o ho; rw [List.mem_singleton.1 ho]; exact Nat.zero_le _)).mono ?_; rintro e w7 ⟨he, hb⟩
  rcases he with ⟨_, v7, rfl, hmo⟩ | ⟨hne, _⟩
  rotate_left
  · exact absurd (by rw [withE, if_pos hpe.out, withE]) hne
  have hat := hmo.at
  obtain ⟨mi2, mo2, mr2, b12, b22, b32, b42, b52, qa2, na2, sa2, xa2, ql2, qc2, nl2, nc2, sl2, sc2, xl2, xc2, rfl⟩ := hat.cells
  have HB7 := Lib.hid (HB6'.out.trans (hb.mono HB6'.out.size))
  have HM7 := Lib.hid (HM6'.out.below hb)
  have HC7 := Lib.hid (HC6'.out.below hb)
  clear hb hmo HC6 HM6 HM6' HC6' y0 y1 y2 y3 y4 y5 y6 y7 y8 y9 y10 y11
  have hba := (Below.refl w7.heap.size w7).alloc (Nat.le_refl _) (.cells #[.int .i64 mi2, .int .i64 mo2, .int .i64 mr2, .bool b12, .bool b22, .bool b32, .bool b42, .bool b52, .slice qa2 ql2 qc2, .slice na2 nl2 nc2, .slice sa2 sl2 sc2, .slice xa2 xl2 xc2] 27)
  have HA8 := Lib.hid (CN.new w7 #[.int .i64 mi2, .int .i64 mo2, .int .i64 mr2, .bool b12, .bool b22, .bool b32, .bool b42, .bool b52, .slice qa2 ql2 qc2, .slice na2 nl2 nc2, .slice sa2 sl2 sc2, .slice xa2 xl2 xc2] 27)
  have HX8 := Lib.hid (hat.below hba)
  have HB8 := Lib.hid (HB7.out.trans (hba.mono HB7.out.size))
  have HM8 := Lib.hid (HM7.out.below hba)
  have HC8 := Lib.hid (HC7.out.below hba)
  obtain ⟨w8, hw8⟩ : ∃ x, w7.alloc (.cells #[.int .i64 mi2, .int .i64 mo2, .int .i64 mr2, .bool b12, .bool b22, .bool b32, .bool b42, .bool b52, .slice qa2 ql2 qc2, .slice na2 nl2 nc2, .slice sa2 sl2 sc2, .slice xa2 xl2 xc2] 27) = x := ⟨_, rfl⟩
  obtain ⟨q2, hq2⟩ : ∃ x, w7.heap.size = x := ⟨_, rfl⟩
  rw [hw8, hq2] at HA8
  rw [hw8] at HM8 HB8 HX8 HC8
  have HW8 := Lib.hid hw8
  have HQ2 := Lib.hid hq2
  clear hba hw8 hq2 hat HM7 HC7
  go_upto_region 8 with fail
  rw [HW8.out, HQ2.out]
  obtain ⟨y0, y1, y2, y3, y4, y5, y6, y7, y8, y9, y10, y11, _⟩ := HC8.out.u12
  have hba := (Below.refl w8.heap.size w8).alloc (Nat.le_refl _) (.cells #[.int .i64 z, .int .i64 0, .int .i64 0, .bool false, .string ⟨#[]⟩, .int .i64 0, .int .i64 0, .int .i64 0, .bool false, .string ⟨#[]⟩] 80)
  have HM9 := Lib.hid (HM8.out.below hba)
  have HB9 := Lib.hid (HB8.out.trans (hba.mono HB8.out.size))
  have HC9 := Lib.hid (HC8.out.below hba)
  have HA9 := Lib.hid (HA8.out.below hba)
  have HX9 := Lib.hid (HX8.out.below hba)
  clear hba HW8 HQ2 HM8 HC8 HA8 HX8
  go_wp2_with fail
  refine (withM_any _ _ _ 2 2 [⟨z, 0, 0, false, ⟨#[]⟩⟩, opt0] _ HM9.out HS1.out (rowO_lit2 w8 z) (by omega) (by intro o ho; simp only [List.mem_cons, List.not_mem_nil, or_false] at ho; rcases ho with rfl | rfl <;> exact Nat.zero_le _)).mono ?_; rintro e w10 ⟨he, hb⟩
  rcases he with ⟨_, v10, rfl, hmo⟩ | ⟨hne, _⟩
  rotate_left
  · exact absurd (by rw [withE, if_pos hpe.out, withE, if_pos (show putE opt0 = 0 from hpe0.out), withE]) hne
  have hat := hmo.at
  obtain ⟨mi3, mo3, mr3, b13, b23, b33, b43, b53, qa3, na3, sa3, xa3, ql3, qc3, nl3, nc3, sl3, sc3, xl3, xc3, rfl⟩ := hat.cells
  have HB10 := Lib.hid (HB9.out.trans (hb.mono HB9.out.size))
  have HM10 := Lib.hid (HM9.out.below hb)
  have HC10 := Lib.hid (HC9.out.below hb)
  have HA10 := Lib.hid (HA9.out.below hb)
  have HX10 := Lib.hid (HX9.out.below hb)
  clear hb hmo HM9 HC9 HA9 HX9 y0 y1 y2 y3 y4 y5 y6 y7 y8 y9 y10 y11
  have hba := (Below.refl w10.heap.size w10).alloc (Nat.le_refl _) (.cells #[.int .i64 mi3, .int .i64 mo3, .int .i64 mr3, .bool b13, .bool b23, .bool b33, .bool b43, .bool b53, .slice qa3 ql3 qc3, .slice na3 nl3 nc3, .slice sa3 sl3 sc3, .slice xa3 xl3 xc3] 27)
  have HD11 := Lib.hid (CN.new w10 #[.int .i64 mi3, .int .i64 mo3, .int .i64 mr3, .bool b13, .bool b23, .bool b33, .bool b43, .bool b53, .slice qa3 ql3 qc3, .slice na3 nl3 nc3, .slice sa3 sl3 sc3, .slice xa3 xl3 xc3] 27)
  have HY11 := Lib.hid (hat.below hba)
  have HB11 := Lib.hid (HB10.out.trans (hba.mono HB10.out.size))
  have HM11 := Lib.hid (HM10.out.below hba)
  have HC11 := Lib.hid (HC10.out.below hba)
  have HA11 := Lib.hid (HA10.out.below hba)
  have HX11 := Lib.hid (HX10.out.below hba)
  obtain ⟨w11, hw11⟩ : ∃ x, w10.alloc (.cells #[.int .i64 mi3, .int .i64 mo3, .int .i64 mr3, .bool b13, .bool b23, .bool b33, .bool b43, .bool b53, .slice qa3 ql3 qc3, .slice na3 nl3 nc3, .slice sa3 sl3 sc3, .slice xa3 xl3 xc3] 27) = x := ⟨_, rfl⟩
  obtain ⟨q3, hq3⟩ : ∃ x, w10.heap.size = x := ⟨_, rfl⟩
  rw [hw11, hq3] at HD11
  rw [hw11] at HM11 HB11 HX11 HC11 HA11 HY11
  have HW11 := Lib.hid hw11
  have HQ3 := Lib.hid hq3
  clear hba hw11 hq3 hat HM10 HC10 HA10 HX10
  have hnr := HNR.out
  have d4 := dF (p := n < l) (by omega)
  have d5 := dF (p := k < n) (by omega)
  go_upto_region 9 with fail
  rw [HW11.out, HQ3.out]
  clear HW11 HQ3
  obtain ⟨y0, y1, y2, y3, y4, y5, y6, y7, y8, y9, y10, y11, _⟩ := HC11.out.u12
  go_wp2_with fail
  refine (sizeM_any _ _ _ l k HM11.out HS1.out.sm.2.2.2).mono ?_; rintro e w12 ⟨rfl, hb⟩
  have hs := sizeO_none m.x l k
  have HB12 := Lib.hid (HB11.out.trans (hb.mono HB11.out.size))
  have HA12 := Lib.hid (HA11.out.below hb)
  have HX12 := Lib.hid (HX11.out.below hb)
  have HD12 := Lib.hid (HD11.out.below hb)
  have HY12 := Lib.hid (HY11.out.below hb)
  clear hb HA11 HX11 HD11 HY11 HM11 HC11 y0 y1 y2 y3 y4 y5 y6 y7 y8 y9 y10 y11
  simp only [hs]
  clear hs
  obtain ⟨y0, y1, y2, y3, y4, y5, y6, y7, y8, y9, y10, y11, _⟩ := HD12.out.u12
  go_wp2_with fail
  have hyl : (keepR optB (keepR optB m.x) ++ List.map putR [⟨z, 0, 0, false, ⟨#[]⟩⟩, opt0]).length ≤ 100000 := by
    rw [keep_bb, List.length_append]
    have := HS1.out.2.2.2.1
    simp only [List.length_map, List.length_cons, List.length_nil]
    simp only at this
    omega
  refine (sizeM_any _ _ _ l k HY12.out hyl).mono ?_; rintro e w13 ⟨rfl, hb⟩
  have hs : sizeO (keepR optB (keepR optB m.x) ++ List.map putR [⟨z, 0, 0, false, ⟨#[]⟩⟩, opt0]) l k = l := by
    rw [keep_bb]; exact sizeO_two m.x hpe.out hpe0.out l k
  have HB13 := Lib.hid (HB12.out.trans (hb.mono HB12.out.size))
  have HA13 := Lib.hid (HA12.out.below hb)
  have HX13 := Lib.hid (HX12.out.below hb)
  clear hb HA12 HX12 HD12 HY12 hyl y0 y1 y2 y3 y4 y5 y6 y7 y8 y9 y10 y11
  simp only [hs]
  clear hs
  obtain ⟨y0, y1, y2, y3, y4, y5, y6, y7, y8, y9, y10, y11, _⟩ := HA13.out.u12
  go_wp2_with fail
  have hxl : (keepR optB (keepR optB m.x) ++ List.map putR [⟨z, 0, 0, false, ⟨#[]⟩⟩]).length ≤ 100000 := by
    rw [keep_bb, List.length_append]
    have := HS1.out.2.2.2.1
    simp only [List.length_map, List.length_cons, List.length_nil]
    simp only at this
    omega
  refine (sizeM_any _ _ _ l k HX13.out hxl).mono ?_; rintro e w14 ⟨rfl, hb⟩
  have hs : sizeO (keepR optB (keepR optB m.x) ++ List.map putR [⟨z, 0, 0, false, ⟨#[]⟩⟩]) l k = if k < (if z < l then l else z) then k else (if z < l then l else z) := by
    rw [keep_bb]; exact sizeO_one m.x hpe.out l k
  have HB14 := Lib.hid (HB13.out.trans (hb.mono HB13.out.size))
  obtain ⟨c, hc⟩ : ∃ c, sizeO (keepR optB (keepR optB m.x) ++ List.map putR [⟨z, 0, 0, false, ⟨#[]⟩⟩]) l k = c := ⟨_, rfl⟩
  rw [hc] at hs
  simp only [hc]
  have hcc : c = z ∨ (z < l ∧ c = l ∧ c ≠ z) ∨ (k < z ∧ c = k ∧ c ≠ z ∧ ¬ z < l) := by
    rw [hs]
    split <;> split <;> omega
  clear hb hs hc HA13 HX13 hxl y0 y1 y2 y3 y4 y5 y6 y7 y8 y9 y10 y11
  go_wp2_with fail
  refine (first6 _).mono ?_; rintro e w15 ⟨rfl, hb⟩
  have HB15 := Lib.hid (HB14.out.trans (hb.mono HB14.out.size))
  clear hb hnr
  rcases hcc with h9 | ⟨h8, h9, h7⟩ | ⟨h8, h9, h7, h6⟩
  · have e1 := eT h9
    clear h9
    go_wp2
    go_ret
    exact ⟨rfl, HB15.out⟩
  · have e1 := eF h7
    have e2 := dT h8
    have e3 := eT h9
    clear h7 h9
    go_wp2
    go_ret
    exact ⟨rfl, HB15.out⟩
  · have e1 := eF h7
    have e2 := dF (p := z < l) (by omega)
    have e4 := dT h8
    have e3 := eT h9
    clear h7 h9
    go_wp2
    go_ret
    exact ⟨rfl, HB15.out⟩
end Go.Proofs.Ytkoafkajmfodkaa
