/- EdnsBack: the walk. -/
import Derived.Test.YtkoafkajmfodkaaBt6
import Derived.Test.YtkoafkajmfodkaaSaM
import Derived.Test.YtkoafkajmfodkaaFix
import Derived.Deep.RegionHeld3
import Derived.IntWalk
namespace Go.Proofs.Ytkoafkajmfodkaa
open Go.RowKit

/-- A message that is told, opened. -/
theorem MsgAt.open {w : World} {v : Value} {m : MsgP} (h : MsgAt w v m) : ∃ (mi mo mr : Int) (b1 b2 b3 b4 b5 : Bool) (qa na sa xa : Option Addr) (ql qc nl nc sl sc xl xc : Nat), v = .agg #[.int .i64 mi, .int .i64 mo, .int .i64 mr, .bool b1, .bool b2, .bool b3, .bool b4, .bool b5, .slice qa ql qc, .slice na nl nc, .slice sa sl sc, .slice xa xl xc] ∧ m.q.length = ql ∧ m.a.length = nl ∧ m.n.length = sl ∧ m.x.length = xl ∧ RowQ w qa ql m.q ∧ RowR w na nl m.a ∧ RowR w sa sl m.n ∧ RowR w xa xl m.x := by
  obtain ⟨qa, qc, na, nc, sa, sc, xa, xc, rfl, h1, h2, h3, h4⟩ := h
  exact ⟨_, _, _, _, _, _, _, _, qa, na, sa, xa, _, qc, _, nc, _, sc, _, xc, rfl, rfl, rfl, rfl, rfl, h1.1, h2.1, h3.1, h4.1⟩
theorem with_one (o : OptP) : withE [o] = putE o := by
  rw [withE]; split
  · rename_i h; rw [withE, h]
  · rfl
theorem with_two {o : OptP} (h : putE o = 0) : withE [o, o] = 0 := by rw [withE, if_pos h, with_one, h]
theorem strip_put (X : List R5) {o : OptP} (h : putE o = 0) : keepR optB (keepR optB X ++ [putR o]) = keepR optB X := by
  rw [keepR_app, keep_bb, putR_ok h]
  simp [keepR, optB]
theorem rowO_one (w : World) (o : OptP) : RowO (w.alloc (.cells #[.int .i64 o.size, .int .i64 o.ver, .int .i64 o.rc, .bool o.d, .string o.data] 80)) (some ⟨w.heap.size, 0, none⟩) 1 [o] :=
  ⟨rfl, cells_lit w #[.int .i64 o.size, .int .i64 o.ver, .int .i64 o.rc, .bool o.d, .string o.data] 80⟩
theorem rowO_two (w : World) (o p : OptP) : RowO (w.alloc (.cells #[.int .i64 o.size, .int .i64 o.ver, .int .i64 o.rc, .bool o.d, .string o.data, .int .i64 p.size, .int .i64 p.ver, .int .i64 p.rc, .bool p.d, .string p.data] 80)) (some ⟨w.heap.size, 0, none⟩) 2 [o, p] :=
  ⟨rfl, cells_lit w #[.int .i64 o.size, .int .i64 o.ver, .int .i64 o.rc, .bool o.d, .string o.data, .int .i64 p.size, .int .i64 p.ver, .int .i64 p.rc, .bool p.d, .string p.data] 80⟩
theorem getM_is (v : Value) (m : MsgP) (w : World) (s a c : Int) (d : Bool) (t : ByteArray) (k : Bool) (r : Int) (h : MsgAt w v m) (hs : m.x.length ≤ 100000) (hg : getO m.x = (⟨s, a, c, d, t⟩, k, r)) :
    Calls Try.prog 44 #[v] w fun e w' => e = .returned (.tuple #[.agg #[.int .i64 s, .int .i64 a, .int .i64 c, .bool d, .string t], .bool k, .int .i64 r]) ∧ Below w.heap.size w w' := by
  refine (getM_any v m w h hs).mono ?_
  rintro e w' ⟨rfl, hb⟩
  rw [hg]
  exact ⟨rfl, hb⟩

set_option maxRecDepth 100000 in
set_option maxHeartbeats 32000000 in
theorem walkBack (v : Value) (m : MsgP) (os ov orc : Int) (ob : Bool) (od : ByteArray) (w : World) (hm : MsgAt w v m) (hz : SzM m) (hod : od.size ≤ 9223372036854775807) :
    Calls Try.prog 11 #[v, .agg #[.int .i64 os, .int .i64 ov, .int .i64 orc, .bool ob, .string od]] w fun e w' => e = .returned (.bool true) ∧ Below w.heap.size w w' := by
  have HOD := Lib.hid hod
  clear hod
  have hA := hm
  obtain ⟨mi, mo, mr, b1, b2, b3, b4, b5, qa, na, sa, xa, ql, qc, nl, nc, sl, sc, xl, xc, rfl, e1_0, e2_0, e3_0, e4_0, -, -, -, -⟩ := hA.open
  clear hA
  have hb0 := (Below.refl w.heap.size w).alloc (Nat.le_refl _) (.cells #[.int .i64 mi, .int .i64 mo, .int .i64 mr, .bool b1, .bool b2, .bool b3, .bool b4, .bool b5, .slice qa ql qc, .slice na nl nc, .slice sa sl sc, .slice xa xl xc] 27)
  have hb1 := (Below.refl _ (w.alloc (.cells #[.int .i64 mi, .int .i64 mo, .int .i64 mr, .bool b1, .bool b2, .bool b3, .bool b4, .bool b5, .slice qa ql qc, .slice na nl nc, .slice sa sl sc, .slice xa xl xc] 27))).alloc (Nat.le_refl _) (.cells #[.int .i64 os, .int .i64 ov, .int .i64 orc, .bool ob, .string od] 80)
  have HC := Lib.hid ((CN.new w #[.int .i64 mi, .int .i64 mo, .int .i64 mr, .bool b1, .bool b2, .bool b3, .bool b4, .bool b5, .slice qa ql qc, .slice na nl nc, .slice sa sl sc, .slice xa xl xc] 27).below hb1)
  have hco := CN.new (w.alloc (.cells #[.int .i64 mi, .int .i64 mo, .int .i64 mr, .bool b1, .bool b2, .bool b3, .bool b4, .bool b5, .slice qa ql qc, .slice na nl nc, .slice sa sl sc, .slice xa xl xc] 27)) #[.int .i64 os, .int .i64 ov, .int .i64 orc, .bool ob, .string od] 80
  rw [World.size_alloc] at hco
  have HO := Lib.hid hco
  have hbw := hb0.trans (hb1.mono hb0.size)
  have HB := Lib.hid hbw
  have HM := Lib.hid (hm.below hbw)
  have HZ := Lib.hid hz
  clear hm hz hb0 hb1 hco hbw
  obtain ⟨q0, hq0⟩ : ∃ x, w.heap.size = x := ⟨_, rfl⟩
  obtain ⟨q1, hq1⟩ : ∃ x, q0 + 1 = x := ⟨_, rfl⟩
  rw [hq0] at HC HO
  rw [hq1] at HO
  have HQ0 := Lib.hid hq0
  have HQ1 := Lib.hid hq1
  clear hq0 hq1
  obtain ⟨E, hE⟩ : ∃ x, putE ⟨os, ov, orc, ob, od⟩ = x := ⟨_, rfl⟩
  have HE := Lib.hid hE
  clear hE
  go_enter Try.func11, Try.ntmps11
  go_wp2_with fail
  refine (first6 _).mono ?_; rintro e w2 ⟨rfl, hb⟩
  rw [HQ0.out, HQ1.out]
  replace HB := Lib.hid (HB.out.trans (hb.mono HB.out.size))
  replace HC := Lib.hid (HC.out.below hb)
  replace HO := Lib.hid (HO.out.below hb)
  replace HM := Lib.hid (HM.out.below hb)
  clear hb
  obtain ⟨y0, y1, y2, y3, y4, y5, y6, y7, y8, y9, y10, y11, _⟩ := HC.out.u12
  go_wp2_with fail
  refine (few5_any _ m _ HM.out HZ.out).mono ?_; rintro e w3 ⟨he, hb⟩
  clear y0 y1 y2 y3 y4 y5 y6 y7 y8 y9 y10 y11
  replace HB := Lib.hid (HB.out.trans (hb.mono HB.out.size))
  replace HC := Lib.hid (HC.out.below hb)
  replace HO := Lib.hid (HO.out.below hb)
  replace HM := Lib.hid (HM.out.below hb)
  clear hb
  rcases he with rfl | ⟨rfl, hsm⟩
  · go_wp2_with fail
    refine (first6 _).mono ?_; rintro e w4 ⟨rfl, hb⟩
    replace HB := Lib.hid (HB.out.trans (hb.mono HB.out.size))
    replace HC := Lib.hid (HC.out.below hb)
    replace HO := Lib.hid (HO.out.below hb)
    replace HM := Lib.hid (HM.out.below hb)
    clear hb
    go_wp2
    go_ret
    exact ⟨rfl, HB.out⟩
  have HSM := Lib.hid hsm
  clear hsm
  by_cases h1 : 2000 < od.size
  · have d1 := dT (p := (2000 : Int) < (od.size : Int)) (by omega)
    obtain ⟨z0, z1, z2, z3, z4, _⟩ := HO.out.u5
    go_wp2_with fail
    refine (first6 _).mono ?_; rintro e w5 ⟨rfl, hb⟩
    clear z0 z1 z2 z3 z4
    replace HB := Lib.hid (HB.out.trans (hb.mono HB.out.size))
    replace HC := Lib.hid (HC.out.below hb)
    replace HO := Lib.hid (HO.out.below hb)
    replace HM := Lib.hid (HM.out.below hb)
    clear hb
    go_wp2
    go_ret
    exact ⟨rfl, HB.out⟩
  have d1 := dF (p := (2000 : Int) < (od.size : Int)) (by omega)
  clear h1
  obtain ⟨y0, y1, y2, y3, y4, y5, y6, y7, y8, y9, y10, y11, _⟩ := HC.out.u12
  obtain ⟨z0, z1, z2, z3, z4, _⟩ := HO.out.u5
  have HR := Lib.hid (rowO_one w3 ⟨os, ov, orc, ob, od⟩)
  have hba := (Below.refl w3.heap.size w3).alloc (Nat.le_refl _) (.cells #[.int .i64 os, .int .i64 ov, .int .i64 orc, .bool ob, .string od] 80)
  replace HC := Lib.hid (HC.out.below hba)
  replace HO := Lib.hid (HO.out.below hba)
  replace HM := Lib.hid (HM.out.below hba)
  replace HB := Lib.hid (HB.out.trans (hba.mono HB.out.size))
  obtain ⟨w6, hw⟩ : ∃ x, w3.alloc (.cells #[.int .i64 os, .int .i64 ov, .int .i64 orc, .bool ob, .string od] 80) = x := ⟨_, rfl⟩
  obtain ⟨q6, hq⟩ : ∃ x, w3.heap.size = x := ⟨_, rfl⟩
  rw [hw, hq] at HR
  rw [hw] at HB HC HO HM
  have HW := Lib.hid hw
  have HQ := Lib.hid hq
  clear hba hw hq
  go_wp2_with fail
  clear d1
  rw [HW.out, HQ.out]
  clear HW HQ
  refine (withM_any _ m _ 1 1 [⟨os, ov, orc, ob, od⟩] _ HM.out HSM.out HR.out (by omega) (by intro o ho; rw [List.mem_singleton.1 ho]; exact HOD.out)).mono ?_; rintro e w7 ⟨he, hb⟩
  clear y0 y1 y2 y3 y4 y5 y6 y7 y8 y9 y10 y11 z0 z1 z2 z3 z4
  replace HB := Lib.hid (HB.out.trans (hb.mono HB.out.size))
  replace HC := Lib.hid (HC.out.below hb)
  replace HO := Lib.hid (HO.out.below hb)
  replace HM := Lib.hid (HM.out.below hb)
  replace HR := Lib.hid (HR.out.below hb)
  clear hb
  rw [with_one, HE.out] at he
  rcases he with ⟨h0, v5, rfl, hmo⟩ | ⟨hne, rfl⟩
  rotate_left
  · have e1 := nT hne
    have e2 : (E == E) = true := eT rfl
    have hba := (Below.refl w7.heap.size w7).alloc (Nat.le_refl _) (.cells #[.int .i64 0, .int .i64 0, .int .i64 0, .bool false, .bool false, .bool false, .bool false, .bool false, .slice none 0 0, .slice none 0 0, .slice none 0 0, .slice none 0 0] 27)
    replace HC := Lib.hid (HC.out.below hba)
    replace HO := Lib.hid (HO.out.below hba)
    replace HM := Lib.hid (HM.out.below hba)
    replace HR := Lib.hid (HR.out.below hba)
    replace HB := Lib.hid (HB.out.trans (hba.mono HB.out.size))
    obtain ⟨w8, hw⟩ : ∃ x, w7.alloc (.cells #[.int .i64 0, .int .i64 0, .int .i64 0, .bool false, .bool false, .bool false, .bool false, .bool false, .slice none 0 0, .slice none 0 0, .slice none 0 0, .slice none 0 0] 27) = x := ⟨_, rfl⟩
    obtain ⟨q8, hq⟩ : ∃ x, w7.heap.size = x := ⟨_, rfl⟩
    rw [hw] at HB HC HO HM HR
    have HW := Lib.hid hw
    have HQ := Lib.hid hq
    clear hba hw hq
    go_upto_region 7 with fail
    rw [HW.out, HQ.out]
    clear HW HQ
    obtain ⟨z0, z1, z2, z3, z4, _⟩ := HO.out.u5
    go_wp2_with fail
    refine (putO_any ⟨os, ov, orc, ob, od⟩ _ HOD.out).mono ?_; rintro e w9 ⟨rfl, hb⟩
    rw [HE.out]
    obtain ⟨⟨⟨rn, rt, rc⟩, ru, rd⟩, hR⟩ : ∃ x, putR ⟨os, ov, orc, ob, od⟩ = x := ⟨_, rfl⟩
    rw [hR]
    clear hR
    clear z0 z1 z2 z3 z4
    replace HB := Lib.hid (HB.out.trans (hb.mono HB.out.size))
    replace HC := Lib.hid (HC.out.below hb)
    replace HO := Lib.hid (HO.out.below hb)
    replace HM := Lib.hid (HM.out.below hb)
    replace HR := Lib.hid (HR.out.below hb)
    clear hb
    have hba := (Below.refl w9.heap.size w9).alloc (Nat.le_refl _) (.cells #[.string rn, .int .i64 rt, .int .i64 rc, .int .i64 ru, .string rd] 75)
    replace HC := Lib.hid (HC.out.below hba)
    replace HO := Lib.hid (HO.out.below hba)
    replace HM := Lib.hid (HM.out.below hba)
    replace HR := Lib.hid (HR.out.below hba)
    replace HB := Lib.hid (HB.out.trans (hba.mono HB.out.size))
    obtain ⟨w10, hw⟩ : ∃ x, w9.alloc (.cells #[.string rn, .int .i64 rt, .int .i64 rc, .int .i64 ru, .string rd] 75) = x := ⟨_, rfl⟩
    obtain ⟨q10, hq⟩ : ∃ x, w9.heap.size = x := ⟨_, rfl⟩
    rw [hw] at HB HC HO HM HR
    have HW := Lib.hid hw
    have HQ := Lib.hid hq
    clear hba hw hq
    go_wp2_with fail
    rw [HW.out]
    clear HW HQ
    refine (first6 _).mono ?_; rintro e w11 ⟨rfl, hb⟩
    replace HB := Lib.hid (HB.out.trans (hb.mono HB.out.size))
    replace HC := Lib.hid (HC.out.below hb)
    replace HO := Lib.hid (HO.out.below hb)
    replace HM := Lib.hid (HM.out.below hb)
    replace HR := Lib.hid (HR.out.below hb)
    clear hb
    go_wp2
    go_ret
    exact ⟨rfl, HB.out⟩
  clear HR
  subst h0
  have hat : MsgAt w7 v5 ({ m with x := keepR optB m.x ++ [putR ⟨os, ov, orc, ob, od⟩] } : MsgP) := hmo.at
  clear hmo
  have hA := hat
  obtain ⟨mi_1, mo_1, mr_1, b1_1, b2_1, b3_1, b4_1, b5_1, qa_1, na_1, sa_1, xa_1, ql_1, qc_1, nl_1, nc_1, sl_1, sc_1, xl_1, xc_1, rfl, e1_1, e2_1, e3_1, e4_1, -, -, -, hx_1⟩ := hat.open
  have HX := Lib.hid hA
  clear hA hx_1
  have hba := (Below.refl w7.heap.size w7).alloc (Nat.le_refl _) (.cells #[.int .i64 mi_1, .int .i64 mo_1, .int .i64 mr_1, .bool b1_1, .bool b2_1, .bool b3_1, .bool b4_1, .bool b5_1, .slice qa_1 ql_1 qc_1, .slice na_1 nl_1 nc_1, .slice sa_1 sl_1 sc_1, .slice xa_1 xl_1 xc_1] 27)
  have HA := Lib.hid (CN.new w7 #[.int .i64 mi_1, .int .i64 mo_1, .int .i64 mr_1, .bool b1_1, .bool b2_1, .bool b3_1, .bool b4_1, .bool b5_1, .slice qa_1 ql_1 qc_1, .slice na_1 nl_1 nc_1, .slice sa_1 sl_1 sc_1, .slice xa_1 xl_1 xc_1] 27)
  replace HC := Lib.hid (HC.out.below hba)
  replace HO := Lib.hid (HO.out.below hba)
  replace HM := Lib.hid (HM.out.below hba)
  replace HX := Lib.hid (HX.out.below hba)
  replace HB := Lib.hid (HB.out.trans (hba.mono HB.out.size))
  obtain ⟨w12, hw⟩ : ∃ x, w7.alloc (.cells #[.int .i64 mi_1, .int .i64 mo_1, .int .i64 mr_1, .bool b1_1, .bool b2_1, .bool b3_1, .bool b4_1, .bool b5_1, .slice qa_1 ql_1 qc_1, .slice na_1 nl_1 nc_1, .slice sa_1 sl_1 sc_1, .slice xa_1 xl_1 xc_1] 27) = x := ⟨_, rfl⟩
  obtain ⟨q12, hq⟩ : ∃ x, w7.heap.size = x := ⟨_, rfl⟩
  rw [hw, hq] at HA
  rw [hw] at HB HC HO HM HX
  have HW := Lib.hid hw
  have HQ := Lib.hid hq
  clear hba hw hq
  go_upto_region 6 with fail
  rw [HW.out, HQ.out]
  clear HW HQ
  have HPE := HE.out
  have hget : getO ({ m with x := keepR optB m.x ++ [putR ⟨os, ov, orc, ob, od⟩] } : MsgP).x = (⟨os, ov, orc, ob, od⟩, true, 0) := by show getO (keepR optB m.x ++ [putR ⟨os, ov, orc, ob, od⟩]) = _; rw [getO_one m.x HE.out, optOf_put HE.out]
  have hlen : ({ m with x := keepR optB m.x ++ [putR ⟨os, ov, orc, ob, od⟩] } : MsgP).x.length ≤ 100000 := by show (keepR optB m.x ++ [putR ⟨os, ov, orc, ob, od⟩]).length ≤ 100000; have h1 := List.length_filter_le (fun r => !optB r) m.x; have h2 := HSM.out.2.2.2.1; rw [List.length_append, keepR]; simp only [List.length_cons, List.length_nil]; omega
  have HGET := Lib.hid hget
  have HLEN := Lib.hid hlen
  clear hget hlen HPE
  obtain ⟨y0, y1, y2, y3, y4, y5, y6, y7, y8, y9, y10, y11, _⟩ := HA.out.u12
  go_wp2_with fail
  refine (getM_is _ ({ m with x := keepR optB m.x ++ [putR ⟨os, ov, orc, ob, od⟩] } : MsgP) _ os ov orc ob od true 0 HX.out HLEN.out HGET.out).mono ?_; rintro e w13 ⟨rfl, hb⟩
  clear y0 y1 y2 y3 y4 y5 y6 y7 y8 y9 y10 y11
  replace HB := Lib.hid (HB.out.trans (hb.mono HB.out.size))
  replace HC := Lib.hid (HC.out.below hb)
  replace HO := Lib.hid (HO.out.below hb)
  replace HM := Lib.hid (HM.out.below hb)
  replace HX := Lib.hid (HX.out.below hb)
  replace HA := Lib.hid (HA.out.below hb)
  clear hb
  have hba := (Below.refl w13.heap.size w13).alloc (Nat.le_refl _) (.cells #[.int .i64 os, .int .i64 ov, .int .i64 orc, .bool ob, .string od] 80)
  have HP := Lib.hid (CN.new w13 #[.int .i64 os, .int .i64 ov, .int .i64 orc, .bool ob, .string od] 80)
  replace HC := Lib.hid (HC.out.below hba)
  replace HO := Lib.hid (HO.out.below hba)
  replace HM := Lib.hid (HM.out.below hba)
  replace HX := Lib.hid (HX.out.below hba)
  replace HA := Lib.hid (HA.out.below hba)
  replace HB := Lib.hid (HB.out.trans (hba.mono HB.out.size))
  obtain ⟨w14, hw⟩ : ∃ x, w13.alloc (.cells #[.int .i64 os, .int .i64 ov, .int .i64 orc, .bool ob, .string od] 80) = x := ⟨_, rfl⟩
  obtain ⟨q14, hq⟩ : ∃ x, w13.heap.size = x := ⟨_, rfl⟩
  rw [hw, hq] at HP
  rw [hw] at HB HC HO HM HX HA
  have HW := Lib.hid hw
  have HQ := Lib.hid hq
  clear hba hw hq
  go_upto_region 10 with fail
  rw [HW.out, HQ.out]
  clear HW HQ
  obtain ⟨y0, y1, y2, y3, y4, y5, y6, y7, y8, y9, y10, y11, _⟩ := HC.out.u12
  obtain ⟨z0, z1, z2, z3, z4, _⟩ := HO.out.u5
  have HR := Lib.hid (rowO_two w14 ⟨os, ov, orc, ob, od⟩ ⟨os, ov, orc, ob, od⟩)
  have hba := (Below.refl w14.heap.size w14).alloc (Nat.le_refl _) (.cells #[.int .i64 os, .int .i64 ov, .int .i64 orc, .bool ob, .string od, .int .i64 os, .int .i64 ov, .int .i64 orc, .bool ob, .string od] 80)
  replace HC := Lib.hid (HC.out.below hba)
  replace HO := Lib.hid (HO.out.below hba)
  replace HM := Lib.hid (HM.out.below hba)
  replace HX := Lib.hid (HX.out.below hba)
  replace HA := Lib.hid (HA.out.below hba)
  replace HP := Lib.hid (HP.out.below hba)
  replace HB := Lib.hid (HB.out.trans (hba.mono HB.out.size))
  obtain ⟨w15, hw⟩ : ∃ x, w14.alloc (.cells #[.int .i64 os, .int .i64 ov, .int .i64 orc, .bool ob, .string od, .int .i64 os, .int .i64 ov, .int .i64 orc, .bool ob, .string od] 80) = x := ⟨_, rfl⟩
  obtain ⟨q15, hq⟩ : ∃ x, w14.heap.size = x := ⟨_, rfl⟩
  rw [hw, hq] at HR
  rw [hw] at HB HC HO HM HX HA HP
  have HW := Lib.hid hw
  have HQ := Lib.hid hq
  clear hba hw hq
  go_wp2_with fail
  rw [HW.out, HQ.out]
  clear HW HQ
  refine (withM_any _ m _ 2 2 [⟨os, ov, orc, ob, od⟩, ⟨os, ov, orc, ob, od⟩] _ HM.out HSM.out HR.out (by omega) (by intro o ho; simp only [List.mem_cons, List.not_mem_nil, or_false, or_self] at ho; rw [ho]; exact HOD.out)).mono ?_; rintro e w16 ⟨he, hb⟩
  clear y0 y1 y2 y3 y4 y5 y6 y7 y8 y9 y10 y11 z0 z1 z2 z3 z4
  replace HB := Lib.hid (HB.out.trans (hb.mono HB.out.size))
  replace HC := Lib.hid (HC.out.below hb)
  replace HO := Lib.hid (HO.out.below hb)
  replace HM := Lib.hid (HM.out.below hb)
  replace HX := Lib.hid (HX.out.below hb)
  replace HA := Lib.hid (HA.out.below hb)
  replace HP := Lib.hid (HP.out.below hb)
  replace HR := Lib.hid (HR.out.below hb)
  clear hb
  rw [with_two HE.out] at he
  rcases he with ⟨-, v2, rfl, hmo⟩ | ⟨hne, -⟩
  rotate_left
  · exact absurd rfl hne
  clear HR
  have hat : MsgAt w16 v2 ({ m with x := keepR optB m.x ++ [putR ⟨os, ov, orc, ob, od⟩, putR ⟨os, ov, orc, ob, od⟩] } : MsgP) := hmo.at
  clear hmo
  have hA := hat
  obtain ⟨mi_2, mo_2, mr_2, b1_2, b2_2, b3_2, b4_2, b5_2, qa_2, na_2, sa_2, xa_2, ql_2, qc_2, nl_2, nc_2, sl_2, sc_2, xl_2, xc_2, rfl, e1_2, e2_2, e3_2, e4_2, -, -, -, hx_2⟩ := hat.open
  have HY := Lib.hid hA
  clear hA hx_2
  have hba := (Below.refl w16.heap.size w16).alloc (Nat.le_refl _) (.cells #[.int .i64 mi_2, .int .i64 mo_2, .int .i64 mr_2, .bool b1_2, .bool b2_2, .bool b3_2, .bool b4_2, .bool b5_2, .slice qa_2 ql_2 qc_2, .slice na_2 nl_2 nc_2, .slice sa_2 sl_2 sc_2, .slice xa_2 xl_2 xc_2] 27)
  have HD := Lib.hid (CN.new w16 #[.int .i64 mi_2, .int .i64 mo_2, .int .i64 mr_2, .bool b1_2, .bool b2_2, .bool b3_2, .bool b4_2, .bool b5_2, .slice qa_2 ql_2 qc_2, .slice na_2 nl_2 nc_2, .slice sa_2 sl_2 sc_2, .slice xa_2 xl_2 xc_2] 27)
  replace HC := Lib.hid (HC.out.below hba)
  replace HO := Lib.hid (HO.out.below hba)
  replace HM := Lib.hid (HM.out.below hba)
  replace HX := Lib.hid (HX.out.below hba)
  replace HA := Lib.hid (HA.out.below hba)
  replace HP := Lib.hid (HP.out.below hba)
  replace HY := Lib.hid (HY.out.below hba)
  replace HB := Lib.hid (HB.out.trans (hba.mono HB.out.size))
  obtain ⟨w17, hw⟩ : ∃ x, w16.alloc (.cells #[.int .i64 mi_2, .int .i64 mo_2, .int .i64 mr_2, .bool b1_2, .bool b2_2, .bool b3_2, .bool b4_2, .bool b5_2, .slice qa_2 ql_2 qc_2, .slice na_2 nl_2 nc_2, .slice sa_2 sl_2 sc_2, .slice xa_2 xl_2 xc_2] 27) = x := ⟨_, rfl⟩
  obtain ⟨q17, hq⟩ : ∃ x, w16.heap.size = x := ⟨_, rfl⟩
  rw [hw, hq] at HD
  rw [hw] at HB HC HO HM HX HA HP HY
  have HW := Lib.hid hw
  have HQ := Lib.hid hq
  clear hba hw hq
  go_upto_region 11 with fail
  rw [HW.out, HQ.out]
  clear HW HQ
  obtain ⟨y0, y1, y2, y3, y4, y5, y6, y7, y8, y9, y10, y11, _⟩ := HD.out.u12
  have hget : getO (keepR optB m.x ++ [putR ⟨os, ov, orc, ob, od⟩, putR ⟨os, ov, orc, ob, od⟩]) = (opt0, false, 7) := getO_two m.x HE.out HE.out
  have hlen : (keepR optB m.x ++ [putR ⟨os, ov, orc, ob, od⟩, putR ⟨os, ov, orc, ob, od⟩]).length ≤ 100000 := by have h1 := List.length_filter_le (fun r => !optB r) m.x; have h2 := HSM.out.2.2.2.1; rw [List.length_append, keepR]; simp only [List.length_cons, List.length_nil]; omega
  go_wp2_with fail
  refine (getM_is _ ({ m with x := keepR optB m.x ++ [putR ⟨os, ov, orc, ob, od⟩, putR ⟨os, ov, orc, ob, od⟩] } : MsgP) _ 0 0 0 false ⟨#[]⟩ false 7 HY.out hlen hget).mono ?_; rintro e w18 ⟨rfl, hb⟩
  clear hget hlen
  clear y0 y1 y2 y3 y4 y5 y6 y7 y8 y9 y10 y11
  replace HB := Lib.hid (HB.out.trans (hb.mono HB.out.size))
  replace HC := Lib.hid (HC.out.below hb)
  replace HO := Lib.hid (HO.out.below hb)
  replace HM := Lib.hid (HM.out.below hb)
  replace HX := Lib.hid (HX.out.below hb)
  replace HA := Lib.hid (HA.out.below hb)
  replace HP := Lib.hid (HP.out.below hb)
  replace HY := Lib.hid (HY.out.below hb)
  replace HD := Lib.hid (HD.out.below hb)
  clear hb
  clear HY HD
  have hba := (Below.refl w18.heap.size w18).alloc (Nat.le_refl _) (.cells #[.int .i64 0, .int .i64 0, .int .i64 0, .bool false, .string ⟨#[]⟩] 80)
  replace HC := Lib.hid (HC.out.below hba)
  replace HO := Lib.hid (HO.out.below hba)
  replace HM := Lib.hid (HM.out.below hba)
  replace HX := Lib.hid (HX.out.below hba)
  replace HA := Lib.hid (HA.out.below hba)
  replace HP := Lib.hid (HP.out.below hba)
  replace HB := Lib.hid (HB.out.trans (hba.mono HB.out.size))
  obtain ⟨w19, hw⟩ : ∃ x, w18.alloc (.cells #[.int .i64 0, .int .i64 0, .int .i64 0, .bool false, .string ⟨#[]⟩] 80) = x := ⟨_, rfl⟩
  obtain ⟨q19, hq⟩ : ∃ x, w18.heap.size = x := ⟨_, rfl⟩
  rw [hw] at HB HC HO HM HX HA HP
  have HW := Lib.hid hw
  have HQ := Lib.hid hq
  clear hba hw hq
  go_upto_region 12 with fail
  rw [HW.out, HQ.out]
  clear HW HQ
  obtain ⟨y0, y1, y2, y3, y4, y5, y6, y7, y8, y9, y10, y11, _⟩ := HA.out.u12
  have hsm1 : SmM ({ m with x := keepR optB m.x ++ [putR ⟨os, ov, orc, ob, od⟩] } : MsgP) := ⟨by have := HSM.out.1.1; show m.q.length ≤ 100000; omega, by have := HSM.out.2.1.1; show m.a.length ≤ 100000; omega, by have := HSM.out.2.2.1.1; show m.n.length ≤ 100000; omega, HLEN.out⟩
  have HSA := Lib.hid hsm1
  clear hsm1
  go_wp2_with fail
  refine (stripM_any _ ({ m with x := keepR optB m.x ++ [putR ⟨os, ov, orc, ob, od⟩] } : MsgP) _ HX.out HSA.out).mono ?_; rintro e w20 ⟨v3, rfl, hmo, hb⟩
  clear y0 y1 y2 y3 y4 y5 y6 y7 y8 y9 y10 y11
  replace HB := Lib.hid (HB.out.trans (hb.mono HB.out.size))
  replace HC := Lib.hid (HC.out.below hb)
  replace HO := Lib.hid (HO.out.below hb)
  replace HM := Lib.hid (HM.out.below hb)
  replace HX := Lib.hid (HX.out.below hb)
  replace HA := Lib.hid (HA.out.below hb)
  replace HP := Lib.hid (HP.out.below hb)
  clear hb
  have heq : keepR optB (keepR optB m.x ++ [putR ⟨os, ov, orc, ob, od⟩]) = keepR optB m.x := strip_put m.x HE.out
  have hat : MsgAt w20 v3 ({ m with x := keepR optB m.x } : MsgP) := by have h := hmo.at; simp only [heq] at h; exact h
  clear hmo heq
  have hA := hat
  obtain ⟨mi_3, mo_3, mr_3, b1_3, b2_3, b3_3, b4_3, b5_3, qa_3, na_3, sa_3, xa_3, ql_3, qc_3, nl_3, nc_3, sl_3, sc_3, xl_3, xc_3, rfl, e1_3, e2_3, e3_3, e4_3, -, -, -, hx_3⟩ := hat.open
  have HZ3 := Lib.hid hA
  have HRX := Lib.hid hx_3
  clear hA hx_3
  have hba := (Below.refl w20.heap.size w20).alloc (Nat.le_refl _) (.cells #[.int .i64 mi_3, .int .i64 mo_3, .int .i64 mr_3, .bool b1_3, .bool b2_3, .bool b3_3, .bool b4_3, .bool b5_3, .slice qa_3 ql_3 qc_3, .slice na_3 nl_3 nc_3, .slice sa_3 sl_3 sc_3, .slice xa_3 xl_3 xc_3] 27)
  have HS := Lib.hid (CN.new w20 #[.int .i64 mi_3, .int .i64 mo_3, .int .i64 mr_3, .bool b1_3, .bool b2_3, .bool b3_3, .bool b4_3, .bool b5_3, .slice qa_3 ql_3 qc_3, .slice na_3 nl_3 nc_3, .slice sa_3 sl_3 sc_3, .slice xa_3 xl_3 xc_3] 27)
  replace HC := Lib.hid (HC.out.below hba)
  replace HO := Lib.hid (HO.out.below hba)
  replace HM := Lib.hid (HM.out.below hba)
  replace HX := Lib.hid (HX.out.below hba)
  replace HA := Lib.hid (HA.out.below hba)
  replace HP := Lib.hid (HP.out.below hba)
  replace HZ3 := Lib.hid (HZ3.out.below hba)
  replace HRX := Lib.hid (HRX.out.below hba)
  replace HB := Lib.hid (HB.out.trans (hba.mono HB.out.size))
  obtain ⟨w21, hw⟩ : ∃ x, w20.alloc (.cells #[.int .i64 mi_3, .int .i64 mo_3, .int .i64 mr_3, .bool b1_3, .bool b2_3, .bool b3_3, .bool b4_3, .bool b5_3, .slice qa_3 ql_3 qc_3, .slice na_3 nl_3 nc_3, .slice sa_3 sl_3 sc_3, .slice xa_3 xl_3 xc_3] 27) = x := ⟨_, rfl⟩
  obtain ⟨q21, hq⟩ : ∃ x, w20.heap.size = x := ⟨_, rfl⟩
  rw [hw, hq] at HS
  rw [hw] at HB HC HO HM HX HA HP HZ3 HRX
  have HW := Lib.hid hw
  have HQ := Lib.hid hq
  clear hba hw hq
  go_upto_region 13 with fail
  rw [HW.out, HQ.out]
  clear HW HQ
  obtain ⟨y0, y1, y2, y3, y4, y5, y6, y7, y8, y9, y10, y11, _⟩ := HS.out.u12
  have hsl : (keepR optB m.x).length ≤ 400 := by have h1 := List.length_filter_le (fun r => !optB r) m.x; have h2 := HSM.out.2.2.2.1; rw [keepR]; omega
  have HSL := Lib.hid hsl
  clear hsl
  have hlen : (keepR optB m.x).length ≤ 100000 := by have := HSL.out; omega
  go_wp2_with fail
  refine (getM_is _ ({ m with x := keepR optB m.x } : MsgP) _ 0 0 0 false ⟨#[]⟩ false 0 HZ3.out hlen (getO_none m.x)).mono ?_; rintro e w22 ⟨rfl, hb⟩
  clear hlen
  clear y0 y1 y2 y3 y4 y5 y6 y7 y8 y9 y10 y11
  replace HB := Lib.hid (HB.out.trans (hb.mono HB.out.size))
  replace HC := Lib.hid (HC.out.below hb)
  replace HO := Lib.hid (HO.out.below hb)
  replace HM := Lib.hid (HM.out.below hb)
  replace HX := Lib.hid (HX.out.below hb)
  replace HA := Lib.hid (HA.out.below hb)
  replace HP := Lib.hid (HP.out.below hb)
  replace HZ3 := Lib.hid (HZ3.out.below hb)
  replace HRX := Lib.hid (HRX.out.below hb)
  replace HS := Lib.hid (HS.out.below hb)
  clear hb
  have hba := (Below.refl w22.heap.size w22).alloc (Nat.le_refl _) (.cells #[.int .i64 0, .int .i64 0, .int .i64 0, .bool false, .string ⟨#[]⟩] 80)
  replace HC := Lib.hid (HC.out.below hba)
  replace HO := Lib.hid (HO.out.below hba)
  replace HM := Lib.hid (HM.out.below hba)
  replace HX := Lib.hid (HX.out.below hba)
  replace HA := Lib.hid (HA.out.below hba)
  replace HP := Lib.hid (HP.out.below hba)
  replace HZ3 := Lib.hid (HZ3.out.below hba)
  replace HRX := Lib.hid (HRX.out.below hba)
  replace HS := Lib.hid (HS.out.below hba)
  replace HB := Lib.hid (HB.out.trans (hba.mono HB.out.size))
  obtain ⟨w23, hw⟩ : ∃ x, w22.alloc (.cells #[.int .i64 0, .int .i64 0, .int .i64 0, .bool false, .string ⟨#[]⟩] 80) = x := ⟨_, rfl⟩
  obtain ⟨q23, hq⟩ : ∃ x, w22.heap.size = x := ⟨_, rfl⟩
  rw [hw] at HB HC HO HM HX HA HP HZ3 HRX HS
  have HW := Lib.hid hw
  have HQ := Lib.hid hq
  clear hba hw hq
  go_upto_region 14 with fail
  rw [HW.out, HQ.out]
  clear HW HQ
  obtain ⟨y0, y1, y2, y3, y4, _⟩ := HP.out.u5
  obtain ⟨z0, z1, z2, z3, z4, _⟩ := HO.out.u5
  have hke : ∀ W, (binOp .neq 80 (.agg #[.int .i64 os, .int .i64 ov, .int .i64 orc, .bool ob, .string od]) (.agg #[.int .i64 os, .int .i64 ov, .int .i64 orc, .bool ob, .string od])).run Try.prog W = .ok (.bool false) W := fun W => by rw [op_neq]; simp
  go_wp2_with fail
  clear hke
  clear y0 y1 y2 y3 y4 z0 z1 z2 z3 z4
  have h400 : xl_3 ≤ 400 := by rw [← e4_3]; exact HSL.out
  go_loopw [21] (fun i wr => ∃ k : Nat, k ≤ xl_3 ∧ i = .int .i64 k ∧ wr = w23) (fun i _ => xl_3 - (intOf i).toNat)
  case atStart => exact ⟨0, Nat.zero_le _, rfl, rfl⟩
  case round =>
    obtain ⟨k, hk, rfl, rfl⟩ := hrel
    by_cases hlt : k < xl_3
    · obtain ⟨b, o, r, hxa, hbl, hr, -, c1, -, -, -⟩ := HRX.out.at k hlt
      subst hxa
      obtain ⟨⟨rn, rt, rc⟩, ru, rd⟩ := r
      replace c1 : wr.cell? ⟨b, o + k * 5 + 1, none⟩ = some (.int .i64 rt) := c1
      have hne : ¬ rt = 41 := fun h => by
        have h1 := (List.mem_filter.1 (List.mem_of_getElem? hr)).2
        simp [optB, h] at h1
      have e1 := eF hne
      clear hne hr
      have i1 : (0 : Int) ≤ (k : Int) := by omega
      have i2 : (k : Int) < (xl_3 : Int) := by omega
      obtain ⟨y0, y1, y2, y3, y4, y5, y6, y7, y8, y9, y10, y11, _⟩ := HS.out.u12
      go_wp2
      go_roundw
      case rel => exact ⟨k + 1, by omega, by go_num, by first | rfl | trivial⟩
      case measure => simp [intOf]; omega
    have d1 := dF (p := (k : Int) < (xl_3 : Int)) (by omega)
    obtain ⟨y0, y1, y2, y3, y4, y5, y6, y7, y8, y9, y10, y11, _⟩ := HS.out.u12
    obtain ⟨z0, z1, z2, z3, z4, _⟩ := HO.out.u5
    have HR := Lib.hid (rowO_one wr ⟨os, ov, orc, ob, od⟩)
    have hba := (Below.refl wr.heap.size wr).alloc (Nat.le_refl _) (.cells #[.int .i64 os, .int .i64 ov, .int .i64 orc, .bool ob, .string od] 80)
    replace HC := Lib.hid (HC.out.below hba)
    replace HO := Lib.hid (HO.out.below hba)
    replace HM := Lib.hid (HM.out.below hba)
    replace HX := Lib.hid (HX.out.below hba)
    replace HA := Lib.hid (HA.out.below hba)
    replace HP := Lib.hid (HP.out.below hba)
    replace HZ3 := Lib.hid (HZ3.out.below hba)
    replace HRX := Lib.hid (HRX.out.below hba)
    replace HS := Lib.hid (HS.out.below hba)
    replace HB := Lib.hid (HB.out.trans (hba.mono HB.out.size))
    obtain ⟨w24, hw⟩ : ∃ x, wr.alloc (.cells #[.int .i64 os, .int .i64 ov, .int .i64 orc, .bool ob, .string od] 80) = x := ⟨_, rfl⟩
    obtain ⟨q24, hq⟩ : ∃ x, wr.heap.size = x := ⟨_, rfl⟩
    rw [hw, hq] at HR
    rw [hw] at HB HC HO HM HX HA HP HZ3 HRX HS
    have HW := Lib.hid hw
    have HQ := Lib.hid hq
    clear hba hw hq
    go_wp2_with fail
    clear d1
    rw [HW.out, HQ.out]
    clear HW HQ
    have hsm1 : SmallM ({ m with x := keepR optB m.x } : MsgP) := ⟨HSM.out.1, HSM.out.2.1, HSM.out.2.2.1, ⟨HSL.out, fun r hr => HSM.out.2.2.2.2 r (List.mem_filter.1 hr).1⟩⟩
    refine (withM_any _ ({ m with x := keepR optB m.x } : MsgP) _ 1 1 [⟨os, ov, orc, ob, od⟩] _ HZ3.out hsm1 HR.out (by omega) (by intro o ho; rw [List.mem_singleton.1 ho]; exact HOD.out)).mono ?_; rintro e w25 ⟨he, hb⟩
    clear hsm1
    clear y0 y1 y2 y3 y4 y5 y6 y7 y8 y9 y10 y11 z0 z1 z2 z3 z4
    replace HB := Lib.hid (HB.out.trans (hb.mono HB.out.size))
    replace HC := Lib.hid (HC.out.below hb)
    replace HO := Lib.hid (HO.out.below hb)
    replace HM := Lib.hid (HM.out.below hb)
    replace HX := Lib.hid (HX.out.below hb)
    replace HA := Lib.hid (HA.out.below hb)
    replace HP := Lib.hid (HP.out.below hb)
    replace HZ3 := Lib.hid (HZ3.out.below hb)
    replace HRX := Lib.hid (HRX.out.below hb)
    replace HS := Lib.hid (HS.out.below hb)
    replace HR := Lib.hid (HR.out.below hb)
    clear hb
    rw [with_one, HE.out] at he
    rcases he with ⟨-, v4, rfl, hmo⟩ | ⟨hne, -⟩
    rotate_left
    · exact absurd rfl hne
    clear HR
    have heq : keepR optB (keepR optB m.x) = keepR optB m.x := keep_bb m.x
    have hat : MsgAt w25 v4 ({ m with x := keepR optB m.x ++ [putR ⟨os, ov, orc, ob, od⟩] } : MsgP) := by have h := hmo.at; simp only [heq, List.map_cons, List.map_nil] at h; exact h
    clear hmo heq
    have hA := hat
    obtain ⟨mi_4, mo_4, mr_4, b1_4, b2_4, b3_4, b4_4, b5_4, qa_4, na_4, sa_4, xa_4, ql_4, qc_4, nl_4, nc_4, sl_4, sc_4, xl_4, xc_4, rfl, e1_4, e2_4, e3_4, e4_4, -, -, -, hx_4⟩ := hat.open
    have HC4 := Lib.hid hA
    clear hA hx_4
    have hba := (Below.refl w25.heap.size w25).alloc (Nat.le_refl _) (.cells #[.int .i64 mi_4, .int .i64 mo_4, .int .i64 mr_4, .bool b1_4, .bool b2_4, .bool b3_4, .bool b4_4, .bool b5_4, .slice qa_4 ql_4 qc_4, .slice na_4 nl_4 nc_4, .slice sa_4 sl_4 sc_4, .slice xa_4 xl_4 xc_4] 27)
    have HF := Lib.hid (CN.new w25 #[.int .i64 mi_4, .int .i64 mo_4, .int .i64 mr_4, .bool b1_4, .bool b2_4, .bool b3_4, .bool b4_4, .bool b5_4, .slice qa_4 ql_4 qc_4, .slice na_4 nl_4 nc_4, .slice sa_4 sl_4 sc_4, .slice xa_4 xl_4 xc_4] 27)
    replace HC := Lib.hid (HC.out.below hba)
    replace HO := Lib.hid (HO.out.below hba)
    replace HM := Lib.hid (HM.out.below hba)
    replace HX := Lib.hid (HX.out.below hba)
    replace HA := Lib.hid (HA.out.below hba)
    replace HP := Lib.hid (HP.out.below hba)
    replace HZ3 := Lib.hid (HZ3.out.below hba)
    replace HRX := Lib.hid (HRX.out.below hba)
    replace HS := Lib.hid (HS.out.below hba)
    replace HC4 := Lib.hid (HC4.out.below hba)
    replace HB := Lib.hid (HB.out.trans (hba.mono HB.out.size))
    obtain ⟨w26, hw⟩ : ∃ x, w25.alloc (.cells #[.int .i64 mi_4, .int .i64 mo_4, .int .i64 mr_4, .bool b1_4, .bool b2_4, .bool b3_4, .bool b4_4, .bool b5_4, .slice qa_4 ql_4 qc_4, .slice na_4 nl_4 nc_4, .slice sa_4 sl_4 sc_4, .slice xa_4 xl_4 xc_4] 27) = x := ⟨_, rfl⟩
    obtain ⟨q26, hq⟩ : ∃ x, w25.heap.size = x := ⟨_, rfl⟩
    rw [hw, hq] at HF
    rw [hw] at HB HC HO HM HX HA HP HZ3 HRX HS HC4
    have HW := Lib.hid hw
    have HQ := Lib.hid hq
    clear hba hw hq
    go_upto_region 22 with fail
    rw [HW.out, HQ.out]
    clear HW HQ
    have g1 : nl_3 = nl := e2_3.symm.trans e2_0
    subst g1
    have g2 : sl_3 = sl := e3_3.symm.trans e3_0
    subst g2
    have g3 : xl_1 = xl_3 + 1 := by rw [← e4_1, ← e4_3]; exact List.length_append
    have g4 : xl_3 ≤ 400 := by rw [← e4_3]; exact HSL.out
    have u1 : ((xl_1 : Int) == (xl_3 : Int) + 1) = true := eT (by omega)
    have p1 : IntKind.i64.wrap ((xl_3 : Int) + 1) = (xl_3 : Int) + 1 := IntWalk.i64_in _ (by omega)
    clear g3
    have u2 : ((nl_3 : Int) == (nl_3 : Int)) = true := eT rfl
    have u3 : ((sl_3 : Int) == (sl_3 : Int)) = true := eT rfl
    have u4 : (os == os) = true := eT rfl
    have HHS := Lib.hid (fun wx (hx : Below w26.heap.size w26 wx) => sameM_any _ _ ({ m with x := keepR optB m.x ++ [putR ⟨os, ov, orc, ob, od⟩] } : MsgP) ({ m with x := keepR optB m.x ++ [putR ⟨os, ov, orc, ob, od⟩] } : MsgP) wx (HC4.out.below hx) (HX.out.below hx) HSA.out HSA.out)
    have hsb : sameB ({ m with x := keepR optB m.x ++ [putR ⟨os, ov, orc, ob, od⟩] } : MsgP) ({ m with x := keepR optB m.x ++ [putR ⟨os, ov, orc, ob, od⟩] } : MsgP) = true := (sameB_iff _ _).2 rfl
    rw [hsb] at HHS
    clear hsb
    have HHZ := Lib.hid (fun wx (hx : Below w26.heap.size w26 wx) => sizeM_any _ ({ m with x := keepR optB m.x ++ [putR ⟨os, ov, orc, ob, od⟩] } : MsgP) wx 0 65535 (HX.out.below hx) HLEN.out)
    have hsz : sizeO ({ m with x := keepR optB m.x ++ [putR ⟨os, ov, orc, ob, od⟩] } : MsgP).x 0 65535 = os := by
      have h9 : 0 ≤ os ∧ os ≤ 65535 := (putE_rng HE.out).1
      refine (sizeO_one m.x HE.out 0 65535).trans ?_
      simp only
      split <;> split <;> omega
    rw [hsz] at HHZ
    clear hsz
    refine wp_region_held_drew (S := (fun wx => Below w26.heap.size w26 wx)) (by kernel_rfl) ((Below.refl w26.heap.size w26).drew) (fun hHeld => ?_)
    refine wpAnyH_ready (rs := [0]) (by kernel_rfl) (by simp) ?_
    refine AllReadyH.cons (o := { dst := some 134, op := Go.Op.call { callee := Go.Callee.value (Go.Operand.func 40), args := #[], argTypes := #[] }, type := 4, pos := "law.go:79", after := #[], guard := none }) rfl (fun K hK => ?_) AllReadyH.nil
    go_simp
    refine (first6 _).mono ?_; rintro e wy ⟨rfl, hb⟩
    go_wp2_with fail
    refine hK.out _ _ (hHeld.trans (hb.mono hHeld.size)) (fun hHeld2 => ?_)
    clear hK K hHeld
    have hHeld := hHeld2
    clear hHeld2
    try simp only [Act.put, List.setIfInBounds_toArray, List.set_cons_zero, List.set_cons_succ]
    refine wpAnyH_take (i := 1) (oi := { dst := some 135, op := Go.Op.move (Go.Operand.tmp 134), type := 4, pos := "law.go:79", after := #[{ on := 0, ground := Go.Ground.data }, { on := 0, ground := Go.Ground.chain }], guard := none }) (v := ?v1_85102) rfl (by kernel_rfl) (by kernel_rfl) (by kernel_rfl) (fun _ _ _ h => h) (Or.inl ⟨by rfl, ?y1_85102⟩) hHeld ?r1_85102
    case y1_85102 => intro w hSw; (try dsimp only at hSw); go_simp; try with_reducible rfl
    try simp only [Act.put, List.setIfInBounds_toArray, List.set_cons_zero, List.set_cons_succ]
    refine wpAnyH_take (i := 2) (oi := { dst := some 136, op := Go.Op.move (Go.Operand.tmp 23), type := 36, pos := "law.go:79", after := #[{ on := 1, ground := Go.Ground.guard }], guard := some (1, true) }) (v := ?v2_85102) rfl (by kernel_rfl) (by kernel_rfl) (by kernel_rfl) (fun _ _ _ h => h) (Or.inl ⟨by rfl, ?y2_85102⟩) hHeld ?r2_85102
    case y2_85102 => intro w hSw; (try dsimp only at hSw); go_simp; try with_reducible rfl
    try simp only [Act.put, List.setIfInBounds_toArray, List.set_cons_zero, List.set_cons_succ]
    refine wpAnyH_take (i := 3) (oi := { dst := some 137, op := Go.Op.binOp Go.BinOp.eql 36 (Go.Operand.tmp 136) (Go.Operand.const (Go.Value.int Go.IntKind.i64 0)) 36, type := 4, pos := "law.go:79", after := #[{ on := 2, ground := Go.Ground.data }, { on := 1, ground := Go.Ground.guard }], guard := some (1, true) }) (v := ?v3_85102) rfl (by kernel_rfl) (by kernel_rfl) (by kernel_rfl) (fun _ _ _ h => h) (Or.inl ⟨by rfl, ?y3_85102⟩) hHeld ?r3_85102
    case y3_85102 => intro w hSw; (try dsimp only at hSw); go_simp; try with_reducible rfl
    try simp only [Act.put, List.setIfInBounds_toArray, List.set_cons_zero, List.set_cons_succ]
    refine wpAnyH_take (i := 4) (oi := { dst := some 138, op := Go.Op.pick (Go.Operand.tmp 135) (Go.Operand.tmp 137) (Go.Operand.const (Go.Value.bool false)), type := 4, pos := "law.go:79", after := #[{ on := 1, ground := Go.Ground.data }, { on := 3, ground := Go.Ground.data }], guard := none }) (v := ?v4_85102) rfl (by kernel_rfl) (by kernel_rfl) (by kernel_rfl) (fun _ _ _ h => h) (Or.inl ⟨by rfl, ?y4_85102⟩) hHeld ?r4_85102
    case y4_85102 => intro w hSw; (try dsimp only at hSw); go_simp; try with_reducible rfl
    try simp only [Act.put, List.setIfInBounds_toArray, List.set_cons_zero, List.set_cons_succ]
    refine wpAnyH_take (i := 5) (oi := { dst := some 139, op := Go.Op.move (Go.Operand.tmp 138), type := 4, pos := "law.go:79", after := #[{ on := 4, ground := Go.Ground.data }, { on := 1, ground := Go.Ground.chain }], guard := none }) (v := ?v5_85102) rfl (by kernel_rfl) (by kernel_rfl) (by kernel_rfl) (fun _ _ _ h => h) (Or.inl ⟨by rfl, ?y5_85102⟩) hHeld ?r5_85102
    case y5_85102 => intro w hSw; (try dsimp only at hSw); go_simp; try with_reducible rfl
    try simp only [Act.put, List.setIfInBounds_toArray, List.set_cons_zero, List.set_cons_succ]
    refine wpAnyH_take (i := 6) (oi := { dst := some 140, op := Go.Op.load 27 (Go.Operand.tmp 22), type := 27, pos := "law.go:79", after := #[{ on := 5, ground := Go.Ground.guard }], guard := some (5, true) }) (v := ?v6_85102) rfl (by kernel_rfl) (by kernel_rfl) (by kernel_rfl) (fun _ _ _ h => h) (Or.inl ⟨by rfl, ?y6_85102⟩) hHeld ?r6_85102
    case y6_85102 => intro w hSw; (try dsimp only at hSw); obtain ⟨y0, y1, y2, y3, y4, y5, y6, y7, y8, y9, y10, y11, _⟩ := (HF.out.below hSw).u12; go_simp; try with_reducible rfl
    try simp only [Act.put, List.setIfInBounds_toArray, List.set_cons_zero, List.set_cons_succ]
    refine wpAnyH_take (i := 7) (oi := { dst := some 141, op := Go.Op.load 27 (Go.Operand.tmp 5), type := 27, pos := "law.go:79", after := #[{ on := 5, ground := Go.Ground.guard }], guard := some (5, true) }) (v := ?v7_85102) rfl (by kernel_rfl) (by kernel_rfl) (by kernel_rfl) (fun _ _ _ h => h) (Or.inl ⟨by rfl, ?y7_85102⟩) hHeld ?r7_85102
    case y7_85102 => intro w hSw; (try dsimp only at hSw); obtain ⟨y0, y1, y2, y3, y4, y5, y6, y7, y8, y9, y10, y11, _⟩ := (HA.out.below hSw).u12; go_simp; try with_reducible rfl
    try simp only [Act.put, List.setIfInBounds_toArray, List.set_cons_zero, List.set_cons_succ]
    refine wpAnyH_ready (rs := [8]) (by kernel_rfl) (by simp) ?_
    refine AllReadyH.cons (o := { dst := some 142, op := Go.Op.call { callee := Go.Callee.value (Go.Operand.func 35), args := #[Go.Operand.tmp 140, Go.Operand.tmp 141], argTypes := #[27, 27] }, type := 4, pos := "law.go:79", after := #[{ on := 6, ground := Go.Ground.data }, { on := 7, ground := Go.Ground.data }, { on := 5, ground := Go.Ground.chain }, { on := 5, ground := Go.Ground.guard }], guard := some (5, true) }) rfl (fun K hK => ?_) AllReadyH.nil
    go_simp
    refine (HHS.out _ hHeld).mono ?_; rintro e wy ⟨rfl, hb⟩
    go_wp2_with fail
    refine hK.out _ _ (hHeld.trans (hb.mono hHeld.size)) (fun hHeld2 => ?_)
    clear hK K hHeld
    have hHeld := hHeld2
    clear hHeld2
    try simp only [Act.put, List.setIfInBounds_toArray, List.set_cons_zero, List.set_cons_succ]
    refine wpAnyH_take (i := 9) (oi := { dst := some 143, op := Go.Op.pick (Go.Operand.tmp 139) (Go.Operand.tmp 142) (Go.Operand.const (Go.Value.bool false)), type := 4, pos := "law.go:79", after := #[{ on := 5, ground := Go.Ground.data }, { on := 8, ground := Go.Ground.data }], guard := none }) (v := ?v9_85103) rfl (by kernel_rfl) (by kernel_rfl) (by kernel_rfl) (fun _ _ _ h => h) (Or.inl ⟨by rfl, ?y9_85103⟩) hHeld ?r9_85103
    case y9_85103 => intro w hSw; (try dsimp only at hSw); go_simp; try with_reducible rfl
    try simp only [Act.put, List.setIfInBounds_toArray, List.set_cons_zero, List.set_cons_succ]
    refine wpAnyH_take (i := 10) (oi := { dst := some 144, op := Go.Op.move (Go.Operand.tmp 143), type := 4, pos := "law.go:79", after := #[{ on := 9, ground := Go.Ground.data }, { on := 8, ground := Go.Ground.chain }], guard := none }) (v := ?v10_85103) rfl (by kernel_rfl) (by kernel_rfl) (by kernel_rfl) (fun _ _ _ h => h) (Or.inl ⟨by rfl, ?y10_85103⟩) hHeld ?r10_85103
    case y10_85103 => intro w hSw; (try dsimp only at hSw); go_simp; try with_reducible rfl
    try simp only [Act.put, List.setIfInBounds_toArray, List.set_cons_zero, List.set_cons_succ]
    refine wpAnyH_take (i := 11) (oi := { dst := some 145, op := Go.Op.fieldAddr 27 (Go.Operand.tmp 5) 4, type := 0, pos := "law.go:79", after := #[{ on := 10, ground := Go.Ground.guard }], guard := some (10, true) }) (v := ?v11_85103) rfl (by kernel_rfl) (by kernel_rfl) (by kernel_rfl) (fun _ _ _ h => h) (Or.inl ⟨by rfl, ?y11_85103⟩) hHeld ?r11_85103
    case y11_85103 => intro w hSw; (try dsimp only at hSw); go_simp; try with_reducible rfl
    try simp only [Act.put, List.setIfInBounds_toArray, List.set_cons_zero, List.set_cons_succ]
    refine wpAnyH_take (i := 12) (oi := { dst := some 146, op := Go.Op.load 25 (Go.Operand.tmp 145), type := 25, pos := "law.go:79", after := #[{ on := 11, ground := Go.Ground.data }, { on := 10, ground := Go.Ground.guard }], guard := some (10, true) }) (v := ?v12_85103) rfl (by kernel_rfl) (by kernel_rfl) (by kernel_rfl) (fun _ _ _ h => h) (Or.inl ⟨by rfl, ?y12_85103⟩) hHeld ?r12_85103
    case y12_85103 => intro w hSw; (try dsimp only at hSw); obtain ⟨y0, y1, y2, y3, y4, y5, y6, y7, y8, y9, y10, y11, _⟩ := (HA.out.below hSw).u12; go_simp; try with_reducible rfl
    try simp only [Act.put, List.setIfInBounds_toArray, List.set_cons_zero, List.set_cons_succ]
    refine wpAnyH_take (i := 13) (oi := { dst := some 147, op := Go.Op.call { callee := Go.Callee.builtin Go.Builtin.len, args := #[Go.Operand.tmp 146], argTypes := #[25] }, type := 3, pos := "law.go:79", after := #[{ on := 12, ground := Go.Ground.data }, { on := 10, ground := Go.Ground.guard }], guard := some (10, true) }) (v := ?v13_85103) rfl (by kernel_rfl) (by kernel_rfl) (by kernel_rfl) (fun _ _ _ h => h) (Or.inl ⟨by rfl, ?y13_85103⟩) hHeld ?r13_85103
    case y13_85103 => intro w hSw; (try dsimp only at hSw); go_simp; try with_reducible rfl
    try simp only [Act.put, List.setIfInBounds_toArray, List.set_cons_zero, List.set_cons_succ]
    refine wpAnyH_take (i := 14) (oi := { dst := some 148, op := Go.Op.fieldAddr 27 (Go.Operand.tmp 17) 4, type := 0, pos := "law.go:79", after := #[{ on := 10, ground := Go.Ground.guard }], guard := some (10, true) }) (v := ?v14_85103) rfl (by kernel_rfl) (by kernel_rfl) (by kernel_rfl) (fun _ _ _ h => h) (Or.inl ⟨by rfl, ?y14_85103⟩) hHeld ?r14_85103
    case y14_85103 => intro w hSw; (try dsimp only at hSw); go_simp; try with_reducible rfl
    try simp only [Act.put, List.setIfInBounds_toArray, List.set_cons_zero, List.set_cons_succ]
    refine wpAnyH_take (i := 15) (oi := { dst := some 149, op := Go.Op.load 25 (Go.Operand.tmp 148), type := 25, pos := "law.go:79", after := #[{ on := 14, ground := Go.Ground.data }, { on := 10, ground := Go.Ground.guard }], guard := some (10, true) }) (v := ?v15_85103) rfl (by kernel_rfl) (by kernel_rfl) (by kernel_rfl) (fun _ _ _ h => h) (Or.inl ⟨by rfl, ?y15_85103⟩) hHeld ?r15_85103
    case y15_85103 => intro w hSw; (try dsimp only at hSw); obtain ⟨y0, y1, y2, y3, y4, y5, y6, y7, y8, y9, y10, y11, _⟩ := (HS.out.below hSw).u12; go_simp; try with_reducible rfl
    try simp only [Act.put, List.setIfInBounds_toArray, List.set_cons_zero, List.set_cons_succ]
    refine wpAnyH_take (i := 16) (oi := { dst := some 150, op := Go.Op.call { callee := Go.Callee.builtin Go.Builtin.len, args := #[Go.Operand.tmp 149], argTypes := #[25] }, type := 3, pos := "law.go:79", after := #[{ on := 15, ground := Go.Ground.data }, { on := 10, ground := Go.Ground.guard }], guard := some (10, true) }) (v := ?v16_85103) rfl (by kernel_rfl) (by kernel_rfl) (by kernel_rfl) (fun _ _ _ h => h) (Or.inl ⟨by rfl, ?y16_85103⟩) hHeld ?r16_85103
    case y16_85103 => intro w hSw; (try dsimp only at hSw); go_simp; try with_reducible rfl
    try simp only [Act.put, List.setIfInBounds_toArray, List.set_cons_zero, List.set_cons_succ]
    refine wpAnyH_take (i := 17) (oi := { dst := some 151, op := Go.Op.binOp Go.BinOp.add 3 (Go.Operand.tmp 150) (Go.Operand.const (Go.Value.int Go.IntKind.i64 1)) 3, type := 3, pos := "law.go:79", after := #[{ on := 16, ground := Go.Ground.data }, { on := 10, ground := Go.Ground.guard }], guard := some (10, true) }) (v := ?v17_85103) rfl (by kernel_rfl) (by kernel_rfl) (by kernel_rfl) (fun _ _ _ h => h) (Or.inl ⟨by rfl, ?y17_85103⟩) hHeld ?r17_85103
    case y17_85103 => intro w hSw; (try dsimp only at hSw); go_simp; try with_reducible rfl
    try simp only [Act.put, List.setIfInBounds_toArray, List.set_cons_zero, List.set_cons_succ]
    refine wpAnyH_take (i := 18) (oi := { dst := some 152, op := Go.Op.binOp Go.BinOp.eql 3 (Go.Operand.tmp 147) (Go.Operand.tmp 151) 3, type := 4, pos := "law.go:79", after := #[{ on := 13, ground := Go.Ground.data }, { on := 17, ground := Go.Ground.data }, { on := 10, ground := Go.Ground.guard }], guard := some (10, true) }) (v := ?v18_85103) rfl (by kernel_rfl) (by kernel_rfl) (by kernel_rfl) (fun _ _ _ h => h) (Or.inl ⟨by rfl, ?y18_85103⟩) hHeld ?r18_85103
    case y18_85103 => intro w hSw; (try dsimp only at hSw); go_simp; try with_reducible rfl
    try simp only [Act.put, List.setIfInBounds_toArray, List.set_cons_zero, List.set_cons_succ]
    refine wpAnyH_take (i := 19) (oi := { dst := some 153, op := Go.Op.pick (Go.Operand.tmp 144) (Go.Operand.tmp 152) (Go.Operand.const (Go.Value.bool false)), type := 4, pos := "law.go:79", after := #[{ on := 10, ground := Go.Ground.data }, { on := 18, ground := Go.Ground.data }], guard := none }) (v := ?v19_85103) rfl (by kernel_rfl) (by kernel_rfl) (by kernel_rfl) (fun _ _ _ h => h) (Or.inl ⟨by rfl, ?y19_85103⟩) hHeld ?r19_85103
    case y19_85103 => intro w hSw; (try dsimp only at hSw); go_simp; try with_reducible rfl
    try simp only [Act.put, List.setIfInBounds_toArray, List.set_cons_zero, List.set_cons_succ]
    refine wpAnyH_take (i := 20) (oi := { dst := some 154, op := Go.Op.move (Go.Operand.tmp 153), type := 4, pos := "law.go:79", after := #[{ on := 19, ground := Go.Ground.data }, { on := 10, ground := Go.Ground.chain }], guard := none }) (v := ?v20_85103) rfl (by kernel_rfl) (by kernel_rfl) (by kernel_rfl) (fun _ _ _ h => h) (Or.inl ⟨by rfl, ?y20_85103⟩) hHeld ?r20_85103
    case y20_85103 => intro w hSw; (try dsimp only at hSw); go_simp; try with_reducible rfl
    try simp only [Act.put, List.setIfInBounds_toArray, List.set_cons_zero, List.set_cons_succ]
    refine wpAnyH_take (i := 21) (oi := { dst := some 155, op := Go.Op.fieldAddr 27 (Go.Operand.tmp 17) 2, type := 0, pos := "law.go:79", after := #[{ on := 20, ground := Go.Ground.guard }], guard := some (20, true) }) (v := ?v21_85103) rfl (by kernel_rfl) (by kernel_rfl) (by kernel_rfl) (fun _ _ _ h => h) (Or.inl ⟨by rfl, ?y21_85103⟩) hHeld ?r21_85103
    case y21_85103 => intro w hSw; (try dsimp only at hSw); go_simp; try with_reducible rfl
    try simp only [Act.put, List.setIfInBounds_toArray, List.set_cons_zero, List.set_cons_succ]
    refine wpAnyH_take (i := 22) (oi := { dst := some 156, op := Go.Op.load 25 (Go.Operand.tmp 155), type := 25, pos := "law.go:79", after := #[{ on := 21, ground := Go.Ground.data }, { on := 20, ground := Go.Ground.guard }], guard := some (20, true) }) (v := ?v22_85103) rfl (by kernel_rfl) (by kernel_rfl) (by kernel_rfl) (fun _ _ _ h => h) (Or.inl ⟨by rfl, ?y22_85103⟩) hHeld ?r22_85103
    case y22_85103 => intro w hSw; (try dsimp only at hSw); obtain ⟨y0, y1, y2, y3, y4, y5, y6, y7, y8, y9, y10, y11, _⟩ := (HS.out.below hSw).u12; go_simp; try with_reducible rfl
    try simp only [Act.put, List.setIfInBounds_toArray, List.set_cons_zero, List.set_cons_succ]
    refine wpAnyH_take (i := 23) (oi := { dst := some 157, op := Go.Op.call { callee := Go.Callee.builtin Go.Builtin.len, args := #[Go.Operand.tmp 156], argTypes := #[25] }, type := 3, pos := "law.go:79", after := #[{ on := 22, ground := Go.Ground.data }, { on := 20, ground := Go.Ground.guard }], guard := some (20, true) }) (v := ?v23_85103) rfl (by kernel_rfl) (by kernel_rfl) (by kernel_rfl) (fun _ _ _ h => h) (Or.inl ⟨by rfl, ?y23_85103⟩) hHeld ?r23_85103
    case y23_85103 => intro w hSw; (try dsimp only at hSw); go_simp; try with_reducible rfl
    try simp only [Act.put, List.setIfInBounds_toArray, List.set_cons_zero, List.set_cons_succ]
    refine wpAnyH_take (i := 24) (oi := { dst := some 158, op := Go.Op.fieldAddr 27 (Go.Operand.tmp 2) 2, type := 0, pos := "law.go:79", after := #[{ on := 20, ground := Go.Ground.guard }], guard := some (20, true) }) (v := ?v24_85103) rfl (by kernel_rfl) (by kernel_rfl) (by kernel_rfl) (fun _ _ _ h => h) (Or.inl ⟨by rfl, ?y24_85103⟩) hHeld ?r24_85103
    case y24_85103 => intro w hSw; (try dsimp only at hSw); go_simp; try with_reducible rfl
    try simp only [Act.put, List.setIfInBounds_toArray, List.set_cons_zero, List.set_cons_succ]
    refine wpAnyH_take (i := 25) (oi := { dst := some 159, op := Go.Op.load 25 (Go.Operand.tmp 158), type := 25, pos := "law.go:79", after := #[{ on := 24, ground := Go.Ground.data }, { on := 20, ground := Go.Ground.guard }], guard := some (20, true) }) (v := ?v25_85103) rfl (by kernel_rfl) (by kernel_rfl) (by kernel_rfl) (fun _ _ _ h => h) (Or.inl ⟨by rfl, ?y25_85103⟩) hHeld ?r25_85103
    case y25_85103 => intro w hSw; (try dsimp only at hSw); obtain ⟨y0, y1, y2, y3, y4, y5, y6, y7, y8, y9, y10, y11, _⟩ := (HC.out.below hSw).u12; go_simp; try with_reducible rfl
    try simp only [Act.put, List.setIfInBounds_toArray, List.set_cons_zero, List.set_cons_succ]
    refine wpAnyH_take (i := 26) (oi := { dst := some 160, op := Go.Op.call { callee := Go.Callee.builtin Go.Builtin.len, args := #[Go.Operand.tmp 159], argTypes := #[25] }, type := 3, pos := "law.go:79", after := #[{ on := 25, ground := Go.Ground.data }, { on := 20, ground := Go.Ground.guard }], guard := some (20, true) }) (v := ?v26_85103) rfl (by kernel_rfl) (by kernel_rfl) (by kernel_rfl) (fun _ _ _ h => h) (Or.inl ⟨by rfl, ?y26_85103⟩) hHeld ?r26_85103
    case y26_85103 => intro w hSw; (try dsimp only at hSw); go_simp; try with_reducible rfl
    try simp only [Act.put, List.setIfInBounds_toArray, List.set_cons_zero, List.set_cons_succ]
    refine wpAnyH_take (i := 27) (oi := { dst := some 161, op := Go.Op.binOp Go.BinOp.eql 3 (Go.Operand.tmp 157) (Go.Operand.tmp 160) 3, type := 4, pos := "law.go:79", after := #[{ on := 23, ground := Go.Ground.data }, { on := 26, ground := Go.Ground.data }, { on := 20, ground := Go.Ground.guard }], guard := some (20, true) }) (v := ?v27_85103) rfl (by kernel_rfl) (by kernel_rfl) (by kernel_rfl) (fun _ _ _ h => h) (Or.inl ⟨by rfl, ?y27_85103⟩) hHeld ?r27_85103
    case y27_85103 => intro w hSw; (try dsimp only at hSw); go_simp; try with_reducible rfl
    try simp only [Act.put, List.setIfInBounds_toArray, List.set_cons_zero, List.set_cons_succ]
    refine wpAnyH_take (i := 28) (oi := { dst := some 162, op := Go.Op.pick (Go.Operand.tmp 154) (Go.Operand.tmp 161) (Go.Operand.const (Go.Value.bool false)), type := 4, pos := "law.go:79", after := #[{ on := 20, ground := Go.Ground.data }, { on := 27, ground := Go.Ground.data }], guard := none }) (v := ?v28_85103) rfl (by kernel_rfl) (by kernel_rfl) (by kernel_rfl) (fun _ _ _ h => h) (Or.inl ⟨by rfl, ?y28_85103⟩) hHeld ?r28_85103
    case y28_85103 => intro w hSw; (try dsimp only at hSw); go_simp; try with_reducible rfl
    try simp only [Act.put, List.setIfInBounds_toArray, List.set_cons_zero, List.set_cons_succ]
    refine wpAnyH_take (i := 29) (oi := { dst := some 163, op := Go.Op.move (Go.Operand.tmp 162), type := 4, pos := "law.go:79", after := #[{ on := 28, ground := Go.Ground.data }, { on := 20, ground := Go.Ground.chain }], guard := none }) (v := ?v29_85103) rfl (by kernel_rfl) (by kernel_rfl) (by kernel_rfl) (fun _ _ _ h => h) (Or.inl ⟨by rfl, ?y29_85103⟩) hHeld ?r29_85103
    case y29_85103 => intro w hSw; (try dsimp only at hSw); go_simp; try with_reducible rfl
    try simp only [Act.put, List.setIfInBounds_toArray, List.set_cons_zero, List.set_cons_succ]
    refine wpAnyH_take (i := 30) (oi := { dst := some 164, op := Go.Op.fieldAddr 27 (Go.Operand.tmp 17) 3, type := 0, pos := "law.go:79", after := #[{ on := 29, ground := Go.Ground.guard }], guard := some (29, true) }) (v := ?v30_85103) rfl (by kernel_rfl) (by kernel_rfl) (by kernel_rfl) (fun _ _ _ h => h) (Or.inl ⟨by rfl, ?y30_85103⟩) hHeld ?r30_85103
    case y30_85103 => intro w hSw; (try dsimp only at hSw); go_simp; try with_reducible rfl
    try simp only [Act.put, List.setIfInBounds_toArray, List.set_cons_zero, List.set_cons_succ]
    refine wpAnyH_take (i := 31) (oi := { dst := some 165, op := Go.Op.load 25 (Go.Operand.tmp 164), type := 25, pos := "law.go:79", after := #[{ on := 30, ground := Go.Ground.data }, { on := 29, ground := Go.Ground.guard }], guard := some (29, true) }) (v := ?v31_85103) rfl (by kernel_rfl) (by kernel_rfl) (by kernel_rfl) (fun _ _ _ h => h) (Or.inl ⟨by rfl, ?y31_85103⟩) hHeld ?r31_85103
    case y31_85103 => intro w hSw; (try dsimp only at hSw); obtain ⟨y0, y1, y2, y3, y4, y5, y6, y7, y8, y9, y10, y11, _⟩ := (HS.out.below hSw).u12; go_simp; try with_reducible rfl
    try simp only [Act.put, List.setIfInBounds_toArray, List.set_cons_zero, List.set_cons_succ]
    refine wpAnyH_take (i := 32) (oi := { dst := some 166, op := Go.Op.call { callee := Go.Callee.builtin Go.Builtin.len, args := #[Go.Operand.tmp 165], argTypes := #[25] }, type := 3, pos := "law.go:79", after := #[{ on := 31, ground := Go.Ground.data }, { on := 29, ground := Go.Ground.guard }], guard := some (29, true) }) (v := ?v32_85103) rfl (by kernel_rfl) (by kernel_rfl) (by kernel_rfl) (fun _ _ _ h => h) (Or.inl ⟨by rfl, ?y32_85103⟩) hHeld ?r32_85103
    case y32_85103 => intro w hSw; (try dsimp only at hSw); go_simp; try with_reducible rfl
    try simp only [Act.put, List.setIfInBounds_toArray, List.set_cons_zero, List.set_cons_succ]
    refine wpAnyH_take (i := 33) (oi := { dst := some 167, op := Go.Op.fieldAddr 27 (Go.Operand.tmp 2) 3, type := 0, pos := "law.go:79", after := #[{ on := 29, ground := Go.Ground.guard }], guard := some (29, true) }) (v := ?v33_85103) rfl (by kernel_rfl) (by kernel_rfl) (by kernel_rfl) (fun _ _ _ h => h) (Or.inl ⟨by rfl, ?y33_85103⟩) hHeld ?r33_85103
    case y33_85103 => intro w hSw; (try dsimp only at hSw); go_simp; try with_reducible rfl
    try simp only [Act.put, List.setIfInBounds_toArray, List.set_cons_zero, List.set_cons_succ]
    refine wpAnyH_take (i := 34) (oi := { dst := some 168, op := Go.Op.load 25 (Go.Operand.tmp 167), type := 25, pos := "law.go:79", after := #[{ on := 33, ground := Go.Ground.data }, { on := 29, ground := Go.Ground.guard }], guard := some (29, true) }) (v := ?v34_85103) rfl (by kernel_rfl) (by kernel_rfl) (by kernel_rfl) (fun _ _ _ h => h) (Or.inl ⟨by rfl, ?y34_85103⟩) hHeld ?r34_85103
    case y34_85103 => intro w hSw; (try dsimp only at hSw); obtain ⟨y0, y1, y2, y3, y4, y5, y6, y7, y8, y9, y10, y11, _⟩ := (HC.out.below hSw).u12; go_simp; try with_reducible rfl
    try simp only [Act.put, List.setIfInBounds_toArray, List.set_cons_zero, List.set_cons_succ]
    refine wpAnyH_take (i := 35) (oi := { dst := some 169, op := Go.Op.call { callee := Go.Callee.builtin Go.Builtin.len, args := #[Go.Operand.tmp 168], argTypes := #[25] }, type := 3, pos := "law.go:79", after := #[{ on := 34, ground := Go.Ground.data }, { on := 29, ground := Go.Ground.guard }], guard := some (29, true) }) (v := ?v35_85103) rfl (by kernel_rfl) (by kernel_rfl) (by kernel_rfl) (fun _ _ _ h => h) (Or.inl ⟨by rfl, ?y35_85103⟩) hHeld ?r35_85103
    case y35_85103 => intro w hSw; (try dsimp only at hSw); go_simp; try with_reducible rfl
    try simp only [Act.put, List.setIfInBounds_toArray, List.set_cons_zero, List.set_cons_succ]
    refine wpAnyH_take (i := 36) (oi := { dst := some 170, op := Go.Op.binOp Go.BinOp.eql 3 (Go.Operand.tmp 166) (Go.Operand.tmp 169) 3, type := 4, pos := "law.go:79", after := #[{ on := 32, ground := Go.Ground.data }, { on := 35, ground := Go.Ground.data }, { on := 29, ground := Go.Ground.guard }], guard := some (29, true) }) (v := ?v36_85103) rfl (by kernel_rfl) (by kernel_rfl) (by kernel_rfl) (fun _ _ _ h => h) (Or.inl ⟨by rfl, ?y36_85103⟩) hHeld ?r36_85103
    case y36_85103 => intro w hSw; (try dsimp only at hSw); go_simp; try with_reducible rfl
    try simp only [Act.put, List.setIfInBounds_toArray, List.set_cons_zero, List.set_cons_succ]
    refine wpAnyH_take (i := 37) (oi := { dst := some 171, op := Go.Op.pick (Go.Operand.tmp 163) (Go.Operand.tmp 170) (Go.Operand.const (Go.Value.bool false)), type := 4, pos := "law.go:79", after := #[{ on := 29, ground := Go.Ground.data }, { on := 36, ground := Go.Ground.data }], guard := none }) (v := ?v37_85103) rfl (by kernel_rfl) (by kernel_rfl) (by kernel_rfl) (fun _ _ _ h => h) (Or.inl ⟨by rfl, ?y37_85103⟩) hHeld ?r37_85103
    case y37_85103 => intro w hSw; (try dsimp only at hSw); go_simp; try with_reducible rfl
    try simp only [Act.put, List.setIfInBounds_toArray, List.set_cons_zero, List.set_cons_succ]
    refine wpAnyH_take (i := 38) (oi := { dst := some 172, op := Go.Op.move (Go.Operand.tmp 171), type := 4, pos := "law.go:79", after := #[{ on := 37, ground := Go.Ground.data }, { on := 29, ground := Go.Ground.chain }], guard := none }) (v := ?v38_85103) rfl (by kernel_rfl) (by kernel_rfl) (by kernel_rfl) (fun _ _ _ h => h) (Or.inl ⟨by rfl, ?y38_85103⟩) hHeld ?r38_85103
    case y38_85103 => intro w hSw; (try dsimp only at hSw); go_simp; try with_reducible rfl
    try simp only [Act.put, List.setIfInBounds_toArray, List.set_cons_zero, List.set_cons_succ]
    refine wpAnyH_take (i := 39) (oi := { dst := some 173, op := Go.Op.load 27 (Go.Operand.tmp 5), type := 27, pos := "law.go:79", after := #[{ on := 38, ground := Go.Ground.guard }], guard := some (38, true) }) (v := ?v39_85103) rfl (by kernel_rfl) (by kernel_rfl) (by kernel_rfl) (fun _ _ _ h => h) (Or.inl ⟨by rfl, ?y39_85103⟩) hHeld ?r39_85103
    case y39_85103 => intro w hSw; (try dsimp only at hSw); obtain ⟨y0, y1, y2, y3, y4, y5, y6, y7, y8, y9, y10, y11, _⟩ := (HA.out.below hSw).u12; go_simp; try with_reducible rfl
    try simp only [Act.put, List.setIfInBounds_toArray, List.set_cons_zero, List.set_cons_succ]
    refine wpAnyH_take (i := 41) (oi := { dst := some 175, op := Go.Op.fieldAddr 80 (Go.Operand.tmp 3) 0, type := 0, pos := "law.go:79", after := #[{ on := 38, ground := Go.Ground.guard }], guard := some (38, true) }) (v := ?v41_85103) rfl (by kernel_rfl) (by kernel_rfl) (by kernel_rfl) (fun _ _ _ h => h) (Or.inl ⟨by rfl, ?y41_85103⟩) hHeld ?r41_85103
    case y41_85103 => intro w hSw; (try dsimp only at hSw); go_simp; try with_reducible rfl
    try simp only [Act.put, List.setIfInBounds_toArray, List.set_cons_zero, List.set_cons_succ]
    refine wpAnyH_take (i := 42) (oi := { dst := some 176, op := Go.Op.load 3 (Go.Operand.tmp 175), type := 3, pos := "law.go:79", after := #[{ on := 41, ground := Go.Ground.data }, { on := 38, ground := Go.Ground.guard }], guard := some (38, true) }) (v := ?v42_85103) rfl (by kernel_rfl) (by kernel_rfl) (by kernel_rfl) (fun _ _ _ h => h) (Or.inl ⟨by rfl, ?y42_85103⟩) hHeld ?r42_85103
    case y42_85103 => intro w hSw; (try dsimp only at hSw); obtain ⟨y0, y1, y2, y3, y4, _⟩ := (HO.out.below hSw).u5; go_simp; try with_reducible rfl
    try simp only [Act.put, List.setIfInBounds_toArray, List.set_cons_zero, List.set_cons_succ]
    refine wpAnyH_ready (rs := [40]) (by kernel_rfl) (by simp) ?_
    refine AllReadyH.cons (o := { dst := some 174, op := Go.Op.call { callee := Go.Callee.value (Go.Operand.func 48), args := #[Go.Operand.tmp 173, Go.Operand.const (Go.Value.int Go.IntKind.i64 0), Go.Operand.const (Go.Value.int Go.IntKind.i64 65535)], argTypes := #[27, 3, 3] }, type := 3, pos := "law.go:79", after := #[{ on := 39, ground := Go.Ground.data }, { on := 38, ground := Go.Ground.chain }, { on := 38, ground := Go.Ground.guard }], guard := some (38, true) }) rfl (fun K hK => ?_) AllReadyH.nil
    go_simp
    refine (HHZ.out _ hHeld).mono ?_; rintro e wy ⟨rfl, hb⟩
    go_wp2_with fail
    refine hK.out _ _ (hHeld.trans (hb.mono hHeld.size)) (fun hHeld2 => ?_)
    clear hK K hHeld
    have hHeld := hHeld2
    clear hHeld2
    try simp only [Act.put, List.setIfInBounds_toArray, List.set_cons_zero, List.set_cons_succ]
    refine wpAnyH_take (i := 43) (oi := { dst := some 177, op := Go.Op.binOp Go.BinOp.eql 3 (Go.Operand.tmp 174) (Go.Operand.tmp 176) 3, type := 4, pos := "law.go:79", after := #[{ on := 40, ground := Go.Ground.data }, { on := 42, ground := Go.Ground.data }, { on := 38, ground := Go.Ground.guard }], guard := some (38, true) }) (v := ?v43_85104) rfl (by kernel_rfl) (by kernel_rfl) (by kernel_rfl) (fun _ _ _ h => h) (Or.inl ⟨by rfl, ?y43_85104⟩) hHeld ?r43_85104
    case y43_85104 => intro w hSw; (try dsimp only at hSw); go_simp; try with_reducible rfl
    try simp only [Act.put, List.setIfInBounds_toArray, List.set_cons_zero, List.set_cons_succ]
    refine wpAnyH_take (i := 44) (oi := { dst := some 178, op := Go.Op.pick (Go.Operand.tmp 172) (Go.Operand.tmp 177) (Go.Operand.const (Go.Value.bool false)), type := 4, pos := "law.go:79", after := #[{ on := 38, ground := Go.Ground.data }, { on := 43, ground := Go.Ground.data }], guard := none }) (v := ?v44_85104) rfl (by kernel_rfl) (by kernel_rfl) (by kernel_rfl) (fun _ _ _ h => h) (Or.inl ⟨by rfl, ?y44_85104⟩) hHeld ?r44_85104
    case y44_85104 => intro w hSw; (try dsimp only at hSw); go_simp; try with_reducible rfl
    try simp only [Act.put, List.setIfInBounds_toArray, List.set_cons_zero, List.set_cons_succ]
    refine wpAnyH_take (i := 45) (oi := { dst := some 4, op := Go.Op.assign (Go.Operand.tmp 178), type := 4, pos := "law.go:79", after := #[{ on := 44, ground := Go.Ground.data }, { on := 40, ground := Go.Ground.chain }, { on := 0, ground := Go.Ground.phase }, { on := 1, ground := Go.Ground.phase }, { on := 2, ground := Go.Ground.phase }, { on := 3, ground := Go.Ground.phase }, { on := 4, ground := Go.Ground.phase }, { on := 5, ground := Go.Ground.phase }, { on := 6, ground := Go.Ground.phase }, { on := 7, ground := Go.Ground.phase }, { on := 8, ground := Go.Ground.phase }, { on := 9, ground := Go.Ground.phase }, { on := 10, ground := Go.Ground.phase }, { on := 11, ground := Go.Ground.phase }, { on := 12, ground := Go.Ground.phase }, { on := 13, ground := Go.Ground.phase }, { on := 14, ground := Go.Ground.phase }, { on := 15, ground := Go.Ground.phase }, { on := 16, ground := Go.Ground.phase }, { on := 17, ground := Go.Ground.phase }, { on := 18, ground := Go.Ground.phase }, { on := 19, ground := Go.Ground.phase }, { on := 20, ground := Go.Ground.phase }, { on := 21, ground := Go.Ground.phase }, { on := 22, ground := Go.Ground.phase }, { on := 23, ground := Go.Ground.phase }, { on := 24, ground := Go.Ground.phase }, { on := 25, ground := Go.Ground.phase }, { on := 26, ground := Go.Ground.phase }, { on := 27, ground := Go.Ground.phase }, { on := 28, ground := Go.Ground.phase }, { on := 29, ground := Go.Ground.phase }, { on := 30, ground := Go.Ground.phase }, { on := 31, ground := Go.Ground.phase }, { on := 32, ground := Go.Ground.phase }, { on := 33, ground := Go.Ground.phase }, { on := 34, ground := Go.Ground.phase }, { on := 35, ground := Go.Ground.phase }, { on := 36, ground := Go.Ground.phase }, { on := 37, ground := Go.Ground.phase }, { on := 38, ground := Go.Ground.phase }, { on := 39, ground := Go.Ground.phase }, { on := 40, ground := Go.Ground.phase }, { on := 41, ground := Go.Ground.phase }, { on := 42, ground := Go.Ground.phase }, { on := 43, ground := Go.Ground.phase }, { on := 44, ground := Go.Ground.phase }], guard := none }) (v := ?v45_85104) rfl (by kernel_rfl) (by kernel_rfl) (by kernel_rfl) (fun _ _ _ h => h) (Or.inl ⟨by rfl, ?y45_85104⟩) hHeld ?r45_85104
    case y45_85104 => intro w hSw; (try dsimp only at hSw); go_simp; try with_reducible rfl
    try simp only [Act.put, List.setIfInBounds_toArray, List.set_cons_zero, List.set_cons_succ]
    refine wpAnyH_done (by kernel_rfl) ?_ _
    go_wp2
    go_ret
    exact ⟨rfl, HB.out.trans (Below.mono hHeld HB.out.size)⟩
end Go.Proofs.Ytkoafkajmfodkaa
