/- WireAdds: the walk. -/
import Derived.Test.YtkoafkajmfodkaaWAe
namespace Go.Proofs.Ytkoafkajmfodkaa
open Go.RowKit

set_option maxRecDepth 100000 in
set_option maxHeartbeats 32000000 in
theorem walkAdds (va vb : Value) (ma mb : MsgP) (sec : Int) (la : Option Addr) (ln lc : Nat) (L : List R5) (qr : Option Addr) (qn qk : Nat) (QL : List Ky) (w : World) (hma : MsgAt w va ma) (hmb : MsgAt w vb mb) (hza : SzM ma) (hzb : SzM mb) (hl : RowR w la ln L) (hln : la = none → ln = 0 ∧ lc = 0) (hlz : ln ≤ 9223372036854775807 ∧ ∀ r ∈ L, SzR r) (hq : RowQ w qr qn QL) (hqn : qr = none → qn = 0 ∧ qk = 0) :
    Calls Try.prog 5 #[va, vb, .int .i64 sec, .slice la ln lc, .slice qr qn qk] w fun e w' => e = .returned (.bool true) ∧ Below w.heap.size w w' := by
  have hA := hma
  have hB := hmb
  obtain ⟨mi, mo, mr, b1, b2, b3, b4, b5, qa, na, sa, xa, ql, qc, nl, nc, sl, sc, xl, xc, rfl, ea1, ea2, ea3, ea4, ra1, ra2, ra3, ra4, na1, na2, na3, na4⟩ := hA.open2
  obtain ⟨mi_b, mo_b, mr_b, b1_b, b2_b, b3_b, b4_b, b5_b, qa_b, na_b, sa_b, xa_b, ql_b, qc_b, nl_b, nc_b, sl_b, sc_b, xl_b, xc_b, rfl, -, -, -, -, -, -, -, -, -, -, -, -⟩ := hB.open2
  have h1 := (Below.refl w.heap.size w).alloc (Nat.le_refl _) (.cells #[.int .i64 mi, .int .i64 mo, .int .i64 mr, .bool b1, .bool b2, .bool b3, .bool b4, .bool b5, .slice qa ql qc, .slice na nl nc, .slice sa sl sc, .slice xa xl xc] 27)
  have h2 := (Below.refl _ (w.alloc (.cells #[.int .i64 mi, .int .i64 mo, .int .i64 mr, .bool b1, .bool b2, .bool b3, .bool b4, .bool b5, .slice qa ql qc, .slice na nl nc, .slice sa sl sc, .slice xa xl xc] 27))).alloc (Nat.le_refl _) (.cells #[.int .i64 mi_b, .int .i64 mo_b, .int .i64 mr_b, .bool b1_b, .bool b2_b, .bool b3_b, .bool b4_b, .bool b5_b, .slice qa_b ql_b qc_b, .slice na_b nl_b nc_b, .slice sa_b sl_b sc_b, .slice xa_b xl_b xc_b] 27)
  have hbw := h1.trans (h2.mono h1.size)
  have HCA := Lib.hid ((CN.new w #[.int .i64 mi, .int .i64 mo, .int .i64 mr, .bool b1, .bool b2, .bool b3, .bool b4, .bool b5, .slice qa ql qc, .slice na nl nc, .slice sa sl sc, .slice xa xl xc] 27).below h2)
  have hcb := CN.new (w.alloc (.cells #[.int .i64 mi, .int .i64 mo, .int .i64 mr, .bool b1, .bool b2, .bool b3, .bool b4, .bool b5, .slice qa ql qc, .slice na nl nc, .slice sa sl sc, .slice xa xl xc] 27)) #[.int .i64 mi_b, .int .i64 mo_b, .int .i64 mr_b, .bool b1_b, .bool b2_b, .bool b3_b, .bool b4_b, .bool b5_b, .slice qa_b ql_b qc_b, .slice na_b nl_b nc_b, .slice sa_b sl_b sc_b, .slice xa_b xl_b xc_b] 27
  rw [World.size_alloc] at hcb
  have HCB := Lib.hid hcb
  have HB := Lib.hid hbw
  have HMA := Lib.hid (hma.below hbw)
  have HMB := Lib.hid (hmb.below hbw)
  have HL := Lib.hid (hl.below hbw)
  have HQ := Lib.hid (hq.below hbw)
  have HLL := Lib.hid hl.1
  have HQLL := Lib.hid hq.1
  have HLZ := Lib.hid hlz
  have HZA := Lib.hid hza
  have HZB := Lib.hid hzb
  have HLN := Lib.hid hln
  have HQN := Lib.hid hqn
  have HRA := Lib.hid (ra2.below hbw)
  have HRN := Lib.hid (ra3.below hbw)
  have HRX := Lib.hid (ra4.below hbw)
  have HRQ := Lib.hid (ra1.below hbw)
  have HNQ := Lib.hid na1
  have HNA := Lib.hid na2
  have HNN := Lib.hid na3
  have HNX := Lib.hid na4
  have HEQ := Lib.hid ea1
  have HEA := Lib.hid ea2
  have HEN := Lib.hid ea3
  have HEX := Lib.hid ea4
  obtain ⟨w1, hw1⟩ : ∃ x, (w.alloc (.cells #[.int .i64 mi, .int .i64 mo, .int .i64 mr, .bool b1, .bool b2, .bool b3, .bool b4, .bool b5, .slice qa ql qc, .slice na nl nc, .slice sa sl sc, .slice xa xl xc] 27)).alloc (.cells #[.int .i64 mi_b, .int .i64 mo_b, .int .i64 mr_b, .bool b1_b, .bool b2_b, .bool b3_b, .bool b4_b, .bool b5_b, .slice qa_b ql_b qc_b, .slice na_b nl_b nc_b, .slice sa_b sl_b sc_b, .slice xa_b xl_b xc_b] 27) = x := ⟨_, rfl⟩
  obtain ⟨q5, hq5⟩ : ∃ x, w.heap.size = x := ⟨_, rfl⟩
  obtain ⟨q6, hq6⟩ : ∃ x, q5 + 1 = x := ⟨_, rfl⟩
  rw [hw1] at HCA HCB HB HMA HMB HL HQ HRA HRN HRX HRQ
  rw [hq5] at HCA HCB
  rw [hq6] at HCB
  have HW1 := Lib.hid hw1
  have HQ5 := Lib.hid hq5
  have HQ6 := Lib.hid hq6
  clear hA hB h1 h2 hbw hcb hma hmb hl hq hza hzb hlz hln hqn ra1 ra2 ra3 ra4 na1 na2 na3 na4 ea1 ea2 ea3 ea4 hw1 hq5 hq6
  go_enter Try.func5, Try.ntmps5
  go_wp2_with fail
  rw [HW1.out, HQ5.out, HQ6.out]
  clear HW1 HQ5 HQ6
  refine (first5 _).mono ?_; rintro e w2 ⟨rfl, hb⟩
  replace HB := Lib.hid (HB.out.trans (hb.mono HB.out.size))
  replace HCA := Lib.hid (HCA.out.below hb)
  replace HCB := Lib.hid (HCB.out.below hb)
  replace HMA := Lib.hid (HMA.out.below hb)
  replace HMB := Lib.hid (HMB.out.below hb)
  replace HL := Lib.hid (HL.out.below hb)
  replace HQ := Lib.hid (HQ.out.below hb)
  replace HRA := Lib.hid (HRA.out.below hb)
  replace HRN := Lib.hid (HRN.out.below hb)
  replace HRX := Lib.hid (HRX.out.below hb)
  replace HRQ := Lib.hid (HRQ.out.below hb)
  clear hb
  obtain ⟨y0, y1, y2, y3, y4, y5, y6, y7, y8, y9, y10, y11, _⟩ := HCA.out.u12
  go_wp2_with fail
  refine (few5_any _ ma _ HMA.out HZA.out).mono ?_; rintro e w3 ⟨he, hb⟩
  clear y0 y1 y2 y3 y4 y5 y6 y7 y8 y9 y10 y11
  replace HB := Lib.hid (HB.out.trans (hb.mono HB.out.size))
  replace HCA := Lib.hid (HCA.out.below hb)
  replace HCB := Lib.hid (HCB.out.below hb)
  replace HMA := Lib.hid (HMA.out.below hb)
  replace HMB := Lib.hid (HMB.out.below hb)
  replace HL := Lib.hid (HL.out.below hb)
  replace HQ := Lib.hid (HQ.out.below hb)
  replace HRA := Lib.hid (HRA.out.below hb)
  replace HRN := Lib.hid (HRN.out.below hb)
  replace HRX := Lib.hid (HRX.out.below hb)
  replace HRQ := Lib.hid (HRQ.out.below hb)
  clear hb
  rcases he with rfl | ⟨rfl, hsa⟩
  · go_wp2_with fail
    refine (first5 _).mono ?_; rintro e w4 ⟨rfl, hb⟩
    replace HB := Lib.hid (HB.out.trans (hb.mono HB.out.size))
    replace HCA := Lib.hid (HCA.out.below hb)
    replace HCB := Lib.hid (HCB.out.below hb)
    replace HMA := Lib.hid (HMA.out.below hb)
    replace HMB := Lib.hid (HMB.out.below hb)
    replace HL := Lib.hid (HL.out.below hb)
    replace HQ := Lib.hid (HQ.out.below hb)
    replace HRA := Lib.hid (HRA.out.below hb)
    replace HRN := Lib.hid (HRN.out.below hb)
    replace HRX := Lib.hid (HRX.out.below hb)
    replace HRQ := Lib.hid (HRQ.out.below hb)
    clear hb
    go_wp2
    go_ret
    exact ⟨rfl, HB.out⟩
  have HSA := Lib.hid hsa
  clear hsa
  obtain ⟨y0, y1, y2, y3, y4, y5, y6, y7, y8, y9, y10, y11, _⟩ := HCB.out.u12
  go_wp2_with fail
  refine (few5_any _ mb _ HMB.out HZB.out).mono ?_; rintro e w5 ⟨he, hb⟩
  clear y0 y1 y2 y3 y4 y5 y6 y7 y8 y9 y10 y11
  replace HB := Lib.hid (HB.out.trans (hb.mono HB.out.size))
  replace HCA := Lib.hid (HCA.out.below hb)
  replace HCB := Lib.hid (HCB.out.below hb)
  replace HMA := Lib.hid (HMA.out.below hb)
  replace HMB := Lib.hid (HMB.out.below hb)
  replace HL := Lib.hid (HL.out.below hb)
  replace HQ := Lib.hid (HQ.out.below hb)
  replace HRA := Lib.hid (HRA.out.below hb)
  replace HRN := Lib.hid (HRN.out.below hb)
  replace HRX := Lib.hid (HRX.out.below hb)
  replace HRQ := Lib.hid (HRQ.out.below hb)
  clear hb
  rcases he with rfl | ⟨rfl, hsb⟩
  · go_wp2_with fail
    refine (first5 _).mono ?_; rintro e w6 ⟨rfl, hb⟩
    replace HB := Lib.hid (HB.out.trans (hb.mono HB.out.size))
    replace HCA := Lib.hid (HCA.out.below hb)
    replace HCB := Lib.hid (HCB.out.below hb)
    replace HMA := Lib.hid (HMA.out.below hb)
    replace HMB := Lib.hid (HMB.out.below hb)
    replace HL := Lib.hid (HL.out.below hb)
    replace HQ := Lib.hid (HQ.out.below hb)
    replace HRA := Lib.hid (HRA.out.below hb)
    replace HRN := Lib.hid (HRN.out.below hb)
    replace HRX := Lib.hid (HRX.out.below hb)
    replace HRQ := Lib.hid (HRQ.out.below hb)
    clear hb
    go_wp2
    go_ret
    exact ⟨rfl, HB.out⟩
  have HSB := Lib.hid hsb
  clear hsb
  go_wp2_with fail
  refine (few4B _ _ _ L _ HL.out HLZ.out.1 HLZ.out.2).mono ?_; rintro e w7 ⟨he, hb⟩
  replace HB := Lib.hid (HB.out.trans (hb.mono HB.out.size))
  replace HCA := Lib.hid (HCA.out.below hb)
  replace HCB := Lib.hid (HCB.out.below hb)
  replace HMA := Lib.hid (HMA.out.below hb)
  replace HMB := Lib.hid (HMB.out.below hb)
  replace HL := Lib.hid (HL.out.below hb)
  replace HQ := Lib.hid (HQ.out.below hb)
  replace HRA := Lib.hid (HRA.out.below hb)
  replace HRN := Lib.hid (HRN.out.below hb)
  replace HRX := Lib.hid (HRX.out.below hb)
  replace HRQ := Lib.hid (HRQ.out.below hb)
  clear hb
  rcases he with rfl | ⟨rfl, hll, -⟩
  · go_wp2_with fail
    refine (first5 _).mono ?_; rintro e w8 ⟨rfl, hb⟩
    replace HB := Lib.hid (HB.out.trans (hb.mono HB.out.size))
    replace HCA := Lib.hid (HCA.out.below hb)
    replace HCB := Lib.hid (HCB.out.below hb)
    replace HMA := Lib.hid (HMA.out.below hb)
    replace HMB := Lib.hid (HMB.out.below hb)
    replace HL := Lib.hid (HL.out.below hb)
    replace HQ := Lib.hid (HQ.out.below hb)
    replace HRA := Lib.hid (HRA.out.below hb)
    replace HRN := Lib.hid (HRN.out.below hb)
    replace HRX := Lib.hid (HRX.out.below hb)
    replace HRQ := Lib.hid (HRQ.out.below hb)
    clear hb
    go_wp2
    go_ret
    exact ⟨rfl, HB.out⟩
  by_cases hq100 : 100 < qn
  · have d1 := dT (p := (100 : Int) < (qn : Int)) (by omega)
    go_wp2_with fail
    refine (first5 _).mono ?_; rintro e w9 ⟨rfl, hb⟩
    replace HB := Lib.hid (HB.out.trans (hb.mono HB.out.size))
    replace HCA := Lib.hid (HCA.out.below hb)
    replace HCB := Lib.hid (HCB.out.below hb)
    replace HMA := Lib.hid (HMA.out.below hb)
    replace HMB := Lib.hid (HMB.out.below hb)
    replace HL := Lib.hid (HL.out.below hb)
    replace HQ := Lib.hid (HQ.out.below hb)
    replace HRA := Lib.hid (HRA.out.below hb)
    replace HRN := Lib.hid (HRN.out.below hb)
    replace HRX := Lib.hid (HRX.out.below hb)
    replace HRQ := Lib.hid (HRQ.out.below hb)
    clear hb
    go_wp2
    go_ret
    exact ⟨rfl, HB.out⟩
  have d1 := dF (p := (100 : Int) < (qn : Int)) (by omega)
  have hnl : nl ≤ 100000 := by have := HSA.out.2.1.1; rw [HEA.out] at this; omega
  have hsl : sl ≤ 100000 := by have := HSA.out.2.2.1.1; rw [HEN.out] at this; omega
  have hxl : xl ≤ 100000 := by have := HSA.out.2.2.2.1; rw [HEX.out] at this; omega
  have HN4 := Lib.hid (show nl ≤ 400 ∧ sl ≤ 400 ∧ xl ≤ 400 by have h1 := HSA.out.2.1.1; have h2 := HSA.out.2.2.1.1; have h3 := HSA.out.2.2.2.1; rw [HEA.out] at h1; rw [HEN.out] at h2; rw [HEX.out] at h3; exact ⟨h1, h2, h3⟩)
  obtain ⟨y0, y1, y2, y3, y4, y5, y6, y7, y8, y9, y10, y11, _⟩ := HCA.out.u12
  go_wp2_with fail
  refine (plainM_any _ ma _ HMA.out).mono ?_; rintro e w10 ⟨rfl, hb⟩
  clear y0 y1 y2 y3 y4 y5 y6 y7 y8 y9 y10 y11
  replace HB := Lib.hid (HB.out.trans (hb.mono HB.out.size))
  replace HCA := Lib.hid (HCA.out.below hb)
  replace HCB := Lib.hid (HCB.out.below hb)
  replace HMA := Lib.hid (HMA.out.below hb)
  replace HMB := Lib.hid (HMB.out.below hb)
  replace HL := Lib.hid (HL.out.below hb)
  replace HQ := Lib.hid (HQ.out.below hb)
  replace HRA := Lib.hid (HRA.out.below hb)
  replace HRN := Lib.hid (HRN.out.below hb)
  replace HRX := Lib.hid (HRX.out.below hb)
  replace HRQ := Lib.hid (HRQ.out.below hb)
  clear hb
  clear d1
  have HBL := Lib.hid (Below.refl w10.heap.size w10)
  have HTP := Lib.hid (TB.new w10 #[.int .i64 mi, .int .i64 mo, .int .i64 mr, .bool b1, .bool b2, .bool b3, .bool b4, .bool b5, .slice qa ql qc, .slice na nl nc, .slice sa sl sc, .slice xa xl xc] 32)
  have hba := (Below.refl _ _ : Below w10.heap.size w10 w10).alloc (Nat.le_refl _) (.cells #[.int .i64 mi, .int .i64 mo, .int .i64 mr, .bool b1, .bool b2, .bool b3, .bool b4, .bool b5, .slice qa ql qc, .slice na nl nc, .slice sa sl sc, .slice xa xl xc] 32)
  have HP := Lib.hid (CN.new w10 #[.int .i64 mi, .int .i64 mo, .int .i64 mr, .bool b1, .bool b2, .bool b3, .bool b4, .bool b5, .slice qa ql qc, .slice na nl nc, .slice sa sl sc, .slice xa xl xc] 32)
  replace HBL := Lib.hid (HBL.out.trans (hba.mono HBL.out.size))
  obtain ⟨w11, hw⟩ : ∃ x, w10.alloc (.cells #[.int .i64 mi, .int .i64 mo, .int .i64 mr, .bool b1, .bool b2, .bool b3, .bool b4, .bool b5, .slice qa ql qc, .slice na nl nc, .slice sa sl sc, .slice xa xl xc] 32) = x := ⟨_, rfl⟩
  obtain ⟨q11, hq⟩ : ∃ x, w10.heap.size = x := ⟨_, rfl⟩
  rw [hw, hq] at HP HTP
  rw [hw] at HBL
  have HW := Lib.hid hw
  have HQ_ := Lib.hid hq
  have HQ11 := Lib.hid (Nat.le_of_eq hq)
  clear hba hw hq
  go_upto_region 6 with (fail)
  rw [HW.out, HQ_.out]
  clear HW HQ_
  refine wp_region_last_drew (S := (fun wx => Below w10.heap.size w10 wx)) (L := 10) (by kernel_rfl) (HBL.out.drew) (fun hHeld => ?_)
  have hbd := (Below.refl w11.heap.size w11).drew
  replace HP := Lib.hid (HP.out.below hbd)
  replace HTP := Lib.hid (HTP.out.below hbd)
  obtain ⟨wd6, hwd⟩ : ∃ x, w11.drew = x := ⟨_, rfl⟩
  rw [hwd] at hHeld HP HTP ⊢
  have HS6 := Lib.hid hHeld.size
  clear hwd hbd HBL
  refine wpAnyL_take (i := 0) (oi := { dst := some 38, op := Go.Op.fieldAddr 27 (Go.Operand.tmp 5) 2, type := 0, pos := "law.go:80", after := #[], guard := none }) (v := ?v0_150101) rfl (by kernel_rfl) (by kernel_rfl) (by kernel_rfl) (by kernel_rfl) (by kernel_rfl) (fun _ _ _ h => h) (Or.inl ⟨by rfl, ?y0_150101⟩) hHeld ?r0_150101
  case y0_150101 => intro w hSw; (try dsimp only at hSw); go_simp; try with_reducible rfl
  try simp only [Act.put, List.setIfInBounds_toArray, List.set_cons_zero, List.set_cons_succ]
  refine wpAnyL_take (i := 1) (oi := { dst := some 39, op := Go.Op.load 25 (Go.Operand.tmp 38), type := 25, pos := "law.go:80", after := #[{ on := 0, ground := Go.Ground.data }], guard := none }) (v := ?v1_150101) rfl (by kernel_rfl) (by kernel_rfl) (by kernel_rfl) (by kernel_rfl) (by kernel_rfl) (fun _ _ _ h => h) (Or.inl ⟨by rfl, ?y1_150101⟩) hHeld ?r1_150101
  case y1_150101 => intro w hSw; (try dsimp only at hSw); obtain ⟨y0, y1, y2, y3, y4, y5, y6, y7, y8, y9, y10, y11, _⟩ := (HCA.out.below hSw).u12; go_simp; try with_reducible rfl
  try simp only [Act.put, List.setIfInBounds_toArray, List.set_cons_zero, List.set_cons_succ]
  refine wpAnyL_take (i := 3) (oi := { dst := some 41, op := Go.Op.fieldAddr 27 (Go.Operand.tmp 5) 3, type := 0, pos := "law.go:80", after := #[], guard := none }) (v := ?v3_150101) rfl (by kernel_rfl) (by kernel_rfl) (by kernel_rfl) (by kernel_rfl) (by kernel_rfl) (fun _ _ _ h => h) (Or.inl ⟨by rfl, ?y3_150101⟩) hHeld ?r3_150101
  case y3_150101 => intro w hSw; (try dsimp only at hSw); go_simp; try with_reducible rfl
  try simp only [Act.put, List.setIfInBounds_toArray, List.set_cons_zero, List.set_cons_succ]
  refine wpAnyL_take (i := 4) (oi := { dst := some 42, op := Go.Op.load 25 (Go.Operand.tmp 41), type := 25, pos := "law.go:80", after := #[{ on := 3, ground := Go.Ground.data }], guard := none }) (v := ?v4_150101) rfl (by kernel_rfl) (by kernel_rfl) (by kernel_rfl) (by kernel_rfl) (by kernel_rfl) (fun _ _ _ h => h) (Or.inl ⟨by rfl, ?y4_150101⟩) hHeld ?r4_150101
  case y4_150101 => intro w hSw; (try dsimp only at hSw); obtain ⟨y0, y1, y2, y3, y4, y5, y6, y7, y8, y9, y10, y11, _⟩ := (HCA.out.below hSw).u12; go_simp; try with_reducible rfl
  try simp only [Act.put, List.setIfInBounds_toArray, List.set_cons_zero, List.set_cons_succ]
  refine wpAnyL_take (i := 6) (oi := { dst := some 44, op := Go.Op.fieldAddr 27 (Go.Operand.tmp 5) 4, type := 0, pos := "law.go:80", after := #[], guard := none }) (v := ?v6_150101) rfl (by kernel_rfl) (by kernel_rfl) (by kernel_rfl) (by kernel_rfl) (by kernel_rfl) (fun _ _ _ h => h) (Or.inl ⟨by rfl, ?y6_150101⟩) hHeld ?r6_150101
  case y6_150101 => intro w hSw; (try dsimp only at hSw); go_simp; try with_reducible rfl
  try simp only [Act.put, List.setIfInBounds_toArray, List.set_cons_zero, List.set_cons_succ]
  refine wpAnyL_take (i := 7) (oi := { dst := some 45, op := Go.Op.load 25 (Go.Operand.tmp 44), type := 25, pos := "law.go:80", after := #[{ on := 6, ground := Go.Ground.data }], guard := none }) (v := ?v7_150101) rfl (by kernel_rfl) (by kernel_rfl) (by kernel_rfl) (by kernel_rfl) (by kernel_rfl) (fun _ _ _ h => h) (Or.inl ⟨by rfl, ?y7_150101⟩) hHeld ?r7_150101
  case y7_150101 => intro w hSw; (try dsimp only at hSw); obtain ⟨y0, y1, y2, y3, y4, y5, y6, y7, y8, y9, y10, y11, _⟩ := (HCA.out.below hSw).u12; go_simp; try with_reducible rfl
  try simp only [Act.put, List.setIfInBounds_toArray, List.set_cons_zero, List.set_cons_succ]
  refine wpAnyL_ready (rs := [2]) (by kernel_rfl) (by simp) ?_
  refine AllReadyL.cons (o := { dst := some 40, op := Go.Op.call { callee := Go.Callee.value (Go.Operand.func 16), args := #[Go.Operand.tmp 39], argTypes := #[25] }, type := 25, pos := "law.go:80", after := #[{ on := 1, ground := Go.Ground.data }], guard := none }) rfl (by decide) (fun K hK => ?_) AllReadyL.nil
  go_simp
  refine (copyRR5 na nl nc ma.a _ (HRA.out.below hHeld) HNA.out hnl).mono ?_; rintro e wy2 ⟨v, rfl, ho, hb⟩
  obtain ⟨na2, nc2, rfl, -⟩ := rowR_own ho
  have HIA := Lib.hid ho.lt
  replace HP := Lib.hid (HP.out.below hb)
  replace HTP := Lib.hid (HTP.out.below hb)
  have HA2 := Lib.hid ho
  have HZ2 := Lib.hid hb.size
  clear ho
  go_wp2_with fail
  refine hK.out _ _ (hHeld.trans (hb.mono hHeld.size)) (fun hHeld2 => ?_)
  clear hK K hHeld
  have hHeld := hHeld2
  clear hHeld2
  try simp only [Act.put, List.setIfInBounds_toArray, List.set_cons_zero, List.set_cons_succ]
  refine wpAnyL_take (i := 9) (oi := { dst := some 47, op := Go.Op.fieldAddr 32 (Go.Operand.tmp 11) 2, type := 0, pos := "law.go:80", after := #[{ on := 0, ground := Go.Ground.phase }, { on := 1, ground := Go.Ground.phase }, { on := 2, ground := Go.Ground.phase }, { on := 3, ground := Go.Ground.textOnly Go.Departure.lateStores }, { on := 4, ground := Go.Ground.textOnly Go.Departure.lateStores }, { on := 5, ground := Go.Ground.textOnly Go.Departure.lateStoresUnsure }, { on := 6, ground := Go.Ground.textOnly Go.Departure.lateStores }, { on := 7, ground := Go.Ground.textOnly Go.Departure.lateStores }, { on := 8, ground := Go.Ground.textOnly Go.Departure.lateStoresUnsure }], guard := none }) (v := ?v9_150102) rfl (by kernel_rfl) (by kernel_rfl) (by kernel_rfl) (by kernel_rfl) (by kernel_rfl) (fun _ _ _ h => h) (Or.inl ⟨by rfl, ?y9_150102⟩) hHeld ?r9_150102
  case y9_150102 => intro w hSw; (try dsimp only at hSw); go_simp; try with_reducible rfl
  try simp only [Act.put, List.setIfInBounds_toArray, List.set_cons_zero, List.set_cons_succ]
  refine wpAnyL_ready (rs := [5]) (by kernel_rfl) (by simp) ?_
  refine AllReadyL.cons (o := { dst := some 43, op := Go.Op.call { callee := Go.Callee.value (Go.Operand.func 16), args := #[Go.Operand.tmp 42], argTypes := #[25] }, type := 25, pos := "law.go:80", after := #[{ on := 4, ground := Go.Ground.data }, { on := 2, ground := Go.Ground.chain }], guard := none }) rfl (by decide) (fun K hK => ?_) AllReadyL.nil
  go_simp
  refine (copyRR5 sa sl sc ma.n _ (HRN.out.below hHeld) HNN.out hsl).mono ?_; rintro e wy5 ⟨v, rfl, ho, hb⟩
  obtain ⟨sa2, sc2, rfl, -⟩ := rowR_own ho
  have HIN := Lib.hid ho.lt
  replace HP := Lib.hid (HP.out.below hb)
  replace HTP := Lib.hid (HTP.out.below hb)
  replace HA2 := Lib.hid (own_below' HA2.out hb)
  have HN2 := Lib.hid ho
  have HZ5 := Lib.hid hb.size
  clear ho
  go_wp2_with fail
  refine hK.out _ _ (hHeld.trans (hb.mono hHeld.size)) (fun hHeld2 => ?_)
  clear hK K hHeld
  have hHeld := hHeld2
  clear hHeld2
  try simp only [Act.put, List.setIfInBounds_toArray, List.set_cons_zero, List.set_cons_succ]
  refine wpAnyL_ready (rs := [8]) (by kernel_rfl) (by simp) ?_
  refine AllReadyL.cons (o := { dst := some 46, op := Go.Op.call { callee := Go.Callee.value (Go.Operand.func 16), args := #[Go.Operand.tmp 45], argTypes := #[25] }, type := 25, pos := "law.go:80", after := #[{ on := 7, ground := Go.Ground.data }, { on := 5, ground := Go.Ground.chain }], guard := none }) rfl (by decide) (fun K hK => ?_) AllReadyL.nil
  go_simp
  refine (copyRR5 xa xl xc ma.x _ (HRX.out.below hHeld) HNX.out hxl).mono ?_; rintro e wy8 ⟨v, rfl, ho, hb⟩
  obtain ⟨xa2, xc2, rfl, -⟩ := rowR_own ho
  have HIX := Lib.hid ho.lt
  replace HP := Lib.hid (HP.out.below hb)
  replace HTP := Lib.hid (HTP.out.below hb)
  replace HA2 := Lib.hid (own_below' HA2.out hb)
  replace HN2 := Lib.hid (own_below' HN2.out hb)
  have HX2 := Lib.hid ho
  have HZ8 := Lib.hid hb.size
  clear ho
  go_wp2_with fail
  refine hK.out _ _ (hHeld.trans (hb.mono hHeld.size)) (fun hHeld2 => ?_)
  clear hK K hHeld
  have hHeld := hHeld2
  clear hHeld2
  try simp only [Act.put, List.setIfInBounds_toArray, List.set_cons_zero, List.set_cons_succ]
  refine wpAnyL_ready (rs := [10]) (by kernel_rfl) (by simp) ?_
  refine AllReadyL.last (o := { dst := none, op := Go.Op.store 25 (Go.Operand.tmp 47) (Go.Operand.tmp 40), type := 0, pos := "law.go:80", after := #[{ on := 9, ground := Go.Ground.data }, { on := 2, ground := Go.Ground.data }, { on := 8, ground := Go.Ground.chain }, { on := 0, ground := Go.Ground.phase }, { on := 1, ground := Go.Ground.phase }, { on := 2, ground := Go.Ground.phase }, { on := 3, ground := Go.Ground.textOnly Go.Departure.lateStores }, { on := 4, ground := Go.Ground.textOnly Go.Departure.lateStores }, { on := 5, ground := Go.Ground.textOnly Go.Departure.lateStoresUnsure }, { on := 6, ground := Go.Ground.textOnly Go.Departure.lateStores }, { on := 7, ground := Go.Ground.textOnly Go.Departure.lateStores }, { on := 8, ground := Go.Ground.textOnly Go.Departure.lateStoresUnsure }], guard := none }) rfl (by decide) (fun K hK => ?_) AllReadyL.nil
  have HU := Lib.hid hHeld
  obtain ⟨r0, r1, r2, r3, r4, r5, r6, r7, r8, r9, r10, r11, g0, g1, g2, g3, g4, g5, g6, g7, g8, g9, g10, g11⟩ := HP.out.u12
  go_simp
  refine hK.out _ _ trivial (fun _ => ?_)
  clear hK K
  try simp only [Act.put, List.setIfInBounds_toArray, List.set_cons_zero, List.set_cons_succ]
  refine wpAnyL_ready (rs := [11]) (by kernel_rfl) (by simp) ?_
  refine AllReadyL.last (o := { dst := some 48, op := Go.Op.fieldAddr 32 (Go.Operand.tmp 11) 3, type := 0, pos := "law.go:80", after := #[{ on := 0, ground := Go.Ground.phase }, { on := 1, ground := Go.Ground.phase }, { on := 2, ground := Go.Ground.phase }, { on := 3, ground := Go.Ground.phase }, { on := 4, ground := Go.Ground.phase }, { on := 5, ground := Go.Ground.phase }, { on := 6, ground := Go.Ground.textOnly Go.Departure.lateStores }, { on := 7, ground := Go.Ground.textOnly Go.Departure.lateStores }, { on := 8, ground := Go.Ground.textOnly Go.Departure.lateStoresUnsure }, { on := 9, ground := Go.Ground.phase }, { on := 10, ground := Go.Ground.phase }], guard := none }) rfl (by decide) (fun K hK => ?_) AllReadyL.nil
  go_simp
  refine hK.out _ _ trivial (fun _ => ?_)
  clear hK K
  try simp only [Act.put, List.setIfInBounds_toArray, List.set_cons_zero, List.set_cons_succ]
  refine wpAnyL_ready (rs := [12]) (by kernel_rfl) (by simp) ?_
  refine AllReadyL.last (o := { dst := none, op := Go.Op.store 25 (Go.Operand.tmp 48) (Go.Operand.tmp 43), type := 0, pos := "law.go:80", after := #[{ on := 11, ground := Go.Ground.data }, { on := 5, ground := Go.Ground.data }, { on := 10, ground := Go.Ground.chain }, { on := 0, ground := Go.Ground.phase }, { on := 1, ground := Go.Ground.phase }, { on := 2, ground := Go.Ground.phase }, { on := 3, ground := Go.Ground.phase }, { on := 4, ground := Go.Ground.phase }, { on := 5, ground := Go.Ground.phase }, { on := 6, ground := Go.Ground.textOnly Go.Departure.lateStores }, { on := 7, ground := Go.Ground.textOnly Go.Departure.lateStores }, { on := 8, ground := Go.Ground.textOnly Go.Departure.lateStoresUnsure }, { on := 9, ground := Go.Ground.phase }, { on := 10, ground := Go.Ground.phase }], guard := none }) rfl (by decide) (fun K hK => ?_) AllReadyL.nil
  go_simp
  refine hK.out _ _ trivial (fun _ => ?_)
  clear hK K
  try simp only [Act.put, List.setIfInBounds_toArray, List.set_cons_zero, List.set_cons_succ]
  refine wpAnyL_ready (rs := [13]) (by kernel_rfl) (by simp) ?_
  refine AllReadyL.last (o := { dst := some 49, op := Go.Op.fieldAddr 32 (Go.Operand.tmp 11) 4, type := 0, pos := "law.go:80", after := #[{ on := 0, ground := Go.Ground.phase }, { on := 1, ground := Go.Ground.phase }, { on := 2, ground := Go.Ground.phase }, { on := 3, ground := Go.Ground.phase }, { on := 4, ground := Go.Ground.phase }, { on := 5, ground := Go.Ground.phase }, { on := 6, ground := Go.Ground.phase }, { on := 7, ground := Go.Ground.phase }, { on := 8, ground := Go.Ground.phase }, { on := 9, ground := Go.Ground.phase }, { on := 10, ground := Go.Ground.phase }, { on := 11, ground := Go.Ground.phase }, { on := 12, ground := Go.Ground.phase }], guard := none }) rfl (by decide) (fun K hK => ?_) AllReadyL.nil
  go_simp
  refine hK.out _ _ trivial (fun _ => ?_)
  clear hK K
  try simp only [Act.put, List.setIfInBounds_toArray, List.set_cons_zero, List.set_cons_succ]
  refine wpAnyL_ready (rs := [14]) (by kernel_rfl) (by simp) ?_
  refine AllReadyL.last (o := { dst := none, op := Go.Op.store 25 (Go.Operand.tmp 49) (Go.Operand.tmp 46), type := 0, pos := "law.go:80", after := #[{ on := 13, ground := Go.Ground.data }, { on := 8, ground := Go.Ground.data }, { on := 12, ground := Go.Ground.chain }, { on := 0, ground := Go.Ground.phase }, { on := 1, ground := Go.Ground.phase }, { on := 2, ground := Go.Ground.phase }, { on := 3, ground := Go.Ground.phase }, { on := 4, ground := Go.Ground.phase }, { on := 5, ground := Go.Ground.phase }, { on := 6, ground := Go.Ground.phase }, { on := 7, ground := Go.Ground.phase }, { on := 8, ground := Go.Ground.phase }, { on := 9, ground := Go.Ground.phase }, { on := 10, ground := Go.Ground.phase }, { on := 11, ground := Go.Ground.phase }, { on := 12, ground := Go.Ground.phase }], guard := none }) rfl (by decide) (fun K hK => ?_) AllReadyL.nil
  go_simp
  refine hK.out _ _ trivial (fun _ => ?_)
  clear hK K
  try simp only [Act.put, List.setIfInBounds_toArray, List.set_cons_zero, List.set_cons_succ]
  refine wpAnyL_done (by kernel_rfl) ?_ _
  have hg6 : wy8.grownBy (((wy8.setCell ⟨q11, 9, none⟩ (.slice na2 nl nc2)).setCell ⟨q11, 10, none⟩ (.slice sa2 sl sc2)).setCell ⟨q11, 11, none⟩ (.slice xa2 xl xc2)) (some q11) := ((grown_cell wy8 q11 9 (.slice na2 nl nc2)).trans (grown_cell _ q11 10 (.slice sa2 sl sc2))).trans (grown_cell _ q11 11 (.slice xa2 xl xc2))
  have hp6 := ((HP.out.set 9 (by simp) (.slice na2 nl nc2)).set 10 (by simp) (.slice sa2 sl sc2)).set 11 (by simp) (.slice xa2 xl xc2)
  have ht6 := ((HTP.out.set 9 (.slice na2 nl nc2)).set 10 (.slice sa2 sl sc2)).set 11 (.slice xa2 xl xc2)
  have ha6 := own_keeps HA2.out HTP.out (by decide) hg6
  have hn6 := own_keeps HN2.out HTP.out (by decide) hg6
  have hx6 := own_keeps HX2.out HTP.out (by decide) hg6
  have hb6 := HU.out.grown hg6 HU.out.size (fun k hk => by injection hk with hk; rw [← hk]; exact HQ11.out)
  have hz6 : wy8.heap.size ≤ ((((wy8.setCell ⟨q11, 9, none⟩ (.slice na2 nl nc2)).setCell ⟨q11, 10, none⟩ (.slice sa2 sl sc2)).setCell ⟨q11, 11, none⟩ (.slice xa2 xl xc2))).heap.size := hg6.size
  obtain ⟨w6z, hwz⟩ : ∃ x, (((wy8.setCell ⟨q11, 9, none⟩ (.slice na2 nl nc2)).setCell ⟨q11, 10, none⟩ (.slice sa2 sl sc2)).setCell ⟨q11, 11, none⟩ (.slice xa2 xl xc2)) = x := ⟨_, rfl⟩
  rw [hwz] at hp6 ht6 ha6 hn6 hx6 hb6 hz6 ⊢
  replace HP := Lib.hid (show CN w6z q11 [.int .i64 mi, .int .i64 mo, .int .i64 mr, .bool b1, .bool b2, .bool b3, .bool b4, .bool b5, .slice qa ql qc, .slice na2 nl nc2, .slice sa2 sl sc2, .slice xa2 xl xc2] from hp6)
  replace HTP := Lib.hid ht6
  replace HA2 := Lib.hid ha6
  replace HN2 := Lib.hid hn6
  replace HX2 := Lib.hid hx6
  have HBL := Lib.hid hb6
  have HZ9 := Lib.hid hz6
  clear hg6 hp6 ht6 ha6 hn6 hx6 hb6 hz6 hwz HU r0 r1 r2 r3 r4 r5 r6 r7 r8 r9 r10 r11 g0 g1 g2 g3 g4 g5 g6 g7 g8 g9 g10 g11
  go_upto_region 7 with (fail)
  obtain ⟨SB, hSB⟩ : ∃ x, sameB ma mb = x := ⟨_, rfl⟩
  have HSB2 := Lib.hid hSB
  have HSMA := Lib.hid HSA.out.sm
  have HSMB := Lib.hid HSB.out.sm
  have e7 : (SB == SB) = true := beq_self_eq_true SB
  clear hSB
  refine wp_region_held_drew (S := (fun wx => Below w10.heap.size w10 wx)) (by kernel_rfl) (HBL.out.drew) (fun hHeld => ?_)
  have hbd := (Below.refl w6z.heap.size w6z).drew
  replace HP := Lib.hid (HP.out.below hbd)
  replace HTP := Lib.hid (HTP.out.below hbd)
  replace HA2 := Lib.hid (own_below' HA2.out hbd)
  replace HN2 := Lib.hid (own_below' HN2.out hbd)
  replace HX2 := Lib.hid (own_below' HX2.out hbd)
  obtain ⟨wd7, hwd⟩ : ∃ x, w6z.drew = x := ⟨_, rfl⟩
  rw [hwd] at hHeld HP HTP HA2 HN2 HX2 hbd ⊢
  replace HZ9 := Lib.hid (Nat.le_trans HZ9.out hbd.size)
  clear hwd hbd HBL
  refine wpAnyH_take (i := 0) (oi := { dst := some 50, op := Go.Op.load 27 (Go.Operand.tmp 5), type := 27, pos := "law.go:81", after := #[], guard := none }) (v := ?v0_160101) rfl (by kernel_rfl) (by kernel_rfl) (by kernel_rfl) (fun _ _ _ h => h) (Or.inl ⟨by rfl, ?y0_160101⟩) hHeld ?r0_160101
  case y0_160101 => intro w hSw; (try dsimp only at hSw); obtain ⟨y0, y1, y2, y3, y4, y5, y6, y7, y8, y9, y10, y11, _⟩ := (HCA.out.below hSw).u12; go_simp; try with_reducible rfl
  try simp only [Act.put, List.setIfInBounds_toArray, List.set_cons_zero, List.set_cons_succ]
  refine wpAnyH_take (i := 1) (oi := { dst := some 51, op := Go.Op.load 27 (Go.Operand.tmp 6), type := 27, pos := "law.go:81", after := #[], guard := none }) (v := ?v1_160101) rfl (by kernel_rfl) (by kernel_rfl) (by kernel_rfl) (fun _ _ _ h => h) (Or.inl ⟨by rfl, ?y1_160101⟩) hHeld ?r1_160101
  case y1_160101 => intro w hSw; (try dsimp only at hSw); obtain ⟨y0, y1, y2, y3, y4, y5, y6, y7, y8, y9, y10, y11, _⟩ := (HCB.out.below hSw).u12; go_simp; try with_reducible rfl
  try simp only [Act.put, List.setIfInBounds_toArray, List.set_cons_zero, List.set_cons_succ]
  refine wpAnyH_take (i := 3) (oi := { dst := some 53, op := Go.Op.load 27 (Go.Operand.tmp 5), type := 27, pos := "law.go:81", after := #[], guard := none }) (v := ?v3_160101) rfl (by kernel_rfl) (by kernel_rfl) (by kernel_rfl) (fun _ _ _ h => h) (Or.inl ⟨by rfl, ?y3_160101⟩) hHeld ?r3_160101
  case y3_160101 => intro w hSw; (try dsimp only at hSw); obtain ⟨y0, y1, y2, y3, y4, y5, y6, y7, y8, y9, y10, y11, _⟩ := (HCA.out.below hSw).u12; go_simp; try with_reducible rfl
  try simp only [Act.put, List.setIfInBounds_toArray, List.set_cons_zero, List.set_cons_succ]
  refine wpAnyH_take (i := 5) (oi := { dst := some 55, op := Go.Op.load 27 (Go.Operand.tmp 6), type := 27, pos := "law.go:81", after := #[], guard := none }) (v := ?v5_160101) rfl (by kernel_rfl) (by kernel_rfl) (by kernel_rfl) (fun _ _ _ h => h) (Or.inl ⟨by rfl, ?y5_160101⟩) hHeld ?r5_160101
  case y5_160101 => intro w hSw; (try dsimp only at hSw); obtain ⟨y0, y1, y2, y3, y4, y5, y6, y7, y8, y9, y10, y11, _⟩ := (HCB.out.below hSw).u12; go_simp; try with_reducible rfl
  try simp only [Act.put, List.setIfInBounds_toArray, List.set_cons_zero, List.set_cons_succ]
  refine wpAnyH_ready (rs := [2]) (by kernel_rfl) (by simp) ?_
  refine AllReadyH.cons (o := { dst := some 52, op := Go.Op.call { callee := Go.Callee.value (Go.Operand.func 35), args := #[Go.Operand.tmp 50, Go.Operand.tmp 51], argTypes := #[27, 27] }, type := 4, pos := "law.go:81", after := #[{ on := 0, ground := Go.Ground.data }, { on := 1, ground := Go.Ground.data }], guard := none }) rfl (fun K hK => ?_) AllReadyH.nil
  go_simp
  refine (sameM_any _ _ ma mb _ (HMA.out.below hHeld) (HMB.out.below hHeld) HSMA.out HSMB.out).mono ?_; rintro e wz2 ⟨rfl, hb⟩
  rw [HSB2.out]
  replace HP := Lib.hid (HP.out.below hb)
  replace HTP := Lib.hid (HTP.out.below hb)
  replace HA2 := Lib.hid (own_below' HA2.out hb)
  replace HN2 := Lib.hid (own_below' HN2.out hb)
  replace HX2 := Lib.hid (own_below' HX2.out hb)
  replace HZ9 := Lib.hid (Nat.le_trans HZ9.out hb.size)
  go_wp2_with fail
  refine hK.out _ _ (hHeld.trans (hb.mono hHeld.size)) (fun hHeld2 => ?_)
  clear hK K hHeld
  have hHeld := hHeld2
  clear hHeld2
  try simp only [Act.put, List.setIfInBounds_toArray, List.set_cons_zero, List.set_cons_succ]
  refine wpAnyH_ready (rs := [4]) (by kernel_rfl) (by simp) ?_
  refine AllReadyH.cons (o := { dst := some 54, op := Go.Op.call { callee := Go.Callee.value (Go.Operand.func 15), args := #[Go.Operand.tmp 53], argTypes := #[27] }, type := 32, pos := "law.go:81", after := #[{ on := 3, ground := Go.Ground.data }, { on := 2, ground := Go.Ground.chain }], guard := none }) rfl (fun K hK => ?_) AllReadyH.nil
  go_simp
  refine (plainM_any _ ma _ (HMA.out.below hHeld)).mono ?_; rintro e wz4 ⟨rfl, hb⟩
  replace HP := Lib.hid (HP.out.below hb)
  replace HTP := Lib.hid (HTP.out.below hb)
  replace HA2 := Lib.hid (own_below' HA2.out hb)
  replace HN2 := Lib.hid (own_below' HN2.out hb)
  replace HX2 := Lib.hid (own_below' HX2.out hb)
  replace HZ9 := Lib.hid (Nat.le_trans HZ9.out hb.size)
  go_wp2_with fail
  refine hK.out _ _ (hHeld.trans (hb.mono hHeld.size)) (fun hHeld2 => ?_)
  clear hK K hHeld
  have hHeld := hHeld2
  clear hHeld2
  try simp only [Act.put, List.setIfInBounds_toArray, List.set_cons_zero, List.set_cons_succ]
  refine wpAnyH_ready (rs := [6]) (by kernel_rfl) (by simp) ?_
  refine AllReadyH.cons (o := { dst := some 56, op := Go.Op.call { callee := Go.Callee.value (Go.Operand.func 15), args := #[Go.Operand.tmp 55], argTypes := #[27] }, type := 32, pos := "law.go:81", after := #[{ on := 5, ground := Go.Ground.data }, { on := 4, ground := Go.Ground.chain }], guard := none }) rfl (fun K hK => ?_) AllReadyH.nil
  go_simp
  refine (plainM_any _ mb _ (HMB.out.below hHeld)).mono ?_; rintro e wz6 ⟨rfl, hb⟩
  replace HP := Lib.hid (HP.out.below hb)
  replace HTP := Lib.hid (HTP.out.below hb)
  replace HA2 := Lib.hid (own_below' HA2.out hb)
  replace HN2 := Lib.hid (own_below' HN2.out hb)
  replace HX2 := Lib.hid (own_below' HX2.out hb)
  replace HZ9 := Lib.hid (Nat.le_trans HZ9.out hb.size)
  go_wp2_with fail
  refine hK.out _ _ (hHeld.trans (hb.mono hHeld.size)) (fun hHeld2 => ?_)
  clear hK K hHeld
  have hHeld := hHeld2
  clear hHeld2
  try simp only [Act.put, List.setIfInBounds_toArray, List.set_cons_zero, List.set_cons_succ]
  refine wpAnyH_ready (rs := [7]) (by kernel_rfl) (by simp) ?_
  refine AllReadyH.cons (o := { dst := some 57, op := Go.Op.call { callee := Go.Callee.value (Go.Operand.func 30), args := #[Go.Operand.tmp 54, Go.Operand.tmp 56], argTypes := #[32, 32] }, type := 4, pos := "law.go:81", after := #[{ on := 4, ground := Go.Ground.data }, { on := 6, ground := Go.Ground.data }, { on := 6, ground := Go.Ground.chain }], guard := none }) rfl (fun K hK => ?_) AllReadyH.nil
  go_simp
  refine (sameMD_any _ _ ma mb _ (HMA.out.below hHeld) (HMB.out.below hHeld) HSMA.out HSMB.out).mono ?_; rintro e wz7 ⟨rfl, hb⟩
  rw [HSB2.out]
  replace HP := Lib.hid (HP.out.below hb)
  replace HTP := Lib.hid (HTP.out.below hb)
  replace HA2 := Lib.hid (own_below' HA2.out hb)
  replace HN2 := Lib.hid (own_below' HN2.out hb)
  replace HX2 := Lib.hid (own_below' HX2.out hb)
  replace HZ9 := Lib.hid (Nat.le_trans HZ9.out hb.size)
  go_wp2_with fail
  refine hK.out _ _ (hHeld.trans (hb.mono hHeld.size)) (fun hHeld2 => ?_)
  clear hK K hHeld
  have hHeld := hHeld2
  clear hHeld2
  try simp only [Act.put, List.setIfInBounds_toArray, List.set_cons_zero, List.set_cons_succ]
  refine wpAnyH_take (i := 8) (oi := { dst := some 58, op := Go.Op.binOp Go.BinOp.eql 4 (Go.Operand.tmp 52) (Go.Operand.tmp 57) 4, type := 4, pos := "law.go:81", after := #[{ on := 2, ground := Go.Ground.data }, { on := 7, ground := Go.Ground.data }], guard := none }) (v := ?v8_160105) rfl (by kernel_rfl) (by kernel_rfl) (by kernel_rfl) (fun _ _ _ h => h) (Or.inl ⟨by rfl, ?y8_160105⟩) hHeld ?r8_160105
  case y8_160105 => intro w hSw; (try dsimp only at hSw); go_simp; try with_reducible rfl
  try simp only [Act.put, List.setIfInBounds_toArray, List.set_cons_zero, List.set_cons_succ]
  refine wpAnyH_take (i := 9) (oi := { dst := some 12, op := Go.Op.assign (Go.Operand.tmp 58), type := 4, pos := "law.go:81", after := #[{ on := 8, ground := Go.Ground.data }, { on := 7, ground := Go.Ground.chain }, { on := 0, ground := Go.Ground.phase }, { on := 1, ground := Go.Ground.phase }, { on := 2, ground := Go.Ground.phase }, { on := 3, ground := Go.Ground.phase }, { on := 4, ground := Go.Ground.phase }, { on := 5, ground := Go.Ground.phase }, { on := 6, ground := Go.Ground.phase }, { on := 7, ground := Go.Ground.phase }, { on := 8, ground := Go.Ground.phase }], guard := none }) (v := ?v9_160105) rfl (by kernel_rfl) (by kernel_rfl) (by kernel_rfl) (fun _ _ _ h => h) (Or.inl ⟨by rfl, ?y9_160105⟩) hHeld ?r9_160105
  case y9_160105 => intro w hSw; (try dsimp only at hSw); go_simp; try with_reducible rfl
  try simp only [Act.put, List.setIfInBounds_toArray, List.set_cons_zero, List.set_cons_succ]
  refine wpAnyH_done (by kernel_rfl) ?_ _
  have HBL := Lib.hid hHeld
  have HS10 := Lib.hid hHeld.size
  clear hHeld e7
  go_upto_region 8 with (fail)
  go_cut [13] (fun v wx => CpC wz7 mi mo mr b1 b2 b3 b4 b5 qa ql qc nl sl xl ma.a ma.n ma.x v wx)
  case first =>
    refine wp_region_held_drew (S := (fun wx => Below wz7.heap.size wz7 wx)) (by kernel_rfl) ((Below.refl wz7.heap.size wz7).drew) (fun hHeld => ?_)
    obtain ⟨wd8, hwd⟩ : ∃ x, wz7.drew = x := ⟨_, rfl⟩
    rw [hwd] at hHeld ⊢
    clear hwd
    refine wpAnyH_take (i := 0) (oi := { dst := some 59, op := Go.Op.fieldAddr 27 (Go.Operand.tmp 5) 0, type := 0, pos := "law.go:82", after := #[], guard := none }) (v := ?v0_170101) rfl (by kernel_rfl) (by kernel_rfl) (by kernel_rfl) (fun _ _ _ h => h) (Or.inl ⟨by rfl, ?y0_170101⟩) hHeld ?r0_170101
    case y0_170101 => intro w hSw; (try dsimp only at hSw); go_simp; try with_reducible rfl
    try simp only [Act.put, List.setIfInBounds_toArray, List.set_cons_zero, List.set_cons_succ]
    refine wpAnyH_take (i := 1) (oi := { dst := some 60, op := Go.Op.load 23 (Go.Operand.tmp 59), type := 23, pos := "law.go:82", after := #[{ on := 0, ground := Go.Ground.data }], guard := none }) (v := ?v1_170101) rfl (by kernel_rfl) (by kernel_rfl) (by kernel_rfl) (fun _ _ _ h => h) (Or.inl ⟨by rfl, ?y1_170101⟩) hHeld ?r1_170101
    case y1_170101 => intro w hSw; (try dsimp only at hSw); obtain ⟨y0, y1, y2, y3, y4, y5, y6, y7, y8, y9, y10, y11, _⟩ := (HCA.out.below (HBL.out.trans (Below.mono hSw HBL.out.size))).u12; go_simp; try with_reducible rfl
    try simp only [Act.put, List.setIfInBounds_toArray, List.set_cons_zero, List.set_cons_succ]
    refine wpAnyH_take (i := 2) (oi := { dst := some 61, op := Go.Op.fieldAddr 27 (Go.Operand.tmp 5) 1, type := 0, pos := "law.go:82", after := #[], guard := none }) (v := ?v2_170101) rfl (by kernel_rfl) (by kernel_rfl) (by kernel_rfl) (fun _ _ _ h => h) (Or.inl ⟨by rfl, ?y2_170101⟩) hHeld ?r2_170101
    case y2_170101 => intro w hSw; (try dsimp only at hSw); go_simp; try with_reducible rfl
    try simp only [Act.put, List.setIfInBounds_toArray, List.set_cons_zero, List.set_cons_succ]
    refine wpAnyH_take (i := 3) (oi := { dst := some 62, op := Go.Op.load 24 (Go.Operand.tmp 61), type := 24, pos := "law.go:82", after := #[{ on := 2, ground := Go.Ground.data }], guard := none }) (v := ?v3_170101) rfl (by kernel_rfl) (by kernel_rfl) (by kernel_rfl) (fun _ _ _ h => h) (Or.inl ⟨by rfl, ?y3_170101⟩) hHeld ?r3_170101
    case y3_170101 => intro w hSw; (try dsimp only at hSw); obtain ⟨y0, y1, y2, y3, y4, y5, y6, y7, y8, y9, y10, y11, _⟩ := (HCA.out.below (HBL.out.trans (Below.mono hSw HBL.out.size))).u12; go_simp; try with_reducible rfl
    try simp only [Act.put, List.setIfInBounds_toArray, List.set_cons_zero, List.set_cons_succ]
    refine wpAnyH_take (i := 4) (oi := { dst := some 63, op := Go.Op.fieldAddr 27 (Go.Operand.tmp 5) 2, type := 0, pos := "law.go:82", after := #[], guard := none }) (v := ?v4_170101) rfl (by kernel_rfl) (by kernel_rfl) (by kernel_rfl) (fun _ _ _ h => h) (Or.inl ⟨by rfl, ?y4_170101⟩) hHeld ?r4_170101
    case y4_170101 => intro w hSw; (try dsimp only at hSw); go_simp; try with_reducible rfl
    try simp only [Act.put, List.setIfInBounds_toArray, List.set_cons_zero, List.set_cons_succ]
    refine wpAnyH_take (i := 5) (oi := { dst := some 64, op := Go.Op.load 25 (Go.Operand.tmp 63), type := 25, pos := "law.go:82", after := #[{ on := 4, ground := Go.Ground.data }], guard := none }) (v := ?v5_170101) rfl (by kernel_rfl) (by kernel_rfl) (by kernel_rfl) (fun _ _ _ h => h) (Or.inl ⟨by rfl, ?y5_170101⟩) hHeld ?r5_170101
    case y5_170101 => intro w hSw; (try dsimp only at hSw); obtain ⟨y0, y1, y2, y3, y4, y5, y6, y7, y8, y9, y10, y11, _⟩ := (HCA.out.below (HBL.out.trans (Below.mono hSw HBL.out.size))).u12; go_simp; try with_reducible rfl
    try simp only [Act.put, List.setIfInBounds_toArray, List.set_cons_zero, List.set_cons_succ]
    refine wpAnyH_take (i := 7) (oi := { dst := some 66, op := Go.Op.fieldAddr 27 (Go.Operand.tmp 5) 3, type := 0, pos := "law.go:82", after := #[], guard := none }) (v := ?v7_170101) rfl (by kernel_rfl) (by kernel_rfl) (by kernel_rfl) (fun _ _ _ h => h) (Or.inl ⟨by rfl, ?y7_170101⟩) hHeld ?r7_170101
    case y7_170101 => intro w hSw; (try dsimp only at hSw); go_simp; try with_reducible rfl
    try simp only [Act.put, List.setIfInBounds_toArray, List.set_cons_zero, List.set_cons_succ]
    refine wpAnyH_take (i := 8) (oi := { dst := some 67, op := Go.Op.load 25 (Go.Operand.tmp 66), type := 25, pos := "law.go:82", after := #[{ on := 7, ground := Go.Ground.data }], guard := none }) (v := ?v8_170101) rfl (by kernel_rfl) (by kernel_rfl) (by kernel_rfl) (fun _ _ _ h => h) (Or.inl ⟨by rfl, ?y8_170101⟩) hHeld ?r8_170101
    case y8_170101 => intro w hSw; (try dsimp only at hSw); obtain ⟨y0, y1, y2, y3, y4, y5, y6, y7, y8, y9, y10, y11, _⟩ := (HCA.out.below (HBL.out.trans (Below.mono hSw HBL.out.size))).u12; go_simp; try with_reducible rfl
    try simp only [Act.put, List.setIfInBounds_toArray, List.set_cons_zero, List.set_cons_succ]
    refine wpAnyH_take (i := 10) (oi := { dst := some 69, op := Go.Op.fieldAddr 27 (Go.Operand.tmp 5) 4, type := 0, pos := "law.go:82", after := #[], guard := none }) (v := ?v10_170101) rfl (by kernel_rfl) (by kernel_rfl) (by kernel_rfl) (fun _ _ _ h => h) (Or.inl ⟨by rfl, ?y10_170101⟩) hHeld ?r10_170101
    case y10_170101 => intro w hSw; (try dsimp only at hSw); go_simp; try with_reducible rfl
    try simp only [Act.put, List.setIfInBounds_toArray, List.set_cons_zero, List.set_cons_succ]
    refine wpAnyH_take (i := 11) (oi := { dst := some 70, op := Go.Op.load 25 (Go.Operand.tmp 69), type := 25, pos := "law.go:82", after := #[{ on := 10, ground := Go.Ground.data }], guard := none }) (v := ?v11_170101) rfl (by kernel_rfl) (by kernel_rfl) (by kernel_rfl) (fun _ _ _ h => h) (Or.inl ⟨by rfl, ?y11_170101⟩) hHeld ?r11_170101
    case y11_170101 => intro w hSw; (try dsimp only at hSw); obtain ⟨y0, y1, y2, y3, y4, y5, y6, y7, y8, y9, y10, y11, _⟩ := (HCA.out.below (HBL.out.trans (Below.mono hSw HBL.out.size))).u12; go_simp; try with_reducible rfl
    try simp only [Act.put, List.setIfInBounds_toArray, List.set_cons_zero, List.set_cons_succ]
    refine wpAnyH_ready (rs := [6, 14]) (by kernel_rfl) (by simp) ?_
    refine AllReadyH.cons (o := { dst := some 65, op := Go.Op.call { callee := Go.Callee.value (Go.Operand.func 16), args := #[Go.Operand.tmp 64], argTypes := #[25] }, type := 25, pos := "law.go:82", after := #[{ on := 5, ground := Go.Ground.data }], guard := none }) rfl (fun K hK => ?_) (AllReadyH.cons (o := { dst := some 13, op := Go.Op.alloc 27, type := 0, pos := "law.go:82", after := #[], guard := none }) rfl (fun K hK => ?_) AllReadyH.nil)
    · go_simp
      refine (copyRR5 na nl nc ma.a _ (HRA.out.below (HBL.out.trans (hHeld.mono HBL.out.size))) HNA.out hnl).mono ?_; rintro e wc1 ⟨v, rfl, ho, hb⟩
      obtain ⟨na3, nc3, rfl, -⟩ := rowR_own ho
      have GA := Lib.hid (own_mono4 ho (show wz7.heap.size ≤ wd8.heap.size from hHeld.size))
      clear ho
      go_wp2_with fail
      refine hK.out _ _ (hHeld.trans (Below.mono hb hHeld.size)) (fun hHeld2 => ?_)
      clear hK K hHeld
      have hHeld := hHeld2
      clear hHeld2
      try simp only [Act.put, List.setIfInBounds_toArray, List.set_cons_zero, List.set_cons_succ]
      refine wpAnyH_ready (rs := [9, 14]) (by kernel_rfl) (by simp) ?_
      refine AllReadyH.cons (o := { dst := some 68, op := Go.Op.call { callee := Go.Callee.value (Go.Operand.func 16), args := #[Go.Operand.tmp 67], argTypes := #[25] }, type := 25, pos := "law.go:82", after := #[{ on := 8, ground := Go.Ground.data }, { on := 6, ground := Go.Ground.chain }], guard := none }) rfl (fun K hK => ?_) (AllReadyH.cons (o := { dst := some 13, op := Go.Op.alloc 27, type := 0, pos := "law.go:82", after := #[], guard := none }) rfl (fun K hK => ?_) AllReadyH.nil)
      · go_simp
        refine (copyRR5 sa sl sc ma.n _ (HRN.out.below (HBL.out.trans (hHeld.mono HBL.out.size))) HNN.out hsl).mono ?_; rintro e wc2 ⟨v, rfl, ho, hb⟩
        obtain ⟨sa3, sc3, rfl, -⟩ := rowR_own ho
        replace GA := Lib.hid (own_below' GA.out hb)
        have GN := Lib.hid (own_mono4 ho (show wz7.heap.size ≤ wc1.heap.size from hHeld.size))
        clear ho
        go_wp2_with fail
        refine hK.out _ _ (hHeld.trans (Below.mono hb hHeld.size)) (fun hHeld2 => ?_)
        clear hK K hHeld
        have hHeld := hHeld2
        clear hHeld2
        try simp only [Act.put, List.setIfInBounds_toArray, List.set_cons_zero, List.set_cons_succ]
        refine wpAnyH_ready (rs := [12, 14]) (by kernel_rfl) (by simp) ?_
        refine AllReadyH.cons (o := { dst := some 71, op := Go.Op.call { callee := Go.Callee.value (Go.Operand.func 16), args := #[Go.Operand.tmp 70], argTypes := #[25] }, type := 25, pos := "law.go:82", after := #[{ on := 11, ground := Go.Ground.data }, { on := 9, ground := Go.Ground.chain }], guard := none }) rfl (fun K hK => ?_) (AllReadyH.cons (o := { dst := some 13, op := Go.Op.alloc 27, type := 0, pos := "law.go:82", after := #[], guard := none }) rfl (fun K hK => ?_) AllReadyH.nil)
        · go_simp
          refine (copyRR5 xa xl xc ma.x _ (HRX.out.below (HBL.out.trans (hHeld.mono HBL.out.size))) HNX.out hxl).mono ?_; rintro e wc3 ⟨v, rfl, ho, hb⟩
          obtain ⟨xa3, xc3, rfl, -⟩ := rowR_own ho
          replace GA := Lib.hid (own_below' GA.out hb)
          replace GN := Lib.hid (own_below' GN.out hb)
          have GX := Lib.hid (own_mono4 ho (show wz7.heap.size ≤ wc2.heap.size from hHeld.size))
          clear ho
          go_wp2_with fail
          refine hK.out _ _ (hHeld.trans (Below.mono hb hHeld.size)) (fun hHeld2 => ?_)
          clear hK K hHeld
          have hHeld := hHeld2
          clear hHeld2
          try simp only [Act.put, List.setIfInBounds_toArray, List.set_cons_zero, List.set_cons_succ]
          refine wpAnyH_take (i := 13) (oi := { dst := some 72, op := Go.Op.build 27 #[(0, Go.Operand.tmp 60), (1, Go.Operand.tmp 62), (2, Go.Operand.tmp 65), (3, Go.Operand.tmp 68), (4, Go.Operand.tmp 71)], type := 27, pos := "law.go:82", after := #[{ on := 1, ground := Go.Ground.data }, { on := 3, ground := Go.Ground.data }, { on := 6, ground := Go.Ground.data }, { on := 9, ground := Go.Ground.data }, { on := 12, ground := Go.Ground.data }], guard := none }) (v := ?v13_170104) rfl (by kernel_rfl) (by kernel_rfl) (by kernel_rfl) (fun _ _ _ h => h) (Or.inl ⟨by rfl, ?y13_170104⟩) hHeld ?r13_170104
          case y13_170104 => intro w hSw; (try dsimp only at hSw); go_simp; try with_reducible rfl
          try simp only [Act.put, List.setIfInBounds_toArray, List.set_cons_zero, List.set_cons_succ]
          refine wpAnyH_ready (rs := [14]) (by kernel_rfl) (by simp) ?_
          refine AllReadyH.cons (o := { dst := some 13, op := Go.Op.alloc 27, type := 0, pos := "law.go:82", after := #[], guard := none }) rfl (fun K hK => ?_) AllReadyH.nil
          go_simp
          have hba := (Below.refl _ _ : Below wc3.heap.size wc3 wc3).alloc (Nat.le_refl _) (.cells #[.int .i64 0, .int .i64 0, .int .i64 0, .bool false, .bool false, .bool false, .bool false, .bool false, .slice none 0 0, .slice none 0 0, .slice none 0 0, .slice none 0 0] 27)
          replace GA := Lib.hid (own_below' GA.out hba)
          replace GN := Lib.hid (own_below' GN.out hba)
          replace GX := Lib.hid (own_below' GX.out hba)
          have GC := Lib.hid (CN.new wc3 #[.int .i64 0, .int .i64 0, .int .i64 0, .bool false, .bool false, .bool false, .bool false, .bool false, .slice none 0 0, .slice none 0 0, .slice none 0 0, .slice none 0 0] 27)
          have GT := Lib.hid (TB.new wc3 #[.int .i64 0, .int .i64 0, .int .i64 0, .bool false, .bool false, .bool false, .bool false, .bool false, .slice none 0 0, .slice none 0 0, .slice none 0 0, .slice none 0 0] 27)
          have hsz : wz7.heap.size ≤ wc3.heap.size := hHeld.size
          obtain ⟨wc4, hwe⟩ : ∃ x, wc3.alloc (.cells #[.int .i64 0, .int .i64 0, .int .i64 0, .bool false, .bool false, .bool false, .bool false, .bool false, .slice none 0 0, .slice none 0 0, .slice none 0 0, .slice none 0 0] 27) = x := ⟨_, rfl⟩
          obtain ⟨q13, hq13⟩ : ∃ x, wc3.heap.size = x := ⟨_, rfl⟩
          rw [hwe] at hba GC GT GA GN GX ⊢
          rw [hq13] at GC GT ⊢
          have HQ13 := Lib.hid (show wz7.heap.size ≤ q13 by rw [← hq13]; exact hsz)
          have hb := hba
          clear hba hwe hsz hq13
          refine hK.out _ _ (hHeld.trans (Below.mono hb hHeld.size)) (fun hHeld2 => ?_)
          clear hK K hHeld
          have hHeld := hHeld2
          clear hHeld2
          try simp only [Act.put, List.setIfInBounds_toArray, List.set_cons_zero, List.set_cons_succ]
          refine wpAnyH_ready (rs := [15]) (by kernel_rfl) (by simp) ?_
          refine AllReadyH.cons (o := { dst := none, op := Go.Op.store 27 (Go.Operand.tmp 13) (Go.Operand.tmp 72), type := 0, pos := "law.go:82", after := #[{ on := 14, ground := Go.Ground.data }, { on := 13, ground := Go.Ground.data }, { on := 12, ground := Go.Ground.chain }, { on := 0, ground := Go.Ground.phase }, { on := 1, ground := Go.Ground.phase }, { on := 2, ground := Go.Ground.phase }, { on := 3, ground := Go.Ground.phase }, { on := 4, ground := Go.Ground.phase }, { on := 5, ground := Go.Ground.phase }, { on := 6, ground := Go.Ground.phase }, { on := 7, ground := Go.Ground.phase }, { on := 8, ground := Go.Ground.phase }, { on := 9, ground := Go.Ground.phase }, { on := 10, ground := Go.Ground.phase }, { on := 11, ground := Go.Ground.phase }, { on := 12, ground := Go.Ground.phase }, { on := 13, ground := Go.Ground.phase }, { on := 14, ground := Go.Ground.phase }], guard := none }) rfl (fun K hK => ?_) AllReadyH.nil
          obtain ⟨r0, r1, r2, r3, r4, r5, r6, r7, r8, r9, r10, r11, g0, g1, g2, g3, g4, g5, g6, g7, g8, g9, g10, g11⟩ := GC.out.u12
          go_simp
          have HGS := Lib.hid (grown_s12 wc4 q13 (.int .i64 mi) (.int .i64 mo) (.int .i64 mr) (.bool b1) (.bool b2) (.bool b3) (.bool b4) (.bool b5) (.slice qa ql qc) (.slice na3 nl nc3) (.slice sa3 sl sc3) (.slice xa3 xl xc3))
          have HCZ := Lib.hid (GC.out.s12 (.int .i64 mi) (.int .i64 mo) (.int .i64 mr) (.bool b1) (.bool b2) (.bool b3) (.bool b4) (.bool b5) (.slice qa ql qc) (.slice na3 nl nc3) (.slice sa3 sl sc3) (.slice xa3 xl xc3))
          have HTZ := Lib.hid (GT.out.s12 (.int .i64 mi) (.int .i64 mo) (.int .i64 mr) (.bool b1) (.bool b2) (.bool b3) (.bool b4) (.bool b5) (.slice qa ql qc) (.slice na3 nl nc3) (.slice sa3 sl sc3) (.slice xa3 xl xc3))
          have HAZ := Lib.hid (own_keeps GA.out GT.out (by decide) HGS.out)
          have HNZ := Lib.hid (own_keeps GN.out GT.out (by decide) HGS.out)
          have HXZ := Lib.hid (own_keeps GX.out GT.out (by decide) HGS.out)
          clear r0 r1 r2 r3 r4 r5 r6 r7 r8 r9 r10 r11 g0 g1 g2 g3 g4 g5 g6 g7 g8 g9 g10 g11
          refine hK.out _ _ (hHeld.grown HGS.out hHeld.size (fun k hk => by injection hk with hk; have := HQ13.out; omega)) (fun hHeld2 => ?_)
          clear hK K hHeld
          have hHeld := hHeld2
          clear hHeld2
          try simp only [Act.put, List.setIfInBounds_toArray, List.set_cons_zero, List.set_cons_succ]
          refine wpAnyH_done (by kernel_rfl) ?_ _
          go_wp2
          go_meet
          exact ⟨q13, na3, sa3, xa3, nc3, sc3, xc3, rfl, HQ13.out, HCZ.out, HTZ.out, HAZ.out, HNZ.out, HXZ.out, hHeld⟩
        · go_simp
          have hba := (Below.refl _ _ : Below wc2.heap.size wc2 wc2).alloc (Nat.le_refl _) (.cells #[.int .i64 0, .int .i64 0, .int .i64 0, .bool false, .bool false, .bool false, .bool false, .bool false, .slice none 0 0, .slice none 0 0, .slice none 0 0, .slice none 0 0] 27)
          replace GA := Lib.hid (own_below' GA.out hba)
          replace GN := Lib.hid (own_below' GN.out hba)
          have GC := Lib.hid (CN.new wc2 #[.int .i64 0, .int .i64 0, .int .i64 0, .bool false, .bool false, .bool false, .bool false, .bool false, .slice none 0 0, .slice none 0 0, .slice none 0 0, .slice none 0 0] 27)
          have GT := Lib.hid (TB.new wc2 #[.int .i64 0, .int .i64 0, .int .i64 0, .bool false, .bool false, .bool false, .bool false, .bool false, .slice none 0 0, .slice none 0 0, .slice none 0 0, .slice none 0 0] 27)
          have hsz : wz7.heap.size ≤ wc2.heap.size := hHeld.size
          obtain ⟨wc3, hwe⟩ : ∃ x, wc2.alloc (.cells #[.int .i64 0, .int .i64 0, .int .i64 0, .bool false, .bool false, .bool false, .bool false, .bool false, .slice none 0 0, .slice none 0 0, .slice none 0 0, .slice none 0 0] 27) = x := ⟨_, rfl⟩
          obtain ⟨q13, hq13⟩ : ∃ x, wc2.heap.size = x := ⟨_, rfl⟩
          rw [hwe] at hba GC GT GA GN ⊢
          rw [hq13] at GC GT ⊢
          have HQ13 := Lib.hid (show wz7.heap.size ≤ q13 by rw [← hq13]; exact hsz)
          have hb := hba
          clear hba hwe hsz hq13
          refine hK.out _ _ (hHeld.trans (Below.mono hb hHeld.size)) (fun hHeld2 => ?_)
          clear hK K hHeld
          have hHeld := hHeld2
          clear hHeld2
          try simp only [Act.put, List.setIfInBounds_toArray, List.set_cons_zero, List.set_cons_succ]
          refine wpAnyH_ready (rs := [12]) (by kernel_rfl) (by simp) ?_
          refine AllReadyH.cons (o := { dst := some 71, op := Go.Op.call { callee := Go.Callee.value (Go.Operand.func 16), args := #[Go.Operand.tmp 70], argTypes := #[25] }, type := 25, pos := "law.go:82", after := #[{ on := 11, ground := Go.Ground.data }, { on := 9, ground := Go.Ground.chain }], guard := none }) rfl (fun K hK => ?_) AllReadyH.nil
          go_simp
          refine (copyRR5 xa xl xc ma.x _ (HRX.out.below (HBL.out.trans (hHeld.mono HBL.out.size))) HNX.out hxl).mono ?_; rintro e wc4 ⟨v, rfl, ho, hb⟩
          obtain ⟨xa3, xc3, rfl, -⟩ := rowR_own ho
          replace GA := Lib.hid (own_below' GA.out hb)
          replace GN := Lib.hid (own_below' GN.out hb)
          replace GC := Lib.hid (GC.out.below hb)
          replace GT := Lib.hid (GT.out.below hb)
          have GX := Lib.hid (own_mono4 ho (show wz7.heap.size ≤ wc3.heap.size from hHeld.size))
          clear ho
          go_wp2_with fail
          refine hK.out _ _ (hHeld.trans (Below.mono hb hHeld.size)) (fun hHeld2 => ?_)
          clear hK K hHeld
          have hHeld := hHeld2
          clear hHeld2
          try simp only [Act.put, List.setIfInBounds_toArray, List.set_cons_zero, List.set_cons_succ]
          refine wpAnyH_take (i := 13) (oi := { dst := some 72, op := Go.Op.build 27 #[(0, Go.Operand.tmp 60), (1, Go.Operand.tmp 62), (2, Go.Operand.tmp 65), (3, Go.Operand.tmp 68), (4, Go.Operand.tmp 71)], type := 27, pos := "law.go:82", after := #[{ on := 1, ground := Go.Ground.data }, { on := 3, ground := Go.Ground.data }, { on := 6, ground := Go.Ground.data }, { on := 9, ground := Go.Ground.data }, { on := 12, ground := Go.Ground.data }], guard := none }) (v := ?v13_170108) rfl (by kernel_rfl) (by kernel_rfl) (by kernel_rfl) (fun _ _ _ h => h) (Or.inl ⟨by rfl, ?y13_170108⟩) hHeld ?r13_170108
          case y13_170108 => intro w hSw; (try dsimp only at hSw); go_simp; try with_reducible rfl
          try simp only [Act.put, List.setIfInBounds_toArray, List.set_cons_zero, List.set_cons_succ]
          refine wpAnyH_ready (rs := [15]) (by kernel_rfl) (by simp) ?_
          refine AllReadyH.cons (o := { dst := none, op := Go.Op.store 27 (Go.Operand.tmp 13) (Go.Operand.tmp 72), type := 0, pos := "law.go:82", after := #[{ on := 14, ground := Go.Ground.data }, { on := 13, ground := Go.Ground.data }, { on := 12, ground := Go.Ground.chain }, { on := 0, ground := Go.Ground.phase }, { on := 1, ground := Go.Ground.phase }, { on := 2, ground := Go.Ground.phase }, { on := 3, ground := Go.Ground.phase }, { on := 4, ground := Go.Ground.phase }, { on := 5, ground := Go.Ground.phase }, { on := 6, ground := Go.Ground.phase }, { on := 7, ground := Go.Ground.phase }, { on := 8, ground := Go.Ground.phase }, { on := 9, ground := Go.Ground.phase }, { on := 10, ground := Go.Ground.phase }, { on := 11, ground := Go.Ground.phase }, { on := 12, ground := Go.Ground.phase }, { on := 13, ground := Go.Ground.phase }, { on := 14, ground := Go.Ground.phase }], guard := none }) rfl (fun K hK => ?_) AllReadyH.nil
          obtain ⟨r0, r1, r2, r3, r4, r5, r6, r7, r8, r9, r10, r11, g0, g1, g2, g3, g4, g5, g6, g7, g8, g9, g10, g11⟩ := GC.out.u12
          go_simp
          have HGS := Lib.hid (grown_s12 wc4 q13 (.int .i64 mi) (.int .i64 mo) (.int .i64 mr) (.bool b1) (.bool b2) (.bool b3) (.bool b4) (.bool b5) (.slice qa ql qc) (.slice na3 nl nc3) (.slice sa3 sl sc3) (.slice xa3 xl xc3))
          have HCZ := Lib.hid (GC.out.s12 (.int .i64 mi) (.int .i64 mo) (.int .i64 mr) (.bool b1) (.bool b2) (.bool b3) (.bool b4) (.bool b5) (.slice qa ql qc) (.slice na3 nl nc3) (.slice sa3 sl sc3) (.slice xa3 xl xc3))
          have HTZ := Lib.hid (GT.out.s12 (.int .i64 mi) (.int .i64 mo) (.int .i64 mr) (.bool b1) (.bool b2) (.bool b3) (.bool b4) (.bool b5) (.slice qa ql qc) (.slice na3 nl nc3) (.slice sa3 sl sc3) (.slice xa3 xl xc3))
          have HAZ := Lib.hid (own_keeps GA.out GT.out (by decide) HGS.out)
          have HNZ := Lib.hid (own_keeps GN.out GT.out (by decide) HGS.out)
          have HXZ := Lib.hid (own_keeps GX.out GT.out (by decide) HGS.out)
          clear r0 r1 r2 r3 r4 r5 r6 r7 r8 r9 r10 r11 g0 g1 g2 g3 g4 g5 g6 g7 g8 g9 g10 g11
          refine hK.out _ _ (hHeld.grown HGS.out hHeld.size (fun k hk => by injection hk with hk; have := HQ13.out; omega)) (fun hHeld2 => ?_)
          clear hK K hHeld
          have hHeld := hHeld2
          clear hHeld2
          try simp only [Act.put, List.setIfInBounds_toArray, List.set_cons_zero, List.set_cons_succ]
          refine wpAnyH_done (by kernel_rfl) ?_ _
          go_wp2
          go_meet
          exact ⟨q13, na3, sa3, xa3, nc3, sc3, xc3, rfl, HQ13.out, HCZ.out, HTZ.out, HAZ.out, HNZ.out, HXZ.out, hHeld⟩
      · go_simp
        have hba := (Below.refl _ _ : Below wc1.heap.size wc1 wc1).alloc (Nat.le_refl _) (.cells #[.int .i64 0, .int .i64 0, .int .i64 0, .bool false, .bool false, .bool false, .bool false, .bool false, .slice none 0 0, .slice none 0 0, .slice none 0 0, .slice none 0 0] 27)
        replace GA := Lib.hid (own_below' GA.out hba)
        have GC := Lib.hid (CN.new wc1 #[.int .i64 0, .int .i64 0, .int .i64 0, .bool false, .bool false, .bool false, .bool false, .bool false, .slice none 0 0, .slice none 0 0, .slice none 0 0, .slice none 0 0] 27)
        have GT := Lib.hid (TB.new wc1 #[.int .i64 0, .int .i64 0, .int .i64 0, .bool false, .bool false, .bool false, .bool false, .bool false, .slice none 0 0, .slice none 0 0, .slice none 0 0, .slice none 0 0] 27)
        have hsz : wz7.heap.size ≤ wc1.heap.size := hHeld.size
        obtain ⟨wc2, hwe⟩ : ∃ x, wc1.alloc (.cells #[.int .i64 0, .int .i64 0, .int .i64 0, .bool false, .bool false, .bool false, .bool false, .bool false, .slice none 0 0, .slice none 0 0, .slice none 0 0, .slice none 0 0] 27) = x := ⟨_, rfl⟩
        obtain ⟨q13, hq13⟩ : ∃ x, wc1.heap.size = x := ⟨_, rfl⟩
        rw [hwe] at hba GC GT GA ⊢
        rw [hq13] at GC GT ⊢
        have HQ13 := Lib.hid (show wz7.heap.size ≤ q13 by rw [← hq13]; exact hsz)
        have hb := hba
        clear hba hwe hsz hq13
        refine hK.out _ _ (hHeld.trans (Below.mono hb hHeld.size)) (fun hHeld2 => ?_)
        clear hK K hHeld
        have hHeld := hHeld2
        clear hHeld2
        try simp only [Act.put, List.setIfInBounds_toArray, List.set_cons_zero, List.set_cons_succ]
        refine wpAnyH_ready (rs := [9]) (by kernel_rfl) (by simp) ?_
        refine AllReadyH.cons (o := { dst := some 68, op := Go.Op.call { callee := Go.Callee.value (Go.Operand.func 16), args := #[Go.Operand.tmp 67], argTypes := #[25] }, type := 25, pos := "law.go:82", after := #[{ on := 8, ground := Go.Ground.data }, { on := 6, ground := Go.Ground.chain }], guard := none }) rfl (fun K hK => ?_) AllReadyH.nil
        go_simp
        refine (copyRR5 sa sl sc ma.n _ (HRN.out.below (HBL.out.trans (hHeld.mono HBL.out.size))) HNN.out hsl).mono ?_; rintro e wc3 ⟨v, rfl, ho, hb⟩
        obtain ⟨sa3, sc3, rfl, -⟩ := rowR_own ho
        replace GA := Lib.hid (own_below' GA.out hb)
        replace GC := Lib.hid (GC.out.below hb)
        replace GT := Lib.hid (GT.out.below hb)
        have GN := Lib.hid (own_mono4 ho (show wz7.heap.size ≤ wc2.heap.size from hHeld.size))
        clear ho
        go_wp2_with fail
        refine hK.out _ _ (hHeld.trans (Below.mono hb hHeld.size)) (fun hHeld2 => ?_)
        clear hK K hHeld
        have hHeld := hHeld2
        clear hHeld2
        try simp only [Act.put, List.setIfInBounds_toArray, List.set_cons_zero, List.set_cons_succ]
        refine wpAnyH_ready (rs := [12]) (by kernel_rfl) (by simp) ?_
        refine AllReadyH.cons (o := { dst := some 71, op := Go.Op.call { callee := Go.Callee.value (Go.Operand.func 16), args := #[Go.Operand.tmp 70], argTypes := #[25] }, type := 25, pos := "law.go:82", after := #[{ on := 11, ground := Go.Ground.data }, { on := 9, ground := Go.Ground.chain }], guard := none }) rfl (fun K hK => ?_) AllReadyH.nil
        go_simp
        refine (copyRR5 xa xl xc ma.x _ (HRX.out.below (HBL.out.trans (hHeld.mono HBL.out.size))) HNX.out hxl).mono ?_; rintro e wc4 ⟨v, rfl, ho, hb⟩
        obtain ⟨xa3, xc3, rfl, -⟩ := rowR_own ho
        replace GA := Lib.hid (own_below' GA.out hb)
        replace GN := Lib.hid (own_below' GN.out hb)
        replace GC := Lib.hid (GC.out.below hb)
        replace GT := Lib.hid (GT.out.below hb)
        have GX := Lib.hid (own_mono4 ho (show wz7.heap.size ≤ wc3.heap.size from hHeld.size))
        clear ho
        go_wp2_with fail
        refine hK.out _ _ (hHeld.trans (Below.mono hb hHeld.size)) (fun hHeld2 => ?_)
        clear hK K hHeld
        have hHeld := hHeld2
        clear hHeld2
        try simp only [Act.put, List.setIfInBounds_toArray, List.set_cons_zero, List.set_cons_succ]
        refine wpAnyH_take (i := 13) (oi := { dst := some 72, op := Go.Op.build 27 #[(0, Go.Operand.tmp 60), (1, Go.Operand.tmp 62), (2, Go.Operand.tmp 65), (3, Go.Operand.tmp 68), (4, Go.Operand.tmp 71)], type := 27, pos := "law.go:82", after := #[{ on := 1, ground := Go.Ground.data }, { on := 3, ground := Go.Ground.data }, { on := 6, ground := Go.Ground.data }, { on := 9, ground := Go.Ground.data }, { on := 12, ground := Go.Ground.data }], guard := none }) (v := ?v13_170112) rfl (by kernel_rfl) (by kernel_rfl) (by kernel_rfl) (fun _ _ _ h => h) (Or.inl ⟨by rfl, ?y13_170112⟩) hHeld ?r13_170112
        case y13_170112 => intro w hSw; (try dsimp only at hSw); go_simp; try with_reducible rfl
        try simp only [Act.put, List.setIfInBounds_toArray, List.set_cons_zero, List.set_cons_succ]
        refine wpAnyH_ready (rs := [15]) (by kernel_rfl) (by simp) ?_
        refine AllReadyH.cons (o := { dst := none, op := Go.Op.store 27 (Go.Operand.tmp 13) (Go.Operand.tmp 72), type := 0, pos := "law.go:82", after := #[{ on := 14, ground := Go.Ground.data }, { on := 13, ground := Go.Ground.data }, { on := 12, ground := Go.Ground.chain }, { on := 0, ground := Go.Ground.phase }, { on := 1, ground := Go.Ground.phase }, { on := 2, ground := Go.Ground.phase }, { on := 3, ground := Go.Ground.phase }, { on := 4, ground := Go.Ground.phase }, { on := 5, ground := Go.Ground.phase }, { on := 6, ground := Go.Ground.phase }, { on := 7, ground := Go.Ground.phase }, { on := 8, ground := Go.Ground.phase }, { on := 9, ground := Go.Ground.phase }, { on := 10, ground := Go.Ground.phase }, { on := 11, ground := Go.Ground.phase }, { on := 12, ground := Go.Ground.phase }, { on := 13, ground := Go.Ground.phase }, { on := 14, ground := Go.Ground.phase }], guard := none }) rfl (fun K hK => ?_) AllReadyH.nil
        obtain ⟨r0, r1, r2, r3, r4, r5, r6, r7, r8, r9, r10, r11, g0, g1, g2, g3, g4, g5, g6, g7, g8, g9, g10, g11⟩ := GC.out.u12
        go_simp
        have HGS := Lib.hid (grown_s12 wc4 q13 (.int .i64 mi) (.int .i64 mo) (.int .i64 mr) (.bool b1) (.bool b2) (.bool b3) (.bool b4) (.bool b5) (.slice qa ql qc) (.slice na3 nl nc3) (.slice sa3 sl sc3) (.slice xa3 xl xc3))
        have HCZ := Lib.hid (GC.out.s12 (.int .i64 mi) (.int .i64 mo) (.int .i64 mr) (.bool b1) (.bool b2) (.bool b3) (.bool b4) (.bool b5) (.slice qa ql qc) (.slice na3 nl nc3) (.slice sa3 sl sc3) (.slice xa3 xl xc3))
        have HTZ := Lib.hid (GT.out.s12 (.int .i64 mi) (.int .i64 mo) (.int .i64 mr) (.bool b1) (.bool b2) (.bool b3) (.bool b4) (.bool b5) (.slice qa ql qc) (.slice na3 nl nc3) (.slice sa3 sl sc3) (.slice xa3 xl xc3))
        have HAZ := Lib.hid (own_keeps GA.out GT.out (by decide) HGS.out)
        have HNZ := Lib.hid (own_keeps GN.out GT.out (by decide) HGS.out)
        have HXZ := Lib.hid (own_keeps GX.out GT.out (by decide) HGS.out)
        clear r0 r1 r2 r3 r4 r5 r6 r7 r8 r9 r10 r11 g0 g1 g2 g3 g4 g5 g6 g7 g8 g9 g10 g11
        refine hK.out _ _ (hHeld.grown HGS.out hHeld.size (fun k hk => by injection hk with hk; have := HQ13.out; omega)) (fun hHeld2 => ?_)
        clear hK K hHeld
        have hHeld := hHeld2
        clear hHeld2
        try simp only [Act.put, List.setIfInBounds_toArray, List.set_cons_zero, List.set_cons_succ]
        refine wpAnyH_done (by kernel_rfl) ?_ _
        go_wp2
        go_meet
        exact ⟨q13, na3, sa3, xa3, nc3, sc3, xc3, rfl, HQ13.out, HCZ.out, HTZ.out, HAZ.out, HNZ.out, HXZ.out, hHeld⟩
    · go_simp
      have hba := (Below.refl _ _ : Below wd8.heap.size wd8 wd8).alloc (Nat.le_refl _) (.cells #[.int .i64 0, .int .i64 0, .int .i64 0, .bool false, .bool false, .bool false, .bool false, .bool false, .slice none 0 0, .slice none 0 0, .slice none 0 0, .slice none 0 0] 27)
      have GC := Lib.hid (CN.new wd8 #[.int .i64 0, .int .i64 0, .int .i64 0, .bool false, .bool false, .bool false, .bool false, .bool false, .slice none 0 0, .slice none 0 0, .slice none 0 0, .slice none 0 0] 27)
      have GT := Lib.hid (TB.new wd8 #[.int .i64 0, .int .i64 0, .int .i64 0, .bool false, .bool false, .bool false, .bool false, .bool false, .slice none 0 0, .slice none 0 0, .slice none 0 0, .slice none 0 0] 27)
      have hsz : wz7.heap.size ≤ wd8.heap.size := hHeld.size
      obtain ⟨wc1, hwe⟩ : ∃ x, wd8.alloc (.cells #[.int .i64 0, .int .i64 0, .int .i64 0, .bool false, .bool false, .bool false, .bool false, .bool false, .slice none 0 0, .slice none 0 0, .slice none 0 0, .slice none 0 0] 27) = x := ⟨_, rfl⟩
      obtain ⟨q13, hq13⟩ : ∃ x, wd8.heap.size = x := ⟨_, rfl⟩
      rw [hwe] at hba GC GT  ⊢
      rw [hq13] at GC GT ⊢
      have HQ13 := Lib.hid (show wz7.heap.size ≤ q13 by rw [← hq13]; exact hsz)
      have hb := hba
      clear hba hwe hsz hq13
      refine hK.out _ _ (hHeld.trans (Below.mono hb hHeld.size)) (fun hHeld2 => ?_)
      clear hK K hHeld
      have hHeld := hHeld2
      clear hHeld2
      try simp only [Act.put, List.setIfInBounds_toArray, List.set_cons_zero, List.set_cons_succ]
      refine wpAnyH_ready (rs := [6]) (by kernel_rfl) (by simp) ?_
      refine AllReadyH.cons (o := { dst := some 65, op := Go.Op.call { callee := Go.Callee.value (Go.Operand.func 16), args := #[Go.Operand.tmp 64], argTypes := #[25] }, type := 25, pos := "law.go:82", after := #[{ on := 5, ground := Go.Ground.data }], guard := none }) rfl (fun K hK => ?_) AllReadyH.nil
      go_simp
      refine (copyRR5 na nl nc ma.a _ (HRA.out.below (HBL.out.trans (hHeld.mono HBL.out.size))) HNA.out hnl).mono ?_; rintro e wc2 ⟨v, rfl, ho, hb⟩
      obtain ⟨na3, nc3, rfl, -⟩ := rowR_own ho
      replace GC := Lib.hid (GC.out.below hb)
      replace GT := Lib.hid (GT.out.below hb)
      have GA := Lib.hid (own_mono4 ho (show wz7.heap.size ≤ wc1.heap.size from hHeld.size))
      clear ho
      go_wp2_with fail
      refine hK.out _ _ (hHeld.trans (Below.mono hb hHeld.size)) (fun hHeld2 => ?_)
      clear hK K hHeld
      have hHeld := hHeld2
      clear hHeld2
      try simp only [Act.put, List.setIfInBounds_toArray, List.set_cons_zero, List.set_cons_succ]
      refine wpAnyH_ready (rs := [9]) (by kernel_rfl) (by simp) ?_
      refine AllReadyH.cons (o := { dst := some 68, op := Go.Op.call { callee := Go.Callee.value (Go.Operand.func 16), args := #[Go.Operand.tmp 67], argTypes := #[25] }, type := 25, pos := "law.go:82", after := #[{ on := 8, ground := Go.Ground.data }, { on := 6, ground := Go.Ground.chain }], guard := none }) rfl (fun K hK => ?_) AllReadyH.nil
      go_simp
      refine (copyRR5 sa sl sc ma.n _ (HRN.out.below (HBL.out.trans (hHeld.mono HBL.out.size))) HNN.out hsl).mono ?_; rintro e wc3 ⟨v, rfl, ho, hb⟩
      obtain ⟨sa3, sc3, rfl, -⟩ := rowR_own ho
      replace GA := Lib.hid (own_below' GA.out hb)
      replace GC := Lib.hid (GC.out.below hb)
      replace GT := Lib.hid (GT.out.below hb)
      have GN := Lib.hid (own_mono4 ho (show wz7.heap.size ≤ wc2.heap.size from hHeld.size))
      clear ho
      go_wp2_with fail
      refine hK.out _ _ (hHeld.trans (Below.mono hb hHeld.size)) (fun hHeld2 => ?_)
      clear hK K hHeld
      have hHeld := hHeld2
      clear hHeld2
      try simp only [Act.put, List.setIfInBounds_toArray, List.set_cons_zero, List.set_cons_succ]
      refine wpAnyH_ready (rs := [12]) (by kernel_rfl) (by simp) ?_
      refine AllReadyH.cons (o := { dst := some 71, op := Go.Op.call { callee := Go.Callee.value (Go.Operand.func 16), args := #[Go.Operand.tmp 70], argTypes := #[25] }, type := 25, pos := "law.go:82", after := #[{ on := 11, ground := Go.Ground.data }, { on := 9, ground := Go.Ground.chain }], guard := none }) rfl (fun K hK => ?_) AllReadyH.nil
      go_simp
      refine (copyRR5 xa xl xc ma.x _ (HRX.out.below (HBL.out.trans (hHeld.mono HBL.out.size))) HNX.out hxl).mono ?_; rintro e wc4 ⟨v, rfl, ho, hb⟩
      obtain ⟨xa3, xc3, rfl, -⟩ := rowR_own ho
      replace GA := Lib.hid (own_below' GA.out hb)
      replace GN := Lib.hid (own_below' GN.out hb)
      replace GC := Lib.hid (GC.out.below hb)
      replace GT := Lib.hid (GT.out.below hb)
      have GX := Lib.hid (own_mono4 ho (show wz7.heap.size ≤ wc3.heap.size from hHeld.size))
      clear ho
      go_wp2_with fail
      refine hK.out _ _ (hHeld.trans (Below.mono hb hHeld.size)) (fun hHeld2 => ?_)
      clear hK K hHeld
      have hHeld := hHeld2
      clear hHeld2
      try simp only [Act.put, List.setIfInBounds_toArray, List.set_cons_zero, List.set_cons_succ]
      refine wpAnyH_take (i := 13) (oi := { dst := some 72, op := Go.Op.build 27 #[(0, Go.Operand.tmp 60), (1, Go.Operand.tmp 62), (2, Go.Operand.tmp 65), (3, Go.Operand.tmp 68), (4, Go.Operand.tmp 71)], type := 27, pos := "law.go:82", after := #[{ on := 1, ground := Go.Ground.data }, { on := 3, ground := Go.Ground.data }, { on := 6, ground := Go.Ground.data }, { on := 9, ground := Go.Ground.data }, { on := 12, ground := Go.Ground.data }], guard := none }) (v := ?v13_170117) rfl (by kernel_rfl) (by kernel_rfl) (by kernel_rfl) (fun _ _ _ h => h) (Or.inl ⟨by rfl, ?y13_170117⟩) hHeld ?r13_170117
      case y13_170117 => intro w hSw; (try dsimp only at hSw); go_simp; try with_reducible rfl
      try simp only [Act.put, List.setIfInBounds_toArray, List.set_cons_zero, List.set_cons_succ]
      refine wpAnyH_ready (rs := [15]) (by kernel_rfl) (by simp) ?_
      refine AllReadyH.cons (o := { dst := none, op := Go.Op.store 27 (Go.Operand.tmp 13) (Go.Operand.tmp 72), type := 0, pos := "law.go:82", after := #[{ on := 14, ground := Go.Ground.data }, { on := 13, ground := Go.Ground.data }, { on := 12, ground := Go.Ground.chain }, { on := 0, ground := Go.Ground.phase }, { on := 1, ground := Go.Ground.phase }, { on := 2, ground := Go.Ground.phase }, { on := 3, ground := Go.Ground.phase }, { on := 4, ground := Go.Ground.phase }, { on := 5, ground := Go.Ground.phase }, { on := 6, ground := Go.Ground.phase }, { on := 7, ground := Go.Ground.phase }, { on := 8, ground := Go.Ground.phase }, { on := 9, ground := Go.Ground.phase }, { on := 10, ground := Go.Ground.phase }, { on := 11, ground := Go.Ground.phase }, { on := 12, ground := Go.Ground.phase }, { on := 13, ground := Go.Ground.phase }, { on := 14, ground := Go.Ground.phase }], guard := none }) rfl (fun K hK => ?_) AllReadyH.nil
      obtain ⟨r0, r1, r2, r3, r4, r5, r6, r7, r8, r9, r10, r11, g0, g1, g2, g3, g4, g5, g6, g7, g8, g9, g10, g11⟩ := GC.out.u12
      go_simp
      have HGS := Lib.hid (grown_s12 wc4 q13 (.int .i64 mi) (.int .i64 mo) (.int .i64 mr) (.bool b1) (.bool b2) (.bool b3) (.bool b4) (.bool b5) (.slice qa ql qc) (.slice na3 nl nc3) (.slice sa3 sl sc3) (.slice xa3 xl xc3))
      have HCZ := Lib.hid (GC.out.s12 (.int .i64 mi) (.int .i64 mo) (.int .i64 mr) (.bool b1) (.bool b2) (.bool b3) (.bool b4) (.bool b5) (.slice qa ql qc) (.slice na3 nl nc3) (.slice sa3 sl sc3) (.slice xa3 xl xc3))
      have HTZ := Lib.hid (GT.out.s12 (.int .i64 mi) (.int .i64 mo) (.int .i64 mr) (.bool b1) (.bool b2) (.bool b3) (.bool b4) (.bool b5) (.slice qa ql qc) (.slice na3 nl nc3) (.slice sa3 sl sc3) (.slice xa3 xl xc3))
      have HAZ := Lib.hid (own_keeps GA.out GT.out (by decide) HGS.out)
      have HNZ := Lib.hid (own_keeps GN.out GT.out (by decide) HGS.out)
      have HXZ := Lib.hid (own_keeps GX.out GT.out (by decide) HGS.out)
      clear r0 r1 r2 r3 r4 r5 r6 r7 r8 r9 r10 r11 g0 g1 g2 g3 g4 g5 g6 g7 g8 g9 g10 g11
      refine hK.out _ _ (hHeld.grown HGS.out hHeld.size (fun k hk => by injection hk with hk; have := HQ13.out; omega)) (fun hHeld2 => ?_)
      clear hK K hHeld
      have hHeld := hHeld2
      clear hHeld2
      try simp only [Act.put, List.setIfInBounds_toArray, List.set_cons_zero, List.set_cons_succ]
      refine wpAnyH_done (by kernel_rfl) ?_ _
      go_wp2
      go_meet
      exact ⟨q13, na3, sa3, xa3, nc3, sc3, xc3, rfl, HQ13.out, HCZ.out, HTZ.out, HAZ.out, HNZ.out, HXZ.out, hHeld⟩
  case rest =>
  obtain ⟨q13, na3, sa3, xa3, nc3, sc3, xc3, rfl, hq13, hc13, ht13, ha3, hn3, hx3, hb8⟩ := hcut
  obtain ⟨w8, hw8⟩ : ∃ x, wc = x := ⟨_, rfl⟩
  rw [hw8] at hc13 ht13 ha3 hn3 hx3 hb8 ⊢
  replace HP := Lib.hid (HP.out.below hb8)
  replace HTP := Lib.hid (HTP.out.below hb8)
  replace HA2 := Lib.hid (own_below' HA2.out hb8)
  replace HN2 := Lib.hid (own_below' HN2.out hb8)
  replace HX2 := Lib.hid (own_below' HX2.out hb8)
  replace HBL := Lib.hid (HBL.out.trans (hb8.mono HBL.out.size))
  have HQ13 := Lib.hid hq13
  have HC := Lib.hid hc13
  have HTC := Lib.hid ht13
  have HA3 := Lib.hid ha3
  have HN3 := Lib.hid hn3
  have HX3 := Lib.hid hx3
  clear hq13 hc13 ht13 ha3 hn3 hx3 hb8 hw8
  obtain ⟨j0, hj, hj0, hj1, hj2⟩ := info_parts infoRR
  have HJ := Lib.hid hj
  have HJ0 := Lib.hid hj0
  have HJ1 := Lib.hid hj1
  have HJ2 := Lib.hid hj2
  clear hj hj0 hj1 hj2
  have HNE := Lib.hid (tb_ne HTP.out HTC.out (by decide))
  have HQN2 := Lib.hid (show qn ≤ 100000 by omega)
  by_cases hs1 : sec = 1
  · subst hs1
    go_wp2_with fail
    refine (add1 q13 _ _ _ _ _ _ _ _ _ _ _ na3 la nl nc3 ln lc ma.a L _ HC.out (rowR_own2 HA3.out).1 (rowR_own2 HA3.out).2 (HL.out.below HBL.out) HLN.out (by have := HN4.out; omega)).mono ?_; rintro e w9 ⟨v9, rfl, hc9, ho9, hg9⟩
    obtain ⟨a9, c9, rfl, -⟩ := rowR_own ho9
    have hs9 : w8.heap.size ≤ w9.heap.size := hg9.size
    replace HBL := Lib.hid (HBL.out.grown hg9 HBL.out.size (fun k hk => by injection hk with hk; have := HQ13.out; have := HS10.out; omega))
    have HQ8 := Lib.hid HC.out.1
    have hne : (some q13 : Option Nat) ≠ some q11 := fun e => HNE.out (by injection e with e; exact e.symm)
    replace HP := Lib.hid (HP.out.grown hg9 (fun e => hne e.symm))
    replace HTP := Lib.hid (HTP.out.grown hg9 hne)
    replace HA2 := Lib.hid (own_keeps HA2.out HTC.out (by decide) hg9)
    replace HN2 := Lib.hid (own_keeps HN2.out HTC.out (by decide) hg9)
    replace HX2 := Lib.hid (own_keeps HX2.out HTC.out (by decide) hg9)
    replace HN3 := Lib.hid (own_keeps HN3.out HTC.out (by decide) hg9)
    replace HX3 := Lib.hid (own_keeps HX3.out HTC.out (by decide) hg9)
    replace HC := Lib.hid hc9
    have HV9 := Lib.hid ho9
    have HBS := Lib.hid (show wd6.heap.size ≤ w9.heap.size by have := HZ2.out; have := HZ5.out; have := HZ8.out; have := HZ9.out; have := HQ13.out; have := HQ8.out; omega)
    clear hc9 ho9 hg9 hne
    have p0 := (HP.out.2 9 _ rfl).1
    have f0 := (HP.out.2 9 _ rfl).2
    go_wp2_with (at_builtin; refine append_cellsK rfl _ _ 25 75 rfl j0 _ 5 56 Try.underlying25 HJ.out HJ0.out HJ1.out HJ2.out rfl (by decide) wd6.heap.size _ nl _ rfl HA2.out la ln lc (flatR L) rfl HLN.out (HL.out.below HBL.out).2 (flatR_one L) (by have := HN4.out; omega) (by decide) HBS.out ?_)
    intro v10 wa hown hgrow
    obtain ⟨a10, c10, rfl, -⟩ := cellsK_own hown
    have hiv : ∀ k, (Value.slice na2 nl nc2).ownBlock = some k → w10.heap.size ≤ k ∧ k < wz7.heap.size := fun k hk => by have := HIA.out k hk; have := HS6.out; have := HZ2.out; have := HZ5.out; have := HZ8.out; have := HZ9.out; omega
    have hne := own_ne HA2.out HTP.out (by decide)
    replace HP := Lib.hid (HP.out.grown hgrow (fun e => hne e.symm))
    replace HTP := Lib.hid (HTP.out.grown hgrow hne)
    replace HC := Lib.hid (HC.out.grown hgrow (fun e => by have := (hiv _ e.symm).2; have := HQ13.out; omega))
    replace HN2 := Lib.hid (own_apart HN2.out hgrow (fun k hk e => by have := HIN.out k hk; have := HIA.out k e; have := HZ2.out; have := HZ5.out; have := HZ8.out; omega))
    replace HX2 := Lib.hid (own_apart HX2.out hgrow (fun k hk e => by have := HIX.out k hk; have := HIA.out k e; have := HZ2.out; have := HZ5.out; have := HZ8.out; omega))
    replace HV9 := Lib.hid (own_apart HV9.out hgrow (fun k hk e => by have := (HV9.out.lt k hk).1; have := (hiv k e).2; have := HQ13.out; have := HQ8.out; omega))
    replace HN3 := Lib.hid (own_apart HN3.out hgrow (fun k hk e => by have := (HN3.out.lt k hk).1; have := (hiv k e).2; have := HQ13.out; have := HQ8.out; omega))
    replace HX3 := Lib.hid (own_apart HX3.out hgrow (fun k hk e => by have := (HX3.out.lt k hk).1; have := (hiv k e).2; have := HQ13.out; have := HQ8.out; omega))
    replace HBL := Lib.hid (HBL.out.grown hgrow HBL.out.size (fun k hk => (hiv k hk).1))
    have HOW := Lib.hid (show wa.ownsRow wd6.heap.size 75 5 (.slice a10 (nl + ln) c10) (nl + ln) (flatR (ma.a ++ L)) by rw [flatR_app]; exact hown)
    clear hown hgrow hiv hne p0 f0
    have p0 := (HP.out.2 9 _ rfl).1
    have f0 := (HP.out.2 9 _ rfl).2
    have hpz := HP.out.set 9 (by simp) (.slice a10 (nl + ln) c10)
    have hcz := HC.out.far ⟨q11, 9, none⟩ HNE.out (.slice a10 (nl + ln) c10)
    have hgc := grown_cell wa q11 9 (.slice a10 (nl + ln) c10)
    have hn2_ := own_keeps HN2.out HTP.out (by decide) hgc
    have hx2_ := own_keeps HX2.out HTP.out (by decide) hgc
    have hn3_ := own_keeps HN3.out HTP.out (by decide) hgc
    have hx3_ := own_keeps HX3.out HTP.out (by decide) hgc
    have hv9_ := own_keeps HV9.out HTP.out (by decide) hgc
    have how_ := own_keeps HOW.out HTP.out (by decide) hgc
    have hblz := HBL.out.setCell (p := ⟨q11, 9, none⟩) HQ11.out (.slice a10 (nl + ln) c10)
    go_upto_region 17 with (fail)
    obtain ⟨wE, hwE⟩ : ∃ x, wa.setCell ⟨q11, 9, none⟩ (.slice a10 (nl + ln) c10) = x := ⟨_, rfl⟩
    rw [hwE] at hpz hcz hblz hn2_ hx2_ hn3_ hx3_ hv9_ how_ ⊢
    have HMP := Lib.hid (show MsgAt wE (.agg #[.int .i64 mi, .int .i64 mo, .int .i64 mr, .bool b1, .bool b2, .bool b3, .bool b4, .bool b5, .slice qa ql qc, .slice a10 (nl + ln) c10, .slice sa2 sl sc2, .slice xa2 xl xc2]) (⟨mi, mo, mr, b1, b2, b3, b4, b5, ma.q, ma.a ++ L, ma.n, ma.x⟩ : MsgP) from msgAt_mk (HRQ.out.below hblz) HNQ.out (rowR_own2 how_).1 (rowR_own2 how_).2 (rowR_own2 hn2_).1 (rowR_own2 hn2_).2 (rowR_own2 hx2_).1 (rowR_own2 hx2_).2)
    have HMC := Lib.hid (show MsgAt wE (.agg #[.int .i64 mi, .int .i64 mo, .int .i64 mr, .bool b1, .bool b2, .bool b3, .bool b4, .bool b5, .slice qa ql qc, .slice a9 (nl + ln) c9, .slice sa3 sl sc3, .slice xa3 xl xc3]) (⟨mi, mo, mr, b1, b2, b3, b4, b5, ma.q, ma.a ++ L, ma.n, ma.x⟩ : MsgP) from msgAt_mk (HRQ.out.below hblz) HNQ.out (rowR_own2 hv9_).1 (rowR_own2 hv9_).2 (rowR_own2 hn3_).1 (rowR_own2 hn3_).2 (rowR_own2 hx3_).1 (rowR_own2 hx3_).2)
    replace HP := Lib.hid (show CN wE q11 [.int .i64 mi, .int .i64 mo, .int .i64 mr, .bool b1, .bool b2, .bool b3, .bool b4, .bool b5, .slice qa ql qc, .slice a10 (nl + ln) c10, .slice sa2 sl sc2, .slice xa2 xl xc2] from hpz)
    replace HC := Lib.hid (show CN wE q13 [.int .i64 mi, .int .i64 mo, .int .i64 mr, .bool b1, .bool b2, .bool b3, .bool b4, .bool b5, .slice qa ql qc, .slice a9 (nl + ln) c9, .slice sa3 sl sc3, .slice xa3 xl xc3] from hcz)
    replace HBL := Lib.hid hblz
    have HSC := Lib.hid (show SmM (⟨mi, mo, mr, b1, b2, b3, b4, b5, ma.q, ma.a ++ L, ma.n, ma.x⟩ : MsgP) from ⟨by show ma.q.length ≤ 100000; have := HSMA.out.1; exact this, by show (ma.a ++ L).length ≤ 100000; rw [List.length_append, HEA.out, HLL.out]; have := HN4.out; omega, by show (ma.n).length ≤ 100000; rw [HEN.out]; have := HN4.out; omega, by show (ma.x).length ≤ 100000; rw [HEX.out]; have := HN4.out; omega⟩)
    have HSK := Lib.hid (show SmM (askM 1 QL) from ⟨by show QL.length ≤ 100000; rw [HQLL.out]; exact HQN2.out, Nat.zero_le _, Nat.zero_le _, Nat.zero_le _⟩)
    clear hpz hcz hgc hblz p0 f0 hwE hn2_ hx2_ hn3_ hx3_ hv9_ how_ HV9 HOW HA2 HN2 HX2 HA3 HN3 HX3
    refine wp_region_held_drew (S := (fun wx => Below wE.heap.size wE wx)) (by kernel_rfl) ((Below.refl wE.heap.size wE).drew) (fun hHeld => ?_)
    refine wpAnyH_ready (rs := [0]) (by kernel_rfl) (by simp) ?_
    refine AllReadyH.cons (o := { dst := some 98, op := Go.Op.call { callee := Go.Callee.value (Go.Operand.func 13), args := #[], argTypes := #[] }, type := 4, pos := "law.go:92", after := #[], guard := none }) rfl (fun K hK => ?_) AllReadyH.nil
    go_simp
    refine (first5 _).mono ?_; rintro e wt0 ⟨rfl, hb⟩
    go_wp2_with fail
    refine hK.out _ _ (hHeld.trans (hb.mono hHeld.size)) (fun hHeld2 => ?_)
    clear hK K hHeld
    have hHeld := hHeld2
    clear hHeld2
    try simp only [Act.put, List.setIfInBounds_toArray, List.set_cons_zero, List.set_cons_succ]
    refine wpAnyH_take (i := 1) (oi := { dst := some 99, op := Go.Op.move (Go.Operand.tmp 98), type := 4, pos := "law.go:92", after := #[{ on := 0, ground := Go.Ground.data }, { on := 0, ground := Go.Ground.chain }], guard := none }) (v := ?v1_181102) rfl (by kernel_rfl) (by kernel_rfl) (by kernel_rfl) (fun _ _ _ h => h) (Or.inl ⟨by rfl, ?y1_181102⟩) hHeld ?r1_181102
    case y1_181102 => intro w hSw; (try dsimp only at hSw); go_simp; try with_reducible rfl
    try simp only [Act.put, List.setIfInBounds_toArray, List.set_cons_zero, List.set_cons_succ]
    refine wpAnyH_take (i := 2) (oi := { dst := some 100, op := Go.Op.move (Go.Operand.tmp 12), type := 4, pos := "law.go:92", after := #[{ on := 1, ground := Go.Ground.guard }], guard := some (1, true) }) (v := ?v2_181102) rfl (by kernel_rfl) (by kernel_rfl) (by kernel_rfl) (fun _ _ _ h => h) (Or.inl ⟨by rfl, ?y2_181102⟩) hHeld ?r2_181102
    case y2_181102 => intro w hSw; (try dsimp only at hSw); go_simp; try with_reducible rfl
    try simp only [Act.put, List.setIfInBounds_toArray, List.set_cons_zero, List.set_cons_succ]
    refine wpAnyH_take (i := 3) (oi := { dst := some 101, op := Go.Op.pick (Go.Operand.tmp 99) (Go.Operand.tmp 100) (Go.Operand.const (Go.Value.bool false)), type := 4, pos := "law.go:92", after := #[{ on := 1, ground := Go.Ground.data }, { on := 2, ground := Go.Ground.data }], guard := none }) (v := ?v3_181102) rfl (by kernel_rfl) (by kernel_rfl) (by kernel_rfl) (fun _ _ _ h => h) (Or.inl ⟨by rfl, ?y3_181102⟩) hHeld ?r3_181102
    case y3_181102 => intro w hSw; (try dsimp only at hSw); go_simp; try with_reducible rfl
    try simp only [Act.put, List.setIfInBounds_toArray, List.set_cons_zero, List.set_cons_succ]
    refine wpAnyH_take (i := 4) (oi := { dst := some 102, op := Go.Op.move (Go.Operand.tmp 101), type := 4, pos := "law.go:92", after := #[{ on := 3, ground := Go.Ground.data }, { on := 1, ground := Go.Ground.chain }], guard := none }) (v := ?v4_181102) rfl (by kernel_rfl) (by kernel_rfl) (by kernel_rfl) (fun _ _ _ h => h) (Or.inl ⟨by rfl, ?y4_181102⟩) hHeld ?r4_181102
    case y4_181102 => intro w hSw; (try dsimp only at hSw); go_simp; try with_reducible rfl
    try simp only [Act.put, List.setIfInBounds_toArray, List.set_cons_zero, List.set_cons_succ]
    refine wpAnyH_take (i := 5) (oi := { dst := some 103, op := Go.Op.move (Go.Operand.tmp 14), type := 4, pos := "law.go:92", after := #[{ on := 4, ground := Go.Ground.guard }], guard := some (4, true) }) (v := ?v5_181102) rfl (by kernel_rfl) (by kernel_rfl) (by kernel_rfl) (fun _ _ _ h => h) (Or.inl ⟨by rfl, ?y5_181102⟩) hHeld ?r5_181102
    case y5_181102 => intro w hSw; (try dsimp only at hSw); go_simp; try with_reducible rfl
    try simp only [Act.put, List.setIfInBounds_toArray, List.set_cons_zero, List.set_cons_succ]
    refine wpAnyH_take (i := 6) (oi := { dst := some 104, op := Go.Op.move (Go.Operand.tmp 2), type := 3, pos := "law.go:92", after := #[{ on := 4, ground := Go.Ground.guard }], guard := some (4, true) }) (v := ?v6_181102) rfl (by kernel_rfl) (by kernel_rfl) (by kernel_rfl) (fun _ _ _ h => h) (Or.inl ⟨by rfl, ?y6_181102⟩) hHeld ?r6_181102
    case y6_181102 => intro w hSw; (try dsimp only at hSw); go_simp; try with_reducible rfl
    try simp only [Act.put, List.setIfInBounds_toArray, List.set_cons_zero, List.set_cons_succ]
    refine wpAnyH_take (i := 7) (oi := { dst := some 105, op := Go.Op.binOp Go.BinOp.geq 3 (Go.Operand.tmp 104) (Go.Operand.const (Go.Value.int Go.IntKind.i64 1)) 3, type := 4, pos := "law.go:92", after := #[{ on := 6, ground := Go.Ground.data }, { on := 4, ground := Go.Ground.guard }], guard := some (4, true) }) (v := ?v7_181102) rfl (by kernel_rfl) (by kernel_rfl) (by kernel_rfl) (fun _ _ _ h => h) (Or.inl ⟨by rfl, ?y7_181102⟩) hHeld ?r7_181102
    case y7_181102 => intro w hSw; (try dsimp only at hSw); go_simp; try with_reducible rfl
    try simp only [Act.put, List.setIfInBounds_toArray, List.set_cons_zero, List.set_cons_succ]
    refine wpAnyH_take (i := 8) (oi := { dst := some 106, op := Go.Op.move (Go.Operand.tmp 105), type := 4, pos := "law.go:92", after := #[{ on := 7, ground := Go.Ground.data }, { on := 4, ground := Go.Ground.chain }, { on := 4, ground := Go.Ground.guard }], guard := some (4, true) }) (v := ?v8_181102) rfl (by kernel_rfl) (by kernel_rfl) (by kernel_rfl) (fun _ _ _ h => h) (Or.inl ⟨by rfl, ?y8_181102⟩) hHeld ?r8_181102
    case y8_181102 => intro w hSw; (try dsimp only at hSw); go_simp; try with_reducible rfl
    try simp only [Act.put, List.setIfInBounds_toArray, List.set_cons_zero, List.set_cons_succ]
    refine wpAnyH_take (i := 9) (oi := { dst := some 107, op := Go.Op.move (Go.Operand.tmp 2), type := 3, pos := "law.go:92", after := #[{ on := 8, ground := Go.Ground.guard }], guard := some (8, true) }) (v := ?v9_181102) rfl (by kernel_rfl) (by kernel_rfl) (by kernel_rfl) (fun _ _ _ h => h) (Or.inl ⟨by rfl, ?y9_181102⟩) hHeld ?r9_181102
    case y9_181102 => intro w hSw; (try dsimp only at hSw); go_simp; try with_reducible rfl
    try simp only [Act.put, List.setIfInBounds_toArray, List.set_cons_zero, List.set_cons_succ]
    refine wpAnyH_take (i := 10) (oi := { dst := some 108, op := Go.Op.binOp Go.BinOp.leq 3 (Go.Operand.tmp 107) (Go.Operand.const (Go.Value.int Go.IntKind.i64 3)) 3, type := 4, pos := "law.go:92", after := #[{ on := 9, ground := Go.Ground.data }, { on := 8, ground := Go.Ground.guard }], guard := some (8, true) }) (v := ?v10_181102) rfl (by kernel_rfl) (by kernel_rfl) (by kernel_rfl) (fun _ _ _ h => h) (Or.inl ⟨by rfl, ?y10_181102⟩) hHeld ?r10_181102
    case y10_181102 => intro w hSw; (try dsimp only at hSw); go_simp; try with_reducible rfl
    try simp only [Act.put, List.setIfInBounds_toArray, List.set_cons_zero, List.set_cons_succ]
    refine wpAnyH_take (i := 11) (oi := { dst := some 109, op := Go.Op.pick (Go.Operand.tmp 106) (Go.Operand.tmp 108) (Go.Operand.const (Go.Value.bool false)), type := 4, pos := "law.go:92", after := #[{ on := 8, ground := Go.Ground.data }, { on := 10, ground := Go.Ground.data }, { on := 4, ground := Go.Ground.guard }], guard := some (4, true) }) (v := ?v11_181102) rfl (by kernel_rfl) (by kernel_rfl) (by kernel_rfl) (fun _ _ _ h => h) (Or.inl ⟨by rfl, ?y11_181102⟩) hHeld ?r11_181102
    case y11_181102 => intro w hSw; (try dsimp only at hSw); go_simp; try with_reducible rfl
    try simp only [Act.put, List.setIfInBounds_toArray, List.set_cons_zero, List.set_cons_succ]
    refine wpAnyH_take (i := 12) (oi := { dst := some 110, op := Go.Op.binOp Go.BinOp.eql 4 (Go.Operand.tmp 103) (Go.Operand.tmp 109) 4, type := 4, pos := "law.go:92", after := #[{ on := 5, ground := Go.Ground.data }, { on := 11, ground := Go.Ground.data }, { on := 4, ground := Go.Ground.guard }], guard := some (4, true) }) (v := ?v12_181102) rfl (by kernel_rfl) (by kernel_rfl) (by kernel_rfl) (fun _ _ _ h => h) (Or.inl ⟨by rfl, ?y12_181102⟩) hHeld ?r12_181102
    case y12_181102 => intro w hSw; (try dsimp only at hSw); go_simp; try with_reducible rfl
    try simp only [Act.put, List.setIfInBounds_toArray, List.set_cons_zero, List.set_cons_succ]
    refine wpAnyH_take (i := 13) (oi := { dst := some 111, op := Go.Op.pick (Go.Operand.tmp 102) (Go.Operand.tmp 110) (Go.Operand.const (Go.Value.bool false)), type := 4, pos := "law.go:92", after := #[{ on := 4, ground := Go.Ground.data }, { on := 12, ground := Go.Ground.data }], guard := none }) (v := ?v13_181102) rfl (by kernel_rfl) (by kernel_rfl) (by kernel_rfl) (fun _ _ _ h => h) (Or.inl ⟨by rfl, ?y13_181102⟩) hHeld ?r13_181102
    case y13_181102 => intro w hSw; (try dsimp only at hSw); go_simp; try with_reducible rfl
    try simp only [Act.put, List.setIfInBounds_toArray, List.set_cons_zero, List.set_cons_succ]
    refine wpAnyH_take (i := 14) (oi := { dst := some 112, op := Go.Op.move (Go.Operand.tmp 111), type := 4, pos := "law.go:92", after := #[{ on := 13, ground := Go.Ground.data }, { on := 8, ground := Go.Ground.chain }], guard := none }) (v := ?v14_181102) rfl (by kernel_rfl) (by kernel_rfl) (by kernel_rfl) (fun _ _ _ h => h) (Or.inl ⟨by rfl, ?y14_181102⟩) hHeld ?r14_181102
    case y14_181102 => intro w hSw; (try dsimp only at hSw); go_simp; try with_reducible rfl
    try simp only [Act.put, List.setIfInBounds_toArray, List.set_cons_zero, List.set_cons_succ]
    refine wpAnyH_take (i := 15) (oi := { dst := some 113, op := Go.Op.load 27 (Go.Operand.tmp 13), type := 27, pos := "law.go:92", after := #[{ on := 14, ground := Go.Ground.guard }], guard := some (14, true) }) (v := ?v15_181102) rfl (by kernel_rfl) (by kernel_rfl) (by kernel_rfl) (fun _ _ _ h => h) (Or.inl ⟨by rfl, ?y15_181102⟩) hHeld ?r15_181102
    case y15_181102 => intro w hSw; (try dsimp only at hSw); obtain ⟨y0, y1, y2, y3, y4, y5, y6, y7, y8, y9, y10, y11, _⟩ := (HC.out.below hSw).u12; go_simp; try with_reducible rfl
    try simp only [Act.put, List.setIfInBounds_toArray, List.set_cons_zero, List.set_cons_succ]
    refine wpAnyH_take (i := 17) (oi := { dst := some 115, op := Go.Op.load 32 (Go.Operand.tmp 11), type := 32, pos := "law.go:92", after := #[{ on := 14, ground := Go.Ground.guard }], guard := some (14, true) }) (v := ?v17_181102) rfl (by kernel_rfl) (by kernel_rfl) (by kernel_rfl) (fun _ _ _ h => h) (Or.inl ⟨by rfl, ?y17_181102⟩) hHeld ?r17_181102
    case y17_181102 => intro w hSw; (try dsimp only at hSw); obtain ⟨y0, y1, y2, y3, y4, y5, y6, y7, y8, y9, y10, y11, _⟩ := (HP.out.below hSw).u12; go_simp; try with_reducible rfl
    try simp only [Act.put, List.setIfInBounds_toArray, List.set_cons_zero, List.set_cons_succ]
    refine wpAnyH_ready (rs := [16]) (by kernel_rfl) (by simp) ?_
    refine AllReadyH.cons (o := { dst := some 114, op := Go.Op.call { callee := Go.Callee.value (Go.Operand.func 15), args := #[Go.Operand.tmp 113], argTypes := #[27] }, type := 32, pos := "law.go:92", after := #[{ on := 15, ground := Go.Ground.data }, { on := 14, ground := Go.Ground.chain }, { on := 14, ground := Go.Ground.guard }], guard := some (14, true) }) rfl (fun K hK => ?_) AllReadyH.nil
    go_simp
    refine (plain_ex _ _ _ _ _ _ _ _ _ _ _ _ _ _ _ _ _ _ _ _ _).mono ?_; rintro e wt16 ⟨rfl, hb⟩
    go_wp2_with fail
    refine hK.out _ _ (hHeld.trans (hb.mono hHeld.size)) (fun hHeld2 => ?_)
    clear hK K hHeld
    have hHeld := hHeld2
    clear hHeld2
    try simp only [Act.put, List.setIfInBounds_toArray, List.set_cons_zero, List.set_cons_succ]
    refine wpAnyH_ready (rs := [18]) (by kernel_rfl) (by simp) ?_
    refine AllReadyH.cons (o := { dst := some 116, op := Go.Op.call { callee := Go.Callee.value (Go.Operand.func 30), args := #[Go.Operand.tmp 114, Go.Operand.tmp 115], argTypes := #[32, 32] }, type := 4, pos := "law.go:92", after := #[{ on := 16, ground := Go.Ground.data }, { on := 17, ground := Go.Ground.data }, { on := 16, ground := Go.Ground.chain }, { on := 14, ground := Go.Ground.guard }], guard := some (14, true) }) rfl (fun K hK => ?_) AllReadyH.nil
    go_simp
    refine (sameMD_any _ _ (⟨mi, mo, mr, b1, b2, b3, b4, b5, ma.q, ma.a ++ L, ma.n, ma.x⟩ : MsgP) (⟨mi, mo, mr, b1, b2, b3, b4, b5, ma.q, ma.a ++ L, ma.n, ma.x⟩ : MsgP) _ (HMC.out.below hHeld) (HMP.out.below hHeld) HSC.out HSC.out).mono ?_; rintro e wt18 ⟨rfl, hb⟩
    rw [(sameB_iff _ _).2 rfl]
    go_wp2_with fail
    refine hK.out _ _ (hHeld.trans (hb.mono hHeld.size)) (fun hHeld2 => ?_)
    clear hK K hHeld
    have hHeld := hHeld2
    clear hHeld2
    try simp only [Act.put, List.setIfInBounds_toArray, List.set_cons_zero, List.set_cons_succ]
    refine wpAnyH_take (i := 19) (oi := { dst := some 117, op := Go.Op.pick (Go.Operand.tmp 112) (Go.Operand.tmp 116) (Go.Operand.const (Go.Value.bool false)), type := 4, pos := "law.go:92", after := #[{ on := 14, ground := Go.Ground.data }, { on := 18, ground := Go.Ground.data }], guard := none }) (v := ?v19_181104) rfl (by kernel_rfl) (by kernel_rfl) (by kernel_rfl) (fun _ _ _ h => h) (Or.inl ⟨by rfl, ?y19_181104⟩) hHeld ?r19_181104
    case y19_181104 => intro w hSw; (try dsimp only at hSw); go_simp; try with_reducible rfl
    try simp only [Act.put, List.setIfInBounds_toArray, List.set_cons_zero, List.set_cons_succ]
    refine wpAnyH_take (i := 20) (oi := { dst := some 118, op := Go.Op.move (Go.Operand.tmp 117), type := 4, pos := "law.go:92", after := #[{ on := 19, ground := Go.Ground.data }, { on := 18, ground := Go.Ground.chain }], guard := none }) (v := ?v20_181104) rfl (by kernel_rfl) (by kernel_rfl) (by kernel_rfl) (fun _ _ _ h => h) (Or.inl ⟨by rfl, ?y20_181104⟩) hHeld ?r20_181104
    case y20_181104 => intro w hSw; (try dsimp only at hSw); go_simp; try with_reducible rfl
    try simp only [Act.put, List.setIfInBounds_toArray, List.set_cons_zero, List.set_cons_succ]
    refine wpAnyH_take (i := 21) (oi := { dst := some 119, op := Go.Op.move (Go.Operand.tmp 2), type := 3, pos := "law.go:92", after := #[{ on := 20, ground := Go.Ground.guard }], guard := some (20, true) }) (v := ?v21_181104) rfl (by kernel_rfl) (by kernel_rfl) (by kernel_rfl) (fun _ _ _ h => h) (Or.inl ⟨by rfl, ?y21_181104⟩) hHeld ?r21_181104
    case y21_181104 => intro w hSw; (try dsimp only at hSw); go_simp; try with_reducible rfl
    try simp only [Act.put, List.setIfInBounds_toArray, List.set_cons_zero, List.set_cons_succ]
    refine wpAnyH_take (i := 22) (oi := { dst := some 120, op := Go.Op.move (Go.Operand.tmp 4), type := 24, pos := "law.go:92", after := #[{ on := 20, ground := Go.Ground.guard }], guard := some (20, true) }) (v := ?v22_181104) rfl (by kernel_rfl) (by kernel_rfl) (by kernel_rfl) (fun _ _ _ h => h) (Or.inl ⟨by rfl, ?y22_181104⟩) hHeld ?r22_181104
    case y22_181104 => intro w hSw; (try dsimp only at hSw); go_simp; try with_reducible rfl
    try simp only [Act.put, List.setIfInBounds_toArray, List.set_cons_zero, List.set_cons_succ]
    refine wpAnyH_take (i := 25) (oi := { dst := some 123, op := Go.Op.move (Go.Operand.tmp 2), type := 3, pos := "law.go:92", after := #[{ on := 20, ground := Go.Ground.guard }], guard := some (20, true) }) (v := ?v25_181104) rfl (by kernel_rfl) (by kernel_rfl) (by kernel_rfl) (fun _ _ _ h => h) (Or.inl ⟨by rfl, ?y25_181104⟩) hHeld ?r25_181104
    case y25_181104 => intro w hSw; (try dsimp only at hSw); go_simp; try with_reducible rfl
    try simp only [Act.put, List.setIfInBounds_toArray, List.set_cons_zero, List.set_cons_succ]
    refine wpAnyH_take (i := 26) (oi := { dst := some 124, op := Go.Op.move (Go.Operand.tmp 4), type := 24, pos := "law.go:92", after := #[{ on := 20, ground := Go.Ground.guard }], guard := some (20, true) }) (v := ?v26_181104) rfl (by kernel_rfl) (by kernel_rfl) (by kernel_rfl) (fun _ _ _ h => h) (Or.inl ⟨by rfl, ?y26_181104⟩) hHeld ?r26_181104
    case y26_181104 => intro w hSw; (try dsimp only at hSw); go_simp; try with_reducible rfl
    try simp only [Act.put, List.setIfInBounds_toArray, List.set_cons_zero, List.set_cons_succ]
    refine wpAnyH_ready (rs := [23]) (by kernel_rfl) (by simp) ?_
    refine AllReadyH.cons (o := { dst := some 121, op := Go.Op.call { callee := Go.Callee.value (Go.Operand.func 37), args := #[Go.Operand.tmp 119, Go.Operand.tmp 120], argTypes := #[3, 24] }, type := 27, pos := "law.go:92", after := #[{ on := 21, ground := Go.Ground.data }, { on := 22, ground := Go.Ground.data }, { on := 20, ground := Go.Ground.chain }, { on := 20, ground := Go.Ground.guard }], guard := some (20, true) }) rfl (fun K hK => ?_) AllReadyH.nil
    go_simp
    refine (askM_any _ qr qn qk QL _ (HQ.out.below (HBL.out.trans (hHeld.mono HBL.out.size))) HQN.out HQN2.out).mono ?_; rintro e wt23 ⟨v23, rfl, ho, hb⟩
    have HV23 := Lib.hid ho.at
    clear ho
    go_wp2_with fail
    refine hK.out _ _ (hHeld.trans (hb.mono hHeld.size)) (fun hHeld2 => ?_)
    clear hK K hHeld
    have hHeld := hHeld2
    clear hHeld2
    try simp only [Act.put, List.setIfInBounds_toArray, List.set_cons_zero, List.set_cons_succ]
    refine wpAnyH_ready (rs := [24]) (by kernel_rfl) (by simp) ?_
    refine AllReadyH.cons (o := { dst := some 122, op := Go.Op.call { callee := Go.Callee.value (Go.Operand.func 15), args := #[Go.Operand.tmp 121], argTypes := #[27] }, type := 32, pos := "law.go:92", after := #[{ on := 23, ground := Go.Ground.data }, { on := 23, ground := Go.Ground.chain }, { on := 20, ground := Go.Ground.guard }], guard := some (20, true) }) rfl (fun K hK => ?_) AllReadyH.nil
    go_simp
    refine (plainM_any _ _ _ HV23.out).mono ?_; rintro e wt24 ⟨rfl, hb⟩
    replace HV23 := Lib.hid (HV23.out.below hb)
    go_wp2_with fail
    refine hK.out _ _ (hHeld.trans (hb.mono hHeld.size)) (fun hHeld2 => ?_)
    clear hK K hHeld
    have hHeld := hHeld2
    clear hHeld2
    try simp only [Act.put, List.setIfInBounds_toArray, List.set_cons_zero, List.set_cons_succ]
    refine wpAnyH_ready (rs := [27]) (by kernel_rfl) (by simp) ?_
    refine AllReadyH.cons (o := { dst := some 125, op := Go.Op.call { callee := Go.Callee.value (Go.Operand.func 38), args := #[Go.Operand.tmp 123, Go.Operand.tmp 124], argTypes := #[3, 24] }, type := 32, pos := "law.go:92", after := #[{ on := 25, ground := Go.Ground.data }, { on := 26, ground := Go.Ground.data }, { on := 24, ground := Go.Ground.chain }, { on := 20, ground := Go.Ground.guard }], guard := some (20, true) }) rfl (fun K hK => ?_) AllReadyH.nil
    go_simp
    refine (askD_any _ qr qn qk QL _ (HQ.out.below (HBL.out.trans (hHeld.mono HBL.out.size))) HQN.out HQN2.out).mono ?_; rintro e wt27 ⟨v27, rfl, ho, hb⟩
    replace HV23 := Lib.hid (HV23.out.below hb)
    have HV27 := Lib.hid ho
    clear ho
    go_wp2_with fail
    refine hK.out _ _ (hHeld.trans (hb.mono hHeld.size)) (fun hHeld2 => ?_)
    clear hK K hHeld
    have hHeld := hHeld2
    clear hHeld2
    try simp only [Act.put, List.setIfInBounds_toArray, List.set_cons_zero, List.set_cons_succ]
    refine wpAnyH_ready (rs := [28]) (by kernel_rfl) (by simp) ?_
    refine AllReadyH.cons (o := { dst := some 126, op := Go.Op.call { callee := Go.Callee.value (Go.Operand.func 30), args := #[Go.Operand.tmp 122, Go.Operand.tmp 125], argTypes := #[32, 32] }, type := 4, pos := "law.go:92", after := #[{ on := 24, ground := Go.Ground.data }, { on := 27, ground := Go.Ground.data }, { on := 27, ground := Go.Ground.chain }, { on := 20, ground := Go.Ground.guard }], guard := some (20, true) }) rfl (fun K hK => ?_) AllReadyH.nil
    go_simp
    refine (sameMD_any _ _ _ _ _ HV23.out HV27.out HSK.out HSK.out).mono ?_; rintro e wt28 ⟨rfl, hb⟩
    rw [(sameB_iff _ _).2 rfl]
    go_wp2_with fail
    refine hK.out _ _ (hHeld.trans (hb.mono hHeld.size)) (fun hHeld2 => ?_)
    clear hK K hHeld
    have hHeld := hHeld2
    clear hHeld2
    try simp only [Act.put, List.setIfInBounds_toArray, List.set_cons_zero, List.set_cons_succ]
    refine wpAnyH_take (i := 29) (oi := { dst := some 127, op := Go.Op.pick (Go.Operand.tmp 118) (Go.Operand.tmp 126) (Go.Operand.const (Go.Value.bool false)), type := 4, pos := "law.go:92", after := #[{ on := 20, ground := Go.Ground.data }, { on := 28, ground := Go.Ground.data }], guard := none }) (v := ?v29_181108) rfl (by kernel_rfl) (by kernel_rfl) (by kernel_rfl) (fun _ _ _ h => h) (Or.inl ⟨by rfl, ?y29_181108⟩) hHeld ?r29_181108
    case y29_181108 => intro w hSw; (try dsimp only at hSw); go_simp; try with_reducible rfl
    try simp only [Act.put, List.setIfInBounds_toArray, List.set_cons_zero, List.set_cons_succ]
    refine wpAnyH_take (i := 30) (oi := { dst := some 10, op := Go.Op.assign (Go.Operand.tmp 127), type := 4, pos := "law.go:92", after := #[{ on := 29, ground := Go.Ground.data }, { on := 28, ground := Go.Ground.chain }, { on := 0, ground := Go.Ground.phase }, { on := 1, ground := Go.Ground.phase }, { on := 2, ground := Go.Ground.phase }, { on := 3, ground := Go.Ground.phase }, { on := 4, ground := Go.Ground.phase }, { on := 5, ground := Go.Ground.phase }, { on := 6, ground := Go.Ground.phase }, { on := 7, ground := Go.Ground.phase }, { on := 8, ground := Go.Ground.phase }, { on := 9, ground := Go.Ground.phase }, { on := 10, ground := Go.Ground.phase }, { on := 11, ground := Go.Ground.phase }, { on := 12, ground := Go.Ground.phase }, { on := 13, ground := Go.Ground.phase }, { on := 14, ground := Go.Ground.phase }, { on := 15, ground := Go.Ground.phase }, { on := 16, ground := Go.Ground.phase }, { on := 17, ground := Go.Ground.phase }, { on := 18, ground := Go.Ground.phase }, { on := 19, ground := Go.Ground.phase }, { on := 20, ground := Go.Ground.phase }, { on := 21, ground := Go.Ground.phase }, { on := 22, ground := Go.Ground.phase }, { on := 23, ground := Go.Ground.phase }, { on := 24, ground := Go.Ground.phase }, { on := 25, ground := Go.Ground.phase }, { on := 26, ground := Go.Ground.phase }, { on := 27, ground := Go.Ground.phase }, { on := 28, ground := Go.Ground.phase }, { on := 29, ground := Go.Ground.phase }], guard := none }) (v := ?v30_181108) rfl (by kernel_rfl) (by kernel_rfl) (by kernel_rfl) (fun _ _ _ h => h) (Or.inl ⟨by rfl, ?y30_181108⟩) hHeld ?r30_181108
    case y30_181108 => intro w hSw; (try dsimp only at hSw); go_simp; try with_reducible rfl
    try simp only [Act.put, List.setIfInBounds_toArray, List.set_cons_zero, List.set_cons_succ]
    refine wpAnyH_done (by kernel_rfl) ?_ _
    go_wp2
    go_ret
    exact ⟨rfl, HB.out.trans ((HBL.out.trans (hHeld.mono HBL.out.size)).mono HB.out.size)⟩
  by_cases hs2 : sec = 2
  · subst hs2
    go_wp2_with fail
    refine (add2 q13 _ _ _ _ _ _ _ _ _ _ _ sa3 la sl sc3 ln lc ma.n L _ HC.out (rowR_own2 HN3.out).1 (rowR_own2 HN3.out).2 (HL.out.below HBL.out) HLN.out (by have := HN4.out; omega)).mono ?_; rintro e w9 ⟨v9, rfl, hc9, ho9, hg9⟩
    obtain ⟨a9, c9, rfl, -⟩ := rowR_own ho9
    have hs9 : w8.heap.size ≤ w9.heap.size := hg9.size
    replace HBL := Lib.hid (HBL.out.grown hg9 HBL.out.size (fun k hk => by injection hk with hk; have := HQ13.out; have := HS10.out; omega))
    have HQ8 := Lib.hid HC.out.1
    have hne : (some q13 : Option Nat) ≠ some q11 := fun e => HNE.out (by injection e with e; exact e.symm)
    replace HP := Lib.hid (HP.out.grown hg9 (fun e => hne e.symm))
    replace HTP := Lib.hid (HTP.out.grown hg9 hne)
    replace HA2 := Lib.hid (own_keeps HA2.out HTC.out (by decide) hg9)
    replace HN2 := Lib.hid (own_keeps HN2.out HTC.out (by decide) hg9)
    replace HX2 := Lib.hid (own_keeps HX2.out HTC.out (by decide) hg9)
    replace HA3 := Lib.hid (own_keeps HA3.out HTC.out (by decide) hg9)
    replace HX3 := Lib.hid (own_keeps HX3.out HTC.out (by decide) hg9)
    replace HC := Lib.hid hc9
    have HV9 := Lib.hid ho9
    have HBS := Lib.hid (show wy2.heap.size ≤ w9.heap.size by have := HZ2.out; have := HZ5.out; have := HZ8.out; have := HZ9.out; have := HQ13.out; have := HQ8.out; omega)
    clear hc9 ho9 hg9 hne
    have p0 := (HP.out.2 10 _ rfl).1
    have f0 := (HP.out.2 10 _ rfl).2
    go_wp2_with (at_builtin; refine append_cellsK rfl _ _ 25 75 rfl j0 _ 5 56 Try.underlying25 HJ.out HJ0.out HJ1.out HJ2.out rfl (by decide) wy2.heap.size _ sl _ rfl HN2.out la ln lc (flatR L) rfl HLN.out (HL.out.below HBL.out).2 (flatR_one L) (by have := HN4.out; omega) (by decide) HBS.out ?_)
    intro v10 wa hown hgrow
    obtain ⟨a10, c10, rfl, -⟩ := cellsK_own hown
    have hiv : ∀ k, (Value.slice sa2 sl sc2).ownBlock = some k → w10.heap.size ≤ k ∧ k < wz7.heap.size := fun k hk => by have := HIN.out k hk; have := HS6.out; have := HZ2.out; have := HZ5.out; have := HZ8.out; have := HZ9.out; omega
    have hne := own_ne HN2.out HTP.out (by decide)
    replace HP := Lib.hid (HP.out.grown hgrow (fun e => hne e.symm))
    replace HTP := Lib.hid (HTP.out.grown hgrow hne)
    replace HC := Lib.hid (HC.out.grown hgrow (fun e => by have := (hiv _ e.symm).2; have := HQ13.out; omega))
    replace HA2 := Lib.hid (own_apart HA2.out hgrow (fun k hk e => by have := HIA.out k hk; have := HIN.out k e; have := HZ2.out; have := HZ5.out; have := HZ8.out; omega))
    replace HX2 := Lib.hid (own_apart HX2.out hgrow (fun k hk e => by have := HIX.out k hk; have := HIN.out k e; have := HZ2.out; have := HZ5.out; have := HZ8.out; omega))
    replace HV9 := Lib.hid (own_apart HV9.out hgrow (fun k hk e => by have := (HV9.out.lt k hk).1; have := (hiv k e).2; have := HQ13.out; have := HQ8.out; omega))
    replace HA3 := Lib.hid (own_apart HA3.out hgrow (fun k hk e => by have := (HA3.out.lt k hk).1; have := (hiv k e).2; have := HQ13.out; have := HQ8.out; omega))
    replace HX3 := Lib.hid (own_apart HX3.out hgrow (fun k hk e => by have := (HX3.out.lt k hk).1; have := (hiv k e).2; have := HQ13.out; have := HQ8.out; omega))
    replace HBL := Lib.hid (HBL.out.grown hgrow HBL.out.size (fun k hk => (hiv k hk).1))
    have HOW := Lib.hid (show wa.ownsRow wy2.heap.size 75 5 (.slice a10 (sl + ln) c10) (sl + ln) (flatR (ma.n ++ L)) by rw [flatR_app]; exact hown)
    clear hown hgrow hiv hne p0 f0
    have p0 := (HP.out.2 10 _ rfl).1
    have f0 := (HP.out.2 10 _ rfl).2
    have hpz := HP.out.set 10 (by simp) (.slice a10 (sl + ln) c10)
    have hcz := HC.out.far ⟨q11, 10, none⟩ HNE.out (.slice a10 (sl + ln) c10)
    have hgc := grown_cell wa q11 10 (.slice a10 (sl + ln) c10)
    have ha2_ := own_keeps HA2.out HTP.out (by decide) hgc
    have hx2_ := own_keeps HX2.out HTP.out (by decide) hgc
    have ha3_ := own_keeps HA3.out HTP.out (by decide) hgc
    have hx3_ := own_keeps HX3.out HTP.out (by decide) hgc
    have hv9_ := own_keeps HV9.out HTP.out (by decide) hgc
    have how_ := own_keeps HOW.out HTP.out (by decide) hgc
    have hblz := HBL.out.setCell (p := ⟨q11, 10, none⟩) HQ11.out (.slice a10 (sl + ln) c10)
    go_upto_region 17 with (fail)
    obtain ⟨wE, hwE⟩ : ∃ x, wa.setCell ⟨q11, 10, none⟩ (.slice a10 (sl + ln) c10) = x := ⟨_, rfl⟩
    rw [hwE] at hpz hcz hblz ha2_ hx2_ ha3_ hx3_ hv9_ how_ ⊢
    have HMP := Lib.hid (show MsgAt wE (.agg #[.int .i64 mi, .int .i64 mo, .int .i64 mr, .bool b1, .bool b2, .bool b3, .bool b4, .bool b5, .slice qa ql qc, .slice na2 nl nc2, .slice a10 (sl + ln) c10, .slice xa2 xl xc2]) (⟨mi, mo, mr, b1, b2, b3, b4, b5, ma.q, ma.a, ma.n ++ L, ma.x⟩ : MsgP) from msgAt_mk (HRQ.out.below hblz) HNQ.out (rowR_own2 ha2_).1 (rowR_own2 ha2_).2 (rowR_own2 how_).1 (rowR_own2 how_).2 (rowR_own2 hx2_).1 (rowR_own2 hx2_).2)
    have HMC := Lib.hid (show MsgAt wE (.agg #[.int .i64 mi, .int .i64 mo, .int .i64 mr, .bool b1, .bool b2, .bool b3, .bool b4, .bool b5, .slice qa ql qc, .slice na3 nl nc3, .slice a9 (sl + ln) c9, .slice xa3 xl xc3]) (⟨mi, mo, mr, b1, b2, b3, b4, b5, ma.q, ma.a, ma.n ++ L, ma.x⟩ : MsgP) from msgAt_mk (HRQ.out.below hblz) HNQ.out (rowR_own2 ha3_).1 (rowR_own2 ha3_).2 (rowR_own2 hv9_).1 (rowR_own2 hv9_).2 (rowR_own2 hx3_).1 (rowR_own2 hx3_).2)
    replace HP := Lib.hid (show CN wE q11 [.int .i64 mi, .int .i64 mo, .int .i64 mr, .bool b1, .bool b2, .bool b3, .bool b4, .bool b5, .slice qa ql qc, .slice na2 nl nc2, .slice a10 (sl + ln) c10, .slice xa2 xl xc2] from hpz)
    replace HC := Lib.hid (show CN wE q13 [.int .i64 mi, .int .i64 mo, .int .i64 mr, .bool b1, .bool b2, .bool b3, .bool b4, .bool b5, .slice qa ql qc, .slice na3 nl nc3, .slice a9 (sl + ln) c9, .slice xa3 xl xc3] from hcz)
    replace HBL := Lib.hid hblz
    have HSC := Lib.hid (show SmM (⟨mi, mo, mr, b1, b2, b3, b4, b5, ma.q, ma.a, ma.n ++ L, ma.x⟩ : MsgP) from ⟨by show ma.q.length ≤ 100000; have := HSMA.out.1; exact this, by show (ma.a).length ≤ 100000; rw [HEA.out]; have := HN4.out; omega, by show (ma.n ++ L).length ≤ 100000; rw [List.length_append, HEN.out, HLL.out]; have := HN4.out; omega, by show (ma.x).length ≤ 100000; rw [HEX.out]; have := HN4.out; omega⟩)
    have HSK := Lib.hid (show SmM (askM 2 QL) from ⟨by show QL.length ≤ 100000; rw [HQLL.out]; exact HQN2.out, Nat.zero_le _, Nat.zero_le _, Nat.zero_le _⟩)
    clear hpz hcz hgc hblz p0 f0 hwE ha2_ hx2_ ha3_ hx3_ hv9_ how_ HV9 HOW HA2 HN2 HX2 HA3 HN3 HX3
    refine wp_region_held_drew (S := (fun wx => Below wE.heap.size wE wx)) (by kernel_rfl) ((Below.refl wE.heap.size wE).drew) (fun hHeld => ?_)
    refine wpAnyH_ready (rs := [0]) (by kernel_rfl) (by simp) ?_
    refine AllReadyH.cons (o := { dst := some 98, op := Go.Op.call { callee := Go.Callee.value (Go.Operand.func 13), args := #[], argTypes := #[] }, type := 4, pos := "law.go:92", after := #[], guard := none }) rfl (fun K hK => ?_) AllReadyH.nil
    go_simp
    refine (first5 _).mono ?_; rintro e wt0 ⟨rfl, hb⟩
    go_wp2_with fail
    refine hK.out _ _ (hHeld.trans (hb.mono hHeld.size)) (fun hHeld2 => ?_)
    clear hK K hHeld
    have hHeld := hHeld2
    clear hHeld2
    try simp only [Act.put, List.setIfInBounds_toArray, List.set_cons_zero, List.set_cons_succ]
    refine wpAnyH_take (i := 1) (oi := { dst := some 99, op := Go.Op.move (Go.Operand.tmp 98), type := 4, pos := "law.go:92", after := #[{ on := 0, ground := Go.Ground.data }, { on := 0, ground := Go.Ground.chain }], guard := none }) (v := ?v1_182102) rfl (by kernel_rfl) (by kernel_rfl) (by kernel_rfl) (fun _ _ _ h => h) (Or.inl ⟨by rfl, ?y1_182102⟩) hHeld ?r1_182102
    case y1_182102 => intro w hSw; (try dsimp only at hSw); go_simp; try with_reducible rfl
    try simp only [Act.put, List.setIfInBounds_toArray, List.set_cons_zero, List.set_cons_succ]
    refine wpAnyH_take (i := 2) (oi := { dst := some 100, op := Go.Op.move (Go.Operand.tmp 12), type := 4, pos := "law.go:92", after := #[{ on := 1, ground := Go.Ground.guard }], guard := some (1, true) }) (v := ?v2_182102) rfl (by kernel_rfl) (by kernel_rfl) (by kernel_rfl) (fun _ _ _ h => h) (Or.inl ⟨by rfl, ?y2_182102⟩) hHeld ?r2_182102
    case y2_182102 => intro w hSw; (try dsimp only at hSw); go_simp; try with_reducible rfl
    try simp only [Act.put, List.setIfInBounds_toArray, List.set_cons_zero, List.set_cons_succ]
    refine wpAnyH_take (i := 3) (oi := { dst := some 101, op := Go.Op.pick (Go.Operand.tmp 99) (Go.Operand.tmp 100) (Go.Operand.const (Go.Value.bool false)), type := 4, pos := "law.go:92", after := #[{ on := 1, ground := Go.Ground.data }, { on := 2, ground := Go.Ground.data }], guard := none }) (v := ?v3_182102) rfl (by kernel_rfl) (by kernel_rfl) (by kernel_rfl) (fun _ _ _ h => h) (Or.inl ⟨by rfl, ?y3_182102⟩) hHeld ?r3_182102
    case y3_182102 => intro w hSw; (try dsimp only at hSw); go_simp; try with_reducible rfl
    try simp only [Act.put, List.setIfInBounds_toArray, List.set_cons_zero, List.set_cons_succ]
    refine wpAnyH_take (i := 4) (oi := { dst := some 102, op := Go.Op.move (Go.Operand.tmp 101), type := 4, pos := "law.go:92", after := #[{ on := 3, ground := Go.Ground.data }, { on := 1, ground := Go.Ground.chain }], guard := none }) (v := ?v4_182102) rfl (by kernel_rfl) (by kernel_rfl) (by kernel_rfl) (fun _ _ _ h => h) (Or.inl ⟨by rfl, ?y4_182102⟩) hHeld ?r4_182102
    case y4_182102 => intro w hSw; (try dsimp only at hSw); go_simp; try with_reducible rfl
    try simp only [Act.put, List.setIfInBounds_toArray, List.set_cons_zero, List.set_cons_succ]
    refine wpAnyH_take (i := 5) (oi := { dst := some 103, op := Go.Op.move (Go.Operand.tmp 14), type := 4, pos := "law.go:92", after := #[{ on := 4, ground := Go.Ground.guard }], guard := some (4, true) }) (v := ?v5_182102) rfl (by kernel_rfl) (by kernel_rfl) (by kernel_rfl) (fun _ _ _ h => h) (Or.inl ⟨by rfl, ?y5_182102⟩) hHeld ?r5_182102
    case y5_182102 => intro w hSw; (try dsimp only at hSw); go_simp; try with_reducible rfl
    try simp only [Act.put, List.setIfInBounds_toArray, List.set_cons_zero, List.set_cons_succ]
    refine wpAnyH_take (i := 6) (oi := { dst := some 104, op := Go.Op.move (Go.Operand.tmp 2), type := 3, pos := "law.go:92", after := #[{ on := 4, ground := Go.Ground.guard }], guard := some (4, true) }) (v := ?v6_182102) rfl (by kernel_rfl) (by kernel_rfl) (by kernel_rfl) (fun _ _ _ h => h) (Or.inl ⟨by rfl, ?y6_182102⟩) hHeld ?r6_182102
    case y6_182102 => intro w hSw; (try dsimp only at hSw); go_simp; try with_reducible rfl
    try simp only [Act.put, List.setIfInBounds_toArray, List.set_cons_zero, List.set_cons_succ]
    refine wpAnyH_take (i := 7) (oi := { dst := some 105, op := Go.Op.binOp Go.BinOp.geq 3 (Go.Operand.tmp 104) (Go.Operand.const (Go.Value.int Go.IntKind.i64 1)) 3, type := 4, pos := "law.go:92", after := #[{ on := 6, ground := Go.Ground.data }, { on := 4, ground := Go.Ground.guard }], guard := some (4, true) }) (v := ?v7_182102) rfl (by kernel_rfl) (by kernel_rfl) (by kernel_rfl) (fun _ _ _ h => h) (Or.inl ⟨by rfl, ?y7_182102⟩) hHeld ?r7_182102
    case y7_182102 => intro w hSw; (try dsimp only at hSw); go_simp; try with_reducible rfl
    try simp only [Act.put, List.setIfInBounds_toArray, List.set_cons_zero, List.set_cons_succ]
    refine wpAnyH_take (i := 8) (oi := { dst := some 106, op := Go.Op.move (Go.Operand.tmp 105), type := 4, pos := "law.go:92", after := #[{ on := 7, ground := Go.Ground.data }, { on := 4, ground := Go.Ground.chain }, { on := 4, ground := Go.Ground.guard }], guard := some (4, true) }) (v := ?v8_182102) rfl (by kernel_rfl) (by kernel_rfl) (by kernel_rfl) (fun _ _ _ h => h) (Or.inl ⟨by rfl, ?y8_182102⟩) hHeld ?r8_182102
    case y8_182102 => intro w hSw; (try dsimp only at hSw); go_simp; try with_reducible rfl
    try simp only [Act.put, List.setIfInBounds_toArray, List.set_cons_zero, List.set_cons_succ]
    refine wpAnyH_take (i := 9) (oi := { dst := some 107, op := Go.Op.move (Go.Operand.tmp 2), type := 3, pos := "law.go:92", after := #[{ on := 8, ground := Go.Ground.guard }], guard := some (8, true) }) (v := ?v9_182102) rfl (by kernel_rfl) (by kernel_rfl) (by kernel_rfl) (fun _ _ _ h => h) (Or.inl ⟨by rfl, ?y9_182102⟩) hHeld ?r9_182102
    case y9_182102 => intro w hSw; (try dsimp only at hSw); go_simp; try with_reducible rfl
    try simp only [Act.put, List.setIfInBounds_toArray, List.set_cons_zero, List.set_cons_succ]
    refine wpAnyH_take (i := 10) (oi := { dst := some 108, op := Go.Op.binOp Go.BinOp.leq 3 (Go.Operand.tmp 107) (Go.Operand.const (Go.Value.int Go.IntKind.i64 3)) 3, type := 4, pos := "law.go:92", after := #[{ on := 9, ground := Go.Ground.data }, { on := 8, ground := Go.Ground.guard }], guard := some (8, true) }) (v := ?v10_182102) rfl (by kernel_rfl) (by kernel_rfl) (by kernel_rfl) (fun _ _ _ h => h) (Or.inl ⟨by rfl, ?y10_182102⟩) hHeld ?r10_182102
    case y10_182102 => intro w hSw; (try dsimp only at hSw); go_simp; try with_reducible rfl
    try simp only [Act.put, List.setIfInBounds_toArray, List.set_cons_zero, List.set_cons_succ]
    refine wpAnyH_take (i := 11) (oi := { dst := some 109, op := Go.Op.pick (Go.Operand.tmp 106) (Go.Operand.tmp 108) (Go.Operand.const (Go.Value.bool false)), type := 4, pos := "law.go:92", after := #[{ on := 8, ground := Go.Ground.data }, { on := 10, ground := Go.Ground.data }, { on := 4, ground := Go.Ground.guard }], guard := some (4, true) }) (v := ?v11_182102) rfl (by kernel_rfl) (by kernel_rfl) (by kernel_rfl) (fun _ _ _ h => h) (Or.inl ⟨by rfl, ?y11_182102⟩) hHeld ?r11_182102
    case y11_182102 => intro w hSw; (try dsimp only at hSw); go_simp; try with_reducible rfl
    try simp only [Act.put, List.setIfInBounds_toArray, List.set_cons_zero, List.set_cons_succ]
    refine wpAnyH_take (i := 12) (oi := { dst := some 110, op := Go.Op.binOp Go.BinOp.eql 4 (Go.Operand.tmp 103) (Go.Operand.tmp 109) 4, type := 4, pos := "law.go:92", after := #[{ on := 5, ground := Go.Ground.data }, { on := 11, ground := Go.Ground.data }, { on := 4, ground := Go.Ground.guard }], guard := some (4, true) }) (v := ?v12_182102) rfl (by kernel_rfl) (by kernel_rfl) (by kernel_rfl) (fun _ _ _ h => h) (Or.inl ⟨by rfl, ?y12_182102⟩) hHeld ?r12_182102
    case y12_182102 => intro w hSw; (try dsimp only at hSw); go_simp; try with_reducible rfl
    try simp only [Act.put, List.setIfInBounds_toArray, List.set_cons_zero, List.set_cons_succ]
    refine wpAnyH_take (i := 13) (oi := { dst := some 111, op := Go.Op.pick (Go.Operand.tmp 102) (Go.Operand.tmp 110) (Go.Operand.const (Go.Value.bool false)), type := 4, pos := "law.go:92", after := #[{ on := 4, ground := Go.Ground.data }, { on := 12, ground := Go.Ground.data }], guard := none }) (v := ?v13_182102) rfl (by kernel_rfl) (by kernel_rfl) (by kernel_rfl) (fun _ _ _ h => h) (Or.inl ⟨by rfl, ?y13_182102⟩) hHeld ?r13_182102
    case y13_182102 => intro w hSw; (try dsimp only at hSw); go_simp; try with_reducible rfl
    try simp only [Act.put, List.setIfInBounds_toArray, List.set_cons_zero, List.set_cons_succ]
    refine wpAnyH_take (i := 14) (oi := { dst := some 112, op := Go.Op.move (Go.Operand.tmp 111), type := 4, pos := "law.go:92", after := #[{ on := 13, ground := Go.Ground.data }, { on := 8, ground := Go.Ground.chain }], guard := none }) (v := ?v14_182102) rfl (by kernel_rfl) (by kernel_rfl) (by kernel_rfl) (fun _ _ _ h => h) (Or.inl ⟨by rfl, ?y14_182102⟩) hHeld ?r14_182102
    case y14_182102 => intro w hSw; (try dsimp only at hSw); go_simp; try with_reducible rfl
    try simp only [Act.put, List.setIfInBounds_toArray, List.set_cons_zero, List.set_cons_succ]
    refine wpAnyH_take (i := 15) (oi := { dst := some 113, op := Go.Op.load 27 (Go.Operand.tmp 13), type := 27, pos := "law.go:92", after := #[{ on := 14, ground := Go.Ground.guard }], guard := some (14, true) }) (v := ?v15_182102) rfl (by kernel_rfl) (by kernel_rfl) (by kernel_rfl) (fun _ _ _ h => h) (Or.inl ⟨by rfl, ?y15_182102⟩) hHeld ?r15_182102
    case y15_182102 => intro w hSw; (try dsimp only at hSw); obtain ⟨y0, y1, y2, y3, y4, y5, y6, y7, y8, y9, y10, y11, _⟩ := (HC.out.below hSw).u12; go_simp; try with_reducible rfl
    try simp only [Act.put, List.setIfInBounds_toArray, List.set_cons_zero, List.set_cons_succ]
    refine wpAnyH_take (i := 17) (oi := { dst := some 115, op := Go.Op.load 32 (Go.Operand.tmp 11), type := 32, pos := "law.go:92", after := #[{ on := 14, ground := Go.Ground.guard }], guard := some (14, true) }) (v := ?v17_182102) rfl (by kernel_rfl) (by kernel_rfl) (by kernel_rfl) (fun _ _ _ h => h) (Or.inl ⟨by rfl, ?y17_182102⟩) hHeld ?r17_182102
    case y17_182102 => intro w hSw; (try dsimp only at hSw); obtain ⟨y0, y1, y2, y3, y4, y5, y6, y7, y8, y9, y10, y11, _⟩ := (HP.out.below hSw).u12; go_simp; try with_reducible rfl
    try simp only [Act.put, List.setIfInBounds_toArray, List.set_cons_zero, List.set_cons_succ]
    refine wpAnyH_ready (rs := [16]) (by kernel_rfl) (by simp) ?_
    refine AllReadyH.cons (o := { dst := some 114, op := Go.Op.call { callee := Go.Callee.value (Go.Operand.func 15), args := #[Go.Operand.tmp 113], argTypes := #[27] }, type := 32, pos := "law.go:92", after := #[{ on := 15, ground := Go.Ground.data }, { on := 14, ground := Go.Ground.chain }, { on := 14, ground := Go.Ground.guard }], guard := some (14, true) }) rfl (fun K hK => ?_) AllReadyH.nil
    go_simp
    refine (plain_ex _ _ _ _ _ _ _ _ _ _ _ _ _ _ _ _ _ _ _ _ _).mono ?_; rintro e wt16 ⟨rfl, hb⟩
    go_wp2_with fail
    refine hK.out _ _ (hHeld.trans (hb.mono hHeld.size)) (fun hHeld2 => ?_)
    clear hK K hHeld
    have hHeld := hHeld2
    clear hHeld2
    try simp only [Act.put, List.setIfInBounds_toArray, List.set_cons_zero, List.set_cons_succ]
    refine wpAnyH_ready (rs := [18]) (by kernel_rfl) (by simp) ?_
    refine AllReadyH.cons (o := { dst := some 116, op := Go.Op.call { callee := Go.Callee.value (Go.Operand.func 30), args := #[Go.Operand.tmp 114, Go.Operand.tmp 115], argTypes := #[32, 32] }, type := 4, pos := "law.go:92", after := #[{ on := 16, ground := Go.Ground.data }, { on := 17, ground := Go.Ground.data }, { on := 16, ground := Go.Ground.chain }, { on := 14, ground := Go.Ground.guard }], guard := some (14, true) }) rfl (fun K hK => ?_) AllReadyH.nil
    go_simp
    refine (sameMD_any _ _ (⟨mi, mo, mr, b1, b2, b3, b4, b5, ma.q, ma.a, ma.n ++ L, ma.x⟩ : MsgP) (⟨mi, mo, mr, b1, b2, b3, b4, b5, ma.q, ma.a, ma.n ++ L, ma.x⟩ : MsgP) _ (HMC.out.below hHeld) (HMP.out.below hHeld) HSC.out HSC.out).mono ?_; rintro e wt18 ⟨rfl, hb⟩
    rw [(sameB_iff _ _).2 rfl]
    go_wp2_with fail
    refine hK.out _ _ (hHeld.trans (hb.mono hHeld.size)) (fun hHeld2 => ?_)
    clear hK K hHeld
    have hHeld := hHeld2
    clear hHeld2
    try simp only [Act.put, List.setIfInBounds_toArray, List.set_cons_zero, List.set_cons_succ]
    refine wpAnyH_take (i := 19) (oi := { dst := some 117, op := Go.Op.pick (Go.Operand.tmp 112) (Go.Operand.tmp 116) (Go.Operand.const (Go.Value.bool false)), type := 4, pos := "law.go:92", after := #[{ on := 14, ground := Go.Ground.data }, { on := 18, ground := Go.Ground.data }], guard := none }) (v := ?v19_182104) rfl (by kernel_rfl) (by kernel_rfl) (by kernel_rfl) (fun _ _ _ h => h) (Or.inl ⟨by rfl, ?y19_182104⟩) hHeld ?r19_182104
    case y19_182104 => intro w hSw; (try dsimp only at hSw); go_simp; try with_reducible rfl
    try simp only [Act.put, List.setIfInBounds_toArray, List.set_cons_zero, List.set_cons_succ]
    refine wpAnyH_take (i := 20) (oi := { dst := some 118, op := Go.Op.move (Go.Operand.tmp 117), type := 4, pos := "law.go:92", after := #[{ on := 19, ground := Go.Ground.data }, { on := 18, ground := Go.Ground.chain }], guard := none }) (v := ?v20_182104) rfl (by kernel_rfl) (by kernel_rfl) (by kernel_rfl) (fun _ _ _ h => h) (Or.inl ⟨by rfl, ?y20_182104⟩) hHeld ?r20_182104
    case y20_182104 => intro w hSw; (try dsimp only at hSw); go_simp; try with_reducible rfl
    try simp only [Act.put, List.setIfInBounds_toArray, List.set_cons_zero, List.set_cons_succ]
    refine wpAnyH_take (i := 21) (oi := { dst := some 119, op := Go.Op.move (Go.Operand.tmp 2), type := 3, pos := "law.go:92", after := #[{ on := 20, ground := Go.Ground.guard }], guard := some (20, true) }) (v := ?v21_182104) rfl (by kernel_rfl) (by kernel_rfl) (by kernel_rfl) (fun _ _ _ h => h) (Or.inl ⟨by rfl, ?y21_182104⟩) hHeld ?r21_182104
    case y21_182104 => intro w hSw; (try dsimp only at hSw); go_simp; try with_reducible rfl
    try simp only [Act.put, List.setIfInBounds_toArray, List.set_cons_zero, List.set_cons_succ]
    refine wpAnyH_take (i := 22) (oi := { dst := some 120, op := Go.Op.move (Go.Operand.tmp 4), type := 24, pos := "law.go:92", after := #[{ on := 20, ground := Go.Ground.guard }], guard := some (20, true) }) (v := ?v22_182104) rfl (by kernel_rfl) (by kernel_rfl) (by kernel_rfl) (fun _ _ _ h => h) (Or.inl ⟨by rfl, ?y22_182104⟩) hHeld ?r22_182104
    case y22_182104 => intro w hSw; (try dsimp only at hSw); go_simp; try with_reducible rfl
    try simp only [Act.put, List.setIfInBounds_toArray, List.set_cons_zero, List.set_cons_succ]
    refine wpAnyH_take (i := 25) (oi := { dst := some 123, op := Go.Op.move (Go.Operand.tmp 2), type := 3, pos := "law.go:92", after := #[{ on := 20, ground := Go.Ground.guard }], guard := some (20, true) }) (v := ?v25_182104) rfl (by kernel_rfl) (by kernel_rfl) (by kernel_rfl) (fun _ _ _ h => h) (Or.inl ⟨by rfl, ?y25_182104⟩) hHeld ?r25_182104
    case y25_182104 => intro w hSw; (try dsimp only at hSw); go_simp; try with_reducible rfl
    try simp only [Act.put, List.setIfInBounds_toArray, List.set_cons_zero, List.set_cons_succ]
    refine wpAnyH_take (i := 26) (oi := { dst := some 124, op := Go.Op.move (Go.Operand.tmp 4), type := 24, pos := "law.go:92", after := #[{ on := 20, ground := Go.Ground.guard }], guard := some (20, true) }) (v := ?v26_182104) rfl (by kernel_rfl) (by kernel_rfl) (by kernel_rfl) (fun _ _ _ h => h) (Or.inl ⟨by rfl, ?y26_182104⟩) hHeld ?r26_182104
    case y26_182104 => intro w hSw; (try dsimp only at hSw); go_simp; try with_reducible rfl
    try simp only [Act.put, List.setIfInBounds_toArray, List.set_cons_zero, List.set_cons_succ]
    refine wpAnyH_ready (rs := [23]) (by kernel_rfl) (by simp) ?_
    refine AllReadyH.cons (o := { dst := some 121, op := Go.Op.call { callee := Go.Callee.value (Go.Operand.func 37), args := #[Go.Operand.tmp 119, Go.Operand.tmp 120], argTypes := #[3, 24] }, type := 27, pos := "law.go:92", after := #[{ on := 21, ground := Go.Ground.data }, { on := 22, ground := Go.Ground.data }, { on := 20, ground := Go.Ground.chain }, { on := 20, ground := Go.Ground.guard }], guard := some (20, true) }) rfl (fun K hK => ?_) AllReadyH.nil
    go_simp
    refine (askM_any _ qr qn qk QL _ (HQ.out.below (HBL.out.trans (hHeld.mono HBL.out.size))) HQN.out HQN2.out).mono ?_; rintro e wt23 ⟨v23, rfl, ho, hb⟩
    have HV23 := Lib.hid ho.at
    clear ho
    go_wp2_with fail
    refine hK.out _ _ (hHeld.trans (hb.mono hHeld.size)) (fun hHeld2 => ?_)
    clear hK K hHeld
    have hHeld := hHeld2
    clear hHeld2
    try simp only [Act.put, List.setIfInBounds_toArray, List.set_cons_zero, List.set_cons_succ]
    refine wpAnyH_ready (rs := [24]) (by kernel_rfl) (by simp) ?_
    refine AllReadyH.cons (o := { dst := some 122, op := Go.Op.call { callee := Go.Callee.value (Go.Operand.func 15), args := #[Go.Operand.tmp 121], argTypes := #[27] }, type := 32, pos := "law.go:92", after := #[{ on := 23, ground := Go.Ground.data }, { on := 23, ground := Go.Ground.chain }, { on := 20, ground := Go.Ground.guard }], guard := some (20, true) }) rfl (fun K hK => ?_) AllReadyH.nil
    go_simp
    refine (plainM_any _ _ _ HV23.out).mono ?_; rintro e wt24 ⟨rfl, hb⟩
    replace HV23 := Lib.hid (HV23.out.below hb)
    go_wp2_with fail
    refine hK.out _ _ (hHeld.trans (hb.mono hHeld.size)) (fun hHeld2 => ?_)
    clear hK K hHeld
    have hHeld := hHeld2
    clear hHeld2
    try simp only [Act.put, List.setIfInBounds_toArray, List.set_cons_zero, List.set_cons_succ]
    refine wpAnyH_ready (rs := [27]) (by kernel_rfl) (by simp) ?_
    refine AllReadyH.cons (o := { dst := some 125, op := Go.Op.call { callee := Go.Callee.value (Go.Operand.func 38), args := #[Go.Operand.tmp 123, Go.Operand.tmp 124], argTypes := #[3, 24] }, type := 32, pos := "law.go:92", after := #[{ on := 25, ground := Go.Ground.data }, { on := 26, ground := Go.Ground.data }, { on := 24, ground := Go.Ground.chain }, { on := 20, ground := Go.Ground.guard }], guard := some (20, true) }) rfl (fun K hK => ?_) AllReadyH.nil
    go_simp
    refine (askD_any _ qr qn qk QL _ (HQ.out.below (HBL.out.trans (hHeld.mono HBL.out.size))) HQN.out HQN2.out).mono ?_; rintro e wt27 ⟨v27, rfl, ho, hb⟩
    replace HV23 := Lib.hid (HV23.out.below hb)
    have HV27 := Lib.hid ho
    clear ho
    go_wp2_with fail
    refine hK.out _ _ (hHeld.trans (hb.mono hHeld.size)) (fun hHeld2 => ?_)
    clear hK K hHeld
    have hHeld := hHeld2
    clear hHeld2
    try simp only [Act.put, List.setIfInBounds_toArray, List.set_cons_zero, List.set_cons_succ]
    refine wpAnyH_ready (rs := [28]) (by kernel_rfl) (by simp) ?_
    refine AllReadyH.cons (o := { dst := some 126, op := Go.Op.call { callee := Go.Callee.value (Go.Operand.func 30), args := #[Go.Operand.tmp 122, Go.Operand.tmp 125], argTypes := #[32, 32] }, type := 4, pos := "law.go:92", after := #[{ on := 24, ground := Go.Ground.data }, { on := 27, ground := Go.Ground.data }, { on := 27, ground := Go.Ground.chain }, { on := 20, ground := Go.Ground.guard }], guard := some (20, true) }) rfl (fun K hK => ?_) AllReadyH.nil
    go_simp
    refine (sameMD_any _ _ _ _ _ HV23.out HV27.out HSK.out HSK.out).mono ?_; rintro e wt28 ⟨rfl, hb⟩
    rw [(sameB_iff _ _).2 rfl]
    go_wp2_with fail
    refine hK.out _ _ (hHeld.trans (hb.mono hHeld.size)) (fun hHeld2 => ?_)
    clear hK K hHeld
    have hHeld := hHeld2
    clear hHeld2
    try simp only [Act.put, List.setIfInBounds_toArray, List.set_cons_zero, List.set_cons_succ]
    refine wpAnyH_take (i := 29) (oi := { dst := some 127, op := Go.Op.pick (Go.Operand.tmp 118) (Go.Operand.tmp 126) (Go.Operand.const (Go.Value.bool false)), type := 4, pos := "law.go:92", after := #[{ on := 20, ground := Go.Ground.data }, { on := 28, ground := Go.Ground.data }], guard := none }) (v := ?v29_182108) rfl (by kernel_rfl) (by kernel_rfl) (by kernel_rfl) (fun _ _ _ h => h) (Or.inl ⟨by rfl, ?y29_182108⟩) hHeld ?r29_182108
    case y29_182108 => intro w hSw; (try dsimp only at hSw); go_simp; try with_reducible rfl
    try simp only [Act.put, List.setIfInBounds_toArray, List.set_cons_zero, List.set_cons_succ]
    refine wpAnyH_take (i := 30) (oi := { dst := some 10, op := Go.Op.assign (Go.Operand.tmp 127), type := 4, pos := "law.go:92", after := #[{ on := 29, ground := Go.Ground.data }, { on := 28, ground := Go.Ground.chain }, { on := 0, ground := Go.Ground.phase }, { on := 1, ground := Go.Ground.phase }, { on := 2, ground := Go.Ground.phase }, { on := 3, ground := Go.Ground.phase }, { on := 4, ground := Go.Ground.phase }, { on := 5, ground := Go.Ground.phase }, { on := 6, ground := Go.Ground.phase }, { on := 7, ground := Go.Ground.phase }, { on := 8, ground := Go.Ground.phase }, { on := 9, ground := Go.Ground.phase }, { on := 10, ground := Go.Ground.phase }, { on := 11, ground := Go.Ground.phase }, { on := 12, ground := Go.Ground.phase }, { on := 13, ground := Go.Ground.phase }, { on := 14, ground := Go.Ground.phase }, { on := 15, ground := Go.Ground.phase }, { on := 16, ground := Go.Ground.phase }, { on := 17, ground := Go.Ground.phase }, { on := 18, ground := Go.Ground.phase }, { on := 19, ground := Go.Ground.phase }, { on := 20, ground := Go.Ground.phase }, { on := 21, ground := Go.Ground.phase }, { on := 22, ground := Go.Ground.phase }, { on := 23, ground := Go.Ground.phase }, { on := 24, ground := Go.Ground.phase }, { on := 25, ground := Go.Ground.phase }, { on := 26, ground := Go.Ground.phase }, { on := 27, ground := Go.Ground.phase }, { on := 28, ground := Go.Ground.phase }, { on := 29, ground := Go.Ground.phase }], guard := none }) (v := ?v30_182108) rfl (by kernel_rfl) (by kernel_rfl) (by kernel_rfl) (fun _ _ _ h => h) (Or.inl ⟨by rfl, ?y30_182108⟩) hHeld ?r30_182108
    case y30_182108 => intro w hSw; (try dsimp only at hSw); go_simp; try with_reducible rfl
    try simp only [Act.put, List.setIfInBounds_toArray, List.set_cons_zero, List.set_cons_succ]
    refine wpAnyH_done (by kernel_rfl) ?_ _
    go_wp2
    go_ret
    exact ⟨rfl, HB.out.trans ((HBL.out.trans (hHeld.mono HBL.out.size)).mono HB.out.size)⟩
  by_cases hs3 : sec = 3
  · subst hs3
    go_wp2_with fail
    refine (add3 q13 _ _ _ _ _ _ _ _ _ _ _ xa3 la xl xc3 ln lc ma.x L _ HC.out (rowR_own2 HX3.out).1 (rowR_own2 HX3.out).2 (HL.out.below HBL.out) HLN.out (by have := HN4.out; omega)).mono ?_; rintro e w9 ⟨v9, rfl, hc9, ho9, hg9⟩
    obtain ⟨a9, c9, rfl, -⟩ := rowR_own ho9
    have hs9 : w8.heap.size ≤ w9.heap.size := hg9.size
    replace HBL := Lib.hid (HBL.out.grown hg9 HBL.out.size (fun k hk => by injection hk with hk; have := HQ13.out; have := HS10.out; omega))
    have HQ8 := Lib.hid HC.out.1
    have hne : (some q13 : Option Nat) ≠ some q11 := fun e => HNE.out (by injection e with e; exact e.symm)
    replace HP := Lib.hid (HP.out.grown hg9 (fun e => hne e.symm))
    replace HTP := Lib.hid (HTP.out.grown hg9 hne)
    replace HA2 := Lib.hid (own_keeps HA2.out HTC.out (by decide) hg9)
    replace HN2 := Lib.hid (own_keeps HN2.out HTC.out (by decide) hg9)
    replace HX2 := Lib.hid (own_keeps HX2.out HTC.out (by decide) hg9)
    replace HA3 := Lib.hid (own_keeps HA3.out HTC.out (by decide) hg9)
    replace HN3 := Lib.hid (own_keeps HN3.out HTC.out (by decide) hg9)
    replace HC := Lib.hid hc9
    have HV9 := Lib.hid ho9
    have HBS := Lib.hid (show wy5.heap.size ≤ w9.heap.size by have := HZ2.out; have := HZ5.out; have := HZ8.out; have := HZ9.out; have := HQ13.out; have := HQ8.out; omega)
    clear hc9 ho9 hg9 hne
    have p0 := (HP.out.2 11 _ rfl).1
    have f0 := (HP.out.2 11 _ rfl).2
    go_wp2_with (at_builtin; refine append_cellsK rfl _ _ 25 75 rfl j0 _ 5 56 Try.underlying25 HJ.out HJ0.out HJ1.out HJ2.out rfl (by decide) wy5.heap.size _ xl _ rfl HX2.out la ln lc (flatR L) rfl HLN.out (HL.out.below HBL.out).2 (flatR_one L) (by have := HN4.out; omega) (by decide) HBS.out ?_)
    intro v10 wa hown hgrow
    obtain ⟨a10, c10, rfl, -⟩ := cellsK_own hown
    have hiv : ∀ k, (Value.slice xa2 xl xc2).ownBlock = some k → w10.heap.size ≤ k ∧ k < wz7.heap.size := fun k hk => by have := HIX.out k hk; have := HS6.out; have := HZ2.out; have := HZ5.out; have := HZ8.out; have := HZ9.out; omega
    have hne := own_ne HX2.out HTP.out (by decide)
    replace HP := Lib.hid (HP.out.grown hgrow (fun e => hne e.symm))
    replace HTP := Lib.hid (HTP.out.grown hgrow hne)
    replace HC := Lib.hid (HC.out.grown hgrow (fun e => by have := (hiv _ e.symm).2; have := HQ13.out; omega))
    replace HA2 := Lib.hid (own_apart HA2.out hgrow (fun k hk e => by have := HIA.out k hk; have := HIX.out k e; have := HZ2.out; have := HZ5.out; have := HZ8.out; omega))
    replace HN2 := Lib.hid (own_apart HN2.out hgrow (fun k hk e => by have := HIN.out k hk; have := HIX.out k e; have := HZ2.out; have := HZ5.out; have := HZ8.out; omega))
    replace HV9 := Lib.hid (own_apart HV9.out hgrow (fun k hk e => by have := (HV9.out.lt k hk).1; have := (hiv k e).2; have := HQ13.out; have := HQ8.out; omega))
    replace HA3 := Lib.hid (own_apart HA3.out hgrow (fun k hk e => by have := (HA3.out.lt k hk).1; have := (hiv k e).2; have := HQ13.out; have := HQ8.out; omega))
    replace HN3 := Lib.hid (own_apart HN3.out hgrow (fun k hk e => by have := (HN3.out.lt k hk).1; have := (hiv k e).2; have := HQ13.out; have := HQ8.out; omega))
    replace HBL := Lib.hid (HBL.out.grown hgrow HBL.out.size (fun k hk => (hiv k hk).1))
    have HOW := Lib.hid (show wa.ownsRow wy5.heap.size 75 5 (.slice a10 (xl + ln) c10) (xl + ln) (flatR (ma.x ++ L)) by rw [flatR_app]; exact hown)
    clear hown hgrow hiv hne p0 f0
    have p0 := (HP.out.2 11 _ rfl).1
    have f0 := (HP.out.2 11 _ rfl).2
    have hpz := HP.out.set 11 (by simp) (.slice a10 (xl + ln) c10)
    have hcz := HC.out.far ⟨q11, 11, none⟩ HNE.out (.slice a10 (xl + ln) c10)
    have hgc := grown_cell wa q11 11 (.slice a10 (xl + ln) c10)
    have ha2_ := own_keeps HA2.out HTP.out (by decide) hgc
    have hn2_ := own_keeps HN2.out HTP.out (by decide) hgc
    have ha3_ := own_keeps HA3.out HTP.out (by decide) hgc
    have hn3_ := own_keeps HN3.out HTP.out (by decide) hgc
    have hv9_ := own_keeps HV9.out HTP.out (by decide) hgc
    have how_ := own_keeps HOW.out HTP.out (by decide) hgc
    have hblz := HBL.out.setCell (p := ⟨q11, 11, none⟩) HQ11.out (.slice a10 (xl + ln) c10)
    go_upto_region 17 with (fail)
    obtain ⟨wE, hwE⟩ : ∃ x, wa.setCell ⟨q11, 11, none⟩ (.slice a10 (xl + ln) c10) = x := ⟨_, rfl⟩
    rw [hwE] at hpz hcz hblz ha2_ hn2_ ha3_ hn3_ hv9_ how_ ⊢
    have HMP := Lib.hid (show MsgAt wE (.agg #[.int .i64 mi, .int .i64 mo, .int .i64 mr, .bool b1, .bool b2, .bool b3, .bool b4, .bool b5, .slice qa ql qc, .slice na2 nl nc2, .slice sa2 sl sc2, .slice a10 (xl + ln) c10]) (⟨mi, mo, mr, b1, b2, b3, b4, b5, ma.q, ma.a, ma.n, ma.x ++ L⟩ : MsgP) from msgAt_mk (HRQ.out.below hblz) HNQ.out (rowR_own2 ha2_).1 (rowR_own2 ha2_).2 (rowR_own2 hn2_).1 (rowR_own2 hn2_).2 (rowR_own2 how_).1 (rowR_own2 how_).2)
    have HMC := Lib.hid (show MsgAt wE (.agg #[.int .i64 mi, .int .i64 mo, .int .i64 mr, .bool b1, .bool b2, .bool b3, .bool b4, .bool b5, .slice qa ql qc, .slice na3 nl nc3, .slice sa3 sl sc3, .slice a9 (xl + ln) c9]) (⟨mi, mo, mr, b1, b2, b3, b4, b5, ma.q, ma.a, ma.n, ma.x ++ L⟩ : MsgP) from msgAt_mk (HRQ.out.below hblz) HNQ.out (rowR_own2 ha3_).1 (rowR_own2 ha3_).2 (rowR_own2 hn3_).1 (rowR_own2 hn3_).2 (rowR_own2 hv9_).1 (rowR_own2 hv9_).2)
    replace HP := Lib.hid (show CN wE q11 [.int .i64 mi, .int .i64 mo, .int .i64 mr, .bool b1, .bool b2, .bool b3, .bool b4, .bool b5, .slice qa ql qc, .slice na2 nl nc2, .slice sa2 sl sc2, .slice a10 (xl + ln) c10] from hpz)
    replace HC := Lib.hid (show CN wE q13 [.int .i64 mi, .int .i64 mo, .int .i64 mr, .bool b1, .bool b2, .bool b3, .bool b4, .bool b5, .slice qa ql qc, .slice na3 nl nc3, .slice sa3 sl sc3, .slice a9 (xl + ln) c9] from hcz)
    replace HBL := Lib.hid hblz
    have HSC := Lib.hid (show SmM (⟨mi, mo, mr, b1, b2, b3, b4, b5, ma.q, ma.a, ma.n, ma.x ++ L⟩ : MsgP) from ⟨by show ma.q.length ≤ 100000; have := HSMA.out.1; exact this, by show (ma.a).length ≤ 100000; rw [HEA.out]; have := HN4.out; omega, by show (ma.n).length ≤ 100000; rw [HEN.out]; have := HN4.out; omega, by show (ma.x ++ L).length ≤ 100000; rw [List.length_append, HEX.out, HLL.out]; have := HN4.out; omega⟩)
    have HSK := Lib.hid (show SmM (askM 3 QL) from ⟨by show QL.length ≤ 100000; rw [HQLL.out]; exact HQN2.out, Nat.zero_le _, Nat.zero_le _, Nat.zero_le _⟩)
    clear hpz hcz hgc hblz p0 f0 hwE ha2_ hn2_ ha3_ hn3_ hv9_ how_ HV9 HOW HA2 HN2 HX2 HA3 HN3 HX3
    refine wp_region_held_drew (S := (fun wx => Below wE.heap.size wE wx)) (by kernel_rfl) ((Below.refl wE.heap.size wE).drew) (fun hHeld => ?_)
    refine wpAnyH_ready (rs := [0]) (by kernel_rfl) (by simp) ?_
    refine AllReadyH.cons (o := { dst := some 98, op := Go.Op.call { callee := Go.Callee.value (Go.Operand.func 13), args := #[], argTypes := #[] }, type := 4, pos := "law.go:92", after := #[], guard := none }) rfl (fun K hK => ?_) AllReadyH.nil
    go_simp
    refine (first5 _).mono ?_; rintro e wt0 ⟨rfl, hb⟩
    go_wp2_with fail
    refine hK.out _ _ (hHeld.trans (hb.mono hHeld.size)) (fun hHeld2 => ?_)
    clear hK K hHeld
    have hHeld := hHeld2
    clear hHeld2
    try simp only [Act.put, List.setIfInBounds_toArray, List.set_cons_zero, List.set_cons_succ]
    refine wpAnyH_take (i := 1) (oi := { dst := some 99, op := Go.Op.move (Go.Operand.tmp 98), type := 4, pos := "law.go:92", after := #[{ on := 0, ground := Go.Ground.data }, { on := 0, ground := Go.Ground.chain }], guard := none }) (v := ?v1_183102) rfl (by kernel_rfl) (by kernel_rfl) (by kernel_rfl) (fun _ _ _ h => h) (Or.inl ⟨by rfl, ?y1_183102⟩) hHeld ?r1_183102
    case y1_183102 => intro w hSw; (try dsimp only at hSw); go_simp; try with_reducible rfl
    try simp only [Act.put, List.setIfInBounds_toArray, List.set_cons_zero, List.set_cons_succ]
    refine wpAnyH_take (i := 2) (oi := { dst := some 100, op := Go.Op.move (Go.Operand.tmp 12), type := 4, pos := "law.go:92", after := #[{ on := 1, ground := Go.Ground.guard }], guard := some (1, true) }) (v := ?v2_183102) rfl (by kernel_rfl) (by kernel_rfl) (by kernel_rfl) (fun _ _ _ h => h) (Or.inl ⟨by rfl, ?y2_183102⟩) hHeld ?r2_183102
    case y2_183102 => intro w hSw; (try dsimp only at hSw); go_simp; try with_reducible rfl
    try simp only [Act.put, List.setIfInBounds_toArray, List.set_cons_zero, List.set_cons_succ]
    refine wpAnyH_take (i := 3) (oi := { dst := some 101, op := Go.Op.pick (Go.Operand.tmp 99) (Go.Operand.tmp 100) (Go.Operand.const (Go.Value.bool false)), type := 4, pos := "law.go:92", after := #[{ on := 1, ground := Go.Ground.data }, { on := 2, ground := Go.Ground.data }], guard := none }) (v := ?v3_183102) rfl (by kernel_rfl) (by kernel_rfl) (by kernel_rfl) (fun _ _ _ h => h) (Or.inl ⟨by rfl, ?y3_183102⟩) hHeld ?r3_183102
    case y3_183102 => intro w hSw; (try dsimp only at hSw); go_simp; try with_reducible rfl
    try simp only [Act.put, List.setIfInBounds_toArray, List.set_cons_zero, List.set_cons_succ]
    refine wpAnyH_take (i := 4) (oi := { dst := some 102, op := Go.Op.move (Go.Operand.tmp 101), type := 4, pos := "law.go:92", after := #[{ on := 3, ground := Go.Ground.data }, { on := 1, ground := Go.Ground.chain }], guard := none }) (v := ?v4_183102) rfl (by kernel_rfl) (by kernel_rfl) (by kernel_rfl) (fun _ _ _ h => h) (Or.inl ⟨by rfl, ?y4_183102⟩) hHeld ?r4_183102
    case y4_183102 => intro w hSw; (try dsimp only at hSw); go_simp; try with_reducible rfl
    try simp only [Act.put, List.setIfInBounds_toArray, List.set_cons_zero, List.set_cons_succ]
    refine wpAnyH_take (i := 5) (oi := { dst := some 103, op := Go.Op.move (Go.Operand.tmp 14), type := 4, pos := "law.go:92", after := #[{ on := 4, ground := Go.Ground.guard }], guard := some (4, true) }) (v := ?v5_183102) rfl (by kernel_rfl) (by kernel_rfl) (by kernel_rfl) (fun _ _ _ h => h) (Or.inl ⟨by rfl, ?y5_183102⟩) hHeld ?r5_183102
    case y5_183102 => intro w hSw; (try dsimp only at hSw); go_simp; try with_reducible rfl
    try simp only [Act.put, List.setIfInBounds_toArray, List.set_cons_zero, List.set_cons_succ]
    refine wpAnyH_take (i := 6) (oi := { dst := some 104, op := Go.Op.move (Go.Operand.tmp 2), type := 3, pos := "law.go:92", after := #[{ on := 4, ground := Go.Ground.guard }], guard := some (4, true) }) (v := ?v6_183102) rfl (by kernel_rfl) (by kernel_rfl) (by kernel_rfl) (fun _ _ _ h => h) (Or.inl ⟨by rfl, ?y6_183102⟩) hHeld ?r6_183102
    case y6_183102 => intro w hSw; (try dsimp only at hSw); go_simp; try with_reducible rfl
    try simp only [Act.put, List.setIfInBounds_toArray, List.set_cons_zero, List.set_cons_succ]
    refine wpAnyH_take (i := 7) (oi := { dst := some 105, op := Go.Op.binOp Go.BinOp.geq 3 (Go.Operand.tmp 104) (Go.Operand.const (Go.Value.int Go.IntKind.i64 1)) 3, type := 4, pos := "law.go:92", after := #[{ on := 6, ground := Go.Ground.data }, { on := 4, ground := Go.Ground.guard }], guard := some (4, true) }) (v := ?v7_183102) rfl (by kernel_rfl) (by kernel_rfl) (by kernel_rfl) (fun _ _ _ h => h) (Or.inl ⟨by rfl, ?y7_183102⟩) hHeld ?r7_183102
    case y7_183102 => intro w hSw; (try dsimp only at hSw); go_simp; try with_reducible rfl
    try simp only [Act.put, List.setIfInBounds_toArray, List.set_cons_zero, List.set_cons_succ]
    refine wpAnyH_take (i := 8) (oi := { dst := some 106, op := Go.Op.move (Go.Operand.tmp 105), type := 4, pos := "law.go:92", after := #[{ on := 7, ground := Go.Ground.data }, { on := 4, ground := Go.Ground.chain }, { on := 4, ground := Go.Ground.guard }], guard := some (4, true) }) (v := ?v8_183102) rfl (by kernel_rfl) (by kernel_rfl) (by kernel_rfl) (fun _ _ _ h => h) (Or.inl ⟨by rfl, ?y8_183102⟩) hHeld ?r8_183102
    case y8_183102 => intro w hSw; (try dsimp only at hSw); go_simp; try with_reducible rfl
    try simp only [Act.put, List.setIfInBounds_toArray, List.set_cons_zero, List.set_cons_succ]
    refine wpAnyH_take (i := 9) (oi := { dst := some 107, op := Go.Op.move (Go.Operand.tmp 2), type := 3, pos := "law.go:92", after := #[{ on := 8, ground := Go.Ground.guard }], guard := some (8, true) }) (v := ?v9_183102) rfl (by kernel_rfl) (by kernel_rfl) (by kernel_rfl) (fun _ _ _ h => h) (Or.inl ⟨by rfl, ?y9_183102⟩) hHeld ?r9_183102
    case y9_183102 => intro w hSw; (try dsimp only at hSw); go_simp; try with_reducible rfl
    try simp only [Act.put, List.setIfInBounds_toArray, List.set_cons_zero, List.set_cons_succ]
    refine wpAnyH_take (i := 10) (oi := { dst := some 108, op := Go.Op.binOp Go.BinOp.leq 3 (Go.Operand.tmp 107) (Go.Operand.const (Go.Value.int Go.IntKind.i64 3)) 3, type := 4, pos := "law.go:92", after := #[{ on := 9, ground := Go.Ground.data }, { on := 8, ground := Go.Ground.guard }], guard := some (8, true) }) (v := ?v10_183102) rfl (by kernel_rfl) (by kernel_rfl) (by kernel_rfl) (fun _ _ _ h => h) (Or.inl ⟨by rfl, ?y10_183102⟩) hHeld ?r10_183102
    case y10_183102 => intro w hSw; (try dsimp only at hSw); go_simp; try with_reducible rfl
    try simp only [Act.put, List.setIfInBounds_toArray, List.set_cons_zero, List.set_cons_succ]
    refine wpAnyH_take (i := 11) (oi := { dst := some 109, op := Go.Op.pick (Go.Operand.tmp 106) (Go.Operand.tmp 108) (Go.Operand.const (Go.Value.bool false)), type := 4, pos := "law.go:92", after := #[{ on := 8, ground := Go.Ground.data }, { on := 10, ground := Go.Ground.data }, { on := 4, ground := Go.Ground.guard }], guard := some (4, true) }) (v := ?v11_183102) rfl (by kernel_rfl) (by kernel_rfl) (by kernel_rfl) (fun _ _ _ h => h) (Or.inl ⟨by rfl, ?y11_183102⟩) hHeld ?r11_183102
    case y11_183102 => intro w hSw; (try dsimp only at hSw); go_simp; try with_reducible rfl
    try simp only [Act.put, List.setIfInBounds_toArray, List.set_cons_zero, List.set_cons_succ]
    refine wpAnyH_take (i := 12) (oi := { dst := some 110, op := Go.Op.binOp Go.BinOp.eql 4 (Go.Operand.tmp 103) (Go.Operand.tmp 109) 4, type := 4, pos := "law.go:92", after := #[{ on := 5, ground := Go.Ground.data }, { on := 11, ground := Go.Ground.data }, { on := 4, ground := Go.Ground.guard }], guard := some (4, true) }) (v := ?v12_183102) rfl (by kernel_rfl) (by kernel_rfl) (by kernel_rfl) (fun _ _ _ h => h) (Or.inl ⟨by rfl, ?y12_183102⟩) hHeld ?r12_183102
    case y12_183102 => intro w hSw; (try dsimp only at hSw); go_simp; try with_reducible rfl
    try simp only [Act.put, List.setIfInBounds_toArray, List.set_cons_zero, List.set_cons_succ]
    refine wpAnyH_take (i := 13) (oi := { dst := some 111, op := Go.Op.pick (Go.Operand.tmp 102) (Go.Operand.tmp 110) (Go.Operand.const (Go.Value.bool false)), type := 4, pos := "law.go:92", after := #[{ on := 4, ground := Go.Ground.data }, { on := 12, ground := Go.Ground.data }], guard := none }) (v := ?v13_183102) rfl (by kernel_rfl) (by kernel_rfl) (by kernel_rfl) (fun _ _ _ h => h) (Or.inl ⟨by rfl, ?y13_183102⟩) hHeld ?r13_183102
    case y13_183102 => intro w hSw; (try dsimp only at hSw); go_simp; try with_reducible rfl
    try simp only [Act.put, List.setIfInBounds_toArray, List.set_cons_zero, List.set_cons_succ]
    refine wpAnyH_take (i := 14) (oi := { dst := some 112, op := Go.Op.move (Go.Operand.tmp 111), type := 4, pos := "law.go:92", after := #[{ on := 13, ground := Go.Ground.data }, { on := 8, ground := Go.Ground.chain }], guard := none }) (v := ?v14_183102) rfl (by kernel_rfl) (by kernel_rfl) (by kernel_rfl) (fun _ _ _ h => h) (Or.inl ⟨by rfl, ?y14_183102⟩) hHeld ?r14_183102
    case y14_183102 => intro w hSw; (try dsimp only at hSw); go_simp; try with_reducible rfl
    try simp only [Act.put, List.setIfInBounds_toArray, List.set_cons_zero, List.set_cons_succ]
    refine wpAnyH_take (i := 15) (oi := { dst := some 113, op := Go.Op.load 27 (Go.Operand.tmp 13), type := 27, pos := "law.go:92", after := #[{ on := 14, ground := Go.Ground.guard }], guard := some (14, true) }) (v := ?v15_183102) rfl (by kernel_rfl) (by kernel_rfl) (by kernel_rfl) (fun _ _ _ h => h) (Or.inl ⟨by rfl, ?y15_183102⟩) hHeld ?r15_183102
    case y15_183102 => intro w hSw; (try dsimp only at hSw); obtain ⟨y0, y1, y2, y3, y4, y5, y6, y7, y8, y9, y10, y11, _⟩ := (HC.out.below hSw).u12; go_simp; try with_reducible rfl
    try simp only [Act.put, List.setIfInBounds_toArray, List.set_cons_zero, List.set_cons_succ]
    refine wpAnyH_take (i := 17) (oi := { dst := some 115, op := Go.Op.load 32 (Go.Operand.tmp 11), type := 32, pos := "law.go:92", after := #[{ on := 14, ground := Go.Ground.guard }], guard := some (14, true) }) (v := ?v17_183102) rfl (by kernel_rfl) (by kernel_rfl) (by kernel_rfl) (fun _ _ _ h => h) (Or.inl ⟨by rfl, ?y17_183102⟩) hHeld ?r17_183102
    case y17_183102 => intro w hSw; (try dsimp only at hSw); obtain ⟨y0, y1, y2, y3, y4, y5, y6, y7, y8, y9, y10, y11, _⟩ := (HP.out.below hSw).u12; go_simp; try with_reducible rfl
    try simp only [Act.put, List.setIfInBounds_toArray, List.set_cons_zero, List.set_cons_succ]
    refine wpAnyH_ready (rs := [16]) (by kernel_rfl) (by simp) ?_
    refine AllReadyH.cons (o := { dst := some 114, op := Go.Op.call { callee := Go.Callee.value (Go.Operand.func 15), args := #[Go.Operand.tmp 113], argTypes := #[27] }, type := 32, pos := "law.go:92", after := #[{ on := 15, ground := Go.Ground.data }, { on := 14, ground := Go.Ground.chain }, { on := 14, ground := Go.Ground.guard }], guard := some (14, true) }) rfl (fun K hK => ?_) AllReadyH.nil
    go_simp
    refine (plain_ex _ _ _ _ _ _ _ _ _ _ _ _ _ _ _ _ _ _ _ _ _).mono ?_; rintro e wt16 ⟨rfl, hb⟩
    go_wp2_with fail
    refine hK.out _ _ (hHeld.trans (hb.mono hHeld.size)) (fun hHeld2 => ?_)
    clear hK K hHeld
    have hHeld := hHeld2
    clear hHeld2
    try simp only [Act.put, List.setIfInBounds_toArray, List.set_cons_zero, List.set_cons_succ]
    refine wpAnyH_ready (rs := [18]) (by kernel_rfl) (by simp) ?_
    refine AllReadyH.cons (o := { dst := some 116, op := Go.Op.call { callee := Go.Callee.value (Go.Operand.func 30), args := #[Go.Operand.tmp 114, Go.Operand.tmp 115], argTypes := #[32, 32] }, type := 4, pos := "law.go:92", after := #[{ on := 16, ground := Go.Ground.data }, { on := 17, ground := Go.Ground.data }, { on := 16, ground := Go.Ground.chain }, { on := 14, ground := Go.Ground.guard }], guard := some (14, true) }) rfl (fun K hK => ?_) AllReadyH.nil
    go_simp
    refine (sameMD_any _ _ (⟨mi, mo, mr, b1, b2, b3, b4, b5, ma.q, ma.a, ma.n, ma.x ++ L⟩ : MsgP) (⟨mi, mo, mr, b1, b2, b3, b4, b5, ma.q, ma.a, ma.n, ma.x ++ L⟩ : MsgP) _ (HMC.out.below hHeld) (HMP.out.below hHeld) HSC.out HSC.out).mono ?_; rintro e wt18 ⟨rfl, hb⟩
    rw [(sameB_iff _ _).2 rfl]
    go_wp2_with fail
    refine hK.out _ _ (hHeld.trans (hb.mono hHeld.size)) (fun hHeld2 => ?_)
    clear hK K hHeld
    have hHeld := hHeld2
    clear hHeld2
    try simp only [Act.put, List.setIfInBounds_toArray, List.set_cons_zero, List.set_cons_succ]
    refine wpAnyH_take (i := 19) (oi := { dst := some 117, op := Go.Op.pick (Go.Operand.tmp 112) (Go.Operand.tmp 116) (Go.Operand.const (Go.Value.bool false)), type := 4, pos := "law.go:92", after := #[{ on := 14, ground := Go.Ground.data }, { on := 18, ground := Go.Ground.data }], guard := none }) (v := ?v19_183104) rfl (by kernel_rfl) (by kernel_rfl) (by kernel_rfl) (fun _ _ _ h => h) (Or.inl ⟨by rfl, ?y19_183104⟩) hHeld ?r19_183104
    case y19_183104 => intro w hSw; (try dsimp only at hSw); go_simp; try with_reducible rfl
    try simp only [Act.put, List.setIfInBounds_toArray, List.set_cons_zero, List.set_cons_succ]
    refine wpAnyH_take (i := 20) (oi := { dst := some 118, op := Go.Op.move (Go.Operand.tmp 117), type := 4, pos := "law.go:92", after := #[{ on := 19, ground := Go.Ground.data }, { on := 18, ground := Go.Ground.chain }], guard := none }) (v := ?v20_183104) rfl (by kernel_rfl) (by kernel_rfl) (by kernel_rfl) (fun _ _ _ h => h) (Or.inl ⟨by rfl, ?y20_183104⟩) hHeld ?r20_183104
    case y20_183104 => intro w hSw; (try dsimp only at hSw); go_simp; try with_reducible rfl
    try simp only [Act.put, List.setIfInBounds_toArray, List.set_cons_zero, List.set_cons_succ]
    refine wpAnyH_take (i := 21) (oi := { dst := some 119, op := Go.Op.move (Go.Operand.tmp 2), type := 3, pos := "law.go:92", after := #[{ on := 20, ground := Go.Ground.guard }], guard := some (20, true) }) (v := ?v21_183104) rfl (by kernel_rfl) (by kernel_rfl) (by kernel_rfl) (fun _ _ _ h => h) (Or.inl ⟨by rfl, ?y21_183104⟩) hHeld ?r21_183104
    case y21_183104 => intro w hSw; (try dsimp only at hSw); go_simp; try with_reducible rfl
    try simp only [Act.put, List.setIfInBounds_toArray, List.set_cons_zero, List.set_cons_succ]
    refine wpAnyH_take (i := 22) (oi := { dst := some 120, op := Go.Op.move (Go.Operand.tmp 4), type := 24, pos := "law.go:92", after := #[{ on := 20, ground := Go.Ground.guard }], guard := some (20, true) }) (v := ?v22_183104) rfl (by kernel_rfl) (by kernel_rfl) (by kernel_rfl) (fun _ _ _ h => h) (Or.inl ⟨by rfl, ?y22_183104⟩) hHeld ?r22_183104
    case y22_183104 => intro w hSw; (try dsimp only at hSw); go_simp; try with_reducible rfl
    try simp only [Act.put, List.setIfInBounds_toArray, List.set_cons_zero, List.set_cons_succ]
    refine wpAnyH_take (i := 25) (oi := { dst := some 123, op := Go.Op.move (Go.Operand.tmp 2), type := 3, pos := "law.go:92", after := #[{ on := 20, ground := Go.Ground.guard }], guard := some (20, true) }) (v := ?v25_183104) rfl (by kernel_rfl) (by kernel_rfl) (by kernel_rfl) (fun _ _ _ h => h) (Or.inl ⟨by rfl, ?y25_183104⟩) hHeld ?r25_183104
    case y25_183104 => intro w hSw; (try dsimp only at hSw); go_simp; try with_reducible rfl
    try simp only [Act.put, List.setIfInBounds_toArray, List.set_cons_zero, List.set_cons_succ]
    refine wpAnyH_take (i := 26) (oi := { dst := some 124, op := Go.Op.move (Go.Operand.tmp 4), type := 24, pos := "law.go:92", after := #[{ on := 20, ground := Go.Ground.guard }], guard := some (20, true) }) (v := ?v26_183104) rfl (by kernel_rfl) (by kernel_rfl) (by kernel_rfl) (fun _ _ _ h => h) (Or.inl ⟨by rfl, ?y26_183104⟩) hHeld ?r26_183104
    case y26_183104 => intro w hSw; (try dsimp only at hSw); go_simp; try with_reducible rfl
    try simp only [Act.put, List.setIfInBounds_toArray, List.set_cons_zero, List.set_cons_succ]
    refine wpAnyH_ready (rs := [23]) (by kernel_rfl) (by simp) ?_
    refine AllReadyH.cons (o := { dst := some 121, op := Go.Op.call { callee := Go.Callee.value (Go.Operand.func 37), args := #[Go.Operand.tmp 119, Go.Operand.tmp 120], argTypes := #[3, 24] }, type := 27, pos := "law.go:92", after := #[{ on := 21, ground := Go.Ground.data }, { on := 22, ground := Go.Ground.data }, { on := 20, ground := Go.Ground.chain }, { on := 20, ground := Go.Ground.guard }], guard := some (20, true) }) rfl (fun K hK => ?_) AllReadyH.nil
    go_simp
    refine (askM_any _ qr qn qk QL _ (HQ.out.below (HBL.out.trans (hHeld.mono HBL.out.size))) HQN.out HQN2.out).mono ?_; rintro e wt23 ⟨v23, rfl, ho, hb⟩
    have HV23 := Lib.hid ho.at
    clear ho
    go_wp2_with fail
    refine hK.out _ _ (hHeld.trans (hb.mono hHeld.size)) (fun hHeld2 => ?_)
    clear hK K hHeld
    have hHeld := hHeld2
    clear hHeld2
    try simp only [Act.put, List.setIfInBounds_toArray, List.set_cons_zero, List.set_cons_succ]
    refine wpAnyH_ready (rs := [24]) (by kernel_rfl) (by simp) ?_
    refine AllReadyH.cons (o := { dst := some 122, op := Go.Op.call { callee := Go.Callee.value (Go.Operand.func 15), args := #[Go.Operand.tmp 121], argTypes := #[27] }, type := 32, pos := "law.go:92", after := #[{ on := 23, ground := Go.Ground.data }, { on := 23, ground := Go.Ground.chain }, { on := 20, ground := Go.Ground.guard }], guard := some (20, true) }) rfl (fun K hK => ?_) AllReadyH.nil
    go_simp
    refine (plainM_any _ _ _ HV23.out).mono ?_; rintro e wt24 ⟨rfl, hb⟩
    replace HV23 := Lib.hid (HV23.out.below hb)
    go_wp2_with fail
    refine hK.out _ _ (hHeld.trans (hb.mono hHeld.size)) (fun hHeld2 => ?_)
    clear hK K hHeld
    have hHeld := hHeld2
    clear hHeld2
    try simp only [Act.put, List.setIfInBounds_toArray, List.set_cons_zero, List.set_cons_succ]
    refine wpAnyH_ready (rs := [27]) (by kernel_rfl) (by simp) ?_
    refine AllReadyH.cons (o := { dst := some 125, op := Go.Op.call { callee := Go.Callee.value (Go.Operand.func 38), args := #[Go.Operand.tmp 123, Go.Operand.tmp 124], argTypes := #[3, 24] }, type := 32, pos := "law.go:92", after := #[{ on := 25, ground := Go.Ground.data }, { on := 26, ground := Go.Ground.data }, { on := 24, ground := Go.Ground.chain }, { on := 20, ground := Go.Ground.guard }], guard := some (20, true) }) rfl (fun K hK => ?_) AllReadyH.nil
    go_simp
    refine (askD_any _ qr qn qk QL _ (HQ.out.below (HBL.out.trans (hHeld.mono HBL.out.size))) HQN.out HQN2.out).mono ?_; rintro e wt27 ⟨v27, rfl, ho, hb⟩
    replace HV23 := Lib.hid (HV23.out.below hb)
    have HV27 := Lib.hid ho
    clear ho
    go_wp2_with fail
    refine hK.out _ _ (hHeld.trans (hb.mono hHeld.size)) (fun hHeld2 => ?_)
    clear hK K hHeld
    have hHeld := hHeld2
    clear hHeld2
    try simp only [Act.put, List.setIfInBounds_toArray, List.set_cons_zero, List.set_cons_succ]
    refine wpAnyH_ready (rs := [28]) (by kernel_rfl) (by simp) ?_
    refine AllReadyH.cons (o := { dst := some 126, op := Go.Op.call { callee := Go.Callee.value (Go.Operand.func 30), args := #[Go.Operand.tmp 122, Go.Operand.tmp 125], argTypes := #[32, 32] }, type := 4, pos := "law.go:92", after := #[{ on := 24, ground := Go.Ground.data }, { on := 27, ground := Go.Ground.data }, { on := 27, ground := Go.Ground.chain }, { on := 20, ground := Go.Ground.guard }], guard := some (20, true) }) rfl (fun K hK => ?_) AllReadyH.nil
    go_simp
    refine (sameMD_any _ _ _ _ _ HV23.out HV27.out HSK.out HSK.out).mono ?_; rintro e wt28 ⟨rfl, hb⟩
    rw [(sameB_iff _ _).2 rfl]
    go_wp2_with fail
    refine hK.out _ _ (hHeld.trans (hb.mono hHeld.size)) (fun hHeld2 => ?_)
    clear hK K hHeld
    have hHeld := hHeld2
    clear hHeld2
    try simp only [Act.put, List.setIfInBounds_toArray, List.set_cons_zero, List.set_cons_succ]
    refine wpAnyH_take (i := 29) (oi := { dst := some 127, op := Go.Op.pick (Go.Operand.tmp 118) (Go.Operand.tmp 126) (Go.Operand.const (Go.Value.bool false)), type := 4, pos := "law.go:92", after := #[{ on := 20, ground := Go.Ground.data }, { on := 28, ground := Go.Ground.data }], guard := none }) (v := ?v29_183108) rfl (by kernel_rfl) (by kernel_rfl) (by kernel_rfl) (fun _ _ _ h => h) (Or.inl ⟨by rfl, ?y29_183108⟩) hHeld ?r29_183108
    case y29_183108 => intro w hSw; (try dsimp only at hSw); go_simp; try with_reducible rfl
    try simp only [Act.put, List.setIfInBounds_toArray, List.set_cons_zero, List.set_cons_succ]
    refine wpAnyH_take (i := 30) (oi := { dst := some 10, op := Go.Op.assign (Go.Operand.tmp 127), type := 4, pos := "law.go:92", after := #[{ on := 29, ground := Go.Ground.data }, { on := 28, ground := Go.Ground.chain }, { on := 0, ground := Go.Ground.phase }, { on := 1, ground := Go.Ground.phase }, { on := 2, ground := Go.Ground.phase }, { on := 3, ground := Go.Ground.phase }, { on := 4, ground := Go.Ground.phase }, { on := 5, ground := Go.Ground.phase }, { on := 6, ground := Go.Ground.phase }, { on := 7, ground := Go.Ground.phase }, { on := 8, ground := Go.Ground.phase }, { on := 9, ground := Go.Ground.phase }, { on := 10, ground := Go.Ground.phase }, { on := 11, ground := Go.Ground.phase }, { on := 12, ground := Go.Ground.phase }, { on := 13, ground := Go.Ground.phase }, { on := 14, ground := Go.Ground.phase }, { on := 15, ground := Go.Ground.phase }, { on := 16, ground := Go.Ground.phase }, { on := 17, ground := Go.Ground.phase }, { on := 18, ground := Go.Ground.phase }, { on := 19, ground := Go.Ground.phase }, { on := 20, ground := Go.Ground.phase }, { on := 21, ground := Go.Ground.phase }, { on := 22, ground := Go.Ground.phase }, { on := 23, ground := Go.Ground.phase }, { on := 24, ground := Go.Ground.phase }, { on := 25, ground := Go.Ground.phase }, { on := 26, ground := Go.Ground.phase }, { on := 27, ground := Go.Ground.phase }, { on := 28, ground := Go.Ground.phase }, { on := 29, ground := Go.Ground.phase }], guard := none }) (v := ?v30_183108) rfl (by kernel_rfl) (by kernel_rfl) (by kernel_rfl) (fun _ _ _ h => h) (Or.inl ⟨by rfl, ?y30_183108⟩) hHeld ?r30_183108
    case y30_183108 => intro w hSw; (try dsimp only at hSw); go_simp; try with_reducible rfl
    try simp only [Act.put, List.setIfInBounds_toArray, List.set_cons_zero, List.set_cons_succ]
    refine wpAnyH_done (by kernel_rfl) ?_ _
    go_wp2
    go_ret
    exact ⟨rfl, HB.out.trans ((HBL.out.trans (hHeld.mono HBL.out.size)).mono HB.out.size)⟩
  go_wp2_with fail
  refine (add0 q13 sec la ln lc _ hs1 hs2 hs3).mono ?_; rintro e w9 ⟨rfl, rfl⟩
  have HNO := Lib.hid (show ¬ 1 ≤ sec ∨ 1 ≤ sec ∧ ¬ sec ≤ 3 by omega)
  have s1 := eF hs1
  have s2 := eF hs2
  have s3 := eF hs3
  clear hs1 hs2 hs3
  have HMP := Lib.hid (show MsgAt w8 (.agg #[.int .i64 mi, .int .i64 mo, .int .i64 mr, .bool b1, .bool b2, .bool b3, .bool b4, .bool b5, .slice qa ql qc, .slice na2 nl nc2, .slice sa2 sl sc2, .slice xa2 xl xc2]) (⟨mi, mo, mr, b1, b2, b3, b4, b5, ma.q, ma.a, ma.n, ma.x⟩ : MsgP) from msgAt_mk (HRQ.out.below HBL.out) HNQ.out (rowR_own2 HA2.out).1 (rowR_own2 HA2.out).2 (rowR_own2 HN2.out).1 (rowR_own2 HN2.out).2 (rowR_own2 HX2.out).1 (rowR_own2 HX2.out).2)
  have HMC := Lib.hid (show MsgAt w8 (.agg #[.int .i64 mi, .int .i64 mo, .int .i64 mr, .bool b1, .bool b2, .bool b3, .bool b4, .bool b5, .slice qa ql qc, .slice na3 nl nc3, .slice sa3 sl sc3, .slice xa3 xl xc3]) (⟨mi, mo, mr, b1, b2, b3, b4, b5, ma.q, ma.a, ma.n, ma.x⟩ : MsgP) from msgAt_mk (HRQ.out.below HBL.out) HNQ.out (rowR_own2 HA3.out).1 (rowR_own2 HA3.out).2 (rowR_own2 HN3.out).1 (rowR_own2 HN3.out).2 (rowR_own2 HX3.out).1 (rowR_own2 HX3.out).2)
  have HSC := Lib.hid (show SmM (⟨mi, mo, mr, b1, b2, b3, b4, b5, ma.q, ma.a, ma.n, ma.x⟩ : MsgP) from ⟨HSMA.out.1, HSMA.out.2.1, HSMA.out.2.2.1, HSMA.out.2.2.2⟩)
  have HSK := Lib.hid (show SmM (askM sec QL) from ⟨by show QL.length ≤ 100000; rw [HQLL.out]; exact HQN2.out, Nat.zero_le _, Nat.zero_le _, Nat.zero_le _⟩)
  clear HA2 HN2 HX2 HA3 HN3 HX3
  go_upto_region 17 with (fail)
  rcases HNO.out with hno | ⟨hno1, hno2⟩
  · have d1 := dF (p := (1 : Int) ≤ sec) (by omega)
    clear hno HNO
    refine wp_region_held_drew (S := (fun wx => Below w8.heap.size w8 wx)) (by kernel_rfl) ((Below.refl w8.heap.size w8).drew) (fun hHeld => ?_)
    refine wpAnyH_ready (rs := [0]) (by kernel_rfl) (by simp) ?_
    refine AllReadyH.cons (o := { dst := some 98, op := Go.Op.call { callee := Go.Callee.value (Go.Operand.func 13), args := #[], argTypes := #[] }, type := 4, pos := "law.go:92", after := #[], guard := none }) rfl (fun K hK => ?_) AllReadyH.nil
    go_simp
    refine (first5 _).mono ?_; rintro e wt0 ⟨rfl, hb⟩
    go_wp2_with fail
    refine hK.out _ _ (hHeld.trans (hb.mono hHeld.size)) (fun hHeld2 => ?_)
    clear hK K hHeld
    have hHeld := hHeld2
    clear hHeld2
    try simp only [Act.put, List.setIfInBounds_toArray, List.set_cons_zero, List.set_cons_succ]
    refine wpAnyH_take (i := 1) (oi := { dst := some 99, op := Go.Op.move (Go.Operand.tmp 98), type := 4, pos := "law.go:92", after := #[{ on := 0, ground := Go.Ground.data }, { on := 0, ground := Go.Ground.chain }], guard := none }) (v := ?v1_190102) rfl (by kernel_rfl) (by kernel_rfl) (by kernel_rfl) (fun _ _ _ h => h) (Or.inl ⟨by rfl, ?y1_190102⟩) hHeld ?r1_190102
    case y1_190102 => intro w hSw; (try dsimp only at hSw); go_simp; try with_reducible rfl
    try simp only [Act.put, List.setIfInBounds_toArray, List.set_cons_zero, List.set_cons_succ]
    refine wpAnyH_take (i := 2) (oi := { dst := some 100, op := Go.Op.move (Go.Operand.tmp 12), type := 4, pos := "law.go:92", after := #[{ on := 1, ground := Go.Ground.guard }], guard := some (1, true) }) (v := ?v2_190102) rfl (by kernel_rfl) (by kernel_rfl) (by kernel_rfl) (fun _ _ _ h => h) (Or.inl ⟨by rfl, ?y2_190102⟩) hHeld ?r2_190102
    case y2_190102 => intro w hSw; (try dsimp only at hSw); go_simp; try with_reducible rfl
    try simp only [Act.put, List.setIfInBounds_toArray, List.set_cons_zero, List.set_cons_succ]
    refine wpAnyH_take (i := 3) (oi := { dst := some 101, op := Go.Op.pick (Go.Operand.tmp 99) (Go.Operand.tmp 100) (Go.Operand.const (Go.Value.bool false)), type := 4, pos := "law.go:92", after := #[{ on := 1, ground := Go.Ground.data }, { on := 2, ground := Go.Ground.data }], guard := none }) (v := ?v3_190102) rfl (by kernel_rfl) (by kernel_rfl) (by kernel_rfl) (fun _ _ _ h => h) (Or.inl ⟨by rfl, ?y3_190102⟩) hHeld ?r3_190102
    case y3_190102 => intro w hSw; (try dsimp only at hSw); go_simp; try with_reducible rfl
    try simp only [Act.put, List.setIfInBounds_toArray, List.set_cons_zero, List.set_cons_succ]
    refine wpAnyH_take (i := 4) (oi := { dst := some 102, op := Go.Op.move (Go.Operand.tmp 101), type := 4, pos := "law.go:92", after := #[{ on := 3, ground := Go.Ground.data }, { on := 1, ground := Go.Ground.chain }], guard := none }) (v := ?v4_190102) rfl (by kernel_rfl) (by kernel_rfl) (by kernel_rfl) (fun _ _ _ h => h) (Or.inl ⟨by rfl, ?y4_190102⟩) hHeld ?r4_190102
    case y4_190102 => intro w hSw; (try dsimp only at hSw); go_simp; try with_reducible rfl
    try simp only [Act.put, List.setIfInBounds_toArray, List.set_cons_zero, List.set_cons_succ]
    refine wpAnyH_take (i := 5) (oi := { dst := some 103, op := Go.Op.move (Go.Operand.tmp 14), type := 4, pos := "law.go:92", after := #[{ on := 4, ground := Go.Ground.guard }], guard := some (4, true) }) (v := ?v5_190102) rfl (by kernel_rfl) (by kernel_rfl) (by kernel_rfl) (fun _ _ _ h => h) (Or.inl ⟨by rfl, ?y5_190102⟩) hHeld ?r5_190102
    case y5_190102 => intro w hSw; (try dsimp only at hSw); go_simp; try with_reducible rfl
    try simp only [Act.put, List.setIfInBounds_toArray, List.set_cons_zero, List.set_cons_succ]
    refine wpAnyH_take (i := 6) (oi := { dst := some 104, op := Go.Op.move (Go.Operand.tmp 2), type := 3, pos := "law.go:92", after := #[{ on := 4, ground := Go.Ground.guard }], guard := some (4, true) }) (v := ?v6_190102) rfl (by kernel_rfl) (by kernel_rfl) (by kernel_rfl) (fun _ _ _ h => h) (Or.inl ⟨by rfl, ?y6_190102⟩) hHeld ?r6_190102
    case y6_190102 => intro w hSw; (try dsimp only at hSw); go_simp; try with_reducible rfl
    try simp only [Act.put, List.setIfInBounds_toArray, List.set_cons_zero, List.set_cons_succ]
    refine wpAnyH_take (i := 7) (oi := { dst := some 105, op := Go.Op.binOp Go.BinOp.geq 3 (Go.Operand.tmp 104) (Go.Operand.const (Go.Value.int Go.IntKind.i64 1)) 3, type := 4, pos := "law.go:92", after := #[{ on := 6, ground := Go.Ground.data }, { on := 4, ground := Go.Ground.guard }], guard := some (4, true) }) (v := ?v7_190102) rfl (by kernel_rfl) (by kernel_rfl) (by kernel_rfl) (fun _ _ _ h => h) (Or.inl ⟨by rfl, ?y7_190102⟩) hHeld ?r7_190102
    case y7_190102 => intro w hSw; (try dsimp only at hSw); go_simp; try with_reducible rfl
    try simp only [Act.put, List.setIfInBounds_toArray, List.set_cons_zero, List.set_cons_succ]
    refine wpAnyH_take (i := 8) (oi := { dst := some 106, op := Go.Op.move (Go.Operand.tmp 105), type := 4, pos := "law.go:92", after := #[{ on := 7, ground := Go.Ground.data }, { on := 4, ground := Go.Ground.chain }, { on := 4, ground := Go.Ground.guard }], guard := some (4, true) }) (v := ?v8_190102) rfl (by kernel_rfl) (by kernel_rfl) (by kernel_rfl) (fun _ _ _ h => h) (Or.inl ⟨by rfl, ?y8_190102⟩) hHeld ?r8_190102
    case y8_190102 => intro w hSw; (try dsimp only at hSw); go_simp; try with_reducible rfl
    try simp only [Act.put, List.setIfInBounds_toArray, List.set_cons_zero, List.set_cons_succ]
    refine wpAnyH_take (i := 9) (oi := { dst := some 107, op := Go.Op.move (Go.Operand.tmp 2), type := 3, pos := "law.go:92", after := #[{ on := 8, ground := Go.Ground.guard }], guard := some (8, true) }) (v := undef) rfl (by kernel_rfl) (by kernel_rfl) (by kernel_rfl) (fun _ _ _ h => h) (Or.inr ⟨by rfl, rfl⟩) hHeld ?_
    try simp only [Act.put, List.setIfInBounds_toArray, List.set_cons_zero, List.set_cons_succ]
    refine wpAnyH_take (i := 10) (oi := { dst := some 108, op := Go.Op.binOp Go.BinOp.leq 3 (Go.Operand.tmp 107) (Go.Operand.const (Go.Value.int Go.IntKind.i64 3)) 3, type := 4, pos := "law.go:92", after := #[{ on := 9, ground := Go.Ground.data }, { on := 8, ground := Go.Ground.guard }], guard := some (8, true) }) (v := undef) rfl (by kernel_rfl) (by kernel_rfl) (by kernel_rfl) (fun _ _ _ h => h) (Or.inr ⟨by rfl, rfl⟩) hHeld ?_
    try simp only [Act.put, List.setIfInBounds_toArray, List.set_cons_zero, List.set_cons_succ]
    refine wpAnyH_take (i := 11) (oi := { dst := some 109, op := Go.Op.pick (Go.Operand.tmp 106) (Go.Operand.tmp 108) (Go.Operand.const (Go.Value.bool false)), type := 4, pos := "law.go:92", after := #[{ on := 8, ground := Go.Ground.data }, { on := 10, ground := Go.Ground.data }, { on := 4, ground := Go.Ground.guard }], guard := some (4, true) }) (v := ?v11_190102) rfl (by kernel_rfl) (by kernel_rfl) (by kernel_rfl) (fun _ _ _ h => h) (Or.inl ⟨by rfl, ?y11_190102⟩) hHeld ?r11_190102
    case y11_190102 => intro w hSw; (try dsimp only at hSw); go_simp; try with_reducible rfl
    try simp only [Act.put, List.setIfInBounds_toArray, List.set_cons_zero, List.set_cons_succ]
    refine wpAnyH_take (i := 12) (oi := { dst := some 110, op := Go.Op.binOp Go.BinOp.eql 4 (Go.Operand.tmp 103) (Go.Operand.tmp 109) 4, type := 4, pos := "law.go:92", after := #[{ on := 5, ground := Go.Ground.data }, { on := 11, ground := Go.Ground.data }, { on := 4, ground := Go.Ground.guard }], guard := some (4, true) }) (v := ?v12_190102) rfl (by kernel_rfl) (by kernel_rfl) (by kernel_rfl) (fun _ _ _ h => h) (Or.inl ⟨by rfl, ?y12_190102⟩) hHeld ?r12_190102
    case y12_190102 => intro w hSw; (try dsimp only at hSw); go_simp; try with_reducible rfl
    try simp only [Act.put, List.setIfInBounds_toArray, List.set_cons_zero, List.set_cons_succ]
    refine wpAnyH_take (i := 13) (oi := { dst := some 111, op := Go.Op.pick (Go.Operand.tmp 102) (Go.Operand.tmp 110) (Go.Operand.const (Go.Value.bool false)), type := 4, pos := "law.go:92", after := #[{ on := 4, ground := Go.Ground.data }, { on := 12, ground := Go.Ground.data }], guard := none }) (v := ?v13_190102) rfl (by kernel_rfl) (by kernel_rfl) (by kernel_rfl) (fun _ _ _ h => h) (Or.inl ⟨by rfl, ?y13_190102⟩) hHeld ?r13_190102
    case y13_190102 => intro w hSw; (try dsimp only at hSw); go_simp; try with_reducible rfl
    try simp only [Act.put, List.setIfInBounds_toArray, List.set_cons_zero, List.set_cons_succ]
    refine wpAnyH_take (i := 14) (oi := { dst := some 112, op := Go.Op.move (Go.Operand.tmp 111), type := 4, pos := "law.go:92", after := #[{ on := 13, ground := Go.Ground.data }, { on := 8, ground := Go.Ground.chain }], guard := none }) (v := ?v14_190102) rfl (by kernel_rfl) (by kernel_rfl) (by kernel_rfl) (fun _ _ _ h => h) (Or.inl ⟨by rfl, ?y14_190102⟩) hHeld ?r14_190102
    case y14_190102 => intro w hSw; (try dsimp only at hSw); go_simp; try with_reducible rfl
    try simp only [Act.put, List.setIfInBounds_toArray, List.set_cons_zero, List.set_cons_succ]
    refine wpAnyH_take (i := 15) (oi := { dst := some 113, op := Go.Op.load 27 (Go.Operand.tmp 13), type := 27, pos := "law.go:92", after := #[{ on := 14, ground := Go.Ground.guard }], guard := some (14, true) }) (v := ?v15_190102) rfl (by kernel_rfl) (by kernel_rfl) (by kernel_rfl) (fun _ _ _ h => h) (Or.inl ⟨by rfl, ?y15_190102⟩) hHeld ?r15_190102
    case y15_190102 => intro w hSw; (try dsimp only at hSw); obtain ⟨y0, y1, y2, y3, y4, y5, y6, y7, y8, y9, y10, y11, _⟩ := (HC.out.below hSw).u12; go_simp; try with_reducible rfl
    try simp only [Act.put, List.setIfInBounds_toArray, List.set_cons_zero, List.set_cons_succ]
    refine wpAnyH_take (i := 17) (oi := { dst := some 115, op := Go.Op.load 32 (Go.Operand.tmp 11), type := 32, pos := "law.go:92", after := #[{ on := 14, ground := Go.Ground.guard }], guard := some (14, true) }) (v := ?v17_190102) rfl (by kernel_rfl) (by kernel_rfl) (by kernel_rfl) (fun _ _ _ h => h) (Or.inl ⟨by rfl, ?y17_190102⟩) hHeld ?r17_190102
    case y17_190102 => intro w hSw; (try dsimp only at hSw); obtain ⟨y0, y1, y2, y3, y4, y5, y6, y7, y8, y9, y10, y11, _⟩ := (HP.out.below hSw).u12; go_simp; try with_reducible rfl
    try simp only [Act.put, List.setIfInBounds_toArray, List.set_cons_zero, List.set_cons_succ]
    refine wpAnyH_ready (rs := [16]) (by kernel_rfl) (by simp) ?_
    refine AllReadyH.cons (o := { dst := some 114, op := Go.Op.call { callee := Go.Callee.value (Go.Operand.func 15), args := #[Go.Operand.tmp 113], argTypes := #[27] }, type := 32, pos := "law.go:92", after := #[{ on := 15, ground := Go.Ground.data }, { on := 14, ground := Go.Ground.chain }, { on := 14, ground := Go.Ground.guard }], guard := some (14, true) }) rfl (fun K hK => ?_) AllReadyH.nil
    go_simp
    refine (plain_ex _ _ _ _ _ _ _ _ _ _ _ _ _ _ _ _ _ _ _ _ _).mono ?_; rintro e wt16 ⟨rfl, hb⟩
    go_wp2_with fail
    refine hK.out _ _ (hHeld.trans (hb.mono hHeld.size)) (fun hHeld2 => ?_)
    clear hK K hHeld
    have hHeld := hHeld2
    clear hHeld2
    try simp only [Act.put, List.setIfInBounds_toArray, List.set_cons_zero, List.set_cons_succ]
    refine wpAnyH_ready (rs := [18]) (by kernel_rfl) (by simp) ?_
    refine AllReadyH.cons (o := { dst := some 116, op := Go.Op.call { callee := Go.Callee.value (Go.Operand.func 30), args := #[Go.Operand.tmp 114, Go.Operand.tmp 115], argTypes := #[32, 32] }, type := 4, pos := "law.go:92", after := #[{ on := 16, ground := Go.Ground.data }, { on := 17, ground := Go.Ground.data }, { on := 16, ground := Go.Ground.chain }, { on := 14, ground := Go.Ground.guard }], guard := some (14, true) }) rfl (fun K hK => ?_) AllReadyH.nil
    go_simp
    refine (sameMD_any _ _ (⟨mi, mo, mr, b1, b2, b3, b4, b5, ma.q, ma.a, ma.n, ma.x⟩ : MsgP) (⟨mi, mo, mr, b1, b2, b3, b4, b5, ma.q, ma.a, ma.n, ma.x⟩ : MsgP) _ (HMC.out.below hHeld) (HMP.out.below hHeld) HSC.out HSC.out).mono ?_; rintro e wt18 ⟨rfl, hb⟩
    rw [(sameB_iff _ _).2 rfl]
    go_wp2_with fail
    refine hK.out _ _ (hHeld.trans (hb.mono hHeld.size)) (fun hHeld2 => ?_)
    clear hK K hHeld
    have hHeld := hHeld2
    clear hHeld2
    try simp only [Act.put, List.setIfInBounds_toArray, List.set_cons_zero, List.set_cons_succ]
    refine wpAnyH_take (i := 19) (oi := { dst := some 117, op := Go.Op.pick (Go.Operand.tmp 112) (Go.Operand.tmp 116) (Go.Operand.const (Go.Value.bool false)), type := 4, pos := "law.go:92", after := #[{ on := 14, ground := Go.Ground.data }, { on := 18, ground := Go.Ground.data }], guard := none }) (v := ?v19_190104) rfl (by kernel_rfl) (by kernel_rfl) (by kernel_rfl) (fun _ _ _ h => h) (Or.inl ⟨by rfl, ?y19_190104⟩) hHeld ?r19_190104
    case y19_190104 => intro w hSw; (try dsimp only at hSw); go_simp; try with_reducible rfl
    try simp only [Act.put, List.setIfInBounds_toArray, List.set_cons_zero, List.set_cons_succ]
    refine wpAnyH_take (i := 20) (oi := { dst := some 118, op := Go.Op.move (Go.Operand.tmp 117), type := 4, pos := "law.go:92", after := #[{ on := 19, ground := Go.Ground.data }, { on := 18, ground := Go.Ground.chain }], guard := none }) (v := ?v20_190104) rfl (by kernel_rfl) (by kernel_rfl) (by kernel_rfl) (fun _ _ _ h => h) (Or.inl ⟨by rfl, ?y20_190104⟩) hHeld ?r20_190104
    case y20_190104 => intro w hSw; (try dsimp only at hSw); go_simp; try with_reducible rfl
    try simp only [Act.put, List.setIfInBounds_toArray, List.set_cons_zero, List.set_cons_succ]
    refine wpAnyH_take (i := 21) (oi := { dst := some 119, op := Go.Op.move (Go.Operand.tmp 2), type := 3, pos := "law.go:92", after := #[{ on := 20, ground := Go.Ground.guard }], guard := some (20, true) }) (v := ?v21_190104) rfl (by kernel_rfl) (by kernel_rfl) (by kernel_rfl) (fun _ _ _ h => h) (Or.inl ⟨by rfl, ?y21_190104⟩) hHeld ?r21_190104
    case y21_190104 => intro w hSw; (try dsimp only at hSw); go_simp; try with_reducible rfl
    try simp only [Act.put, List.setIfInBounds_toArray, List.set_cons_zero, List.set_cons_succ]
    refine wpAnyH_take (i := 22) (oi := { dst := some 120, op := Go.Op.move (Go.Operand.tmp 4), type := 24, pos := "law.go:92", after := #[{ on := 20, ground := Go.Ground.guard }], guard := some (20, true) }) (v := ?v22_190104) rfl (by kernel_rfl) (by kernel_rfl) (by kernel_rfl) (fun _ _ _ h => h) (Or.inl ⟨by rfl, ?y22_190104⟩) hHeld ?r22_190104
    case y22_190104 => intro w hSw; (try dsimp only at hSw); go_simp; try with_reducible rfl
    try simp only [Act.put, List.setIfInBounds_toArray, List.set_cons_zero, List.set_cons_succ]
    refine wpAnyH_take (i := 25) (oi := { dst := some 123, op := Go.Op.move (Go.Operand.tmp 2), type := 3, pos := "law.go:92", after := #[{ on := 20, ground := Go.Ground.guard }], guard := some (20, true) }) (v := ?v25_190104) rfl (by kernel_rfl) (by kernel_rfl) (by kernel_rfl) (fun _ _ _ h => h) (Or.inl ⟨by rfl, ?y25_190104⟩) hHeld ?r25_190104
    case y25_190104 => intro w hSw; (try dsimp only at hSw); go_simp; try with_reducible rfl
    try simp only [Act.put, List.setIfInBounds_toArray, List.set_cons_zero, List.set_cons_succ]
    refine wpAnyH_take (i := 26) (oi := { dst := some 124, op := Go.Op.move (Go.Operand.tmp 4), type := 24, pos := "law.go:92", after := #[{ on := 20, ground := Go.Ground.guard }], guard := some (20, true) }) (v := ?v26_190104) rfl (by kernel_rfl) (by kernel_rfl) (by kernel_rfl) (fun _ _ _ h => h) (Or.inl ⟨by rfl, ?y26_190104⟩) hHeld ?r26_190104
    case y26_190104 => intro w hSw; (try dsimp only at hSw); go_simp; try with_reducible rfl
    try simp only [Act.put, List.setIfInBounds_toArray, List.set_cons_zero, List.set_cons_succ]
    refine wpAnyH_ready (rs := [23]) (by kernel_rfl) (by simp) ?_
    refine AllReadyH.cons (o := { dst := some 121, op := Go.Op.call { callee := Go.Callee.value (Go.Operand.func 37), args := #[Go.Operand.tmp 119, Go.Operand.tmp 120], argTypes := #[3, 24] }, type := 27, pos := "law.go:92", after := #[{ on := 21, ground := Go.Ground.data }, { on := 22, ground := Go.Ground.data }, { on := 20, ground := Go.Ground.chain }, { on := 20, ground := Go.Ground.guard }], guard := some (20, true) }) rfl (fun K hK => ?_) AllReadyH.nil
    go_simp
    refine (askM_any _ qr qn qk QL _ (HQ.out.below (HBL.out.trans (hHeld.mono HBL.out.size))) HQN.out HQN2.out).mono ?_; rintro e wt23 ⟨v23, rfl, ho, hb⟩
    have HV23 := Lib.hid ho.at
    clear ho
    go_wp2_with fail
    refine hK.out _ _ (hHeld.trans (hb.mono hHeld.size)) (fun hHeld2 => ?_)
    clear hK K hHeld
    have hHeld := hHeld2
    clear hHeld2
    try simp only [Act.put, List.setIfInBounds_toArray, List.set_cons_zero, List.set_cons_succ]
    refine wpAnyH_ready (rs := [24]) (by kernel_rfl) (by simp) ?_
    refine AllReadyH.cons (o := { dst := some 122, op := Go.Op.call { callee := Go.Callee.value (Go.Operand.func 15), args := #[Go.Operand.tmp 121], argTypes := #[27] }, type := 32, pos := "law.go:92", after := #[{ on := 23, ground := Go.Ground.data }, { on := 23, ground := Go.Ground.chain }, { on := 20, ground := Go.Ground.guard }], guard := some (20, true) }) rfl (fun K hK => ?_) AllReadyH.nil
    go_simp
    refine (plainM_any _ _ _ HV23.out).mono ?_; rintro e wt24 ⟨rfl, hb⟩
    replace HV23 := Lib.hid (HV23.out.below hb)
    go_wp2_with fail
    refine hK.out _ _ (hHeld.trans (hb.mono hHeld.size)) (fun hHeld2 => ?_)
    clear hK K hHeld
    have hHeld := hHeld2
    clear hHeld2
    try simp only [Act.put, List.setIfInBounds_toArray, List.set_cons_zero, List.set_cons_succ]
    refine wpAnyH_ready (rs := [27]) (by kernel_rfl) (by simp) ?_
    refine AllReadyH.cons (o := { dst := some 125, op := Go.Op.call { callee := Go.Callee.value (Go.Operand.func 38), args := #[Go.Operand.tmp 123, Go.Operand.tmp 124], argTypes := #[3, 24] }, type := 32, pos := "law.go:92", after := #[{ on := 25, ground := Go.Ground.data }, { on := 26, ground := Go.Ground.data }, { on := 24, ground := Go.Ground.chain }, { on := 20, ground := Go.Ground.guard }], guard := some (20, true) }) rfl (fun K hK => ?_) AllReadyH.nil
    go_simp
    refine (askD_any _ qr qn qk QL _ (HQ.out.below (HBL.out.trans (hHeld.mono HBL.out.size))) HQN.out HQN2.out).mono ?_; rintro e wt27 ⟨v27, rfl, ho, hb⟩
    replace HV23 := Lib.hid (HV23.out.below hb)
    have HV27 := Lib.hid ho
    clear ho
    go_wp2_with fail
    refine hK.out _ _ (hHeld.trans (hb.mono hHeld.size)) (fun hHeld2 => ?_)
    clear hK K hHeld
    have hHeld := hHeld2
    clear hHeld2
    try simp only [Act.put, List.setIfInBounds_toArray, List.set_cons_zero, List.set_cons_succ]
    refine wpAnyH_ready (rs := [28]) (by kernel_rfl) (by simp) ?_
    refine AllReadyH.cons (o := { dst := some 126, op := Go.Op.call { callee := Go.Callee.value (Go.Operand.func 30), args := #[Go.Operand.tmp 122, Go.Operand.tmp 125], argTypes := #[32, 32] }, type := 4, pos := "law.go:92", after := #[{ on := 24, ground := Go.Ground.data }, { on := 27, ground := Go.Ground.data }, { on := 27, ground := Go.Ground.chain }, { on := 20, ground := Go.Ground.guard }], guard := some (20, true) }) rfl (fun K hK => ?_) AllReadyH.nil
    go_simp
    refine (sameMD_any _ _ _ _ _ HV23.out HV27.out HSK.out HSK.out).mono ?_; rintro e wt28 ⟨rfl, hb⟩
    rw [(sameB_iff _ _).2 rfl]
    go_wp2_with fail
    refine hK.out _ _ (hHeld.trans (hb.mono hHeld.size)) (fun hHeld2 => ?_)
    clear hK K hHeld
    have hHeld := hHeld2
    clear hHeld2
    try simp only [Act.put, List.setIfInBounds_toArray, List.set_cons_zero, List.set_cons_succ]
    refine wpAnyH_take (i := 29) (oi := { dst := some 127, op := Go.Op.pick (Go.Operand.tmp 118) (Go.Operand.tmp 126) (Go.Operand.const (Go.Value.bool false)), type := 4, pos := "law.go:92", after := #[{ on := 20, ground := Go.Ground.data }, { on := 28, ground := Go.Ground.data }], guard := none }) (v := ?v29_190108) rfl (by kernel_rfl) (by kernel_rfl) (by kernel_rfl) (fun _ _ _ h => h) (Or.inl ⟨by rfl, ?y29_190108⟩) hHeld ?r29_190108
    case y29_190108 => intro w hSw; (try dsimp only at hSw); go_simp; try with_reducible rfl
    try simp only [Act.put, List.setIfInBounds_toArray, List.set_cons_zero, List.set_cons_succ]
    refine wpAnyH_take (i := 30) (oi := { dst := some 10, op := Go.Op.assign (Go.Operand.tmp 127), type := 4, pos := "law.go:92", after := #[{ on := 29, ground := Go.Ground.data }, { on := 28, ground := Go.Ground.chain }, { on := 0, ground := Go.Ground.phase }, { on := 1, ground := Go.Ground.phase }, { on := 2, ground := Go.Ground.phase }, { on := 3, ground := Go.Ground.phase }, { on := 4, ground := Go.Ground.phase }, { on := 5, ground := Go.Ground.phase }, { on := 6, ground := Go.Ground.phase }, { on := 7, ground := Go.Ground.phase }, { on := 8, ground := Go.Ground.phase }, { on := 9, ground := Go.Ground.phase }, { on := 10, ground := Go.Ground.phase }, { on := 11, ground := Go.Ground.phase }, { on := 12, ground := Go.Ground.phase }, { on := 13, ground := Go.Ground.phase }, { on := 14, ground := Go.Ground.phase }, { on := 15, ground := Go.Ground.phase }, { on := 16, ground := Go.Ground.phase }, { on := 17, ground := Go.Ground.phase }, { on := 18, ground := Go.Ground.phase }, { on := 19, ground := Go.Ground.phase }, { on := 20, ground := Go.Ground.phase }, { on := 21, ground := Go.Ground.phase }, { on := 22, ground := Go.Ground.phase }, { on := 23, ground := Go.Ground.phase }, { on := 24, ground := Go.Ground.phase }, { on := 25, ground := Go.Ground.phase }, { on := 26, ground := Go.Ground.phase }, { on := 27, ground := Go.Ground.phase }, { on := 28, ground := Go.Ground.phase }, { on := 29, ground := Go.Ground.phase }], guard := none }) (v := ?v30_190108) rfl (by kernel_rfl) (by kernel_rfl) (by kernel_rfl) (fun _ _ _ h => h) (Or.inl ⟨by rfl, ?y30_190108⟩) hHeld ?r30_190108
    case y30_190108 => intro w hSw; (try dsimp only at hSw); go_simp; try with_reducible rfl
    try simp only [Act.put, List.setIfInBounds_toArray, List.set_cons_zero, List.set_cons_succ]
    refine wpAnyH_done (by kernel_rfl) ?_ _
    go_wp2
    go_ret
    exact ⟨rfl, HB.out.trans ((HBL.out.trans (hHeld.mono HBL.out.size)).mono HB.out.size)⟩
  · have d1 := dT (p := (1 : Int) ≤ sec) (by omega)
    have d2 := dF (p := sec ≤ 3) (by omega)
    clear hno1 hno2 HNO
    refine wp_region_held_drew (S := (fun wx => Below w8.heap.size w8 wx)) (by kernel_rfl) ((Below.refl w8.heap.size w8).drew) (fun hHeld => ?_)
    refine wpAnyH_ready (rs := [0]) (by kernel_rfl) (by simp) ?_
    refine AllReadyH.cons (o := { dst := some 98, op := Go.Op.call { callee := Go.Callee.value (Go.Operand.func 13), args := #[], argTypes := #[] }, type := 4, pos := "law.go:92", after := #[], guard := none }) rfl (fun K hK => ?_) AllReadyH.nil
    go_simp
    refine (first5 _).mono ?_; rintro e wt0 ⟨rfl, hb⟩
    go_wp2_with fail
    refine hK.out _ _ (hHeld.trans (hb.mono hHeld.size)) (fun hHeld2 => ?_)
    clear hK K hHeld
    have hHeld := hHeld2
    clear hHeld2
    try simp only [Act.put, List.setIfInBounds_toArray, List.set_cons_zero, List.set_cons_succ]
    refine wpAnyH_take (i := 1) (oi := { dst := some 99, op := Go.Op.move (Go.Operand.tmp 98), type := 4, pos := "law.go:92", after := #[{ on := 0, ground := Go.Ground.data }, { on := 0, ground := Go.Ground.chain }], guard := none }) (v := ?v1_195102) rfl (by kernel_rfl) (by kernel_rfl) (by kernel_rfl) (fun _ _ _ h => h) (Or.inl ⟨by rfl, ?y1_195102⟩) hHeld ?r1_195102
    case y1_195102 => intro w hSw; (try dsimp only at hSw); go_simp; try with_reducible rfl
    try simp only [Act.put, List.setIfInBounds_toArray, List.set_cons_zero, List.set_cons_succ]
    refine wpAnyH_take (i := 2) (oi := { dst := some 100, op := Go.Op.move (Go.Operand.tmp 12), type := 4, pos := "law.go:92", after := #[{ on := 1, ground := Go.Ground.guard }], guard := some (1, true) }) (v := ?v2_195102) rfl (by kernel_rfl) (by kernel_rfl) (by kernel_rfl) (fun _ _ _ h => h) (Or.inl ⟨by rfl, ?y2_195102⟩) hHeld ?r2_195102
    case y2_195102 => intro w hSw; (try dsimp only at hSw); go_simp; try with_reducible rfl
    try simp only [Act.put, List.setIfInBounds_toArray, List.set_cons_zero, List.set_cons_succ]
    refine wpAnyH_take (i := 3) (oi := { dst := some 101, op := Go.Op.pick (Go.Operand.tmp 99) (Go.Operand.tmp 100) (Go.Operand.const (Go.Value.bool false)), type := 4, pos := "law.go:92", after := #[{ on := 1, ground := Go.Ground.data }, { on := 2, ground := Go.Ground.data }], guard := none }) (v := ?v3_195102) rfl (by kernel_rfl) (by kernel_rfl) (by kernel_rfl) (fun _ _ _ h => h) (Or.inl ⟨by rfl, ?y3_195102⟩) hHeld ?r3_195102
    case y3_195102 => intro w hSw; (try dsimp only at hSw); go_simp; try with_reducible rfl
    try simp only [Act.put, List.setIfInBounds_toArray, List.set_cons_zero, List.set_cons_succ]
    refine wpAnyH_take (i := 4) (oi := { dst := some 102, op := Go.Op.move (Go.Operand.tmp 101), type := 4, pos := "law.go:92", after := #[{ on := 3, ground := Go.Ground.data }, { on := 1, ground := Go.Ground.chain }], guard := none }) (v := ?v4_195102) rfl (by kernel_rfl) (by kernel_rfl) (by kernel_rfl) (fun _ _ _ h => h) (Or.inl ⟨by rfl, ?y4_195102⟩) hHeld ?r4_195102
    case y4_195102 => intro w hSw; (try dsimp only at hSw); go_simp; try with_reducible rfl
    try simp only [Act.put, List.setIfInBounds_toArray, List.set_cons_zero, List.set_cons_succ]
    refine wpAnyH_take (i := 5) (oi := { dst := some 103, op := Go.Op.move (Go.Operand.tmp 14), type := 4, pos := "law.go:92", after := #[{ on := 4, ground := Go.Ground.guard }], guard := some (4, true) }) (v := ?v5_195102) rfl (by kernel_rfl) (by kernel_rfl) (by kernel_rfl) (fun _ _ _ h => h) (Or.inl ⟨by rfl, ?y5_195102⟩) hHeld ?r5_195102
    case y5_195102 => intro w hSw; (try dsimp only at hSw); go_simp; try with_reducible rfl
    try simp only [Act.put, List.setIfInBounds_toArray, List.set_cons_zero, List.set_cons_succ]
    refine wpAnyH_take (i := 6) (oi := { dst := some 104, op := Go.Op.move (Go.Operand.tmp 2), type := 3, pos := "law.go:92", after := #[{ on := 4, ground := Go.Ground.guard }], guard := some (4, true) }) (v := ?v6_195102) rfl (by kernel_rfl) (by kernel_rfl) (by kernel_rfl) (fun _ _ _ h => h) (Or.inl ⟨by rfl, ?y6_195102⟩) hHeld ?r6_195102
    case y6_195102 => intro w hSw; (try dsimp only at hSw); go_simp; try with_reducible rfl
    try simp only [Act.put, List.setIfInBounds_toArray, List.set_cons_zero, List.set_cons_succ]
    refine wpAnyH_take (i := 7) (oi := { dst := some 105, op := Go.Op.binOp Go.BinOp.geq 3 (Go.Operand.tmp 104) (Go.Operand.const (Go.Value.int Go.IntKind.i64 1)) 3, type := 4, pos := "law.go:92", after := #[{ on := 6, ground := Go.Ground.data }, { on := 4, ground := Go.Ground.guard }], guard := some (4, true) }) (v := ?v7_195102) rfl (by kernel_rfl) (by kernel_rfl) (by kernel_rfl) (fun _ _ _ h => h) (Or.inl ⟨by rfl, ?y7_195102⟩) hHeld ?r7_195102
    case y7_195102 => intro w hSw; (try dsimp only at hSw); go_simp; try with_reducible rfl
    try simp only [Act.put, List.setIfInBounds_toArray, List.set_cons_zero, List.set_cons_succ]
    refine wpAnyH_take (i := 8) (oi := { dst := some 106, op := Go.Op.move (Go.Operand.tmp 105), type := 4, pos := "law.go:92", after := #[{ on := 7, ground := Go.Ground.data }, { on := 4, ground := Go.Ground.chain }, { on := 4, ground := Go.Ground.guard }], guard := some (4, true) }) (v := ?v8_195102) rfl (by kernel_rfl) (by kernel_rfl) (by kernel_rfl) (fun _ _ _ h => h) (Or.inl ⟨by rfl, ?y8_195102⟩) hHeld ?r8_195102
    case y8_195102 => intro w hSw; (try dsimp only at hSw); go_simp; try with_reducible rfl
    try simp only [Act.put, List.setIfInBounds_toArray, List.set_cons_zero, List.set_cons_succ]
    refine wpAnyH_take (i := 9) (oi := { dst := some 107, op := Go.Op.move (Go.Operand.tmp 2), type := 3, pos := "law.go:92", after := #[{ on := 8, ground := Go.Ground.guard }], guard := some (8, true) }) (v := ?v9_195102) rfl (by kernel_rfl) (by kernel_rfl) (by kernel_rfl) (fun _ _ _ h => h) (Or.inl ⟨by rfl, ?y9_195102⟩) hHeld ?r9_195102
    case y9_195102 => intro w hSw; (try dsimp only at hSw); go_simp; try with_reducible rfl
    try simp only [Act.put, List.setIfInBounds_toArray, List.set_cons_zero, List.set_cons_succ]
    refine wpAnyH_take (i := 10) (oi := { dst := some 108, op := Go.Op.binOp Go.BinOp.leq 3 (Go.Operand.tmp 107) (Go.Operand.const (Go.Value.int Go.IntKind.i64 3)) 3, type := 4, pos := "law.go:92", after := #[{ on := 9, ground := Go.Ground.data }, { on := 8, ground := Go.Ground.guard }], guard := some (8, true) }) (v := ?v10_195102) rfl (by kernel_rfl) (by kernel_rfl) (by kernel_rfl) (fun _ _ _ h => h) (Or.inl ⟨by rfl, ?y10_195102⟩) hHeld ?r10_195102
    case y10_195102 => intro w hSw; (try dsimp only at hSw); go_simp; try with_reducible rfl
    try simp only [Act.put, List.setIfInBounds_toArray, List.set_cons_zero, List.set_cons_succ]
    refine wpAnyH_take (i := 11) (oi := { dst := some 109, op := Go.Op.pick (Go.Operand.tmp 106) (Go.Operand.tmp 108) (Go.Operand.const (Go.Value.bool false)), type := 4, pos := "law.go:92", after := #[{ on := 8, ground := Go.Ground.data }, { on := 10, ground := Go.Ground.data }, { on := 4, ground := Go.Ground.guard }], guard := some (4, true) }) (v := ?v11_195102) rfl (by kernel_rfl) (by kernel_rfl) (by kernel_rfl) (fun _ _ _ h => h) (Or.inl ⟨by rfl, ?y11_195102⟩) hHeld ?r11_195102
    case y11_195102 => intro w hSw; (try dsimp only at hSw); go_simp; try with_reducible rfl
    try simp only [Act.put, List.setIfInBounds_toArray, List.set_cons_zero, List.set_cons_succ]
    refine wpAnyH_take (i := 12) (oi := { dst := some 110, op := Go.Op.binOp Go.BinOp.eql 4 (Go.Operand.tmp 103) (Go.Operand.tmp 109) 4, type := 4, pos := "law.go:92", after := #[{ on := 5, ground := Go.Ground.data }, { on := 11, ground := Go.Ground.data }, { on := 4, ground := Go.Ground.guard }], guard := some (4, true) }) (v := ?v12_195102) rfl (by kernel_rfl) (by kernel_rfl) (by kernel_rfl) (fun _ _ _ h => h) (Or.inl ⟨by rfl, ?y12_195102⟩) hHeld ?r12_195102
    case y12_195102 => intro w hSw; (try dsimp only at hSw); go_simp; try with_reducible rfl
    try simp only [Act.put, List.setIfInBounds_toArray, List.set_cons_zero, List.set_cons_succ]
    refine wpAnyH_take (i := 13) (oi := { dst := some 111, op := Go.Op.pick (Go.Operand.tmp 102) (Go.Operand.tmp 110) (Go.Operand.const (Go.Value.bool false)), type := 4, pos := "law.go:92", after := #[{ on := 4, ground := Go.Ground.data }, { on := 12, ground := Go.Ground.data }], guard := none }) (v := ?v13_195102) rfl (by kernel_rfl) (by kernel_rfl) (by kernel_rfl) (fun _ _ _ h => h) (Or.inl ⟨by rfl, ?y13_195102⟩) hHeld ?r13_195102
    case y13_195102 => intro w hSw; (try dsimp only at hSw); go_simp; try with_reducible rfl
    try simp only [Act.put, List.setIfInBounds_toArray, List.set_cons_zero, List.set_cons_succ]
    refine wpAnyH_take (i := 14) (oi := { dst := some 112, op := Go.Op.move (Go.Operand.tmp 111), type := 4, pos := "law.go:92", after := #[{ on := 13, ground := Go.Ground.data }, { on := 8, ground := Go.Ground.chain }], guard := none }) (v := ?v14_195102) rfl (by kernel_rfl) (by kernel_rfl) (by kernel_rfl) (fun _ _ _ h => h) (Or.inl ⟨by rfl, ?y14_195102⟩) hHeld ?r14_195102
    case y14_195102 => intro w hSw; (try dsimp only at hSw); go_simp; try with_reducible rfl
    try simp only [Act.put, List.setIfInBounds_toArray, List.set_cons_zero, List.set_cons_succ]
    refine wpAnyH_take (i := 15) (oi := { dst := some 113, op := Go.Op.load 27 (Go.Operand.tmp 13), type := 27, pos := "law.go:92", after := #[{ on := 14, ground := Go.Ground.guard }], guard := some (14, true) }) (v := ?v15_195102) rfl (by kernel_rfl) (by kernel_rfl) (by kernel_rfl) (fun _ _ _ h => h) (Or.inl ⟨by rfl, ?y15_195102⟩) hHeld ?r15_195102
    case y15_195102 => intro w hSw; (try dsimp only at hSw); obtain ⟨y0, y1, y2, y3, y4, y5, y6, y7, y8, y9, y10, y11, _⟩ := (HC.out.below hSw).u12; go_simp; try with_reducible rfl
    try simp only [Act.put, List.setIfInBounds_toArray, List.set_cons_zero, List.set_cons_succ]
    refine wpAnyH_take (i := 17) (oi := { dst := some 115, op := Go.Op.load 32 (Go.Operand.tmp 11), type := 32, pos := "law.go:92", after := #[{ on := 14, ground := Go.Ground.guard }], guard := some (14, true) }) (v := ?v17_195102) rfl (by kernel_rfl) (by kernel_rfl) (by kernel_rfl) (fun _ _ _ h => h) (Or.inl ⟨by rfl, ?y17_195102⟩) hHeld ?r17_195102
    case y17_195102 => intro w hSw; (try dsimp only at hSw); obtain ⟨y0, y1, y2, y3, y4, y5, y6, y7, y8, y9, y10, y11, _⟩ := (HP.out.below hSw).u12; go_simp; try with_reducible rfl
    try simp only [Act.put, List.setIfInBounds_toArray, List.set_cons_zero, List.set_cons_succ]
    refine wpAnyH_ready (rs := [16]) (by kernel_rfl) (by simp) ?_
    refine AllReadyH.cons (o := { dst := some 114, op := Go.Op.call { callee := Go.Callee.value (Go.Operand.func 15), args := #[Go.Operand.tmp 113], argTypes := #[27] }, type := 32, pos := "law.go:92", after := #[{ on := 15, ground := Go.Ground.data }, { on := 14, ground := Go.Ground.chain }, { on := 14, ground := Go.Ground.guard }], guard := some (14, true) }) rfl (fun K hK => ?_) AllReadyH.nil
    go_simp
    refine (plain_ex _ _ _ _ _ _ _ _ _ _ _ _ _ _ _ _ _ _ _ _ _).mono ?_; rintro e wt16 ⟨rfl, hb⟩
    go_wp2_with fail
    refine hK.out _ _ (hHeld.trans (hb.mono hHeld.size)) (fun hHeld2 => ?_)
    clear hK K hHeld
    have hHeld := hHeld2
    clear hHeld2
    try simp only [Act.put, List.setIfInBounds_toArray, List.set_cons_zero, List.set_cons_succ]
    refine wpAnyH_ready (rs := [18]) (by kernel_rfl) (by simp) ?_
    refine AllReadyH.cons (o := { dst := some 116, op := Go.Op.call { callee := Go.Callee.value (Go.Operand.func 30), args := #[Go.Operand.tmp 114, Go.Operand.tmp 115], argTypes := #[32, 32] }, type := 4, pos := "law.go:92", after := #[{ on := 16, ground := Go.Ground.data }, { on := 17, ground := Go.Ground.data }, { on := 16, ground := Go.Ground.chain }, { on := 14, ground := Go.Ground.guard }], guard := some (14, true) }) rfl (fun K hK => ?_) AllReadyH.nil
    go_simp
    refine (sameMD_any _ _ (⟨mi, mo, mr, b1, b2, b3, b4, b5, ma.q, ma.a, ma.n, ma.x⟩ : MsgP) (⟨mi, mo, mr, b1, b2, b3, b4, b5, ma.q, ma.a, ma.n, ma.x⟩ : MsgP) _ (HMC.out.below hHeld) (HMP.out.below hHeld) HSC.out HSC.out).mono ?_; rintro e wt18 ⟨rfl, hb⟩
    rw [(sameB_iff _ _).2 rfl]
    go_wp2_with fail
    refine hK.out _ _ (hHeld.trans (hb.mono hHeld.size)) (fun hHeld2 => ?_)
    clear hK K hHeld
    have hHeld := hHeld2
    clear hHeld2
    try simp only [Act.put, List.setIfInBounds_toArray, List.set_cons_zero, List.set_cons_succ]
    refine wpAnyH_take (i := 19) (oi := { dst := some 117, op := Go.Op.pick (Go.Operand.tmp 112) (Go.Operand.tmp 116) (Go.Operand.const (Go.Value.bool false)), type := 4, pos := "law.go:92", after := #[{ on := 14, ground := Go.Ground.data }, { on := 18, ground := Go.Ground.data }], guard := none }) (v := ?v19_195104) rfl (by kernel_rfl) (by kernel_rfl) (by kernel_rfl) (fun _ _ _ h => h) (Or.inl ⟨by rfl, ?y19_195104⟩) hHeld ?r19_195104
    case y19_195104 => intro w hSw; (try dsimp only at hSw); go_simp; try with_reducible rfl
    try simp only [Act.put, List.setIfInBounds_toArray, List.set_cons_zero, List.set_cons_succ]
    refine wpAnyH_take (i := 20) (oi := { dst := some 118, op := Go.Op.move (Go.Operand.tmp 117), type := 4, pos := "law.go:92", after := #[{ on := 19, ground := Go.Ground.data }, { on := 18, ground := Go.Ground.chain }], guard := none }) (v := ?v20_195104) rfl (by kernel_rfl) (by kernel_rfl) (by kernel_rfl) (fun _ _ _ h => h) (Or.inl ⟨by rfl, ?y20_195104⟩) hHeld ?r20_195104
    case y20_195104 => intro w hSw; (try dsimp only at hSw); go_simp; try with_reducible rfl
    try simp only [Act.put, List.setIfInBounds_toArray, List.set_cons_zero, List.set_cons_succ]
    refine wpAnyH_take (i := 21) (oi := { dst := some 119, op := Go.Op.move (Go.Operand.tmp 2), type := 3, pos := "law.go:92", after := #[{ on := 20, ground := Go.Ground.guard }], guard := some (20, true) }) (v := ?v21_195104) rfl (by kernel_rfl) (by kernel_rfl) (by kernel_rfl) (fun _ _ _ h => h) (Or.inl ⟨by rfl, ?y21_195104⟩) hHeld ?r21_195104
    case y21_195104 => intro w hSw; (try dsimp only at hSw); go_simp; try with_reducible rfl
    try simp only [Act.put, List.setIfInBounds_toArray, List.set_cons_zero, List.set_cons_succ]
    refine wpAnyH_take (i := 22) (oi := { dst := some 120, op := Go.Op.move (Go.Operand.tmp 4), type := 24, pos := "law.go:92", after := #[{ on := 20, ground := Go.Ground.guard }], guard := some (20, true) }) (v := ?v22_195104) rfl (by kernel_rfl) (by kernel_rfl) (by kernel_rfl) (fun _ _ _ h => h) (Or.inl ⟨by rfl, ?y22_195104⟩) hHeld ?r22_195104
    case y22_195104 => intro w hSw; (try dsimp only at hSw); go_simp; try with_reducible rfl
    try simp only [Act.put, List.setIfInBounds_toArray, List.set_cons_zero, List.set_cons_succ]
    refine wpAnyH_take (i := 25) (oi := { dst := some 123, op := Go.Op.move (Go.Operand.tmp 2), type := 3, pos := "law.go:92", after := #[{ on := 20, ground := Go.Ground.guard }], guard := some (20, true) }) (v := ?v25_195104) rfl (by kernel_rfl) (by kernel_rfl) (by kernel_rfl) (fun _ _ _ h => h) (Or.inl ⟨by rfl, ?y25_195104⟩) hHeld ?r25_195104
    case y25_195104 => intro w hSw; (try dsimp only at hSw); go_simp; try with_reducible rfl
    try simp only [Act.put, List.setIfInBounds_toArray, List.set_cons_zero, List.set_cons_succ]
    refine wpAnyH_take (i := 26) (oi := { dst := some 124, op := Go.Op.move (Go.Operand.tmp 4), type := 24, pos := "law.go:92", after := #[{ on := 20, ground := Go.Ground.guard }], guard := some (20, true) }) (v := ?v26_195104) rfl (by kernel_rfl) (by kernel_rfl) (by kernel_rfl) (fun _ _ _ h => h) (Or.inl ⟨by rfl, ?y26_195104⟩) hHeld ?r26_195104
    case y26_195104 => intro w hSw; (try dsimp only at hSw); go_simp; try with_reducible rfl
    try simp only [Act.put, List.setIfInBounds_toArray, List.set_cons_zero, List.set_cons_succ]
    refine wpAnyH_ready (rs := [23]) (by kernel_rfl) (by simp) ?_
    refine AllReadyH.cons (o := { dst := some 121, op := Go.Op.call { callee := Go.Callee.value (Go.Operand.func 37), args := #[Go.Operand.tmp 119, Go.Operand.tmp 120], argTypes := #[3, 24] }, type := 27, pos := "law.go:92", after := #[{ on := 21, ground := Go.Ground.data }, { on := 22, ground := Go.Ground.data }, { on := 20, ground := Go.Ground.chain }, { on := 20, ground := Go.Ground.guard }], guard := some (20, true) }) rfl (fun K hK => ?_) AllReadyH.nil
    go_simp
    refine (askM_any _ qr qn qk QL _ (HQ.out.below (HBL.out.trans (hHeld.mono HBL.out.size))) HQN.out HQN2.out).mono ?_; rintro e wt23 ⟨v23, rfl, ho, hb⟩
    have HV23 := Lib.hid ho.at
    clear ho
    go_wp2_with fail
    refine hK.out _ _ (hHeld.trans (hb.mono hHeld.size)) (fun hHeld2 => ?_)
    clear hK K hHeld
    have hHeld := hHeld2
    clear hHeld2
    try simp only [Act.put, List.setIfInBounds_toArray, List.set_cons_zero, List.set_cons_succ]
    refine wpAnyH_ready (rs := [24]) (by kernel_rfl) (by simp) ?_
    refine AllReadyH.cons (o := { dst := some 122, op := Go.Op.call { callee := Go.Callee.value (Go.Operand.func 15), args := #[Go.Operand.tmp 121], argTypes := #[27] }, type := 32, pos := "law.go:92", after := #[{ on := 23, ground := Go.Ground.data }, { on := 23, ground := Go.Ground.chain }, { on := 20, ground := Go.Ground.guard }], guard := some (20, true) }) rfl (fun K hK => ?_) AllReadyH.nil
    go_simp
    refine (plainM_any _ _ _ HV23.out).mono ?_; rintro e wt24 ⟨rfl, hb⟩
    replace HV23 := Lib.hid (HV23.out.below hb)
    go_wp2_with fail
    refine hK.out _ _ (hHeld.trans (hb.mono hHeld.size)) (fun hHeld2 => ?_)
    clear hK K hHeld
    have hHeld := hHeld2
    clear hHeld2
    try simp only [Act.put, List.setIfInBounds_toArray, List.set_cons_zero, List.set_cons_succ]
    refine wpAnyH_ready (rs := [27]) (by kernel_rfl) (by simp) ?_
    refine AllReadyH.cons (o := { dst := some 125, op := Go.Op.call { callee := Go.Callee.value (Go.Operand.func 38), args := #[Go.Operand.tmp 123, Go.Operand.tmp 124], argTypes := #[3, 24] }, type := 32, pos := "law.go:92", after := #[{ on := 25, ground := Go.Ground.data }, { on := 26, ground := Go.Ground.data }, { on := 24, ground := Go.Ground.chain }, { on := 20, ground := Go.Ground.guard }], guard := some (20, true) }) rfl (fun K hK => ?_) AllReadyH.nil
    go_simp
    refine (askD_any _ qr qn qk QL _ (HQ.out.below (HBL.out.trans (hHeld.mono HBL.out.size))) HQN.out HQN2.out).mono ?_; rintro e wt27 ⟨v27, rfl, ho, hb⟩
    replace HV23 := Lib.hid (HV23.out.below hb)
    have HV27 := Lib.hid ho
    clear ho
    go_wp2_with fail
    refine hK.out _ _ (hHeld.trans (hb.mono hHeld.size)) (fun hHeld2 => ?_)
    clear hK K hHeld
    have hHeld := hHeld2
    clear hHeld2
    try simp only [Act.put, List.setIfInBounds_toArray, List.set_cons_zero, List.set_cons_succ]
    refine wpAnyH_ready (rs := [28]) (by kernel_rfl) (by simp) ?_
    refine AllReadyH.cons (o := { dst := some 126, op := Go.Op.call { callee := Go.Callee.value (Go.Operand.func 30), args := #[Go.Operand.tmp 122, Go.Operand.tmp 125], argTypes := #[32, 32] }, type := 4, pos := "law.go:92", after := #[{ on := 24, ground := Go.Ground.data }, { on := 27, ground := Go.Ground.data }, { on := 27, ground := Go.Ground.chain }, { on := 20, ground := Go.Ground.guard }], guard := some (20, true) }) rfl (fun K hK => ?_) AllReadyH.nil
    go_simp
    refine (sameMD_any _ _ _ _ _ HV23.out HV27.out HSK.out HSK.out).mono ?_; rintro e wt28 ⟨rfl, hb⟩
    rw [(sameB_iff _ _).2 rfl]
    go_wp2_with fail
    refine hK.out _ _ (hHeld.trans (hb.mono hHeld.size)) (fun hHeld2 => ?_)
    clear hK K hHeld
    have hHeld := hHeld2
    clear hHeld2
    try simp only [Act.put, List.setIfInBounds_toArray, List.set_cons_zero, List.set_cons_succ]
    refine wpAnyH_take (i := 29) (oi := { dst := some 127, op := Go.Op.pick (Go.Operand.tmp 118) (Go.Operand.tmp 126) (Go.Operand.const (Go.Value.bool false)), type := 4, pos := "law.go:92", after := #[{ on := 20, ground := Go.Ground.data }, { on := 28, ground := Go.Ground.data }], guard := none }) (v := ?v29_195108) rfl (by kernel_rfl) (by kernel_rfl) (by kernel_rfl) (fun _ _ _ h => h) (Or.inl ⟨by rfl, ?y29_195108⟩) hHeld ?r29_195108
    case y29_195108 => intro w hSw; (try dsimp only at hSw); go_simp; try with_reducible rfl
    try simp only [Act.put, List.setIfInBounds_toArray, List.set_cons_zero, List.set_cons_succ]
    refine wpAnyH_take (i := 30) (oi := { dst := some 10, op := Go.Op.assign (Go.Operand.tmp 127), type := 4, pos := "law.go:92", after := #[{ on := 29, ground := Go.Ground.data }, { on := 28, ground := Go.Ground.chain }, { on := 0, ground := Go.Ground.phase }, { on := 1, ground := Go.Ground.phase }, { on := 2, ground := Go.Ground.phase }, { on := 3, ground := Go.Ground.phase }, { on := 4, ground := Go.Ground.phase }, { on := 5, ground := Go.Ground.phase }, { on := 6, ground := Go.Ground.phase }, { on := 7, ground := Go.Ground.phase }, { on := 8, ground := Go.Ground.phase }, { on := 9, ground := Go.Ground.phase }, { on := 10, ground := Go.Ground.phase }, { on := 11, ground := Go.Ground.phase }, { on := 12, ground := Go.Ground.phase }, { on := 13, ground := Go.Ground.phase }, { on := 14, ground := Go.Ground.phase }, { on := 15, ground := Go.Ground.phase }, { on := 16, ground := Go.Ground.phase }, { on := 17, ground := Go.Ground.phase }, { on := 18, ground := Go.Ground.phase }, { on := 19, ground := Go.Ground.phase }, { on := 20, ground := Go.Ground.phase }, { on := 21, ground := Go.Ground.phase }, { on := 22, ground := Go.Ground.phase }, { on := 23, ground := Go.Ground.phase }, { on := 24, ground := Go.Ground.phase }, { on := 25, ground := Go.Ground.phase }, { on := 26, ground := Go.Ground.phase }, { on := 27, ground := Go.Ground.phase }, { on := 28, ground := Go.Ground.phase }, { on := 29, ground := Go.Ground.phase }], guard := none }) (v := ?v30_195108) rfl (by kernel_rfl) (by kernel_rfl) (by kernel_rfl) (fun _ _ _ h => h) (Or.inl ⟨by rfl, ?y30_195108⟩) hHeld ?r30_195108
    case y30_195108 => intro w hSw; (try dsimp only at hSw); go_simp; try with_reducible rfl
    try simp only [Act.put, List.setIfInBounds_toArray, List.set_cons_zero, List.set_cons_succ]
    refine wpAnyH_done (by kernel_rfl) ?_ _
    go_wp2
    go_ret
    exact ⟨rfl, HB.out.trans ((HBL.out.trans (hHeld.mono HBL.out.size)).mono HB.out.size)⟩
end Go.Proofs.Ytkoafkajmfodkaa
