/- FrontErrors: the walk. -/
import Derived.Test.YtgppkpdjpcegbaaFtF
namespace Go.Proofs.Ytgppkpdjpcegbaa
open Go.RowKit

set_option maxRecDepth 100000 in
set_option maxHeartbeats 32000000 in
theorem walkErrors (id : Int) (qn : ByteArray) (qt qk op : Int) (rd tcp : Bool) (a0 : Option Addr) (n0 c0 : Nat) (w : World) : Calls Try.prog 4 #[.int .i64 id, .agg #[.string qn, .int .i64 qt, .int .i64 qk], .int .i64 op, .bool rd, .bool tcp, .slice a0 n0 c0] w fun e w' => e = .returned (.bool true) ∧ Below w.heap.size w w' := by
  have HB := Lib.hid (Below.refl w.heap.size w)
  go_enter Try.func4, Try.ntmps4
  have hba := (Below.refl _ _ : Below w.heap.size w w).alloc (Nat.le_refl _) (.cells #[.string qn, .int .i64 qt, .int .i64 qk] 27)
  have HQ := Lib.hid (CN.new w #[.string qn, .int .i64 qt, .int .i64 qk] 27)
  replace HB := Lib.hid (HB.out.trans (hba.mono HB.out.size))
  obtain ⟨w2, hw⟩ : ∃ x, w.alloc (.cells #[.string qn, .int .i64 qt, .int .i64 qk] 27) = x := ⟨_, rfl⟩
  obtain ⟨q2, hq⟩ : ∃ x, w.heap.size = x := ⟨_, rfl⟩
  rw [hw, hq] at HQ
  rw [hw] at HB
  have HW := Lib.hid hw
  have HQ_ := Lib.hid hq
  clear hba hw hq
  go_upto_region 1 with (fail)
  rw [HW.out, HQ_.out]
  clear HW HQ_
  go_wp2_with fail
  refine (first22 _).mono ?_; rintro e w3 ⟨rfl, hb⟩
  replace HB := Lib.hid (HB.out.trans (hb.mono HB.out.size))
  replace HQ := Lib.hid (HQ.out.below hb)
  clear hb
  by_cases g1 : id < 0
  · have d1 : decide (id < 0) = true := dT (by omega)
    obtain ⟨p0, p1, p2, _⟩ := HQ.out.v3
    go_wp2_with fail
    refine (first22 _).mono ?_; rintro e w4 ⟨rfl, hb⟩
    clear p0 p1 p2
    clear d1
    replace HB := Lib.hid (HB.out.trans (hb.mono HB.out.size))
    replace HQ := Lib.hid (HQ.out.below hb)
    clear hb
    go_wp2
    go_ret
    exact ⟨rfl, HB.out⟩
  have d1 : decide (id < 0) = false := dF (by omega)
  by_cases g2 : 65535 < id
  · have d2 : decide ((65535 : Int) < id) = true := dT (by omega)
    obtain ⟨p0, p1, p2, _⟩ := HQ.out.v3
    go_wp2_with fail
    refine (first22 _).mono ?_; rintro e w4 ⟨rfl, hb⟩
    clear p0 p1 p2
    clear d2
    replace HB := Lib.hid (HB.out.trans (hb.mono HB.out.size))
    replace HQ := Lib.hid (HQ.out.below hb)
    clear hb
    go_wp2
    go_ret
    exact ⟨rfl, HB.out⟩
  have d2 : decide ((65535 : Int) < id) = false := dF (by omega)
  by_cases g3 : 300 < qn.size
  · have d3 : decide ((300 : Int) < (qn.size : Int)) = true := dT (by omega)
    obtain ⟨p0, p1, p2, _⟩ := HQ.out.v3
    go_wp2_with fail
    refine (first22 _).mono ?_; rintro e w4 ⟨rfl, hb⟩
    clear p0 p1 p2
    clear d3
    replace HB := Lib.hid (HB.out.trans (hb.mono HB.out.size))
    replace HQ := Lib.hid (HQ.out.below hb)
    clear hb
    go_wp2
    go_ret
    exact ⟨rfl, HB.out⟩
  have d3 : decide ((300 : Int) < (qn.size : Int)) = false := dF (by omega)
  by_cases g4 : op < 1
  · have d4 : decide (op < 1) = true := dT (by omega)
    obtain ⟨p0, p1, p2, _⟩ := HQ.out.v3
    go_wp2_with fail
    refine (first22 _).mono ?_; rintro e w4 ⟨rfl, hb⟩
    clear p0 p1 p2
    clear d4
    replace HB := Lib.hid (HB.out.trans (hb.mono HB.out.size))
    replace HQ := Lib.hid (HQ.out.below hb)
    clear hb
    go_wp2
    go_ret
    exact ⟨rfl, HB.out⟩
  have d4 : decide (op < 1) = false := dF (by omega)
  by_cases g5 : 15 < op
  · have d5 : decide ((15 : Int) < op) = true := dT (by omega)
    obtain ⟨p0, p1, p2, _⟩ := HQ.out.v3
    go_wp2_with fail
    refine (first22 _).mono ?_; rintro e w4 ⟨rfl, hb⟩
    clear p0 p1 p2
    clear d5
    replace HB := Lib.hid (HB.out.trans (hb.mono HB.out.size))
    replace HQ := Lib.hid (HQ.out.below hb)
    clear hb
    go_wp2
    go_ret
    exact ⟨rfl, HB.out⟩
  have d5 : decide ((15 : Int) < op) = false := dF (by omega)
  by_cases g6 : 1000 < n0
  · have d6 : decide ((1000 : Int) < (n0 : Int)) = true := dT (by omega)
    obtain ⟨p0, p1, p2, _⟩ := HQ.out.v3
    go_wp2_with fail
    refine (first22 _).mono ?_; rintro e w4 ⟨rfl, hb⟩
    clear p0 p1 p2
    clear d6
    replace HB := Lib.hid (HB.out.trans (hb.mono HB.out.size))
    replace HQ := Lib.hid (HQ.out.below hb)
    clear hb
    go_wp2
    go_ret
    exact ⟨rfl, HB.out⟩
  have d6 : decide ((1000 : Int) < (n0 : Int)) = false := dF (by omega)
  have HID := Lib.hid (show 0 ≤ id ∧ id ≤ 65535 from ⟨by omega, by omega⟩)
  have HOP := Lib.hid (show 1 ≤ op ∧ op ≤ 15 from ⟨by omega, by omega⟩)
  have HQS := Lib.hid (show qn.size ≤ 1000000 by omega)
  clear g1 g2 g3 g4 g5 g6
  obtain ⟨p0, p1, p2, _⟩ := HQ.out.v3
  have HQZ := Lib.hid (show q2 < w3.heap.size from HQ.out.1)
  have hba := (Below.refl w3.heap.size w3).alloc (Nat.le_refl _) (.cells #[.string qn, .int .i64 qt, .int .i64 qk] 27)
  have HRQ := Lib.hid (show RowQ (w3.alloc (.cells #[.string qn, .int .i64 qt, .int .i64 qk] 27)) (some ⟨w3.heap.size, 0, none⟩) 1 [⟨qn, qt, qk⟩] from ⟨rfl, cells_lit w3 _ _⟩)
  replace HB := Lib.hid (HB.out.trans (hba.mono HB.out.size))
  replace HQ := Lib.hid (HQ.out.below hba)
  obtain ⟨wq1, hwq⟩ : ∃ x, w3.alloc (.cells #[.string qn, .int .i64 qt, .int .i64 qk] 27) = x := ⟨_, rfl⟩
  obtain ⟨qq1, hqq⟩ : ∃ x, w3.heap.size = x := ⟨_, rfl⟩
  rw [hwq, hqq] at HRQ
  rw [hwq] at HB HQ
  have HW := Lib.hid hwq
  have HQ_ := Lib.hid hqq
  clear hba hwq hqq
  go_wp2_with fail
  rw [HW.out, HQ_.out]
  clear HW HQ_
  refine (ask_ex id (some ⟨qq1, 0, none⟩) 1 1 [⟨qn, qt, qk⟩] _ HRQ.out (fun h => by cases h) (by decide)).mono ?_; rintro e w4 ⟨qa1, qc1, rfl, ho, hb⟩
  replace HB := Lib.hid (HB.out.trans (hb.mono HB.out.size))
  replace HQ := Lib.hid (HQ.out.below hb)
  clear hb
  clear p0 p1 p2
  have HO1 := Lib.hid ho
  have hap := fun k (hk : Value.ownBlock (.slice qa1 1 qc1) = some k) => (ho.lt k hk).2
  clear ho HRQ
  have HSZ1 := Lib.hid HB.out.size
  have hap2 : Apt (.slice qa1 1 qc1) w4.heap.size := fun k hk e => by have := hap k hk; injection e with e; omega
  clear hap
  have hba := (Below.refl _ _ : Below w4.heap.size w4 w4).alloc (Nat.le_refl _) (.cells #[.int .i64 id, .int .i64 0, .int .i64 0, .bool false, .bool false, .bool false, .bool false, .bool false, .slice qa1 1 qc1, .slice none 0 0, .slice none 0 0, .slice none 0 0] 37)
  have HM1 := Lib.hid (CN.new w4 #[.int .i64 id, .int .i64 0, .int .i64 0, .bool false, .bool false, .bool false, .bool false, .bool false, .slice qa1 1 qc1, .slice none 0 0, .slice none 0 0, .slice none 0 0] 37)
  replace HB := Lib.hid (HB.out.trans (hba.mono HB.out.size))
  replace HQ := Lib.hid (HQ.out.below hba)
  replace HO1 := Lib.hid (own_below' HO1.out hba)
  obtain ⟨w5, hw⟩ : ∃ x, w4.alloc (.cells #[.int .i64 id, .int .i64 0, .int .i64 0, .bool false, .bool false, .bool false, .bool false, .bool false, .slice qa1 1 qc1, .slice none 0 0, .slice none 0 0, .slice none 0 0] 37) = x := ⟨_, rfl⟩
  obtain ⟨q5, hq⟩ : ∃ x, w4.heap.size = x := ⟨_, rfl⟩
  rw [hw, hq] at HM1
  rw [hw] at HB HQ HO1
  have HW := Lib.hid hw
  have HQ_ := Lib.hid hq
  have HAP1 := Lib.hid (show Apt (.slice qa1 1 qc1) q5 from by rw [← hq]; exact hap2)
  have HQL1 := Lib.hid (show w.heap.size ≤ q5 from by rw [← hq]; exact HSZ1.out)
  clear hap2
  clear hba hw hq
  go_upto_region 6 with (fail)
  rw [HW.out, HQ_.out]
  clear HW HQ_
  have HNE1 := Lib.hid (show q2 ≠ q5 from fun e => by have h1 := HQ.out; have h2 := HM1.out; rw [e] at h1; have h3 := (h1.2 0 _ rfl).1; rw [(h2.2 0 _ rfl).1] at h3; cases h3)
  obtain ⟨y0, y1, y2, y3, y4, y5, y6, y7, y8, y9, y10, y11, f0, f1, f2, f3, f4, f5, f6, f7, f8, f9, f10, f11⟩ := HM1.out.u12
  have K1 := Lib.hid (show CN (w5.setCell ⟨q5, 6, none⟩ (.bool rd)) q5 [.int .i64 id, .int .i64 0, .int .i64 0, .bool false, .bool false, .bool false, .bool rd, .bool false, .slice qa1 1 qc1, .slice none 0 0, .slice none 0 0, .slice none 0 0] from (HM1.out.set 6 (by simp) (.bool rd)))
  have hg : w5.grownBy (w5.setCell ⟨q5, 6, none⟩ (.bool rd)) (some q5) := (grown_cell w5 q5 6 (.bool rd))
  replace HB := Lib.hid (HB.out.grown hg HB.out.size (fun k hk => by injection hk with hk; rw [← hk]; exact HQL1.out))
  replace HQ := Lib.hid (HQ.out.grown hg (fun e => by have := HNE1.out; injection e with e; omega))
  replace HO1 := Lib.hid (own_apart7 HO1.out hg HAP1.out)
  clear hg
  go_upto_region 7 with (fail)
  obtain ⟨wy6, hwy⟩ : ∃ x, (w5.setCell ⟨q5, 6, none⟩ (.bool rd)) = x := ⟨_, rfl⟩
  rw [hwy] at K1 HB HQ HO1 ⊢
  clear hwy y0 y1 y2 y3 y4 y5 y6 y7 y8 y9 y10 y11 f0 f1 f2 f3 f4 f5 f6 f7 f8 f9 f10 f11
  replace HM1 := K1
  clear K1
  have HQ13 := Lib.hid (show q5 < wy6.heap.size from HM1.out.1)
  obtain ⟨y0, y1, y2, y3, y4, y5, y6, y7, y8, y9, y10, y11, f0, f1, f2, f3, f4, f5, f6, f7, f8, f9, f10, f11⟩ := HM1.out.u12
  obtain ⟨EX, hE⟩ : ∃ x, encE2 (qM id 0 false rd [⟨qn, qt, qk⟩]) 16000 = x := ⟨_, rfl⟩
  obtain ⟨LX, hL⟩ : ∃ x, encL2 (qM id 0 false rd [⟨qn, qt, qk⟩]) 16000 = x := ⟨_, rfl⟩
  have HEX := Lib.hid hE
  have HLX := Lib.hid hL
  clear hE hL
  have HBBX := Lib.hid (show q5 < wy6.heap.size from HM1.out.1)
  go_wp2_with fail
  refine (enc_y _ (qM id 0 false rd [⟨qn, qt, qk⟩]) 16000 _ (msgAt_q id 0 false rd HO1.out rfl) (mok_q (by show (1 : Nat) ≤ 100000; decide) (by intro r hr; simp at hr; subst hr; exact HQS.out))).mono ?_; rintro e w7 ⟨u, rfl, ho, hb⟩
  replace HB := Lib.hid (HB.out.trans (hb.mono HB.out.size))
  replace HQ := Lib.hid (HQ.out.below hb)
  replace HO1 := Lib.hid (own_below' HO1.out hb)
  replace HM1 := Lib.hid (HM1.out.below hb)
  clear hb
  rw [HLX.out] at ho
  rw [HEX.out]
  obtain ⟨nX, hn⟩ : ∃ x, LX.length = x := ⟨_, rfl⟩
  rw [hn] at ho
  have HNX := Lib.hid hn
  obtain ⟨aX, cX, rfl, -⟩ := cellsK_own ho
  have HVX := Lib.hid ho
  clear ho hn y0 y1 y2 y3 y4 y5 y6 y7 y8 y9 y10 y11 f0 f1 f2 f3 f4 f5 f6 f7 f8 f9 f10 f11
  by_cases eE : EX = 0
  rotate_left
  · have n19 := nT eE
    clear eE
    go_wp2_with fail
    refine (first22 _).mono ?_; rintro e w8 ⟨rfl, hb⟩
    replace HB := Lib.hid (HB.out.trans (hb.mono HB.out.size))
    replace HQ := Lib.hid (HQ.out.below hb)
    replace HO1 := Lib.hid (own_below' HO1.out hb)
    replace HM1 := Lib.hid (HM1.out.below hb)
    replace HVX := Lib.hid (own_below' HVX.out hb)
    clear hb
    go_wp2
    go_ret
    exact ⟨rfl, HB.out⟩
  have n19 := nF eE
  subst eE
  go_upto_region 10 with (fail)
  obtain ⟨p0, p1, p2, _⟩ := HQ.out.v3
  have hba := (Below.refl w7.heap.size w7).alloc (Nat.le_refl _) (.cells #[.string qn, .int .i64 qt, .int .i64 qk, .string qn, .int .i64 qt, .int .i64 qk] 27)
  have HRQ := Lib.hid (show RowQ (w7.alloc (.cells #[.string qn, .int .i64 qt, .int .i64 qk, .string qn, .int .i64 qt, .int .i64 qk] 27)) (some ⟨w7.heap.size, 0, none⟩) 2 [⟨qn, qt, qk⟩, ⟨qn, qt, qk⟩] from ⟨rfl, cells_lit w7 _ _⟩)
  replace HB := Lib.hid (HB.out.trans (hba.mono HB.out.size))
  replace HQ := Lib.hid (HQ.out.below hba)
  replace HO1 := Lib.hid (own_below' HO1.out hba)
  replace HM1 := Lib.hid (HM1.out.below hba)
  replace HVX := Lib.hid (own_below' HVX.out hba)
  obtain ⟨wq2, hwq⟩ : ∃ x, w7.alloc (.cells #[.string qn, .int .i64 qt, .int .i64 qk, .string qn, .int .i64 qt, .int .i64 qk] 27) = x := ⟨_, rfl⟩
  obtain ⟨qq2, hqq⟩ : ∃ x, w7.heap.size = x := ⟨_, rfl⟩
  rw [hwq, hqq] at HRQ
  rw [hwq] at HB HQ HO1 HM1 HVX
  have HW := Lib.hid hwq
  have HQ_ := Lib.hid hqq
  clear hba hwq hqq
  go_wp2_with fail
  rw [HW.out, HQ_.out]
  clear HW HQ_
  refine (ask_ex id (some ⟨qq2, 0, none⟩) 2 2 [⟨qn, qt, qk⟩, ⟨qn, qt, qk⟩] _ HRQ.out (fun h => by cases h) (by decide)).mono ?_; rintro e w8 ⟨qa2, qc2, rfl, ho, hb⟩
  replace HB := Lib.hid (HB.out.trans (hb.mono HB.out.size))
  replace HQ := Lib.hid (HQ.out.below hb)
  replace HO1 := Lib.hid (own_below' HO1.out hb)
  replace HM1 := Lib.hid (HM1.out.below hb)
  replace HVX := Lib.hid (own_below' HVX.out hb)
  clear hb
  clear p0 p1 p2
  have HO2 := Lib.hid ho
  have hap := fun k (hk : Value.ownBlock (.slice qa2 2 qc2) = some k) => (ho.lt k hk).2
  clear ho HRQ
  have HSY2 := Lib.hid (show q5 < w8.heap.size from HM1.out.1)
  have HSZ2 := Lib.hid HB.out.size
  have HTLX := Lib.hid (fun k hk => (HVX.out.lt k hk).2)
  have HLO := Lib.hid (fun k hk => (HO1.out.lt k hk).2)
  have hap2 : Apt (.slice qa2 2 qc2) w8.heap.size := fun k hk e => by have := hap k hk; injection e with e; omega
  clear hap
  have hba := (Below.refl _ _ : Below w8.heap.size w8 w8).alloc (Nat.le_refl _) (.cells #[.int .i64 id, .int .i64 0, .int .i64 0, .bool false, .bool false, .bool false, .bool false, .bool false, .slice qa2 2 qc2, .slice none 0 0, .slice none 0 0, .slice none 0 0] 37)
  have HM2 := Lib.hid (CN.new w8 #[.int .i64 id, .int .i64 0, .int .i64 0, .bool false, .bool false, .bool false, .bool false, .bool false, .slice qa2 2 qc2, .slice none 0 0, .slice none 0 0, .slice none 0 0] 37)
  replace HB := Lib.hid (HB.out.trans (hba.mono HB.out.size))
  replace HQ := Lib.hid (HQ.out.below hba)
  replace HO1 := Lib.hid (own_below' HO1.out hba)
  replace HM1 := Lib.hid (HM1.out.below hba)
  replace HVX := Lib.hid (own_below' HVX.out hba)
  replace HO2 := Lib.hid (own_below' HO2.out hba)
  obtain ⟨w9, hw⟩ : ∃ x, w8.alloc (.cells #[.int .i64 id, .int .i64 0, .int .i64 0, .bool false, .bool false, .bool false, .bool false, .bool false, .slice qa2 2 qc2, .slice none 0 0, .slice none 0 0, .slice none 0 0] 37) = x := ⟨_, rfl⟩
  obtain ⟨q9, hq⟩ : ∃ x, w8.heap.size = x := ⟨_, rfl⟩
  rw [hw, hq] at HM2
  rw [hw] at HB HQ HO1 HM1 HVX HO2
  have HW := Lib.hid hw
  have HQ_ := Lib.hid hq
  have HNE3 := Lib.hid (show q5 ≠ q9 from by rw [← hq]; have := HSY2.out; omega)
  have HAX := Lib.hid (show Apt (.slice aX nX cX) q9 from fun k hk e => by have h1 := HTLX.out k hk; injection e with e; omega)
  have HAO := Lib.hid (show Apt (.slice qa1 1 qc1) q9 from fun k hk e => by have h1 := HLO.out k hk; injection e with e; omega)
  have HAP2 := Lib.hid (show Apt (.slice qa2 2 qc2) q9 from by rw [← hq]; exact hap2)
  have HQL2 := Lib.hid (show w.heap.size ≤ q9 from by rw [← hq]; exact HSZ2.out)
  clear hap2
  clear hba hw hq
  go_upto_region 11 with (fail)
  rw [HW.out, HQ_.out]
  clear HW HQ_
  have HNE2 := Lib.hid (show q2 ≠ q9 from fun e => by have h1 := HQ.out; have h2 := HM2.out; rw [e] at h1; have h3 := (h1.2 0 _ rfl).1; rw [(h2.2 0 _ rfl).1] at h3; cases h3)
  obtain ⟨y0, y1, y2, y3, y4, y5, y6, y7, y8, y9, y10, y11, f0, f1, f2, f3, f4, f5, f6, f7, f8, f9, f10, f11⟩ := HM2.out.u12
  have K1 := Lib.hid (show CN (w9.setCell ⟨q9, 6, none⟩ (.bool rd)) q9 [.int .i64 id, .int .i64 0, .int .i64 0, .bool false, .bool false, .bool false, .bool rd, .bool false, .slice qa2 2 qc2, .slice none 0 0, .slice none 0 0, .slice none 0 0] from (HM2.out.set 6 (by simp) (.bool rd)))
  have hg : w9.grownBy (w9.setCell ⟨q9, 6, none⟩ (.bool rd)) (some q9) := (grown_cell w9 q9 6 (.bool rd))
  replace HB := Lib.hid (HB.out.grown hg HB.out.size (fun k hk => by injection hk with hk; rw [← hk]; exact HQL2.out))
  replace HQ := Lib.hid (HQ.out.grown hg (fun e => by have := HNE2.out; injection e with e; omega))
  replace HO1 := Lib.hid (own_apart7 HO1.out hg HAO.out)
  replace HM1 := Lib.hid (HM1.out.grown hg (fun e => by have := HNE3.out; injection e with e; omega))
  replace HVX := Lib.hid (own_apart7 HVX.out hg HAX.out)
  replace HO2 := Lib.hid (own_apart7 HO2.out hg HAP2.out)
  clear hg
  go_upto_region 12 with (fail)
  obtain ⟨wy10, hwy⟩ : ∃ x, (w9.setCell ⟨q9, 6, none⟩ (.bool rd)) = x := ⟨_, rfl⟩
  rw [hwy] at K1 HB HQ HO1 HM1 HVX HO2 ⊢
  clear hwy y0 y1 y2 y3 y4 y5 y6 y7 y8 y9 y10 y11 f0 f1 f2 f3 f4 f5 f6 f7 f8 f9 f10 f11
  replace HM2 := K1
  clear K1
  obtain ⟨y0, y1, y2, y3, y4, y5, y6, y7, y8, y9, y10, y11, f0, f1, f2, f3, f4, f5, f6, f7, f8, f9, f10, f11⟩ := HM2.out.u12
  obtain ⟨EY, hE⟩ : ∃ x, encE2 (qM id 0 false rd [⟨qn, qt, qk⟩, ⟨qn, qt, qk⟩]) 16000 = x := ⟨_, rfl⟩
  obtain ⟨LY, hL⟩ : ∃ x, encL2 (qM id 0 false rd [⟨qn, qt, qk⟩, ⟨qn, qt, qk⟩]) 16000 = x := ⟨_, rfl⟩
  have HEY := Lib.hid hE
  have HLY := Lib.hid hL
  clear hE hL
  have HBBY := Lib.hid (show q5 < wy10.heap.size from HM1.out.1)
  go_wp2_with fail
  refine (enc_y _ (qM id 0 false rd [⟨qn, qt, qk⟩, ⟨qn, qt, qk⟩]) 16000 _ (msgAt_q id 0 false rd HO2.out rfl) (mok_q (by show (2 : Nat) ≤ 100000; decide) (by intro r hr; simp at hr; subst hr; exact HQS.out))).mono ?_; rintro e w11 ⟨u, rfl, ho, hb⟩
  replace HB := Lib.hid (HB.out.trans (hb.mono HB.out.size))
  replace HQ := Lib.hid (HQ.out.below hb)
  replace HO1 := Lib.hid (own_below' HO1.out hb)
  replace HM1 := Lib.hid (HM1.out.below hb)
  replace HVX := Lib.hid (own_below' HVX.out hb)
  replace HO2 := Lib.hid (own_below' HO2.out hb)
  replace HM2 := Lib.hid (HM2.out.below hb)
  clear hb
  rw [HLY.out] at ho
  rw [HEY.out]
  obtain ⟨nY, hn⟩ : ∃ x, LY.length = x := ⟨_, rfl⟩
  rw [hn] at ho
  have HNY := Lib.hid hn
  obtain ⟨aY, cY, rfl, -⟩ := cellsK_own ho
  have HVY := Lib.hid ho
  clear ho hn y0 y1 y2 y3 y4 y5 y6 y7 y8 y9 y10 y11 f0 f1 f2 f3 f4 f5 f6 f7 f8 f9 f10 f11
  clear HM2 HO2
  go_upto_region 13 with (fail)
  obtain ⟨y0, y1, y2, y3, y4, y5, y6, y7, y8, y9, y10, y11, f0, f1, f2, f3, f4, f5, f6, f7, f8, f9, f10, f11⟩ := HM1.out.u12
  have K1 := Lib.hid (show CN (w11.setCell ⟨q5, 1, none⟩ (.int .i64 op)) q5 [.int .i64 id, .int .i64 op, .int .i64 0, .bool false, .bool false, .bool false, .bool rd, .bool false, .slice qa1 1 qc1, .slice none 0 0, .slice none 0 0, .slice none 0 0] from (HM1.out.set 1 (by simp) (.int .i64 op)))
  have hg : w11.grownBy (w11.setCell ⟨q5, 1, none⟩ (.int .i64 op)) (some q5) := (grown_cell w11 q5 1 (.int .i64 op))
  replace HB := Lib.hid (HB.out.grown hg HB.out.size (fun k hk => by injection hk with hk; rw [← hk]; exact HQL1.out))
  replace HQ := Lib.hid (HQ.out.grown hg (fun e => by have := HNE1.out; injection e with e; omega))
  replace HO1 := Lib.hid (own_apart7 HO1.out hg HAP1.out)
  replace HVX := Lib.hid (own_apart7 HVX.out hg (fun k hk e => by have h1 := (HVX.out.lt k hk).1; have h2 := HBBX.out; injection e with e; omega))
  replace HVY := Lib.hid (own_apart7 HVY.out hg (fun k hk e => by have h1 := (HVY.out.lt k hk).1; have h2 := HBBY.out; injection e with e; omega))
  clear hg
  go_upto_region 14 with (fail)
  obtain ⟨wy12, hwy⟩ : ∃ x, (w11.setCell ⟨q5, 1, none⟩ (.int .i64 op)) = x := ⟨_, rfl⟩
  rw [hwy] at K1 HB HQ HO1 HVX HVY ⊢
  clear hwy y0 y1 y2 y3 y4 y5 y6 y7 y8 y9 y10 y11 f0 f1 f2 f3 f4 f5 f6 f7 f8 f9 f10 f11
  replace HM1 := K1
  clear K1
  obtain ⟨y0, y1, y2, y3, y4, y5, y6, y7, y8, y9, y10, y11, f0, f1, f2, f3, f4, f5, f6, f7, f8, f9, f10, f11⟩ := HM1.out.u12
  obtain ⟨EZ, hE⟩ : ∃ x, encE2 (qM id op false rd [⟨qn, qt, qk⟩]) 16000 = x := ⟨_, rfl⟩
  obtain ⟨LZ, hL⟩ : ∃ x, encL2 (qM id op false rd [⟨qn, qt, qk⟩]) 16000 = x := ⟨_, rfl⟩
  have HEZ := Lib.hid hE
  have HLZ := Lib.hid hL
  clear hE hL
  have HBBZ := Lib.hid (show q5 < wy12.heap.size from HM1.out.1)
  go_wp2_with fail
  refine (enc_y _ (qM id op false rd [⟨qn, qt, qk⟩]) 16000 _ (msgAt_q id op false rd HO1.out rfl) (mok_q (by show (1 : Nat) ≤ 100000; decide) (by intro r hr; simp at hr; subst hr; exact HQS.out))).mono ?_; rintro e w13 ⟨u, rfl, ho, hb⟩
  replace HB := Lib.hid (HB.out.trans (hb.mono HB.out.size))
  replace HQ := Lib.hid (HQ.out.below hb)
  replace HO1 := Lib.hid (own_below' HO1.out hb)
  replace HM1 := Lib.hid (HM1.out.below hb)
  replace HVX := Lib.hid (own_below' HVX.out hb)
  replace HVY := Lib.hid (own_below' HVY.out hb)
  clear hb
  rw [HLZ.out] at ho
  rw [HEZ.out]
  obtain ⟨nZ, hn⟩ : ∃ x, LZ.length = x := ⟨_, rfl⟩
  rw [hn] at ho
  have HNZ := Lib.hid hn
  obtain ⟨aZ, cZ, rfl, -⟩ := cellsK_own ho
  have HVZ := Lib.hid ho
  clear ho hn y0 y1 y2 y3 y4 y5 y6 y7 y8 y9 y10 y11 f0 f1 f2 f3 f4 f5 f6 f7 f8 f9 f10 f11
  go_upto_region 15 with (fail)
  obtain ⟨y0, y1, y2, y3, y4, y5, y6, y7, y8, y9, y10, y11, f0, f1, f2, f3, f4, f5, f6, f7, f8, f9, f10, f11⟩ := HM1.out.u12
  have K1 := Lib.hid (show CN ((w13.setCell ⟨q5, 1, none⟩ (.int .i64 0)).setCell ⟨q5, 3, none⟩ (.bool true)) q5 [.int .i64 id, .int .i64 0, .int .i64 0, .bool true, .bool false, .bool false, .bool rd, .bool false, .slice qa1 1 qc1, .slice none 0 0, .slice none 0 0, .slice none 0 0] from ((HM1.out.set 1 (by simp) (.int .i64 0)).set 3 (by simp) (.bool true)))
  have hg : w13.grownBy ((w13.setCell ⟨q5, 1, none⟩ (.int .i64 0)).setCell ⟨q5, 3, none⟩ (.bool true)) (some q5) := ((grown_cell w13 q5 1 (.int .i64 0)).trans (grown_cell _ q5 3 (.bool true)))
  replace HB := Lib.hid (HB.out.grown hg HB.out.size (fun k hk => by injection hk with hk; rw [← hk]; exact HQL1.out))
  replace HQ := Lib.hid (HQ.out.grown hg (fun e => by have := HNE1.out; injection e with e; omega))
  replace HO1 := Lib.hid (own_apart7 HO1.out hg HAP1.out)
  replace HVX := Lib.hid (own_apart7 HVX.out hg (fun k hk e => by have h1 := (HVX.out.lt k hk).1; have h2 := HBBX.out; injection e with e; omega))
  replace HVY := Lib.hid (own_apart7 HVY.out hg (fun k hk e => by have h1 := (HVY.out.lt k hk).1; have h2 := HBBY.out; injection e with e; omega))
  replace HVZ := Lib.hid (own_apart7 HVZ.out hg (fun k hk e => by have h1 := (HVZ.out.lt k hk).1; have h2 := HBBZ.out; injection e with e; omega))
  clear hg
  go_upto_region 16 with (fail)
  obtain ⟨wy14, hwy⟩ : ∃ x, ((w13.setCell ⟨q5, 1, none⟩ (.int .i64 0)).setCell ⟨q5, 3, none⟩ (.bool true)) = x := ⟨_, rfl⟩
  rw [hwy] at K1 HB HQ HO1 HVX HVY HVZ ⊢
  clear hwy y0 y1 y2 y3 y4 y5 y6 y7 y8 y9 y10 y11 f0 f1 f2 f3 f4 f5 f6 f7 f8 f9 f10 f11
  replace HM1 := K1
  clear K1
  obtain ⟨y0, y1, y2, y3, y4, y5, y6, y7, y8, y9, y10, y11, f0, f1, f2, f3, f4, f5, f6, f7, f8, f9, f10, f11⟩ := HM1.out.u12
  obtain ⟨EW, hE⟩ : ∃ x, encE2 (qM id 0 true rd [⟨qn, qt, qk⟩]) 16000 = x := ⟨_, rfl⟩
  obtain ⟨LW, hL⟩ : ∃ x, encL2 (qM id 0 true rd [⟨qn, qt, qk⟩]) 16000 = x := ⟨_, rfl⟩
  have HEW := Lib.hid hE
  have HLW := Lib.hid hL
  clear hE hL
  have HBBW := Lib.hid (show q5 < wy14.heap.size from HM1.out.1)
  go_wp2_with fail
  refine (enc_y _ (qM id 0 true rd [⟨qn, qt, qk⟩]) 16000 _ (msgAt_q id 0 true rd HO1.out rfl) (mok_q (by show (1 : Nat) ≤ 100000; decide) (by intro r hr; simp at hr; subst hr; exact HQS.out))).mono ?_; rintro e w15 ⟨u, rfl, ho, hb⟩
  replace HB := Lib.hid (HB.out.trans (hb.mono HB.out.size))
  replace HQ := Lib.hid (HQ.out.below hb)
  replace HO1 := Lib.hid (own_below' HO1.out hb)
  replace HM1 := Lib.hid (HM1.out.below hb)
  replace HVX := Lib.hid (own_below' HVX.out hb)
  replace HVY := Lib.hid (own_below' HVY.out hb)
  replace HVZ := Lib.hid (own_below' HVZ.out hb)
  clear hb
  rw [HLW.out] at ho
  rw [HEW.out]
  obtain ⟨nW, hn⟩ : ∃ x, LW.length = x := ⟨_, rfl⟩
  rw [hn] at ho
  have HNW := Lib.hid hn
  obtain ⟨aW, cW, rfl, -⟩ := cellsK_own ho
  have HVW := Lib.hid ho
  clear ho hn y0 y1 y2 y3 y4 y5 y6 y7 y8 y9 y10 y11 f0 f1 f2 f3 f4 f5 f6 f7 f8 f9 f10 f11
  clear HM1 HO1 HQ
  have hI := inR_mk (x := id) (m := 65535) HID.out.1 HID.out.2
  have hO := inR_mk (x := op) (m := 15) (by have := HOP.out.1; omega) HOP.out.2
  have hy := read_two (fr := ⟨#[99]⟩) (tcp := tcp) HEX.out
  have hz := read_opc (fr := ⟨#[99]⟩) (tcp := tcp) HEX.out HOP.out
  have hw := read_qr (fr := ⟨#[99]⟩) (tcp := tcp) HEX.out
  have hm := read_more (fr := ⟨#[99]⟩) (tcp := tcp) HEX.out 1
  have hx := (enc_zero HEX.out)
  rw [HLY.out] at hy
  rw [HLZ.out] at hz
  rw [HLW.out] at hw
  rw [show encL2 (qM id 0 false rd [⟨qn, qt, qk⟩]) 16000 = LX from HLX.out] at hm hx
  rw [HNY.out] at hy
  rw [HNZ.out] at hz
  rw [HNW.out] at hw
  have HRY := Lib.hid hy.2
  have HRZ := Lib.hid hz.2
  have HRW := Lib.hid hw.2
  have HRM := Lib.hid hm
  have HXN := Lib.hid (show nX ≤ 16000 by have h1 := hx.2.2.2.2; rw [← hx.2.1, HNX.out] at h1; exact h1)
  have f1 := failL_ok (rd := rd) (op := 0) (rc := 1) hI rfl rfl
  have f2 := failL_ok (rd := rd) (rc := 4) hI hO rfl
  have HF1 := Lib.hid f1
  have HF2 := Lib.hid f2
  clear hI hO hy hz hw hm hx f1 f2 n19
  go_wp2_with fail
  refine (read_bad ⟨#[99]⟩ tcp aY nY cY LY (failL id 0 1 rd []) _ (rowB_own HVY.out).1 (rowB_own HVY.out).2 (by have := HRY.out.2; omega) (own_cap HVY.out) HRY.out.1).mono ?_; rintro e w16 ⟨⟨v, rfl, ho⟩, hb⟩
  replace HB := Lib.hid (HB.out.trans (hb.mono HB.out.size))
  replace HVX := Lib.hid (own_below' HVX.out hb)
  replace HVY := Lib.hid (own_below' HVY.out hb)
  replace HVZ := Lib.hid (own_below' HVZ.out hb)
  replace HVW := Lib.hid (own_below' HVW.out hb)
  clear hb
  rw [HF1.out.2] at ho
  obtain ⟨bY, kY, rfl, -⟩ := cellsK_own ho
  have HTY := Lib.hid ho
  clear ho
  clear HVY
  have hba := (Below.refl _ _ : Below w16.heap.size w16 w16).alloc (Nat.le_refl _) (.cells #[.string ⟨#[]⟩, .int .i64 0, .int .i64 0, .string ⟨#[]⟩, .int .i64 0, .int .i64 0, .bool false, .bool false, .bool false] 29)
  have HJ := Lib.hid (CN.new w16 #[.string ⟨#[]⟩, .int .i64 0, .int .i64 0, .string ⟨#[]⟩, .int .i64 0, .int .i64 0, .bool false, .bool false, .bool false] 29)
  replace HB := Lib.hid (HB.out.trans (hba.mono HB.out.size))
  replace HVX := Lib.hid (own_below' HVX.out hba)
  replace HVZ := Lib.hid (own_below' HVZ.out hba)
  replace HVW := Lib.hid (own_below' HVW.out hba)
  replace HTY := Lib.hid (own_below' HTY.out hba)
  obtain ⟨w17, hw⟩ : ∃ x, w16.alloc (.cells #[.string ⟨#[]⟩, .int .i64 0, .int .i64 0, .string ⟨#[]⟩, .int .i64 0, .int .i64 0, .bool false, .bool false, .bool false] 29) = x := ⟨_, rfl⟩
  obtain ⟨q17, hq⟩ : ∃ x, w16.heap.size = x := ⟨_, rfl⟩
  rw [hw, hq] at HJ
  rw [hw] at HB HVX HVZ HVW HTY
  have HW := Lib.hid hw
  have HQ_ := Lib.hid hq
  clear hba hw hq
  go_upto_region 18 with (fail)
  rw [HW.out, HQ_.out]
  clear HW HQ_
  clear HJ
  go_wp2_with fail
  refine (read_bad ⟨#[99]⟩ tcp aZ nZ cZ LZ (failL id op 4 rd []) _ (rowB_own HVZ.out).1 (rowB_own HVZ.out).2 (by have := HRZ.out.2; omega) (own_cap HVZ.out) HRZ.out.1).mono ?_; rintro e w18 ⟨⟨v, rfl, ho⟩, hb⟩
  replace HB := Lib.hid (HB.out.trans (hb.mono HB.out.size))
  replace HVX := Lib.hid (own_below' HVX.out hb)
  replace HVZ := Lib.hid (own_below' HVZ.out hb)
  replace HVW := Lib.hid (own_below' HVW.out hb)
  replace HTY := Lib.hid (own_below' HTY.out hb)
  clear hb
  rw [HF2.out.2] at ho
  obtain ⟨bZ, kZ, rfl, -⟩ := cellsK_own ho
  have HTZ := Lib.hid ho
  clear ho
  clear HVZ
  have hba := (Below.refl _ _ : Below w18.heap.size w18 w18).alloc (Nat.le_refl _) (.cells #[.string ⟨#[]⟩, .int .i64 0, .int .i64 0, .string ⟨#[]⟩, .int .i64 0, .int .i64 0, .bool false, .bool false, .bool false] 29)
  have HJ := Lib.hid (CN.new w18 #[.string ⟨#[]⟩, .int .i64 0, .int .i64 0, .string ⟨#[]⟩, .int .i64 0, .int .i64 0, .bool false, .bool false, .bool false] 29)
  replace HB := Lib.hid (HB.out.trans (hba.mono HB.out.size))
  replace HVX := Lib.hid (own_below' HVX.out hba)
  replace HVW := Lib.hid (own_below' HVW.out hba)
  replace HTY := Lib.hid (own_below' HTY.out hba)
  replace HTZ := Lib.hid (own_below' HTZ.out hba)
  obtain ⟨w19, hw⟩ : ∃ x, w18.alloc (.cells #[.string ⟨#[]⟩, .int .i64 0, .int .i64 0, .string ⟨#[]⟩, .int .i64 0, .int .i64 0, .bool false, .bool false, .bool false] 29) = x := ⟨_, rfl⟩
  obtain ⟨q19, hq⟩ : ∃ x, w18.heap.size = x := ⟨_, rfl⟩
  rw [hw, hq] at HJ
  rw [hw] at HB HVX HVW HTY HTZ
  have HW := Lib.hid hw
  have HQ_ := Lib.hid hq
  clear hba hw hq
  go_upto_region 19 with (fail)
  rw [HW.out, HQ_.out]
  clear HW HQ_
  clear HJ
  go_wp2_with fail
  refine (read_bad ⟨#[99]⟩ tcp aW nW cW LW [] _ (rowB_own HVW.out).1 (rowB_own HVW.out).2 (by have := HRW.out.2; omega) (own_cap HVW.out) HRW.out.1).mono ?_; rintro e w20 ⟨⟨v, rfl, ho⟩, hb⟩
  replace HB := Lib.hid (HB.out.trans (hb.mono HB.out.size))
  replace HVX := Lib.hid (own_below' HVX.out hb)
  replace HVW := Lib.hid (own_below' HVW.out hb)
  replace HTY := Lib.hid (own_below' HTY.out hb)
  replace HTZ := Lib.hid (own_below' HTZ.out hb)
  clear hb
  obtain ⟨bW, kW, rfl, -⟩ := cellsK_own ho
  have HTW := Lib.hid ho
  clear ho
  clear HVW
  have hba := (Below.refl _ _ : Below w20.heap.size w20 w20).alloc (Nat.le_refl _) (.cells #[.string ⟨#[]⟩, .int .i64 0, .int .i64 0, .string ⟨#[]⟩, .int .i64 0, .int .i64 0, .bool false, .bool false, .bool false] 29)
  have HJ := Lib.hid (CN.new w20 #[.string ⟨#[]⟩, .int .i64 0, .int .i64 0, .string ⟨#[]⟩, .int .i64 0, .int .i64 0, .bool false, .bool false, .bool false] 29)
  replace HB := Lib.hid (HB.out.trans (hba.mono HB.out.size))
  replace HVX := Lib.hid (own_below' HVX.out hba)
  replace HTY := Lib.hid (own_below' HTY.out hba)
  replace HTZ := Lib.hid (own_below' HTZ.out hba)
  replace HTW := Lib.hid (own_below' HTW.out hba)
  obtain ⟨w21, hw⟩ : ∃ x, w20.alloc (.cells #[.string ⟨#[]⟩, .int .i64 0, .int .i64 0, .string ⟨#[]⟩, .int .i64 0, .int .i64 0, .bool false, .bool false, .bool false] 29) = x := ⟨_, rfl⟩
  obtain ⟨q21, hq⟩ : ∃ x, w20.heap.size = x := ⟨_, rfl⟩
  rw [hw, hq] at HJ
  rw [hw] at HB HVX HTY HTZ HTW
  have HW := Lib.hid hw
  have HQ_ := Lib.hid hq
  clear hba hw hq
  go_upto_region 20 with (fail)
  rw [HW.out, HQ_.out]
  clear HW HQ_
  clear HJ
  have HBW := Lib.hid (Below.refl w21.heap.size w21)
  have HBASE := Lib.hid HB.out.size
  have HHTYL := Lib.hid (fun k hk => (HTY.out.lt k hk).2)
  have HHTZL := Lib.hid (fun k hk => (HTZ.out.lt k hk).2)
  have HHTWL := Lib.hid (fun k hk => (HTW.out.lt k hk).2)
  go_wp2_with fail
  refine (copyBytes_any aX nX cX LX _ (rowB_own HVX.out).1 (rowB_own HVX.out).2 (by have := HXN.out; omega)).mono ?_; rintro e w22 ⟨v, rfl, ho, hb⟩
  replace HB := Lib.hid (HB.out.trans (hb.mono HB.out.size))
  replace HVX := Lib.hid (own_below' HVX.out hb)
  replace HTY := Lib.hid (own_below' HTY.out hb)
  replace HTZ := Lib.hid (own_below' HTZ.out hb)
  replace HTW := Lib.hid (own_below' HTW.out hb)
  replace HBW := Lib.hid (HBW.out.trans (hb.mono HBW.out.size))
  clear hb
  obtain ⟨a9, c9, rfl, -⟩ := cellsK_own ho
  have HC9 := Lib.hid ho
  clear ho
  clear HVX
  have hba := (Below.refl w22.heap.size w22).alloc (Nat.le_refl _) (.cells #[.int .u8 1] 5)
  have HR1 := Lib.hid (show RowB (w22.alloc (.cells #[.int .u8 1] 5)) (some ⟨w22.heap.size, 0, none⟩) 1 [1] from cells_lit w22 #[.int .u8 1] 5)
  replace HB := Lib.hid (HB.out.trans (hba.mono HB.out.size))
  replace HTY := Lib.hid (own_below' HTY.out hba)
  replace HTZ := Lib.hid (own_below' HTZ.out hba)
  replace HTW := Lib.hid (own_below' HTW.out hba)
  replace HBW := Lib.hid (HBW.out.trans (hba.mono HBW.out.size))
  replace HC9 := Lib.hid (own_below' HC9.out hba)
  obtain ⟨wl, hw⟩ : ∃ x, w22.alloc (.cells #[.int .u8 1] 5) = x := ⟨_, rfl⟩
  obtain ⟨ql, hq⟩ : ∃ x, w22.heap.size = x := ⟨_, rfl⟩
  rw [hw, hq] at HR1
  rw [hw] at HB HTY HTZ HTW HBW HC9
  have HW := Lib.hid hw
  have HQ_ := Lib.hid hq
  clear hba hw hq
  obtain ⟨i0, hi, hz0, hz1, hz2⟩ := info_parts infoU8
  go_wp2_with (at_builtin; go_must (rw [HW.out, HQ_.out]; refine append_cells rfl _ _ 22 5 rfl i0 (.int .u8 0) 1 Try.underlying22 hi hz0 hz1 hz2 rfl w21.heap.size _ nX _ rfl HC9.out (some ⟨ql, 0, none⟩) 1 1 (bc [1]) rfl (fun h => by cases h) HR1.out (bc_oneCell _) (by have := HXN.out; omega) (by decide) HBW.out.size ?_))
  intro v9 w9 hown hgrow
  have hlow : ∀ j, (Value.slice a9 nX c9).ownBlock = some j → w21.heap.size ≤ j := fun j hj => (HC9.out.lt j hj).1
  replace HB := Lib.hid (HB.out.grown hgrow HB.out.size (fun k hk => Nat.le_trans HBASE.out (hlow k hk)))
  replace HTY := Lib.hid (own_apart7 HTY.out hgrow (fun k hk e => by have h1 := HHTYL.out k hk; have h2 := hlow k e; omega))
  replace HTZ := Lib.hid (own_apart7 HTZ.out hgrow (fun k hk e => by have h1 := HHTZL.out k hk; have h2 := hlow k e; omega))
  replace HTW := Lib.hid (own_apart7 HTW.out hgrow (fun k hk e => by have h1 := HHTWL.out k hk; have h2 := hlow k e; omega))
  rw [show bc LX ++ bc [1] = bc (LX ++ [1]) from by simp [bc]] at hown
  obtain ⟨a8, c8, rfl, -⟩ := cellsK_own hown
  have HC8 := Lib.hid hown
  clear hown hgrow hlow HC9 HR1 HW HQ_
  go_wp2_with fail
  refine (read_bad ⟨#[99]⟩ tcp a8 (nX + 1) c8 (LX ++ [1]) (failL id 0 1 rd []) _ (rowB_own HC8.out).1 (rowB_own HC8.out).2 (by have := HXN.out; omega) (own_cap HC8.out) HRM.out).mono ?_; rintro e w23 ⟨⟨v, rfl, ho⟩, hb⟩
  replace HB := Lib.hid (HB.out.trans (hb.mono HB.out.size))
  replace HTY := Lib.hid (own_below' HTY.out hb)
  replace HTZ := Lib.hid (own_below' HTZ.out hb)
  replace HTW := Lib.hid (own_below' HTW.out hb)
  replace HC8 := Lib.hid (own_below' HC8.out hb)
  clear hb
  rw [HF1.out.2] at ho
  obtain ⟨bM, kM, rfl, -⟩ := cellsK_own ho
  have HTM := Lib.hid ho
  clear ho
  clear HC8
  have hba := (Below.refl _ _ : Below w23.heap.size w23 w23).alloc (Nat.le_refl _) (.cells #[.string ⟨#[]⟩, .int .i64 0, .int .i64 0, .string ⟨#[]⟩, .int .i64 0, .int .i64 0, .bool false, .bool false, .bool false] 29)
  have HJ := Lib.hid (CN.new w23 #[.string ⟨#[]⟩, .int .i64 0, .int .i64 0, .string ⟨#[]⟩, .int .i64 0, .int .i64 0, .bool false, .bool false, .bool false] 29)
  replace HB := Lib.hid (HB.out.trans (hba.mono HB.out.size))
  replace HTY := Lib.hid (own_below' HTY.out hba)
  replace HTZ := Lib.hid (own_below' HTZ.out hba)
  replace HTW := Lib.hid (own_below' HTW.out hba)
  replace HTM := Lib.hid (own_below' HTM.out hba)
  obtain ⟨w24, hw⟩ : ∃ x, w23.alloc (.cells #[.string ⟨#[]⟩, .int .i64 0, .int .i64 0, .string ⟨#[]⟩, .int .i64 0, .int .i64 0, .bool false, .bool false, .bool false] 29) = x := ⟨_, rfl⟩
  obtain ⟨q24, hq⟩ : ∃ x, w23.heap.size = x := ⟨_, rfl⟩
  rw [hw, hq] at HJ
  rw [hw] at HB HTY HTZ HTW HTM
  have HW := Lib.hid hw
  have HQ_ := Lib.hid hq
  clear hba hw hq
  go_upto_region 21 with (fail)
  rw [HW.out, HQ_.out]
  clear HW HQ_
  clear HJ
  go_wp2_with fail
  refine (first22 _).mono ?_; rintro e w25 ⟨rfl, hb⟩
  replace HB := Lib.hid (HB.out.trans (hb.mono HB.out.size))
  replace HTY := Lib.hid (own_below' HTY.out hb)
  replace HTZ := Lib.hid (own_below' HTZ.out hb)
  replace HTW := Lib.hid (own_below' HTW.out hb)
  replace HTM := Lib.hid (own_below' HTM.out hb)
  clear hb
  go_wp2_with fail
  refine (told_any bY 12 kY _ id 0 1 rd _ (rowB_own HTY.out).1 (rowB_own HTY.out).2 (by decide) HF1.out.1).mono ?_; rintro e w26 ⟨rfl, hb⟩
  replace HB := Lib.hid (HB.out.trans (hb.mono HB.out.size))
  replace HTY := Lib.hid (own_below' HTY.out hb)
  replace HTZ := Lib.hid (own_below' HTZ.out hb)
  replace HTW := Lib.hid (own_below' HTW.out hb)
  replace HTM := Lib.hid (own_below' HTM.out hb)
  clear hb
  go_wp2_with fail
  refine (told_any bZ 12 kZ _ id op 4 rd _ (rowB_own HTZ.out).1 (rowB_own HTZ.out).2 (by decide) HF2.out.1).mono ?_; rintro e w27 ⟨rfl, hb⟩
  replace HB := Lib.hid (HB.out.trans (hb.mono HB.out.size))
  replace HTY := Lib.hid (own_below' HTY.out hb)
  replace HTZ := Lib.hid (own_below' HTZ.out hb)
  replace HTW := Lib.hid (own_below' HTW.out hb)
  replace HTM := Lib.hid (own_below' HTM.out hb)
  clear hb
  go_wp2_with fail
  refine (told_any bM 12 kM _ id 0 1 rd _ (rowB_own HTM.out).1 (rowB_own HTM.out).2 (by decide) HF1.out.1).mono ?_; rintro e w28 ⟨rfl, hb⟩
  replace HB := Lib.hid (HB.out.trans (hb.mono HB.out.size))
  replace HTY := Lib.hid (own_below' HTY.out hb)
  replace HTZ := Lib.hid (own_below' HTZ.out hb)
  replace HTW := Lib.hid (own_below' HTW.out hb)
  replace HTM := Lib.hid (own_below' HTM.out hb)
  clear hb
  go_wp2
  go_ret
  exact ⟨rfl, HB.out⟩


end Go.Proofs.Ytgppkpdjpcegbaa
