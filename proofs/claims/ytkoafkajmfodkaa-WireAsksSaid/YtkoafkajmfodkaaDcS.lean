/- The document's Same. -/
import Derived.Test.YtkoafkajmfodkaaSaM
namespace Go.Proofs.Ytkoafkajmfodkaa
open Go.RowKit

theorem hx_equal (ai bi : Int) (ao bo : Int) (ar br : Int) (p1 q1 : Bool) (p2 q2 : Bool) (p3 q3 : Bool) (p4 q4 : Bool) (p5 q5 : Bool) (W : World) : (Op.equalIn 10000 30 (.agg #[.int .i64 ai, .int .i64 ao, .int .i64 ar, .bool p1, .bool p2, .bool p3, .bool p4, .bool p5]) (.agg #[.int .i64 bi, .int .i64 bo, .int .i64 br, .bool q1, .bool q2, .bool q3, .bool q4, .bool q5])).run Try.prog W = .ok (ai == bi && (ao == bo && (ar == br && (p1 == q1 && (p2 == q2 && (p3 == q3 && (p4 == q4 && (p5 == q5)))))))) W := by
  have u3 := Try.underlying3
  have a3 := Try.isAgg3
  have z3 := Try.sizeOf3
  have u4 := Try.underlying4
  have a4 := Try.isAgg4
  have z4 := Try.sizeOf4
  have hS : Try.prog.underlying 30 = some (.struct (Try.prog.fieldsOf 30)) := by
    simp [Program.fieldsOf, Try.underlying30]
  rw [show (10000 : Nat) = 9999 + 1 from rfl, run_equalIn_agg W 9999 30 _ _ hS (by kernel_rfl)]
  simp only [Program.fieldsOf, Try.underlying30]
  go_simp
  by_cases h0 : ai = bi <;> by_cases h1 : ao = bo <;> by_cases h2 : ar = br <;> by_cases h3 : p1 = q1 <;> by_cases h4 : p2 = q2 <;> by_cases h5 : p3 = q3 <;> by_cases h6 : p4 = q4 <;> by_cases h7 : p5 = q5 <;> simp [h0, h1, h2, h3, h4, h5, h6, h7]
theorem hx_neq (ai bi : Int) (ao bo : Int) (ar br : Int) (p1 q1 : Bool) (p2 q2 : Bool) (p3 q3 : Bool) (p4 q4 : Bool) (p5 q5 : Bool) (W : World) : (binOp .neq 30 (.agg #[.int .i64 ai, .int .i64 ao, .int .i64 ar, .bool p1, .bool p2, .bool p3, .bool p4, .bool p5]) (.agg #[.int .i64 bi, .int .i64 bo, .int .i64 br, .bool q1, .bool q2, .bool q3, .bool q4, .bool q5])).run Try.prog W = .ok (.bool (!(ai == bi && (ao == bo && (ar == br && (p1 == q1 && (p2 == q2 && (p3 == q3 && (p4 == q4 && (p5 == q5)))))))))) W := by
  rw [run_neq_struct, hx_equal]; rfl
theorem hx_eql (ai bi : Int) (ao bo : Int) (ar br : Int) (p1 q1 : Bool) (p2 q2 : Bool) (p3 q3 : Bool) (p4 q4 : Bool) (p5 q5 : Bool) (W : World) : (binOp .eql 30 (.agg #[.int .i64 ai, .int .i64 ao, .int .i64 ar, .bool p1, .bool p2, .bool p3, .bool p4, .bool p5]) (.agg #[.int .i64 bi, .int .i64 bo, .int .i64 br, .bool q1, .bool q2, .bool q3, .bool q4, .bool q5])).run Try.prog W = .ok (.bool (ai == bi && (ao == bo && (ar == br && (p1 == q1 && (p2 == q2 && (p3 == q3 && (p4 == q4 && (p5 == q5))))))))) W := by
  rw [run_eql_struct, hx_equal]; rfl
set_option maxRecDepth 100000 in
set_option maxHeartbeats 1600000 in
theorem rrsD (a b : Option Addr) (n m ca cb : Nat) (L M : List R5) (w : World) (ha : RowR w a n L) (hb : RowR w b m M) (hn : n ≤ 100000) (hm : m ≤ 100000) :
    Calls Try.prog 27 #[.slice a n ca, .slice b m cb] w fun e w' => e = .returned (.bool (decide (L = M))) ∧ Below w.heap.size w w' := by
  have HRA := Lib.hid ha
  have HRB := Lib.hid hb
  have HLA := Lib.hid ha.1
  have HLB := Lib.hid hb.1
  clear ha hb
  by_cases hnm : n = m
  · subst hnm
    have e0 : ((n : Int) != (n : Int)) = false := nF rfl
    go_enter Try.func27, Try.ntmps27
    go_wp2_with fail
    go_loopw [5] (fun i wr => ∃ k q : Nat, k ≤ n ∧ i = .int .i64 k ∧ Hid (L.take k = M.take k) ∧ wr = w.drewN q) (fun i _ => n - (intOf i).toNat)
    case atStart => exact ⟨0, 0, Nat.zero_le _, rfl, rfl, rfl⟩
    case round =>
      obtain ⟨k, q, hk, rfl, hall, rfl⟩ := hrel
      by_cases hlt : k < n
      · obtain ⟨b1, o1, r1, rfl, hb1, hr1, x0, x1, x2, x3, x4⟩ := HRA.out.at k hlt
        obtain ⟨b2, o2, r2, rfl, hb2, hr2, y0, y1, y2, y3, y4⟩ := HRB.out.at k hlt
        obtain ⟨⟨an, at1, ac⟩, au, ad⟩ := r1
        obtain ⟨⟨bn, bt1, bc⟩, bu, bd⟩ := r2
        have HR1 := Lib.hid hr1
        have HR2 := Lib.hid hr2
        have i1 : (0 : Int) ≤ (k : Int) := by omega
        have i2 : (k : Int) < (n : Int) := by omega
        clear hr1 hr2
        replace x0 : w.cell? ⟨b1, o1 + k * 5, none⟩ = some (.string an) := x0
        replace x1 : w.cell? ⟨b1, o1 + k * 5 + 1, none⟩ = some (.int .i64 at1) := x1
        replace x2 : w.cell? ⟨b1, o1 + k * 5 + 2, none⟩ = some (.int .i64 ac) := x2
        replace x3 : w.cell? ⟨b1, o1 + k * 5 + 3, none⟩ = some (.int .i64 au) := x3
        replace x4 : w.cell? ⟨b1, o1 + k * 5 + 4, none⟩ = some (.string ad) := x4
        replace y0 : w.cell? ⟨b2, o2 + k * 5, none⟩ = some (.string bn) := y0
        replace y1 : w.cell? ⟨b2, o2 + k * 5 + 1, none⟩ = some (.int .i64 bt1) := y1
        replace y2 : w.cell? ⟨b2, o2 + k * 5 + 2, none⟩ = some (.int .i64 bc) := y2
        replace y3 : w.cell? ⟨b2, o2 + k * 5 + 3, none⟩ = some (.int .i64 bu) := y3
        replace y4 : w.cell? ⟨b2, o2 + k * 5 + 4, none⟩ = some (.string bd) := y4
        by_cases hs : (⟨⟨an, at1, ac⟩, au, ad⟩ : R5) = ⟨⟨bn, bt1, bc⟩, bu, bd⟩
        · have hke : ∀ W, (binOp .neq 75 (.agg #[.string an, .int .i64 at1, .int .i64 ac, .int .i64 au, .string ad]) (.agg #[.string bn, .int .i64 bt1, .int .i64 bc, .int .i64 bu, .string bd])).run Try.prog W = .ok (.bool false) W := fun W => by
            rw [rr_neq, (rr_same an bn at1 bt1 ac bc au bu ad bd).2 hs]; rfl
          have HN := Lib.hid (show L.take (k + 1) = M.take (k + 1) by
            rw [List.take_add_one, List.take_add_one, hall.out, HR1.out, HR2.out, hs])
          clear hs
          go_wp2_with fail
          go_quiet (fail)
          go_wp2
          rename_i nq
          go_roundw
          case rel => exact ⟨k + 1, q + nq, by omega, by go_num, HN, by first | rfl | exact drewN_add _ _ _⟩
          case measure => simp [intOf]; omega
        · have hke : ∀ W, (binOp .neq 75 (.agg #[.string an, .int .i64 at1, .int .i64 ac, .int .i64 au, .string ad]) (.agg #[.string bn, .int .i64 bt1, .int .i64 bc, .int .i64 bu, .string bd])).run Try.prog W = .ok (.bool true) W := fun W => by
            rw [rr_neq, Bool.eq_false_iff.2 (fun h => hs ((rr_same an bn at1 bt1 ac bc au bu ad bd).1 h))]; rfl
          have HF := Lib.hid (show ¬ L = M from fun h => by
            have h1 := HR1.out
            rw [h, HR2.out] at h1
            exact hs (Option.some.inj h1).symm)
          clear hs
          go_wp2_with fail
          go_quiet (fail)
          go_wp2
          rename_i nq
          have HB := Lib.hid (below_drewN (below_drewN (Below.refl w.heap.size w) q) nq)
          go_ret
          exact ⟨ret_bool (dF HF.out).symm, HB.out⟩
      · have hkn : k = n := by omega
        have HF := Lib.hid (show L = M by
          have h1 := hall.out
          rw [List.take_of_length_le (by rw [HLA.out]; omega), List.take_of_length_le (by rw [HLB.out]; omega)] at h1
          exact h1)
        have HB := Lib.hid (below_drewN (Below.refl w.heap.size w) q)
        subst hkn
        go_wp2
        go_ret
        exact ⟨ret_bool (dT HF.out).symm, HB.out⟩
  · have e0 : ((n : Int) != (m : Int)) = true := nT (by omega)
    have HF := Lib.hid (show ¬ L = M from fun h => hnm (by rw [← HLA.out, ← HLB.out, h]))
    go_enter Try.func27, Try.ntmps27
    go_wp2
    go_ret
    exact ⟨ret_bool (dF HF.out).symm, Below.refl _ _⟩

set_option maxRecDepth 100000 in
set_option maxHeartbeats 1600000 in
theorem qqsD (a b : Option Addr) (n m ca cb : Nat) (L M : List Ky) (w : World) (ha : RowQ w a n L) (hb : RowQ w b m M) (hn : n ≤ 100000) (hm : m ≤ 100000) :
    Calls Try.prog 68 #[.slice a n ca, .slice b m cb] w fun e w' => e = .returned (.bool (decide (L = M))) ∧ Below w.heap.size w w' := by
  have HRA := Lib.hid ha
  have HRB := Lib.hid hb
  have HLA := Lib.hid ha.1
  have HLB := Lib.hid hb.1
  clear ha hb
  by_cases hnm : n = m
  · subst hnm
    have e0 : ((n : Int) != (n : Int)) = false := nF rfl
    go_enter Try.func68, Try.ntmps68
    go_wp2_with fail
    go_loopw [5] (fun i wr => ∃ k q : Nat, k ≤ n ∧ i = .int .i64 k ∧ Hid (L.take k = M.take k) ∧ wr = w.drewN q) (fun i _ => n - (intOf i).toNat)
    case atStart => exact ⟨0, 0, Nat.zero_le _, rfl, rfl, rfl⟩
    case round =>
      obtain ⟨k, q, hk, rfl, hall, rfl⟩ := hrel
      by_cases hlt : k < n
      · obtain ⟨b1, o1, r1, rfl, hb1, hr1, x0, x1, x2⟩ := HRA.out.at k hlt
        obtain ⟨b2, o2, r2, rfl, hb2, hr2, y0, y1, y2⟩ := HRB.out.at k hlt
        obtain ⟨an, at1, ac⟩ := r1
        obtain ⟨bn, bt1, bc⟩ := r2
        have HR1 := Lib.hid hr1
        have HR2 := Lib.hid hr2
        have i1 : (0 : Int) ≤ (k : Int) := by omega
        have i2 : (k : Int) < (n : Int) := by omega
        clear hr1 hr2
        replace x0 : w.cell? ⟨b1, o1 + k * 3, none⟩ = some (.string an) := x0
        replace x1 : w.cell? ⟨b1, o1 + k * 3 + 1, none⟩ = some (.int .i64 at1) := x1
        replace x2 : w.cell? ⟨b1, o1 + k * 3 + 2, none⟩ = some (.int .i64 ac) := x2
        replace y0 : w.cell? ⟨b2, o2 + k * 3, none⟩ = some (.string bn) := y0
        replace y1 : w.cell? ⟨b2, o2 + k * 3 + 1, none⟩ = some (.int .i64 bt1) := y1
        replace y2 : w.cell? ⟨b2, o2 + k * 3 + 2, none⟩ = some (.int .i64 bc) := y2
        by_cases hs : (⟨an, at1, ac⟩ : Ky) = ⟨bn, bt1, bc⟩
        · have hke : ∀ W, (binOp .neq 70 (.agg #[.string an, .int .i64 at1, .int .i64 ac]) (.agg #[.string bn, .int .i64 bt1, .int .i64 bc])).run Try.prog W = .ok (.bool false) W := fun W => by
            rw [qq_neq, (qq_same an bn at1 bt1 ac bc).2 hs]; rfl
          have HN := Lib.hid (show L.take (k + 1) = M.take (k + 1) by
            rw [List.take_add_one, List.take_add_one, hall.out, HR1.out, HR2.out, hs])
          clear hs
          go_wp2_with fail
          go_quiet (fail)
          go_wp2
          rename_i nq
          go_roundw
          case rel => exact ⟨k + 1, q + nq, by omega, by go_num, HN, by first | rfl | exact drewN_add _ _ _⟩
          case measure => simp [intOf]; omega
        · have hke : ∀ W, (binOp .neq 70 (.agg #[.string an, .int .i64 at1, .int .i64 ac]) (.agg #[.string bn, .int .i64 bt1, .int .i64 bc])).run Try.prog W = .ok (.bool true) W := fun W => by
            rw [qq_neq, Bool.eq_false_iff.2 (fun h => hs ((qq_same an bn at1 bt1 ac bc).1 h))]; rfl
          have HF := Lib.hid (show ¬ L = M from fun h => by
            have h1 := HR1.out
            rw [h, HR2.out] at h1
            exact hs (Option.some.inj h1).symm)
          clear hs
          go_wp2_with fail
          go_quiet (fail)
          go_wp2
          rename_i nq
          have HB := Lib.hid (below_drewN (below_drewN (Below.refl w.heap.size w) q) nq)
          go_ret
          exact ⟨ret_bool (dF HF.out).symm, HB.out⟩
      · have hkn : k = n := by omega
        have HF := Lib.hid (show L = M by
          have h1 := hall.out
          rw [List.take_of_length_le (by rw [HLA.out]; omega), List.take_of_length_le (by rw [HLB.out]; omega)] at h1
          exact h1)
        have HB := Lib.hid (below_drewN (Below.refl w.heap.size w) q)
        subst hkn
        go_wp2
        go_ret
        exact ⟨ret_bool (dT HF.out).symm, HB.out⟩
  · have e0 : ((n : Int) != (m : Int)) = true := nT (by omega)
    have HF := Lib.hid (show ¬ L = M from fun h => hnm (by rw [← HLA.out, ← HLB.out, h]))
    go_enter Try.func68, Try.ntmps68
    go_wp2
    go_ret
    exact ⟨ret_bool (dF HF.out).symm, Below.refl _ _⟩
set_option maxRecDepth 100000 in
set_option maxHeartbeats 4000000 in
theorem sameD_ex (ai ao ar : Int) (a1 a2 a3 a4 a5 : Bool) (aqa ana asa axa : Option Addr) (aql aqc anl anc asl asc axl axc : Nat) (aQ : List Ky) (aA aN aX : List R5) (bi bo br : Int) (b1 b2 b3 b4 b5 : Bool) (bqa bna bsa bxa : Option Addr) (bql bqc bnl bnc bsl bsc bxl bxc : Nat) (bQ : List Ky) (bA bN bX : List R5) (w : World) (haq : RowQ w aqa aql aQ) (haa : RowR w ana anl aA) (han : RowR w asa asl aN) (hax : RowR w axa axl aX) (laq : aql ≤ 100000) (laa : anl ≤ 100000) (lan : asl ≤ 100000) (lax : axl ≤ 100000) (hbq : RowQ w bqa bql bQ) (hba : RowR w bna bnl bA) (hbn : RowR w bsa bsl bN) (hbx : RowR w bxa bxl bX) (lbq : bql ≤ 100000) (lba : bnl ≤ 100000) (lbn : bsl ≤ 100000) (lbx : bxl ≤ 100000) :
    Calls Try.prog 30 #[.agg #[.int .i64 ai, .int .i64 ao, .int .i64 ar, .bool a1, .bool a2, .bool a3, .bool a4, .bool a5, .slice aqa aql aqc, .slice ana anl anc, .slice asa asl asc, .slice axa axl axc], .agg #[.int .i64 bi, .int .i64 bo, .int .i64 br, .bool b1, .bool b2, .bool b3, .bool b4, .bool b5, .slice bqa bql bqc, .slice bna bnl bnc, .slice bsa bsl bsc, .slice bxa bxl bxc]] w fun e w' => e = .returned (.bool ((ai == bi && (ao == bo && (ar == br && (a1 == b1 && (a2 == b2 && (a3 == b3 && (a4 == b4 && (a5 == b5)))))))) && (decide (aQ = bQ) && (decide (aA = bA) && (decide (aN = bN) && decide (aX = bX)))))) ∧ Below w.heap.size w w' := by
  have hbA := (Below.refl w.heap.size w).alloc (Nat.le_refl _) (.cells #[.int .i64 ai, .int .i64 ao, .int .i64 ar, .bool a1, .bool a2, .bool a3, .bool a4, .bool a5, .slice aqa aql aqc, .slice ana anl anc, .slice asa asl asc, .slice axa axl axc] 32)
  have hbB := (Below.refl _ (w.alloc (.cells #[.int .i64 ai, .int .i64 ao, .int .i64 ar, .bool a1, .bool a2, .bool a3, .bool a4, .bool a5, .slice aqa aql aqc, .slice ana anl anc, .slice asa asl asc, .slice axa axl axc] 32))).alloc (Nat.le_refl _) (.cells #[.int .i64 bi, .int .i64 bo, .int .i64 br, .bool b1, .bool b2, .bool b3, .bool b4, .bool b5, .slice bqa bql bqc, .slice bna bnl bnc, .slice bsa bsl bsc, .slice bxa bxl bxc] 32)
  have HA := Lib.hid ((CN.new w #[.int .i64 ai, .int .i64 ao, .int .i64 ar, .bool a1, .bool a2, .bool a3, .bool a4, .bool a5, .slice aqa aql aqc, .slice ana anl anc, .slice asa asl asc, .slice axa axl axc] 32).below hbB)
  have hcB := CN.new (w.alloc (.cells #[.int .i64 ai, .int .i64 ao, .int .i64 ar, .bool a1, .bool a2, .bool a3, .bool a4, .bool a5, .slice aqa aql aqc, .slice ana anl anc, .slice asa asl asc, .slice axa axl axc] 32)) #[.int .i64 bi, .int .i64 bo, .int .i64 br, .bool b1, .bool b2, .bool b3, .bool b4, .bool b5, .slice bqa bql bqc, .slice bna bnl bnc, .slice bsa bsl bsc, .slice bxa bxl bxc] 32
  rw [World.size_alloc] at hcB
  have HB := Lib.hid hcB
  have hbw := hbA.trans (hbB.mono hbA.size)
  have HW := Lib.hid hbw
  have G0a := Lib.hid (haq.below hbw)
  have G0b := Lib.hid (hbq.below hbw)
  have G1a := Lib.hid (haa.below hbw)
  have G1b := Lib.hid (hba.below hbw)
  have G2a := Lib.hid (han.below hbw)
  have G2b := Lib.hid (hbn.below hbw)
  have G3a := Lib.hid (hax.below hbw)
  have G3b := Lib.hid (hbx.below hbw)
  have hke := hx_eql ai bi ao bo ar br a1 b1 a2 b2 a3 b3 a4 b4 a5 b5
  clear haq hbq haa hba han hbn hax hbx hbA hbB hcB hbw
  obtain ⟨w2, hw2⟩ : ∃ x, (w.alloc (.cells #[.int .i64 ai, .int .i64 ao, .int .i64 ar, .bool a1, .bool a2, .bool a3, .bool a4, .bool a5, .slice aqa aql aqc, .slice ana anl anc, .slice asa asl asc, .slice axa axl axc] 32)).alloc (.cells #[.int .i64 bi, .int .i64 bo, .int .i64 br, .bool b1, .bool b2, .bool b3, .bool b4, .bool b5, .slice bqa bql bqc, .slice bna bnl bnc, .slice bsa bsl bsc, .slice bxa bxl bxc] 32) = x := ⟨_, rfl⟩
  obtain ⟨q0, hq0⟩ : ∃ x, w.heap.size = x := ⟨_, rfl⟩
  obtain ⟨q1, hq1⟩ : ∃ x, q0 + 1 = x := ⟨_, rfl⟩
  rw [hw2] at HA HB HW G0a G0b G1a G1b G2a G2b G3a G3b
  rw [hq0] at HA HB
  rw [hq1] at HB
  have HW2 := Lib.hid hw2
  have HQ0 := Lib.hid hq0
  have HQ1 := Lib.hid hq1
  clear hw2 hq0 hq1
  go_enter Try.func30, Try.ntmps30
  go_upto_region 1 with fail
  rw [HW2.out, HQ0.out, HQ1.out]
  cases hx : (ai == bi && (ao == bo && (ar == br && (a1 == b1 && (a2 == b2 && (a3 == b3 && (a4 == b4 && (a5 == b5))))))))
  · rw [hx] at hke
    have HF := Lib.hid hx
    clear hx
    obtain ⟨y0, y1, y2, y3, y4, y5, y6, y7, y8, y9, y10, y11, _⟩ := HA.out.u12
    obtain ⟨z0, z1, z2, z3, z4, z5, z6, z7, z8, z9, z10, z11, _⟩ := HB.out.u12
    go_wp2
    go_ret
    exact ⟨ret_bool (by rw [HF.out, Bool.false_and]), HW.out⟩
  rw [hx] at hke
  have HF0 := Lib.hid hx
  clear hx
  obtain ⟨y0, y1, y2, y3, y4, y5, y6, y7, y8, y9, y10, y11, _⟩ := HA.out.u12
  obtain ⟨z0, z1, z2, z3, z4, z5, z6, z7, z8, z9, z10, z11, _⟩ := HB.out.u12
  go_wp2_with fail
  refine (qqsD aqa bqa aql bql aqc bqc aQ bQ _ G0a.out G0b.out laq lbq).mono ?_; rintro e w3 ⟨rfl, hb⟩
  replace HW := Lib.hid (HW.out.trans (hb.mono HW.out.size))
  replace HA := Lib.hid (HA.out.below hb)
  replace HB := Lib.hid (HB.out.below hb)
  replace G1a := Lib.hid (G1a.out.below hb)
  replace G1b := Lib.hid (G1b.out.below hb)
  replace G2a := Lib.hid (G2a.out.below hb)
  replace G2b := Lib.hid (G2b.out.below hb)
  replace G3a := Lib.hid (G3a.out.below hb)
  replace G3b := Lib.hid (G3b.out.below hb)
  clear hb y0 y1 y2 y3 y4 y5 y6 y7 y8 y9 y10 y11 z0 z1 z2 z3 z4 z5 z6 z7 z8 z9 z10 z11
  cases hx : decide (aQ = bQ)
  · have HF := Lib.hid hx
    clear hx
    obtain ⟨y0, y1, y2, y3, y4, y5, y6, y7, y8, y9, y10, y11, _⟩ := HA.out.u12
    obtain ⟨z0, z1, z2, z3, z4, z5, z6, z7, z8, z9, z10, z11, _⟩ := HB.out.u12
    go_wp2
    go_ret
    exact ⟨ret_bool (by rw [HF0.out, HF.out]; simp), HW.out⟩
  have HF1 := Lib.hid hx
  clear hx
  obtain ⟨y0, y1, y2, y3, y4, y5, y6, y7, y8, y9, y10, y11, _⟩ := HA.out.u12
  obtain ⟨z0, z1, z2, z3, z4, z5, z6, z7, z8, z9, z10, z11, _⟩ := HB.out.u12
  go_wp2_with fail
  refine (rrsD ana bna anl bnl anc bnc aA bA _ G1a.out G1b.out laa lba).mono ?_; rintro e w4 ⟨rfl, hb⟩
  replace HW := Lib.hid (HW.out.trans (hb.mono HW.out.size))
  replace HA := Lib.hid (HA.out.below hb)
  replace HB := Lib.hid (HB.out.below hb)
  replace G2a := Lib.hid (G2a.out.below hb)
  replace G2b := Lib.hid (G2b.out.below hb)
  replace G3a := Lib.hid (G3a.out.below hb)
  replace G3b := Lib.hid (G3b.out.below hb)
  clear hb y0 y1 y2 y3 y4 y5 y6 y7 y8 y9 y10 y11 z0 z1 z2 z3 z4 z5 z6 z7 z8 z9 z10 z11
  cases hx : decide (aA = bA)
  · have HF := Lib.hid hx
    clear hx
    obtain ⟨y0, y1, y2, y3, y4, y5, y6, y7, y8, y9, y10, y11, _⟩ := HA.out.u12
    obtain ⟨z0, z1, z2, z3, z4, z5, z6, z7, z8, z9, z10, z11, _⟩ := HB.out.u12
    go_wp2
    go_ret
    exact ⟨ret_bool (by rw [HF0.out, HF1.out, HF.out]; simp), HW.out⟩
  have HF2 := Lib.hid hx
  clear hx
  obtain ⟨y0, y1, y2, y3, y4, y5, y6, y7, y8, y9, y10, y11, _⟩ := HA.out.u12
  obtain ⟨z0, z1, z2, z3, z4, z5, z6, z7, z8, z9, z10, z11, _⟩ := HB.out.u12
  go_wp2_with fail
  refine (rrsD asa bsa asl bsl asc bsc aN bN _ G2a.out G2b.out lan lbn).mono ?_; rintro e w5 ⟨rfl, hb⟩
  replace HW := Lib.hid (HW.out.trans (hb.mono HW.out.size))
  replace HA := Lib.hid (HA.out.below hb)
  replace HB := Lib.hid (HB.out.below hb)
  replace G3a := Lib.hid (G3a.out.below hb)
  replace G3b := Lib.hid (G3b.out.below hb)
  clear hb y0 y1 y2 y3 y4 y5 y6 y7 y8 y9 y10 y11 z0 z1 z2 z3 z4 z5 z6 z7 z8 z9 z10 z11
  cases hx : decide (aN = bN)
  · have HF := Lib.hid hx
    clear hx
    obtain ⟨y0, y1, y2, y3, y4, y5, y6, y7, y8, y9, y10, y11, _⟩ := HA.out.u12
    obtain ⟨z0, z1, z2, z3, z4, z5, z6, z7, z8, z9, z10, z11, _⟩ := HB.out.u12
    go_wp2
    go_ret
    exact ⟨ret_bool (by rw [HF0.out, HF1.out, HF2.out, HF.out]; simp), HW.out⟩
  have HF3 := Lib.hid hx
  clear hx
  obtain ⟨y0, y1, y2, y3, y4, y5, y6, y7, y8, y9, y10, y11, _⟩ := HA.out.u12
  obtain ⟨z0, z1, z2, z3, z4, z5, z6, z7, z8, z9, z10, z11, _⟩ := HB.out.u12
  go_wp2_with fail
  refine (rrsD axa bxa axl bxl axc bxc aX bX _ G3a.out G3b.out lax lbx).mono ?_; rintro e w6 ⟨rfl, hb⟩
  replace HW := Lib.hid (HW.out.trans (hb.mono HW.out.size))
  replace HA := Lib.hid (HA.out.below hb)
  replace HB := Lib.hid (HB.out.below hb)
  clear hb y0 y1 y2 y3 y4 y5 y6 y7 y8 y9 y10 y11 z0 z1 z2 z3 z4 z5 z6 z7 z8 z9 z10 z11
  go_wp2
  go_ret
  exact ⟨ret_bool (by rw [HF0.out, HF1.out, HF2.out, HF3.out]; simp), HW.out⟩

theorem sameMD_any (v u : Value) (m k : MsgP) (w : World) (h : MsgAt w v m) (g : MsgAt w u k) (hs : SmM m) (gs : SmM k) :
    Calls Try.prog 30 #[v, u] w fun e w' => e = .returned (.bool (sameB m k)) ∧ Below w.heap.size w w' := by
  obtain ⟨qa, qc, na, nc, sa, sc, xa, xc, rfl, h1, h2, h3, h4⟩ := h
  obtain ⟨qa', qc', na', nc', sa', sc', xa', xc', rfl, g1, g2, g3, g4⟩ := g
  exact sameD_ex _ _ _ _ _ _ _ _ _ _ _ _ _ _ _ _ _ _ _ _ m.q m.a m.n m.x _ _ _ _ _ _ _ _ _ _ _ _ _ _ _ _ _ _ _ _ k.q k.a k.n k.x w h1.1 h2.1 h3.1 h4.1 hs.1 hs.2.1 hs.2.2.1 hs.2.2.2 g1.1 g2.1 g3.1 g4.1 gs.1 gs.2.1 gs.2.2.1 gs.2.2.2
end Go.Proofs.Ytkoafkajmfodkaa
