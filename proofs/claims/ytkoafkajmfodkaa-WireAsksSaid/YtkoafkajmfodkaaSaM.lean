/- wire.Same. -/
import Derived.Test.YtkoafkajmfodkaaSm5
namespace Go.Proofs.Ytkoafkajmfodkaa
open Go.RowKit

set_option maxRecDepth 100000 in
set_option maxHeartbeats 4000000 in
theorem same_ex (ai ao ar : Int) (a1 a2 a3 a4 a5 : Bool) (aqa ana asa axa : Option Addr) (aql aqc anl anc asl asc axl axc : Nat) (aQ : List Ky) (aA aN aX : List R5) (bi bo br : Int) (b1 b2 b3 b4 b5 : Bool) (bqa bna bsa bxa : Option Addr) (bql bqc bnl bnc bsl bsc bxl bxc : Nat) (bQ : List Ky) (bA bN bX : List R5) (w : World) (haq : RowQ w aqa aql aQ) (haa : RowR w ana anl aA) (han : RowR w asa asl aN) (hax : RowR w axa axl aX) (laq : aql ≤ 100000) (laa : anl ≤ 100000) (lan : asl ≤ 100000) (lax : axl ≤ 100000) (hbq : RowQ w bqa bql bQ) (hba : RowR w bna bnl bA) (hbn : RowR w bsa bsl bN) (hbx : RowR w bxa bxl bX) (lbq : bql ≤ 100000) (lba : bnl ≤ 100000) (lbn : bsl ≤ 100000) (lbx : bxl ≤ 100000) :
    Calls Try.prog 35 #[.agg #[.int .i64 ai, .int .i64 ao, .int .i64 ar, .bool a1, .bool a2, .bool a3, .bool a4, .bool a5, .slice aqa aql aqc, .slice ana anl anc, .slice asa asl asc, .slice axa axl axc], .agg #[.int .i64 bi, .int .i64 bo, .int .i64 br, .bool b1, .bool b2, .bool b3, .bool b4, .bool b5, .slice bqa bql bqc, .slice bna bnl bnc, .slice bsa bsl bsc, .slice bxa bxl bxc]] w fun e w' => e = .returned (.bool ((ai == bi && (ao == bo && (ar == br && (a1 == b1 && (a2 == b2 && (a3 == b3 && (a4 == b4 && (a5 == b5)))))))) && (decide (aQ = bQ) && (decide (aA = bA) && (decide (aN = bN) && decide (aX = bX)))))) ∧ Below w.heap.size w w' := by
  have hbA := (Below.refl w.heap.size w).alloc (Nat.le_refl _) (.cells #[.int .i64 ai, .int .i64 ao, .int .i64 ar, .bool a1, .bool a2, .bool a3, .bool a4, .bool a5, .slice aqa aql aqc, .slice ana anl anc, .slice asa asl asc, .slice axa axl axc] 27)
  have hbB := (Below.refl _ (w.alloc (.cells #[.int .i64 ai, .int .i64 ao, .int .i64 ar, .bool a1, .bool a2, .bool a3, .bool a4, .bool a5, .slice aqa aql aqc, .slice ana anl anc, .slice asa asl asc, .slice axa axl axc] 27))).alloc (Nat.le_refl _) (.cells #[.int .i64 bi, .int .i64 bo, .int .i64 br, .bool b1, .bool b2, .bool b3, .bool b4, .bool b5, .slice bqa bql bqc, .slice bna bnl bnc, .slice bsa bsl bsc, .slice bxa bxl bxc] 27)
  have HA := Lib.hid ((CN.new w #[.int .i64 ai, .int .i64 ao, .int .i64 ar, .bool a1, .bool a2, .bool a3, .bool a4, .bool a5, .slice aqa aql aqc, .slice ana anl anc, .slice asa asl asc, .slice axa axl axc] 27).below hbB)
  have hcB := CN.new (w.alloc (.cells #[.int .i64 ai, .int .i64 ao, .int .i64 ar, .bool a1, .bool a2, .bool a3, .bool a4, .bool a5, .slice aqa aql aqc, .slice ana anl anc, .slice asa asl asc, .slice axa axl axc] 27)) #[.int .i64 bi, .int .i64 bo, .int .i64 br, .bool b1, .bool b2, .bool b3, .bool b4, .bool b5, .slice bqa bql bqc, .slice bna bnl bnc, .slice bsa bsl bsc, .slice bxa bxl bxc] 27
  rw [World.size_alloc] at hcB
  have HB := Lib.hid hcB
  have hbw := hbA.trans (hbB.mono hbA.size)
  have HW := Lib.hid hbw
  have G0a := Lib.hid (haq.below hbw)
  have G0b := Lib.hid (hbq.below hbw)
  have G1a := Lib.hid (haa.below hbw)
  have G1b := Lib.hid (hba.below hbw)
  have G2a := Lib.hid (han.below hbw)
  have G2b := Lib.hid (hbn.below hbw)
  have G3a := Lib.hid (hax.below hbw)
  have G3b := Lib.hid (hbx.below hbw)
  have hke := hd_eql ai bi ao bo ar br a1 b1 a2 b2 a3 b3 a4 b4 a5 b5
  clear haq hbq haa hba han hbn hax hbx hbA hbB hcB hbw
  obtain ⟨w2, hw2⟩ : ∃ x, (w.alloc (.cells #[.int .i64 ai, .int .i64 ao, .int .i64 ar, .bool a1, .bool a2, .bool a3, .bool a4, .bool a5, .slice aqa aql aqc, .slice ana anl anc, .slice asa asl asc, .slice axa axl axc] 27)).alloc (.cells #[.int .i64 bi, .int .i64 bo, .int .i64 br, .bool b1, .bool b2, .bool b3, .bool b4, .bool b5, .slice bqa bql bqc, .slice bna bnl bnc, .slice bsa bsl bsc, .slice bxa bxl bxc] 27) = x := ⟨_, rfl⟩
  obtain ⟨q0, hq0⟩ : ∃ x, w.heap.size = x := ⟨_, rfl⟩
  obtain ⟨q1, hq1⟩ : ∃ x, q0 + 1 = x := ⟨_, rfl⟩
  rw [hw2] at HA HB HW G0a G0b G1a G1b G2a G2b G3a G3b
  rw [hq0] at HA HB
  rw [hq1] at HB
  have HW2 := Lib.hid hw2
  have HQ0 := Lib.hid hq0
  have HQ1 := Lib.hid hq1
  clear hw2 hq0 hq1
  go_enter Try.func35, Try.ntmps35
  go_upto_region 1 with fail
  rw [HW2.out, HQ0.out, HQ1.out]
  cases hx : (ai == bi && (ao == bo && (ar == br && (a1 == b1 && (a2 == b2 && (a3 == b3 && (a4 == b4 && (a5 == b5))))))))
  · rw [hx] at hke
    have HF := Lib.hid hx
    clear hx
    obtain ⟨y0, y1, y2, y3, y4, y5, y6, y7, y8, y9, y10, y11, _⟩ := HA.out.u12
    obtain ⟨z0, z1, z2, z3, z4, z5, z6, z7, z8, z9, z10, z11, _⟩ := HB.out.u12
    go_wp2
    go_ret
    exact ⟨ret_bool (by rw [HF.out, Bool.false_and]), HW.out⟩
  rw [hx] at hke
  have HF0 := Lib.hid hx
  clear hx
  obtain ⟨y0, y1, y2, y3, y4, y5, y6, y7, y8, y9, y10, y11, _⟩ := HA.out.u12
  obtain ⟨z0, z1, z2, z3, z4, z5, z6, z7, z8, z9, z10, z11, _⟩ := HB.out.u12
  go_wp2_with fail
  refine (eqQQ aqa bqa aql bql aqc bqc aQ bQ _ G0a.out G0b.out laq lbq).mono ?_; rintro e w3 ⟨rfl, hb⟩
  replace HW := Lib.hid (HW.out.trans (hb.mono HW.out.size))
  replace HA := Lib.hid (HA.out.below hb)
  replace HB := Lib.hid (HB.out.below hb)
  replace G1a := Lib.hid (G1a.out.below hb)
  replace G1b := Lib.hid (G1b.out.below hb)
  replace G2a := Lib.hid (G2a.out.below hb)
  replace G2b := Lib.hid (G2b.out.below hb)
  replace G3a := Lib.hid (G3a.out.below hb)
  replace G3b := Lib.hid (G3b.out.below hb)
  clear hb y0 y1 y2 y3 y4 y5 y6 y7 y8 y9 y10 y11 z0 z1 z2 z3 z4 z5 z6 z7 z8 z9 z10 z11
  cases hx : decide (aQ = bQ)
  · have HF := Lib.hid hx
    clear hx
    obtain ⟨y0, y1, y2, y3, y4, y5, y6, y7, y8, y9, y10, y11, _⟩ := HA.out.u12
    obtain ⟨z0, z1, z2, z3, z4, z5, z6, z7, z8, z9, z10, z11, _⟩ := HB.out.u12
    go_wp2
    go_ret
    exact ⟨ret_bool (by rw [HF0.out, HF.out]; simp), HW.out⟩
  have HF1 := Lib.hid hx
  clear hx
  obtain ⟨y0, y1, y2, y3, y4, y5, y6, y7, y8, y9, y10, y11, _⟩ := HA.out.u12
  obtain ⟨z0, z1, z2, z3, z4, z5, z6, z7, z8, z9, z10, z11, _⟩ := HB.out.u12
  go_wp2_with fail
  refine (eqRR ana bna anl bnl anc bnc aA bA _ G1a.out G1b.out laa lba).mono ?_; rintro e w4 ⟨rfl, hb⟩
  replace HW := Lib.hid (HW.out.trans (hb.mono HW.out.size))
  replace HA := Lib.hid (HA.out.below hb)
  replace HB := Lib.hid (HB.out.below hb)
  replace G2a := Lib.hid (G2a.out.below hb)
  replace G2b := Lib.hid (G2b.out.below hb)
  replace G3a := Lib.hid (G3a.out.below hb)
  replace G3b := Lib.hid (G3b.out.below hb)
  clear hb y0 y1 y2 y3 y4 y5 y6 y7 y8 y9 y10 y11 z0 z1 z2 z3 z4 z5 z6 z7 z8 z9 z10 z11
  cases hx : decide (aA = bA)
  · have HF := Lib.hid hx
    clear hx
    obtain ⟨y0, y1, y2, y3, y4, y5, y6, y7, y8, y9, y10, y11, _⟩ := HA.out.u12
    obtain ⟨z0, z1, z2, z3, z4, z5, z6, z7, z8, z9, z10, z11, _⟩ := HB.out.u12
    go_wp2
    go_ret
    exact ⟨ret_bool (by rw [HF0.out, HF1.out, HF.out]; simp), HW.out⟩
  have HF2 := Lib.hid hx
  clear hx
  obtain ⟨y0, y1, y2, y3, y4, y5, y6, y7, y8, y9, y10, y11, _⟩ := HA.out.u12
  obtain ⟨z0, z1, z2, z3, z4, z5, z6, z7, z8, z9, z10, z11, _⟩ := HB.out.u12
  go_wp2_with fail
  refine (eqRR asa bsa asl bsl asc bsc aN bN _ G2a.out G2b.out lan lbn).mono ?_; rintro e w5 ⟨rfl, hb⟩
  replace HW := Lib.hid (HW.out.trans (hb.mono HW.out.size))
  replace HA := Lib.hid (HA.out.below hb)
  replace HB := Lib.hid (HB.out.below hb)
  replace G3a := Lib.hid (G3a.out.below hb)
  replace G3b := Lib.hid (G3b.out.below hb)
  clear hb y0 y1 y2 y3 y4 y5 y6 y7 y8 y9 y10 y11 z0 z1 z2 z3 z4 z5 z6 z7 z8 z9 z10 z11
  cases hx : decide (aN = bN)
  · have HF := Lib.hid hx
    clear hx
    obtain ⟨y0, y1, y2, y3, y4, y5, y6, y7, y8, y9, y10, y11, _⟩ := HA.out.u12
    obtain ⟨z0, z1, z2, z3, z4, z5, z6, z7, z8, z9, z10, z11, _⟩ := HB.out.u12
    go_wp2
    go_ret
    exact ⟨ret_bool (by rw [HF0.out, HF1.out, HF2.out, HF.out]; simp), HW.out⟩
  have HF3 := Lib.hid hx
  clear hx
  obtain ⟨y0, y1, y2, y3, y4, y5, y6, y7, y8, y9, y10, y11, _⟩ := HA.out.u12
  obtain ⟨z0, z1, z2, z3, z4, z5, z6, z7, z8, z9, z10, z11, _⟩ := HB.out.u12
  go_wp2_with fail
  refine (eqRR axa bxa axl bxl axc bxc aX bX _ G3a.out G3b.out lax lbx).mono ?_; rintro e w6 ⟨rfl, hb⟩
  replace HW := Lib.hid (HW.out.trans (hb.mono HW.out.size))
  replace HA := Lib.hid (HA.out.below hb)
  replace HB := Lib.hid (HB.out.below hb)
  clear hb y0 y1 y2 y3 y4 y5 y6 y7 y8 y9 y10 y11 z0 z1 z2 z3 z4 z5 z6 z7 z8 z9 z10 z11
  go_wp2
  go_ret
  exact ⟨ret_bool (by rw [HF0.out, HF1.out, HF2.out, HF3.out]; simp), HW.out⟩

def sameB (m k : MsgP) : Bool := (m.i == k.i && (m.o == k.o && (m.r == k.r && (m.b1 == k.b1 && (m.b2 == k.b2 && (m.b3 == k.b3 && (m.b4 == k.b4 && (m.b5 == k.b5)))))))) && (decide (m.q = k.q) && (decide (m.a = k.a) && (decide (m.n = k.n) && decide (m.x = k.x))))
theorem sameB_iff (m k : MsgP) : sameB m k = true ↔ m = k := by
  obtain ⟨mi, mo, mr, m1, m2, m3, m4, m5, mq, ma, mn, mx⟩ := m
  obtain ⟨ki, ko, kr, k1, k2, k3, k4, k5, kq, ka, kn, kx⟩ := k
  simp only [sameB, Bool.and_eq_true, beq_iff_eq, decide_eq_true_eq, MsgP.mk.injEq]
  constructor
  · rintro ⟨⟨h1, h2, h3, h4, h5, h6, h7, h8⟩, h9, h10, h11, h12⟩
    exact ⟨h1, h2, h3, h4, h5, h6, h7, h8, h9, h10, h11, h12⟩
  · rintro ⟨h1, h2, h3, h4, h5, h6, h7, h8, h9, h10, h11, h12⟩
    exact ⟨⟨h1, h2, h3, h4, h5, h6, h7, h8⟩, h9, h10, h11, h12⟩
theorem sameM_any (v u : Value) (m k : MsgP) (w : World) (h : MsgAt w v m) (g : MsgAt w u k) (hs : SmM m) (gs : SmM k) :
    Calls Try.prog 35 #[v, u] w fun e w' => e = .returned (.bool (sameB m k)) ∧ Below w.heap.size w w' := by
  obtain ⟨qa, qc, na, nc, sa, sc, xa, xc, rfl, h1, h2, h3, h4⟩ := h
  obtain ⟨qa', qc', na', nc', sa', sc', xa', xc', rfl, g1, g2, g3, g4⟩ := g
  exact same_ex _ _ _ _ _ _ _ _ _ _ _ _ _ _ _ _ _ _ _ _ m.q m.a m.n m.x _ _ _ _ _ _ _ _ _ _ _ _ _ _ _ _ _ _ _ _ k.q k.a k.n k.x w h1.1 h2.1 h3.1 h4.1 hs.1 hs.2.1 hs.2.2.1 hs.2.2.2 g1.1 g2.1 g3.1 g4.1 gs.1 gs.2.1 gs.2.2.1 gs.2.2.2
end Go.Proofs.Ytkoafkajmfodkaa
