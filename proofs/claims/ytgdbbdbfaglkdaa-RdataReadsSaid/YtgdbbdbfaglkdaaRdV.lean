/- RdataReads: the walk. -/
import Derived.Test.YtgdbbdbfaglkdaaRdS
import Derived.Test.YtgdbbdbfaglkdaaRdU
import Derived.Deep.RegionHeld3
namespace Go.Proofs.Ytgdbbdbfaglkdaa
open Go.RowKit

/-- A record's fields in a block. -/
def RRAt (w : World) (q : Nat) (N : ByteArray) (t c u : Int) (D : ByteArray) : Prop := q < w.heap.size ∧ w.cell? ⟨q, 0, none⟩ = some (.string N) ∧ w.cell? ⟨q, 1, none⟩ = some (.int .i64 t) ∧ w.cell? ⟨q, 2, none⟩ = some (.int .i64 c) ∧ w.cell? ⟨q, 3, none⟩ = some (.int .i64 u) ∧ w.cell? ⟨q, 4, none⟩ = some (.string D)
theorem RRAt.below {w w' : World} {q : Nat} {N : ByteArray} {t c u : Int} {D : ByteArray} (h : RRAt w q N t c u D) (hb : Below w.heap.size w w') : RRAt w' q N t c u D := by
  obtain ⟨h0, h1, h2, h3, h4, h5⟩ := h
  exact ⟨Nat.lt_of_lt_of_le h0 hb.size, by rw [hb.cell h0]; exact h1, by rw [hb.cell h0]; exact h2, by rw [hb.cell h0]; exact h3, by rw [hb.cell h0]; exact h4, by rw [hb.cell h0]; exact h5⟩
theorem rr_box (w : World) (N : ByteArray) (t c u : Int) (D : ByteArray) (ty : TypeId) : RRAt (w.alloc (.cells #[.string N, .int .i64 t, .int .i64 c, .int .i64 u, .string D] ty)) w.heap.size N t c u D := by
  refine ⟨by simp, ?_, ?_, ?_, ?_, ?_⟩ <;> simp
theorem sameS_self (a b : Option Addr) (n ca cb : Nat) (l : List ByteArray) (w : World) (ha : RowS w a n l) (hb : RowS w b n l) (hn : n ≤ 1000000) :
    Calls Try.prog 24 #[.slice a n ca, .slice b n cb] w fun e w' => e = .returned (.bool true) ∧ Below w.heap.size w w' :=
  (sameS_any a b n n ca cb l l w ha hb hn).mono fun e w' ⟨h1, k, h2⟩ => ⟨by rw [h1]; exact ret_bool (dT rfl), by rw [h2]; exact below_drewN (Below.refl _ _) k⟩
theorem nmL_len (k : Int) (s : ByteArray) : (nmL k s).length ≤ 2 := by
  rw [nmL]; split <;> split <;> simp

/-- What the region reads, held through its calls. -/
def KK (w : World) (q1 q2 q3 q4 q5 : Nat) (N : ByteArray) (t c u : Int) (D : ByteArray) (x0 x1 : ByteArray) (x2 x3 x4 x5 x6 : Int) (y0 y1 y2 : Int) (y3 : ByteArray) (wx : World) : Prop := Below w.heap.size w wx ∧ RRAt wx q1 N t c u D ∧ SoaAt wx q2 x0 x1 x2 x3 x4 x5 x6 ∧ SoaAt wx q3 x0 x1 x2 x3 x4 x5 x6 ∧ MdAt wx q4 y0 y1 y2 y3 ∧ MdAt wx q5 y0 y1 y2 y3
theorem KK.below {w : World} {q1 q2 q3 q4 q5 : Nat} {N : ByteArray} {t c u : Int} {D : ByteArray} {x0 x1 : ByteArray} {x2 x3 x4 x5 x6 : Int} {y0 y1 y2 : Int} {y3 : ByteArray} {wx wy : World} (h : KK w q1 q2 q3 q4 q5 N t c u D x0 x1 x2 x3 x4 x5 x6 y0 y1 y2 y3 wx) (hb : Below wx.heap.size wx wy) : KK w q1 q2 q3 q4 q5 N t c u D x0 x1 x2 x3 x4 x5 x6 y0 y1 y2 y3 wy := by
  obtain ⟨h0, h1, h2, h3, h4, h5⟩ := h
  exact ⟨h0.trans (hb.mono h0.size), h1.below hb, h2.below hb, h3.below hb, h4.below hb, h5.below hb⟩
theorem KK.shown {w : World} {q1 q2 q3 q4 q5 : Nat} {N : ByteArray} {t c u : Int} {D : ByteArray} {x0 x1 : ByteArray} {x2 x3 x4 x5 x6 : Int} {y0 y1 y2 : Int} {y3 : ByteArray} {wx : World} (h : KK w q1 q2 q3 q4 q5 N t c u D x0 x1 x2 x3 x4 x5 x6 y0 y1 y2 y3 wx) : Hid (KK w q1 q2 q3 q4 q5 N t c u D x0 x1 x2 x3 x4 x5 x6 y0 y1 y2 y3 wx) ∧ wx.cell? ⟨q1, 0, none⟩ = some (.string N) ∧ wx.cell? ⟨q1, 1, none⟩ = some (.int .i64 t) ∧ wx.cell? ⟨q1, 2, none⟩ = some (.int .i64 c) ∧ wx.cell? ⟨q1, 3, none⟩ = some (.int .i64 u) ∧ wx.cell? ⟨q1, 4, none⟩ = some (.string D) ∧ wx.cell? ⟨q2, 0, none⟩ = some (.string x0) ∧ wx.cell? ⟨q2, 1, none⟩ = some (.string x1) ∧ wx.cell? ⟨q2, 2, none⟩ = some (.int .i64 x2) ∧ wx.cell? ⟨q2, 3, none⟩ = some (.int .i64 x3) ∧ wx.cell? ⟨q2, 4, none⟩ = some (.int .i64 x4) ∧ wx.cell? ⟨q2, 5, none⟩ = some (.int .i64 x5) ∧ wx.cell? ⟨q2, 6, none⟩ = some (.int .i64 x6) ∧ wx.cell? ⟨q3, 0, none⟩ = some (.string x0) ∧ wx.cell? ⟨q3, 1, none⟩ = some (.string x1) ∧ wx.cell? ⟨q3, 2, none⟩ = some (.int .i64 x2) ∧ wx.cell? ⟨q3, 3, none⟩ = some (.int .i64 x3) ∧ wx.cell? ⟨q3, 4, none⟩ = some (.int .i64 x4) ∧ wx.cell? ⟨q3, 5, none⟩ = some (.int .i64 x5) ∧ wx.cell? ⟨q3, 6, none⟩ = some (.int .i64 x6) ∧ wx.cell? ⟨q4, 0, none⟩ = some (.int .i64 y0) ∧ wx.cell? ⟨q4, 1, none⟩ = some (.int .i64 y1) ∧ wx.cell? ⟨q4, 2, none⟩ = some (.int .i64 y2) ∧ wx.cell? ⟨q4, 3, none⟩ = some (.string y3) ∧ wx.cell? ⟨q5, 0, none⟩ = some (.int .i64 y0) ∧ wx.cell? ⟨q5, 1, none⟩ = some (.int .i64 y1) ∧ wx.cell? ⟨q5, 2, none⟩ = some (.int .i64 y2) ∧ wx.cell? ⟨q5, 3, none⟩ = some (.string y3) := by
  have h' := Lib.hid h
  obtain ⟨h0, ⟨_, h1, h2, h3, h4, h5⟩, ⟨_, g1, g2, g3, g4, g5, g6, g7⟩, ⟨_, k1, k2, k3, k4, k5, k6, k7⟩, ⟨_, m1, m2, m3, m4⟩, ⟨_, n1, n2, n3, n4⟩⟩ := h
  exact ⟨h', h1, h2, h3, h4, h5, g1, g2, g3, g4, g5, g6, g7, k1, k2, k3, k4, k5, k6, k7, m1, m2, m3, m4, n1, n2, n3, n4⟩

theorem KK.next {w : World} {q1 q2 q3 q4 q5 : Nat} {N : ByteArray} {t c u : Int} {D : ByteArray} {x0 x1 : ByteArray} {x2 x3 x4 x5 x6 : Int} {y0 y1 y2 : Int} {y3 : ByteArray} {wx wy : World} (hb : Below wx.heap.size wx wy) (h : Hid (KK w q1 q2 q3 q4 q5 N t c u D x0 x1 x2 x3 x4 x5 x6 y0 y1 y2 y3 wx) ∧ wx.cell? ⟨q1, 0, none⟩ = some (.string N) ∧ wx.cell? ⟨q1, 1, none⟩ = some (.int .i64 t) ∧ wx.cell? ⟨q1, 2, none⟩ = some (.int .i64 c) ∧ wx.cell? ⟨q1, 3, none⟩ = some (.int .i64 u) ∧ wx.cell? ⟨q1, 4, none⟩ = some (.string D) ∧ wx.cell? ⟨q2, 0, none⟩ = some (.string x0) ∧ wx.cell? ⟨q2, 1, none⟩ = some (.string x1) ∧ wx.cell? ⟨q2, 2, none⟩ = some (.int .i64 x2) ∧ wx.cell? ⟨q2, 3, none⟩ = some (.int .i64 x3) ∧ wx.cell? ⟨q2, 4, none⟩ = some (.int .i64 x4) ∧ wx.cell? ⟨q2, 5, none⟩ = some (.int .i64 x5) ∧ wx.cell? ⟨q2, 6, none⟩ = some (.int .i64 x6) ∧ wx.cell? ⟨q3, 0, none⟩ = some (.string x0) ∧ wx.cell? ⟨q3, 1, none⟩ = some (.string x1) ∧ wx.cell? ⟨q3, 2, none⟩ = some (.int .i64 x2) ∧ wx.cell? ⟨q3, 3, none⟩ = some (.int .i64 x3) ∧ wx.cell? ⟨q3, 4, none⟩ = some (.int .i64 x4) ∧ wx.cell? ⟨q3, 5, none⟩ = some (.int .i64 x5) ∧ wx.cell? ⟨q3, 6, none⟩ = some (.int .i64 x6) ∧ wx.cell? ⟨q4, 0, none⟩ = some (.int .i64 y0) ∧ wx.cell? ⟨q4, 1, none⟩ = some (.int .i64 y1) ∧ wx.cell? ⟨q4, 2, none⟩ = some (.int .i64 y2) ∧ wx.cell? ⟨q4, 3, none⟩ = some (.string y3) ∧ wx.cell? ⟨q5, 0, none⟩ = some (.int .i64 y0) ∧ wx.cell? ⟨q5, 1, none⟩ = some (.int .i64 y1) ∧ wx.cell? ⟨q5, 2, none⟩ = some (.int .i64 y2) ∧ wx.cell? ⟨q5, 3, none⟩ = some (.string y3)) : Hid (KK w q1 q2 q3 q4 q5 N t c u D x0 x1 x2 x3 x4 x5 x6 y0 y1 y2 y3 wy) ∧ wy.cell? ⟨q1, 0, none⟩ = some (.string N) ∧ wy.cell? ⟨q1, 1, none⟩ = some (.int .i64 t) ∧ wy.cell? ⟨q1, 2, none⟩ = some (.int .i64 c) ∧ wy.cell? ⟨q1, 3, none⟩ = some (.int .i64 u) ∧ wy.cell? ⟨q1, 4, none⟩ = some (.string D) ∧ wy.cell? ⟨q2, 0, none⟩ = some (.string x0) ∧ wy.cell? ⟨q2, 1, none⟩ = some (.string x1) ∧ wy.cell? ⟨q2, 2, none⟩ = some (.int .i64 x2) ∧ wy.cell? ⟨q2, 3, none⟩ = some (.int .i64 x3) ∧ wy.cell? ⟨q2, 4, none⟩ = some (.int .i64 x4) ∧ wy.cell? ⟨q2, 5, none⟩ = some (.int .i64 x5) ∧ wy.cell? ⟨q2, 6, none⟩ = some (.int .i64 x6) ∧ wy.cell? ⟨q3, 0, none⟩ = some (.string x0) ∧ wy.cell? ⟨q3, 1, none⟩ = some (.string x1) ∧ wy.cell? ⟨q3, 2, none⟩ = some (.int .i64 x2) ∧ wy.cell? ⟨q3, 3, none⟩ = some (.int .i64 x3) ∧ wy.cell? ⟨q3, 4, none⟩ = some (.int .i64 x4) ∧ wy.cell? ⟨q3, 5, none⟩ = some (.int .i64 x5) ∧ wy.cell? ⟨q3, 6, none⟩ = some (.int .i64 x6) ∧ wy.cell? ⟨q4, 0, none⟩ = some (.int .i64 y0) ∧ wy.cell? ⟨q4, 1, none⟩ = some (.int .i64 y1) ∧ wy.cell? ⟨q4, 2, none⟩ = some (.int .i64 y2) ∧ wy.cell? ⟨q4, 3, none⟩ = some (.string y3) ∧ wy.cell? ⟨q5, 0, none⟩ = some (.int .i64 y0) ∧ wy.cell? ⟨q5, 1, none⟩ = some (.int .i64 y1) ∧ wy.cell? ⟨q5, 2, none⟩ = some (.int .i64 y2) ∧ wy.cell? ⟨q5, 3, none⟩ = some (.string y3) := KK.shown (KK.below h.1.out hb)

theorem KK.get (w : World) (q1 q2 q3 q4 q5 : Nat) (N : ByteArray) (t c u : Int) (D : ByteArray) (x0 x1 : ByteArray) (x2 x3 x4 x5 x6 : Int) (y0 y1 y2 : Int) (y3 : ByteArray) (wx : World) (h : Hid (KK w q1 q2 q3 q4 q5 N t c u D x0 x1 x2 x3 x4 x5 x6 y0 y1 y2 y3 wx) ∧ wx.cell? ⟨q1, 0, none⟩ = some (.string N) ∧ wx.cell? ⟨q1, 1, none⟩ = some (.int .i64 t) ∧ wx.cell? ⟨q1, 2, none⟩ = some (.int .i64 c) ∧ wx.cell? ⟨q1, 3, none⟩ = some (.int .i64 u) ∧ wx.cell? ⟨q1, 4, none⟩ = some (.string D) ∧ wx.cell? ⟨q2, 0, none⟩ = some (.string x0) ∧ wx.cell? ⟨q2, 1, none⟩ = some (.string x1) ∧ wx.cell? ⟨q2, 2, none⟩ = some (.int .i64 x2) ∧ wx.cell? ⟨q2, 3, none⟩ = some (.int .i64 x3) ∧ wx.cell? ⟨q2, 4, none⟩ = some (.int .i64 x4) ∧ wx.cell? ⟨q2, 5, none⟩ = some (.int .i64 x5) ∧ wx.cell? ⟨q2, 6, none⟩ = some (.int .i64 x6) ∧ wx.cell? ⟨q3, 0, none⟩ = some (.string x0) ∧ wx.cell? ⟨q3, 1, none⟩ = some (.string x1) ∧ wx.cell? ⟨q3, 2, none⟩ = some (.int .i64 x2) ∧ wx.cell? ⟨q3, 3, none⟩ = some (.int .i64 x3) ∧ wx.cell? ⟨q3, 4, none⟩ = some (.int .i64 x4) ∧ wx.cell? ⟨q3, 5, none⟩ = some (.int .i64 x5) ∧ wx.cell? ⟨q3, 6, none⟩ = some (.int .i64 x6) ∧ wx.cell? ⟨q4, 0, none⟩ = some (.int .i64 y0) ∧ wx.cell? ⟨q4, 1, none⟩ = some (.int .i64 y1) ∧ wx.cell? ⟨q4, 2, none⟩ = some (.int .i64 y2) ∧ wx.cell? ⟨q4, 3, none⟩ = some (.string y3) ∧ wx.cell? ⟨q5, 0, none⟩ = some (.int .i64 y0) ∧ wx.cell? ⟨q5, 1, none⟩ = some (.int .i64 y1) ∧ wx.cell? ⟨q5, 2, none⟩ = some (.int .i64 y2) ∧ wx.cell? ⟨q5, 3, none⟩ = some (.string y3)) : Below w.heap.size w wx := h.1.out.1

set_option maxRecDepth 100000 in
set_option maxHeartbeats 4000000 in
theorem walkRReads (k : Int) (s : ByteArray) (N : ByteArray) (t c u : Int) (D : ByteArray) (w : World) :
    Calls Try.prog 3 #[.int .i64 k, .string s, .agg #[.string N, .int .i64 t, .int .i64 c, .int .i64 u, .string D]] w fun e w' => e = .returned (.bool true) ∧ Below w.heap.size w w' := by
  by_cases hz : s.size ≤ 1200 ∧ N.size ≤ 1200 ∧ D.size ≤ 1200
  · obtain ⟨z1, z2, z3⟩ := hz
    have d1 := dF (p := (1200 : Int) < (s.size : Int)) (by omega)
    have d2 := dF (p := (1200 : Int) < (N.size : Int)) (by omega)
    have d3 := dF (p := (1200 : Int) < (D.size : Int)) (by omega)
    have HS := Lib.hid (show s.size ≤ 1000000 by omega)
    have HN := Lib.hid (show N.size ≤ 1000000 by omega)
    have HD := Lib.hid (show D.size ≤ 1000000 by omega)
    obtain ⟨x0, x1, x2, x3, x4, x5, x6, hsoa⟩ := getSoaV_shape s
    obtain ⟨y0, y1, y2, y3, hmd⟩ := getMdV_shape s
    have HSoa := Lib.hid hsoa
    have HMd := Lib.hid hmd
    clear hsoa hmd z1 z2 z3
    go_enter Try.func3, Try.ntmps3
    go_wp2_with fail
    refine (rfirst _).mono ?_; rintro e w1 ⟨rfl, hb⟩
    have R1 := Lib.hid ((rr_box w N t c u D 23).below hb)
    have HB1 := Lib.hid (((Below.refl w.heap.size w).alloc (Nat.le_refl _) _).trans (hb.mono (by simp)))
    clear hb
    obtain ⟨s0, s1, s2, s3, s4, s5⟩ := R1.out
    go_wp2_with fail
    clear s1 s2 s3 s4 s5
    refine (getSoa_any _ _ HS.out).mono ?_; rintro e w2 ⟨rfl, hb⟩
    have R2 := Lib.hid (R1.out.below hb)
    have HB2 := Lib.hid (HB1.out.trans (hb.mono HB1.out.size))
    clear hb
    rw [HSoa.out]
    go_wp2_with fail
    refine (rgetSoa_any _ _ HS.out).mono ?_; rintro e w3 ⟨rfl, hb⟩
    have R2b := Lib.hid (R2.out.below ((Below.refl _ _).alloc (Nat.le_refl _) (.cells #[.string x0, .string x1, .int .i64 x2, .int .i64 x3, .int .i64 x4, .int .i64 x5, .int .i64 x6] 26)))
    have R3 := Lib.hid (R2b.out.below hb)
    have A3 := Lib.hid ((soa_box w2 x0 x1 x2 x3 x4 x5 x6 26).below hb)
    have HB3 := Lib.hid ((HB2.out.alloc HB2.out.size _).trans (hb.mono (by have := HB2.out.size; simp; omega)))
    clear hb R2b
    rw [HSoa.out]
    go_wp2_with fail
    refine (getMd_any _ _ HS.out).mono ?_; rintro e w4 ⟨rfl, hb⟩
    have hal := (Below.refl w3.heap.size w3).alloc (Nat.le_refl _) (.cells #[.string x0, .string x1, .int .i64 x2, .int .i64 x3, .int .i64 x4, .int .i64 x5, .int .i64 x6] 29)
    have R4 := Lib.hid ((R3.out.below hal).below hb)
    have A4 := Lib.hid ((A3.out.below hal).below hb)
    have B4 := Lib.hid ((soa_box w3 x0 x1 x2 x3 x4 x5 x6 29).below hb)
    have HB4 := Lib.hid ((HB3.out.alloc HB3.out.size _).trans (hb.mono (by have := HB3.out.size; simp; omega)))
    clear hb hal
    rw [HMd.out]
    go_wp2_with fail
    refine (rgetMd_any _ _ HS.out).mono ?_; rintro e w5 ⟨rfl, hb⟩
    have hal := (Below.refl w4.heap.size w4).alloc (Nat.le_refl _) (.cells #[.int .i64 y0, .int .i64 y1, .int .i64 y2, .string y3] 33)
    have R5 := Lib.hid ((R4.out.below hal).below hb)
    have A5 := Lib.hid ((A4.out.below hal).below hb)
    have B5 := Lib.hid ((B4.out.below hal).below hb)
    have C5 := Lib.hid ((md_box w4 y0 y1 y2 y3 33).below hb)
    have HB5 := Lib.hid ((HB4.out.alloc HB4.out.size _).trans (hb.mono (by have := HB4.out.size; simp; omega)))
    clear hb hal
    rw [HMd.out]
    go_wp2_with fail
    refine (target_any _ _ _ HS.out).mono ?_; rintro e w6 ⟨rfl, hb⟩
    have hal := (Below.refl w5.heap.size w5).alloc (Nat.le_refl _) (.cells #[.int .i64 y0, .int .i64 y1, .int .i64 y2, .string y3] 36)
    have R6 := Lib.hid ((R5.out.below hal).below hb)
    have A6 := Lib.hid ((A5.out.below hal).below hb)
    have B6 := Lib.hid ((B5.out.below hal).below hb)
    have C6 := Lib.hid ((C5.out.below hal).below hb)
    have D6 := Lib.hid ((md_box w5 y0 y1 y2 y3 36).below hb)
    have HB6 := Lib.hid ((HB5.out.alloc HB5.out.size _).trans (hb.mono (by have := HB5.out.size; simp; omega)))
    clear hb hal
    go_wp2_with fail
    refine (rtarget_any _ _ _ HS.out).mono ?_; rintro e w7 ⟨rfl, hb⟩
    have R7 := Lib.hid (R6.out.below hb)
    have A7 := Lib.hid (A6.out.below hb)
    have B7 := Lib.hid (B6.out.below hb)
    have C7 := Lib.hid (C6.out.below hb)
    have D7 := Lib.hid (D6.out.below hb)
    have HB7 := Lib.hid (HB6.out.trans (hb.mono HB6.out.size))
    clear hb
    clear R1 R2 R3 A3 R4 A4 B4 R5 A5 B5 C5 R6 A6 B6 C6 D6 HB1 HB2 HB3 HB4 HB5 HB6
    go_wp2_with fail
    obtain ⟨q1, hq1⟩ : ∃ q, w.heap.size = q := ⟨_, rfl⟩
    obtain ⟨q2, hq2⟩ : ∃ q, w2.heap.size = q := ⟨_, rfl⟩
    obtain ⟨q3, hq3⟩ : ∃ q, w3.heap.size = q := ⟨_, rfl⟩
    obtain ⟨q4, hq4⟩ : ∃ q, w4.heap.size = q := ⟨_, rfl⟩
    obtain ⟨q5, hq5⟩ : ∃ q, w5.heap.size = q := ⟨_, rfl⟩
    have hK : KK w q1 q2 q3 q4 q5 N t c u D x0 x1 x2 x3 x4 x5 x6 y0 y1 y2 y3 w7 := ⟨HB7.out, hq1 ▸ R7.out, hq2 ▸ A7.out, hq3 ▸ B7.out, hq4 ▸ C7.out, hq5 ▸ D7.out⟩
    have HK := Lib.hid (hK.below (Below.refl _ _).drew)
    have HL := Lib.hid (nmL_len k s)
    obtain ⟨b1, hb1⟩ : ∃ b, soaOk s = b := ⟨_, rfl⟩
    obtain ⟨b2, hb2⟩ : ∃ b, mayD 63 s = b := ⟨_, rfl⟩
    rw [hb1, hb2, hq1, hq2, hq3, hq4, hq5]
    clear hq1 hq2 hq3 hq4 hq5 hK R7 A7 B7 C7 D7 HB7 HSoa HMd hb1 hb2
    go_region_held3 (fun wx => Hid (KK w q1 q2 q3 q4 q5 N t c u D x0 x1 x2 x3 x4 x5 x6 y0 y1 y2 y3 wx) ∧ wx.cell? ⟨q1, 0, none⟩ = some (.string N) ∧ wx.cell? ⟨q1, 1, none⟩ = some (.int .i64 t) ∧ wx.cell? ⟨q1, 2, none⟩ = some (.int .i64 c) ∧ wx.cell? ⟨q1, 3, none⟩ = some (.int .i64 u) ∧ wx.cell? ⟨q1, 4, none⟩ = some (.string D) ∧ wx.cell? ⟨q2, 0, none⟩ = some (.string x0) ∧ wx.cell? ⟨q2, 1, none⟩ = some (.string x1) ∧ wx.cell? ⟨q2, 2, none⟩ = some (.int .i64 x2) ∧ wx.cell? ⟨q2, 3, none⟩ = some (.int .i64 x3) ∧ wx.cell? ⟨q2, 4, none⟩ = some (.int .i64 x4) ∧ wx.cell? ⟨q2, 5, none⟩ = some (.int .i64 x5) ∧ wx.cell? ⟨q2, 6, none⟩ = some (.int .i64 x6) ∧ wx.cell? ⟨q3, 0, none⟩ = some (.string x0) ∧ wx.cell? ⟨q3, 1, none⟩ = some (.string x1) ∧ wx.cell? ⟨q3, 2, none⟩ = some (.int .i64 x2) ∧ wx.cell? ⟨q3, 3, none⟩ = some (.int .i64 x3) ∧ wx.cell? ⟨q3, 4, none⟩ = some (.int .i64 x4) ∧ wx.cell? ⟨q3, 5, none⟩ = some (.int .i64 x5) ∧ wx.cell? ⟨q3, 6, none⟩ = some (.int .i64 x6) ∧ wx.cell? ⟨q4, 0, none⟩ = some (.int .i64 y0) ∧ wx.cell? ⟨q4, 1, none⟩ = some (.int .i64 y1) ∧ wx.cell? ⟨q4, 2, none⟩ = some (.int .i64 y2) ∧ wx.cell? ⟨q4, 3, none⟩ = some (.string y3) ∧ wx.cell? ⟨q5, 0, none⟩ = some (.int .i64 y0) ∧ wx.cell? ⟨q5, 1, none⟩ = some (.int .i64 y1) ∧ wx.cell? ⟨q5, 2, none⟩ = some (.int .i64 y2) ∧ wx.cell? ⟨q5, 3, none⟩ = some (.string y3)) (first | (exact KK.shown HK.out) | assumption | (refine KK.next hb ?_; assumption))
      (first
        | (go_at_call 13; refine (rfirst _).mono ?_; rintro e wy ⟨rfl, hb⟩)
        | (go_at_call 20; refine (may_any _ _ _ HS.out).mono ?_; rintro e wy ⟨rfl, hb⟩)
        | (go_at_call 21; refine (rmayD_any _ _ _ HS.out).mono ?_; rintro e wy ⟨rfl, rfl⟩)
        | (go_at_call 22; refine (soaConv _ _ _ _ _ _ _ _).mono ?_; rintro e wy ⟨rfl, hb⟩)
        | (go_at_call 23; refine (mdConv _ _ _ _ _).mono ?_; rintro e wy ⟨rfl, hb⟩)
        | (go_at_call 25; refine (names_any _ _ _ HS.out).mono ?_; rintro e wy ⟨a1, rfl, hr1, hb⟩)
        | (go_at_call 26; refine (rnames_any _ _ _ HS.out).mono ?_; rintro e wy ⟨a2, rfl, hr2, hb⟩; have hr3 := RowS.below hr1 hb)
        | (go_at_call 24; refine (sameS_self _ _ _ _ _ _ _ hr3 hr2 (by have := HL.out; omega)).mono ?_; rintro e wy ⟨rfl, hb⟩)
        | (go_at_call 27; refine (mayRR_any _ _ _ _ _ _ HN.out HD.out).mono ?_; rintro e wy ⟨rfl, hb⟩)
        | (go_at_call 28; refine (rmayRR_any _ _ _ _ _ _ HN.out HD.out).mono ?_; rintro e wy ⟨rfl, hb⟩))
    all_goals
      go_wp2
      go_ret
      refine ⟨rfl, KK.get w q1 q2 q3 q4 q5 N t c u D x0 x1 x2 x3 x4 x5 x6 y0 y1 y2 y3 _ ?_⟩
      assumption
  · have hd : decide ((1200 : Int) < (s.size : Int)) = true ∨ decide ((1200 : Int) < (s.size : Int)) = false ∧ (decide ((1200 : Int) < (N.size : Int)) = true ∨ decide ((1200 : Int) < (N.size : Int)) = false ∧ decide ((1200 : Int) < (D.size : Int)) = true) := by
      simp only [decide_eq_true_eq, decide_eq_false_iff_not]; omega
    clear hz
    rcases hd with d1 | ⟨d1, d2 | ⟨d2, d3⟩⟩
    all_goals
      go_enter Try.func3, Try.ntmps3
      go_wp2_with fail
      refine (rfirst _).mono ?_; rintro e w1 ⟨rfl, hb⟩
      have R1 := Lib.hid ((rr_box w N t c u D 23).below hb)
      have HB1 := Lib.hid (((Below.refl w.heap.size w).alloc (Nat.le_refl _) _).trans (hb.mono (by simp)))
      clear hb
      obtain ⟨s0, s1, _, _, _, s5⟩ := R1.out
      go_wp2_with fail
      refine (rfirst _).mono ?_; rintro e w2 ⟨rfl, hb⟩
      have HB2 := Lib.hid (HB1.out.trans (hb.mono HB1.out.size)); clear hb
      go_wp2
      go_ret
      exact ⟨rfl, HB2.out⟩
end Go.Proofs.Ytgdbbdbfaglkdaa
