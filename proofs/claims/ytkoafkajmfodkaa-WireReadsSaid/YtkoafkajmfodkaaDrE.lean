/- The document's Decode. -/
import Derived.Test.YtkoafkajmfodkaaDeE
import Derived.Test.YtkoafkajmfodkaaMgF
import Derived.Test.YtkoafkajmfodkaaLst
import Derived.Deep.CutBlock
namespace Go.Proofs.Ytkoafkajmfodkaa
open Go.RowKit

/-- What the document's Decode tells. -/
def DrB (w : World) (s : ByteArray) (en : Ending) (w' : World) : Prop :=
  ((∃ (M : MsgD) (qv av nv xv : Value), decP s = some M ∧ en = .returned (.tuple #[.agg (msgC M.h qv av nv xv), .bool true]) ∧ RowsM w' w.heap.size M qv av nv xv) ∨ (decP s = none ∧ en = .returned (.tuple #[.agg (msgC msg0.h (.slice none 0 0) (.slice none 0 0) (.slice none 0 0) (.slice none 0 0)), .bool false]))) ∧ Below w.heap.size w w'
theorem eB_ne {b : Bool} (h : b = true) : eB b ≠ 0 := by subst h; decide
theorem msgP_bad {s : ByteArray} {x : (((((Int × Int) × Int) × Int) × Int) × Int)} {a : Nat} {e : Int} (h : Stp s (hd6P s) 0 x a e) (ha : a ≤ s.size) (hb : e ≠ 0 ∨ msgF s (x, a) = none) : decP s = none := by
  have h1 : Stp s (msgP s) 0 msg0 a 1 := by
    refine h.fail (by decide) (fun h0 => ?_) ha
    rcases hb with hb | hb
    · exact absurd h0 hb
    · exact hb
  exact decP_no h1 (Or.inl (by decide))

set_option maxRecDepth 100000 in
set_option maxHeartbeats 16000000 in
theorem rdecode_any (l : List UInt8) (a : Option Addr) (n cp : Nat) (w : World) (hr : RowB w a n l) (hn : a = none → n = 0 ∧ cp = 0) (hb : n ≤ 20000) :
    Calls Try.prog 33 #[.slice a n cp] w fun en w' => DrB w (bs l) en w' := by
  have HN0 := Lib.hid hn
  have HSZ := Lib.hid (show (bs l).size = n by rw [bs_size]; exact hr.len)
  have hba := (Below.refl w.heap.size w).alloc (Nat.le_refl _) (.cells #[.int .i64 0, .int .i64 0, .int .i64 0, .bool false, .bool false, .bool false, .bool false, .bool false, .slice none 0 0, .slice none 0 0, .slice none 0 0, .slice none 0 0] 32)
  have HC := Lib.hid (CN.new w #[.int .i64 0, .int .i64 0, .int .i64 0, .bool false, .bool false, .bool false, .bool false, .bool false, .slice none 0 0, .slice none 0 0, .slice none 0 0, .slice none 0 0] 32)
  have HB := Lib.hid hba
  have HRB := Lib.hid (hr.below hba)
  obtain ⟨w1, hw1⟩ : ∃ x, w.alloc (.cells #[.int .i64 0, .int .i64 0, .int .i64 0, .bool false, .bool false, .bool false, .bool false, .bool false, .slice none 0 0, .slice none 0 0, .slice none 0 0, .slice none 0 0] 32) = x := ⟨_, rfl⟩
  obtain ⟨q2, hq2⟩ : ∃ x, w.heap.size = x := ⟨_, rfl⟩
  rw [hw1] at HC HB HRB
  rw [hq2] at HC
  have HW := Lib.hid hw1
  have HQ := Lib.hid hq2
  obtain ⟨s, hs⟩ : ∃ x, bs l = x := ⟨_, rfl⟩
  rw [hs] at HSZ ⊢
  have HS0 := Lib.hid hs
  clear hr hba hw1 hq2 hn hs
  by_cases g1 : 16000 < n
  · have d1 := dT (p := (16000 : Int) < (n : Int)) (by omega)
    have HLO := Lib.hid (decP_long (s := s) (by rw [HSZ.out]; exact g1))
    clear g1 hb
    go_enter Try.func33, Try.ntmps33
    go_upto_region 1 with (fail)
    rw [HW.out, HQ.out]
    clear HW
    obtain ⟨y0, y1, y2, y3, y4, y5, y6, y7, y8, y9, y10, y11, g0, g1, g2, g3, g4, g5, g6, g7, g8, g9, g10, g11⟩ := HC.out.u12
    have HCZ := Lib.hid (HC.out.s12 (.int .i64 0) (.int .i64 0) (.int .i64 0) (.bool false) (.bool false) (.bool false) (.bool false) (.bool false) (.slice none 0 0) (.slice none 0 0) (.slice none 0 0) (.slice none 0 0))
    have HGZ := Lib.hid (grown_s12 w1 q2 (.int .i64 0) (.int .i64 0) (.int .i64 0) (.bool false) (.bool false) (.bool false) (.bool false) (.bool false) (.slice none 0 0) (.slice none 0 0) (.slice none 0 0) (.slice none 0 0))
    have HBZ := Lib.hid (HB.out.grown HGZ.out HB.out.size (fun k hk => by injection hk with hk; rw [← hk, HQ.out]; exact Nat.le_refl _))
    go_wp2
    obtain ⟨wq, hwq⟩ : ∃ x, ((((((((((((w1.setCell ⟨q2, 0, none⟩ (.int .i64 0)).setCell ⟨q2, 1, none⟩ (.int .i64 0)).setCell ⟨q2, 2, none⟩ (.int .i64 0)).setCell ⟨q2, 3, none⟩ (.bool false)).setCell ⟨q2, 4, none⟩ (.bool false)).setCell ⟨q2, 5, none⟩ (.bool false)).setCell ⟨q2, 6, none⟩ (.bool false)).setCell ⟨q2, 7, none⟩ (.bool false)).setCell ⟨q2, 8, none⟩ (.slice none 0 0)).setCell ⟨q2, 9, none⟩ (.slice none 0 0)).setCell ⟨q2, 10, none⟩ (.slice none 0 0)).setCell ⟨q2, 11, none⟩ (.slice none 0 0)) = x := ⟨_, rfl⟩
    rw [hwq] at HCZ HBZ ⊢
    clear hwq HGZ y0 y1 y2 y3 y4 y5 y6 y7 y8 y9 y10 y11 g0 g1 g2 g3 g4 g5 g6 g7 g8 g9 g10 g11
    obtain ⟨z0, z1, z2, z3, z4, z5, z6, z7, z8, z9, z10, z11, _⟩ := HCZ.out.u12
    refine bodyPost_ret (v := .tuple #[.agg #[.int .i64 0, .int .i64 0, .int .i64 0, .bool false, .bool false, .bool false, .bool false, .bool false, .slice none 0 0, .slice none 0 0, .slice none 0 0, .slice none 0 0], .bool false]) (by simp [results, Try.results33, go_sem, z0, z1, z2, z3, z4, z5, z6, z7, z8, z9, z10, z11]) rfl ⟨Or.inr ⟨HLO.out, rfl⟩, HBZ.out⟩
  have d1 := dF (p := (16000 : Int) < (n : Int)) (by omega)
  have HN := Lib.hid (show s.size ≤ 16000 by rw [HSZ.out]; omega)
  clear g1 hb
  have hcv := conv_row HRB.out HN0.out
  rw [HS0.out] at hcv
  have HS := Lib.hid (show s.size ≤ 20000 by have := HN.out; omega)
  have HA0 := Lib.hid (Nat.zero_le s.size)
  have hba := (Below.refl w1.heap.size w1).alloc (Nat.le_refl _) (.cells #[.string s, .int .i64 0, .bool false] 127)
  have HR := Lib.hid (show RdB (w1.alloc (.cells #[.string s, .int .i64 0, .bool false] 127)) w1.heap.size s 0 false from ⟨CN.new w1 #[.string s, .int .i64 0, .bool false] 127, TB.new w1 _ _⟩)
  have HQ4 := Lib.hid HC.out.1
  have HB4 := Lib.hid HB.out.size
  replace HC := Lib.hid (HC.out.below hba)
  replace HB := Lib.hid (HB.out.trans (hba.mono HB.out.size))
  obtain ⟨w2, hw⟩ : ∃ x, w1.alloc (.cells #[.string s, .int .i64 0, .bool false] 127) = x := ⟨_, rfl⟩
  obtain ⟨q4, hq4⟩ : ∃ x, w1.heap.size = x := ⟨_, rfl⟩
  rw [hw] at HR HC HB
  rw [hq4] at HR HQ4 HB4
  have HW2 := Lib.hid hw
  have HQQ := Lib.hid hq4
  clear hba hw hq4
  go_enter Try.func33, Try.ntmps33
  go_upto_region 3 with (fail)
  rw [HW.out, HQ.out]
  clear HW
  go_upto_region 4 with (fail)
  rw [HW2.out, HQQ.out]
  clear HW2 HQQ hcv
  go_wp2_with fail
  refine (rnum_b q4 s 0 2 false _ HR.out HA0.out HS.out (by decide)).mono ?_; rintro en w2a ⟨vi, a1, e1, rfl, hz, hr, hg, hst⟩
  replace HC := Lib.hid (HC.out.grown hg (fun e => by injection e with e; have := HQ4.out; omega))
  replace HB := Lib.hid (HB.out.grown hg HB.out.size (fun k hk => by injection hk with hk; rw [← hk]; exact HB4.out))
  replace HR := Lib.hid hr
  have HZ1 := Lib.hid hz
  have HST1 := Lib.hid hst
  have HA1 := Lib.hid hst.1
  clear hz hr hg hst
  go_wp2_with fail
  refine (rnum_b q4 s a1 2 e1 _ HR.out HA1.out HS.out (by decide)).mono ?_; rintro en w3 ⟨vf, a2, e2, rfl, hz, hr, hg, hst⟩
  replace HC := Lib.hid (HC.out.grown hg (fun e => by injection e with e; have := HQ4.out; omega))
  replace HB := Lib.hid (HB.out.grown hg HB.out.size (fun k hk => by injection hk with hk; rw [← hk]; exact HB4.out))
  replace HR := Lib.hid hr
  have HZ2 := Lib.hid hz
  have HST2 := Lib.hid hst
  have HA2 := Lib.hid hst.1
  clear hz hr hg hst
  go_wp2_with fail
  refine (rnum_b q4 s a2 2 e2 _ HR.out HA2.out HS.out (by decide)).mono ?_; rintro en w4 ⟨vq, a3, e3, rfl, hz, hr, hg, hst⟩
  replace HC := Lib.hid (HC.out.grown hg (fun e => by injection e with e; have := HQ4.out; omega))
  replace HB := Lib.hid (HB.out.grown hg HB.out.size (fun k hk => by injection hk with hk; rw [← hk]; exact HB4.out))
  replace HR := Lib.hid hr
  have HZ3 := Lib.hid hz
  have HST3 := Lib.hid hst
  have HA3 := Lib.hid hst.1
  clear hz hr hg hst
  go_wp2_with fail
  refine (rnum_b q4 s a3 2 e3 _ HR.out HA3.out HS.out (by decide)).mono ?_; rintro en w5 ⟨va, a4, e4, rfl, hz, hr, hg, hst⟩
  replace HC := Lib.hid (HC.out.grown hg (fun e => by injection e with e; have := HQ4.out; omega))
  replace HB := Lib.hid (HB.out.grown hg HB.out.size (fun k hk => by injection hk with hk; rw [← hk]; exact HB4.out))
  replace HR := Lib.hid hr
  have HZ4 := Lib.hid hz
  have HST4 := Lib.hid hst
  have HA4 := Lib.hid hst.1
  clear hz hr hg hst
  go_wp2_with fail
  refine (rnum_b q4 s a4 2 e4 _ HR.out HA4.out HS.out (by decide)).mono ?_; rintro en w6 ⟨vn, a5, e5, rfl, hz, hr, hg, hst⟩
  replace HC := Lib.hid (HC.out.grown hg (fun e => by injection e with e; have := HQ4.out; omega))
  replace HB := Lib.hid (HB.out.grown hg HB.out.size (fun k hk => by injection hk with hk; rw [← hk]; exact HB4.out))
  replace HR := Lib.hid hr
  have HZ5 := Lib.hid hz
  have HST5 := Lib.hid hst
  have HA5 := Lib.hid hst.1
  clear hz hr hg hst
  go_wp2_with fail
  refine (rnum_b q4 s a5 2 e5 _ HR.out HA5.out HS.out (by decide)).mono ?_; rintro en w7 ⟨vx, a6, e6, rfl, hz, hr, hg, hst⟩
  replace HC := Lib.hid (HC.out.grown hg (fun e => by injection e with e; have := HQ4.out; omega))
  replace HB := Lib.hid (HB.out.grown hg HB.out.size (fun k hk => by injection hk with hk; rw [← hk]; exact HB4.out))
  replace HR := Lib.hid hr
  have HZ6 := Lib.hid hz
  have HST6 := Lib.hid hst
  have HA6 := Lib.hid hst.1
  clear hz hr hg hst
  obtain ⟨nq, rfl⟩ : ∃ z : Nat, vq = (z : Int) := ⟨vq.toNat, by have := HZ3.out.1; omega⟩
  have hnq : nq < 65536 := by have := HZ3.out.2; omega
  obtain ⟨na, rfl⟩ : ∃ z : Nat, va = (z : Int) := ⟨va.toNat, by have := HZ4.out.1; omega⟩
  have hna : na < 65536 := by have := HZ4.out.2; omega
  obtain ⟨nn, rfl⟩ : ∃ z : Nat, vn = (z : Int) := ⟨vn.toNat, by have := HZ5.out.1; omega⟩
  have hnn : nn < 65536 := by have := HZ5.out.2; omega
  obtain ⟨nx, rfl⟩ : ∃ z : Nat, vx = (z : Int) := ⟨vx.toNat, by have := HZ6.out.1; omega⟩
  have hnx : nx < 65536 := by have := HZ6.out.2; omega
  have HH := Lib.hid (show Stp s (hd6P s) 0 (((((vi, vf), (nq : Int)), (na : Int)), (nn : Int)), (nx : Int)) a6 (eB e6) from Stp.seq Prod.mk (Stp.seq Prod.mk (Stp.seq Prod.mk (Stp.seq Prod.mk (Stp.seq Prod.mk HST1.out HST2.out) HST3.out) HST4.out) HST5.out) HST6.out)
  have HI1 := Lib.hid (inR16 HZ1.out)
  have HI2 := Lib.hid (inR16 HZ2.out)
  clear HST1 HST2 HST3 HST4 HST5 HST6 HZ1 HZ2 HZ3 HZ4 HZ5 HZ6
  obtain ⟨c0, c1, c2, f1, f2⟩ := HR.out.cells
  cases e6 with
  | true =>
    have HND := Lib.hid (msgP_bad HH.out HA6.out (Or.inl (by decide)))
    obtain ⟨y0, y1, y2, y3, y4, y5, y6, y7, y8, y9, y10, y11, g0, g1, g2, g3, g4, g5, g6, g7, g8, g9, g10, g11⟩ := HC.out.u12
    have HCZ := Lib.hid (HC.out.s12 (.int .i64 0) (.int .i64 0) (.int .i64 0) (.bool false) (.bool false) (.bool false) (.bool false) (.bool false) (.slice none 0 0) (.slice none 0 0) (.slice none 0 0) (.slice none 0 0))
    have HGZ := Lib.hid (grown_s12 w7 q2 (.int .i64 0) (.int .i64 0) (.int .i64 0) (.bool false) (.bool false) (.bool false) (.bool false) (.bool false) (.slice none 0 0) (.slice none 0 0) (.slice none 0 0) (.slice none 0 0))
    have HBZ := Lib.hid (HB.out.grown HGZ.out HB.out.size (fun k hk => by injection hk with hk; rw [← hk, HQ.out]; exact Nat.le_refl _))
    go_wp2
    obtain ⟨wq, hwq⟩ : ∃ x, ((((((((((((w7.setCell ⟨q2, 0, none⟩ (.int .i64 0)).setCell ⟨q2, 1, none⟩ (.int .i64 0)).setCell ⟨q2, 2, none⟩ (.int .i64 0)).setCell ⟨q2, 3, none⟩ (.bool false)).setCell ⟨q2, 4, none⟩ (.bool false)).setCell ⟨q2, 5, none⟩ (.bool false)).setCell ⟨q2, 6, none⟩ (.bool false)).setCell ⟨q2, 7, none⟩ (.bool false)).setCell ⟨q2, 8, none⟩ (.slice none 0 0)).setCell ⟨q2, 9, none⟩ (.slice none 0 0)).setCell ⟨q2, 10, none⟩ (.slice none 0 0)).setCell ⟨q2, 11, none⟩ (.slice none 0 0)) = x := ⟨_, rfl⟩
    rw [hwq] at HCZ HBZ ⊢
    clear hwq HGZ y0 y1 y2 y3 y4 y5 y6 y7 y8 y9 y10 y11 g0 g1 g2 g3 g4 g5 g6 g7 g8 g9 g10 g11
    obtain ⟨z0, z1, z2, z3, z4, z5, z6, z7, z8, z9, z10, z11, _⟩ := HCZ.out.u12
    refine bodyPost_ret (v := .tuple #[.agg #[.int .i64 0, .int .i64 0, .int .i64 0, .bool false, .bool false, .bool false, .bool false, .bool false, .slice none 0 0, .slice none 0 0, .slice none 0 0, .slice none 0 0], .bool false]) (by simp [results, Try.results33, go_sem, z0, z1, z2, z3, z4, z5, z6, z7, z8, z9, z10, z11]) rfl ⟨Or.inr ⟨HND.out, rfl⟩, HBZ.out⟩
  | false =>
    by_cases g1 : 300 < nq + na + nn + nx
    · have d1 := dT g1
      have d1i : decide ((300 : Int) < (nq : Int) + (na : Int) + (nn : Int) + (nx : Int)) = true := dT (by omega)
      have HND := Lib.hid (msgP_bad HH.out HA6.out (Or.inr (by simp only [msgF, Int.toNat_natCast]; exact if_pos g1)))
      clear g1
      obtain ⟨y0, y1, y2, y3, y4, y5, y6, y7, y8, y9, y10, y11, g0, g1, g2, g3, g4, g5, g6, g7, g8, g9, g10, g11⟩ := HC.out.u12
      have HCZ := Lib.hid (HC.out.s12 (.int .i64 0) (.int .i64 0) (.int .i64 0) (.bool false) (.bool false) (.bool false) (.bool false) (.bool false) (.slice none 0 0) (.slice none 0 0) (.slice none 0 0) (.slice none 0 0))
      have HGZ := Lib.hid (grown_s12 w7 q2 (.int .i64 0) (.int .i64 0) (.int .i64 0) (.bool false) (.bool false) (.bool false) (.bool false) (.bool false) (.slice none 0 0) (.slice none 0 0) (.slice none 0 0) (.slice none 0 0))
      have HBZ := Lib.hid (HB.out.grown HGZ.out HB.out.size (fun k hk => by injection hk with hk; rw [← hk, HQ.out]; exact Nat.le_refl _))
      go_wp2
      obtain ⟨wq, hwq⟩ : ∃ x, ((((((((((((w7.setCell ⟨q2, 0, none⟩ (.int .i64 0)).setCell ⟨q2, 1, none⟩ (.int .i64 0)).setCell ⟨q2, 2, none⟩ (.int .i64 0)).setCell ⟨q2, 3, none⟩ (.bool false)).setCell ⟨q2, 4, none⟩ (.bool false)).setCell ⟨q2, 5, none⟩ (.bool false)).setCell ⟨q2, 6, none⟩ (.bool false)).setCell ⟨q2, 7, none⟩ (.bool false)).setCell ⟨q2, 8, none⟩ (.slice none 0 0)).setCell ⟨q2, 9, none⟩ (.slice none 0 0)).setCell ⟨q2, 10, none⟩ (.slice none 0 0)).setCell ⟨q2, 11, none⟩ (.slice none 0 0)) = x := ⟨_, rfl⟩
      rw [hwq] at HCZ HBZ ⊢
      clear hwq HGZ y0 y1 y2 y3 y4 y5 y6 y7 y8 y9 y10 y11 g0 g1 g2 g3 g4 g5 g6 g7 g8 g9 g10 g11
      obtain ⟨z0, z1, z2, z3, z4, z5, z6, z7, z8, z9, z10, z11, _⟩ := HCZ.out.u12
      refine bodyPost_ret (v := .tuple #[.agg #[.int .i64 0, .int .i64 0, .int .i64 0, .bool false, .bool false, .bool false, .bool false, .bool false, .slice none 0 0, .slice none 0 0, .slice none 0 0, .slice none 0 0], .bool false]) (by simp [results, Try.results33, go_sem, z0, z1, z2, z3, z4, z5, z6, z7, z8, z9, z10, z11]) rfl ⟨Or.inr ⟨HND.out, rfl⟩, HBZ.out⟩
    have d1 := dF g1
    have d1i : decide ((300 : Int) < (nq : Int) + (na : Int) + (nn : Int) + (nx : Int)) = false := dF (by omega)
    have HLK := Lib.hid g1
    clear g1
    have hba := (Below.refl w7.heap.size w7).alloc (Nat.le_refl _) (.cells #[.int .i64 0, .int .i64 0, .int .i64 0, .bool false, .bool false, .bool false, .bool false, .bool false, .slice none 0 0, .slice none 0 0, .slice none 0 0, .slice none 0 0] 32)
    have HM := Lib.hid (CN.new w7 #[.int .i64 0, .int .i64 0, .int .i64 0, .bool false, .bool false, .bool false, .bool false, .bool false, .slice none 0 0, .slice none 0 0, .slice none 0 0, .slice none 0 0] 32)
    have HTM := Lib.hid (TB.new w7 #[.int .i64 0, .int .i64 0, .int .i64 0, .bool false, .bool false, .bool false, .bool false, .bool false, .slice none 0 0, .slice none 0 0, .slice none 0 0, .slice none 0 0] 32)
    replace HR := Lib.hid (HR.out.below hba)
    have HC11 := Lib.hid HC.out.1
    have HC11 := Lib.hid HC.out.1
    have HB11 := Lib.hid HB.out.size
    replace HB := Lib.hid (HB.out.trans (hba.mono HB.out.size))
    replace HC := Lib.hid (HC.out.below hba)
    obtain ⟨w9, hw⟩ : ∃ x, w7.alloc (.cells #[.int .i64 0, .int .i64 0, .int .i64 0, .bool false, .bool false, .bool false, .bool false, .bool false, .slice none 0 0, .slice none 0 0, .slice none 0 0, .slice none 0 0] 32) = x := ⟨_, rfl⟩
    obtain ⟨q11, hq6⟩ : ∃ x, w7.heap.size = x := ⟨_, rfl⟩
    rw [hw] at HR HB HC HM HTM
    rw [hq6] at HM HTM HB11 HC11
    have HW := Lib.hid hw
    have HQ3 := Lib.hid hq6
    have HNE := Lib.hid (show q4 ≠ q11 from tb_neO HR.out.2 HTM.out (by decide))
    clear hba hw hq6
    go_upto_region 9 with (fail)
    rw [HW.out, HQ3.out]
    clear HW HQ3
    go_wp2_with fail
    refine (runflag_yes vi vf _ HI1.out HI2.out).mono ?_; rintro en w10 ⟨rfl, hb⟩
    replace HC := Lib.hid (HC.out.below hb)
    replace HM := Lib.hid (HM.out.below hb)
    replace HTM := Lib.hid (HTM.out.below hb)
    replace HR := Lib.hid (HR.out.below hb)
    replace HB := Lib.hid (HB.out.trans (hb.mono HB.out.size))
    clear hb
    obtain ⟨⟨h0, h1, h2, b1, b2, b3, b4, b5⟩, hH⟩ : ∃ x, unH vi vf = x := ⟨_, rfl⟩
    have HH8 := Lib.hid hH
    injection hH with j0 j1 j2 j3 j4 j5 j6 j7
    rw [j1, j2, j3, j4, j5, j6, j7]
    clear j0
    clear j1 j2 j3 j4 j5 j6 j7
    obtain ⟨y0, y1, y2, y3, y4, y5, y6, y7, y8, y9, y10, y11, g0, g1, g2, g3, g4, g5, g6, g7, g8, g9, g10, g11⟩ := HM.out.u12
    replace HM := Lib.hid (show CN ((((((((w10.setCell ⟨q11, 0, none⟩ (.int .i64 vi)).setCell ⟨q11, 1, none⟩ (.int .i64 h1)).setCell ⟨q11, 2, none⟩ (.int .i64 h2)).setCell ⟨q11, 3, none⟩ (.bool b1)).setCell ⟨q11, 4, none⟩ (.bool b2)).setCell ⟨q11, 5, none⟩ (.bool b3)).setCell ⟨q11, 6, none⟩ (.bool b4)).setCell ⟨q11, 7, none⟩ (.bool b5)) q11 [.int .i64 vi, .int .i64 h1, .int .i64 h2, .bool b1, .bool b2, .bool b3, .bool b4, .bool b5, .slice none 0 0, .slice none 0 0, .slice none 0 0, .slice none 0 0] from ((((((((HM.out.set 0 (by simp) (.int .i64 vi)).set 1 (by simp) (.int .i64 h1)).set 2 (by simp) (.int .i64 h2)).set 3 (by simp) (.bool b1)).set 4 (by simp) (.bool b2)).set 5 (by simp) (.bool b3)).set 6 (by simp) (.bool b4)).set 7 (by simp) (.bool b5)))
    replace HTM := Lib.hid (show TB ((((((((w10.setCell ⟨q11, 0, none⟩ (.int .i64 vi)).setCell ⟨q11, 1, none⟩ (.int .i64 h1)).setCell ⟨q11, 2, none⟩ (.int .i64 h2)).setCell ⟨q11, 3, none⟩ (.bool b1)).setCell ⟨q11, 4, none⟩ (.bool b2)).setCell ⟨q11, 5, none⟩ (.bool b3)).setCell ⟨q11, 6, none⟩ (.bool b4)).setCell ⟨q11, 7, none⟩ (.bool b5)) q11 32 from ((((((((HTM.out.set 0 (.int .i64 vi)).set 1 (.int .i64 h1)).set 2 (.int .i64 h2)).set 3 (.bool b1)).set 4 (.bool b2)).set 5 (.bool b3)).set 6 (.bool b4)).set 7 (.bool b5)))
    have hg := ((((((((grown_cell w10 q11 0 (.int .i64 vi)).trans (grown_cell (w10.setCell ⟨q11, 0, none⟩ (.int .i64 vi)) q11 1 (.int .i64 h1))).trans (grown_cell ((w10.setCell ⟨q11, 0, none⟩ (.int .i64 vi)).setCell ⟨q11, 1, none⟩ (.int .i64 h1)) q11 2 (.int .i64 h2))).trans (grown_cell (((w10.setCell ⟨q11, 0, none⟩ (.int .i64 vi)).setCell ⟨q11, 1, none⟩ (.int .i64 h1)).setCell ⟨q11, 2, none⟩ (.int .i64 h2)) q11 3 (.bool b1))).trans (grown_cell ((((w10.setCell ⟨q11, 0, none⟩ (.int .i64 vi)).setCell ⟨q11, 1, none⟩ (.int .i64 h1)).setCell ⟨q11, 2, none⟩ (.int .i64 h2)).setCell ⟨q11, 3, none⟩ (.bool b1)) q11 4 (.bool b2))).trans (grown_cell (((((w10.setCell ⟨q11, 0, none⟩ (.int .i64 vi)).setCell ⟨q11, 1, none⟩ (.int .i64 h1)).setCell ⟨q11, 2, none⟩ (.int .i64 h2)).setCell ⟨q11, 3, none⟩ (.bool b1)).setCell ⟨q11, 4, none⟩ (.bool b2)) q11 5 (.bool b3))).trans (grown_cell ((((((w10.setCell ⟨q11, 0, none⟩ (.int .i64 vi)).setCell ⟨q11, 1, none⟩ (.int .i64 h1)).setCell ⟨q11, 2, none⟩ (.int .i64 h2)).setCell ⟨q11, 3, none⟩ (.bool b1)).setCell ⟨q11, 4, none⟩ (.bool b2)).setCell ⟨q11, 5, none⟩ (.bool b3)) q11 6 (.bool b4))).trans (grown_cell (((((((w10.setCell ⟨q11, 0, none⟩ (.int .i64 vi)).setCell ⟨q11, 1, none⟩ (.int .i64 h1)).setCell ⟨q11, 2, none⟩ (.int .i64 h2)).setCell ⟨q11, 3, none⟩ (.bool b1)).setCell ⟨q11, 4, none⟩ (.bool b2)).setCell ⟨q11, 5, none⟩ (.bool b3)).setCell ⟨q11, 6, none⟩ (.bool b4)) q11 7 (.bool b5)))
    replace HC := Lib.hid (HC.out.grown hg (fun e => by injection e with e; have := HC11.out; omega))
    replace HR := Lib.hid (show RdB ((((((((w10.setCell ⟨q11, 0, none⟩ (.int .i64 vi)).setCell ⟨q11, 1, none⟩ (.int .i64 h1)).setCell ⟨q11, 2, none⟩ (.int .i64 h2)).setCell ⟨q11, 3, none⟩ (.bool b1)).setCell ⟨q11, 4, none⟩ (.bool b2)).setCell ⟨q11, 5, none⟩ (.bool b3)).setCell ⟨q11, 6, none⟩ (.bool b4)).setCell ⟨q11, 7, none⟩ (.bool b5)) q4 s a6 false from ⟨HR.out.1.grown hg (fun e => by injection e with e; exact HNE.out e), HR.out.2.grown hg (fun e => by injection e with e; exact HNE.out e.symm)⟩)
    replace HB := Lib.hid (HB.out.grown hg HB.out.size (fun k hk => by injection hk with hk; rw [← hk]; exact HB11.out))
    clear hg
    go_upto_region 10 with (fail)
    clear c0 c1 c2 f1 f2 d1 d1i y0 y1 y2 y3 y4 y5 y6 y7 y8 y9 y10 y11 g0 g1 g2 g3 g4 g5 g6 g7 g8 g9 g10 g11
    obtain ⟨w11, hw11⟩ : ∃ x, ((((((((w10.setCell ⟨q11, 0, none⟩ (.int .i64 vi)).setCell ⟨q11, 1, none⟩ (.int .i64 h1)).setCell ⟨q11, 2, none⟩ (.int .i64 h2)).setCell ⟨q11, 3, none⟩ (.bool b1)).setCell ⟨q11, 4, none⟩ (.bool b2)).setCell ⟨q11, 5, none⟩ (.bool b3)).setCell ⟨q11, 6, none⟩ (.bool b4)).setCell ⟨q11, 7, none⟩ (.bool b5)) = x := ⟨_, rfl⟩
    rw [hw11] at HC HM HTM HR HB ⊢
    clear hw11
    have HL11 := Lib.hid (show w.heap.size ≤ w11.heap.size from HB.out.size)
    have HQL11 := Lib.hid (show q11 < w11.heap.size from HM.out.1)
    obtain ⟨i0, hi, hz0, hz1, hz2⟩ := info_parts infoQ
    have HI := Lib.hid hi
    have HI0 := Lib.hid hz0
    have HI1q := Lib.hid hz1
    have HI2q := Lib.hid hz2
    clear hi hz0 hz1 hz2
    go_upto_block 0 with (fail)
    go_cut [] (fun wx => ∃ (L : List Ky) (pQ : Option Addr) (lQ cQ ax : Nat) (bd : Bool), Hid (wx.ownsRow w11.heap.size 70 3 (.slice pQ lQ cQ) lQ (flatQ L)) ∧ Hid (L.length = lQ) ∧ Hid (RdB wx q4 s ax bd) ∧ Hid (CN wx q11 [.int .i64 vi, .int .i64 h1, .int .i64 h2, .bool b1, .bool b2, .bool b3, .bool b4, .bool b5, .slice pQ lQ cQ, .slice none 0 0, .slice none 0 0, .slice none 0 0]) ∧ Hid (TB wx q11 32) ∧ Hid (CN wx q2 [.int .i64 0, .int .i64 0, .int .i64 0, .bool false, .bool false, .bool false, .bool false, .bool false, .slice none 0 0, .slice none 0 0, .slice none 0 0, .slice none 0 0]) ∧ Hid (Below w.heap.size w wx) ∧ Hid (Stp s (manyP (qP s) nq a6) 0 L ax (eB bd)))
    case first =>
      go_wp2_with fail
      go_loopw [12] (fun i wr => ∃ (k : Nat) (L : List Ky) (pQ : Option Addr) (lQ cQ : Nat) (ax : Nat) (bd : Bool), k ≤ nq ∧ i = .int .i64 k ∧ Hid (wr.ownsRow w11.heap.size 70 3 (.slice pQ lQ cQ) lQ (flatQ L)) ∧ Hid (L.length = k ∧ lQ = k) ∧ Hid (RdB wr q4 s ax bd) ∧ Hid (CN wr q11 [.int .i64 vi, .int .i64 h1, .int .i64 h2, .bool b1, .bool b2, .bool b3, .bool b4, .bool b5, .slice pQ lQ cQ, .slice none 0 0, .slice none 0 0, .slice none 0 0]) ∧ Hid (TB wr q11 32) ∧ Hid (CN wr q2 [.int .i64 0, .int .i64 0, .int .i64 0, .bool false, .bool false, .bool false, .bool false, .bool false, .slice none 0 0, .slice none 0 0, .slice none 0 0, .slice none 0 0]) ∧ Hid (Below w.heap.size w wr) ∧ Hid (w11.heap.size ≤ wr.heap.size) ∧ Hid (Stp s (manyP (qP s) k a6) 0 L ax (eB bd))) (fun i _ => nq - (intOf i).toNat)
      case atStart => exact ⟨0, [], none, 0, 0, a6, false, Nat.zero_le _, rfl, Lib.hid (World.ownsRow_nil _ _ _ _), Lib.hid ⟨rfl, rfl⟩, HR, HM, HTM, HC, HB, Lib.hid (Nat.le_refl _), Lib.hid (Stp.yes rfl HA6.out)⟩
      case round =>
        clear HR HM HTM HC HB
        obtain ⟨k, L, pQ, lQ, cQ, ax, bd, hk, rfl, HOQ, HLQ, HR, HM, HTM, HC, HB, HSZ1, HSTQ⟩ := hrel
        have HK := Lib.hid hk
        have HAX := Lib.hid HSTQ.out.1
        obtain ⟨c0, c1, c2, f1, f2⟩ := HR.out.cells
        by_cases hlt : k < nq
        rotate_left
        · have d0 := dF (p := k < nq) hlt
          have HKN := Lib.hid (show k = nq by omega)
          clear hlt hk
          go_wp2
          go_meet
          exact ⟨L, pQ, lQ, cQ, ax, bd, HOQ, Lib.hid (HLQ.out.1.trans HLQ.out.2.symm), HR, HM, HTM, HC, HB, Lib.hid (show Stp s (manyP (qP s) nq a6) 0 L ax (eB bd) from by rw [← HKN.out]; exact HSTQ.out)⟩
        have d0 := dT (p := k < nq) hlt
        have HKN := Lib.hid hlt
        have hkb : k ≤ 70000 := by omega
        clear hlt hk
        cases bd with
        | true =>
          go_wp2
          go_meet
          exact ⟨L, pQ, lQ, cQ, ax, true, HOQ, Lib.hid (HLQ.out.1.trans HLQ.out.2.symm), HR, HM, HTM, HC, HB, Lib.hid (show Stp s (manyP (qP s) nq a6) 0 L ax (eB true) from (HSTQ.out.many HK.out (by decide)).any (by decide))⟩
        | false =>
          go_upto_region 13 with (fail)
          refine wp_region_last_drew (S := (fun wx => wx.cell? ⟨q11, 8, none⟩ = some (.slice pQ lQ cQ))) (L := 12) (by kernel_rfl) ((HM.out.2 8 _ rfl).1) (fun hHeld => ?_)
          clear c0 c1 c2 f1 f2
          replace HOQ := Lib.hid (own_below' HOQ.out (Below.refl _ _).drew)
          replace HM := Lib.hid (HM.out.below (Below.refl _ _).drew)
          replace HTM := Lib.hid (HTM.out.below (Below.refl _ _).drew)
          replace HC := Lib.hid (HC.out.below (Below.refl _ _).drew)
          replace HR := Lib.hid HR.out.drew
          replace HB := Lib.hid HB.out.drew
          replace HSZ1 := Lib.hid (show w11.heap.size ≤ wr.drew.heap.size from HSZ1.out)
          obtain ⟨wz, hwd⟩ : ∃ x, wr.drew = x := ⟨_, rfl⟩
          rw [hwd] at hHeld HOQ HM HTM HC HR HB HSZ1 ⊢
          clear hwd
          refine wpAnyL_take (i := 0) (oi := { dst := some 68, op := Go.Op.fieldAddr 32 (Go.Operand.tmp 11) 1, type := 0, pos := "ref.go:311", after := #[], guard := none }) (v := ?v0_320101) rfl (by kernel_rfl) (by kernel_rfl) (by kernel_rfl) (by kernel_rfl) (by kernel_rfl) (fun _ _ _ h => h) (Or.inl ⟨by rfl, ?y0_320101⟩) hHeld ?r0_320101
          case y0_320101 => intro w hSw; (try dsimp only at hSw); go_simp; try with_reducible rfl
          try simp only [Act.put, List.setIfInBounds_toArray, List.set_cons_zero, List.set_cons_succ]
          refine wpAnyL_take (i := 1) (oi := { dst := some 69, op := Go.Op.load 24 (Go.Operand.tmp 68), type := 24, pos := "ref.go:311", after := #[{ on := 0, ground := Go.Ground.data }], guard := none }) (v := ?v1_320101) rfl (by kernel_rfl) (by kernel_rfl) (by kernel_rfl) (by kernel_rfl) (by kernel_rfl) (fun _ _ _ h => h) (Or.inl ⟨by rfl, ?y1_320101⟩) hHeld ?r1_320101
          case y1_320101 => intro w hSw; (try dsimp only at hSw); have y8 := hSw; go_simp; try with_reducible rfl
          try simp only [Act.put, List.setIfInBounds_toArray, List.set_cons_zero, List.set_cons_succ]
          refine wpAnyL_take (i := 2) (oi := { dst := some 70, op := Go.Op.move (Go.Operand.tmp 4), type := 125, pos := "ref.go:311", after := #[], guard := none }) (v := ?v2_320101) rfl (by kernel_rfl) (by kernel_rfl) (by kernel_rfl) (by kernel_rfl) (by kernel_rfl) (fun _ _ _ h => h) (Or.inl ⟨by rfl, ?y2_320101⟩) hHeld ?r2_320101
          case y2_320101 => intro w hSw; (try dsimp only at hSw); go_simp; try with_reducible rfl
          try simp only [Act.put, List.setIfInBounds_toArray, List.set_cons_zero, List.set_cons_succ]
          refine wpAnyL_take (i := 4) (oi := { dst := some 72, op := Go.Op.move (Go.Operand.tmp 4), type := 125, pos := "ref.go:311", after := #[], guard := none }) (v := ?v4_320101) rfl (by kernel_rfl) (by kernel_rfl) (by kernel_rfl) (by kernel_rfl) (by kernel_rfl) (fun _ _ _ h => h) (Or.inl ⟨by rfl, ?y4_320101⟩) hHeld ?r4_320101
          case y4_320101 => intro w hSw; (try dsimp only at hSw); go_simp; try with_reducible rfl
          try simp only [Act.put, List.setIfInBounds_toArray, List.set_cons_zero, List.set_cons_succ]
          refine wpAnyL_take (i := 6) (oi := { dst := some 74, op := Go.Op.move (Go.Operand.tmp 4), type := 125, pos := "ref.go:311", after := #[], guard := none }) (v := ?v6_320101) rfl (by kernel_rfl) (by kernel_rfl) (by kernel_rfl) (by kernel_rfl) (by kernel_rfl) (fun _ _ _ h => h) (Or.inl ⟨by rfl, ?y6_320101⟩) hHeld ?r6_320101
          case y6_320101 => intro w hSw; (try dsimp only at hSw); go_simp; try with_reducible rfl
          try simp only [Act.put, List.setIfInBounds_toArray, List.set_cons_zero, List.set_cons_succ]
          refine wpAnyL_ready (rs := [3]) (by kernel_rfl) (by simp) ?_
          refine AllReadyL.cons (o := { dst := some 71, op := Go.Op.call { callee := Go.Callee.value (Go.Operand.func 71), args := #[Go.Operand.tmp 70], argTypes := #[125] }, type := 9, pos := "ref.go:311", after := #[{ on := 2, ground := Go.Ground.data }], guard := none }) rfl (by decide) (fun K hK => ?_) AllReadyL.nil
          go_simp
          refine (rname_b q4 s ax false _ HR.out HAX.out HS.out).mono ?_; rintro en w31 ⟨v1, x1, y1, rfl, hz, hr, hg, hst⟩
          replace HOQ := Lib.hid (own_keeps HOQ.out HR.out.2 (by decide) hg)
          replace HM := Lib.hid (HM.out.grown hg (fun e => by injection e with e; exact HNE.out e.symm))
          replace HTM := Lib.hid (HTM.out.grown hg (fun e => by injection e with e; exact HNE.out e))
          replace HC := Lib.hid (HC.out.grown hg (fun e => by injection e with e; have := HQ4.out; omega))
          replace HSZ1 := Lib.hid (Nat.le_trans HSZ1.out hg.size)
          replace HB := Lib.hid (HB.out.grown hg HB.out.size (fun k hk => by injection hk with hk; rw [← hk]; exact HB4.out))
          replace HR := Lib.hid hr
          have HX1 := Lib.hid hst.1
          have HS1 := Lib.hid hst
          clear hz hr hg hst
          go_wp2_with fail
          refine hK.out _ _ ((HM.out.2 8 _ rfl).1) (fun hHeld2 => ?_)
          clear hK K hHeld
          have hHeld := hHeld2
          clear hHeld2
          try simp only [Act.put, List.setIfInBounds_toArray, List.set_cons_zero, List.set_cons_succ]
          refine wpAnyL_ready (rs := [5]) (by kernel_rfl) (by simp) ?_
          refine AllReadyL.cons (o := { dst := some 73, op := Go.Op.call { callee := Go.Callee.value (Go.Operand.func 70), args := #[Go.Operand.tmp 72, Go.Operand.const (Go.Value.int Go.IntKind.i64 2)], argTypes := #[125, 3] }, type := 3, pos := "ref.go:311", after := #[{ on := 4, ground := Go.Ground.data }, { on := 3, ground := Go.Ground.chain }], guard := none }) rfl (by decide) (fun K hK => ?_) AllReadyL.nil
          go_simp
          refine (rnum_b q4 s x1 2 y1 _ HR.out HX1.out HS.out (by decide)).mono ?_; rintro en w32 ⟨vt, x2, y2, rfl, hz, hr, hg, hst⟩
          replace HOQ := Lib.hid (own_keeps HOQ.out HR.out.2 (by decide) hg)
          replace HM := Lib.hid (HM.out.grown hg (fun e => by injection e with e; exact HNE.out e.symm))
          replace HTM := Lib.hid (HTM.out.grown hg (fun e => by injection e with e; exact HNE.out e))
          replace HC := Lib.hid (HC.out.grown hg (fun e => by injection e with e; have := HQ4.out; omega))
          replace HSZ1 := Lib.hid (Nat.le_trans HSZ1.out hg.size)
          replace HB := Lib.hid (HB.out.grown hg HB.out.size (fun k hk => by injection hk with hk; rw [← hk]; exact HB4.out))
          replace HR := Lib.hid hr
          have HX2 := Lib.hid hst.1
          have HS2 := Lib.hid hst
          clear hz hr hg hst
          go_wp2_with fail
          refine hK.out _ _ ((HM.out.2 8 _ rfl).1) (fun hHeld2 => ?_)
          clear hK K hHeld
          have hHeld := hHeld2
          clear hHeld2
          try simp only [Act.put, List.setIfInBounds_toArray, List.set_cons_zero, List.set_cons_succ]
          refine wpAnyL_ready (rs := [7]) (by kernel_rfl) (by simp) ?_
          refine AllReadyL.cons (o := { dst := some 75, op := Go.Op.call { callee := Go.Callee.value (Go.Operand.func 70), args := #[Go.Operand.tmp 74, Go.Operand.const (Go.Value.int Go.IntKind.i64 2)], argTypes := #[125, 3] }, type := 3, pos := "ref.go:311", after := #[{ on := 6, ground := Go.Ground.data }, { on := 5, ground := Go.Ground.chain }], guard := none }) rfl (by decide) (fun K hK => ?_) AllReadyL.nil
          go_simp
          refine (rnum_b q4 s x2 2 y2 _ HR.out HX2.out HS.out (by decide)).mono ?_; rintro en w33 ⟨vc, x3, y3, rfl, hz, hr, hg, hst⟩
          replace HOQ := Lib.hid (own_keeps HOQ.out HR.out.2 (by decide) hg)
          replace HM := Lib.hid (HM.out.grown hg (fun e => by injection e with e; exact HNE.out e.symm))
          replace HTM := Lib.hid (HTM.out.grown hg (fun e => by injection e with e; exact HNE.out e))
          replace HC := Lib.hid (HC.out.grown hg (fun e => by injection e with e; have := HQ4.out; omega))
          replace HSZ1 := Lib.hid (Nat.le_trans HSZ1.out hg.size)
          replace HB := Lib.hid (HB.out.grown hg HB.out.size (fun k hk => by injection hk with hk; rw [← hk]; exact HB4.out))
          replace HR := Lib.hid hr
          have HX3 := Lib.hid hst.1
          have HS3 := Lib.hid hst
          clear hz hr hg hst
          go_wp2_with fail
          refine hK.out _ _ ((HM.out.2 8 _ rfl).1) (fun hHeld2 => ?_)
          clear hK K hHeld
          have hHeld := hHeld2
          clear hHeld2
          try simp only [Act.put, List.setIfInBounds_toArray, List.set_cons_zero, List.set_cons_succ]
          refine wpAnyL_take (i := 8) (oi := { dst := some 76, op := Go.Op.build 70 #[(0, Go.Operand.tmp 71), (1, Go.Operand.tmp 73), (2, Go.Operand.tmp 75)], type := 70, pos := "ref.go:311", after := #[{ on := 3, ground := Go.Ground.data }, { on := 5, ground := Go.Ground.data }, { on := 7, ground := Go.Ground.data }], guard := none }) (v := ?v8_320104) rfl (by kernel_rfl) (by kernel_rfl) (by kernel_rfl) (by kernel_rfl) (by kernel_rfl) (fun _ _ _ h => h) (Or.inl ⟨by rfl, ?y8_320104⟩) hHeld ?r8_320104
          case y8_320104 => intro w hSw; (try dsimp only at hSw); go_simp; try with_reducible rfl
          try simp only [Act.put, List.setIfInBounds_toArray, List.set_cons_zero, List.set_cons_succ]
          refine wpAnyL_ready (rs := [9]) (by kernel_rfl) (by simp) ?_
          refine AllReadyL.cons (o := { dst := some 77, op := Go.Op.buildSlice 24 1 #[(0, Go.Operand.tmp 76)], type := 24, pos := "ref.go:311", after := #[{ on := 8, ground := Go.Ground.data }], guard := none }) rfl (by decide) (fun K hK => ?_) AllReadyL.nil
          go_simp
          have hba := (Below.refl w33.heap.size w33).alloc (Nat.le_refl _) (.cells #[.string v1, .int .i64 vt, .int .i64 vc] 70)
          have HE := Lib.hid (cells_lit w33 #[.string v1, .int .i64 vt, .int .i64 vc] 70)
          replace HOQ := Lib.hid (own_below' HOQ.out hba)
          replace HM := Lib.hid (HM.out.below hba)
          replace HTM := Lib.hid (HTM.out.below hba)
          replace HC := Lib.hid (HC.out.below hba)
          replace HR := Lib.hid (HR.out.below hba)
          replace HSZ1 := Lib.hid (Nat.le_trans HSZ1.out hba.size)
          replace HB := Lib.hid (HB.out.trans (hba.mono HB.out.size))
          obtain ⟨w34, hwe⟩ : ∃ x, w33.alloc (.cells #[.string v1, .int .i64 vt, .int .i64 vc] 70) = x := ⟨_, rfl⟩
          obtain ⟨ge, hge⟩ : ∃ x, w33.heap.size = x := ⟨_, rfl⟩
          rw [hwe] at HOQ HM HTM HC HR HSZ1 HB HE ⊢
          rw [hge] at HE ⊢
          clear hba hwe hge
          refine hK.out _ _ ((HM.out.2 8 _ rfl).1) (fun hHeld2 => ?_)
          clear hK K hHeld
          have hHeld := hHeld2
          clear hHeld2
          try simp only [Act.put, List.setIfInBounds_toArray, List.set_cons_zero, List.set_cons_succ]
          refine wpAnyL_ready (rs := [10]) (by kernel_rfl) (by simp) ?_
          refine AllReadyL.cons (o := { dst := some 78, op := Go.Op.call { callee := Go.Callee.builtin Go.Builtin.append, args := #[Go.Operand.tmp 69, Go.Operand.tmp 77], argTypes := #[24, 24] }, type := 24, pos := "ref.go:311", after := #[{ on := 1, ground := Go.Ground.data }, { on := 9, ground := Go.Ground.data }, { on := 7, ground := Go.Ground.chain }], guard := none }) rfl (by decide) (fun K hK => ?_) AllReadyL.nil
          refine step_append_cellsK (by rfl) _ _ 24 70 (by rfl) i0 _ 3 32 Try.underlying24 HI.out HI0.out HI1q.out HI2q.out rfl (by decide) w11.heap.size _ lQ _ (by rfl) HOQ.out (some ⟨ge, 0, none⟩) 1 1 (encK ⟨v1, vt, vc⟩) (by rfl) (fun h => by cases h) HE.out (fun u hu => flatQ_one [⟨v1, vt, vc⟩] u (by simpa [flatQ] using hu)) (by have := HLQ.out.2; omega) (by decide) HSZ1.out ?_
          intro v8 w35 hown hgrow
          obtain ⟨pQ2, cQ2, rfl, -⟩ := cellsK_own hown
          have HLW := Lib.hid (show ∀ k, (Value.slice pQ lQ cQ).ownBlock = some k → w11.heap.size ≤ k from fun k hk => (HOQ.out.lt k hk).1)
          have hn4 := own_ne HOQ.out HR.out.2 (by decide)
          have hn11 := own_ne HOQ.out HTM.out (by decide)
          have hn2 : some q2 ≠ (Value.slice pQ lQ cQ).ownBlock := fun e => by have := HLW.out _ e.symm; have := HC11.out; have := HQL11.out; omega
          replace HM := Lib.hid (HM.out.grown hgrow (fun e => hn11 e.symm))
          replace HTM := Lib.hid (HTM.out.grown hgrow hn11)
          replace HC := Lib.hid (HC.out.grown hgrow hn2)
          replace HR := Lib.hid (show RdB w35 q4 s x3 y3 from ⟨HR.out.1.grown hgrow (fun e => hn4 e.symm), HR.out.2.grown hgrow hn4⟩)
          replace HSZ1 := Lib.hid (Nat.le_trans HSZ1.out hgrow.size)
          replace HB := Lib.hid (HB.out.grown hgrow HB.out.size (fun k hk => Nat.le_trans HL11.out (HLW.out k hk)))
          replace HOQ := Lib.hid hown
          clear hown hgrow hn4 hn11 hn2
          refine hK.out _ _ ((HM.out.2 8 _ rfl).1) (fun hHeld2 => ?_)
          clear hK K hHeld
          have hHeld := hHeld2
          clear hHeld2
          try simp only [Act.put, List.setIfInBounds_toArray, List.set_cons_zero, List.set_cons_succ]
          refine wpAnyL_take (i := 11) (oi := { dst := some 79, op := Go.Op.fieldAddr 32 (Go.Operand.tmp 11) 1, type := 0, pos := "ref.go:311", after := #[{ on := 0, ground := Go.Ground.phase }, { on := 1, ground := Go.Ground.phase }, { on := 2, ground := Go.Ground.phase }, { on := 3, ground := Go.Ground.phase }, { on := 4, ground := Go.Ground.phase }, { on := 5, ground := Go.Ground.phase }, { on := 6, ground := Go.Ground.phase }, { on := 7, ground := Go.Ground.phase }, { on := 8, ground := Go.Ground.phase }, { on := 9, ground := Go.Ground.phase }, { on := 10, ground := Go.Ground.phase }], guard := none }) (v := ?v11_320106) rfl (by kernel_rfl) (by kernel_rfl) (by kernel_rfl) (by kernel_rfl) (by kernel_rfl) (fun _ _ _ h => h) (Or.inl ⟨by rfl, ?y11_320106⟩) hHeld ?r11_320106
          case y11_320106 => intro w hSw; (try dsimp only at hSw); go_simp; try with_reducible rfl
          try simp only [Act.put, List.setIfInBounds_toArray, List.set_cons_zero, List.set_cons_succ]
          refine wpAnyL_ready (rs := [12]) (by kernel_rfl) (by simp) ?_
          refine AllReadyL.last (o := { dst := none, op := Go.Op.store 24 (Go.Operand.tmp 79) (Go.Operand.tmp 78), type := 0, pos := "ref.go:311", after := #[{ on := 11, ground := Go.Ground.data }, { on := 10, ground := Go.Ground.data }, { on := 10, ground := Go.Ground.chain }, { on := 0, ground := Go.Ground.phase }, { on := 1, ground := Go.Ground.phase }, { on := 2, ground := Go.Ground.phase }, { on := 3, ground := Go.Ground.phase }, { on := 4, ground := Go.Ground.phase }, { on := 5, ground := Go.Ground.phase }, { on := 6, ground := Go.Ground.phase }, { on := 7, ground := Go.Ground.phase }, { on := 8, ground := Go.Ground.phase }, { on := 9, ground := Go.Ground.phase }, { on := 10, ground := Go.Ground.phase }], guard := none }) rfl (by decide) (fun K hK => ?_) AllReadyL.nil
          have hc8 := (HM.out.2 8 _ rfl).1
          have hf8 := (HM.out.2 8 _ rfl).2
          go_simp
          refine hK.out _ _ trivial (fun _ => ?_)
          clear hK K
          try simp only [Act.put, List.setIfInBounds_toArray, List.set_cons_zero, List.set_cons_succ]
          refine wpAnyL_done (by kernel_rfl) ?_ _
          have hg := grown_cell w35 q11 8 (.slice pQ2 (lQ + 1) cQ2)
          replace HM := Lib.hid (show CN (w35.setCell ⟨q11, 8, none⟩ (.slice pQ2 (lQ + 1) cQ2)) q11 [.int .i64 vi, .int .i64 h1, .int .i64 h2, .bool b1, .bool b2, .bool b3, .bool b4, .bool b5, .slice pQ2 (lQ + 1) cQ2, .slice none 0 0, .slice none 0 0, .slice none 0 0] from HM.out.set 8 (by simp) (.slice pQ2 (lQ + 1) cQ2))
          replace HOQ := Lib.hid (own_keeps HOQ.out HTM.out (by decide) hg)
          replace HTM := Lib.hid (HTM.out.set 8 (.slice pQ2 (lQ + 1) cQ2))
          replace HC := Lib.hid (HC.out.grown hg (fun e => by injection e with e; have := HC11.out; omega))
          replace HR := Lib.hid (show RdB (w35.setCell ⟨q11, 8, none⟩ (.slice pQ2 (lQ + 1) cQ2)) q4 s x3 y3 from ⟨HR.out.1.grown hg (fun e => by injection e with e; exact HNE.out e), HR.out.2.grown hg (fun e => by injection e with e; exact HNE.out e.symm)⟩)
          replace HB := Lib.hid (HB.out.grown hg HB.out.size (fun k hk => by injection hk with hk; rw [← hk]; exact HB11.out))
          replace HSZ1 := Lib.hid (Nat.le_trans HSZ1.out hg.size)
          clear hg
          have HQP := Lib.hid (show Stp s (manyP (qP s) (k + 1) a6) 0 (L ++ [⟨v1, vt, vc⟩]) x3 (eB y3) from Stp.seq (f := qP s) (fun x y => x ++ [y]) HSTQ.out (Stp.map (fun (x : (ByteArray × Int) × Int) => (⟨x.1.1, x.1.2, x.2⟩ : Ky)) (Stp.seq Prod.mk (Stp.seq Prod.mk HS1.out HS2.out) HS3.out)))
          have HOF := Lib.hid (show flatQ L ++ encK ⟨v1, vt, vc⟩ = flatQ (L ++ [⟨v1, vt, vc⟩]) by rw [flatQ_app5]; simp [flatQ])
          rw [HOF.out] at HOQ
          go_wp2
          go_roundw
          case rel => exact ⟨k + 1, L ++ [⟨v1, vt, vc⟩], pQ2, lQ + 1, cQ2, x3, y3, HKN.out, by go_num, HOQ, Lib.hid ⟨by rw [List.length_append, HLQ.out.1]; rfl, by rw [HLQ.out.2]⟩, HR, HM, HTM, HC, HB, HSZ1, HQP⟩
          case measure =>
            simp only [intOf]
            have := HKN.out
            omega
    case rest =>
      clear HR HM HTM HC HB
      obtain ⟨L, pQ, lQ, cQ, ax, bd, HOQ, HLQ, HR, HM, HTM, HC, HB, HSTQ⟩ := hcut
      have HAX := Lib.hid HSTQ.out.1
      obtain ⟨w20, hw20⟩ : ∃ x, wc = x := ⟨_, rfl⟩
      rw [hw20] at HOQ HR HM HTM HC HB ⊢
      clear hw20
      have HSQ := Lib.hid (HSTQ.out)
      clear HSTQ
      have HWQ := Lib.hid (show q11 + 1 ≤ w11.heap.size from HQL11.out)
      replace HOQ := Lib.hid (own_mono4 HOQ.out HWQ.out)
      have HBW0 := Lib.hid (show q11 < w20.heap.size from HM.out.1)
      go_wp2_with fail
      refine (rrecords_b q4 s ax na false bd _ HR.out HAX.out HS.out (by omega)).mono ?_; rintro en w21 ⟨vA, RA, a8, e8, rfl, hown, hsz, hr, hg, hst⟩
      obtain ⟨lA, hl⟩ : ∃ x, RA.length = x := ⟨_, rfl⟩
      rw [hl] at hown
      obtain ⟨pA, cA, rfl, -⟩ := cellsK_own hown
      have HLA := Lib.hid hl
      clear hl
      replace HOQ := Lib.hid (own_keeps HOQ.out HR.out.2 (by decide) hg)
      have HOA := Lib.hid (own_mono4 hown (show q11 + 1 ≤ w20.heap.size from HBW0.out))
      replace HM := Lib.hid (HM.out.grown hg (fun e => by injection e with e; exact HNE.out e.symm))
      replace HC := Lib.hid (HC.out.grown hg (fun e => by injection e with e; have := HQ4.out; omega))
      replace HB := Lib.hid (HB.out.grown hg HB.out.size (fun k hk => by injection hk with hk; rw [← hk]; exact HB4.out))
      replace HR := Lib.hid hr
      have HSTA := Lib.hid hst
      have HA8 := Lib.hid hst.1
      clear hown hsz hr hg hst
      obtain ⟨y0, y1, y2, y3, y4, y5, y6, y7, y8, y9, y10, y11, g0, g1, g2, g3, g4, g5, g6, g7, g8, g9, g10, g11⟩ := HM.out.u12
      replace HM := Lib.hid (show CN (w21.setCell ⟨q11, 9, none⟩ (.slice pA lA cA)) q11 [.int .i64 vi, .int .i64 h1, .int .i64 h2, .bool b1, .bool b2, .bool b3, .bool b4, .bool b5, .slice pQ lQ cQ, .slice pA lA cA, .slice none 0 0, .slice none 0 0] from HM.out.set 9 (by simp) (.slice pA lA cA))
      have hg := grown_cell w21 q11 9 (.slice pA lA cA)
      replace HOQ := Lib.hid (own_set HOQ.out (Nat.lt_succ_self q11) 9 (.slice pA lA cA))
      replace HOA := Lib.hid (own_set HOA.out (Nat.lt_succ_self q11) 9 (.slice pA lA cA))
      replace HC := Lib.hid (HC.out.grown hg (fun e => by injection e with e; have := HC11.out; omega))
      replace HR := Lib.hid (show RdB (w21.setCell ⟨q11, 9, none⟩ (.slice pA lA cA)) q4 s a8 e8 from ⟨HR.out.1.grown hg (fun e => by injection e with e; exact HNE.out e), HR.out.2.grown hg (fun e => by injection e with e; exact HNE.out e.symm)⟩)
      replace HB := Lib.hid (HB.out.grown hg HB.out.size (fun k hk => by injection hk with hk; rw [← hk]; exact HB11.out))
      clear hg
      go_upto_region 15 with (fail)
      clear y0 y1 y2 y3 y4 y5 y6 y7 y8 y9 y10 y11 g0 g1 g2 g3 g4 g5 g6 g7 g8 g9 g10 g11
      obtain ⟨w22, hww⟩ : ∃ x, w21.setCell ⟨q11, 9, none⟩ (.slice pA lA cA) = x := ⟨_, rfl⟩
      rw [hww] at HC HM HR HB HOQ HOA ⊢
      clear hww
      have HBW1 := Lib.hid (show q11 < w22.heap.size from HM.out.1)
      go_wp2_with fail
      refine (rrecords_b q4 s a8 nn false e8 _ HR.out HA8.out HS.out (by omega)).mono ?_; rintro en w23 ⟨vN, RN, a9, e9, rfl, hown, hsz, hr, hg, hst⟩
      obtain ⟨lN, hl⟩ : ∃ x, RN.length = x := ⟨_, rfl⟩
      rw [hl] at hown
      obtain ⟨pN, cN, rfl, -⟩ := cellsK_own hown
      have HLN := Lib.hid hl
      clear hl
      replace HOQ := Lib.hid (own_keeps HOQ.out HR.out.2 (by decide) hg)
      replace HOA := Lib.hid (own_keeps HOA.out HR.out.2 (by decide) hg)
      have HON := Lib.hid (own_mono4 hown (show q11 + 1 ≤ w22.heap.size from HBW1.out))
      replace HM := Lib.hid (HM.out.grown hg (fun e => by injection e with e; exact HNE.out e.symm))
      replace HC := Lib.hid (HC.out.grown hg (fun e => by injection e with e; have := HQ4.out; omega))
      replace HB := Lib.hid (HB.out.grown hg HB.out.size (fun k hk => by injection hk with hk; rw [← hk]; exact HB4.out))
      replace HR := Lib.hid hr
      have HSTN := Lib.hid hst
      have HA9 := Lib.hid hst.1
      clear hown hsz hr hg hst
      obtain ⟨y0, y1, y2, y3, y4, y5, y6, y7, y8, y9, y10, y11, g0, g1, g2, g3, g4, g5, g6, g7, g8, g9, g10, g11⟩ := HM.out.u12
      replace HM := Lib.hid (show CN (w23.setCell ⟨q11, 10, none⟩ (.slice pN lN cN)) q11 [.int .i64 vi, .int .i64 h1, .int .i64 h2, .bool b1, .bool b2, .bool b3, .bool b4, .bool b5, .slice pQ lQ cQ, .slice pA lA cA, .slice pN lN cN, .slice none 0 0] from HM.out.set 10 (by simp) (.slice pN lN cN))
      have hg := grown_cell w23 q11 10 (.slice pN lN cN)
      replace HOQ := Lib.hid (own_set HOQ.out (Nat.lt_succ_self q11) 10 (.slice pN lN cN))
      replace HOA := Lib.hid (own_set HOA.out (Nat.lt_succ_self q11) 10 (.slice pN lN cN))
      replace HON := Lib.hid (own_set HON.out (Nat.lt_succ_self q11) 10 (.slice pN lN cN))
      replace HC := Lib.hid (HC.out.grown hg (fun e => by injection e with e; have := HC11.out; omega))
      replace HR := Lib.hid (show RdB (w23.setCell ⟨q11, 10, none⟩ (.slice pN lN cN)) q4 s a9 e9 from ⟨HR.out.1.grown hg (fun e => by injection e with e; exact HNE.out e), HR.out.2.grown hg (fun e => by injection e with e; exact HNE.out e.symm)⟩)
      replace HB := Lib.hid (HB.out.grown hg HB.out.size (fun k hk => by injection hk with hk; rw [← hk]; exact HB11.out))
      clear hg
      go_upto_region 16 with (fail)
      clear y0 y1 y2 y3 y4 y5 y6 y7 y8 y9 y10 y11 g0 g1 g2 g3 g4 g5 g6 g7 g8 g9 g10 g11
      obtain ⟨w24, hww⟩ : ∃ x, w23.setCell ⟨q11, 10, none⟩ (.slice pN lN cN) = x := ⟨_, rfl⟩
      rw [hww] at HC HM HR HB HOQ HOA HON ⊢
      clear hww
      have HBW2 := Lib.hid (show q11 < w24.heap.size from HM.out.1)
      go_wp2_with fail
      refine (rrecords_b q4 s a9 nx true e9 _ HR.out HA9.out HS.out (by omega)).mono ?_; rintro en w25 ⟨vX, RX, a10, e10, rfl, hown, hsz, hr, hg, hst⟩
      obtain ⟨lX, hl⟩ : ∃ x, RX.length = x := ⟨_, rfl⟩
      rw [hl] at hown
      obtain ⟨pX, cX, rfl, -⟩ := cellsK_own hown
      have HLX := Lib.hid hl
      clear hl
      replace HOQ := Lib.hid (own_keeps HOQ.out HR.out.2 (by decide) hg)
      replace HOA := Lib.hid (own_keeps HOA.out HR.out.2 (by decide) hg)
      replace HON := Lib.hid (own_keeps HON.out HR.out.2 (by decide) hg)
      have HOX := Lib.hid (own_mono4 hown (show q11 + 1 ≤ w24.heap.size from HBW2.out))
      replace HM := Lib.hid (HM.out.grown hg (fun e => by injection e with e; exact HNE.out e.symm))
      replace HC := Lib.hid (HC.out.grown hg (fun e => by injection e with e; have := HQ4.out; omega))
      replace HB := Lib.hid (HB.out.grown hg HB.out.size (fun k hk => by injection hk with hk; rw [← hk]; exact HB4.out))
      replace HR := Lib.hid hr
      have HSTX := Lib.hid hst
      have HA10 := Lib.hid hst.1
      clear hown hsz hr hg hst
      obtain ⟨y0, y1, y2, y3, y4, y5, y6, y7, y8, y9, y10, y11, g0, g1, g2, g3, g4, g5, g6, g7, g8, g9, g10, g11⟩ := HM.out.u12
      replace HM := Lib.hid (show CN (w25.setCell ⟨q11, 11, none⟩ (.slice pX lX cX)) q11 [.int .i64 vi, .int .i64 h1, .int .i64 h2, .bool b1, .bool b2, .bool b3, .bool b4, .bool b5, .slice pQ lQ cQ, .slice pA lA cA, .slice pN lN cN, .slice pX lX cX] from HM.out.set 11 (by simp) (.slice pX lX cX))
      have hg := grown_cell w25 q11 11 (.slice pX lX cX)
      replace HOQ := Lib.hid (own_set HOQ.out (Nat.lt_succ_self q11) 11 (.slice pX lX cX))
      replace HOA := Lib.hid (own_set HOA.out (Nat.lt_succ_self q11) 11 (.slice pX lX cX))
      replace HON := Lib.hid (own_set HON.out (Nat.lt_succ_self q11) 11 (.slice pX lX cX))
      replace HOX := Lib.hid (own_set HOX.out (Nat.lt_succ_self q11) 11 (.slice pX lX cX))
      replace HC := Lib.hid (HC.out.grown hg (fun e => by injection e with e; have := HC11.out; omega))
      replace HR := Lib.hid (show RdB (w25.setCell ⟨q11, 11, none⟩ (.slice pX lX cX)) q4 s a10 e10 from ⟨HR.out.1.grown hg (fun e => by injection e with e; exact HNE.out e), HR.out.2.grown hg (fun e => by injection e with e; exact HNE.out e.symm)⟩)
      replace HB := Lib.hid (HB.out.grown hg HB.out.size (fun k hk => by injection hk with hk; rw [← hk]; exact HB11.out))
      clear hg
      go_upto_region 17 with (fail)
      clear y0 y1 y2 y3 y4 y5 y6 y7 y8 y9 y10 y11 g0 g1 g2 g3 g4 g5 g6 g7 g8 g9 g10 g11
      obtain ⟨w26, hww⟩ : ∃ x, w25.setCell ⟨q11, 11, none⟩ (.slice pX lX cX) = x := ⟨_, rfl⟩
      rw [hww] at HC HM HR HB HOQ HOA HON HOX ⊢
      clear hww
      have HST := Lib.hid (Stp.map (fun z => (⟨unH vi vf, z.1.1.1, z.1.1.2, z.1.2, z.2⟩ : MsgD)) (Stp.seq Prod.mk (Stp.seq Prod.mk (Stp.seq Prod.mk HSQ.out HSTA.out) HSTN.out) HSTX.out))
      have HFN := Lib.hid (show Stp s (msgP s) 0 (⟨unH vi vf, L, RA, RN, RX⟩ : MsgD) a10 (eB e10) from HH.out.go rfl (by rw [show msgF s ((((((vi, vf), (nq : Int)), (na : Int)), (nn : Int)), (nx : Int)), a6) = restP s vi vf nq na nn nx a6 by simp only [msgF, Int.toNat_natCast]; exact if_neg HLK.out]; exact HST.out))
      clear HSQ HSTA HSTN HSTX HST
      obtain ⟨c0, c1, c2, f1, f2⟩ := HR.out.cells
      cases e10 with
      | true =>
        have HND := Lib.hid (decP_no HFN.out (Or.inl (by decide)))
        obtain ⟨y0, y1, y2, y3, y4, y5, y6, y7, y8, y9, y10, y11, g0, g1, g2, g3, g4, g5, g6, g7, g8, g9, g10, g11⟩ := HC.out.u12
        have HCZ := Lib.hid (HC.out.s12 (.int .i64 0) (.int .i64 0) (.int .i64 0) (.bool false) (.bool false) (.bool false) (.bool false) (.bool false) (.slice none 0 0) (.slice none 0 0) (.slice none 0 0) (.slice none 0 0))
        have HGZ := Lib.hid (grown_s12 w26 q2 (.int .i64 0) (.int .i64 0) (.int .i64 0) (.bool false) (.bool false) (.bool false) (.bool false) (.bool false) (.slice none 0 0) (.slice none 0 0) (.slice none 0 0) (.slice none 0 0))
        have HBZ := Lib.hid (HB.out.grown HGZ.out HB.out.size (fun k hk => by injection hk with hk; rw [← hk, HQ.out]; exact Nat.le_refl _))
        go_upto_region 18 with (fail)
        clear c0 c1 c2 f1 f2
        iterate 6 go_step
        obtain ⟨wq, hwq⟩ : ∃ x, ((((((((((((w26.setCell ⟨q2, 0, none⟩ (.int .i64 0)).setCell ⟨q2, 1, none⟩ (.int .i64 0)).setCell ⟨q2, 2, none⟩ (.int .i64 0)).setCell ⟨q2, 3, none⟩ (.bool false)).setCell ⟨q2, 4, none⟩ (.bool false)).setCell ⟨q2, 5, none⟩ (.bool false)).setCell ⟨q2, 6, none⟩ (.bool false)).setCell ⟨q2, 7, none⟩ (.bool false)).setCell ⟨q2, 8, none⟩ (.slice none 0 0)).setCell ⟨q2, 9, none⟩ (.slice none 0 0)).setCell ⟨q2, 10, none⟩ (.slice none 0 0)).setCell ⟨q2, 11, none⟩ (.slice none 0 0)) = x := ⟨_, rfl⟩
        rw [hwq] at HCZ HBZ ⊢
        clear hwq HGZ y0 y1 y2 y3 y4 y5 y6 y7 y8 y9 y10 y11 g0 g1 g2 g3 g4 g5 g6 g7 g8 g9 g10 g11
        obtain ⟨z0, z1, z2, z3, z4, z5, z6, z7, z8, z9, z10, z11, _⟩ := HCZ.out.u12
        iterate 10 go_step
        refine bodyPost_ret (v := .tuple #[.agg #[.int .i64 0, .int .i64 0, .int .i64 0, .bool false, .bool false, .bool false, .bool false, .bool false, .slice none 0 0, .slice none 0 0, .slice none 0 0, .slice none 0 0], .bool false]) (by simp [results, Try.results33, go_sem, z0, z1, z2, z3, z4, z5, z6, z7, z8, z9, z10, z11]) rfl ⟨Or.inr ⟨HND.out, rfl⟩, HBZ.out⟩
      | false =>
        have HA10L := HFN.out.1
        by_cases t3 : a10 = n
        rotate_left
        · have d8 : ((a10 : Int) != (n : Int)) = true := nT (by omega)
          have HND := Lib.hid (decP_no HFN.out (Or.inr (by have := HSZ.out; omega)))
          clear t3 HA10L
          obtain ⟨y0, y1, y2, y3, y4, y5, y6, y7, y8, y9, y10, y11, g0, g1, g2, g3, g4, g5, g6, g7, g8, g9, g10, g11⟩ := HC.out.u12
          have HCZ := Lib.hid (HC.out.s12 (.int .i64 0) (.int .i64 0) (.int .i64 0) (.bool false) (.bool false) (.bool false) (.bool false) (.bool false) (.slice none 0 0) (.slice none 0 0) (.slice none 0 0) (.slice none 0 0))
          have HGZ := Lib.hid (grown_s12 w26 q2 (.int .i64 0) (.int .i64 0) (.int .i64 0) (.bool false) (.bool false) (.bool false) (.bool false) (.bool false) (.slice none 0 0) (.slice none 0 0) (.slice none 0 0) (.slice none 0 0))
          have HBZ := Lib.hid (HB.out.grown HGZ.out HB.out.size (fun k hk => by injection hk with hk; rw [← hk, HQ.out]; exact Nat.le_refl _))
          go_upto_region 18 with (fail)
          clear c0 c1 c2 f1 f2
          iterate 6 go_step
          obtain ⟨wq, hwq⟩ : ∃ x, ((((((((((((w26.setCell ⟨q2, 0, none⟩ (.int .i64 0)).setCell ⟨q2, 1, none⟩ (.int .i64 0)).setCell ⟨q2, 2, none⟩ (.int .i64 0)).setCell ⟨q2, 3, none⟩ (.bool false)).setCell ⟨q2, 4, none⟩ (.bool false)).setCell ⟨q2, 5, none⟩ (.bool false)).setCell ⟨q2, 6, none⟩ (.bool false)).setCell ⟨q2, 7, none⟩ (.bool false)).setCell ⟨q2, 8, none⟩ (.slice none 0 0)).setCell ⟨q2, 9, none⟩ (.slice none 0 0)).setCell ⟨q2, 10, none⟩ (.slice none 0 0)).setCell ⟨q2, 11, none⟩ (.slice none 0 0)) = x := ⟨_, rfl⟩
          rw [hwq] at HCZ HBZ ⊢
          clear hwq HGZ y0 y1 y2 y3 y4 y5 y6 y7 y8 y9 y10 y11 g0 g1 g2 g3 g4 g5 g6 g7 g8 g9 g10 g11
          obtain ⟨z0, z1, z2, z3, z4, z5, z6, z7, z8, z9, z10, z11, _⟩ := HCZ.out.u12
          iterate 10 go_step
          refine bodyPost_ret (v := .tuple #[.agg #[.int .i64 0, .int .i64 0, .int .i64 0, .bool false, .bool false, .bool false, .bool false, .bool false, .slice none 0 0, .slice none 0 0, .slice none 0 0, .slice none 0 0], .bool false]) (by simp [results, Try.results33, go_sem, z0, z1, z2, z3, z4, z5, z6, z7, z8, z9, z10, z11]) rfl ⟨Or.inr ⟨HND.out, rfl⟩, HBZ.out⟩
        have HDY := Lib.hid (show decP s = some (⟨unH vi vf, L, RA, RN, RX⟩ : MsgD) from decP_yes HFN.out HN.out (by have := HSZ.out; omega))
        rw [HH8.out] at HDY
        have HJ0 := Lib.hid (show vi = h0 from (by have := HH8.out; injection this))
        clear HA10L
        subst t3
        have d8 : ((a10 : Int) != (a10 : Int)) = false := nF rfl
        obtain ⟨k0, k1, k2, k3, k4, k5, k6, k7, k8, k9, k10, k11, _⟩ := HM.out.u12
        obtain ⟨y0, y1, y2, y3, y4, y5, y6, y7, y8, y9, y10, y11, g0, g1, g2, g3, g4, g5, g6, g7, g8, g9, g10, g11⟩ := HC.out.u12
        have HCZ := Lib.hid (HC.out.s12 (.int .i64 vi) (.int .i64 h1) (.int .i64 h2) (.bool b1) (.bool b2) (.bool b3) (.bool b4) (.bool b5) (.slice pQ lQ cQ) (.slice pA lA cA) (.slice pN lN cN) (.slice pX lX cX))
        have HGZ := Lib.hid (grown_s12 w26 q2 (.int .i64 vi) (.int .i64 h1) (.int .i64 h2) (.bool b1) (.bool b2) (.bool b3) (.bool b4) (.bool b5) (.slice pQ lQ cQ) (.slice pA lA cA) (.slice pN lN cN) (.slice pX lX cX))
        have HBZ := Lib.hid (HB.out.grown HGZ.out HB.out.size (fun k hk => by injection hk with hk; rw [← hk, HQ.out]; exact Nat.le_refl _))
        have HRW := Lib.hid (show RowsM ((((((((((((w26.setCell ⟨q2, 0, none⟩ (.int .i64 vi)).setCell ⟨q2, 1, none⟩ (.int .i64 h1)).setCell ⟨q2, 2, none⟩ (.int .i64 h2)).setCell ⟨q2, 3, none⟩ (.bool b1)).setCell ⟨q2, 4, none⟩ (.bool b2)).setCell ⟨q2, 5, none⟩ (.bool b3)).setCell ⟨q2, 6, none⟩ (.bool b4)).setCell ⟨q2, 7, none⟩ (.bool b5)).setCell ⟨q2, 8, none⟩ (.slice pQ lQ cQ)).setCell ⟨q2, 9, none⟩ (.slice pA lA cA)).setCell ⟨q2, 10, none⟩ (.slice pN lN cN)).setCell ⟨q2, 11, none⟩ (.slice pX lX cX)) w.heap.size (⟨⟨vi, h1, h2, b1, b2, b3, b4, b5⟩, L, RA, RN, RX⟩ : MsgD) (.slice pQ lQ cQ) (.slice pA lA cA) (.slice pN lN cN) (.slice pX lX cX) from ⟨by rw [HLQ.out]; exact own_mono4 (own_apart7 HOQ.out HGZ.out (fun k hk e => by injection e with e; have := (HOQ.out.lt k hk).1; have := HC11.out; omega)) (by have := HB11.out; omega), by rw [HLA.out]; exact own_mono4 (own_apart7 HOA.out HGZ.out (fun k hk e => by injection e with e; have := (HOA.out.lt k hk).1; have := HC11.out; omega)) (by have := HB11.out; omega), by rw [HLN.out]; exact own_mono4 (own_apart7 HON.out HGZ.out (fun k hk e => by injection e with e; have := (HON.out.lt k hk).1; have := HC11.out; omega)) (by have := HB11.out; omega), by rw [HLX.out]; exact own_mono4 (own_apart7 HOX.out HGZ.out (fun k hk e => by injection e with e; have := (HOX.out.lt k hk).1; have := HC11.out; omega)) (by have := HB11.out; omega)⟩)
        go_upto_region 19 with (fail)
        clear c0 c1 c2 f1 f2
        iterate 6 go_step
        obtain ⟨wq, hwq⟩ : ∃ x, ((((((((((((w26.setCell ⟨q2, 0, none⟩ (.int .i64 vi)).setCell ⟨q2, 1, none⟩ (.int .i64 h1)).setCell ⟨q2, 2, none⟩ (.int .i64 h2)).setCell ⟨q2, 3, none⟩ (.bool b1)).setCell ⟨q2, 4, none⟩ (.bool b2)).setCell ⟨q2, 5, none⟩ (.bool b3)).setCell ⟨q2, 6, none⟩ (.bool b4)).setCell ⟨q2, 7, none⟩ (.bool b5)).setCell ⟨q2, 8, none⟩ (.slice pQ lQ cQ)).setCell ⟨q2, 9, none⟩ (.slice pA lA cA)).setCell ⟨q2, 10, none⟩ (.slice pN lN cN)).setCell ⟨q2, 11, none⟩ (.slice pX lX cX)) = x := ⟨_, rfl⟩
        rw [hwq] at HCZ HBZ HRW ⊢
        clear hwq HGZ y0 y1 y2 y3 y4 y5 y6 y7 y8 y9 y10 y11 g0 g1 g2 g3 g4 g5 g6 g7 g8 g9 g10 g11
        obtain ⟨z0, z1, z2, z3, z4, z5, z6, z7, z8, z9, z10, z11, _⟩ := HCZ.out.u12
        iterate 9 go_step
        refine bodyPost_ret (v := .tuple #[.agg #[.int .i64 vi, .int .i64 h1, .int .i64 h2, .bool b1, .bool b2, .bool b3, .bool b4, .bool b5, .slice pQ lQ cQ, .slice pA lA cA, .slice pN lN cN, .slice pX lX cX], .bool true]) (by simp [results, Try.results33, go_sem, z0, z1, z2, z3, z4, z5, z6, z7, z8, z9, z10, z11]) rfl ⟨Or.inl ⟨⟨⟨vi, h1, h2, b1, b2, b3, b4, b5⟩, L, RA, RN, RX⟩, .slice pQ lQ cQ, .slice pA lA cA, .slice pN lN cN, .slice pX lX cX, by rw [HJ0.out]; exact HDY.out, rfl, HRW.out⟩, HBZ.out⟩
end Go.Proofs.Ytkoafkajmfodkaa
