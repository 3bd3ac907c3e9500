/- SetsOrder: the walk. -/
import Derived.Test.YtgdbbdbfaglkdaaFs4
namespace Go.Proofs.Ytgdbbdbfaglkdaa
open Go.RowKit

def K3 (w : World) (q1 q2 q3 : Nat) (a b c : Ky) (wx : World) : Prop := Below w.heap.size w wx ∧ KyAt wx q1 a ∧ KyAt wx q2 b ∧ KyAt wx q3 c
theorem K3.shown {w wx : World} {q1 q2 q3 : Nat} {a b c : Ky} (h : K3 w q1 q2 q3 a b c wx) : Hid (K3 w q1 q2 q3 a b c wx) ∧ wx.cell? ⟨q1, 0, none⟩ = some (.string a.n) ∧ wx.cell? ⟨q1, 1, none⟩ = some (.int .i64 a.t) ∧ wx.cell? ⟨q1, 2, none⟩ = some (.int .i64 a.c) ∧ wx.cell? ⟨q2, 0, none⟩ = some (.string b.n) ∧ wx.cell? ⟨q2, 1, none⟩ = some (.int .i64 b.t) ∧ wx.cell? ⟨q2, 2, none⟩ = some (.int .i64 b.c) ∧ wx.cell? ⟨q3, 0, none⟩ = some (.string c.n) ∧ wx.cell? ⟨q3, 1, none⟩ = some (.int .i64 c.t) ∧ wx.cell? ⟨q3, 2, none⟩ = some (.int .i64 c.c) :=
  ⟨h, h.2.1.2.1, h.2.1.2.2.1, h.2.1.2.2.2, h.2.2.1.2.1, h.2.2.1.2.2.1, h.2.2.1.2.2.2, h.2.2.2.2.1, h.2.2.2.2.2.1, h.2.2.2.2.2.2⟩
theorem K3.below {w wx wy : World} {q1 q2 q3 : Nat} {a b c : Ky} (h : K3 w q1 q2 q3 a b c wx) (hb : Below wx.heap.size wx wy) : K3 w q1 q2 q3 a b c wy :=
  ⟨h.1.trans (hb.mono h.1.size), h.2.1.below hb, h.2.2.1.below hb, h.2.2.2.below hb⟩
theorem K3.next {w wx wy : World} {q1 q2 q3 : Nat} {a b c : Ky} (hb : Below wx.heap.size wx wy) (h : Hid (K3 w q1 q2 q3 a b c wx) ∧ wx.cell? ⟨q1, 0, none⟩ = some (.string a.n) ∧ wx.cell? ⟨q1, 1, none⟩ = some (.int .i64 a.t) ∧ wx.cell? ⟨q1, 2, none⟩ = some (.int .i64 a.c) ∧ wx.cell? ⟨q2, 0, none⟩ = some (.string b.n) ∧ wx.cell? ⟨q2, 1, none⟩ = some (.int .i64 b.t) ∧ wx.cell? ⟨q2, 2, none⟩ = some (.int .i64 b.c) ∧ wx.cell? ⟨q3, 0, none⟩ = some (.string c.n) ∧ wx.cell? ⟨q3, 1, none⟩ = some (.int .i64 c.t) ∧ wx.cell? ⟨q3, 2, none⟩ = some (.int .i64 c.c)) : Hid (K3 w q1 q2 q3 a b c wy) ∧ wy.cell? ⟨q1, 0, none⟩ = some (.string a.n) ∧ wy.cell? ⟨q1, 1, none⟩ = some (.int .i64 a.t) ∧ wy.cell? ⟨q1, 2, none⟩ = some (.int .i64 a.c) ∧ wy.cell? ⟨q2, 0, none⟩ = some (.string b.n) ∧ wy.cell? ⟨q2, 1, none⟩ = some (.int .i64 b.t) ∧ wy.cell? ⟨q2, 2, none⟩ = some (.int .i64 b.c) ∧ wy.cell? ⟨q3, 0, none⟩ = some (.string c.n) ∧ wy.cell? ⟨q3, 1, none⟩ = some (.int .i64 c.t) ∧ wy.cell? ⟨q3, 2, none⟩ = some (.int .i64 c.c) := K3.shown (h.1.out.below hb)
theorem K3.get {w wx : World} {q1 q2 q3 : Nat} {a b c : Ky} (h : Hid (K3 w q1 q2 q3 a b c wx) ∧ wx.cell? ⟨q1, 0, none⟩ = some (.string a.n) ∧ wx.cell? ⟨q1, 1, none⟩ = some (.int .i64 a.t) ∧ wx.cell? ⟨q1, 2, none⟩ = some (.int .i64 a.c) ∧ wx.cell? ⟨q2, 0, none⟩ = some (.string b.n) ∧ wx.cell? ⟨q2, 1, none⟩ = some (.int .i64 b.t) ∧ wx.cell? ⟨q2, 2, none⟩ = some (.int .i64 b.c) ∧ wx.cell? ⟨q3, 0, none⟩ = some (.string c.n) ∧ wx.cell? ⟨q3, 1, none⟩ = some (.int .i64 c.t) ∧ wx.cell? ⟨q3, 2, none⟩ = some (.int .i64 c.c)) : K3 w q1 q2 q3 a b c wx := h.1.out

set_option maxRecDepth 100000 in
set_option maxHeartbeats 4000000 in
theorem walkSOrder (a b c : Ky) (w : World) : Calls Try.prog 11 #[.agg #[.string a.n, .int .i64 a.t, .int .i64 a.c], .agg #[.string b.n, .int .i64 b.t, .int .i64 b.c], .agg #[.string c.n, .int .i64 c.t, .int .i64 c.c]] w fun e w' => e = .returned (.bool true) ∧ Below w.heap.size w w' := by
  have A1 := ord_kcmp.rng a b
  have A2 := ord_kcmp.rng b c
  have A3 := ord_kcmp.rng a c
  have A4 := ord_kcmp.anti a b
  have A5 := ord_kcmp.trans a b c
  have A6 : 0 ≤ kcmp a b → 0 ≤ kcmp b c → 0 ≤ kcmp a c := by
    have h1 := ord_kcmp.trans c b a
    have h2 := ord_kcmp.anti b c
    have h3 := ord_kcmp.anti a c
    intro h4 h5
    have := h1 (by omega) (by omega)
    omega
  have A7 := ord_kcmp.zero a b
  have A8 := key_same a b
  obtain ⟨an, at1, ak⟩ := a
  obtain ⟨bn, bt1, bk⟩ := b
  obtain ⟨cn, ct1, ck⟩ := c
  have hK0 : K3 w w.heap.size (w.heap.size + 1) (w.heap.size + 2) ⟨an, at1, ak⟩ ⟨bn, bt1, bk⟩ ⟨cn, ct1, ck⟩ (((w.alloc (.cells #[.string an, .int .i64 at1, .int .i64 ak] 68)).alloc (.cells #[.string bn, .int .i64 bt1, .int .i64 bk] 68)).alloc (.cells #[.string cn, .int .i64 ct1, .int .i64 ck] 68)) := by
    have b1 := (Below.refl w.heap.size w).alloc (Nat.le_refl _) (.cells #[.string an, .int .i64 at1, .int .i64 ak] 68)
    have b2 := (Below.refl _ (w.alloc (.cells #[.string an, .int .i64 at1, .int .i64 ak] 68))).alloc (Nat.le_refl _) (.cells #[.string bn, .int .i64 bt1, .int .i64 bk] 68)
    have b3 := (Below.refl _ ((w.alloc (.cells #[.string an, .int .i64 at1, .int .i64 ak] 68)).alloc (.cells #[.string bn, .int .i64 bt1, .int .i64 bk] 68))).alloc (Nat.le_refl _) (.cells #[.string cn, .int .i64 ct1, .int .i64 ck] 68)
    refine ⟨(b1.trans (b2.mono b1.size)).trans (b3.mono (by simp; omega)), ((kyAt_new w ⟨an, at1, ak⟩ _).below b2).below b3, ?_, ?_⟩
    · have h := kyAt_new (w.alloc (.cells #[.string an, .int .i64 at1, .int .i64 ak] 68)) ⟨bn, bt1, bk⟩ 68
      rw [World.size_alloc] at h
      exact h.below b3
    · have h := kyAt_new ((w.alloc (.cells #[.string an, .int .i64 at1, .int .i64 ak] 68)).alloc (.cells #[.string bn, .int .i64 bt1, .int .i64 bk] 68)) ⟨cn, ct1, ck⟩ 68
      rw [World.size_alloc, World.size_alloc] at h
      exact h
  by_cases hz : an.size ≤ 2000 ∧ bn.size ≤ 2000 ∧ cn.size ≤ 2000
  · obtain ⟨z1, z2, z3⟩ := hz
    have d1 := dF (p := (2000 : Int) < (an.size : Int)) (by omega)
    have d2 := dF (p := (2000 : Int) < (bn.size : Int)) (by omega)
    have d3 := dF (p := (2000 : Int) < (cn.size : Int)) (by omega)
    have HAB := Lib.hid (fun wx => kcompare' an at1 ak bn bt1 bk wx (by omega) (by omega))
    have HBC := Lib.hid (fun wx => kcompare' bn bt1 bk cn ct1 ck wx (by omega) (by omega))
    have HAC := Lib.hid (fun wx => kcompare' an at1 ak cn ct1 ck wx (by omega) (by omega))
    have HBA := Lib.hid (fun wx => kcompare' bn bt1 bk an at1 ak wx (by omega) (by omega))
    have heq := key_eql an bn at1 ak bt1 bk
    obtain ⟨x, hx⟩ : ∃ x, kcmp ⟨an, at1, ak⟩ ⟨bn, bt1, bk⟩ = x := ⟨_, rfl⟩
    obtain ⟨y, hy⟩ : ∃ x, kcmp ⟨bn, bt1, bk⟩ ⟨cn, ct1, ck⟩ = x := ⟨_, rfl⟩
    obtain ⟨z, hzz⟩ : ∃ x, kcmp ⟨an, at1, ak⟩ ⟨cn, ct1, ck⟩ = x := ⟨_, rfl⟩
    obtain ⟨x', hx'⟩ : ∃ x, kcmp ⟨bn, bt1, bk⟩ ⟨an, at1, ak⟩ = x := ⟨_, rfl⟩
    obtain ⟨eb, heb⟩ : ∃ x, (an.toList == bn.toList && (at1 == bt1 && ak == bk)) = x := ⟨_, rfl⟩
    rw [hx] at HAB A1 A4 A5 A6 A7
    rw [hy] at HBC A2 A5 A6
    rw [hzz] at HAC A3 A5 A6
    rw [hx'] at HBA A4
    rw [heb] at heq
    have A9 : eb = true ↔ x = 0 := by
      rw [A7, ← A8, ← heb]
    subst A4
    have HEQ := Lib.hid heq
    clear A7 A8 hx hy hzz hx' heb z1 z2 z3 heq
    go_enter Try.func11, Try.ntmps11
    go_wp2_with fail
    obtain ⟨w0, hw0⟩ : ∃ x, ((w.alloc (.cells #[.string an, .int .i64 at1, .int .i64 ak] 68)).alloc (.cells #[.string bn, .int .i64 bt1, .int .i64 bk] 68)).alloc (.cells #[.string cn, .int .i64 ct1, .int .i64 ck] 68) = x := ⟨_, rfl⟩
    rw [hw0] at hK0 ⊢
    obtain ⟨q3, hq3⟩ : ∃ q, w.heap.size + 2 = q := ⟨_, rfl⟩
    obtain ⟨q2, hq2⟩ : ∃ q, w.heap.size + 1 = q := ⟨_, rfl⟩
    obtain ⟨q1, hq1⟩ : ∃ q, w.heap.size = q := ⟨_, rfl⟩
    rw [hq3, hq2] at hK0 ⊢
    rw [show (Value.pointer (some { block := w.heap.size, off := 0 })) = Value.pointer (some { block := q1, off := 0 }) by rw [hq1]]
    have HK0 := Lib.hid (show K3 w q1 q2 q3 ⟨an, at1, ak⟩ ⟨bn, bt1, bk⟩ ⟨cn, ct1, ck⟩ w0 by rw [← hq1]; exact hK0)
    clear hK0 hw0 hq1 hq2 hq3
    refine (first4 _).mono ?_; rintro e w1 ⟨rfl, hb⟩
    have hk1 := HK0.out.below hb
    have HK1 := Lib.hid hk1
    obtain ⟨_, ⟨_, p0, p1, p2⟩, ⟨_, p3, p4, p5⟩, ⟨_, p6, p7, p8⟩⟩ := hk1
    clear hb HK0
    go_wp2_with fail
    have HKd := Lib.hid (K3.next ((Below.refl w1.heap.size w1).drew) (K3.shown HK1.out))
    clear p0 p1 p2 p3 p4 p5 p6 p7 p8
    go_region_held3 (fun wx => Hid (K3 w q1 q2 q3 ⟨an, at1, ak⟩ ⟨bn, bt1, bk⟩ ⟨cn, ct1, ck⟩ wx) ∧ wx.cell? ⟨q1, 0, none⟩ = some (.string an) ∧ wx.cell? ⟨q1, 1, none⟩ = some (.int .i64 at1) ∧ wx.cell? ⟨q1, 2, none⟩ = some (.int .i64 ak) ∧ wx.cell? ⟨q2, 0, none⟩ = some (.string bn) ∧ wx.cell? ⟨q2, 1, none⟩ = some (.int .i64 bt1) ∧ wx.cell? ⟨q2, 2, none⟩ = some (.int .i64 bk) ∧ wx.cell? ⟨q3, 0, none⟩ = some (.string cn) ∧ wx.cell? ⟨q3, 1, none⟩ = some (.int .i64 ct1) ∧ wx.cell? ⟨q3, 2, none⟩ = some (.int .i64 ck)) (first | (exact HKd.out) | assumption | (refine K3.next hb.b ?_; assumption))
      (first
        | (go_at_call 60; first | (with_reducible refine (HAB.out _).mono ?_; rintro e wy ⟨rfl, hb⟩) | (with_reducible refine (HBC.out _).mono ?_; rintro e wy ⟨rfl, hb⟩) | (with_reducible refine (HAC.out _).mono ?_; rintro e wy ⟨rfl, hb⟩)))
    have hK5 := K3.get (w := w) (q1 := q1) (q2 := q2) (q3 := q3) (a := ⟨an, at1, ak⟩) (b := ⟨bn, bt1, bk⟩) (c := ⟨cn, ct1, ck⟩) (wx := wy) (by assumption)
    have HK5 := Lib.hid hK5
    clear hK5 HKd HK1 HAB HBC HAC
    rcases A1 with rfl | rfl | rfl <;> rcases A2 with rfl | rfl | rfl <;> rcases A3 with rfl | rfl | rfl <;> first | (exfalso; omega) | skip
    all_goals
      have heb : eb = true ∨ eb = false := by cases eb <;> simp
      rcases heb with rfl | rfl <;> first | (exfalso; simp at A9; done) | skip
      clear A5 A6 A9
      have heq := HEQ.out
      go_wp2_with fail
      refine (first4 _).mono ?_; rintro e w5 ⟨rfl, hb5⟩
      have hk5 := HK5.out.below hb5
      have HK6 := Lib.hid hk5
      obtain ⟨_, ⟨_, p0, p1, p2⟩, ⟨_, p3, p4, p5⟩, ⟨_, p6, p7, p8⟩⟩ := hk5
      clear hb5 HK5
      go_wp2_with fail
      refine (HBA.out _).mono ?_; rintro e w6 ⟨rfl, hb6⟩
      have hk6 := HK6.out.below hb6.b
      have HB6 := Lib.hid hk6.1
      clear p0 p1 p2 p3 p4 p5 p6 p7 p8
      obtain ⟨_, ⟨_, p0, p1, p2⟩, ⟨_, p3, p4, p5⟩, ⟨_, p6, p7, p8⟩⟩ := hk6
      clear hb6 HK6
      go_wp2
      go_ret
      exact ⟨rfl, HB6.out⟩
  · have hd : decide ((2000 : Int) < (an.size : Int)) = true ∨ decide ((2000 : Int) < (an.size : Int)) = false ∧ (decide ((2000 : Int) < (bn.size : Int)) = true ∨ decide ((2000 : Int) < (bn.size : Int)) = false ∧ decide ((2000 : Int) < (cn.size : Int)) = true) := by
      simp only [decide_eq_true_eq, decide_eq_false_iff_not]; omega
    clear hz A1 A2 A3 A4 A5 A6 A7 A8
    rcases hd with d1 | ⟨d1, d2 | ⟨d2, d3⟩⟩
    all_goals
      go_enter Try.func11, Try.ntmps11
      go_wp2_with fail
      refine (first4 _).mono ?_; rintro e w1 ⟨rfl, hb⟩
      have hk1 := hK0.below hb
      have HB1 := Lib.hid hk1.1
      obtain ⟨_, ⟨_, p0, p1, p2⟩, ⟨_, p3, p4, p5⟩, ⟨_, p6, p7, p8⟩⟩ := hk1
      clear hb hK0
      go_wp2_with fail
      refine (first4 _).mono ?_; rintro e w2 ⟨rfl, hb⟩
      have HB2 := Lib.hid (HB1.out.trans (hb.mono HB1.out.size))
      clear hb
      go_wp2
      go_ret
      exact ⟨rfl, HB2.out⟩
end Go.Proofs.Ytgdbbdbfaglkdaa
