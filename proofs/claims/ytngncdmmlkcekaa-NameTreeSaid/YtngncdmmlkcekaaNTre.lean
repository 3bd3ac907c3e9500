/- NameTree: the walk. -/
import Derived.Test.YtngncdmmlkcekaaTreP
import Derived.Test.YtngncdmmlkcekaaFst2
import Derived.Deep.DeepCutAuto
namespace Go.Proofs.Ytngncdmmlkcekaa
open Go.RowKit

theorem rowS_lit1 (w : World) (s : ByteArray) (t : TypeId) : RowS (w.alloc (.cells #[.string s] t)) (some ⟨w.heap.size, 0, none⟩) 1 [s] := by
  refine ⟨rfl, Or.inr ⟨w.heap.size, 0, rfl, by simp, ?_⟩⟩
  intro j hj
  have : j = 0 := by omega
  subst this
  simp [World.cell?_alloc_at]
theorem lit_sz {s : ByteArray} (h : s.size ≤ 1000000) : ∀ k, k < 1 → (tx [s] k).size ≤ 1000000 := by
  intro k hk
  have : k = 0 := by omega
  subst this
  exact h

set_option maxRecDepth 100000 in
set_option maxHeartbeats 3200000 in
theorem ntree_no (a b c : ByteArray) (w : World) (z1 : a.size ≤ 2000) (z2 : b.size ≤ 2000) (z3 : c.size ≤ 2000) (hm : mayN a = false ∨ mayN a = true ∧ mayN b = false) :
    Calls Try.prog 6 #[.string a, .string b, .string c] w fun e w' => e = .returned (.bool true) ∧ Below w.heap.size w w' := by
  have d1 := dF (p := (2000 : Int) < (a.size : Int)) (by omega)
  have d2 := dF (p := (2000 : Int) < (b.size : Int)) (by omega)
  have d3 := dF (p := (2000 : Int) < (c.size : Int)) (by omega)
  have hrx := ord_cmpS.rng a b
  have hax := ord_cmpS.anti a b
  have hzx := ord_cmpS.zero a b
  have htx := ord_cmpS.trans a b c
  have hgx := cmpS_ge a b c
  obtain ⟨x, hx⟩ : ∃ x, cmpS a b = x := ⟨_, rfl⟩
  obtain ⟨y, hy⟩ : ∃ x, cmpS b c = x := ⟨_, rfl⟩
  obtain ⟨z, hz⟩ : ∃ x, cmpS a c = x := ⟨_, rfl⟩
  obtain ⟨v, hv⟩ : ∃ x, cmpS b a = x := ⟨_, rfl⟩
  obtain ⟨q, hq⟩ : ∃ q, (a.toList == b.toList) = q := ⟨_, rfl⟩
  have hq2 : (x == 0) = q := by
    rw [← hq, Bool.eq_iff_iff, beq_iff_eq, beq_iff_eq, ← hx, hzx]
    exact ⟨fun h => by rw [h], toList_inj⟩
  rw [hx] at hrx hax htx hgx
  rw [hy] at htx hgx
  rw [hz] at htx hgx
  rw [hv] at hax
  have HX := Lib.hid hx
  have HY := Lib.hid hy
  have HZ := Lib.hid hz
  have HW := Lib.hid hv
  have w9 : IntKind.i64.wrap (-v) = x := by rw [IntKind.wrap_i64]; omega
  have u1 := dF (p := x < (-1 : Int)) (by omega)
  have u2 := dF (p := (1 : Int) < x) (by omega)
  have HD := Lib.hid (show (decide (x ≤ 0) = true ∧ decide (y ≤ 0) = false ∧ decide (0 ≤ x) = false) ∨ (decide (x ≤ 0) = false ∧ decide (0 ≤ x) = true ∧ decide (0 ≤ y) = false) ∨ (decide (x ≤ 0) = true ∧ decide (y ≤ 0) = true ∧ decide (0 < z) = false ∧ decide (0 ≤ x) = true ∧ decide (0 ≤ y) = false) ∨ (decide (x ≤ 0) = true ∧ decide (y ≤ 0) = true ∧ decide (0 < z) = false ∧ decide (0 ≤ x) = true ∧ decide (0 ≤ y) = true ∧ decide (z < 0) = false) ∨ (decide (x ≤ 0) = true ∧ decide (y ≤ 0) = false ∧ decide (0 ≤ x) = true ∧ decide (0 ≤ y) = true ∧ decide (z < 0) = false) ∨ (decide (x ≤ 0) = true ∧ decide (y ≤ 0) = false ∧ decide (0 ≤ x) = false) ∨ (decide (x ≤ 0) = true ∧ decide (y ≤ 0) = true ∧ decide (0 < z) = false ∧ decide (0 ≤ x) = false) ∨ (decide (x ≤ 0) = false ∧ decide (0 ≤ x) = true ∧ decide (0 ≤ y) = true ∧ decide (z < 0) = false) by
    simp only [decide_eq_true_eq, decide_eq_false_iff_not]; omega)
  have hbs : (⟨#[]⟩ : ByteArray).toList = [] := bs_toList []
  have HU := Lib.hid (show undS a b = false by rw [undS]; rcases hm with h | ⟨h1, h2⟩ <;> simp [*])
  have HC := Lib.hid (show comS a [b] = ⟨#[]⟩ by rw [comS]; rcases hm with h | ⟨h1, h2⟩ <;> simp [*])
  have HM := Lib.hid hm
  clear hrx hax hzx htx hgx hx hy hz hv hm
  go_enter Try.func6, Try.ntmps6
  go_wp2_with fail
  refine (first2 _).mono ?_; rintro e w1 ⟨rfl, hb⟩
  have HB1 := Lib.hid hb; clear hb
  go_wp2_with fail
  refine (compare_any _ _ _ (by omega) (by omega)).mono ?_; rintro e w2 ⟨rfl, hb⟩
  have HB2 := Lib.hid (HB1.out.trans (hb.mono HB1.out.size)); clear hb
  rw [HX.out]
  go_wp2_with fail
  refine (compare_any _ _ _ (by omega) (by omega)).mono ?_; rintro e w3 ⟨rfl, hb⟩
  have HB3 := Lib.hid (HB2.out.trans (hb.mono HB2.out.size)); clear hb
  rw [HY.out]
  go_wp2_with fail
  refine (compare_any _ _ _ (by omega) (by omega)).mono ?_; rintro e w4 ⟨rfl, hb⟩
  have HB4 := Lib.hid (HB3.out.trans (hb.mono HB3.out.size)); clear hb
  rw [HZ.out]
  go_upto_region 6 with fail
  go_cut [84] (fun s wx => s = .bool false ∧ Below w.heap.size w wx)
  case first =>
    have hd := HD.out
    rcases hd with ⟨t1, t2, t3⟩ | ⟨t1, t2, t3⟩ | ⟨t1, t2, t3, t4, t5⟩ | ⟨t1, t2, t3, t4, t5, t6⟩ | ⟨t1, t2, t3, t4, t5⟩ | ⟨t1, t2, t3⟩ | ⟨t1, t2, t3, t4⟩ | ⟨t1, t2, t3, t4⟩
    all_goals
      go_wp2_with fail
      refine (compare_any _ _ _ (by omega) (by omega)).mono ?_; rintro e w5 ⟨rfl, hb⟩
      have HB5 := Lib.hid (HB4.out.trans (hb.mono HB4.out.size)); clear hb
      rw [HW.out]
      go_wp2_with fail
      go_meet
      exact ⟨rfl, HB5.out⟩
  case rest =>
  obtain ⟨rfl, hbc⟩ := hcut
  have HBc := Lib.hid hbc
  clear hbc
  rcases HM.out with h1 | ⟨h1, h2⟩
  · have H1 := Lib.hid h1
    clear h1
    go_wp2_with fail
    refine (nmay_any _ _ (by omega)).mono ?_; rintro e w' ⟨rfl, rfl⟩
    rw [H1.out]
    go_wp2_with fail
    refine (first2 _).mono ?_; rintro e w6 ⟨rfl, hb⟩
    have HB6 := Lib.hid (HBc.out.trans (hb.mono HBc.out.size)); clear hb
    go_wp2_with fail
    refine (under_any _ _ _ (by omega) (by omega)).mono ?_; rintro e w' ⟨rfl, rfl⟩
    rw [HU.out]
    go_wp2_with fail
    refine (common_any _ _ _ _ [b] _ (rowS_lit1 _ _ _) (by omega) (by omega) (lit_sz (by omega))).mono ?_; rintro e w' ⟨rfl, rfl⟩
    rw [HC.out]
    go_wp2
    go_ret
    exact ⟨rfl, HB6.out.alloc HB6.out.size _⟩
  · have H1 := Lib.hid h1
    have H2 := Lib.hid h2
    clear h1 h2
    go_wp2_with fail
    refine (nmay_any _ _ (by omega)).mono ?_; rintro e w' ⟨rfl, rfl⟩
    rw [H1.out]
    go_wp2_with fail
    refine (nmay_any _ _ (by omega)).mono ?_; rintro e w' ⟨rfl, rfl⟩
    rw [H2.out]
    go_wp2_with fail
    refine (first2 _).mono ?_; rintro e w6 ⟨rfl, hb⟩
    have HB6 := Lib.hid (HBc.out.trans (hb.mono HBc.out.size)); clear hb
    go_wp2_with fail
    refine (under_any _ _ _ (by omega) (by omega)).mono ?_; rintro e w' ⟨rfl, rfl⟩
    rw [HU.out]
    go_wp2_with fail
    refine (common_any _ _ _ _ [b] _ (rowS_lit1 _ _ _) (by omega) (by omega) (lit_sz (by omega))).mono ?_; rintro e w' ⟨rfl, rfl⟩
    rw [HC.out]
    go_wp2
    go_ret
    exact ⟨rfl, HB6.out.alloc HB6.out.size _⟩

end Go.Proofs.Ytngncdmmlkcekaa
