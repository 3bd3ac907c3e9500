/- Contracts of name.Under at any texts, and of the document's (chapter 2), over this seat's translation. -/
import Derived.Test.YtngncdmmlkcekaaUnd
import Derived.Test.YtngncdmmlkcekaaCpN
namespace Go.Proofs.Ytngncdmmlkcekaa
open Go.RowKit

theorem toList_inj {s t : ByteArray} (h : s.toList = t.toList) : s = t := ba_eq (by rw [← Lib.toList_data, ← Lib.toList_data]; exact h)
set_option maxRecDepth 100000 in
theorem under_any (a b : ByteArray) (w : World) (ha : a.size ≤ 1000000) (hb : b.size ≤ 1000000) : Calls Try.prog 35 #[.string a, .string b] w fun e w' => e = .returned (.bool (undS a b)) ∧ w = w' := by
  cases h1 : mayN a
  · have HV := Lib.hid (show undS a b = false by rw [undS, h1]; rfl)
    have H1 := Lib.hid h1
    clear h1
    go_enter Try.func35, Try.ntmps35
    go_wp2_with fail
    refine (nmay_any _ _ ha).mono ?_; rintro e w' ⟨rfl, rfl⟩
    rw [H1.out]
    go_wp2
    go_ret
    exact ⟨ret_bool HV.out.symm, rfl⟩
  · cases h2 : mayN b
    · have HV := Lib.hid (show undS a b = false by rw [undS, h1, h2]; rfl)
      have H1 := Lib.hid h1
      have H2 := Lib.hid h2
      clear h1 h2
      go_enter Try.func35, Try.ntmps35
      go_wp2_with fail
      refine (nmay_any _ _ ha).mono ?_; rintro e w' ⟨rfl, rfl⟩
      rw [H1.out]
      go_wp2_with fail
      refine (nmay_any _ _ hb).mono ?_; rintro e w' ⟨rfl, rfl⟩
      rw [H2.out]
      go_wp2
      go_ret
      exact ⟨ret_bool HV.out.symm, rfl⟩
    · obtain ⟨k1, k2, k3⟩ := labs_spec h1
      obtain ⟨g1, g2, g3⟩ := labs_spec h2
      have hc := under_yy (labs a) (labs b) w k1 g1 k2 g2
      rw [← k3, ← g3] at hc
      rw [show undS a b = undL (labs a) (labs b) by rw [undS, h1, h2]; rfl]
      exact hc
theorem undL_all (L M : List ByteArray) (h : M.length ≤ L.length) : undL L M = true ↔ ∀ j, j < M.length → tx L (L.length - (j + 1)) = tx M (M.length - (j + 1)) := by
  unfold undL
  rw [decide_eq_true_eq]
  constructor
  · rintro ⟨_, h2⟩ j hj
    have e : tx M (M.length - (j + 1)) = tx L (L.length - M.length + (M.length - (j + 1))) := by
      conv => lhs; rw [← h2]
      rw [tx, tx, List.getD_eq_getElem?_getD, List.getD_eq_getElem?_getD, List.getElem?_drop, List.length_drop]
      congr 3; omega
    rw [e]; congr 1; omega
  · intro h2
    refine ⟨h, List.ext_getElem (by rw [List.length_drop]; omega) ?_⟩
    intro i h3 h4
    have h5 := h2 (M.length - (i + 1)) (by omega)
    rw [show M.length - (M.length - (i + 1) + 1) = i by omega, show L.length - (M.length - (i + 1) + 1) = L.length - M.length + i by omega] at h5
    rw [tx, tx, List.getD_eq_getElem?_getD, List.getD_eq_getElem?_getD, List.getElem?_eq_getElem h4, List.getElem?_eq_getElem (by omega)] at h5
    rw [List.getElem_drop]
    exact h5

set_option maxRecDepth 100000 in
set_option maxHeartbeats 800000 in
theorem runder_yy (L M : List ByteArray) (w : World) (hL : OkL L) (hM : OkL M) (hz : off L L.length ≤ 254) (hy : off M M.length ≤ 254) : Calls Try.prog 36 #[.string (nameB L), .string (nameB M)] w fun e w' => e = .returned (.bool (undL L M)) ∧ Below w.heap.size w w' := by
  have hm1 := labels_may hL hz
  have hm2 := labels_may hM hy
  have hs1 := nameB_size L
  have hs2 := nameB_size M
  have hg1 := off_ge L hL L.length (Nat.le_refl _)
  have hg2 := off_ge M hM M.length (Nat.le_refl _)
  have hl1 := rlabels_yes L w hL hz
  have hl2 := fun w => rlabels_yes M w hM hy
  have hall := undL_all L M
  have hfew : L.length < M.length → undL L M = false := fun h => by unfold undL; exact dF (by omega)
  have HM1 := Lib.hid hm1
  have HM2 := Lib.hid hm2
  obtain ⟨a, ha⟩ : ∃ s, nameB L = s := ⟨_, rfl⟩
  obtain ⟨b, hb⟩ : ∃ s, nameB M = s := ⟨_, rfl⟩
  obtain ⟨n, hn⟩ : ∃ n, L.length = n := ⟨_, rfl⟩
  obtain ⟨m, hm⟩ : ∃ n, M.length = n := ⟨_, rfl⟩
  rw [hn, hm] at hall hfew
  have HN := Lib.hid hn
  have HMn := Lib.hid hm
  rw [ha] at HM1 hs1 hl1
  rw [hb] at HM2 hs2
  rw [ha, hb]
  rw [hn] at hz hg1 hs1 hl1
  rw [hm] at hy hg2 hs2
  rw [hb, hm] at hl2
  have HL1 := Lib.hid hl1
  have HL2 := Lib.hid hl2
  have HALL := Lib.hid hall
  have HFEW := Lib.hid hfew
  clear hm1 hm2 hL hM ha hb hn hm hl1 hl2 hall hfew
  go_enter Try.func36, Try.ntmps36
  go_wp2_with fail
  refine (rmay_any _ _ (by omega)).mono ?_; rintro e w' ⟨rfl, rfl⟩
  rw [HM1.out]
  go_wp2_with fail
  refine (rmay_any _ _ (by omega)).mono ?_; rintro e w' ⟨rfl, rfl⟩
  rw [HM2.out]
  go_wp2_with fail
  refine HL1.out.mono ?_; rintro e w1 ⟨va, ca, rfl, hr1, hb1⟩
  have HR1 := Lib.hid hr1
  have HB1 := Lib.hid hb1
  clear hr1 hb1
  go_wp2_with fail
  refine (HL2.out w1).mono ?_; rintro e w2 ⟨vb, cb, rfl, hr2, hb2⟩
  have HR2 := Lib.hid hr2
  have HR12 := Lib.hid (HR1.out.below hb2)
  have HB2 := Lib.hid (HB1.out.trans (hb2.mono HB1.out.size))
  clear hr2 hb2 HR1 HB1
  by_cases hnm : n < m
  · have HV := Lib.hid (HFEW.out hnm)
    have d1 := dT hnm
    clear hnm
    go_wp2
    go_ret
    exact ⟨ret_bool HV.out.symm, HB2.out⟩
  · have HAL := Lib.hid (HALL.out (by omega))
    have d1 := dF hnm
    go_wp2_with fail
    go_loopw [7] (fun x wr => ∃ k q : Nat, k ≤ m ∧ x = .int .i64 ((k : Int) + 1) ∧ wr = w2.drewN q ∧ Hid (∀ j, j < k → tx L (n - (j + 1)) = tx M (m - (j + 1)))) (fun x _ => m + 1 - (intOf x).toNat)
    case atStart => exact ⟨0, 0, Nat.zero_le _, rfl, rfl, fun j hj => absurd hj (by omega)⟩
    case round =>
      obtain ⟨k, q, hk2, rfl, rfl, hj⟩ := hrel
      by_cases h0 : k = m
      · subst h0
        have HV := Lib.hid (HAL.out.2 hj.out)
        go_wp2
        go_returns
        exact ⟨ret_bool HV.out.symm, below_drewN HB2.out q⟩
      · rcases HR12.out.2 with h9 | ⟨b1, o1, rfl, _, hc1⟩
        · omega
        rcases HR2.out.2 with h9 | ⟨b2, o2, rfl, _, hc2⟩
        · omega
        have g1 := hc1 (n - (k + 1)) (by omega)
        have g2 := hc2 (m - (k + 1)) (by omega)
        obtain ⟨x, hx⟩ : ∃ x, tx L (n - (k + 1)) = x := ⟨_, rfl⟩
        obtain ⟨y, hy9⟩ : ∃ x, tx M (m - (k + 1)) = x := ⟨_, rfl⟩
        have k1 : w2.cell? ⟨b1, o1 + (n - (k + 1)), none⟩ = some (.string x) := by rw [← hx]; exact g1
        have k2 : w2.cell? ⟨b2, o2 + (m - (k + 1)), none⟩ = some (.string y) := by rw [← hy9]; exact g2
        have p1 : n - (k + 1) < n := by omega
        have p2 : m - (k + 1) < m := by omega
        have w1 : IntKind.i64.wrap ((n : Int) - ((k : Int) + 1)) = ((n - (k + 1) : Nat) : Int) := by rw [wraps_i64 _ (by omega) (by omega)]; omega
        have w2' : IntKind.i64.wrap ((m : Int) - ((k : Int) + 1)) = ((m - (k + 1) : Nat) : Int) := by rw [wraps_i64 _ (by omega) (by omega)]; omega
        have HX := Lib.hid hx
        have HY := Lib.hid hy9
        obtain ⟨r1, hr1⟩ : ∃ r, n - (k + 1) = r := ⟨_, rfl⟩
        obtain ⟨r2, hr2⟩ : ∃ r, m - (k + 1) = r := ⟨_, rfl⟩
        rw [hr1] at k1 p1 w1
        rw [hr2] at k2 p2 w2'
        have i1 : (r1 : Int) < (n : Int) := by omega
        have i2 : (r2 : Int) < (m : Int) := by omega
        have HK := Lib.hid (show k < m by omega)
        have d2 := dT (p := (k : Int) + 1 ≤ (m : Int)) (by omega)
        clear hc1 hc2 g1 g2 hx hy9 h0 hr1 hr2
        by_cases e : x = y
        · subst e
          have HJ := Lib.hid (show ∀ j, j < k + 1 → tx L (n - (j + 1)) = tx M (m - (j + 1)) by
            intro j hj9
            by_cases ej : j = k
            · subst ej; exact HX.out.trans HY.out.symm
            · exact hj.out j (by omega))
          clear hj
          go_wp2_with fail
          go_quiet (fail)
          go_wp2
          go_roundw
          case rel => exact ⟨k + 1, _, by have := HK.out; omega, by go_num, rfl, HJ.out⟩
          case measure => have := HK.out; simp [intOf]; omega
        · have eb : (x.toList == y.toList) = false := by
            rw [beq_eq_false_iff_ne]
            intro h
            exact e (toList_inj h)
          have HV := Lib.hid (show undL L M = false by
            cases h : undL L M
            · rfl
            · exact absurd (HX.out.symm.trans (((HAL.out.1 h) k HK.out).trans HY.out)) e)
          clear e hj
          go_wp2_with fail
          go_quiet (fail)
          go_wp2
          go_returns
          exact ⟨ret_bool HV.out.symm, by first | exact below_drewN HB2.out _ | exact below_drewN (below_drewN HB2.out _) _⟩

set_option maxRecDepth 100000 in
theorem runder_any (a b : ByteArray) (w : World) (ha : a.size ≤ 1000000) (hb : b.size ≤ 1000000) : Calls Try.prog 36 #[.string a, .string b] w fun e w' => e = .returned (.bool (undS a b)) ∧ Below w.heap.size w w' := by
  cases h1 : mayN a
  · have HV := Lib.hid (show undS a b = false by rw [undS, h1]; rfl)
    have H1 := Lib.hid h1
    clear h1
    go_enter Try.func36, Try.ntmps36
    go_wp2_with fail
    refine (rmay_any _ _ ha).mono ?_; rintro e w' ⟨rfl, rfl⟩
    rw [H1.out]
    go_wp2
    go_ret
    exact ⟨ret_bool HV.out.symm, Below.refl _ _⟩
  · cases h2 : mayN b
    · have HV := Lib.hid (show undS a b = false by rw [undS, h1, h2]; rfl)
      have H1 := Lib.hid h1
      have H2 := Lib.hid h2
      clear h1 h2
      go_enter Try.func36, Try.ntmps36
      go_wp2_with fail
      refine (rmay_any _ _ ha).mono ?_; rintro e w' ⟨rfl, rfl⟩
      rw [H1.out]
      go_wp2_with fail
      refine (rmay_any _ _ hb).mono ?_; rintro e w' ⟨rfl, rfl⟩
      rw [H2.out]
      go_wp2
      go_ret
      exact ⟨ret_bool HV.out.symm, Below.refl _ _⟩
    · obtain ⟨k1, k2, k3⟩ := labs_spec h1
      obtain ⟨g1, g2, g3⟩ := labs_spec h2
      have hc := runder_yy (labs a) (labs b) w k1 g1 k2 g2
      rw [← k3, ← g3] at hc
      rw [show undS a b = undL (labs a) (labs b) by rw [undS, h1, h2]; rfl]
      exact hc
end Go.Proofs.Ytngncdmmlkcekaa
