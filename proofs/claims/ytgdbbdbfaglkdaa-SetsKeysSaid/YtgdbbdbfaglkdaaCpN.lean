/- Contracts of name.Compare, and of the document's (chapter 2), over this seat's translation. -/
import Derived.Test.YtgdbbdbfaglkdaaPar
import Derived.Test.YtgdbbdbfaglkdaaLabs
namespace Go.Proofs.Ytgdbbdbfaglkdaa
open Go.RowKit

theorem drewN_add (w : World) (a b : Nat) : (w.drewN a).drewN b = w.drewN (a + b) := by
  induction b with
  | zero => rfl
  | succ b ih => exact congrArg World.drew ih
theorem label_quiet (L : List ByteArray) (k : Nat) (w : World) (q : Nat) (hL : OkL L) (hk : k < L.length) (hz : off L L.length ≤ 254) (n : Nat) : Calls Try.prog 103 #[.string (nameB L), .int .u8 (off L k : Nat)] (w.drewN (q + n)) fun e w' => e = .returned (.string (tx L k)) ∧ ∃ m, w' = w.drewN (q + m) :=
  (label_any L k (w.drewN (q + n)) hL hk hz).mono fun _ _ ⟨h1, h2⟩ => ⟨h1, n, h2.symm⟩
theorem scompare_quiet (a b : ByteArray) (w : World) (q n : Nat) : Calls Try.prog 86 #[.string a, .string b] (w.drewN (q + n)) fun e w' => e = .returned (.int .i64 (cmpB a b)) ∧ ∃ m, w' = w.drewN (q + m) :=
  (scompare_any a b (w.drewN (q + n))).mono fun _ _ ⟨h1, h2⟩ => ⟨h1, n, h2⟩

set_option maxRecDepth 100000 in
set_option maxHeartbeats 800000 in
theorem compare_yy (L M : List ByteArray) (w : World) (hL : OkL L) (hM : OkL M) (hz : off L L.length ≤ 254) (hy : off M M.length ≤ 254) : Calls Try.prog 90 #[.string (nameB L), .string (nameB M)] w fun e w' => e = .returned (.int .i64 (cmpN L M)) ∧ Below w.heap.size w w' := by
  have hm1 := labels_may hL hz
  have hm2 := labels_may hM hy
  have hs1 := nameB_size L
  have hs2 := nameB_size M
  have hg1 := off_ge L hL L.length (Nat.le_refl _)
  have hg2 := off_ge M hM M.length (Nat.le_refl _)
  have HM1 := Lib.hid hm1
  have HM2 := Lib.hid hm2
  have HL := Lib.hid hL
  have HMM := Lib.hid hM
  obtain ⟨a, ha⟩ : ∃ s, nameB L = s := ⟨_, rfl⟩
  obtain ⟨b, hb⟩ : ∃ s, nameB M = s := ⟨_, rfl⟩
  obtain ⟨n, hn⟩ : ∃ n, L.length = n := ⟨_, rfl⟩
  obtain ⟨m, hm⟩ : ∃ n, M.length = n := ⟨_, rfl⟩
  have hcm := cmpN_all L M
  rw [hn, hm] at hcm
  have HCM := Lib.hid hcm
  have HA := Lib.hid ha
  have HB := Lib.hid hb
  have HN := Lib.hid hn
  have HMn := Lib.hid hm
  rw [ha] at HM1 hs1
  rw [hb] at HM2 hs2
  rw [ha, hb]
  rw [hn] at hz hg1 hs1
  rw [hm] at hy hg2 hs2
  clear hm1 hm2 hL hM ha hb hn hm hcm
  go_enter Try.func90, Try.ntmps90
  go_wp2_with fail
  refine (nmay_any _ _ (by omega)).mono ?_; rintro e w' ⟨rfl, rfl⟩
  rw [HM1.out]
  go_wp2_with fail
  refine (nmay_any _ _ (by omega)).mono ?_; rintro e w' ⟨rfl, rfl⟩
  rw [HM2.out]
  go_wp2_with fail
  have hst := starts_any L w HL.out (by rw [HN.out]; exact hz)
  rw [HA.out, HN.out] at hst
  refine hst.mono ?_; rintro e w1 ⟨rfl, hb⟩
  obtain ⟨w2, hsto, ha2, hb2⟩ := store_arr (arr_new w1) (stF L n) (hb.alloc hb.size (.cells Try.zeroCells132 132)) hb.size
  have HA2 := Lib.hid ha2
  have HB2 := Lib.hid hb2
  clear hb hst ha2 hb2
  go_wp2_with fail
  have hst := starts_any M w2 HMM.out (by rw [HMn.out]; exact hy)
  rw [HB.out, HMn.out] at hst
  refine hst.mono ?_; rintro e w3 ⟨rfl, hb⟩
  have hb23 := HB2.out.trans (hb.mono HB2.out.size)
  clear hsto
  obtain ⟨w4, hsto, ha4, hb4⟩ := store_arr (arr_new w3) (stF M m) (hb23.alloc hb23.size (.cells Try.zeroCells132 132)) hb23.size
  obtain ⟨w5, hsto5, _, hb5⟩ := store_arr (arr_new w3) (stF M m) ((Below.refl w3.heap.size w3).alloc (Nat.le_refl _) (.cells Try.zeroCells132 132)) (Nat.le_refl _)
  have e45 : w5 = w4 := by
    rw [hsto] at hsto5
    injection hsto5 with _ h
    exact h.symm
  subst e45
  have HA4 := Lib.hid ha4
  have HB4 := Lib.hid hb4
  have HA24 := Lib.hid ((HA2.out.below hb).below hb5)
  clear hst hb hb23 ha4 hb4 hb5 hsto5 HA2 HB2
  go_wp2_with fail
  obtain ⟨q1, hq⟩ : ∃ q, w1.heap.size = q := ⟨_, rfl⟩
  obtain ⟨q2, hq2⟩ : ∃ q, w3.heap.size = q := ⟨_, rfl⟩
  rw [hq] at HA24
  rw [hq2] at HA4
  rw [hq, hq2]
  clear hsto hq hq2
  go_loopw [8, 10] (fun x y wr => ∃ i j q : Nat, i ≤ n ∧ j ≤ m ∧ x = .int .i64 i ∧ y = .int .i64 j ∧ wr = w5.drewN q ∧ Hid (cmpN L M = cmpLab (L.take i).reverse (M.take j).reverse)) (fun x _ _ => (intOf x).toNat)
  case atStart => exact ⟨n, m, 0, Nat.le_refl _, Nat.le_refl _, rfl, rfl, rfl, HCM.out⟩
  case round =>
    obtain ⟨i, j, q, hi, hj, rfl, rfl, rfl, hc⟩ := hrel
    by_cases h0 : i = 0 ∨ j = 0
    · have hce := cmp_end L M i j (by rw [HN.out]; exact hi) (by rw [HMn.out]; exact hj) h0
      have HV := Lib.hid (hc.out.trans hce)
      have hd : decide (0 < i) = false ∨ decide (0 < i) = true ∧ decide (0 < j) = false := by
        simp only [decide_eq_true_eq, decide_eq_false_iff_not]; omega
      clear hc hce h0
      rcases hd with d1 | ⟨d1, d2⟩
      all_goals
        go_wp2_with (go_at_call 91; refine (icompare_any _ _ _).mono ?_; rintro e w' ⟨rfl, rfl⟩)
        go_returns
        exact ⟨ret_int HV.out.symm, below_drewN HB4.out q⟩
    · obtain ⟨i', rfl⟩ : ∃ i', i = i' + 1 := ⟨i - 1, by omega⟩
      obtain ⟨j', rfl⟩ : ∃ j', j = j' + 1 := ⟨j - 1, by omega⟩
      have hce := cmp_step L M i' j' (by rw [HN.out]; exact hi) (by rw [HMn.out]; exact hj)
      have c1 := (HA24.out i' (by omega)).1
      have c2 := (HA4.out j' (by omega)).1
      rw [stF, if_pos (by omega)] at c1 c2
      have hl1 := label_quiet L i' w5 q HL.out (by rw [HN.out]; exact hi) (by rw [HN.out]; exact hz)
      have hl2 := label_quiet M j' w5 q HMM.out (by rw [HMn.out]; exact hj) (by rw [HMn.out]; exact hy)
      rw [HA.out] at hl1
      rw [HB.out] at hl2
      obtain ⟨x, hx⟩ : ∃ x, tx L i' = x := ⟨_, rfl⟩
      obtain ⟨y, hy⟩ : ∃ x, tx M j' = x := ⟨_, rfl⟩
      rw [hx, hy] at hce
      rw [hx] at hl1
      rw [hy] at hl2
      obtain ⟨p1, hp1⟩ : ∃ p, off L i' = p := ⟨_, rfl⟩
      obtain ⟨p2, hp2⟩ : ∃ p, off M j' = p := ⟨_, rfl⟩
      rw [hp1] at c1 hl1
      rw [hp2] at c2 hl2
      have HL1 := Lib.hid hl1
      have HL2 := Lib.hid hl2
      have i1 : (i' : Int) < 127 := by omega
      have i2 : (j' : Int) < 127 := by omega
      clear hx hy hp1 hp2 hl1 hl2 h0
      obtain ⟨v, hv⟩ : ∃ v, cmpB x y = v := ⟨_, rfl⟩
      have hsq := scompare_quiet x y w5 q
      rw [hv] at hsq hce
      have HSQ := Lib.hid hsq
      clear hsq hv
      by_cases hv0 : v = 0
      · subst hv0
        rw [if_pos rfl] at hce
        have HV := Lib.hid (hc.out.trans hce)
        clear hc hce
        go_wp2_with fail
        go_quiet (first | (go_at_call 103; first | (with_reducible exact HL1.out _) | (with_reducible exact HL2.out _)) | (go_at_call 86; exact HSQ.out _))
        go_wp2
        go_roundw
        case rel => exact ⟨i', j', _, by omega, by omega, by go_num, by go_num, rfl, HV.out⟩
        case measure => simp [intOf]
      · rw [if_neg hv0] at hce
        have HV := Lib.hid (hc.out.trans hce)
        have e0 : (v != 0) = true := nT hv0
        clear hc hce hv0
        go_wp2_with fail
        go_quiet (first | (go_at_call 103; first | (with_reducible exact HL1.out _) | (with_reducible exact HL2.out _)) | (go_at_call 86; exact HSQ.out _))
        go_wp2
        go_returns
        exact ⟨ret_int HV.out.symm, below_drewN HB4.out _⟩

set_option maxRecDepth 100000 in
theorem compare_any (a b : ByteArray) (w : World) (ha : a.size ≤ 1000000) (hb : b.size ≤ 1000000) : Calls Try.prog 90 #[.string a, .string b] w fun e w' => e = .returned (.int .i64 (cmpS a b)) ∧ Below w.heap.size w w' := by
  cases h1 : mayN a
  · cases h2 : mayN b
    · have HV := Lib.hid (show cmpS a b = cmpB a b by rw [cmpS, h1, h2]; rfl)
      have H1 := Lib.hid h1
      have H2 := Lib.hid h2
      clear h1 h2
      go_enter Try.func90, Try.ntmps90
      go_wp2_with fail
      refine (nmay_any _ _ ha).mono ?_; rintro e w' ⟨rfl, rfl⟩
      rw [H1.out]
      go_wp2_with fail
      refine (nmay_any _ _ hb).mono ?_; rintro e w' ⟨rfl, rfl⟩
      rw [H2.out]
      go_wp2_with fail
      refine (scompare_any _ _ _).mono ?_; rintro e w' ⟨rfl, rfl⟩
      go_wp2
      go_ret
      exact ⟨ret_int HV.out.symm, Below.refl _ _⟩
    · have HV := Lib.hid (show cmpS a b = 1 by rw [cmpS, h1, h2]; rfl)
      have H1 := Lib.hid h1
      have H2 := Lib.hid h2
      clear h1 h2
      go_enter Try.func90, Try.ntmps90
      go_wp2_with fail
      refine (nmay_any _ _ ha).mono ?_; rintro e w' ⟨rfl, rfl⟩
      rw [H1.out]
      go_wp2_with fail
      refine (nmay_any _ _ hb).mono ?_; rintro e w' ⟨rfl, rfl⟩
      rw [H2.out]
      go_wp2
      go_ret
      exact ⟨ret_int HV.out.symm, Below.refl _ _⟩
  · cases h2 : mayN b
    · have HV := Lib.hid (show cmpS a b = -1 by rw [cmpS, h1, h2]; rfl)
      have H1 := Lib.hid h1
      have H2 := Lib.hid h2
      clear h1 h2
      go_enter Try.func90, Try.ntmps90
      go_wp2_with fail
      refine (nmay_any _ _ ha).mono ?_; rintro e w' ⟨rfl, rfl⟩
      rw [H1.out]
      go_wp2_with fail
      refine (nmay_any _ _ hb).mono ?_; rintro e w' ⟨rfl, rfl⟩
      rw [H2.out]
      go_wp2
      go_ret
      exact ⟨ret_int HV.out.symm, Below.refl _ _⟩
    · obtain ⟨k1, k2, k3⟩ := labs_spec h1
      obtain ⟨g1, g2, g3⟩ := labs_spec h2
      have hc := compare_yy (labs a) (labs b) w k1 g1 k2 g2
      rw [← k3, ← g3] at hc
      rw [show cmpS a b = cmpN (labs a) (labs b) by rw [cmpS, h1, h2]; rfl]
      exact hc

theorem wraps_i64 (n : Int) (h₀ : 0 ≤ n) (h₁ : n < 2 ^ 62) : IntKind.i64.wrap n = n := by rw [IntKind.wrap_i64]; omega
theorem rorder_quiet (a b : ByteArray) (w : World) (q n : Nat) : Calls Try.prog 105 #[.string a, .string b] (w.drewN (q + n)) fun e w' => e = .returned (.int .i64 (cmpB a b)) ∧ ∃ m, w' = w.drewN (q + m) :=
  (rorder_any a b (w.drewN (q + n))).mono fun _ _ ⟨h1, h2⟩ => ⟨h1, n, h2⟩
set_option maxRecDepth 100000 in
set_option maxHeartbeats 800000 in
theorem rcompare_yy (L M : List ByteArray) (w : World) (hL : OkL L) (hM : OkL M) (hz : off L L.length ≤ 254) (hy : off M M.length ≤ 254) : Calls Try.prog 92 #[.string (nameB L), .string (nameB M)] w fun e w' => e = .returned (.int .i64 (cmpN L M)) ∧ Below w.heap.size w w' := by
  have hm1 := labels_may hL hz
  have hm2 := labels_may hM hy
  have hs1 := nameB_size L
  have hs2 := nameB_size M
  have hg1 := off_ge L hL L.length (Nat.le_refl _)
  have hg2 := off_ge M hM M.length (Nat.le_refl _)
  have hl1 := rlabels_yes L w hL hz
  have hl2 := fun w => rlabels_yes M w hM hy
  have HM1 := Lib.hid hm1
  have HM2 := Lib.hid hm2
  obtain ⟨a, ha⟩ : ∃ s, nameB L = s := ⟨_, rfl⟩
  obtain ⟨b, hb⟩ : ∃ s, nameB M = s := ⟨_, rfl⟩
  obtain ⟨n, hn⟩ : ∃ n, L.length = n := ⟨_, rfl⟩
  obtain ⟨m, hm⟩ : ∃ n, M.length = n := ⟨_, rfl⟩
  have hcm := cmpN_all L M
  rw [hn, hm] at hcm
  have HCM := Lib.hid hcm
  have HN := Lib.hid hn
  have HMn := Lib.hid hm
  rw [ha] at HM1 hs1 hl1
  rw [hb] at HM2 hs2
  rw [ha, hb]
  rw [hn] at hz hg1 hs1 hl1
  rw [hm] at hy hg2 hs2
  rw [hb, hm] at hl2
  have HL1 := Lib.hid hl1
  have HL2 := Lib.hid hl2
  clear hm1 hm2 hL hM ha hb hn hm hcm hl1 hl2
  go_enter Try.func92, Try.ntmps92
  go_wp2_with fail
  refine (rmay_any _ _ (by omega)).mono ?_; rintro e w' ⟨rfl, rfl⟩
  rw [HM1.out]
  go_wp2_with fail
  refine (rmay_any _ _ (by omega)).mono ?_; rintro e w' ⟨rfl, rfl⟩
  rw [HM2.out]
  go_wp2_with fail
  refine HL1.out.mono ?_; rintro e w1 ⟨va, ca, rfl, hr1, hb1⟩
  have HR1 := Lib.hid hr1
  have HB1 := Lib.hid hb1
  clear hr1 hb1
  go_wp2_with fail
  refine (HL2.out w1).mono ?_; rintro e w2 ⟨vb, cb, rfl, hr2, hb2⟩
  have HR2 := Lib.hid hr2
  have HR12 := Lib.hid (HR1.out.below hb2)
  have HB2 := Lib.hid (HB1.out.trans (hb2.mono HB1.out.size))
  clear hr2 hb2 HR1 HB1
  go_wp2_with fail
  go_loopw [9] (fun x wr => ∃ k q : Nat, k ≤ n ∧ k ≤ m ∧ x = .int .i64 ((k : Int) + 1) ∧ wr = w2.drewN q ∧ Hid (cmpN L M = cmpLab (L.take (n - k)).reverse (M.take (m - k)).reverse)) (fun x _ => n + 1 - (intOf x).toNat)
  case atStart => exact ⟨0, 0, Nat.zero_le _, Nat.zero_le _, rfl, rfl, HCM.out⟩
  case round =>
    obtain ⟨k, q, hk1, hk2, rfl, rfl, hc⟩ := hrel
    by_cases h0 : k = n ∨ k = m
    · have hce := cmp_end L M (n - k) (m - k) (by rw [HN.out]; omega) (by rw [HMn.out]; omega) (by omega)
      have hv := hc.out.trans hce
      have hd : decide ((k : Int) + 1 ≤ (n : Int)) = false ∨ decide ((k : Int) + 1 ≤ (n : Int)) = true ∧ decide ((k : Int) + 1 ≤ (m : Int)) = false := by
        simp only [decide_eq_true_eq, decide_eq_false_iff_not]; omega
      have hw : (n < m ∧ cmpN L M = -1) ∨ (m < n ∧ cmpN L M = 1) ∨ (n = m ∧ cmpN L M = 0) := by
        rw [hv, Lib.compareInt]
        by_cases c1 : n < m
        · left; refine ⟨c1, ?_⟩; rw [if_pos (by omega)]
        · by_cases c2 : m < n
          · right; left; refine ⟨c2, ?_⟩; rw [if_neg (by omega), if_pos (by omega)]
          · right; right; refine ⟨by omega, ?_⟩; rw [if_neg (by omega), if_neg (by omega)]
      clear hc hce h0 hv
      rcases hw with ⟨c1, hv⟩ | ⟨c1, hv⟩ | ⟨c1, hv⟩
      · have HV := Lib.hid hv
        have e1 := dT c1
        clear hv
        rcases hd with d1 | ⟨d1, d2⟩
        all_goals
          go_wp2
          go_returns
          exact ⟨ret_int HV.out.symm, below_drewN HB2.out q⟩
      · have HV := Lib.hid hv
        have e1 := dT c1
        have e2 := dF (p := n < m) (by omega)
        clear hv
        rcases hd with d1 | ⟨d1, d2⟩
        all_goals
          go_wp2
          go_returns
          exact ⟨ret_int HV.out.symm, below_drewN HB2.out q⟩
      · have HV := Lib.hid hv
        subst c1
        clear hv
        rcases hd with d1 | ⟨d1, d2⟩
        · go_wp2
          go_returns
          exact ⟨ret_int HV.out.symm, below_drewN HB2.out q⟩
        · rw [d1] at d2
          cases d2
    · have hce := cmp_step L M (n - (k + 1)) (m - (k + 1)) (by rw [HN.out]; omega) (by rw [HMn.out]; omega)
      rw [show n - (k + 1) + 1 = n - k by omega, show m - (k + 1) + 1 = m - k by omega] at hce
      rcases HR12.out.2 with h9 | ⟨b1, o1, rfl, _, hc1⟩
      · omega
      rcases HR2.out.2 with h9 | ⟨b2, o2, rfl, _, hc2⟩
      · omega
      have g1 := hc1 (n - (k + 1)) (by omega)
      have g2 := hc2 (m - (k + 1)) (by omega)
      obtain ⟨x, hx⟩ : ∃ x, tx L (n - (k + 1)) = x := ⟨_, rfl⟩
      obtain ⟨y, hy9⟩ : ∃ x, tx M (m - (k + 1)) = x := ⟨_, rfl⟩
      rw [hx, hy9] at hce
      have k1 : w2.cell? ⟨b1, o1 + (n - (k + 1)), none⟩ = some (.string x) := by rw [← hx]; exact g1
      have k2 : w2.cell? ⟨b2, o2 + (m - (k + 1)), none⟩ = some (.string y) := by rw [← hy9]; exact g2
      have p1 : n - (k + 1) < n := by omega
      have p2 : m - (k + 1) < m := by omega
      have w1 : IntKind.i64.wrap ((n : Int) - ((k : Int) + 1)) = ((n - (k + 1) : Nat) : Int) := by rw [wraps_i64 _ (by omega) (by omega)]; omega
      have w2' : IntKind.i64.wrap ((m : Int) - ((k : Int) + 1)) = ((m - (k + 1) : Nat) : Int) := by rw [wraps_i64 _ (by omega) (by omega)]; omega
      obtain ⟨r1, hr1⟩ : ∃ r, n - (k + 1) = r := ⟨_, rfl⟩
      obtain ⟨r2, hr2⟩ : ∃ r, m - (k + 1) = r := ⟨_, rfl⟩
      rw [hr1] at k1 p1 w1
      rw [hr2] at k2 p2 w2'
      have i1 : (r1 : Int) < (n : Int) := by omega
      have i2 : (r2 : Int) < (m : Int) := by omega
      rw [hr1, hr2] at hce
      have HK := Lib.hid (show k < n ∧ k < m by omega)
      have HR1 := Lib.hid hr1
      have HR2b := Lib.hid hr2
      have d1 := dT (p := (k : Int) + 1 ≤ (n : Int)) (by omega)
      have d2 := dT (p := (k : Int) + 1 ≤ (m : Int)) (by omega)
      clear hc1 hc2 g1 g2 hx hy9 h0 hr1 hr2
      obtain ⟨v, hv⟩ : ∃ v, cmpB x y = v := ⟨_, rfl⟩
      have hsq := rorder_quiet x y w2 q
      rw [hv] at hsq hce
      have HSQ := Lib.hid hsq
      clear hsq hv
      by_cases hv0 : v = 0
      · subst hv0
        rw [if_pos rfl] at hce
        have HV := Lib.hid (hc.out.trans hce)
        clear hc hce
        go_wp2_with fail
        go_quiet (first | (go_at_call 105; exact HSQ.out _))
        go_wp2
        go_roundw
        case rel => exact ⟨k + 1, _, by have := HK.out; omega, by have := HK.out; omega, by go_num, rfl, by have := HV.out; rw [← HR1.out, ← HR2b.out] at this; exact this⟩
        case measure => have := HK.out; simp [intOf]; omega
      · rw [if_neg hv0] at hce
        have HV := Lib.hid (hc.out.trans hce)
        have e0 : (v != 0) = true := nT hv0
        clear hc hce hv0
        go_wp2_with fail
        go_quiet (first | (go_at_call 105; exact HSQ.out _))
        go_wp2
        go_returns
        exact ⟨ret_int HV.out.symm, below_drewN HB2.out _⟩

set_option maxRecDepth 100000 in
theorem rcompare_any (a b : ByteArray) (w : World) (ha : a.size ≤ 1000000) (hb : b.size ≤ 1000000) : Calls Try.prog 92 #[.string a, .string b] w fun e w' => e = .returned (.int .i64 (cmpS a b)) ∧ Below w.heap.size w w' := by
  cases h1 : mayN a
  · cases h2 : mayN b
    · have HV := Lib.hid (show cmpS a b = cmpB a b by rw [cmpS, h1, h2]; rfl)
      have H1 := Lib.hid h1
      have H2 := Lib.hid h2
      clear h1 h2
      go_enter Try.func92, Try.ntmps92
      go_wp2_with fail
      refine (rmay_any _ _ ha).mono ?_; rintro e w' ⟨rfl, rfl⟩
      rw [H1.out]
      go_wp2_with fail
      refine (rmay_any _ _ hb).mono ?_; rintro e w' ⟨rfl, rfl⟩
      rw [H2.out]
      go_wp2_with fail
      refine (rorder_any _ _ _).mono ?_; rintro e w' ⟨rfl, rfl⟩
      go_wp2
      go_ret
      exact ⟨ret_int HV.out.symm, Below.refl _ _⟩
    · have HV := Lib.hid (show cmpS a b = 1 by rw [cmpS, h1, h2]; rfl)
      have H1 := Lib.hid h1
      have H2 := Lib.hid h2
      clear h1 h2
      go_enter Try.func92, Try.ntmps92
      go_wp2_with fail
      refine (rmay_any _ _ ha).mono ?_; rintro e w' ⟨rfl, rfl⟩
      rw [H1.out]
      go_wp2_with fail
      refine (rmay_any _ _ hb).mono ?_; rintro e w' ⟨rfl, rfl⟩
      rw [H2.out]
      go_wp2
      go_ret
      exact ⟨ret_int HV.out.symm, Below.refl _ _⟩
  · cases h2 : mayN b
    · have HV := Lib.hid (show cmpS a b = -1 by rw [cmpS, h1, h2]; rfl)
      have H1 := Lib.hid h1
      have H2 := Lib.hid h2
      clear h1 h2
      go_enter Try.func92, Try.ntmps92
      go_wp2_with fail
      refine (rmay_any _ _ ha).mono ?_; rintro e w' ⟨rfl, rfl⟩
      rw [H1.out]
      go_wp2_with fail
      refine (rmay_any _ _ hb).mono ?_; rintro e w' ⟨rfl, rfl⟩
      rw [H2.out]
      go_wp2
      go_ret
      exact ⟨ret_int HV.out.symm, Below.refl _ _⟩
    · obtain ⟨k1, k2, k3⟩ := labs_spec h1
      obtain ⟨g1, g2, g3⟩ := labs_spec h2
      have hc := rcompare_yy (labs a) (labs b) w k1 g1 k2 g2
      rw [← k3, ← g3] at hc
      rw [show cmpS a b = cmpN (labs a) (labs b) by rw [cmpS, h1, h2]; rfl]
      exact hc
end Go.Proofs.Ytgdbbdbfaglkdaa
