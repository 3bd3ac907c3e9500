/- Contracts of the document's Target, of MayRR, of Texts (chapter 3), over this seat's translation. -/
import Derived.Test.YtgdbbdbfaglkdaaRdT
namespace Go.Proofs.Ytgdbbdbfaglkdaa
open Go.RowKit

theorem nm_one (k : Int) (s : ByteArray) : (tgB k s = true ∧ nmL k s = [tgS k s]) ∨ (tgB k s = false ∧ tgS k s = ⟨#[]⟩ ∧ (nmL k s = [] ∨ ∃ x y, nmL k s = [x, y])) := by
  cases h : tgB k s
  · right
    refine ⟨rfl, by rw [tgS, h]; rfl, ?_⟩
    by_cases h6 : k = 6
    · subst h6
      cases hb : soaOk s
      · left; rw [nmL, hb]; rfl
      · right; exact ⟨soaM s, soaR s, by rw [nmL, hb]; rfl⟩
    · left; rw [nmL, if_neg h6, h]; rfl
  · left
    have h6 : k ≠ 6 := by
      intro h6
      subst h6
      simp [tgB] at h
    exact ⟨rfl, by rw [nmL, if_neg h6, h]; rfl⟩

set_option maxRecDepth 100000 in
theorem rtarget_any (k : Int) (s : ByteArray) (w : World) (hs : s.size ≤ 1000000) : Calls Try.prog 19 #[.int .i64 k, .string s] w fun e w' => e = .returned (.tuple #[.string (tgS k s), .bool (tgB k s)]) ∧ Below w.heap.size w w' := by
  rcases nm_one k s with ⟨h1, h2⟩ | ⟨h1, h2, h3 | ⟨x, y, h3⟩⟩
  · rw [h1]
    obtain ⟨t, ht⟩ : ∃ t, tgS k s = t := ⟨_, rfl⟩
    rw [ht] at h2 ⊢
    have H2 := Lib.hid h2
    clear h1 h2 ht
    go_enter Try.func19, Try.ntmps19
    go_wp2_with fail
    refine (rnames_any _ _ _ hs).mono ?_; rintro e w1 ⟨a, rfl, hrow, hb⟩
    have HB := Lib.hid hb; clear hb
    rw [H2.out] at hrow ⊢
    rcases hrow.2 with h0 | ⟨b, off, rfl, hbl, hcell⟩
    · cases h0
    have hc0 : w1.cell? ⟨b, off, none⟩ = some (.string t) := hcell 0 (by simp)
    clear hrow hcell
    go_wp2
    go_ret2
    exact ⟨rfl, HB.out⟩
  · rw [h1, h2]
    have H3 := Lib.hid h3
    clear h1 h2 h3
    go_enter Try.func19, Try.ntmps19
    go_wp2_with fail
    refine (rnames_any _ _ _ hs).mono ?_; rintro e w1 ⟨a, rfl, hrow, hb⟩
    have HB := Lib.hid hb; clear hb hrow
    rw [H3.out]
    go_wp2
    go_ret2
    exact ⟨rfl, HB.out⟩
  · rw [h1, h2]
    have H3 := Lib.hid h3
    clear h1 h2 h3
    go_enter Try.func19, Try.ntmps19
    go_wp2_with fail
    refine (rnames_any _ _ _ hs).mono ?_; rintro e w1 ⟨a, rfl, hrow, hb⟩
    have HB := Lib.hid hb; clear hb hrow
    rw [H3.out]
    go_wp2
    go_ret2
    exact ⟨rfl, HB.out⟩

theorem drewN_add (w : World) (a b : Nat) : (w.drewN a).drewN b = w.drewN (a + b) := by
  induction b with
  | zero => rfl
  | succ b ih => exact congrArg World.drew ih
theorem row_next {l r : List ByteArray} {k : Nat} (h : ∀ j, j < k → l.getD j ByteArray.empty = r.getD j ByteArray.empty) (h1 : l.getD k ByteArray.empty = r.getD k ByteArray.empty) : ∀ j, j < k + 1 → l.getD j ByteArray.empty = r.getD j ByteArray.empty := by
  intro j hj
  by_cases e : j = k
  · subst e; exact h1
  · exact h j (by omega)

theorem toList_inj {s t : ByteArray} (h : s.toList = t.toList) : s = t := by
  have h2 : s.data.toList = t.data.toList := (bs_toList s.data.toList).symm.trans (Eq.trans h (bs_toList t.data.toList))
  exact ByteArray.ext (Array.toList_inj.1 h2)

/-- Two rows of texts. -/
theorem sameS_any (a b : Option Addr) (n m ca cb : Nat) (l r : List ByteArray) (w : World) (ha : RowS w a n l) (hb : RowS w b m r) (hn : n ≤ 1000000) :
    Calls Try.prog 24 #[.slice a n ca, .slice b m cb] w fun e w' => e = .returned (.bool (decide (l = r))) ∧ ∃ k, w' = w.drewN k := by
  have HA := Lib.hid ha
  have HB := Lib.hid hb
  have hla := ha.1
  have hlb := hb.1
  clear ha hb
  by_cases hnm : n = m
  · subst hnm
    have e0 : ((n : Int) != (n : Int)) = false := nF rfl
    have HLA := Lib.hid hla
    have HLB := Lib.hid hlb
    clear hla hlb
    go_enter Try.func24, Try.ntmps24
    go_wp2
    go_loopw [5] (fun i wr => ∃ k q : Nat, k ≤ n ∧ i = .int .i64 k ∧ (∀ j, j < k → l.getD j ByteArray.empty = r.getD j ByteArray.empty) ∧ wr = w.drewN q) (fun i _ => n - (intOf i).toNat)
    case atStart => exact ⟨0, 0, Nat.zero_le _, rfl, fun j hj => absurd hj (by omega), rfl⟩
    case round =>
      obtain ⟨k, q, hk, rfl, hal, rfl⟩ := hrel
      have HAL := Lib.hid hal
      clear hal
      by_cases hlt : k < n
      · rcases HA.out.2 with h0 | ⟨b1, o1, rfl, _, hc1⟩
        · omega
        rcases HB.out.2 with h0 | ⟨b2, o2, rfl, _, hc2⟩
        · omega
        obtain ⟨s, hs⟩ : ∃ s, l.getD k ByteArray.empty = s := ⟨_, rfl⟩
        obtain ⟨t, ht⟩ : ∃ t, r.getD k ByteArray.empty = t := ⟨_, rfl⟩
        have g1 := hc1 k hlt
        have g2 := hc2 k hlt
        rw [hs] at g1
        rw [ht] at g2
        have HS := Lib.hid hs
        have HT := Lib.hid ht
        clear hc1 hc2 hs ht
        have i1 : (k : Int) < (n : Int) := by omega
        by_cases e : s = t
        · subst e
          go_wp2_with fail
          go_quiet (fail)
          go_wp2
          rename_i nq
          go_roundw
          case rel => exact ⟨k + 1, q + nq, by omega, by go_num, row_next HAL.out (HS.out.trans HT.out.symm), rfl⟩
          case measure => simp [intOf]; omega
        · have eb : (s.toList == t.toList) = false := by
            rw [beq_eq_false_iff_ne]
            intro h
            exact e (toList_inj h)
          have HV := Lib.hid (show decide (l = r) = false by
            apply dF
            intro h
            subst h
            exact e (HS.out.symm.trans HT.out))
          clear e
          go_wp2_with fail
          go_quiet (fail)
          go_wp2
          rename_i nq
          go_returns
          exact ⟨ret_bool HV.out.symm, _, by first | rfl | exact drewN_add _ _ _⟩
      · have hkn : k = n := by omega
        subst hkn
        have HV := Lib.hid (show decide (l = r) = true by
          apply dT
          refine List.ext_getElem (by rw [HLA.out, HLB.out]) ?_
          intro i h1 h2
          have := HAL.out i (by rw [← HLA.out]; exact h1)
          rw [List.getD_eq_getElem?_getD, List.getD_eq_getElem?_getD, List.getElem?_eq_getElem h1, List.getElem?_eq_getElem h2] at this
          exact this)
        go_wp2
        go_returns
        exact ⟨ret_bool HV.out.symm, q, rfl⟩
  · have e0 : ((n : Int) != (m : Int)) = true := nT (by omega)
    have hne : l ≠ r := by intro e; rw [e] at hla; omega
    have HV := Lib.hid (dF hne)
    clear hne hla hlb
    go_enter Try.func24, Try.ntmps24
    go_wp2
    go_returns
    exact ⟨ret_bool HV.out.symm, 0, rfl⟩

/-- May a record be? -/
def mayR (N : ByteArray) (t c u : Int) (D : ByteArray) : Bool := decide (t ≠ 41 ∧ t ≠ 252 ∧ t ≠ 255) && (mayN N && (decide (0 ≤ c ∧ c ≤ 65535) && (decide (0 ≤ u ∧ u ≤ 2147483647) && mayD t D)))

set_option maxRecDepth 100000 in
set_option maxHeartbeats 1600000 in
theorem mayRR_any (N : ByteArray) (t c u : Int) (D : ByteArray) (w : World) (hN : N.size ≤ 1000000) (hD : D.size ≤ 1000000) : Calls Try.prog 27 #[.agg #[.string N, .int .i64 t, .int .i64 c, .int .i64 u, .string D]] w fun e w' => e = .returned (.bool (mayR N t c u D)) ∧ Below w.heap.size w w' := by
  by_cases h : t ≠ 41 ∧ t ≠ 252 ∧ t ≠ 255
  · obtain ⟨c1, c2, c3⟩ := h
    have e1 := eF c1
    have e2 := eF c2
    have e3 := eF c3
    have hv : mayR N t c u D = (mayN N && (decide (0 ≤ c ∧ c ≤ 65535) && (decide (0 ≤ u ∧ u ≤ 2147483647) && mayD t D))) := by rw [mayR, dT (p := t ≠ 41 ∧ t ≠ 252 ∧ t ≠ 255) ⟨c1, c2, c3⟩, Bool.true_and]
    cases m1 : mayN N
    · have HV := Lib.hid (show mayR N t c u D = false by rw [hv, m1]; rfl)
      have M1 := Lib.hid m1
      clear hv m1 c1 c2 c3
      go_enter Try.func27, Try.ntmps27
      go_wp2_with fail
      refine (nmay_any _ _ hN).mono ?_; rintro e w' ⟨rfl, rfl⟩
      rw [M1.out]
      go_wp2
      go_ret
      exact ⟨ret_bool HV.out.symm, (Below.refl _ _).alloc (Nat.le_refl _) _⟩
    · have M1 := Lib.hid m1
      by_cases h2 : 0 ≤ c ∧ c ≤ 65535
      · have d2 := dT h2
        by_cases h3 : 0 ≤ u ∧ u ≤ 2147483647
        · have d3 := dT (p := (0 : Int) ≤ u) h3.1
          have d4 := dT (p := u ≤ (2147483647 : Int)) h3.2
          have HV := Lib.hid (show mayR N t c u D = mayD t D by rw [hv, m1, d2, dT h3]; rfl)
          clear hv m1 c1 c2 c3 h2 h3
          go_enter Try.func27, Try.ntmps27
          go_wp2_with fail
          refine (nmay_any _ _ hN).mono ?_; rintro e w' ⟨rfl, rfl⟩
          rw [M1.out]
          go_wp2_with (first | (go_at_call 72; refine (has16_any _ _).mono ?_; rintro e w' ⟨rfl, rfl⟩))
          refine (may_any _ _ _ hD).mono ?_; rintro e w1 ⟨rfl, hb⟩
          have HB := Lib.hid (((Below.refl w.heap.size w).alloc (Nat.le_refl _) _).trans (hb.mono (by simp))); clear hb
          go_wp2
          go_ret
          exact ⟨ret_bool HV.out.symm, HB.out⟩
        · have hd : decide ((0 : Int) ≤ u) = false ∨ decide ((0 : Int) ≤ u) = true ∧ decide (u ≤ (2147483647 : Int)) = false := by
            simp only [decide_eq_true_eq, decide_eq_false_iff_not]; omega
          have HV := Lib.hid (show mayR N t c u D = false by rw [hv, m1, d2, dF h3]; rfl)
          clear hv m1 c1 c2 c3 h2 h3
          rcases hd with d3 | ⟨d3, d4⟩
          all_goals
            go_enter Try.func27, Try.ntmps27
            go_wp2_with fail
            refine (nmay_any _ _ hN).mono ?_; rintro e w' ⟨rfl, rfl⟩
            rw [M1.out]
            go_wp2_with (first | (go_at_call 72; refine (has16_any _ _).mono ?_; rintro e w' ⟨rfl, rfl⟩))
            go_ret
            exact ⟨ret_bool HV.out.symm, (Below.refl _ _).alloc (Nat.le_refl _) _⟩
      · have d2 := dF h2
        have HV := Lib.hid (show mayR N t c u D = false by rw [hv, m1, d2]; rfl)
        clear hv m1 c1 c2 c3 h2
        go_enter Try.func27, Try.ntmps27
        go_wp2_with fail
        refine (nmay_any _ _ hN).mono ?_; rintro e w' ⟨rfl, rfl⟩
        rw [M1.out]
        go_wp2_with (first | (go_at_call 72; refine (has16_any _ _).mono ?_; rintro e w' ⟨rfl, rfl⟩))
        go_ret
        exact ⟨ret_bool HV.out.symm, (Below.refl _ _).alloc (Nat.le_refl _) _⟩
  · have HV := Lib.hid (show mayR N t c u D = false by rw [mayR, dF h]; rfl)
    have hd : (t == 41) = true ∨ (t == 41) = false ∧ ((t == 252) = true ∨ (t == 252) = false ∧ (t == 255) = true) := by
      simp only [beq_iff_eq, beq_eq_false_iff_ne, ne_eq]; omega
    clear h
    rcases hd with d1 | ⟨d1, d2 | ⟨d2, d3⟩⟩
    all_goals
      go_enter Try.func27, Try.ntmps27
      go_wp2
      go_ret
      exact ⟨ret_bool HV.out.symm, (Below.refl _ _).alloc (Nat.le_refl _) _⟩
set_option maxRecDepth 100000 in
set_option maxHeartbeats 1600000 in
theorem rmayRR_any (N : ByteArray) (t c u : Int) (D : ByteArray) (w : World) (hN : N.size ≤ 1000000) (hD : D.size ≤ 1000000) : Calls Try.prog 28 #[.agg #[.string N, .int .i64 t, .int .i64 c, .int .i64 u, .string D]] w fun e w' => e = .returned (.bool (mayR N t c u D)) ∧ Below w.heap.size w w' := by
  cases m1 : mayN N
  · have HV := Lib.hid (show mayR N t c u D = false by rw [mayR, m1, Bool.false_and, Bool.and_false])
    have M1 := Lib.hid m1
    clear m1
    go_enter Try.func28, Try.ntmps28
    go_wp2_with fail
    refine (rmay_any _ _ hN).mono ?_; rintro e w' ⟨rfl, rfl⟩
    rw [M1.out]
    go_wp2
    go_ret
    exact ⟨ret_bool HV.out.symm, (Below.refl _ _).alloc (Nat.le_refl _) _⟩
  · have M1 := Lib.hid m1
    by_cases h : 0 ≤ t ∧ t ≤ 65535 ∧ t ≠ 41 ∧ t ≠ 252 ∧ t ≠ 255 ∧ 0 ≤ c ∧ c ≤ 65535 ∧ 0 ≤ u ∧ u < 2147483648
    · obtain ⟨h1, h2, h3, h4, h5, h6, h7, h8, h9⟩ := h
      have HV := Lib.hid (show mayR N t c u D = mayD t D by rw [mayR, m1, dT (p := t ≠ 41 ∧ t ≠ 252 ∧ t ≠ 255) ⟨h3, h4, h5⟩, dT (p := 0 ≤ c ∧ c ≤ 65535) ⟨h6, h7⟩, dT (p := 0 ≤ u ∧ u ≤ 2147483647) (by omega)]; rfl)
      have d1 := dT h1
      have d2 := dT h2
      have d3 := nT h3
      have d4 := nT h4
      have d5 := nT h5
      have d6 := dT h6
      have d7 := dT h7
      have d8 := dT h8
      have d9 := dT h9
      clear m1 h1 h2 h3 h4 h5 h6 h7 h8 h9
      go_enter Try.func28, Try.ntmps28
      go_wp2_with fail
      refine (rmay_any _ _ hN).mono ?_; rintro e w' ⟨rfl, rfl⟩
      rw [M1.out]
      go_wp2_with fail
      refine (rmayD_any _ _ _ hD).mono ?_; rintro e w' ⟨rfl, rfl⟩
      go_wp2
      go_ret
      exact ⟨ret_bool HV.out.symm, (Below.refl _ _).alloc (Nat.le_refl _) _⟩
    · have hv : mayR N t c u D = false := by
        rw [mayR, m1, Bool.true_and]
        by_cases k1 : t ≠ 41 ∧ t ≠ 252 ∧ t ≠ 255
        · by_cases k2 : 0 ≤ c ∧ c ≤ 65535
          · by_cases k3 : 0 ≤ u ∧ u ≤ 2147483647
            · rw [mayD, dF (p := 0 ≤ t ∧ t ≤ 65535) (by omega)]; simp
            · rw [dF k3]; simp
          · rw [dF k2]; simp
        · rw [dF k1]; rfl
      have HV := Lib.hid hv
      have hd : decide ((0 : Int) ≤ t) = false ∨ decide ((0 : Int) ≤ t) = true ∧ (decide (t ≤ (65535 : Int)) = false ∨ decide (t ≤ (65535 : Int)) = true ∧ ((t != 41) = false ∨ (t != 41) = true ∧ ((t != 252) = false ∨ (t != 252) = true ∧ ((t != 255) = false ∨ (t != 255) = true ∧ (decide ((0 : Int) ≤ c) = false ∨ decide ((0 : Int) ≤ c) = true ∧ (decide (c ≤ (65535 : Int)) = false ∨ decide (c ≤ (65535 : Int)) = true ∧ (decide ((0 : Int) ≤ u) = false ∨ decide ((0 : Int) ≤ u) = true ∧ decide (u < (2147483648 : Int)) = false))))))) := by
        simp only [decide_eq_true_eq, decide_eq_false_iff_not, bne_iff_ne, ne_eq, bne_eq_false_iff_eq]; omega
      clear m1 h hv
      rcases hd with d1 | ⟨d1, d2 | ⟨d2, d3 | ⟨d3, d4 | ⟨d4, d5 | ⟨d5, d6 | ⟨d6, d7 | ⟨d7, d8 | ⟨d8, d9⟩⟩⟩⟩⟩⟩⟩⟩
      all_goals
        go_enter Try.func28, Try.ntmps28
        go_wp2_with fail
        refine (rmay_any _ _ hN).mono ?_; rintro e w' ⟨rfl, rfl⟩
        rw [M1.out]
        go_wp2
        go_ret
        exact ⟨ret_bool HV.out.symm, (Below.refl _ _).alloc (Nat.le_refl _) _⟩
end Go.Proofs.Ytgdbbdbfaglkdaa
