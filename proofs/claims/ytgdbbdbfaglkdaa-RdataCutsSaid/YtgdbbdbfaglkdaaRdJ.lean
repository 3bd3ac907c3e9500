/- RdataCuts: the walk. -/
import Derived.Test.YtgdbbdbfaglkdaaRdI
import Derived.Test.YtgdbbdbfaglkdaaRdC
import Derived.Test.YtgdbbdbfaglkdaaMayN
namespace Go.Proofs.Ytgdbbdbfaglkdaa
open Go.RowKit

theorem pre_mayD {k : Int} {t s : ByteArray} (hk : k = 2 ∨ k = 5 ∨ k = 6 ∨ k = 15) (h : Pre t s) (ht : mayD k t = true) (hs : mayD k s = true) : t.size = s.size := by
  rcases hk with rfl | rfl | rfl | rfl
  · simp [mayD, mayK] at ht hs
    exact name_pre h ht.2 hs.2
  · simp [mayD, mayK] at ht hs
    exact name_pre h ht.2 hs.2
  · simp [mayD, mayK] at ht hs
    exact soa_pre h ht.2 hs.2
  · have t1 := mayD_15 ht
    have s1 := mayD_15 hs
    have := name_pre (pre_tail h 2) t1.2 s1.2
    rw [extract_size _ _ _ (Nat.le_refl _), extract_size _ _ _ (Nat.le_refl _)] at this
    omega
theorem cuts_no {k : Int} {s : ByteArray} (hk : k = 2 ∨ k = 5 ∨ k = 6 ∨ k = 15) (hs : mayD k s = true) : mayD k (s ++ ⟨#[0]⟩) = false ∧ ∀ m, m < s.size → mayD k (s.extract 0 m) = false := by
  constructor
  · cases h : mayD k (s ++ ⟨#[0]⟩)
    · rfl
    · have := pre_mayD hk (pre_add s ⟨#[0]⟩) hs h
      rw [ByteArray.size_append] at this
      have : (⟨#[0]⟩ : ByteArray).size = 1 := rfl
      omega
  · intro m hm
    cases h : mayD k (s.extract 0 m)
    · rfl
    · have := pre_mayD hk (pre_cut s m (by omega)) h hs
      rw [extract_size _ _ _ (by omega)] at this
      omega
theorem nm_cases {k : Int} {s : ByteArray} (hs : mayD k s = true) : (nmL k s = [] ∧ tgB k s = false ∧ tgS k s = ⟨#[]⟩) ∨ (∃ x, nmL k s = [x] ∧ tgB k s = true ∧ tgS k s = x ∧ mayN x = true ∧ (k = 2 ∨ k = 5 ∨ k = 6 ∨ k = 15) ∧ 0 < s.size) ∨ (∃ x y, nmL k s = [x, y] ∧ tgB k s = false ∧ tgS k s = ⟨#[]⟩ ∧ mayN x = true ∧ mayN y = true ∧ (k = 2 ∨ k = 5 ∨ k = 6 ∨ k = 15) ∧ 0 < s.size) := by
  by_cases h6 : k = 6
  · subst h6
    have h1 : tgB 6 s = false := by rw [tgB, dF (p := (6 : Int) = 2 ∨ (6 : Int) = 5 ∨ (6 : Int) = 15) (by omega), Bool.and_false]
    have h2 : soaOk s = true := by simp [mayD, mayK] at hs; exact hs.2
    right; right
    refine ⟨soaM s, soaR s, by rw [nmL, h2]; rfl, h1, by rw [tgS, h1]; rfl, ?_, ?_, by omega, ?_⟩
    · simp only [soaOk, Bool.and_eq_true] at h2
      exact headOk_may h2.1.1
    · simp only [soaOk, Bool.and_eq_true] at h2
      exact headOk_may h2.1.2
    · simp only [soaOk, Bool.and_eq_true] at h2
      have := headOk_lt h2.1.1
      omega
  · by_cases hk : k = 2 ∨ k = 5 ∨ k = 15
    · have h1 : tgB k s = true := by rw [tgB, hs, dT hk]; rfl
      right; left
      refine ⟨tgS k s, by rw [nmL, if_neg h6, h1]; rfl, h1, rfl, ?_, by omega, ?_⟩
      · rw [tgS, h1]
        rcases hk with rfl | rfl | rfl
        · simp [mayD, mayK] at hs; exact hs.2
        · simp [mayD, mayK] at hs; exact hs.2
        · exact (mayD_15 hs).2
      · rcases hk with rfl | rfl | rfl
        · simp [mayD, mayK] at hs; have := mayN_size hs.2; omega
        · simp [mayD, mayK] at hs; have := mayN_size hs.2; omega
        · have := (mayD_15 hs).1; omega
    · have h1 : tgB k s = false := by rw [tgB, dF hk, Bool.and_false]
      left
      exact ⟨by rw [nmL, if_neg h6, h1]; rfl, h1, by rw [tgS, h1]; rfl⟩

set_option maxRecDepth 100000 in
set_option maxHeartbeats 2000000 in
theorem walkRCuts (k : Int) (s : ByteArray) (c : Int) (w : World) :
    Calls Try.prog 6 #[.int .i64 k, .string s, .int .i64 c] w fun e w' => e = .returned (.bool true) ∧ Below w.heap.size w w' := by
  by_cases hz : s.size ≤ 1200
  · have d1 := dF (p := (1200 : Int) < (s.size : Int)) (by omega)
    by_cases hc : 0 ≤ c
    · have d2 := dF (p := c < 0) (by omega)
      cases hm : mayD k s
      · have HM := Lib.hid hm
        clear hm hc
        go_enter Try.func6, Try.ntmps6
        go_wp2_with fail
        refine (rfirst _).mono ?_; rintro e w1 ⟨rfl, hb⟩
        have HB1 := Lib.hid hb; clear hb
        go_wp2_with fail
        refine (may_any _ _ _ (by omega)).mono ?_; rintro e w2 ⟨rfl, hb⟩
        have HB2 := Lib.hid (HB1.out.trans (hb.mono HB1.out.size)); clear hb
        rw [HM.out]
        go_wp2_with fail
        refine (rfirst _).mono ?_; rintro e w3 ⟨rfl, hb⟩
        have HB3 := Lib.hid (HB2.out.trans (hb.mono HB2.out.size)); clear hb
        go_wp2
        go_ret
        exact ⟨rfl, HB3.out⟩
      · obtain ⟨C, rfl⟩ := Int.eq_ofNat_of_zero_le hc
        rcases nm_cases hm with ⟨n1, n2, n3⟩ | ⟨x, n1, n2, n3, n4, n5, n6⟩ | ⟨x, y, n1, n2, n3, n4, n5, n6, n7⟩
        · have HM := Lib.hid hm
          have N1 := Lib.hid n1
          have N2 := Lib.hid n2
          have N3 := Lib.hid n3
          clear hm hc n1 n2 n3
          go_enter Try.func6, Try.ntmps6
          go_wp2_with fail
          refine (rfirst _).mono ?_; rintro e w1 ⟨rfl, hb⟩
          have HB1 := Lib.hid hb; clear hb
          go_wp2_with fail
          refine (may_any _ _ _ (by omega)).mono ?_; rintro e w2 ⟨rfl, hb⟩
          have HB2 := Lib.hid (HB1.out.trans (hb.mono HB1.out.size)); clear hb
          rw [HM.out]
          go_wp2_with fail
          refine (names_any _ _ _ (by omega)).mono ?_; rintro e w3 ⟨a, rfl, hrow, hb⟩
          have HB3 := Lib.hid (HB2.out.trans (hb.mono HB2.out.size)); clear hb
          rw [N1.out] at hrow ⊢
          clear hrow
          go_wp2_with fail
          refine (target_any _ _ _ (by omega)).mono ?_; rintro e w4 ⟨rfl, hb⟩
          have HB4 := Lib.hid (HB3.out.trans (hb.mono HB3.out.size)); clear hb
          rw [N2.out, N3.out]
          go_wp2_with fail
          refine wp_loop_rounds 1 ?_
          rw [rounds_succ]
          go_wp2_with fail
          refine (rfirst _).mono ?_; rintro e w5 ⟨rfl, hb⟩
          have HB5 := Lib.hid (HB4.out.trans (hb.mono HB4.out.size)); clear hb
          go_wp2
          go_ret
          exact ⟨rfl, HB5.out⟩
        · obtain ⟨q1, q2⟩ := cuts_no n5 hm
          have hmod : C % s.size < s.size := Nat.mod_lt _ n6
          have q3 := q2 _ hmod
          have hz2 : (s ++ ⟨#[0]⟩).size ≤ 1000000 := by rw [ByteArray.size_append]; have : (⟨#[0]⟩ : ByteArray).size = 1 := rfl; omega
          have hz3 : (s.extract 0 (C % s.size)).size ≤ 1000000 := by rw [extract_size _ _ _ (by omega)]; omega
          have hx : x.size ≤ 1000000 := by have := mayN_size n4; omega
          have HM := Lib.hid hm
          have N1 := Lib.hid n1
          have N2 := Lib.hid n2
          have N3 := Lib.hid n3
          have N4 := Lib.hid n4
          have Q1 := Lib.hid q1
          have Q3 := Lib.hid q3
          clear hm hc n1 n2 n3 n4 n5 q1 q2 q3
          go_enter Try.func6, Try.ntmps6
          go_wp2_with fail
          refine (rfirst _).mono ?_; rintro e w1 ⟨rfl, hb⟩
          have HB1 := Lib.hid hb; clear hb
          go_wp2_with fail
          refine (may_any _ _ _ (by omega)).mono ?_; rintro e w2 ⟨rfl, hb⟩
          have HB2 := Lib.hid (HB1.out.trans (hb.mono HB1.out.size)); clear hb
          rw [HM.out]
          go_wp2_with fail
          refine (names_any _ _ _ (by omega)).mono ?_; rintro e w3 ⟨a, rfl, hrow, hb⟩
          have HB3 := Lib.hid (HB2.out.trans (hb.mono HB2.out.size)); clear hb
          rw [N1.out] at hrow ⊢
          rcases hrow.2 with h0 | ⟨b, off, rfl, hbl, hcell⟩
          · cases h0
          have hc0 : w3.cell? ⟨b, off, none⟩ = some (.string x) := hcell 0 (by simp)
          have HC0 := Lib.hid hc0
          clear hrow hcell hc0
          go_wp2_with fail
          refine (target_any _ _ _ (by omega)).mono ?_; rintro e w4 ⟨rfl, hb⟩
          have hc4 : w4.cell? ⟨b, off, none⟩ = some (.string x) := by rw [hb.cell hbl]; exact HC0.out
          have HB4 := Lib.hid (HB3.out.trans (hb.mono HB3.out.size)); 
          have hbl4 : b < w4.heap.size := Nat.lt_of_lt_of_le hbl hb.size
          clear hb
          rw [N2.out, N3.out]
          go_wp2_with fail
          refine wp_loop_rounds 2 ?_
          rw [rounds_succ]
          go_wp2_with (first | (go_at_call 37; refine (rmay_any x _ hx).mono ?_; rintro e w' ⟨rfl, rfl⟩; rw [N4.out]))
          rw [rounds_succ]
          go_wp2_with fail
          refine (rfirst _).mono ?_; rintro e w5 ⟨rfl, hb⟩
          have hc5 : w5.cell? ⟨b, off, none⟩ = some (.string x) := by rw [hb.cell hbl4]; exact hc4
          have hbl5 : b < w5.heap.size := Nat.lt_of_lt_of_le hbl4 hb.size
          have HB5 := Lib.hid (HB4.out.trans (hb.mono HB4.out.size)); clear hb hc4
          go_wp2_with fail
          refine (may_any _ _ _ hz2).mono ?_; rintro e w6 ⟨rfl, hb⟩
          have hc6 : w6.cell? ⟨b, off, none⟩ = some (.string x) := by rw [hb.cell hbl5]; exact hc5
          have hbl6 : b < w6.heap.size := Nat.lt_of_lt_of_le hbl5 hb.size
          have HB6 := Lib.hid (HB5.out.trans (hb.mono HB5.out.size)); clear hb hc5
          rw [Q1.out]
          go_wp2_with fail
          refine (may_any _ _ _ hz3).mono ?_; rintro e w7 ⟨rfl, hb⟩
          have hc7 : w7.cell? ⟨b, off, none⟩ = some (.string x) := by rw [hb.cell hbl6]; exact hc6
          have HB7 := Lib.hid (HB6.out.trans (hb.mono HB6.out.size)); clear hb hc6
          rw [Q3.out]
          go_wp2
          go_ret
          exact ⟨rfl, HB7.out⟩
        · obtain ⟨q1, q2⟩ := cuts_no n6 hm
          have hmod : C % s.size < s.size := Nat.mod_lt _ n7
          have q3 := q2 _ hmod
          have hz2 : (s ++ ⟨#[0]⟩).size ≤ 1000000 := by rw [ByteArray.size_append]; have : (⟨#[0]⟩ : ByteArray).size = 1 := rfl; omega
          have hz3 : (s.extract 0 (C % s.size)).size ≤ 1000000 := by rw [extract_size _ _ _ (by omega)]; omega
          have hx : x.size ≤ 1000000 := by have := mayN_size n4; omega
          have hy : y.size ≤ 1000000 := by have := mayN_size n5; omega
          have N5 := Lib.hid n5
          have HM := Lib.hid hm
          have N1 := Lib.hid n1
          have N2 := Lib.hid n2
          have N3 := Lib.hid n3
          have N4 := Lib.hid n4
          have Q1 := Lib.hid q1
          have Q3 := Lib.hid q3
          clear hm hc n1 n2 n3 n4 n5 n6 q1 q2 q3
          go_enter Try.func6, Try.ntmps6
          go_wp2_with fail
          refine (rfirst _).mono ?_; rintro e w1 ⟨rfl, hb⟩
          have HB1 := Lib.hid hb; clear hb
          go_wp2_with fail
          refine (may_any _ _ _ (by omega)).mono ?_; rintro e w2 ⟨rfl, hb⟩
          have HB2 := Lib.hid (HB1.out.trans (hb.mono HB1.out.size)); clear hb
          rw [HM.out]
          go_wp2_with fail
          refine (names_any _ _ _ (by omega)).mono ?_; rintro e w3 ⟨a, rfl, hrow, hb⟩
          have HB3 := Lib.hid (HB2.out.trans (hb.mono HB2.out.size)); clear hb
          rw [N1.out] at hrow ⊢
          rcases hrow.2 with h0 | ⟨b, off, rfl, hbl, hcell⟩
          · cases h0
          have hc0 : w3.cell? ⟨b, off, none⟩ = some (.string x) := hcell 0 (by simp)
          have hd0 : w3.cell? ⟨b, off + 1, none⟩ = some (.string y) := hcell 1 (by simp)
          have HC0 := Lib.hid hc0
          have HD0 := Lib.hid hd0
          clear hrow hcell hc0 hd0
          go_wp2_with fail
          refine (target_any _ _ _ (by omega)).mono ?_; rintro e w4 ⟨rfl, hb⟩
          have hc4 : w4.cell? ⟨b, off, none⟩ = some (.string x) := by rw [hb.cell hbl]; exact HC0.out
          have hd4 : w4.cell? ⟨b, off + 1, none⟩ = some (.string y) := by rw [hb.cell hbl]; exact HD0.out
          have HB4 := Lib.hid (HB3.out.trans (hb.mono HB3.out.size)); 
          have hbl4 : b < w4.heap.size := Nat.lt_of_lt_of_le hbl hb.size
          clear hb
          rw [N2.out, N3.out]
          go_wp2_with fail
          refine wp_loop_rounds 3 ?_
          rw [rounds_succ]
          go_wp2_with (first | (go_at_call 37; refine (rmay_any x _ hx).mono ?_; rintro e w' ⟨rfl, rfl⟩; rw [N4.out]))
          rw [rounds_succ]
          go_wp2_with (first | (go_at_call 37; refine (rmay_any y _ hy).mono ?_; rintro e w' ⟨rfl, rfl⟩; rw [N5.out]))
          rw [rounds_succ]
          go_wp2_with fail
          refine (rfirst _).mono ?_; rintro e w5 ⟨rfl, hb⟩
          have hc5 : w5.cell? ⟨b, off, none⟩ = some (.string x) := by rw [hb.cell hbl4]; exact hc4
          have hbl5 : b < w5.heap.size := Nat.lt_of_lt_of_le hbl4 hb.size
          have HB5 := Lib.hid (HB4.out.trans (hb.mono HB4.out.size)); clear hb hc4
          go_wp2_with fail
          refine (may_any _ _ _ hz2).mono ?_; rintro e w6 ⟨rfl, hb⟩
          have hc6 : w6.cell? ⟨b, off, none⟩ = some (.string x) := by rw [hb.cell hbl5]; exact hc5
          have hbl6 : b < w6.heap.size := Nat.lt_of_lt_of_le hbl5 hb.size
          have HB6 := Lib.hid (HB5.out.trans (hb.mono HB5.out.size)); clear hb hc5
          rw [Q1.out]
          go_wp2_with fail
          refine (may_any _ _ _ hz3).mono ?_; rintro e w7 ⟨rfl, hb⟩
          have hc7 : w7.cell? ⟨b, off, none⟩ = some (.string x) := by rw [hb.cell hbl6]; exact hc6
          have HB7 := Lib.hid (HB6.out.trans (hb.mono HB6.out.size)); clear hb hc6
          rw [Q3.out]
          go_wp2
          go_ret
          exact ⟨rfl, HB7.out⟩
    · have d2 := dT (p := c < 0) (by omega)
      clear hc
      go_enter Try.func6, Try.ntmps6
      go_wp2_with fail
      refine (rfirst _).mono ?_; rintro e w1 ⟨rfl, hb⟩
      have HB1 := Lib.hid hb; clear hb
      go_wp2_with fail
      refine (rfirst _).mono ?_; rintro e w3 ⟨rfl, hb⟩
      have HB3 := Lib.hid (HB1.out.trans (hb.mono HB1.out.size)); clear hb
      go_wp2
      go_ret
      exact ⟨rfl, HB3.out⟩
  · have d1 := dT (p := (1200 : Int) < (s.size : Int)) (by omega)
    clear hz
    go_enter Try.func6, Try.ntmps6
    go_wp2_with fail
    refine (rfirst _).mono ?_; rintro e w1 ⟨rfl, hb⟩
    have HB1 := Lib.hid hb; clear hb
    go_wp2_with fail
    refine (rfirst _).mono ?_; rintro e w3 ⟨rfl, hb⟩
    have HB3 := Lib.hid (HB1.out.trans (hb.mono HB1.out.size)); clear hb
    go_wp2
    go_ret
    exact ⟨rfl, HB3.out⟩
end Go.Proofs.Ytgdbbdbfaglkdaa
