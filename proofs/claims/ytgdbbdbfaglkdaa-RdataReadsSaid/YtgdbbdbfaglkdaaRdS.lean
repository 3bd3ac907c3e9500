/- RdataBack: the walk. -/
import Derived.Test.YtgdbbdbfaglkdaaRdR
import Derived.Deep.DeepCutAuto
namespace Go.Proofs.Ytgdbbdbfaglkdaa
open Go.RowKit

theorem soa_box (w : World) (M R : ByteArray) (a b c d f : Int) (t : TypeId) : SoaAt (w.alloc (.cells #[.string M, .string R, .int .i64 a, .int .i64 b, .int .i64 c, .int .i64 d, .int .i64 f] t)) w.heap.size M R a b c d f := by
  refine ⟨by simp, ?_, ?_, ?_, ?_, ?_, ?_, ?_⟩ <;> simp
theorem md_box (w : World) (a b c : Int) (D : ByteArray) (t : TypeId) : MdAt (w.alloc (.cells #[.int .i64 a, .int .i64 b, .int .i64 c, .string D] t)) w.heap.size a b c D := by
  refine ⟨by simp, ?_, ?_, ?_, ?_⟩ <;> simp
theorem getSoaV_shape (s : ByteArray) : ∃ x0 x1 x2 x3 x4 x5 x6, getSoaV s = .tuple #[.agg #[.string x0, .string x1, .int .i64 x2, .int .i64 x3, .int .i64 x4, .int .i64 x5, .int .i64 x6], .bool (soaOk s)] := by
  cases h : soaOk s
  · exact ⟨_, _, _, _, _, _, _, by rw [getSoaV, h]; rfl⟩
  · exact ⟨_, _, _, _, _, _, _, by rw [getSoaV, h]; rfl⟩
theorem getMdV_shape (s : ByteArray) : ∃ x0 x1 x2 x3, getMdV s = .tuple #[.agg #[.int .i64 x0, .int .i64 x1, .int .i64 x2, .string x3], .bool (mayD 63 s)] := by
  cases h : mayD 63 s
  · exact ⟨_, _, _, _, by rw [getMdV, h]; rfl⟩
  · exact ⟨_, _, _, _, by rw [getMdV, h]; rfl⟩
theorem soa_fact (M R : ByteArray) (a b c d f : Int) :
    ∃ x0 x1 x2 x3 x4 x5 x6 ok, getSoaV (putSoaS M R [a, b, c, d, f]) = .tuple #[.agg #[.string x0, .string x1, .int .i64 x2, .int .i64 x3, .int .i64 x4, .int .i64 x5, .int .i64 x6], .bool ok] ∧
      ((putSoaE M R [a, b, c, d, f] == 0) = false ∨ ((putSoaE M R [a, b, c, d, f] == 0) = true ∧ M = x0 ∧ R = x1 ∧ a = x2 ∧ b = x3 ∧ c = x4 ∧ d = x5 ∧ f = x6 ∧ true = ok ∧ mayD 6 (putSoaS M R [a, b, c, d, f]) = true)) := by
  by_cases h : (mayN M && mayN R) = true
  · by_cases h3 : joinOk 4 [a, b, c, d, f] = true
    · have e1 : putSoaS M R [a, b, c, d, f] = M ++ R ++ bs (joinL 4 [a, b, c, d, f]) := by rw [putSoaS, if_pos h, if_pos h3]
      have e2 : putSoaE M R [a, b, c, d, f] = 0 := by rw [putSoaE, if_pos h, joinE, if_pos h3]
      rw [Bool.and_eq_true] at h
      obtain ⟨k1, k2⟩ := soa_put M R a b c d f h.1 h.2 h3
      rw [e1, e2]
      exact ⟨M, R, a, b, c, d, f, true, k2, Or.inr ⟨rfl, rfl, rfl, rfl, rfl, rfl, rfl, rfl, rfl, by rw [mayD_6]; exact k1⟩⟩
    · have e2 : putSoaE M R [a, b, c, d, f] = 1 := by rw [putSoaE, if_pos h, joinE, if_neg h3]
      obtain ⟨x0, x1, x2, x3, x4, x5, x6, hx⟩ := getSoaV_shape (putSoaS M R [a, b, c, d, f])
      exact ⟨x0, x1, x2, x3, x4, x5, x6, _, hx, Or.inl (by rw [e2]; rfl)⟩
  · have e2 : putSoaE M R [a, b, c, d, f] = 10 := by rw [putSoaE, if_neg h]
    obtain ⟨x0, x1, x2, x3, x4, x5, x6, hx⟩ := getSoaV_shape (putSoaS M R [a, b, c, d, f])
    exact ⟨x0, x1, x2, x3, x4, x5, x6, _, hx, Or.inl (by rw [e2]; rfl)⟩
theorem md_fact (a b c : Int) (D : ByteArray) :
    ∃ x0 x1 x2 x3 ok, getMdV (putMdS a b c D) = .tuple #[.agg #[.int .i64 x0, .int .i64 x1, .int .i64 x2, .string x3], .bool ok] ∧
      ((putMdE a b c D == 0) = false ∨ ((putMdE a b c D == 0) = true ∧ a = x0 ∧ b = x1 ∧ c = x2 ∧ D = x3 ∧ true = ok ∧ mayD 63 (putMdS a b c D) = true)) := by
  by_cases h : (fits a 4 && joinOk 1 [b, c]) = true
  · by_cases h3 : mayD 63 (mdData a b c D) = true
    · have e1 : putMdS a b c D = mdData a b c D := by rw [putMdS, if_pos h, if_pos h3]
      have e2 : putMdE a b c D = 0 := by rw [putMdE, if_pos h, if_pos h3]
      rw [Bool.and_eq_true] at h
      rw [e1, e2]
      exact ⟨a, b, c, D, true, md_put a b c D h.1 h.2 h3, Or.inr ⟨rfl, rfl, rfl, rfl, rfl, rfl, h3⟩⟩
    · have e2 : putMdE a b c D = 4 := by rw [putMdE, if_pos h, if_neg h3]
      obtain ⟨x0, x1, x2, x3, hx⟩ := getMdV_shape (putMdS a b c D)
      exact ⟨x0, x1, x2, x3, _, hx, Or.inl (by rw [e2]; rfl)⟩
  · have e2 : putMdE a b c D = 1 := by rw [putMdE, if_neg h]
    obtain ⟨x0, x1, x2, x3, hx⟩ := getMdV_shape (putMdS a b c D)
    exact ⟨x0, x1, x2, x3, _, hx, Or.inl (by rw [e2]; rfl)⟩
theorem joinL_size (W : Nat) (l : List Int) : (bs (joinL W l)).size ≤ W * l.length := by
  rw [bs_size, joinL]
  split
  · rw [Int.toNat_natCast, joinTo_length]; exact Nat.le_refl _
  · exact Nat.zero_le _
theorem putSoaS_size (M R : ByteArray) (a b c d f : Int) (hM : M.size ≤ 1200) (hR : R.size ≤ 1200) : (putSoaS M R [a, b, c, d, f]).size ≤ 1000000 := by
  have h := joinL_size 4 [a, b, c, d, f]
  have h2 : (bs (joinL 4 [a, b, c, d, f])).size ≤ 20 := h
  have h0 : (⟨#[]⟩ : ByteArray).size = 0 := rfl
  rw [putSoaS]
  split
  · split
    · rw [ByteArray.size_append, ByteArray.size_append]; omega
    · omega
  · omega
theorem putMdS_size (a b c : Int) (D : ByteArray) (hD : D.size ≤ 1200) : (putMdS a b c D).size ≤ 1000000 := by
  have h := joinL_size 1 [b, c]
  have h2 : (bs (joinL 1 [b, c])).size ≤ 2 := h
  have h0 : (⟨#[]⟩ : ByteArray).size = 0 := rfl
  have h3 : (bs (putL a 4)).size ≤ 4 := by
    rw [bs_size, putL]
    split
    · rw [putTo_length]; decide
    · exact Nat.zero_le _
  rw [putMdS]
  split
  · split
    · rw [mdData, ByteArray.size_append, ByteArray.size_append]; omega
    · omega
  · omega

theorem addr_fact (l : List Int) : ((addrE l == 0) = false ∨ ((addrE l == 0) = true ∧ mayD 1 (bs (addrL l)) = true) ∨ ((addrE l == 0) = true ∧ mayD 1 (bs (addrL l)) = false ∧ mayD 28 (bs (addrL l)) = true)) ∧ (bs (addrL l)).size ≤ 1000000 := by
  by_cases h4 : l.length = 4 ∨ l.length = 16
  · have eE : addrE l = joinE 1 l := by rw [addrE, if_pos h4]
    have eL : addrL l = joinL 1 l := by rw [addrL, if_pos h4]
    by_cases hj : joinOk 1 l = true
    · have hz : (bs (addrL l)).size = l.length := by rw [eL, bs_size, joinL, if_pos hj, Int.toNat_one, joinTo_length, Nat.one_mul]
      have e0 : (addrE l == 0) = true := by rw [eE, joinE, if_pos hj]; rfl
      refine ⟨?_, by omega⟩
      right
      rcases h4 with h4 | h4
      · left
        refine ⟨e0, ?_⟩
        rw [mayD_is (by omega) (by omega)]
        show ((bs (addrL l)).size : Int) == 4
        rw [hz, h4]; rfl
      · right
        refine ⟨e0, ?_, ?_⟩
        · rw [mayD_is (by omega) (by omega)]
          show (((bs (addrL l)).size : Int) == 4) = false
          rw [hz, h4]; rfl
        · rw [mayD_is (by omega) (by omega)]
          show ((bs (addrL l)).size : Int) == 16
          rw [hz, h4]; rfl
    · refine ⟨Or.inl (by rw [eE, joinE, if_neg hj]; rfl), ?_⟩
      rw [eL, joinL, if_neg hj]
      decide
  · refine ⟨Or.inl (by rw [addrE, if_neg h4]; rfl), ?_⟩
    rw [addrL, if_neg h4]
    decide
theorem text_fact (m : List ByteArray) : ((textE m == 0) = false ∨ ((textE m == 0) = true ∧ mayD 16 (bs (textL m)) = true)) ∧ (bs (textL m)).size ≤ 1000000 := by
  by_cases ho : okTx m m.length = true
  · have hle := okTx_le ho
    have eL : textL m = txtTo m m.length := by rw [textL, if_pos ho]
    have hz : (bs (textL m)).size ≤ 1000 := by rw [eL, bs_size]; exact hle
    refine ⟨?_, by omega⟩
    by_cases hn : m = []
    · left; rw [textE, if_pos hn]; rfl
    · right
      refine ⟨by rw [textE, if_neg hn, if_pos ho]; rfl, ?_⟩
      rw [mayD_is (by omega) hz, eL]
      have hpos : 0 < m.length := by cases m with
        | nil => exact absurd rfl hn
        | cons x l => simp
      exact mayTx_txt m _ hpos ho
  · refine ⟨Or.inl ?_, ?_⟩
    · rw [textE]
      split
      · rfl
      · first | rfl | (rw [if_neg ho]; rfl)
    · rw [textL, if_neg ho]
      decide
theorem soa_fact2 (X : ByteArray) : ∃ x0 x1 x2 x3 x4 x5 x6, getSoaV X = .tuple #[.agg #[.string x0, .string x1, .int .i64 x2, .int .i64 x3, .int .i64 x4, .int .i64 x5, .int .i64 x6], .bool (soaOk X)] ∧ x0.size ≤ 1000 ∧ x1.size ≤ 1000 ∧
      (soaOk X = false ∨ (soaOk X = true ∧ (putSoaE x0 x1 [x2, x3, x4, x5, x6] == 0) = true ∧ putSoaS x0 x1 [x2, x3, x4, x5, x6] = X)) := by
  by_cases h : soaOk X = true
  · obtain ⟨h1, h2⟩ := soa_back h
    obtain ⟨k1, k2, k3⟩ := soaOk_parts h
    have m1 := mayN_size (headOk_may k1)
    have m2 := mayN_size (headOk_may k2)
    exact ⟨_, _, _, _, _, _, _, by rw [getSoaV, if_pos h, h], (by show (head1 X).size ≤ 1000; omega), (by show (head1 (rest1 X)).size ≤ 1000; omega), Or.inr ⟨h, by rw [h1]; rfl, h2⟩⟩
  · have h' : soaOk X = false := by simpa using h
    exact ⟨_, _, _, _, _, _, _, by rw [getSoaV, if_neg h, h'], by decide, by decide, Or.inl h'⟩
theorem md_fact2 (X : ByteArray) : ∃ x0 x1 x2 x3, getMdV X = .tuple #[.agg #[.int .i64 x0, .int .i64 x1, .int .i64 x2, .string x3], .bool (mayD 63 X)] ∧ x3.size ≤ 1000 ∧
      (mayD 63 X = false ∨ (mayD 63 X = true ∧ (putMdE x0 x1 x2 x3 == 0) = true ∧ putMdS x0 x1 x2 x3 = X)) := by
  by_cases h : mayD 63 X = true
  · obtain ⟨h1, h2⟩ := md_back h
    have hz := mayD_63 h
    exact ⟨_, _, _, _, by rw [getMdV, if_pos h, h], (by rw [extract_size _ _ _ (Nat.le_refl _)]; omega), Or.inr ⟨h, by rw [h1]; rfl, h2⟩⟩
  · have h' : mayD 63 X = false := by simpa using h
    exact ⟨_, _, _, _, by rw [getMdV, if_neg h, h'], by decide, Or.inl h'⟩

set_option maxRecDepth 100000 in
set_option maxHeartbeats 4000000 in
theorem walkRBack (M R : ByteArray) (a b c d f : Int) (x y z : Int) (D : ByteArray) (q : Option Addr) (lq cq : Nat) (l : List Int) (p : Option Addr) (lp cp : Nat) (m : List ByteArray) (X : ByteArray) (w : World) (h : Row w q lq l) (hB : RowS w p lp m) (hsz : ∀ k, k < lp → (tx m k).size ≤ 9223372036854775807) :
    Calls Try.prog 5 #[.agg #[.string M, .string R, .int .i64 a, .int .i64 b, .int .i64 c, .int .i64 d, .int .i64 f], .agg #[.int .i64 x, .int .i64 y, .int .i64 z, .string D], .slice q lq cq, .slice p lp cp, .string X] w fun e w' => e = .returned (.bool true) ∧ Below w.heap.size w w' := by
  have HL := Lib.hid h
  have HP := Lib.hid hB
  have HSZ := Lib.hid hsz
  by_cases hz : M.size ≤ 1200 ∧ R.size ≤ 1200 ∧ D.size ≤ 1200 ∧ lq ≤ 500 ∧ lp ≤ 30 ∧ X.size ≤ 1200
  · obtain ⟨z1, z2, z3, z4, z5, z6⟩ := hz
    have d1 := dF (p := (1200 : Int) < (M.size : Int)) (by omega)
    have d2 := dF (p := (1200 : Int) < (R.size : Int)) (by omega)
    have d3 := dF (p := (1200 : Int) < (D.size : Int)) (by omega)
    have d4 := dF (p := (500 : Int) < (lq : Int)) (by omega)
    have d5 := dF (p := (30 : Int) < (lp : Int)) (by omega)
    have d6 := dF (p := (1200 : Int) < (X.size : Int)) (by omega)
    have HA := Lib.hid (show ∃ A, putSoaS M R [a, b, c, d, f] = A from ⟨_, rfl⟩)
    obtain ⟨A, hA⟩ := HA.out
    have HC := Lib.hid (show ∃ C, putMdS x y z D = C from ⟨_, rfl⟩)
    obtain ⟨C, hC⟩ := HC.out
    clear HA HC
    have HSoa := Lib.hid (soa_fact M R a b c d f)
    have HMd := Lib.hid (md_fact x y z D)
    have HAz := Lib.hid (putSoaS_size M R a b c d f (by omega) (by omega))
    have HCz := Lib.hid (putMdS_size x y z D (by omega))
    rw [hA] at HSoa HAz
    rw [hC] at HMd HCz
    have HA := Lib.hid hA
    have HC := Lib.hid hC
    clear hA hC
    clear h hB hsz
    go_enter Try.func5, Try.ntmps5
    go_wp2_with fail
    refine (rfirst _).mono ?_; rintro e w1 ⟨rfl, hb⟩
    have hS := two_boxes w M R a b c d f x y z D 26 33
    have S1 := Lib.hid (hS.1.below hb)
    have D1 := Lib.hid (hS.2.below hb)
    have HB1 := Lib.hid ((((Below.refl w.heap.size w).alloc (Nat.le_refl _) _).alloc (by simp) _).trans (hb.mono (by simp; omega)))
    clear hb hS
    obtain ⟨s0, s1, s2, _⟩ := S1.out
    obtain ⟨m0, _, _, _, m4⟩ := D1.out
    go_wp2_with fail
    clear s1 s2 m4
    go_loop [11] (fun i => ∃ k : Nat, k ≤ lp ∧ Short m k ∧ i = .int .i64 k) (fun i => lp - (intOf i).toNat)
    case atStart => exact ⟨0, Nat.zero_le _, fun j hj => absurd hj (by omega), rfl⟩
    case round =>
      obtain ⟨k, hk, hsh, rfl⟩ := hrel
      have HSH := Lib.hid hsh
      clear hsh
      by_cases hlt : k < lp
      · rcases HP.out.2 with hz | ⟨g, off, rfl, hbl, hc⟩
        · omega
        · obtain ⟨s, hs⟩ : ∃ s, tx m k = s := ⟨_, rfl⟩
          have hcell : w1.cell? ⟨g, off + k, none⟩ = some (.string s) := by rw [HB1.out.cell hbl, ← hs]; exact hc k hlt
          have hs9 := HSZ.out k hlt
          rw [hs] at hs9
          have HS := Lib.hid hs
          clear hc hs
          by_cases e : s.size ≤ 1200
          · have e1 := dF (p := (1200 : Int) < (s.size : Int)) (by omega)
            have HX := Lib.hid (short_next HSH.out (by rw [HS.out]; exact e))
            go_wp2
            go_round
            case rel => exact ⟨k + 1, by omega, HX.out, by go_num⟩
            case measure => simp [intOf]; omega
          · have e1 := dT (p := (1200 : Int) < (s.size : Int)) (by omega)
            go_wp2_with fail
            refine (rfirst _).mono ?_; rintro e w2 ⟨rfl, hb⟩
            have HB2 := Lib.hid (HB1.out.trans (hb.mono HB1.out.size)); clear hb
            go_wp2
            go_ret
            exact ⟨rfl, HB2.out⟩
      · have hkl : k = lp := by omega
        subst hkl
        obtain ⟨s0, s1, s2, s3, s4, s5, s6, s7⟩ := S1.out
        go_wp2_with fail
        clear s1 s2 s3 s4 s5 s6 s7
        refine (putSoa_any M R a b c d f _ (by omega) (by omega)).mono ?_; rintro e w2 ⟨rfl, hb⟩
        have HB2 := Lib.hid (HB1.out.trans (hb.mono HB1.out.size))
        have S2 := Lib.hid (S1.out.below hb)
        have D2 := Lib.hid (D1.out.below hb)
        clear hb
        rw [HA.out]
        go_wp2_with fail
        refine (getSoa_any _ _ HAz.out).mono ?_; rintro e w3 ⟨rfl, hb⟩
        have HB3 := Lib.hid (HB2.out.trans (hb.mono HB2.out.size))
        have S3 := Lib.hid (S2.out.below hb)
        have D3 := Lib.hid (D2.out.below hb)
        clear hb
        obtain ⟨x0, x1, x2, x3, x4, x5, x6, ok1, hv1, hx⟩ := HSoa.out
        have HX1 := Lib.hid hx
        clear hx
        rw [hv1]
        clear hv1
        obtain ⟨t0, s1, s2, s3, s4⟩ := D3.out
        go_wp2_with fail
        clear s1 s2 s3 s4
        refine (putMd_any x y z D _ (by omega)).mono ?_; rintro e w4 ⟨rfl, hb⟩
        have S3b := Lib.hid (S3.out.below ((Below.refl _ _).alloc (Nat.le_refl _) (.cells #[.string x0, .string x1, .int .i64 x2, .int .i64 x3, .int .i64 x4, .int .i64 x5, .int .i64 x6] 26)))
        have S4 := Lib.hid (S3b.out.below hb)
        have D3b := Lib.hid (D3.out.below ((Below.refl _ _).alloc (Nat.le_refl _) (.cells #[.string x0, .string x1, .int .i64 x2, .int .i64 x3, .int .i64 x4, .int .i64 x5, .int .i64 x6] 26)))
        have D4 := Lib.hid (D3b.out.below hb)
        have B4 := Lib.hid ((soa_box w3 x0 x1 x2 x3 x4 x5 x6 26).below hb)
        have HB4 := Lib.hid ((HB3.out.alloc HB3.out.size _).trans (hb.mono (by have := HB3.out.size; simp; omega)))
        clear hb S3b D3b
        rw [HC.out]
        go_wp2_with fail
        refine (getMd_any _ _ HCz.out).mono ?_; rintro e w5 ⟨rfl, hb⟩
        have S5 := Lib.hid (S4.out.below hb)
        have D5 := Lib.hid (D4.out.below hb)
        have B5 := Lib.hid (B4.out.below hb)
        have HB5 := Lib.hid (HB4.out.trans (hb.mono HB4.out.size))
        clear hb
        obtain ⟨y0, y1, y2, y3, ok2, hv2, hy⟩ := HMd.out
        have HX2 := Lib.hid hy
        clear hy
        rw [hv2]
        clear hv2
        go_upto_region 14 with fail
        go_cut [132] (fun s132 wx => s132 = .bool false ∧ Below w.heap.size w wx)
        case first =>
          rcases HX1.out with q1 | ⟨q1, rfl, rfl, rfl, rfl, rfl, rfl, rfl, rfl, q2⟩
          · rcases HX2.out with p1 | ⟨p1, rfl, rfl, rfl, rfl, rfl, p2⟩
            · go_wp2_with fail
              go_meet
              exact ⟨rfl, HB5.out.alloc HB5.out.size _⟩
            · have P2 := Lib.hid p2
              clear p2
              obtain ⟨u0, u1, u2, u3, u4⟩ := D5.out
              go_wp2_with fail
              clear u1 u2 u3 u4
              refine (may_any _ _ _ HCz.out).mono ?_; rintro e w6 ⟨rfl, hb⟩
              have HB6 := Lib.hid ((HB5.out.alloc HB5.out.size _).trans (hb.mono (by have := HB5.out.size; simp; omega)))
              clear hb
              rw [P2.out]
              go_wp2_with fail
              go_meet
              exact ⟨rfl, HB6.out⟩
          · have Q2 := Lib.hid q2
            clear q2
            rcases HX2.out with p1 | ⟨p1, rfl, rfl, rfl, rfl, rfl, p2⟩
            · obtain ⟨u0, u1, u2, u3, u4, u5, u6, u7⟩ := S5.out
              obtain ⟨v0, v1, v2, v3, v4, v5, v6, v7⟩ := B5.out
              go_wp2_with fail
              clear u1 u2 u3 u4 u5 u6 u7 v1 v2 v3 v4 v5 v6 v7
              refine (may_any _ _ _ HAz.out).mono ?_; rintro e w6 ⟨rfl, hb⟩
              have HB6 := Lib.hid ((HB5.out.alloc HB5.out.size _).trans (hb.mono (by have := HB5.out.size; simp; omega)))
              clear hb
              rw [Q2.out]
              go_wp2_with fail
              go_meet
              exact ⟨rfl, HB6.out⟩
            · have P2 := Lib.hid p2
              clear p2
              obtain ⟨u0, u1, u2, u3, u4, u5, u6, u7⟩ := S5.out
              obtain ⟨v0, v1, v2, v3, v4, v5, v6, v7⟩ := B5.out
              go_wp2_with fail
              clear u1 u2 u3 u4 u5 u6 u7 v1 v2 v3 v4 v5 v6 v7
              refine (may_any _ _ _ HAz.out).mono ?_; rintro e w6 ⟨rfl, hb⟩
              have HB6 := Lib.hid ((HB5.out.alloc HB5.out.size _).trans (hb.mono (by have := HB5.out.size; simp; omega)))
              obtain ⟨r0, r1, r2, r3, r4⟩ := (md_box w5 x y z D 33).below hb
              obtain ⟨o0, o1, o2, o3, o4⟩ := (D5.out.below ((Below.refl _ _).alloc (Nat.le_refl _) (.cells #[.int .i64 x, .int .i64 y, .int .i64 z, .string D] 33))).below hb
              clear hb
              rw [Q2.out]
              go_wp2_with fail
              clear r1 r2 r3 r4 o1 o2 o3 o4
              refine (may_any _ _ _ HCz.out).mono ?_; rintro e w7 ⟨rfl, hb⟩
              have HB7 := Lib.hid (HB6.out.trans (hb.mono HB6.out.size))
              clear hb
              rw [P2.out]
              go_wp2_with fail
              go_meet
              exact ⟨rfl, HB7.out⟩
        case rest =>
        obtain ⟨rfl, hbc⟩ := hcut
        have HBc := Lib.hid hbc
        clear hbc
        go_wp2_with fail
        refine (addr_any _ _ _ l _ (HL.out.below HBc.out) (by omega)).mono ?_; rintro e w8 ⟨rfl, hb⟩
        have HB8 := Lib.hid (HBc.out.trans (hb.mono HBc.out.size))
        clear hb
        go_upto_region 17 with fail
        go_cut [149] (fun s149 wx => s149 = .bool false ∧ Below w.heap.size w wx)
        case first =>
          rcases (addr_fact l).1 with g1 | ⟨g1, g2⟩ | ⟨g1, g2, g3⟩
          · go_wp2_with fail
            go_meet
            exact ⟨rfl, HB8.out⟩
          · have G2 := Lib.hid g2
            clear g2
            go_wp2_with fail
            refine (may_any _ _ _ (addr_fact l).2).mono ?_; rintro e w9 ⟨rfl, hb⟩
            have HB9 := Lib.hid (HB8.out.trans (hb.mono HB8.out.size))
            clear hb
            rw [G2.out]
            go_wp2_with fail
            go_meet
            exact ⟨rfl, HB9.out⟩
          · have G2 := Lib.hid g2
            have G3 := Lib.hid g3
            clear g2 g3
            go_wp2_with fail
            refine (may_any _ _ _ (addr_fact l).2).mono ?_; rintro e w9 ⟨rfl, hb⟩
            have HB9 := Lib.hid (HB8.out.trans (hb.mono HB8.out.size))
            clear hb
            rw [G2.out]
            go_wp2_with fail
            refine (may_any _ _ _ (addr_fact l).2).mono ?_; rintro e w10 ⟨rfl, hb⟩
            have HB10 := Lib.hid (HB9.out.trans (hb.mono HB9.out.size))
            clear hb
            rw [G3.out]
            go_wp2_with fail
            go_meet
            exact ⟨rfl, HB10.out⟩
        case rest =>
        obtain ⟨rfl, hbc⟩ := hcut
        have HBa := Lib.hid hbc
        clear hbc HB8
        go_wp2_with fail
        refine (text_any _ _ _ m _ (HP.out.below HBa.out) (by omega) (fun j hj => by have := HSH.out j hj; omega)).mono ?_; rintro e w8 ⟨rfl, hb⟩
        have HB8 := Lib.hid (HBa.out.trans (hb.mono HBa.out.size))
        clear hb
        go_upto_region 20 with fail
        go_cut [161] (fun s161 wx => s161 = .bool false ∧ Below w.heap.size w wx)
        case first =>
          rcases (text_fact m).1 with g1 | ⟨g1, g2⟩
          · go_wp2_with fail
            go_meet
            exact ⟨rfl, HB8.out⟩
          · have G2 := Lib.hid g2
            clear g2
            go_wp2_with fail
            refine (may_any _ _ _ (text_fact m).2).mono ?_; rintro e w9 ⟨rfl, hb⟩
            have HB9 := Lib.hid (HB8.out.trans (hb.mono HB8.out.size))
            clear hb
            rw [G2.out]
            go_wp2_with fail
            go_meet
            exact ⟨rfl, HB9.out⟩
        case rest =>
        obtain ⟨rfl, hbc⟩ := hcut
        have HBt := Lib.hid hbc
        clear hbc HB8
        go_wp2_with fail
        refine (getSoa_any _ _ (by omega)).mono ?_; rintro e w8 ⟨rfl, hb⟩
        have HB8 := Lib.hid (HBt.out.trans (hb.mono HBt.out.size))
        clear hb
        obtain ⟨X0, X1, X2, X3, X4, X5, X6, hv1, hz1, hz2, hx⟩ := soa_fact2 X
        have HX3 := Lib.hid hx
        clear hx
        obtain ⟨sb, hsb⟩ : ∃ sb, soaOk X = sb := ⟨_, rfl⟩
        rw [hsb] at hv1 HX3
        have HSB := Lib.hid hsb
        clear hsb
        rw [hv1]
        clear hv1
        go_wp2_with fail
        refine (getMd_any _ _ (by omega)).mono ?_; rintro e w9 ⟨rfl, hb⟩
        have S9 := Lib.hid ((soa_box w8 X0 X1 X2 X3 X4 X5 X6 26).below hb)
        have HB9 := Lib.hid ((HB8.out.alloc HB8.out.size _).trans (hb.mono (by have := HB8.out.size; simp; omega)))
        clear hb
        obtain ⟨Y0, Y1, Y2, Y3, hv2, hz3, hy⟩ := md_fact2 X
        have HX4 := Lib.hid hy
        clear hy
        obtain ⟨mb, hmb⟩ : ∃ mb, mayD 63 X = mb := ⟨_, rfl⟩
        rw [hmb] at hv2 HX4
        have HMB := Lib.hid hmb
        clear hmb
        rw [hv2]
        clear hv2
        obtain ⟨u0, u1, u2, u3, u4, u5, u6, u7⟩ := S9.out
        go_wp2_with fail
        clear u1 u2 u3 u4 u5 u6 u7
        refine (putSoa_any X0 X1 X2 X3 X4 X5 X6 _ (by omega) (by omega)).mono ?_; rintro e w10 ⟨rfl, hb⟩
        have D10 := Lib.hid ((md_box w9 Y0 Y1 Y2 Y3 33).below hb)
        have HB10 := Lib.hid ((HB9.out.alloc HB9.out.size _).trans (hb.mono (by have := HB9.out.size; simp; omega)))
        clear hb
        obtain ⟨o0, o1, o2, o3, o4⟩ := D10.out
        go_wp2_with fail
        clear o1 o2 o3 o4
        refine (putMd_any Y0 Y1 Y2 Y3 _ (by omega)).mono ?_; rintro e w11 ⟨rfl, hb⟩
        have HB11 := Lib.hid (HB10.out.trans (hb.mono HB10.out.size))
        clear hb
        go_wp2_with fail
        refine (rfirst _).mono ?_; rintro e w12 ⟨rfl, hb⟩
        have HB12 := Lib.hid (HB11.out.trans (hb.mono HB11.out.size))
        clear hb
        go_wp2_with fail
        refine (may_any _ _ _ (by omega)).mono ?_; rintro e w13 ⟨rfl, hb⟩
        have HB13 := Lib.hid (HB12.out.trans (hb.mono HB12.out.size))
        clear hb
        rw [mayD_6, HSB.out]
        go_wp2_with fail
        refine (may_any _ _ _ (by omega)).mono ?_; rintro e w14 ⟨rfl, hb⟩
        have HB14 := Lib.hid (HB13.out.trans (hb.mono HB13.out.size))
        clear hb
        rw [HMB.out]
        rcases HX3.out with rfl | ⟨rfl, k1, k2⟩
        · rcases HX4.out with rfl | ⟨rfl, k3, k4⟩
          · go_wp2
            go_ret
            exact ⟨rfl, HB14.out⟩
          · rw [k4]
            go_wp2
            go_ret
            exact ⟨rfl, HB14.out⟩
        · rw [k2]
          rcases HX4.out with rfl | ⟨rfl, k3, k4⟩
          · go_wp2
            go_ret
            exact ⟨rfl, HB14.out⟩
          · rw [k4]
            go_wp2
            go_ret
            exact ⟨rfl, HB14.out⟩
  · have hd : decide ((1200 : Int) < (M.size : Int)) = true ∨ decide ((1200 : Int) < (M.size : Int)) = false ∧ (decide ((1200 : Int) < (R.size : Int)) = true ∨ decide ((1200 : Int) < (R.size : Int)) = false ∧ (decide ((1200 : Int) < (D.size : Int)) = true ∨ decide ((1200 : Int) < (D.size : Int)) = false ∧ (decide ((500 : Int) < (lq : Int)) = true ∨ decide ((500 : Int) < (lq : Int)) = false ∧ (decide ((30 : Int) < (lp : Int)) = true ∨ decide ((30 : Int) < (lp : Int)) = false ∧ decide ((1200 : Int) < (X.size : Int)) = true)))) := by
      simp only [decide_eq_true_eq, decide_eq_false_iff_not]; omega
    clear hz h hB hsz
    rcases hd with d1 | ⟨d1, d2 | ⟨d2, d3 | ⟨d3, d4 | ⟨d4, d5 | ⟨d5, d6⟩⟩⟩⟩⟩
    all_goals
      go_enter Try.func5, Try.ntmps5
      go_wp2_with fail
      refine (rfirst _).mono ?_; rintro e w1 ⟨rfl, hb⟩
      have hS := two_boxes w M R a b c d f x y z D 26 33
      have S1 := Lib.hid (hS.1.below hb)
      have D1 := Lib.hid (hS.2.below hb)
      have HB1 := Lib.hid ((((Below.refl w.heap.size w).alloc (Nat.le_refl _) _).alloc (by simp) _).trans (hb.mono (by simp; omega)))
      clear hb hS
      obtain ⟨s0, s1, s2, _⟩ := S1.out
      obtain ⟨m0, _, _, _, m4⟩ := D1.out
      go_wp2_with fail
      refine (rfirst _).mono ?_; rintro e w2 ⟨rfl, hb⟩
      have HB2 := Lib.hid (HB1.out.trans (hb.mono HB1.out.size)); clear hb
      go_wp2
      go_ret
      exact ⟨rfl, HB2.out⟩
end Go.Proofs.Ytgdbbdbfaglkdaa
