/- WireBack: the walk. -/
import Derived.Test.YtkoafkajmfodkaaRtD
namespace Go.Proofs.Ytkoafkajmfodkaa
open Go.RowKit

theorem decode_z (l : List UInt8) (a : Option Addr) (n cp : Nat) (w : World) (hr : RowB w a n l) (hn : a = none → n = 0 ∧ cp = 0) (hb : n ≤ 20000) :
    Calls Try.prog 32 #[.slice a n cp] w fun en w' => ∃ (v : Value) (er : Int), en = .returned (.tuple #[v, .int .i64 er]) ∧ MsgOwn w' w.heap.size v (toP (decM (bs l))) ∧ SzMD (decM (bs l)) ∧ (er == 0) = (decP (bs l)).isSome ∧ Below w.heap.size w w' := by
  refine (decode_x l a n cp w hr hn hb).mono ?_
  rintro en w' ⟨qv, av, nv, xv, er, rfl, h1, h2, h3, h4⟩
  exact ⟨_, er, rfl, msgOwn_of h1, h2, h3, h4⟩
theorem decM_some {s : ByteArray} (h : (decP s).isSome = true) : decP s = some (decM s) := by
  cases hd : decP s with
  | none => rw [hd] at h; cases h
  | some M => rw [decM, hd]; rfl

set_option maxRecDepth 100000 in
set_option maxHeartbeats 32000000 in
theorem walkBack5 (va : Value) (ma : MsgP) (ab : Option Addr) (nb cb : Nat) (l : List UInt8) (cut : Int) (w : World) (hma : MsgAt w va ma) (hza : SzM ma) (hr : RowB w ab nb l) (hn : ab = none → nb = 0 ∧ cb = 0) :
    Calls Try.prog 6 #[va, .slice ab nb cb, .int .i64 cut] w fun e w' => e = .returned (.bool true) ∧ Below w.heap.size w w' := by
  obtain ⟨mi, mo, mr, b1, b2, b3, b4, b5, Q, A, N, X⟩ := ma
  have HMA := Lib.hid hma
  obtain ⟨qa, ql, qc, na, nl, nc, sa, sl, sc, xa, xl, xc, rfl, hp⟩ := hma.parts
  have H1 := Lib.hid hp
  clear hp
  replace HMA := Lib.hid H1.out
  have hbw := (Below.refl w.heap.size w).alloc (Nat.le_refl _) (.cells #[.int .i64 mi, .int .i64 mo, .int .i64 mr, .bool b1, .bool b2, .bool b3, .bool b4, .bool b5, .slice qa ql qc, .slice na nl nc, .slice sa sl sc, .slice xa xl xc] 27)
  have HCA := Lib.hid (CN.new w #[.int .i64 mi, .int .i64 mo, .int .i64 mr, .bool b1, .bool b2, .bool b3, .bool b4, .bool b5, .slice qa ql qc, .slice na nl nc, .slice sa sl sc, .slice xa xl xc] 27)
  have HB := Lib.hid hbw
  have HR0 := Lib.hid hr
  have HN0 := Lib.hid hn
  have HZA := Lib.hid hza
  replace H1 := Lib.hid (H1.out.below hbw)
  obtain ⟨w1, hw1⟩ : ∃ x, w.alloc (.cells #[.int .i64 mi, .int .i64 mo, .int .i64 mr, .bool b1, .bool b2, .bool b3, .bool b4, .bool b5, .slice qa ql qc, .slice na nl nc, .slice sa sl sc, .slice xa xl xc] 27) = x := ⟨_, rfl⟩
  obtain ⟨q5, hq5⟩ : ∃ x, w.heap.size = x := ⟨_, rfl⟩
  rw [hw1] at HCA HB H1
  rw [hq5] at HCA
  have HW1 := Lib.hid hw1
  have HQ5 := Lib.hid hq5
  clear hma hza hr hn hbw hw1 hq5 HMA
  go_enter Try.func6, Try.ntmps6
  go_wp2_with fail
  rw [HW1.out, HQ5.out]
  clear HW1 HQ5
  refine (first5 _).mono ?_; rintro e w2 ⟨rfl, hb⟩
  replace H1 := Lib.hid (H1.out.below hb)
  replace HB := Lib.hid (HB.out.trans (hb.mono HB.out.size))
  replace HCA := Lib.hid (HCA.out.below hb)
  clear hb
  obtain ⟨y0, y1, y2, y3, y4, y5, y6, y7, y8, y9, y10, y11, _⟩ := HCA.out.u12
  go_wp2_with fail
  refine (few5_any _ (⟨mi, mo, mr, b1, b2, b3, b4, b5, Q, A, N, X⟩ : MsgP) _ H1.out HZA.out).mono ?_; rintro e w3 ⟨he, hb⟩
  clear y0 y1 y2 y3 y4 y5 y6 y7 y8 y9 y10 y11
  replace H1 := Lib.hid (H1.out.below hb)
  replace HB := Lib.hid (HB.out.trans (hb.mono HB.out.size))
  replace HCA := Lib.hid (HCA.out.below hb)
  clear hb
  rcases he with rfl | ⟨rfl, hsa⟩
  · go_wp2_with fail
    refine (first5 _).mono ?_; rintro e w4 ⟨rfl, hb⟩
    replace H1 := Lib.hid (H1.out.below hb)
    replace HB := Lib.hid (HB.out.trans (hb.mono HB.out.size))
    replace HCA := Lib.hid (HCA.out.below hb)
    clear hb
    go_wp2
    go_ret
    exact ⟨rfl, HB.out⟩
  have HMO := Lib.hid (mok_small hsa)
  clear hsa HZA
  by_cases g1 : 16100 < nb
  · have d1 := dT (p := (16100 : Int) < (nb : Int)) (by omega)
    clear g1
    go_wp2_with fail
    refine (first5 _).mono ?_; rintro e w4 ⟨rfl, hb⟩
    replace H1 := Lib.hid (H1.out.below hb)
    replace HB := Lib.hid (HB.out.trans (hb.mono HB.out.size))
    replace HCA := Lib.hid (HCA.out.below hb)
    clear hb
    go_wp2
    go_ret
    exact ⟨rfl, HB.out⟩
  have d1 := dF (p := (16100 : Int) < (nb : Int)) (by omega)
  have HL := Lib.hid (show nb ≤ 20000 by omega)
  clear g1
  by_cases g2 : cut < 0
  · have d2 := dT (p := cut < (0 : Int)) g2
    clear g2
    go_wp2_with fail
    refine (first5 _).mono ?_; rintro e w4 ⟨rfl, hb⟩
    replace H1 := Lib.hid (H1.out.below hb)
    replace HB := Lib.hid (HB.out.trans (hb.mono HB.out.size))
    replace HCA := Lib.hid (HCA.out.below hb)
    clear hb
    go_wp2
    go_ret
    exact ⟨rfl, HB.out⟩
  have d2 := dF (p := cut < (0 : Int)) g2
  obtain ⟨cN, rfl⟩ : ∃ x : Nat, cut = (x : Int) := ⟨cut.toNat, by omega⟩
  clear g2
  obtain ⟨y0, y1, y2, y3, y4, y5, y6, y7, y8, y9, y10, y11, _⟩ := HCA.out.u12
  obtain ⟨EE, hEE⟩ : ∃ x, encE2 (⟨mi, mo, mr, b1, b2, b3, b4, b5, Q, A, N, X⟩ : MsgP) 16000 = x := ⟨_, rfl⟩
  obtain ⟨LL, hLL⟩ : ∃ x, encL2 (⟨mi, mo, mr, b1, b2, b3, b4, b5, Q, A, N, X⟩ : MsgP) 16000 = x := ⟨_, rfl⟩
  have HEE := Lib.hid hEE
  have HLL := Lib.hid hLL
  clear hEE hLL
  go_wp2_with fail
  refine (enc_y _ (⟨mi, mo, mr, b1, b2, b3, b4, b5, Q, A, N, X⟩ : MsgP) 16000 _ H1.out HMO.out).mono ?_; rintro e w4 ⟨v7, rfl, ho, hb⟩
  clear y0 y1 y2 y3 y4 y5 y6 y7 y8 y9 y10 y11
  replace H1 := Lib.hid (H1.out.below hb)
  replace HB := Lib.hid (HB.out.trans (hb.mono HB.out.size))
  replace HCA := Lib.hid (HCA.out.below hb)
  clear hb
  rw [HLL.out] at ho
  rw [HEE.out]
  obtain ⟨n7, hn7⟩ : ∃ x, LL.length = x := ⟨_, rfl⟩
  rw [hn7] at ho
  have HN7 := Lib.hid hn7
  obtain ⟨a7, c7, rfl, -⟩ := cellsK_own ho
  have HV7 := Lib.hid ho
  clear ho hn7
  go_upto_if 44 with (fail)
  go_cut [] (fun wx => Hid (Below w.heap.size w wx))
  case first =>
    by_cases eE : EE = 0
    rotate_left
    · have e0 := eF eE
      clear eE
      go_wp2
      go_meet
      exact HB
    have e0 := eT eE
    obtain ⟨hm, hl, hz1, hz2⟩ := enc_ok (HEE.out.trans eE)
    have hdd := enc_dec (HEE.out.trans eE)
    have HX := Lib.hid (show encY2 (⟨mi, mo, mr, b1, b2, b3, b4, b5, Q, A, N, X⟩ : MsgP) = LL from hl.symm.trans HLL.out)
    rw [HX.out] at hz1 hz2 hdd
    rw [HN7.out] at hz1 hz2
    have HMAY := Lib.hid hm
    have HZ := Lib.hid (show 12 ≤ n7 ∧ n7 ≤ 16000 from ⟨hz1, hz2⟩)
    have HDD := Lib.hid hdd
    subst eE
    clear hm hl hz1 hz2 hdd
    go_wp2_with fail
    refine (decode_ok LL (⟨mi, mo, mr, b1, b2, b3, b4, b5, Q, A, N, X⟩ : MsgP) a7 n7 c7 _ (rowB_own HV7.out).1 (rowB_own HV7.out).2 (by have := HZ.out; omega) HDD.out).mono ?_; rintro e w5 ⟨v9, rfl, ho, -, hb⟩
    replace H1 := Lib.hid (H1.out.below hb)
    replace HB := Lib.hid (HB.out.trans (hb.mono HB.out.size))
    replace HCA := Lib.hid (HCA.out.below hb)
    replace HV7 := Lib.hid (own_below' HV7.out hb)
    clear hb
    obtain ⟨qa9, ql9, qc9, na9, nl9, nc9, sa9, sl9, sc9, xa9, xl9, xc9, rfl, hp⟩ := ho.at.parts
    have H9 := Lib.hid hp
    clear hp
    clear ho
    have hba := (Below.refl _ _ : Below w5.heap.size w5 w5).alloc (Nat.le_refl _) (.cells #[.int .i64 mi, .int .i64 mo, .int .i64 mr, .bool b1, .bool b2, .bool b3, .bool b4, .bool b5, .slice qa9 ql9 qc9, .slice na9 nl9 nc9, .slice sa9 sl9 sc9, .slice xa9 xl9 xc9] 27)
    have HC9 := Lib.hid (CN.new w5 #[.int .i64 mi, .int .i64 mo, .int .i64 mr, .bool b1, .bool b2, .bool b3, .bool b4, .bool b5, .slice qa9 ql9 qc9, .slice na9 nl9 nc9, .slice sa9 sl9 sc9, .slice xa9 xl9 xc9] 27)
    replace H1 := Lib.hid (H1.out.below hba)
    replace HB := Lib.hid (HB.out.trans (hba.mono HB.out.size))
    replace HCA := Lib.hid (HCA.out.below hba)
    replace HV7 := Lib.hid (own_below' HV7.out hba)
    replace H9 := Lib.hid (H9.out.below hba)
    obtain ⟨w6, hw⟩ : ∃ x, w5.alloc (.cells #[.int .i64 mi, .int .i64 mo, .int .i64 mr, .bool b1, .bool b2, .bool b3, .bool b4, .bool b5, .slice qa9 ql9 qc9, .slice na9 nl9 nc9, .slice sa9 sl9 sc9, .slice xa9 xl9 xc9] 27) = x := ⟨_, rfl⟩
    obtain ⟨q6, hq⟩ : ∃ x, w5.heap.size = x := ⟨_, rfl⟩
    rw [hw, hq] at HC9
    rw [hw] at H1 HB HCA HV7 H9
    have HW := Lib.hid hw
    have HQ_ := Lib.hid hq
    clear hba hw hq
    go_upto_region 8 with (fail)
    rw [HW.out, HQ_.out]
    clear HW HQ_
    have d3 := dF (p := (n7 : Int) < (12 : Int)) (by have := HZ.out; omega)
    obtain ⟨y0, y1, y2, y3, y4, y5, y6, y7, y8, y9, y10, y11, _⟩ := HC9.out.u12
    obtain ⟨z0, z1, z2, z3, z4, z5, z6, z7, z8, z9, z10, z11, _⟩ := HCA.out.u12
    go_wp2_with fail
    refine (same_y _ _ (⟨mi, mo, mr, b1, b2, b3, b4, b5, Q, A, N, X⟩ : MsgP) _ H9.out H1.out (mok_sm HMO.out)).mono ?_; rintro e w7 ⟨rfl, hb⟩
    clear y0 y1 y2 y3 y4 y5 y6 y7 y8 y9 y10 y11 z0 z1 z2 z3 z4 z5 z6 z7 z8 z9 z10 z11
    replace H1 := Lib.hid (H1.out.below hb)
    replace HB := Lib.hid (HB.out.trans (hb.mono HB.out.size))
    replace HCA := Lib.hid (HCA.out.below hb)
    replace HV7 := Lib.hid (own_below' HV7.out hb)
    replace H9 := Lib.hid (H9.out.below hb)
    replace HC9 := Lib.hid (HC9.out.below hb)
    clear hb
    obtain ⟨z0, z1, z2, z3, z4, z5, z6, z7, z8, z9, z10, z11, _⟩ := HCA.out.u12
    go_wp2_with fail
    refine (may_y _ (⟨mi, mo, mr, b1, b2, b3, b4, b5, Q, A, N, X⟩ : MsgP) _ H1.out HMO.out).mono ?_; rintro e w8 ⟨rfl, hb⟩
    clear z0 z1 z2 z3 z4 z5 z6 z7 z8 z9 z10 z11
    replace H1 := Lib.hid (H1.out.below hb)
    replace HB := Lib.hid (HB.out.trans (hb.mono HB.out.size))
    replace HCA := Lib.hid (HCA.out.below hb)
    replace HV7 := Lib.hid (own_below' HV7.out hb)
    replace H9 := Lib.hid (H9.out.below hb)
    replace HC9 := Lib.hid (HC9.out.below hb)
    clear hb
    rw [HMAY.out]
    clear HC9 H9
    obtain ⟨r, hr⟩ : ∃ x, cN % n7 = x := ⟨_, rfl⟩
    have HRL := Lib.hid (show r < n7 by rw [← hr]; exact Nat.mod_lt _ (by have := HZ.out; omega))
    have h0 : ¬ ((n7 : Int) = 0) := by have := HZ.out; omega
    have hr1 : (cN : Int).tmod (n7 : Int) = (r : Int) := by rw [← hr]; exact (Int.ofNat_tmod cN n7).symm
    have hsh := slice_head a7 n7 c7 r (own_hav HV7.out) (by have := own_cap HV7.out; have := HRL.out; omega)
    go_wp2_with fail
    refine (decode_no (LL.take r) a7 r c7 _ (row_take (rowB_own HV7.out).1 (Nat.le_of_lt HRL.out)) (fun h => by have := (rowB_own HV7.out).2 h; have := HZ.out; omega) (by have := HRL.out; have := HZ.out; omega) (by rw [← HX.out]; exact enc_cut HMAY.out (by rw [HX.out, HN7.out]; exact HRL.out))).mono ?_; rintro e w9 ⟨er2, rfl, he2, hb⟩
    replace H1 := Lib.hid (H1.out.below hb)
    replace HB := Lib.hid (HB.out.trans (hb.mono HB.out.size))
    replace HCA := Lib.hid (HCA.out.below hb)
    replace HV7 := Lib.hid (own_below' HV7.out hb)
    clear hb
    have HE2 := Lib.hid he2
    clear he2 hr h0 hr1 hsh
    have hba := (Below.refl _ _ : Below w9.heap.size w9 w9).alloc (Nat.le_refl _) (.cells #[.int .i64 0, .int .i64 0, .int .i64 0, .bool false, .bool false, .bool false, .bool false, .bool false, .slice none 0 0, .slice none 0 0, .slice none 0 0, .slice none 0 0] 27)
    have HC11 := Lib.hid (CN.new w9 #[.int .i64 0, .int .i64 0, .int .i64 0, .bool false, .bool false, .bool false, .bool false, .bool false, .slice none 0 0, .slice none 0 0, .slice none 0 0, .slice none 0 0] 27)
    replace H1 := Lib.hid (H1.out.below hba)
    replace HB := Lib.hid (HB.out.trans (hba.mono HB.out.size))
    replace HCA := Lib.hid (HCA.out.below hba)
    replace HV7 := Lib.hid (own_below' HV7.out hba)
    obtain ⟨w10, hw⟩ : ∃ x, w9.alloc (.cells #[.int .i64 0, .int .i64 0, .int .i64 0, .bool false, .bool false, .bool false, .bool false, .bool false, .slice none 0 0, .slice none 0 0, .slice none 0 0, .slice none 0 0] 27) = x := ⟨_, rfl⟩
    obtain ⟨q10, hq⟩ : ∃ x, w9.heap.size = x := ⟨_, rfl⟩
    rw [hw, hq] at HC11
    rw [hw] at H1 HB HCA HV7
    have HW := Lib.hid hw
    have HQ_ := Lib.hid hq
    clear hba hw hq
    go_upto_region 11 with (fail)
    rw [HW.out, HQ_.out]
    clear HW HQ_
    clear HC11
    obtain ⟨i0, hi, hz0, hz1, hz2⟩ := info_parts infoU8
    have HI := Lib.hid hi
    have HI0 := Lib.hid hz0
    have HI1 := Lib.hid hz1
    have HI2 := Lib.hid hz2
    clear hi hz0 hz1 hz2
    go_wp2_with fail
    refine (copyBytes_any a7 n7 c7 LL _ (rowB_own HV7.out).1 (rowB_own HV7.out).2 (by have := HZ.out; omega)).mono ?_; rintro e wc1 ⟨v80, rfl, ho80, hb80⟩
    have HB81 := Lib.hid (hb80.alloc hb80.size (.cells #[.int .u8 0] 5))
    have HO81 := Lib.hid (own_below' ho80 ((Below.refl _ _ : Below wc1.heap.size wc1 wc1).alloc (Nat.le_refl _) (.cells #[.int .u8 0] 5)))
    have HE81 := Lib.hid (cells_lit wc1 #[.int .u8 0] 5)
    clear ho80 hb80
    go_wp2_with (at_builtin; refine append_cells rfl _ _ 35 5 rfl i0 (.int .u8 0) 1 Try.underlying35 HI.out HI0.out HI1.out HI2.out rfl w10.heap.size v80 n7 (bc LL) rfl HO81.out (some ⟨wc1.heap.size, 0, none⟩) 1 1 (bc [0]) rfl (fun h => by cases h) HE81.out (bc_oneCell [0]) (by have := HZ.out; omega) (by decide) HB81.out.size ?_)
    intro v82 wc2 hown hgrow
    have hb := HB81.out.grown hgrow HB81.out.size (fun k hk => (HO81.out.lt k hk).1)
    replace H1 := Lib.hid (H1.out.below hb)
    replace HB := Lib.hid (HB.out.trans (hb.mono HB.out.size))
    replace HCA := Lib.hid (HCA.out.below hb)
    replace HV7 := Lib.hid (own_below' HV7.out hb)
    rw [← bc_append] at hown
    obtain ⟨n8, hn8⟩ : ∃ x, n7 + 1 = x := ⟨_, rfl⟩
    rw [hn8] at hown
    have HN8 := Lib.hid hn8
    obtain ⟨a82, c82, rfl, -⟩ := cellsK_own hown
    have HV82 := Lib.hid hown
    clear hown hgrow hb hn8 HB81 HO81 HE81
    go_wp2_with fail
    refine (decode_no (LL ++ [0]) a82 n8 c82 _ (rowB_own HV82.out).1 (rowB_own HV82.out).2 (by have := HN8.out; have := HZ.out; omega) (by rw [← HX.out]; exact enc_more HMAY.out)).mono ?_; rintro e w11 ⟨er3, rfl, he3, hb⟩
    replace H1 := Lib.hid (H1.out.below hb)
    replace HB := Lib.hid (HB.out.trans (hb.mono HB.out.size))
    replace HCA := Lib.hid (HCA.out.below hb)
    replace HV7 := Lib.hid (own_below' HV7.out hb)
    replace HV82 := Lib.hid (own_below' HV82.out hb)
    clear hb
    have HE3 := Lib.hid he3
    clear he3
    clear HV82
    have hba := (Below.refl _ _ : Below w11.heap.size w11 w11).alloc (Nat.le_refl _) (.cells #[.int .i64 0, .int .i64 0, .int .i64 0, .bool false, .bool false, .bool false, .bool false, .bool false, .slice none 0 0, .slice none 0 0, .slice none 0 0, .slice none 0 0] 27)
    have HC13 := Lib.hid (CN.new w11 #[.int .i64 0, .int .i64 0, .int .i64 0, .bool false, .bool false, .bool false, .bool false, .bool false, .slice none 0 0, .slice none 0 0, .slice none 0 0, .slice none 0 0] 27)
    replace H1 := Lib.hid (H1.out.below hba)
    replace HB := Lib.hid (HB.out.trans (hba.mono HB.out.size))
    replace HCA := Lib.hid (HCA.out.below hba)
    replace HV7 := Lib.hid (own_below' HV7.out hba)
    obtain ⟨w12, hw⟩ : ∃ x, w11.alloc (.cells #[.int .i64 0, .int .i64 0, .int .i64 0, .bool false, .bool false, .bool false, .bool false, .bool false, .slice none 0 0, .slice none 0 0, .slice none 0 0, .slice none 0 0] 27) = x := ⟨_, rfl⟩
    obtain ⟨q12, hq⟩ : ∃ x, w11.heap.size = x := ⟨_, rfl⟩
    rw [hw, hq] at HC13
    rw [hw] at H1 HB HCA HV7
    have HW := Lib.hid hw
    have HQ_ := Lib.hid hq
    clear hba hw hq
    go_upto_region 12 with (fail)
    rw [HW.out, HQ_.out]
    clear HW HQ_
    clear HC13
    obtain ⟨n6, hn6⟩ : ∃ x, n7 = x + 1 := ⟨n7 - 1, by have := HZ.out; omega⟩
    have hs6 : (n7 : Int) - 1 = (n6 : Int) := by omega
    have hw6 : IntKind.i64.wrap (n6 : Int) = (n6 : Int) := by have := HZ.out; rw [IntKind.wrap_i64]; omega
    have hE6 : encE2 (⟨mi, mo, mr, b1, b2, b3, b4, b5, Q, A, N, X⟩ : MsgP) (n6 : Int) = 3 := by have := enc_less HMAY.out; rw [HX.out, HN7.out, hs6] at this; exact this
    have HE6 := Lib.hid hE6
    clear hn6 hE6
    obtain ⟨y0, y1, y2, y3, y4, y5, y6, y7, y8, y9, y10, y11, _⟩ := HCA.out.u12
    go_wp2_with fail
    refine (enc_y _ (⟨mi, mo, mr, b1, b2, b3, b4, b5, Q, A, N, X⟩ : MsgP) (n6 : Int) _ H1.out HMO.out).mono ?_; rintro e w13 ⟨v15, rfl, -, hb⟩
    clear y0 y1 y2 y3 y4 y5 y6 y7 y8 y9 y10 y11
    replace H1 := Lib.hid (H1.out.below hb)
    replace HB := Lib.hid (HB.out.trans (hb.mono HB.out.size))
    replace HCA := Lib.hid (HCA.out.below hb)
    replace HV7 := Lib.hid (own_below' HV7.out hb)
    clear hb
    rw [HE6.out]
    have e2 := eF HE2.out
    have e3 := eF HE3.out
    clear hs6 hw6
    go_wp2
    go_meet
    exact HB
  case rest =>
    clear HB H1 HV7 HCA HEE HLL HN7 HMO
    have HB := hcut
    obtain ⟨wr, hwr⟩ : ∃ x, wc = x := ⟨_, rfl⟩
    rw [hwr] at HB ⊢
    clear hwr
    have HRB := Lib.hid (HR0.out.below HB.out)
    obtain ⟨⟨mik, mok, mrk, b1k, b2k, b3k, b4k, b5k, Qk, Ak, Nk, Xk⟩, hm⟩ : ∃ x, toP (decM (bs l)) = x := ⟨_, rfl⟩
    have HM := Lib.hid hm
    obtain ⟨kk, hk⟩ : ∃ x, (decP (bs l)).isSome = x := ⟨_, rfl⟩
    have HK := Lib.hid hk
    clear hm hk
    go_wp2_with fail
    refine (decode_z l ab nb cb _ HRB.out HN0.out HL.out).mono ?_; rintro e w41 ⟨v, er, rfl, ho, hsz, he, hb⟩
    replace HB := Lib.hid (HB.out.trans (hb.mono HB.out.size))
    replace HRB := Lib.hid (HRB.out.below hb)
    clear hb
    rw [HM.out] at ho
    rw [HK.out] at he
    have HSZ := Lib.hid hsz
    have HER := Lib.hid he
    clear hsz he
    obtain ⟨qa4, ql4, qc4, na4, nl4, nc4, sa4, sl4, sc4, xa4, xl4, xc4, rfl, hp⟩ := ho.at.parts
    have H4 := Lib.hid hp
    clear hp
    clear ho
    have hba := (Below.refl _ _ : Below w41.heap.size w41 w41).alloc (Nat.le_refl _) (.cells #[.int .i64 mik, .int .i64 mok, .int .i64 mrk, .bool b1k, .bool b2k, .bool b3k, .bool b4k, .bool b5k, .slice qa4 ql4 qc4, .slice na4 nl4 nc4, .slice sa4 sl4 sc4, .slice xa4 xl4 xc4] 27)
    have HCN := Lib.hid (CN.new w41 #[.int .i64 mik, .int .i64 mok, .int .i64 mrk, .bool b1k, .bool b2k, .bool b3k, .bool b4k, .bool b5k, .slice qa4 ql4 qc4, .slice na4 nl4 nc4, .slice sa4 sl4 sc4, .slice xa4 xl4 xc4] 27)
    replace HB := Lib.hid (HB.out.trans (hba.mono HB.out.size))
    replace HRB := Lib.hid (HRB.out.below hba)
    replace H4 := Lib.hid (H4.out.below hba)
    obtain ⟨w42, hw⟩ : ∃ x, w41.alloc (.cells #[.int .i64 mik, .int .i64 mok, .int .i64 mrk, .bool b1k, .bool b2k, .bool b3k, .bool b4k, .bool b5k, .slice qa4 ql4 qc4, .slice na4 nl4 nc4, .slice sa4 sl4 sc4, .slice xa4 xl4 xc4] 27) = x := ⟨_, rfl⟩
    obtain ⟨q42, hq⟩ : ∃ x, w41.heap.size = x := ⟨_, rfl⟩
    rw [hw, hq] at HCN
    rw [hw] at HB HRB H4
    have HW := Lib.hid hw
    have HQ_ := Lib.hid hq
    clear hba hw hq
    go_upto_region 16 with (fail)
    rw [HW.out, HQ_.out]
    clear HW HQ_
    by_cases e18 : er = 0
    rotate_left
    · have n18 := nT e18
      clear e18
      go_wp2_with fail
      refine (first5 _).mono ?_; rintro e w43 ⟨rfl, hb⟩
      replace HB := Lib.hid (HB.out.trans (hb.mono HB.out.size))
      replace HRB := Lib.hid (HRB.out.below hb)
      replace H4 := Lib.hid (H4.out.below hb)
      replace HCN := Lib.hid (HCN.out.below hb)
      clear hb
      go_wp2
      go_ret
      exact ⟨rfl, HB.out⟩
    have n18 := nF e18
    subst e18
    have HDM := Lib.hid (decM_some (s := bs l) (HK.out.trans (HER.out.symm.trans rfl)))
    have HMAY := Lib.hid (show mayP (⟨mik, mok, mrk, b1k, b2k, b3k, b4k, b5k, Qk, Ak, Nk, Xk⟩ : MsgP) = true by rw [← HM.out]; exact dec_may HDM.out)
    have HMO := Lib.hid (show Mok (⟨mik, mok, mrk, b1k, b2k, b3k, b4k, b5k, Qk, Ak, Nk, Xk⟩ : MsgP) by have := mok_may HSZ.out (by rw [HM.out]; exact HMAY.out); rw [HM.out] at this; exact this)
    obtain ⟨EE, hEE⟩ : ∃ x, encE2 (⟨mik, mok, mrk, b1k, b2k, b3k, b4k, b5k, Qk, Ak, Nk, Xk⟩ : MsgP) 16000 = x := ⟨_, rfl⟩
    obtain ⟨LL, hLL⟩ : ∃ x, encL2 (⟨mik, mok, mrk, b1k, b2k, b3k, b4k, b5k, Qk, Ak, Nk, Xk⟩ : MsgP) 16000 = x := ⟨_, rfl⟩
    have HEE := Lib.hid hEE
    have HLL := Lib.hid hLL
    clear hEE hLL
    obtain ⟨y0, y1, y2, y3, y4, y5, y6, y7, y8, y9, y10, y11, _⟩ := HCN.out.u12
    go_wp2_with fail
    refine (enc_y _ (⟨mik, mok, mrk, b1k, b2k, b3k, b4k, b5k, Qk, Ak, Nk, Xk⟩ : MsgP) 16000 _ H4.out HMO.out).mono ?_; rintro e w43 ⟨v19, rfl, ho, hb⟩
    clear y0 y1 y2 y3 y4 y5 y6 y7 y8 y9 y10 y11
    replace HB := Lib.hid (HB.out.trans (hb.mono HB.out.size))
    replace HRB := Lib.hid (HRB.out.below hb)
    replace H4 := Lib.hid (H4.out.below hb)
    replace HCN := Lib.hid (HCN.out.below hb)
    clear hb
    clear n18
    rw [HLL.out] at ho
    rw [HEE.out]
    obtain ⟨n9, hn9⟩ : ∃ x, LL.length = x := ⟨_, rfl⟩
    rw [hn9] at ho
    have HN9 := Lib.hid hn9
    obtain ⟨a19, c19, rfl, -⟩ := cellsK_own ho
    have HV9 := Lib.hid ho
    clear ho hn9
    by_cases eE : EE = 0
    rotate_left
    · have n19 := nT eE
      have hE3 := enc_err (m := (⟨mik, mok, mrk, b1k, b2k, b3k, b4k, b5k, Qk, Ak, Nk, Xk⟩ : MsgP)) (by rw [HEE.out]; exact eE) HMAY.out
      rw [HEE.out] at hE3
      subst hE3
      clear eE
      go_wp2_with fail
      refine (first5 _).mono ?_; rintro e w44 ⟨rfl, hb⟩
      replace HB := Lib.hid (HB.out.trans (hb.mono HB.out.size))
      replace HRB := Lib.hid (HRB.out.below hb)
      replace H4 := Lib.hid (H4.out.below hb)
      replace HCN := Lib.hid (HCN.out.below hb)
      replace HV9 := Lib.hid (own_below' HV9.out hb)
      clear hb
      obtain ⟨y0, y1, y2, y3, y4, y5, y6, y7, y8, y9, y10, y11, _⟩ := HCN.out.u12
      go_wp2_with fail
      refine (may_y _ (⟨mik, mok, mrk, b1k, b2k, b3k, b4k, b5k, Qk, Ak, Nk, Xk⟩ : MsgP) _ H4.out HMO.out).mono ?_; rintro e w45 ⟨rfl, hb⟩
      clear y0 y1 y2 y3 y4 y5 y6 y7 y8 y9 y10 y11
      replace HB := Lib.hid (HB.out.trans (hb.mono HB.out.size))
      replace HRB := Lib.hid (HRB.out.below hb)
      replace H4 := Lib.hid (H4.out.below hb)
      replace HCN := Lib.hid (HCN.out.below hb)
      replace HV9 := Lib.hid (own_below' HV9.out hb)
      clear hb
      rw [HMAY.out]
      go_wp2
      go_ret
      exact ⟨rfl, HB.out⟩
    have n19 := nF eE
    obtain ⟨hm, hl, hz1, hz2⟩ := enc_ok (HEE.out.trans eE)
    have hdd := enc_dec (HEE.out.trans eE)
    have HX := Lib.hid (show encY2 (⟨mik, mok, mrk, b1k, b2k, b3k, b4k, b5k, Qk, Ak, Nk, Xk⟩ : MsgP) = LL from hl.symm.trans HLL.out)
    rw [HX.out] at hz1 hz2 hdd
    rw [HN9.out] at hz1 hz2
    have HZ := Lib.hid (show 12 ≤ n9 ∧ n9 ≤ 16000 from ⟨hz1, hz2⟩)
    have HDD := Lib.hid hdd
    subst eE
    clear hm hl hz1 hz2 hdd
    go_wp2_with fail
    refine (decode_ok LL (⟨mik, mok, mrk, b1k, b2k, b3k, b4k, b5k, Qk, Ak, Nk, Xk⟩ : MsgP) a19 n9 c19 _ (rowB_own HV9.out).1 (rowB_own HV9.out).2 (by have := HZ.out; omega) HDD.out).mono ?_; rintro e w44 ⟨v21, rfl, ho, -, hb⟩
    replace HB := Lib.hid (HB.out.trans (hb.mono HB.out.size))
    replace HRB := Lib.hid (HRB.out.below hb)
    replace H4 := Lib.hid (H4.out.below hb)
    replace HCN := Lib.hid (HCN.out.below hb)
    replace HV9 := Lib.hid (own_below' HV9.out hb)
    clear hb
    obtain ⟨qa5, ql5, qc5, na5, nl5, nc5, sa5, sl5, sc5, xa5, xl5, xc5, rfl, hp⟩ := ho.at.parts
    have H5 := Lib.hid hp
    clear hp
    clear ho n19
    have hba := (Below.refl _ _ : Below w44.heap.size w44 w44).alloc (Nat.le_refl _) (.cells #[.int .i64 mik, .int .i64 mok, .int .i64 mrk, .bool b1k, .bool b2k, .bool b3k, .bool b4k, .bool b5k, .slice qa5 ql5 qc5, .slice na5 nl5 nc5, .slice sa5 sl5 sc5, .slice xa5 xl5 xc5] 27)
    have HC5 := Lib.hid (CN.new w44 #[.int .i64 mik, .int .i64 mok, .int .i64 mrk, .bool b1k, .bool b2k, .bool b3k, .bool b4k, .bool b5k, .slice qa5 ql5 qc5, .slice na5 nl5 nc5, .slice sa5 sl5 sc5, .slice xa5 xl5 xc5] 27)
    replace HB := Lib.hid (HB.out.trans (hba.mono HB.out.size))
    replace HRB := Lib.hid (HRB.out.below hba)
    replace H4 := Lib.hid (H4.out.below hba)
    replace HCN := Lib.hid (HCN.out.below hba)
    replace HV9 := Lib.hid (own_below' HV9.out hba)
    replace H5 := Lib.hid (H5.out.below hba)
    obtain ⟨w45, hw⟩ : ∃ x, w44.alloc (.cells #[.int .i64 mik, .int .i64 mok, .int .i64 mrk, .bool b1k, .bool b2k, .bool b3k, .bool b4k, .bool b5k, .slice qa5 ql5 qc5, .slice na5 nl5 nc5, .slice sa5 sl5 sc5, .slice xa5 xl5 xc5] 27) = x := ⟨_, rfl⟩
    obtain ⟨q45, hq⟩ : ∃ x, w44.heap.size = x := ⟨_, rfl⟩
    rw [hw, hq] at HC5
    rw [hw] at HB HRB H4 HCN HV9 H5
    have HW := Lib.hid hw
    have HQ_ := Lib.hid hq
    clear hba hw hq
    go_upto_region 22 with (fail)
    rw [HW.out, HQ_.out]
    clear HW HQ_
    go_wp2_with fail
    refine (first5 _).mono ?_; rintro e w46 ⟨rfl, hb⟩
    replace HB := Lib.hid (HB.out.trans (hb.mono HB.out.size))
    replace HRB := Lib.hid (HRB.out.below hb)
    replace H4 := Lib.hid (H4.out.below hb)
    replace HCN := Lib.hid (HCN.out.below hb)
    replace HV9 := Lib.hid (own_below' HV9.out hb)
    replace H5 := Lib.hid (H5.out.below hb)
    replace HC5 := Lib.hid (HC5.out.below hb)
    clear hb
    obtain ⟨y0, y1, y2, y3, y4, y5, y6, y7, y8, y9, y10, y11, _⟩ := HCN.out.u12
    go_wp2_with fail
    refine (may_y _ (⟨mik, mok, mrk, b1k, b2k, b3k, b4k, b5k, Qk, Ak, Nk, Xk⟩ : MsgP) _ H4.out HMO.out).mono ?_; rintro e w47 ⟨rfl, hb⟩
    clear y0 y1 y2 y3 y4 y5 y6 y7 y8 y9 y10 y11
    replace HB := Lib.hid (HB.out.trans (hb.mono HB.out.size))
    replace HRB := Lib.hid (HRB.out.below hb)
    replace H4 := Lib.hid (H4.out.below hb)
    replace HCN := Lib.hid (HCN.out.below hb)
    replace HV9 := Lib.hid (own_below' HV9.out hb)
    replace H5 := Lib.hid (H5.out.below hb)
    replace HC5 := Lib.hid (HC5.out.below hb)
    clear hb
    rw [HMAY.out]
    obtain ⟨y0, y1, y2, y3, y4, y5, y6, y7, y8, y9, y10, y11, _⟩ := HCN.out.u12
    obtain ⟨z0, z1, z2, z3, z4, z5, z6, z7, z8, z9, z10, z11, _⟩ := HC5.out.u12
    go_wp2_with fail
    refine (same_y _ _ (⟨mik, mok, mrk, b1k, b2k, b3k, b4k, b5k, Qk, Ak, Nk, Xk⟩ : MsgP) _ H5.out H4.out (mok_sm HMO.out)).mono ?_; rintro e w48 ⟨rfl, hb⟩
    clear y0 y1 y2 y3 y4 y5 y6 y7 y8 y9 y10 y11 z0 z1 z2 z3 z4 z5 z6 z7 z8 z9 z10 z11
    replace HB := Lib.hid (HB.out.trans (hb.mono HB.out.size))
    replace HRB := Lib.hid (HRB.out.below hb)
    replace H4 := Lib.hid (H4.out.below hb)
    replace HCN := Lib.hid (HCN.out.below hb)
    replace HV9 := Lib.hid (own_below' HV9.out hb)
    replace H5 := Lib.hid (H5.out.below hb)
    replace HC5 := Lib.hid (HC5.out.below hb)
    clear hb
    go_wp2
    go_ret
    exact ⟨rfl, HB.out⟩
end Go.Proofs.Ytkoafkajmfodkaa
