/- The walk of DiskParts (under way: clean up to region 9). -/
import Derived.Test.YtocfphijheidbaaMgU
import Derived.Test.YtocfphijheidbaaShL
import Derived.Test.YtocfphijheidbaaFrB
namespace Go.Proofs.Ytocfphijheidbaa
open Go.RowKit

theorem write_new (N : Nat) (k : Int) (b : List UInt8) : (writeP (newP N) k b).1.down = false ∧ (writeP (newP N) k b).1.n = N := by
  by_cases h : k < 0 ∨ ((newP N).n : Int) - (((b.length + 255) / 256 : Nat) : Int) < k
  · rw [writeP_no _ _ _ rfl h]
    exact ⟨rfl, rfl⟩
  · obtain ⟨K, rfl⟩ : ∃ K : Nat, k = (K : Int) := ⟨k.toNat, by omega⟩
    rw [writeP_calm (newP N) K b (by show (0 : Int) < 1; decide) rfl (by omega)]
    exact ⟨rfl, rfl⟩
set_option maxRecDepth 100000 in
set_option maxHeartbeats 8000000 in
theorem walkParts (n k cut : Int) (a : Option Addr) (bl c : Nat) (b : List UInt8) (w : World) (hv : ValC w (.slice a bl c) b) (hbl : (bl : Int) ≤ 9223372036854775807) (hk1 : -9223372036854775808 ≤ k) (hk2 : k ≤ 9223372036854775807) :
    Calls Try.prog 7 #[.int .i64 n, .int .i64 k, .slice a bl c, .int .i64 cut] w fun e w' => e = .returned (.bool true) ∧ Below w.heap.size w w' := by
  have HV := Lib.hid hv
  have HBL := Lib.hid hv.open.1
  clear hv
  go_enter Try.func7, Try.ntmps7
  go_wp2_with fail
  refine (first13 w).mono ?_; rintro e w1 ⟨rfl, hb1⟩
  have HV1 := Lib.hid (HV.out.below hb1)
  have HB1 := Lib.hid hb1
  clear hb1
  go_upto_region 3 with (fail)
  by_cases hbig : 60 < n ∨ 30000 < bl ∨ cut < 0 ∨ (bl : Int) < cut
  · have hd : (decide (60 < n) = true) ∨ (decide (60 < n) = false ∧ decide ((30000 : Int) < (bl : Int)) = true ∧ decide (30000 < bl) = true) ∨ (decide (60 < n) = false ∧ decide ((30000 : Int) < (bl : Int)) = false ∧ decide (30000 < bl) = false ∧ decide (cut < 0) = true) ∨ (decide (60 < n) = false ∧ decide ((30000 : Int) < (bl : Int)) = false ∧ decide (30000 < bl) = false ∧ decide (cut < 0) = false ∧ decide ((bl : Int) < cut) = true) := by
      simp only [decide_eq_true_eq, decide_eq_false_iff_not]
      omega
    clear hbig
    rcases hd with d1 | ⟨d1, d2, d3⟩ | ⟨d1, d2, d3, d4⟩ | ⟨d1, d2, d3, d4, d5⟩
    all_goals
      go_wp2_with fail
      refine (first13 w1).mono ?_; rintro e w2 ⟨rfl, hb2⟩
      have HBZ := Lib.hid (HB1.out.trans (hb2.mono HB1.out.size))
      clear hb2
      go_wp2
      go_ret
      exact ⟨rfl, HBZ.out⟩
  · have d1 : decide (60 < n) = false := dF (by omega)
    have d2 : decide ((30000 : Int) < (bl : Int)) = false := dF (by omega)
    have d3 : decide (30000 < bl) = false := dF (by omega)
    have d4 : decide (cut < 0) = false := dF (by omega)
    have d5 : decide ((bl : Int) < cut) = false := dF (by omega)
    obtain ⟨C, rfl⟩ : ∃ C : Nat, cut = (C : Int) := ⟨cut.toNat, by omega⟩
    have HLE := Lib.hid (show n ≤ 60 ∧ bl ≤ 30000 ∧ C ≤ bl by omega)
    have d6 : decide (bl < C) = false := dF (by omega)
    clear hbig
    go_upto_region 5 with (fail)
    clear d1 d2 d3 d4 d5 d6
    by_cases hn3 : n < 3
    · go_wp2_with fail
      refine (newD_no n w1 (Or.inl hn3)).mono ?_; rintro e w2 ⟨rfl, rfl⟩
      go_wp2_with fail
      refine (newD_no n w1 (Or.inl hn3)).mono ?_; rintro e w2 ⟨rfl, rfl⟩
      go_wp2_with fail
      refine (first13 w1).mono ?_; rintro e w2 ⟨rfl, hb2⟩
      have HBZ := Lib.hid (HB1.out.trans (hb2.mono HB1.out.size))
      clear hb2
      go_wp2
      go_ret
      exact ⟨rfl, HBZ.out⟩
    · obtain ⟨N, rfl⟩ : ∃ N : Nat, n = (N : Int) := ⟨n.toNat, by omega⟩
      have hN3 : 3 ≤ N := by omega
      have hN60 : N ≤ 60 := by have := HLE.out.1; omega
      clear hn3
      go_wp2_with fail
      refine (newD_yes N w1 hN3 (by omega)).mono ?_; rintro e w2 ⟨q1, bs1, rfl, hs1, hbs1, hb2⟩
      have HS2 := Lib.hid (show DkS w2 bs1 q1 (newP N) from hs1)
      have HB2 := Lib.hid (HB1.out.trans (hb2.mono HB1.out.size))
      have HV2 := Lib.hid (HV1.out.below hb2)
      have HBS := Lib.hid hbs1
      clear hs1 hbs1 hb2
      go_wp2_with fail
      refine (newD_yes N w2 hN3 (by omega)).mono ?_; rintro e w3 ⟨q2, bs2, rfl, hs2, hbs2, hb3⟩
      have HT3 := Lib.hid (show DkS w3 bs2 q2 (newP N) from hs2)
      have HS3 := Lib.hid (HS2.out.below hb3)
      have HB3 := Lib.hid (HB2.out.trans (hb3.mono HB2.out.size))
      have HV3 := Lib.hid (HV2.out.below hb3)
      have HAP := Lib.hid (show ∀ g ∈ bs2, g ∉ bs1 from fun g h1 h2 => by have h3 := hbs2 g h1; have h4 := HS2.out.lt g h2; omega)
      have HBT := Lib.hid hbs2
      clear hs2 hbs2 hb3
      have HTW3 := Lib.hid (show Two w w3 q1 q2 bs1 bs2 (newP N) (newP N) from ⟨HS3.out, HT3.out, fun g hg => Nat.le_trans HB1.out.size (HBS.out g hg), fun g hg => Nat.le_trans HB2.out.size (HBT.out g hg), HAP.out, HB3.out⟩)
      obtain ⟨hsl1, hvh⟩ := HV.out.head C HLE.out.2.2
      obtain ⟨ad, hsl2, hvr, -⟩ := HV.out.rest C HLE.out.2.2
      obtain ⟨m2, hm2⟩ : ∃ x, bl - C = x := ⟨_, rfl⟩
      obtain ⟨c2, hc2⟩ : ∃ x, c - C = x := ⟨_, rfl⟩
      rw [hm2, hc2] at hsl2 hvr
      have HVA := Lib.hid (fun wx (hb : Below w.heap.size w wx) => hvh wx (HV.out.below hb))
      have HVB := Lib.hid (fun wx (hb : Below w.heap.size w wx) => hvr wx (HV.out.below hb))
      clear hvh hvr hm2 hc2 HS2 HT3 HS3 HB2 HB3 HV2 HV3 HBS HBT HAP
      go_upto_region 9 with (fail)
      go_cut [13, 14] (fun x y wx => ∃ e1 e2 : List Nat, x = .int .i64 (writeP (newP N) k b).2 ∧ y = .int .i64 (writeP (newP N) k b).2 ∧ Hid (Two w wx q1 q2 e1 e2 (writeP (newP N) k b).1 (writeP (newP N) k b).1))
      case rest =>
        obtain ⟨e1, e2, rfl, rfl, HTE⟩ := hcut
        clear HTW3 HVA HVB hsl1 hsl2
        obtain ⟨hup, hsn⟩ := write_new N k b
        obtain ⟨S, hS⟩ : ∃ z, (writeP (newP N) k b).1 = z := ⟨_, rfl⟩
        obtain ⟨X, hX⟩ : ∃ z, (writeP (newP N) k b).2 = z := ⟨_, rfl⟩
        rw [hS] at HTE hup hsn
        rw [hX]
        have HSE := Lib.hid hS
        have HXE := Lib.hid hX
        have HUP := Lib.hid hup
        have HSN := Lib.hid hsn
        have nX : (X != X) = false := nF rfl
        clear hS hX hup hsn
        go_wp2_with fail
        refine (all_up q1 e1 S wc HTE.out.one HUP.out).mono ?_; rintro e w5 ⟨v5, rfl, ho5, hb5⟩
        obtain ⟨a5, c5, rfl, hr5, hn5⟩ := ho5.bb.row
        rw [secL_len, HSN.out] at hr5 hn5 ⊢
        have HR5 := Lib.hid hr5
        have HTE5 := Lib.hid (HTE.out.below hb5)
        clear ho5 hb5 hr5 hn5
        go_wp2_with fail
        refine (all_up q2 e2 S w5 HTE5.out.two HUP.out).mono ?_; rintro e w6 ⟨v6, rfl, ho6, hb6⟩
        obtain ⟨a6, c6, rfl, hr6, hn6⟩ := ho6.bb.row
        rw [secL_len, HSN.out] at hr6 hn6 ⊢
        have HR6 := Lib.hid hr6
        have HR56 := Lib.hid (HR5.out.below hb6)
        have HTE6 := Lib.hid (HTE5.out.below hb6)
        clear ho6 hb6 hr6 hn6
        go_wp2_with fail
        refine (lists_same a5 a6 N c5 c6 (secL S N) w6 HR56.out HR6.out (by omega)).mono ?_; rintro e w7 ⟨rfl, hb7⟩
        have HT7 := Lib.hid (HTE6.out.below hb7)
        clear hb7
        go_upto_region 12 with (fail)
        obtain ⟨cnt, hcnt⟩ : ∃ z, (bl + 255) / 256 = z := ⟨_, rfl⟩
        have hl3 := HLE.out.2.1
        have w1a : IntKind.i64.wrap ((bl : Int) + 256) = ((bl + 256 : Nat) : Int) := by rw [IntKind.wrap_i64]; omega
        have w1b : IntKind.i64.wrap (((bl + 256 : Nat) : Int) - 1) = ((bl + 255 : Nat) : Int) := by rw [IntKind.wrap_i64]; omega
        obtain ⟨L1, hL2⟩ : ∃ z, bl + 256 = z := ⟨_, rfl⟩
        obtain ⟨L2, hL3⟩ : ∃ z, bl + 255 = z := ⟨_, rfl⟩
        rw [hL2] at w1a w1b
        rw [hL3] at w1b hcnt
        have w1c : (L2 : Int).tdiv 256 = (cnt : Int) := by rw [Int.tdiv_eq_ediv_of_nonneg (by omega)]; omega
        have HCN := Lib.hid (show (b.length + 255) / 256 = cnt by rw [HBL.out, hL3, hcnt])
        have hcb : cnt ≤ 200 := by omega
        clear hL2 hL3 hcnt hl3
        go_upto_region 13 with (fail)
        clear w1a w1b w1c
        by_cases hno : k < 0 ∨ (N : Int) - (cnt : Int) < k
        · have HWN := Lib.hid (writeP_no (newP N) k b rfl (by rw [HCN.out]; exact hno))
          have hd : (decide (k < 0) = true) ∨ (decide (k < 0) = false ∧ decide ((N : Int) < k) = true) ∨ (decide (k < 0) = false ∧ decide ((N : Int) < k) = false ∧ ∃ z : Int, IntKind.i64.wrap ((N : Int) - k) = z ∧ decide (z < (cnt : Int)) = true) := by
            by_cases h1 : k < 0
            · exact Or.inl (dT h1)
            · by_cases h2 : (N : Int) < k
              · exact Or.inr (Or.inl ⟨dF h1, dT h2⟩)
              · exact Or.inr (Or.inr ⟨dF h1, dF h2, (N : Int) - k, by rw [IntKind.wrap_i64]; omega, dT (by omega)⟩)
          have HX1 := Lib.hid (show X = 1 by rw [← HXE.out, HWN.out])
          have HS1 := Lib.hid (show S = newP N by rw [← HSE.out, HWN.out])
          have xe : (X == 1) = true := by rw [HX1.out]; rfl
          clear hno
          rcases hd with d1 | ⟨d1, d2⟩ | ⟨d1, d2, z, d3, d4⟩
          all_goals
            go_wp2_with fail
            refine (first13 w7).mono ?_; rintro e w8 ⟨rfl, hb8⟩
            have HT8 := Lib.hid (HT7.out.below hb8)
            clear hb8
            go_wp2_with fail
            refine (writesN_any q1 e1 S w8 HT8.out.one).mono ?_; rintro e w9 ⟨rfl, rfl⟩
            rw [show S.wr = 0 by rw [HS1.out]; rfl]
            go_wp2_with fail
            refine (pending_any q1 e1 S w8 HT8.out.one).mono ?_; rintro e w9 ⟨rfl, rfl⟩
            rw [show S.P.length = 0 by rw [HS1.out]; rfl]
            go_wp2
            go_ret
            exact ⟨rfl, HT8.out.bel⟩
        · obtain ⟨K, rfl⟩ : ∃ K : Nat, k = (K : Int) := ⟨k.toNat, by omega⟩
          have hKN : K + cnt ≤ N := by omega
          have HWY := Lib.hid (writeP_calm (newP N) K b (by show (0 : Int) < 1; decide) rfl (by rw [HCN.out]; exact hKN))
          have d2 : decide ((N : Int) < (K : Int)) = false := dF (by omega)
          have d2n : decide (N < K) = false := dF (by omega)
          obtain ⟨R0, hR0⟩ : ∃ z : Nat, N - K = z := ⟨_, rfl⟩
          have d3 : IntKind.i64.wrap ((N : Int) - (K : Int)) = (R0 : Int) := by rw [IntKind.wrap_i64]; omega
          have d4 : decide ((R0 : Int) < (cnt : Int)) = false := dF (by omega)
          have d4n : decide (R0 < cnt) = false := dF (by omega)
          have HX0 := Lib.hid (show X = 0 by rw [← HXE.out, HWY.out])
          have HKN := Lib.hid hKN
          clear hno hR0
          go_wp2_with fail
          refine (all_up q1 e1 S w7 HT7.out.one HUP.out).mono ?_; rintro e w8 ⟨v8, rfl, ho8, hb8⟩
          obtain ⟨a8, c8, rfl, hr8, hn8⟩ := ho8.bb.row
          rw [secL_len, HSN.out] at hr8 hn8 ⊢
          have HR8 := Lib.hid hr8
          have HT8 := Lib.hid (HT7.out.below hb8)
          clear ho8 hb8 hr8 hn8 d2 d2n d3 d4 d4n
          have HWS := Lib.hid (show ∀ i, S.R i = wantS K cnt b i from fun i => by
            rw [← HSE.out, HWY.out, HCN.out]
            exact calm_at N K cnt b i)
          have HSW := Lib.hid (show S.wr = cnt from by rw [← HSE.out, HWY.out, HCN.out]; exact Nat.zero_add _)
          have HSP := Lib.hid (show S.P.length = cnt from by rw [← HSE.out, HWY.out, HCN.out]; show ([] ++ newsP K b cnt).length = cnt; rw [List.nil_append, newsP_len])
          clear HWY
          go_wp2_with fail
          go_loopw [17] (fun i wr => ∃ t : Nat, t ≤ N ∧ i = .int .i64 t ∧ Hid (Below w8.heap.size w8 wr)) (fun i _ => N - (intOf i).toNat)
          case atStart => exact ⟨0, Nat.zero_le _, rfl, Lib.hid (Below.refl _ _)⟩
          case round =>
            obtain ⟨t, ht, rfl, HB⟩ := hrel
            by_cases hlt : t < N
            · have dd : decide ((t : Int) < (N : Int)) = true := dT (by omega)
              have d0 : decide (t < N) = true := dT hlt
              have hmk : ∀ W, (Instr.makeSlice 25 (.int .i64 256) (.int .i64 256)).run Try.prog W = .ok (.slice (some ⟨W.heap.size, 0, none⟩) 256 256) (W.alloc (.cells (bc (zB 256)).toArray 5)) := fun W => make_run8 256 (by decide) W
              have hba := (Below.refl wr.heap.size wr).alloc (Nat.le_refl _) (.cells (bc (zB 256)).toArray 5)
              have HVr := (HV.out.below HT8.out.bel).below HB.out
              obtain ⟨gb, off, ai, ci, ea8, hgl, hcl, hrw, hrn⟩ := (HR8.out.below HB.out).at t hlt
              subst ea8
              obtain ⟨Y, hY⟩ : ∃ z, wantS K cnt b t = z := ⟨_, rfl⟩
              have hYl : Y.length = 256 := by rw [← hY]; unfold wantS; split; exact secP_len _ _; exact zB_len 256
              have hX : (secL S N).getD t [] = Y := by
                rw [← hY, ← HWS.out t]
                simp [secL, List.getD_eq_getElem?_getD, hlt]
              rw [hX, hYl] at hcl hrw hrn
              have HRN := Lib.hid hrn
              have HLT := Lib.hid hlt
              have hBL := HLE.out.2.1
              have hkc : IntKind.i64.wrap ((K : Int) + (cnt : Int)) = ((K + cnt : Nat) : Int) := by rw [IntKind.wrap_i64]; omega
              obtain ⟨KC, hKC⟩ : ∃ z, K + cnt = z := ⟨_, rfl⟩
              rw [hKC] at hkc
              clear hX hrn
              by_cases hin : K ≤ t ∧ t < KC
              · have HYS := Lib.hid (show secP b (t - K) = Y by rw [← hY, wantS, if_pos ⟨hin.1, by omega⟩])
                obtain ⟨D0, hD0⟩ : ∃ z, t - K = z := ⟨_, rfl⟩
                have i1 : decide ((K : Int) ≤ (t : Int)) = true := dT (by omega)
                have i2 : decide (K ≤ t) = true := dT hin.1
                have i3 : decide ((t : Int) < (KC : Int)) = true := dT (by omega)
                have i4 : decide (t < KC) = true := dT hin.2
                have w1a : IntKind.i64.wrap ((t : Int) - (K : Int)) = (D0 : Int) := by rw [IntKind.wrap_i64]; omega
                have w1b : IntKind.i64.wrap ((D0 : Int) * 256) = ((256 * D0 : Nat) : Int) := by rw [IntKind.wrap_i64]; omega
                have hEb : 256 * D0 ≤ bl := by have := HCN.out; have := HBL.out; omega
                obtain ⟨ad2, hsl, hvr, -⟩ := HVr.rest (256 * D0) hEb
                obtain ⟨hb1, hb2, hb3⟩ := box_sector wr ((b.drop (256 * D0)).take 256) (by rw [List.length_take]; exact Nat.min_le_left _ _) (bc (zB 256)).toArray rfl 5
                have hvr2 := hvr _ (HVr.below hba)
                obtain ⟨E, hE⟩ : ∃ z, 256 * D0 = z := ⟨_, rfl⟩
                obtain ⟨m3, hm3⟩ : ∃ z, bl - 256 * D0 = z := ⟨_, rfl⟩
                obtain ⟨c3, hc3⟩ : ∃ z, c - 256 * D0 = z := ⟨_, rfl⟩
                rw [hE] at w1b
                rw [hm3, hc3] at hsl hvr2
                rw [hE] at hsl
                have hml := hvr2.open.1
                obtain ⟨x, hx⟩ : ∃ z, (b.drop (256 * D0)).take 256 = z := ⟨_, rfl⟩
                rw [hx] at hb2 hb3
                have hxl : x.length = Nat.min m3 256 := by rw [← hx, List.length_take, hml]; exact Nat.min_comm _ _
                have hxs : x ++ List.replicate (256 - x.length) 0 = Y := by rw [← HYS.out, hD0, secP, hx]
                rw [hxs] at hb3
                have HCN2 := Lib.hid (show (bc x).length = Nat.min m3 256 by rw [bc_length, hxl])
                have HPOS := Lib.hid (show 0 < (bc x).length → (some ⟨wr.heap.size, 0, none⟩ : Option Addr) = some ⟨wr.heap.size, 0, none⟩ ∧ ∃ ad', ad2 = some ad' ∧ ∀ j v, (bc x)[j]? = some v → (wr.alloc (.cells (bc (zB 256)).toArray 5)).cell? (ad'.add j) = some v from fun h0 => by
                  refine ⟨rfl, ?_⟩
                  rcases hvr2.open.2.2.1.2 with h1 | ⟨b', o', rfl, _, hc⟩
                  · rw [bc_length, hxl, h1] at h0
                    simp at h0
                  · refine ⟨_, rfl, fun j v hv => ?_⟩
                    rw [Addr.add_mid]
                    refine hc j v ?_
                    rw [← hx, bc, List.getElem?_map, List.getElem?_take] at hv
                    split at hv
                    · rw [bc, List.getElem?_map]; exact hv
                    · simp at hv)
                have HC1 := Lib.hid (show ∀ j, j < (bc x).length → ((wr.alloc (.cells (bc (zB 256)).toArray 5)).cell? ⟨wr.heap.size, 0 + j, none⟩).isSome = true from fun j hj => (hb1 j (by rw [bc_length, hxl] at hj; exact Nat.lt_of_lt_of_le hj (Nat.min_le_right _ _))).1)
                have HC2 := Lib.hid (show ∀ j, j < (bc x).length → (wr.alloc (.cells (bc (zB 256)).toArray 5)).frozen? ⟨wr.heap.size, 0 + j, none⟩ = false from fun j hj => (hb1 j (by rw [bc_length, hxl] at hj; exact Nat.lt_of_lt_of_le hj (Nat.min_le_right _ _))).2)
                have HX1 := Lib.hid (bc_oneCell x)
                have HB2 := Lib.hid (HB.out.trans (hb2.mono HB.out.size))
                have HRW := Lib.hid (CellsAt.below hrw hb2)
                have hcl2 := cell_later hb2 hcl
                have hsz : wr.heap.size < ((wr.alloc (.cells (bc (zB 256)).toArray 5)).setCells wr.heap.size 0 (bc x)).heap.size := by rw [setCells_size, World.size_alloc]; omega
                have HYY := Lib.hid (show RowB ((wr.alloc (.cells (bc (zB 256)).toArray 5)).setCells wr.heap.size 0 (bc x)) (some ⟨wr.heap.size, 0, none⟩) 256 Y from ⟨by rw [bc_length, hYl], Or.inr ⟨_, _, rfl, hsz, hb3⟩⟩)
                obtain ⟨w2, hw2⟩ : ∃ z, (wr.alloc (.cells (bc (zB 256)).toArray 5)).setCells wr.heap.size 0 (bc x) = z := ⟨_, rfl⟩
                rw [hw2] at HB2 HRW hcl2 HYY
                have HW2 := Lib.hid hw2
                clear hw2 hsz hxs hxl hx hml hm3 hc3 hE hb1 hb2 hb3 hvr hvr2 hEb hD0 hcl hrw hba HVr hY hBL hin
                go_upto_region 21 with (fail)
                go_upto_region 22 with (refine wpList_copy_mid rfl (.tmp 147) (.tmp 153) 25 25 rfl 5 Try.underlying25 (by kernel_rfl) _ _ 256 256 m3 c3 rfl rfl wr.heap.size 0 (bc x) HCN2.out HPOS.out HC1.out HC2.out HX1.out ?_; rw [HW2.out])
                clear HW2 HX1 HC1 HC2 HPOS HCN2 hsl w1a w1b i1 i2 i3 i4 hkc hmk
                go_wp2_with fail
                refine (bytes_same ai (some ⟨wr.heap.size, 0, none⟩) 256 ci 256 Y _ HRW.out HYY.out HRN.out (fun e => by cases e)).mono ?_; rintro e w9 ⟨rfl, rfl⟩
                go_wp2
                go_roundw
                case rel => exact ⟨t + 1, HLT.out, by go_num, HB2⟩
                case measure =>
                  simp only [intOf]
                  have := HLT.out
                  omega
              · have HYS := Lib.hid (show zB 256 = Y by rw [← hY, wantS, if_neg (by omega)]; rfl)
                have hd : decide ((K : Int) ≤ (t : Int)) = false ∧ decide (K ≤ t) = false ∨ decide ((K : Int) ≤ (t : Int)) = true ∧ decide (K ≤ t) = true ∧ decide ((t : Int) < (KC : Int)) = false ∧ decide (t < KC) = false := by
                  simp only [decide_eq_true_eq, decide_eq_false_iff_not]
                  omega
                have HB2 := Lib.hid (HB.out.trans (hba.mono HB.out.size))
                have HRW := Lib.hid (CellsAt.below hrw hba)
                have hcl2 := cell_later hba hcl
                have HYY := Lib.hid (show RowB (wr.alloc (.cells (bc (zB 256)).toArray 5)) (some ⟨wr.heap.size, 0, none⟩) 256 Y from by
                  have h1 := cells_lit wr (bc (zB 256)).toArray 5
                  have h2 : (bc (zB 256)).toArray.size = 256 := by rw [List.size_toArray, bc_length, zB_len]
                  rw [h2] at h1
                  rw [← HYS.out]
                  exact h1)
                obtain ⟨w2, hw2⟩ : ∃ z, wr.alloc (.cells (bc (zB 256)).toArray 5) = z := ⟨_, rfl⟩
                rw [hw2] at HB2 HRW hcl2 HYY
                have HW2 := Lib.hid hw2
                clear hw2 hcl hrw hba HVr hY hBL hin
                rcases hd with ⟨i1, i2⟩ | ⟨i1, i2, i3, i4⟩
                all_goals
                  go_upto_region 20 with (fail)
                  rw [HW2.out]
                  clear hmk
                  go_wp2_with fail
                  refine (bytes_same ai (some ⟨wr.heap.size, 0, none⟩) 256 ci 256 Y _ HRW.out HYY.out HRN.out (fun e => by cases e)).mono ?_; rintro e w9 ⟨rfl, rfl⟩
                  go_wp2
                  go_roundw
                  case rel => exact ⟨t + 1, HLT.out, by go_num, HB2⟩
                  case measure =>
                    simp only [intOf]
                    have := HLT.out
                    omega
            · have dd : decide ((t : Int) < (N : Int)) = false := dF (by omega)
              have d0 : decide (t < N) = false := dF hlt
              have HT9 := Lib.hid (HT8.out.below HB.out)
              clear hlt
              go_wp2_with fail
              refine (first13 wr).mono ?_; rintro e w9 ⟨rfl, hb9⟩
              have HTa := Lib.hid (HT9.out.below hb9)
              clear hb9
              have xe : (X == 0) = true := by rw [HX0.out]; rfl
              have ce : (cnt == cnt) = true := by simp
              go_wp2_with fail
              refine (writesN_any q1 e1 S w9 HTa.out.one).mono ?_; rintro e wy ⟨rfl, rfl⟩
              rw [HSW.out]
              go_wp2_with fail
              refine (pending_any q1 e1 S w9 HTa.out.one).mono ?_; rintro e wy ⟨rfl, rfl⟩
              rw [HSP.out]
              go_wp2
              go_ret
              exact ⟨rfl, HTa.out.bel⟩
      -- REGION 9
      refine wp_region_held_drew (S := (fun _ => True)) (by kernel_rfl) (trivial) (fun hHeld => ?_)
      obtain ⟨wd, hwd⟩ : ∃ x, w3.drew = x := ⟨_, rfl⟩
      have HTW := Lib.hid (show Two w wd q1 q2 bs1 bs2 (newP N) (newP N) from by rw [← hwd]; exact HTW3.out.below (Below.refl _ _).drew)
      rw [hwd]
      clear hwd
      refine wpAnyH_take (i := 0) (oi := { dst := some 69, op := Go.Op.move (Go.Operand.tmp 9), type := 39, pos := "extra.go:22", after := #[], guard := none }) (v := ?v0_130101) rfl (by kernel_rfl) (by kernel_rfl) (by kernel_rfl) (fun _ _ _ h => h) (Or.inl ⟨by rfl, ?y0_130101⟩) hHeld ?r0_130101
      case y0_130101 => intro w hSw; (try dsimp only at hSw); go_simp; try with_reducible rfl
      try simp only [Act.put, List.setIfInBounds_toArray, List.set_cons_zero, List.set_cons_succ]
      refine wpAnyH_take (i := 1) (oi := { dst := some 70, op := Go.Op.move (Go.Operand.tmp 1), type := 3, pos := "extra.go:22", after := #[], guard := none }) (v := ?v1_130101) rfl (by kernel_rfl) (by kernel_rfl) (by kernel_rfl) (fun _ _ _ h => h) (Or.inl ⟨by rfl, ?y1_130101⟩) hHeld ?r1_130101
      case y1_130101 => intro w hSw; (try dsimp only at hSw); go_simp; try with_reducible rfl
      try simp only [Act.put, List.setIfInBounds_toArray, List.set_cons_zero, List.set_cons_succ]
      refine wpAnyH_take (i := 2) (oi := { dst := some 71, op := Go.Op.move (Go.Operand.tmp 2), type := 25, pos := "extra.go:22", after := #[], guard := none }) (v := ?v2_130101) rfl (by kernel_rfl) (by kernel_rfl) (by kernel_rfl) (fun _ _ _ h => h) (Or.inl ⟨by rfl, ?y2_130101⟩) hHeld ?r2_130101
      case y2_130101 => intro w hSw; (try dsimp only at hSw); go_simp; try with_reducible rfl
      try simp only [Act.put, List.setIfInBounds_toArray, List.set_cons_zero, List.set_cons_succ]
      refine wpAnyH_take (i := 3) (oi := { dst := some 72, op := Go.Op.move (Go.Operand.tmp 3), type := 3, pos := "extra.go:22", after := #[], guard := none }) (v := ?v3_130101) rfl (by kernel_rfl) (by kernel_rfl) (by kernel_rfl) (fun _ _ _ h => h) (Or.inl ⟨by rfl, ?y3_130101⟩) hHeld ?r3_130101
      case y3_130101 => intro w hSw; (try dsimp only at hSw); go_simp; try with_reducible rfl
      try simp only [Act.put, List.setIfInBounds_toArray, List.set_cons_zero, List.set_cons_succ]
      refine wpAnyH_take (i := 4) (oi := { dst := some 73, op := Go.Op.slice 25 (Go.Operand.tmp 71) none (some (Go.Operand.tmp 72)) none, type := 25, pos := "extra.go:22", after := #[{ on := 2, ground := Go.Ground.data }, { on := 3, ground := Go.Ground.data }], guard := none }) (v := ?v4_130101) rfl (by kernel_rfl) (by kernel_rfl) (by kernel_rfl) (fun _ _ _ h => h) (Or.inl ⟨by rfl, ?y4_130101⟩) hHeld ?r4_130101
      case y4_130101 => intro w hSw; (try dsimp only at hSw); go_simp; try with_reducible rfl
      try simp only [Act.put, List.setIfInBounds_toArray, List.set_cons_zero, List.set_cons_succ]
      refine wpAnyH_take (i := 5) (oi := { dst := some 74, op := Go.Op.move (Go.Operand.tmp 2), type := 25, pos := "extra.go:22", after := #[], guard := none }) (v := ?v5_130101) rfl (by kernel_rfl) (by kernel_rfl) (by kernel_rfl) (fun _ _ _ h => h) (Or.inl ⟨by rfl, ?y5_130101⟩) hHeld ?r5_130101
      case y5_130101 => intro w hSw; (try dsimp only at hSw); go_simp; try with_reducible rfl
      try simp only [Act.put, List.setIfInBounds_toArray, List.set_cons_zero, List.set_cons_succ]
      refine wpAnyH_take (i := 6) (oi := { dst := some 75, op := Go.Op.move (Go.Operand.tmp 3), type := 3, pos := "extra.go:22", after := #[], guard := none }) (v := ?v6_130101) rfl (by kernel_rfl) (by kernel_rfl) (by kernel_rfl) (fun _ _ _ h => h) (Or.inl ⟨by rfl, ?y6_130101⟩) hHeld ?r6_130101
      case y6_130101 => intro w hSw; (try dsimp only at hSw); go_simp; try with_reducible rfl
      try simp only [Act.put, List.setIfInBounds_toArray, List.set_cons_zero, List.set_cons_succ]
      refine wpAnyH_take (i := 7) (oi := { dst := some 76, op := Go.Op.slice 25 (Go.Operand.tmp 74) (some (Go.Operand.tmp 75)) none none, type := 25, pos := "extra.go:22", after := #[{ on := 5, ground := Go.Ground.data }, { on := 6, ground := Go.Ground.data }], guard := none }) (v := ?v7_130101) rfl (by kernel_rfl) (by kernel_rfl) (by kernel_rfl) (fun _ _ _ h => h) (Or.inl ⟨by rfl, ?y7_130101⟩) hHeld ?r7_130101
      case y7_130101 => intro w hSw; (try dsimp only at hSw); go_simp; try with_reducible rfl
      try simp only [Act.put, List.setIfInBounds_toArray, List.set_cons_zero, List.set_cons_succ]
      refine wpAnyH_take (i := 10) (oi := { dst := some 79, op := Go.Op.move (Go.Operand.tmp 11), type := 39, pos := "extra.go:22", after := #[], guard := none }) (v := ?v10_130101) rfl (by kernel_rfl) (by kernel_rfl) (by kernel_rfl) (fun _ _ _ h => h) (Or.inl ⟨by rfl, ?y10_130101⟩) hHeld ?r10_130101
      case y10_130101 => intro w hSw; (try dsimp only at hSw); go_simp; try with_reducible rfl
      try simp only [Act.put, List.setIfInBounds_toArray, List.set_cons_zero, List.set_cons_succ]
      refine wpAnyH_take (i := 11) (oi := { dst := some 80, op := Go.Op.move (Go.Operand.tmp 1), type := 3, pos := "extra.go:22", after := #[], guard := none }) (v := ?v11_130101) rfl (by kernel_rfl) (by kernel_rfl) (by kernel_rfl) (fun _ _ _ h => h) (Or.inl ⟨by rfl, ?y11_130101⟩) hHeld ?r11_130101
      case y11_130101 => intro w hSw; (try dsimp only at hSw); go_simp; try with_reducible rfl
      try simp only [Act.put, List.setIfInBounds_toArray, List.set_cons_zero, List.set_cons_succ]
      refine wpAnyH_take (i := 12) (oi := { dst := some 81, op := Go.Op.move (Go.Operand.tmp 2), type := 25, pos := "extra.go:22", after := #[], guard := none }) (v := ?v12_130101) rfl (by kernel_rfl) (by kernel_rfl) (by kernel_rfl) (fun _ _ _ h => h) (Or.inl ⟨by rfl, ?y12_130101⟩) hHeld ?r12_130101
      case y12_130101 => intro w hSw; (try dsimp only at hSw); go_simp; try with_reducible rfl
      try simp only [Act.put, List.setIfInBounds_toArray, List.set_cons_zero, List.set_cons_succ]
      refine wpAnyH_ready (rs := [8, 13]) (by kernel_rfl) (by simp) ?_
      refine AllReadyH.cons (o := { dst := some 77, op := Go.Op.buildSlice 22 2 #[(0, Go.Operand.tmp 73), (1, Go.Operand.tmp 76)], type := 22, pos := "extra.go:22", after := #[{ on := 4, ground := Go.Ground.data }, { on := 7, ground := Go.Ground.data }], guard := none }) rfl (fun K hK => ?_) (AllReadyH.cons (o := { dst := some 82, op := Go.Op.buildSlice 22 1 #[(0, Go.Operand.tmp 81)], type := 22, pos := "extra.go:22", after := #[{ on := 12, ground := Go.Ground.data }], guard := none }) rfl (fun K hK => ?_) AllReadyH.nil)
      · go_simp
        have hal := (Below.refl wd.heap.size wd).alloc (Nat.le_refl _) (.cells #[.slice a C c, .slice ad m2 c2] 25)
        have HTWa := Lib.hid (HTW.out.below hal)
        have HM2a := Lib.hid (rowBC_lit2 wd (.slice a C c) (.slice ad m2 c2) (b.take C) (b.drop C) wd.heap.size rfl (HVA.out wd HTW.out.bel) (HVB.out wd HTW.out.bel)).bb
        obtain ⟨wda, hwda⟩ : ∃ x, wd.alloc (.cells #[.slice a C c, .slice ad m2 c2] 25) = x := ⟨_, rfl⟩
        obtain ⟨g2a, hg2a⟩ : ∃ x, wd.heap.size = x := ⟨_, rfl⟩
        rw [hwda] at HTWa HM2a ⊢
        rw [hg2a] at HM2a ⊢
        clear hal hwda hg2a
        refine hK.out _ _ (trivial) (fun hHeld2 => ?_)
        clear hK K hHeld
        have hHeld := hHeld2
        clear hHeld2
        try simp only [Act.put, List.setIfInBounds_toArray, List.set_cons_zero, List.set_cons_succ]
        refine wpAnyH_ready (rs := [9, 13]) (by kernel_rfl) (by simp) ?_
        refine AllReadyH.cons (o := { dst := some 78, op := Go.Op.call { callee := Go.Callee.value (Go.Operand.func 35), args := #[Go.Operand.tmp 69, Go.Operand.tmp 70, Go.Operand.tmp 77], argTypes := #[39, 3, 22] }, type := 40, pos := "extra.go:22", after := #[{ on := 0, ground := Go.Ground.data }, { on := 1, ground := Go.Ground.data }, { on := 8, ground := Go.Ground.data }], guard := none }) rfl (fun K hK => ?_) (AllReadyH.cons (o := { dst := some 82, op := Go.Op.buildSlice 22 1 #[(0, Go.Operand.tmp 81)], type := 22, pos := "extra.go:22", after := #[{ on := 12, ground := Go.Ground.data }], guard := none }) rfl (fun K hK => ?_) AllReadyH.nil)
        · go_simp
          refine (write_up q1 k (some ⟨g2a, 0, none⟩) 2 2 [b.take C, b.drop C] bs1 (newP N) wda HTWa.out.one rfl HM2a.out (by decide) (by rw [parts_flat, HBL.out]; have := HLE.out.2.1; omega) (Nat.zero_le _) (Nat.zero_le _) (Nat.zero_le _) (by show (0 : Int) ≤ 9223372036854775807; decide) hk2).mono ?_; rintro e wdac ⟨rfl, ⟨e1, hsE, hdE⟩, hfE⟩
          rw [parts_flat] at hsE ⊢
          have HTWac := Lib.hid (HTWa.out.put1 hsE hdE hfE)
          clear hsE hdE hfE
          refine hK.out _ _ (trivial) (fun hHeld2 => ?_)
          clear hK K hHeld
          have hHeld := hHeld2
          clear hHeld2
          try simp only [Act.put, List.setIfInBounds_toArray, List.set_cons_zero, List.set_cons_succ]
          refine wpAnyH_ready (rs := [13]) (by kernel_rfl) (by simp) ?_
          refine AllReadyH.cons (o := { dst := some 82, op := Go.Op.buildSlice 22 1 #[(0, Go.Operand.tmp 81)], type := 22, pos := "extra.go:22", after := #[{ on := 12, ground := Go.Ground.data }], guard := none }) rfl (fun K hK => ?_) AllReadyH.nil
          go_simp
          have hal := (Below.refl wdac.heap.size wdac).alloc (Nat.le_refl _) (.cells #[.slice a bl c] 25)
          have HTWacb := Lib.hid (HTWac.out.below hal)
          have HL1acb := Lib.hid (LitOne.new (u := .slice a bl c) (c1 := e1) HTWac.out.one.lt 25)
          obtain ⟨wdacb, hwdacb⟩ : ∃ x, wdac.alloc (.cells #[.slice a bl c] 25) = x := ⟨_, rfl⟩
          obtain ⟨g1acb, hg1acb⟩ : ∃ x, wdac.heap.size = x := ⟨_, rfl⟩
          rw [hwdacb] at HTWacb HL1acb ⊢
          rw [hg1acb] at HL1acb ⊢
          clear hal hwdacb hg1acb
          refine hK.out _ _ (trivial) (fun hHeld2 => ?_)
          clear hK K hHeld
          have hHeld := hHeld2
          clear hHeld2
          try simp only [Act.put, List.setIfInBounds_toArray, List.set_cons_zero, List.set_cons_succ]
          refine wpAnyH_ready (rs := [14]) (by kernel_rfl) (by simp) ?_
          refine AllReadyH.cons (o := { dst := some 83, op := Go.Op.call { callee := Go.Callee.value (Go.Operand.func 35), args := #[Go.Operand.tmp 79, Go.Operand.tmp 80, Go.Operand.tmp 82], argTypes := #[39, 3, 22] }, type := 40, pos := "extra.go:22", after := #[{ on := 10, ground := Go.Ground.data }, { on := 11, ground := Go.Ground.data }, { on := 13, ground := Go.Ground.data }, { on := 9, ground := Go.Ground.chain }], guard := none }) rfl (fun K hK => ?_) AllReadyH.nil
          go_simp
          refine (write_up q2 k (some ⟨g1acb, 0, none⟩) 1 1 [b] bs2 (newP N) wdacb HTWacb.out.two rfl (HL1acb.out.row (HV.out.below HTWacb.out.bel)) (by decide) (by rw [flat1, HBL.out]; have := HLE.out.2.1; omega) (Nat.zero_le _) (Nat.zero_le _) (Nat.zero_le _) (by show (0 : Int) ≤ 9223372036854775807; decide) hk2).mono ?_; rintro e wdacbd ⟨rfl, ⟨e2, hsE, hdE⟩, hfE⟩
          rw [flat1] at hsE ⊢
          have HTW := Lib.hid (HTWacb.out.put2 hsE hdE hfE)
          clear hsE hdE hfE
          refine hK.out _ _ (trivial) (fun hHeld2 => ?_)
          clear hK K hHeld
          have hHeld := hHeld2
          clear hHeld2
          try simp only [Act.put, List.setIfInBounds_toArray, List.set_cons_zero, List.set_cons_succ]
          refine wpAnyH_take (i := 15) (oi := { dst := some 13, op := Go.Op.assign (Go.Operand.tmp 78), type := 40, pos := "extra.go:22", after := #[{ on := 9, ground := Go.Ground.data }, { on := 14, ground := Go.Ground.chain }, { on := 0, ground := Go.Ground.phase }, { on := 1, ground := Go.Ground.phase }, { on := 2, ground := Go.Ground.phase }, { on := 3, ground := Go.Ground.phase }, { on := 4, ground := Go.Ground.phase }, { on := 5, ground := Go.Ground.phase }, { on := 6, ground := Go.Ground.phase }, { on := 7, ground := Go.Ground.phase }, { on := 8, ground := Go.Ground.phase }, { on := 9, ground := Go.Ground.phase }, { on := 10, ground := Go.Ground.textOnly Go.Departure.lateStores }, { on := 11, ground := Go.Ground.textOnly Go.Departure.lateStores }, { on := 12, ground := Go.Ground.textOnly Go.Departure.lateStores }, { on := 13, ground := Go.Ground.textOnly Go.Departure.lateStores }, { on := 14, ground := Go.Ground.textOnly Go.Departure.lateStoresUnsure }], guard := none }) (v := ?v15_130105) rfl (by kernel_rfl) (by kernel_rfl) (by kernel_rfl) (fun _ _ _ h => h) (Or.inl ⟨by rfl, ?y15_130105⟩) hHeld ?r15_130105
          case y15_130105 => intro w hSw; (try dsimp only at hSw); go_simp; try with_reducible rfl
          try simp only [Act.put, List.setIfInBounds_toArray, List.set_cons_zero, List.set_cons_succ]
          refine wpAnyH_take (i := 16) (oi := { dst := some 14, op := Go.Op.assign (Go.Operand.tmp 83), type := 40, pos := "extra.go:22", after := #[{ on := 14, ground := Go.Ground.data }, { on := 15, ground := Go.Ground.chain }, { on := 0, ground := Go.Ground.phase }, { on := 1, ground := Go.Ground.phase }, { on := 2, ground := Go.Ground.phase }, { on := 3, ground := Go.Ground.phase }, { on := 4, ground := Go.Ground.phase }, { on := 5, ground := Go.Ground.phase }, { on := 6, ground := Go.Ground.phase }, { on := 7, ground := Go.Ground.phase }, { on := 8, ground := Go.Ground.phase }, { on := 9, ground := Go.Ground.phase }, { on := 10, ground := Go.Ground.phase }, { on := 11, ground := Go.Ground.phase }, { on := 12, ground := Go.Ground.phase }, { on := 13, ground := Go.Ground.phase }, { on := 14, ground := Go.Ground.phase }, { on := 15, ground := Go.Ground.phase }], guard := none }) (v := ?v16_130105) rfl (by kernel_rfl) (by kernel_rfl) (by kernel_rfl) (fun _ _ _ h => h) (Or.inl ⟨by rfl, ?y16_130105⟩) hHeld ?r16_130105
          case y16_130105 => intro w hSw; (try dsimp only at hSw); go_simp; try with_reducible rfl
          try simp only [Act.put, List.setIfInBounds_toArray, List.set_cons_zero, List.set_cons_succ]
          refine wpAnyH_done (by kernel_rfl) ?_ _
          go_wp2
          go_meet
          exact ⟨e1, e2, rfl, rfl, HTW⟩
        · go_simp
          have hal := (Below.refl wda.heap.size wda).alloc (Nat.le_refl _) (.cells #[.slice a bl c] 25)
          have HTWab := Lib.hid (HTWa.out.below hal)
          have HL1ab := Lib.hid (LitOne.new (u := .slice a bl c) (c1 := bs1) HTWa.out.one.lt 25)
          have HM2ab := Lib.hid (HM2a.out.below hal)
          obtain ⟨wdab, hwdab⟩ : ∃ x, wda.alloc (.cells #[.slice a bl c] 25) = x := ⟨_, rfl⟩
          obtain ⟨g1ab, hg1ab⟩ : ∃ x, wda.heap.size = x := ⟨_, rfl⟩
          rw [hwdab] at HTWab HL1ab HM2ab ⊢
          rw [hg1ab] at HL1ab ⊢
          clear hal hwdab hg1ab
          refine hK.out _ _ (trivial) (fun hHeld2 => ?_)
          clear hK K hHeld
          have hHeld := hHeld2
          clear hHeld2
          try simp only [Act.put, List.setIfInBounds_toArray, List.set_cons_zero, List.set_cons_succ]
          refine wpAnyH_ready (rs := [9]) (by kernel_rfl) (by simp) ?_
          refine AllReadyH.cons (o := { dst := some 78, op := Go.Op.call { callee := Go.Callee.value (Go.Operand.func 35), args := #[Go.Operand.tmp 69, Go.Operand.tmp 70, Go.Operand.tmp 77], argTypes := #[39, 3, 22] }, type := 40, pos := "extra.go:22", after := #[{ on := 0, ground := Go.Ground.data }, { on := 1, ground := Go.Ground.data }, { on := 8, ground := Go.Ground.data }], guard := none }) rfl (fun K hK => ?_) AllReadyH.nil
          go_simp
          refine (write_up q1 k (some ⟨g2a, 0, none⟩) 2 2 [b.take C, b.drop C] bs1 (newP N) wdab HTWab.out.one rfl HM2ab.out (by decide) (by rw [parts_flat, HBL.out]; have := HLE.out.2.1; omega) (Nat.zero_le _) (Nat.zero_le _) (Nat.zero_le _) (by show (0 : Int) ≤ 9223372036854775807; decide) hk2).mono ?_; rintro e wdabc ⟨rfl, ⟨e1, hsE, hdE⟩, hfE⟩
          rw [parts_flat] at hsE ⊢
          have HTWabc := Lib.hid (HTWab.out.put1 hsE hdE hfE)
          have HL1abc := Lib.hid (HL1ab.out.put1 hdE hfE)
          clear hsE hdE hfE
          refine hK.out _ _ (trivial) (fun hHeld2 => ?_)
          clear hK K hHeld
          have hHeld := hHeld2
          clear hHeld2
          try simp only [Act.put, List.setIfInBounds_toArray, List.set_cons_zero, List.set_cons_succ]
          refine wpAnyH_ready (rs := [14]) (by kernel_rfl) (by simp) ?_
          refine AllReadyH.cons (o := { dst := some 83, op := Go.Op.call { callee := Go.Callee.value (Go.Operand.func 35), args := #[Go.Operand.tmp 79, Go.Operand.tmp 80, Go.Operand.tmp 82], argTypes := #[39, 3, 22] }, type := 40, pos := "extra.go:22", after := #[{ on := 10, ground := Go.Ground.data }, { on := 11, ground := Go.Ground.data }, { on := 13, ground := Go.Ground.data }, { on := 9, ground := Go.Ground.chain }], guard := none }) rfl (fun K hK => ?_) AllReadyH.nil
          go_simp
          refine (write_up q2 k (some ⟨g1ab, 0, none⟩) 1 1 [b] bs2 (newP N) wdabc HTWabc.out.two rfl (HL1abc.out.row (HV.out.below HTWabc.out.bel)) (by decide) (by rw [flat1, HBL.out]; have := HLE.out.2.1; omega) (Nat.zero_le _) (Nat.zero_le _) (Nat.zero_le _) (by show (0 : Int) ≤ 9223372036854775807; decide) hk2).mono ?_; rintro e wdabcd ⟨rfl, ⟨e2, hsE, hdE⟩, hfE⟩
          rw [flat1] at hsE ⊢
          have HTW := Lib.hid (HTWabc.out.put2 hsE hdE hfE)
          clear hsE hdE hfE
          refine hK.out _ _ (trivial) (fun hHeld2 => ?_)
          clear hK K hHeld
          have hHeld := hHeld2
          clear hHeld2
          try simp only [Act.put, List.setIfInBounds_toArray, List.set_cons_zero, List.set_cons_succ]
          refine wpAnyH_take (i := 15) (oi := { dst := some 13, op := Go.Op.assign (Go.Operand.tmp 78), type := 40, pos := "extra.go:22", after := #[{ on := 9, ground := Go.Ground.data }, { on := 14, ground := Go.Ground.chain }, { on := 0, ground := Go.Ground.phase }, { on := 1, ground := Go.Ground.phase }, { on := 2, ground := Go.Ground.phase }, { on := 3, ground := Go.Ground.phase }, { on := 4, ground := Go.Ground.phase }, { on := 5, ground := Go.Ground.phase }, { on := 6, ground := Go.Ground.phase }, { on := 7, ground := Go.Ground.phase }, { on := 8, ground := Go.Ground.phase }, { on := 9, ground := Go.Ground.phase }, { on := 10, ground := Go.Ground.textOnly Go.Departure.lateStores }, { on := 11, ground := Go.Ground.textOnly Go.Departure.lateStores }, { on := 12, ground := Go.Ground.textOnly Go.Departure.lateStores }, { on := 13, ground := Go.Ground.textOnly Go.Departure.lateStores }, { on := 14, ground := Go.Ground.textOnly Go.Departure.lateStoresUnsure }], guard := none }) (v := ?v15_130108) rfl (by kernel_rfl) (by kernel_rfl) (by kernel_rfl) (fun _ _ _ h => h) (Or.inl ⟨by rfl, ?y15_130108⟩) hHeld ?r15_130108
          case y15_130108 => intro w hSw; (try dsimp only at hSw); go_simp; try with_reducible rfl
          try simp only [Act.put, List.setIfInBounds_toArray, List.set_cons_zero, List.set_cons_succ]
          refine wpAnyH_take (i := 16) (oi := { dst := some 14, op := Go.Op.assign (Go.Operand.tmp 83), type := 40, pos := "extra.go:22", after := #[{ on := 14, ground := Go.Ground.data }, { on := 15, ground := Go.Ground.chain }, { on := 0, ground := Go.Ground.phase }, { on := 1, ground := Go.Ground.phase }, { on := 2, ground := Go.Ground.phase }, { on := 3, ground := Go.Ground.phase }, { on := 4, ground := Go.Ground.phase }, { on := 5, ground := Go.Ground.phase }, { on := 6, ground := Go.Ground.phase }, { on := 7, ground := Go.Ground.phase }, { on := 8, ground := Go.Ground.phase }, { on := 9, ground := Go.Ground.phase }, { on := 10, ground := Go.Ground.phase }, { on := 11, ground := Go.Ground.phase }, { on := 12, ground := Go.Ground.phase }, { on := 13, ground := Go.Ground.phase }, { on := 14, ground := Go.Ground.phase }, { on := 15, ground := Go.Ground.phase }], guard := none }) (v := ?v16_130108) rfl (by kernel_rfl) (by kernel_rfl) (by kernel_rfl) (fun _ _ _ h => h) (Or.inl ⟨by rfl, ?y16_130108⟩) hHeld ?r16_130108
          case y16_130108 => intro w hSw; (try dsimp only at hSw); go_simp; try with_reducible rfl
          try simp only [Act.put, List.setIfInBounds_toArray, List.set_cons_zero, List.set_cons_succ]
          refine wpAnyH_done (by kernel_rfl) ?_ _
          go_wp2
          go_meet
          exact ⟨e1, e2, rfl, rfl, HTW⟩
      · go_simp
        have hal := (Below.refl wd.heap.size wd).alloc (Nat.le_refl _) (.cells #[.slice a bl c] 25)
        have HTWb := Lib.hid (HTW.out.below hal)
        have HL1b := Lib.hid (LitOne.new (u := .slice a bl c) (c1 := bs1) HTW.out.one.lt 25)
        obtain ⟨wdb, hwdb⟩ : ∃ x, wd.alloc (.cells #[.slice a bl c] 25) = x := ⟨_, rfl⟩
        obtain ⟨g1b, hg1b⟩ : ∃ x, wd.heap.size = x := ⟨_, rfl⟩
        rw [hwdb] at HTWb HL1b ⊢
        rw [hg1b] at HL1b ⊢
        clear hal hwdb hg1b
        refine hK.out _ _ (trivial) (fun hHeld2 => ?_)
        clear hK K hHeld
        have hHeld := hHeld2
        clear hHeld2
        try simp only [Act.put, List.setIfInBounds_toArray, List.set_cons_zero, List.set_cons_succ]
        refine wpAnyH_ready (rs := [8]) (by kernel_rfl) (by simp) ?_
        refine AllReadyH.cons (o := { dst := some 77, op := Go.Op.buildSlice 22 2 #[(0, Go.Operand.tmp 73), (1, Go.Operand.tmp 76)], type := 22, pos := "extra.go:22", after := #[{ on := 4, ground := Go.Ground.data }, { on := 7, ground := Go.Ground.data }], guard := none }) rfl (fun K hK => ?_) AllReadyH.nil
        go_simp
        have hal := (Below.refl wdb.heap.size wdb).alloc (Nat.le_refl _) (.cells #[.slice a C c, .slice ad m2 c2] 25)
        have HTWba := Lib.hid (HTWb.out.below hal)
        have HM2ba := Lib.hid (rowBC_lit2 wdb (.slice a C c) (.slice ad m2 c2) (b.take C) (b.drop C) wdb.heap.size rfl (HVA.out wdb HTWb.out.bel) (HVB.out wdb HTWb.out.bel)).bb
        have HL1ba := Lib.hid (HL1b.out.below hal)
        obtain ⟨wdba, hwdba⟩ : ∃ x, wdb.alloc (.cells #[.slice a C c, .slice ad m2 c2] 25) = x := ⟨_, rfl⟩
        obtain ⟨g2ba, hg2ba⟩ : ∃ x, wdb.heap.size = x := ⟨_, rfl⟩
        rw [hwdba] at HTWba HM2ba HL1ba ⊢
        rw [hg2ba] at HM2ba ⊢
        clear hal hwdba hg2ba
        refine hK.out _ _ (trivial) (fun hHeld2 => ?_)
        clear hK K hHeld
        have hHeld := hHeld2
        clear hHeld2
        try simp only [Act.put, List.setIfInBounds_toArray, List.set_cons_zero, List.set_cons_succ]
        refine wpAnyH_ready (rs := [9]) (by kernel_rfl) (by simp) ?_
        refine AllReadyH.cons (o := { dst := some 78, op := Go.Op.call { callee := Go.Callee.value (Go.Operand.func 35), args := #[Go.Operand.tmp 69, Go.Operand.tmp 70, Go.Operand.tmp 77], argTypes := #[39, 3, 22] }, type := 40, pos := "extra.go:22", after := #[{ on := 0, ground := Go.Ground.data }, { on := 1, ground := Go.Ground.data }, { on := 8, ground := Go.Ground.data }], guard := none }) rfl (fun K hK => ?_) AllReadyH.nil
        go_simp
        refine (write_up q1 k (some ⟨g2ba, 0, none⟩) 2 2 [b.take C, b.drop C] bs1 (newP N) wdba HTWba.out.one rfl HM2ba.out (by decide) (by rw [parts_flat, HBL.out]; have := HLE.out.2.1; omega) (Nat.zero_le _) (Nat.zero_le _) (Nat.zero_le _) (by show (0 : Int) ≤ 9223372036854775807; decide) hk2).mono ?_; rintro e wdbac ⟨rfl, ⟨e1, hsE, hdE⟩, hfE⟩
        rw [parts_flat] at hsE ⊢
        have HTWbac := Lib.hid (HTWba.out.put1 hsE hdE hfE)
        have HL1bac := Lib.hid (HL1ba.out.put1 hdE hfE)
        clear hsE hdE hfE
        refine hK.out _ _ (trivial) (fun hHeld2 => ?_)
        clear hK K hHeld
        have hHeld := hHeld2
        clear hHeld2
        try simp only [Act.put, List.setIfInBounds_toArray, List.set_cons_zero, List.set_cons_succ]
        refine wpAnyH_ready (rs := [14]) (by kernel_rfl) (by simp) ?_
        refine AllReadyH.cons (o := { dst := some 83, op := Go.Op.call { callee := Go.Callee.value (Go.Operand.func 35), args := #[Go.Operand.tmp 79, Go.Operand.tmp 80, Go.Operand.tmp 82], argTypes := #[39, 3, 22] }, type := 40, pos := "extra.go:22", after := #[{ on := 10, ground := Go.Ground.data }, { on := 11, ground := Go.Ground.data }, { on := 13, ground := Go.Ground.data }, { on := 9, ground := Go.Ground.chain }], guard := none }) rfl (fun K hK => ?_) AllReadyH.nil
        go_simp
        refine (write_up q2 k (some ⟨g1b, 0, none⟩) 1 1 [b] bs2 (newP N) wdbac HTWbac.out.two rfl (HL1bac.out.row (HV.out.below HTWbac.out.bel)) (by decide) (by rw [flat1, HBL.out]; have := HLE.out.2.1; omega) (Nat.zero_le _) (Nat.zero_le _) (Nat.zero_le _) (by show (0 : Int) ≤ 9223372036854775807; decide) hk2).mono ?_; rintro e wdbacd ⟨rfl, ⟨e2, hsE, hdE⟩, hfE⟩
        rw [flat1] at hsE ⊢
        have HTW := Lib.hid (HTWbac.out.put2 hsE hdE hfE)
        clear hsE hdE hfE
        refine hK.out _ _ (trivial) (fun hHeld2 => ?_)
        clear hK K hHeld
        have hHeld := hHeld2
        clear hHeld2
        try simp only [Act.put, List.setIfInBounds_toArray, List.set_cons_zero, List.set_cons_succ]
        refine wpAnyH_take (i := 15) (oi := { dst := some 13, op := Go.Op.assign (Go.Operand.tmp 78), type := 40, pos := "extra.go:22", after := #[{ on := 9, ground := Go.Ground.data }, { on := 14, ground := Go.Ground.chain }, { on := 0, ground := Go.Ground.phase }, { on := 1, ground := Go.Ground.phase }, { on := 2, ground := Go.Ground.phase }, { on := 3, ground := Go.Ground.phase }, { on := 4, ground := Go.Ground.phase }, { on := 5, ground := Go.Ground.phase }, { on := 6, ground := Go.Ground.phase }, { on := 7, ground := Go.Ground.phase }, { on := 8, ground := Go.Ground.phase }, { on := 9, ground := Go.Ground.phase }, { on := 10, ground := Go.Ground.textOnly Go.Departure.lateStores }, { on := 11, ground := Go.Ground.textOnly Go.Departure.lateStores }, { on := 12, ground := Go.Ground.textOnly Go.Departure.lateStores }, { on := 13, ground := Go.Ground.textOnly Go.Departure.lateStores }, { on := 14, ground := Go.Ground.textOnly Go.Departure.lateStoresUnsure }], guard := none }) (v := ?v15_130112) rfl (by kernel_rfl) (by kernel_rfl) (by kernel_rfl) (fun _ _ _ h => h) (Or.inl ⟨by rfl, ?y15_130112⟩) hHeld ?r15_130112
        case y15_130112 => intro w hSw; (try dsimp only at hSw); go_simp; try with_reducible rfl
        try simp only [Act.put, List.setIfInBounds_toArray, List.set_cons_zero, List.set_cons_succ]
        refine wpAnyH_take (i := 16) (oi := { dst := some 14, op := Go.Op.assign (Go.Operand.tmp 83), type := 40, pos := "extra.go:22", after := #[{ on := 14, ground := Go.Ground.data }, { on := 15, ground := Go.Ground.chain }, { on := 0, ground := Go.Ground.phase }, { on := 1, ground := Go.Ground.phase }, { on := 2, ground := Go.Ground.phase }, { on := 3, ground := Go.Ground.phase }, { on := 4, ground := Go.Ground.phase }, { on := 5, ground := Go.Ground.phase }, { on := 6, ground := Go.Ground.phase }, { on := 7, ground := Go.Ground.phase }, { on := 8, ground := Go.Ground.phase }, { on := 9, ground := Go.Ground.phase }, { on := 10, ground := Go.Ground.phase }, { on := 11, ground := Go.Ground.phase }, { on := 12, ground := Go.Ground.phase }, { on := 13, ground := Go.Ground.phase }, { on := 14, ground := Go.Ground.phase }, { on := 15, ground := Go.Ground.phase }], guard := none }) (v := ?v16_130112) rfl (by kernel_rfl) (by kernel_rfl) (by kernel_rfl) (fun _ _ _ h => h) (Or.inl ⟨by rfl, ?y16_130112⟩) hHeld ?r16_130112
        case y16_130112 => intro w hSw; (try dsimp only at hSw); go_simp; try with_reducible rfl
        try simp only [Act.put, List.setIfInBounds_toArray, List.set_cons_zero, List.set_cons_succ]
        refine wpAnyH_done (by kernel_rfl) ?_ _
        go_wp2
        go_meet
        exact ⟨e1, e2, rfl, rfl, HTW⟩
end Go.Proofs.Ytocfphijheidbaa
