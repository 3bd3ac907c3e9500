/- The walk of DiskKeeps (written by mkdke.py). -/
import Derived.Test.YtocfphijheidbaaDkZ
import Derived.Test.YtocfphijheidbaaFrB
namespace Go.Proofs.Ytocfphijheidbaa
open Go.RowKit

theorem One.other {w wx wy : World} {q : Nat} {c cs : List Nat} {s : DkP} (h : One w wx q c s) (hf : Frm wx wy cs) (hd : ∀ b ∈ c, b ∉ cs) (hg : ∀ b ∈ cs, w.heap.size ≤ b) : One w wy q c s :=
  ⟨h.dk.frm hf hd, h.g, hf.under h.bel hg h.bel.size⟩
set_option maxRecDepth 100000 in
set_option maxHeartbeats 16000000 in
theorem walkKeeps (n : Int) (aa : Option Addr) (na ca : Nat) (A : List OpP) (ab : Option Addr) (nb cb : Nat) (B : List OpP) (am : Option Addr) (nm cm : Nat) (M : List UInt8) (w : World) (hA : RowOp w aa na A) (hB : RowOp w ab nb B) (hM : ValC w (.slice am nm cm) M) (lA : na ≤ 9223372036854775807) (lB : nb ≤ 9223372036854775807) (lM : nm ≤ 9223372036854775807) :
    Calls Try.prog 6 #[.int .i64 n, .slice aa na ca, .slice ab nb cb, .slice am nm cm] w fun e w' => e = .returned (.bool true) ∧ Below w.heap.size w w' := by
  have HA := Lib.hid hA
  have HB := Lib.hid hB
  have HM := Lib.hid hM
  have HL := Lib.hid (show na ≤ 9223372036854775807 ∧ nb ≤ 9223372036854775807 ∧ nm ≤ 9223372036854775807 from ⟨lA, lB, lM⟩)
  clear hA hB hM lA lB
  go_enter Try.func6, Try.ntmps6
  go_wp2_with fail
  refine (first13 w).mono ?_; rintro e w1 ⟨rfl, hb1⟩
  have HB1 := Lib.hid hb1
  clear hb1
  go_upto_region 3 with (fail)
  by_cases h60 : 60 < n
  · have d1 : decide (60 < n) = true := dT h60
    clear h60
    go_wp2_with fail
    refine (first13 w1).mono ?_; rintro e w2 ⟨rfl, hb2⟩
    have HBZ := Lib.hid (HB1.out.trans (hb2.mono HB1.out.size))
    clear hb2
    go_wp2
    go_ret
    exact ⟨rfl, HBZ.out⟩
  · have d1 : decide (60 < n) = false := dF h60
    go_wp2_with fail
    refine (few13 aa na ca A w1 (HA.out.below HB1.out) HL.out.1).mono ?_; rintro e w2 ⟨hfew, rfl⟩
    rcases hfew with rfl | ⟨rfl, ha1, ha2⟩
    · go_wp2_with fail
      refine (first13 w1).mono ?_; rintro e w2 ⟨rfl, hb2⟩
      have HBZ := Lib.hid (HB1.out.trans (hb2.mono HB1.out.size))
      clear hb2
      go_wp2
      go_ret
      exact ⟨rfl, HBZ.out⟩
    · go_wp2_with fail
      refine (few13 ab nb cb B w1 (HB.out.below HB1.out) HL.out.2.1).mono ?_; rintro e w2 ⟨hfew, rfl⟩
      rcases hfew with rfl | ⟨rfl, hb1, hb2⟩
      · go_wp2_with fail
        refine (first13 w1).mono ?_; rintro e w2 ⟨rfl, hb2⟩
        have HBZ := Lib.hid (HB1.out.trans (hb2.mono HB1.out.size))
        clear hb2
        go_wp2
        go_ret
        exact ⟨rfl, HBZ.out⟩
      · have HFW := Lib.hid (show (na ≤ 150 ∧ sumB A na ≤ 30000) ∧ nb ≤ 150 ∧ sumB B nb ≤ 30000 from ⟨⟨ha1, ha2⟩, hb1, hb2⟩)
        clear ha1 ha2 hb1 hb2
        by_cases h200 : 200 < nm
        · have d2 : decide ((200 : Int) < (nm : Int)) = true := dT (by omega)
          clear h200
          go_wp2_with fail
          refine (first13 w1).mono ?_; rintro e w2 ⟨rfl, hb2⟩
          have HBZ := Lib.hid (HB1.out.trans (hb2.mono HB1.out.size))
          clear hb2
          go_wp2
          go_ret
          exact ⟨rfl, HBZ.out⟩
        · have d2 : decide ((200 : Int) < (nm : Int)) = false := dF (by omega)
          have HNM := Lib.hid (show nm ≤ 200 by omega)
          clear h200
          go_upto_region 5 with (fail)
          clear d1 d2
          by_cases hn3 : n < 3
          · have e3 : decide (n < 3) = true := dT hn3
            go_wp2_with fail
            refine (newD_no n w1 (Or.inl hn3)).mono ?_; rintro e w2 ⟨rfl, rfl⟩
            go_wp2_with fail
            refine (first13 w1).mono ?_; rintro e w2 ⟨rfl, hb2⟩
            have HBZ := Lib.hid (HB1.out.trans (hb2.mono HB1.out.size))
            clear hb2
            go_wp2
            go_ret
            exact ⟨rfl, HBZ.out⟩
          · obtain ⟨N, rfl⟩ : ∃ z : Nat, n = (z : Int) := ⟨n.toNat, by omega⟩
            have HNN := Lib.hid (show 3 ≤ N ∧ N ≤ 60 by omega)
            clear hn3 h60 lM
            go_wp2_with fail
            refine (newD_yes N w1 HNN.out.1 (by have := HNN.out.2; omega)).mono ?_; rintro e w2 ⟨q, bs, rfl, hs2, hbs2, hb2⟩
            have HO2 := Lib.hid (show One w w2 q bs (newP N) from ⟨hs2, fun x hx => Nat.le_trans HB1.out.size (hbs2 x hx), HB1.out.trans (hb2.mono HB1.out.size)⟩)
            clear hs2 hbs2 hb2
            have HIA := Lib.hid (writes_inv (new_inv N A) (Nat.zero_le _) na HFW.out.1.1 HFW.out.1.2 na (Nat.le_refl _))
            go_wp2_with fail
            refine (writes_law w q aa na ca A bs (newP N) w2 HO2.out HA.out HFW.out.1.1 HFW.out.1.2 N _ (new_inv N A) (Nat.zero_le _) (Nat.zero_le _)).mono ?_; rintro e w3 ⟨rfl, c3, ho3, -, -⟩
            have HO3 := Lib.hid ho3
            obtain ⟨SA, hSA⟩ : ∃ z, writesP (newP N) A na = z := ⟨_, rfl⟩
            rw [hSA] at HIA HO3
            clear ho3 hSA HO2
            go_wp2_with fail
            refine (flush_any q c3 SA w3 HO3.out.dk HIA.out.1.up).mono ?_; rintro e w4 ⟨rfl, hs4, hf4⟩
            have HO4 := Lib.hid (HO3.out.same (t := flushP SA) hs4 hf4)
            have HIF := Lib.hid (flush_inv (B := B) HIA.out.1)
            have HWR := Lib.hid (show (flushP SA).wr ≤ 1000 from by have h := HIA.out.2.2; have := HFW.out.1; show SA.wr ≤ 1000; simp only [newP] at h; omega)
            have HSFN := Lib.hid (show (flushP SA).n = N from HIA.out.1.n)
            have HSFU := Lib.hid (show (flushP SA).down = false from HIA.out.1.up)
            have HRF := Lib.hid (show (flushP SA).R = SA.R from rfl)
            have HPF := Lib.hid (show (flushP SA).P.length ≤ 300 from Nat.zero_le _)
            obtain ⟨SF, hSF⟩ : ∃ z, flushP SA = z := ⟨_, rfl⟩
            rw [hSF] at HO4 HIF HWR HSFN HSFU HRF HPF
            clear hs4 hf4 hSF HO3 HIA
            go_wp2_with fail
            refine (all_up q c3 SF w4 HO4.out.dk HSFU.out).mono ?_; rintro e w5 ⟨v5, rfl, ho5, hb5⟩
            obtain ⟨a5, k5, rfl, -, -⟩ := ho5.bb.row
            rw [secL_len, HSFN.out] at ho5 ⊢
            have HW5 := Lib.hid ho5
            have HK5 := Lib.hid (Kept.refl w4.heap.size w5)
            have HO5 := Lib.hid (HO4.out.below hb5)
            have HC5 := Lib.hid (show ∀ g ∈ c3, g < w4.heap.size from HO4.out.dk.lt)
            have HZ5 := Lib.hid hb5.size
            clear ho5 hb5 HO4
            have HIB := Lib.hid (writes_inv HIF.out HPF.out nb HFW.out.2.1 HFW.out.2.2 nb (Nat.le_refl _))
            go_wp2_with fail
            refine (writes_law w q ab nb cb B c3 SF w5 HO5.out HB.out HFW.out.2.1 HFW.out.2.2 N _ HIF.out HPF.out HWR.out).mono ?_; rintro e w6 ⟨rfl, c6, ho6, hc6, hf6⟩
            have HO6 := Lib.hid ho6
            have HK6 := Lib.hid (HK5.out.frm hf6 (fun g hg => Or.inl (HC5.out g hg)))
            have HC6 := Lib.hid (show ∀ g ∈ c6, g < w4.heap.size ∨ w5.heap.size ≤ g from fun g hg => (hc6 g hg).imp (HC5.out g) id)
            obtain ⟨SB, hSB⟩ : ∃ z, writesP SF B nb = z := ⟨_, rfl⟩
            rw [hSB] at HIB HO6
            have HBN := Lib.hid (show SB.n = N ∧ SB.down = false ∧ SB.mask = [] ∧ SB.P.length ≤ 1000 from by
              have h := HIB.out
              have := HPF.out
              have := HFW.out.2
              exact ⟨h.1.n, h.1.up, h.1.mkl, by omega⟩)
            have HS56 := Lib.hid hf6.size
            clear ho6 hc6 hf6 hSB HO5 HK5
            go_wp2_with fail
            refine (all_up q c6 SB w6 HO6.out.dk HBN.out.2.1).mono ?_; rintro e w7 ⟨v7, rfl, ho7, hb7⟩
            obtain ⟨a7, k7, rfl, -, -⟩ := ho7.bb.row
            rw [secL_len, HBN.out.1] at ho7 ⊢
            have HN7 := Lib.hid ho7
            have HO7 := Lib.hid (HO6.out.below hb7)
            have HK7 := Lib.hid (HK6.out.below hb7)
            have HC7 := Lib.hid (show ∀ g ∈ c6, g < w6.heap.size from HO6.out.dk.lt)
            have HSZ57 := Lib.hid (show w5.heap.size ≤ w7.heap.size from Nat.le_trans HS56.out hb7.size)
            clear ho7 hb7 HO6 HK6
            go_wp2_with fail
            refine (copyD_any q c6 SB w7 HO7.out.dk (by have := HBN.out.2.2.2; omega) (by rw [HBN.out.2.2.1]; exact Nat.zero_le _)).mono ?_; rintro e w8 ⟨qx, cx, x1, x2, rfl, hsx, hcx, hb8⟩
            obtain ⟨SX, hSX⟩ : ∃ z, ({ SB with cd := x1, cr := x2 } : DkP) = z := ⟨_, rfl⟩
            have HXN := Lib.hid (show SX.n = N ∧ SX.down = false ∧ SX.P.length ≤ 1000 ∧ ∀ m, (crash SX m).R = (crash SB m).R from by rw [← hSX]; exact ⟨HBN.out.1, HBN.out.2.1, HBN.out.2.2.2, fun _ => rfl⟩)
            rw [hSX] at hsx
            have HX := Lib.hid hsx
            have HCX := Lib.hid hcx
            have HO8 := Lib.hid (HO7.out.below hb8)
            have HK8 := Lib.hid (HK7.out.below hb8)
            have HJ8 := Lib.hid ((Kept.refl w6.heap.size w7).below hb8)
            have HS7 := Lib.hid (show w.heap.size ≤ w7.heap.size ∧ w7.heap.size ≤ w8.heap.size ∧ (∀ g ∈ c6, g < w7.heap.size) from ⟨HO7.out.bel.size, hb8.size, HO7.out.dk.lt⟩)
            clear hsx hcx hb8 hSX HO7 HK7
            go_wp2_with fail
            refine (copyD_any q c6 SB w8 HO8.out.dk (by have := HBN.out.2.2.2; omega) (by rw [HBN.out.2.2.1]; exact Nat.zero_le _)).mono ?_; rintro e w9 ⟨qy, cy, y1, y2, rfl, hsy, hcy, hb9⟩
            obtain ⟨SY, hSY⟩ : ∃ z, ({ SB with cd := y1, cr := y2 } : DkP) = z := ⟨_, rfl⟩
            have HYN := Lib.hid (show SY.n = N ∧ SY.down = false ∧ SY.P.length ≤ 1000 ∧ ∀ m, (crash SY m).R = (crash SB m).R from by rw [← hSY]; exact ⟨HBN.out.1, HBN.out.2.1, HBN.out.2.2.2, fun _ => rfl⟩)
            rw [hSY] at hsy
            have HY := Lib.hid hsy
            have HCY := Lib.hid hcy
            have HS8 := Lib.hid (show w8.heap.size ≤ w9.heap.size ∧ (∀ g ∈ cx, g < w8.heap.size) ∧ (∀ g ∈ cy, g < w9.heap.size) from ⟨hb9.size, HX.out.lt, hsy.lt⟩)
            have HO9 := Lib.hid (HO8.out.below hb9)
            have HK9 := Lib.hid (HK8.out.below hb9)
            have HJ9 := Lib.hid (HJ8.out.below hb9)
            have HX9 := Lib.hid (HX.out.below hb9)
            clear hsy hcy hb9 hSY HO8 HK8 HJ8 HX
            have hmk : ∀ W, (Instr.makeSlice 25 (.int .i64 300) (.int .i64 300)).run Try.prog W = .ok (.slice (some ⟨W.heap.size, 0, none⟩) 300 300) (W.alloc (.cells (bc (zB 300)).toArray 5)) := make_run8 300 (by decide)
            have hba := (Below.refl w9.heap.size w9).alloc (Nat.le_refl _) (.cells (bc (zB 300)).toArray 5)
            have HV0 := Lib.hid (valC_mark w9 (bc (zB 300)).toArray (zB 300) rfl 5 (0, 0) w9.heap.size 300 rfl (zB_len 300).symm)
            have HF0 := Lib.hid (show ∀ j, (w9.alloc (.cells (bc (zB 300)).toArray 5)).frozen? ⟨w9.heap.size, j, none⟩ = false from fun j => by rw [World.frozen?_alloc_new])
            have HB0 := Lib.hid hba
            obtain ⟨g, hg⟩ : ∃ z, w9.heap.size = z := ⟨_, rfl⟩
            obtain ⟨wA, hwA⟩ : ∃ z, w9.alloc (.cells (bc (zB 300)).toArray 5) = z := ⟨_, rfl⟩
            rw [hwA] at HB0 HV0 HF0
            rw [hg] at HV0 HF0
            have HG := Lib.hid hg
            have HWA := Lib.hid hwA
            clear hba hwA hg
            go_upto_region 17 with (fail)
            rw [HWA.out, HG.out]
            clear hmk
            go_wp2_with fail
            go_loopw [16] (fun i wr => ∃ t : Nat, t ≤ 300 ∧ i = .int .i64 t ∧ Hid (ValC wr (.slice (some ⟨g, 0, none⟩) 300 300) (fillF t)) ∧ Hid (∀ j, wr.frozen? ⟨g, j, none⟩ = false) ∧ Hid (Below w9.heap.size w9 wr)) (fun i _ => 300 - (intOf i).toNat)
            case atStart => exact ⟨0, Nat.zero_le _, rfl, HV0, HF0, HB0⟩
            case round =>
              obtain ⟨t, ht, rfl, HV, HF, HBW⟩ := hrel
              clear HV0 HF0 HB0
              by_cases hlt : t < 300
              · have dd : decide ((t : Int) < 300) = true := dT (by omega)
                have dn : decide (t < 300) = true := dT hlt
                obtain ⟨u, hu⟩ : ∃ u, Value.int .u8 (((fillF t).getD t 0).toNat : Int) = u := ⟨_, rfl⟩
                have kc := valC_at HV.out t hlt
                rw [Nat.zero_add, hu] at kc
                have kf := HF.out t
                have HV2 := Lib.hid (show ValC (wr.setCell ⟨g, t, none⟩ (.int .u8 255)) (.slice (some ⟨g, 0, none⟩) 300 300) (fillF (t + 1)) from by
                  have h := valC_set HV.out t hlt 255
                  rw [Nat.zero_add, fillF_succ t hlt] at h
                  exact h)
                have HF2 := Lib.hid (show ∀ j, (wr.setCell ⟨g, t, none⟩ (.int .u8 255)).frozen? ⟨g, j, none⟩ = false from fun j => by rw [World.frozen?_setCell]; exact HF.out j)
                have HB2 := Lib.hid (HBW.out.setCell (p := ⟨g, t, none⟩) (Nat.le_of_eq HG.out) (.int .u8 255))
                have HLT := Lib.hid hlt
                have i1 : (0 : Int) ≤ (t : Int) := by omega
                clear hu
                go_wp2
                go_roundw
                case rel => exact ⟨t + 1, HLT.out, by go_num, HV2, HF2, HB2⟩
                case measure =>
                  simp only [intOf]
                  have := HLT.out
                  omega
              · have dd : decide ((t : Int) < 300) = false := dF (by omega)
                have dn : decide (t < 300) = false := dF hlt
                obtain rfl : t = 300 := by omega
                have HVF := Lib.hid (show ValC wr (.slice (some ⟨g, 0, none⟩) 300 300) F300 from by rw [← fillF_full]; exact HV.out)
                have HOA := Lib.hid (HO9.out.below HBW.out)
                have HXA := Lib.hid (HX9.out.below HBW.out)
                have HYA := Lib.hid (HY.out.below HBW.out)
                have HKA := Lib.hid (HK9.out.below HBW.out)
                have HJA := Lib.hid (HJ9.out.below HBW.out)
                have HCD := Lib.hid (show (∀ x ∈ c6, w.heap.size ≤ x) ∧ (∀ x ∈ cx, x ∉ c6) ∧ (∀ x ∈ cy, x ∉ c6) ∧ (∀ x ∈ cy, x ∉ cx) ∧ g ∉ c6 ∧ g ∉ cx ∧ g ∉ cy from by
                  have h7 := HS7.out
                  have h8 := HS8.out
                  have hg := HG.out
                  refine ⟨HO9.out.g, fun x h1 h2 => ?_, fun x h1 h2 => ?_, fun x h1 h2 => ?_, fun h1 => ?_, fun h1 => ?_, fun h1 => ?_⟩
                  · have := HCX.out x h1; have := h7.2.2 x h2; omega
                  · have := HCY.out x h1; have := h7.2.2 x h2; omega
                  · have := HCY.out x h1; have := h8.2.1 x h2; omega
                  · have := h7.2.2 g h1; omega
                  · have := h8.2.1 g h1; omega
                  · have := h8.2.2 g h1; omega)
                have HCE := Lib.hid (show (∀ x ∈ c6, x < w6.heap.size) ∧ (∀ x ∈ cx, w7.heap.size ≤ x) ∧ (∀ x ∈ cy, w7.heap.size ≤ x) ∧ w5.heap.size ≤ w7.heap.size from ⟨HC7.out, HCX.out, fun x h => Nat.le_trans HS7.out.2.1 (HCY.out x h), HSZ57.out⟩)
                clear HV HF HBW HO9 HX9 HY HK9 HJ9 ht hlt
                go_wp2_with fail
                refine (crashD_any q am nm cm M c6 SB wr HOA.out.dk HBN.out.2.1 (HM.out.below HOA.out.bel) (fun b off e => (HM.out.lt b off nm cm (by rw [e])).imp id (fun h e2 => by have := HCD.out.1 b e2; omega)) (by have := HBN.out.2.2.2; omega) (by have := HNM.out; omega)).mono ?_; rintro e wb ⟨rfl, hs, hf⟩
                have HOB := Lib.hid (HOA.out.same (t := crash SB M) hs hf)
                have HXB := Lib.hid (HXA.out.frm hf HCD.out.2.1)
                have HYB := Lib.hid (HYA.out.frm hf HCD.out.2.2.1)
                have HVB := Lib.hid (HVF.out.frm hf HCD.out.2.2.2.2.1)
                have HKB := Lib.hid (HKA.out.frm hf HC6.out)
                have HJB := Lib.hid (HJA.out.frm hf (fun x hx => Or.inl (HCE.out.1 x hx)))
                clear hs hf HOA HXA HYA HVF HKA HJA
                go_wp2_with fail
                refine (reboot_any q c6 _ wb HOB.out.dk).mono ?_; rintro e wc ⟨rfl, hs, hf⟩
                have HOC := Lib.hid (HOB.out.same hs hf)
                have HXC := Lib.hid (HXB.out.frm hf HCD.out.2.1)
                have HYC := Lib.hid (HYB.out.frm hf HCD.out.2.2.1)
                have HVC := Lib.hid (HVB.out.frm hf HCD.out.2.2.2.2.1)
                have HKC := Lib.hid (HKB.out.frm hf HC6.out)
                have HJC := Lib.hid (HJB.out.frm hf (fun x hx => Or.inl (HCE.out.1 x hx)))
                obtain ⟨SD, hSD⟩ : ∃ z, ({ crash SB M with down := false } : DkP) = z := ⟨_, rfl⟩
                have HDN := Lib.hid (show SD.n = N ∧ SD.down = false ∧ SD.P.length = 0 ∧ SD.R = (crash SB M).R from by rw [← hSD]; exact ⟨HBN.out.1, rfl, rfl, rfl⟩)
                rw [hSD] at HOC
                clear hs hf hSD HOB HXB HYB HVB HKB HJB
                have HAP := Lib.hid (show (∀ b ∈ c6, b ∉ cx) ∧ (∀ b ∈ c6, b ∉ cy) ∧ (∀ b ∈ cx, b ∉ cy) ∧ (∀ b ∈ cx, w.heap.size ≤ b) ∧ (∀ b ∈ cy, w.heap.size ≤ b) from ⟨fun b h1 h2 => HCD.out.2.1 b h2 h1, fun b h1 h2 => HCD.out.2.2.1 b h2 h1, fun b h1 h2 => HCD.out.2.2.2.1 b h2 h1, fun b h => Nat.le_trans HS7.out.1 (HCE.out.2.1 b h), fun b h => Nat.le_trans HS7.out.1 (HCE.out.2.2.1 b h)⟩)
                go_wp2_with fail
                refine (crashD_any qx (some ⟨g, 0, none⟩) 300 300 F300 cx SX wc HXC.out HXN.out.2.1 HVC.out (fun b off e => Or.inr (by injection e with e; injection e with e _; subst e; exact HCD.out.2.2.2.2.2.1)) (by have := HXN.out.2.2.1; omega) (by decide)).mono ?_; rintro e wd ⟨rfl, hs, hf⟩
                have HXD := Lib.hid hs
                have HOD := Lib.hid (HOC.out.other hf HAP.out.1 HAP.out.2.2.2.1)
                have HYD := Lib.hid (HYC.out.frm hf HCD.out.2.2.2.1)
                have HKD := Lib.hid (HKC.out.frm hf (fun x hx => Or.inr (Nat.le_trans HCE.out.2.2.2 (HCE.out.2.1 x hx))))
                have HJD := Lib.hid (HJC.out.frm hf (fun x hx => Or.inr (HCE.out.2.1 x hx)))
                clear hs hf HOC HXC HYC HVC HKC HJC
                go_wp2_with fail
                refine (reboot_any qx cx _ wd HXD.out).mono ?_; rintro e we ⟨rfl, hs, hf⟩
                have HXE := Lib.hid hs
                have HOE := Lib.hid (HOD.out.other hf HAP.out.1 HAP.out.2.2.2.1)
                have HYE := Lib.hid (HYD.out.frm hf HCD.out.2.2.2.1)
                have HKE := Lib.hid (HKD.out.frm hf (fun x hx => Or.inr (Nat.le_trans HCE.out.2.2.2 (HCE.out.2.1 x hx))))
                have HJE := Lib.hid (HJD.out.frm hf (fun x hx => Or.inr (HCE.out.2.1 x hx)))
                obtain ⟨SX2, hSX2⟩ : ∃ z, ({ crash SX F300 with down := false } : DkP) = z := ⟨_, rfl⟩
                have HX2 := Lib.hid (show SX2.n = N ∧ SX2.down = false ∧ SX2.R = SB.R from by rw [← hSX2]; exact ⟨HXN.out.1, rfl, (HXN.out.2.2.2 F300).trans (crash_full HIB.out.1)⟩)
                rw [hSX2] at HXE
                clear hs hf hSX2 HOD HXD HYD HKD HJD
                go_wp2_with fail
                refine (crashD_any qy none 0 0 [] cy SY we HYE.out HYN.out.2.1 (valC_nilD we) (fun b off e => by cases e) (by have := HYN.out.2.2.1; omega) (by decide)).mono ?_; rintro e wf ⟨rfl, hs, hf⟩
                have HYF := Lib.hid hs
                have HOF := Lib.hid (HOE.out.other hf HAP.out.2.1 HAP.out.2.2.2.2)
                have HXF := Lib.hid (HXE.out.frm hf HAP.out.2.2.1)
                have HKF := Lib.hid (HKE.out.frm hf (fun x hx => Or.inr (Nat.le_trans HCE.out.2.2.2 (HCE.out.2.2.1 x hx))))
                have HJF := Lib.hid (HJE.out.frm hf (fun x hx => Or.inr (HCE.out.2.2.1 x hx)))
                clear hs hf HOE HXE HYE HKE HJE
                go_wp2_with fail
                refine (reboot_any qy cy _ wf HYF.out).mono ?_; rintro e wg ⟨rfl, hs, hf⟩
                have HYG := Lib.hid hs
                have HOG := Lib.hid (HOF.out.other hf HAP.out.2.1 HAP.out.2.2.2.2)
                have HXG := Lib.hid (HXF.out.frm hf HAP.out.2.2.1)
                have HKG := Lib.hid (HKF.out.frm hf (fun x hx => Or.inr (Nat.le_trans HCE.out.2.2.2 (HCE.out.2.2.1 x hx))))
                have HJG := Lib.hid (HJF.out.frm hf (fun x hx => Or.inr (HCE.out.2.2.1 x hx)))
                obtain ⟨SY2, hSY2⟩ : ∃ z, ({ crash SY [] with down := false } : DkP) = z := ⟨_, rfl⟩
                have HY2 := Lib.hid (show SY2.n = N ∧ SY2.down = false ∧ SY2.R = SF.R from by rw [← hSY2]; exact ⟨HYN.out.1, rfl, ((HYN.out.2.2.2 []).trans (crash_none HIB.out.1)).trans HRF.out.symm⟩)
                rw [hSY2] at HYG
                clear hs hf hSY2 HOF HXF HYF HKF HJF
                go_wp2_with fail
                refine (all_up qx cx SX2 wg HXG.out HX2.out.2.1).mono ?_; rintro e wh ⟨vh, rfl, hoh, hbh⟩
                obtain ⟨ah, kh, rfl, -, -⟩ := hoh.bb.row
                rw [secL_len, HX2.out.1] at hoh ⊢
                have hsec : secL SX2 N = secL SB N := by rw [secL, secL, HX2.out.2.2]
                rw [hsec] at hoh
                have HRH := Lib.hid (hoh.at_).2.1
                have HOH := Lib.hid (HOG.out.below hbh)
                have HYH := Lib.hid (HYG.out.below hbh)
                have HKH := Lib.hid (HKG.out.below hbh)
                have HRN := Lib.hid (HN7.out.keep (HJG.out.below hbh)).at_.2.1
                clear hoh hbh hsec HOG HYG HKG HJG HXG
                go_wp2_with fail
                refine (lists_same ah a7 N kh k7 (secL SB N) wh HRH.out HRN.out (by have := HNN.out; omega)).mono ?_; rintro e wi ⟨rfl, hbi⟩
                have HOI := Lib.hid (HOH.out.below hbi)
                have HYI := Lib.hid (HYH.out.below hbi)
                have HKI := Lib.hid (HKH.out.below hbi)
                clear hbi HOH HYH HKH HRH HRN
                go_wp2_with fail
                refine (all_up qy cy SY2 wi HYI.out HY2.out.2.1).mono ?_; rintro e wj ⟨vj, rfl, hoj, hbj⟩
                obtain ⟨aj, kj, rfl, -, -⟩ := hoj.bb.row
                rw [secL_len, HY2.out.1] at hoj ⊢
                have hsec : secL SY2 N = secL SF N := by rw [secL, secL, HY2.out.2.2]
                rw [hsec] at hoj
                have HRJ := Lib.hid (hoj.at_).2.1
                have HOJ := Lib.hid (HOI.out.below hbj)
                have HKJ := Lib.hid (HKI.out.below hbj)
                have HRM := Lib.hid (HW5.out.keep HKJ.out).at_.2.1
                clear hoj hbj hsec HOI HKI HYI
                go_wp2_with fail
                refine (lists_same aj a5 N kj k5 (secL SF N) wj HRJ.out HRM.out (by have := HNN.out; omega)).mono ?_; rintro e wk ⟨rfl, hbk⟩
                have HOK := Lib.hid (HOJ.out.below hbk)
                have HKK := Lib.hid (HKJ.out.below hbk)
                clear hbk HOJ HKJ HRJ HRM
                go_wp2_with fail
                refine (all_up q c6 SD wk HOK.out.dk HDN.out.2.1).mono ?_; rintro e wl ⟨vl, rfl, hol, hbl⟩
                obtain ⟨al, kl, rfl, -, -⟩ := hol.bb.row
                rw [secL_len, HDN.out.1] at hol ⊢
                have HGR := Lib.hid (hol.at_).2.1
                have HOL := Lib.hid (HOK.out.below hbl)
                have HWR2 := Lib.hid (HW5.out.keep (HKK.out.below hbl)).at_.2.1
                have HSRC := Lib.hid (show ∀ k, SD.R k = SF.R k ∨ ∃ j, j < nb ∧ Hit (B.getD j opD) k (SD.R k) from fun k => by rw [HDN.out.2.2.2, HRF.out]; exact crash_src HIB.out.1 M k)
                clear hol hbl HOK HKK HCD HCE HAP HIB HIF HXN HYN HX2 HY2 HC6 HC5 HC7 HCX HCY HS7 HS8 HSZ57 HS56 HZ5 HW5 HN7 HBN HWR HPF HG HWA
                go_wp2_with fail
                go_loopw [18] (fun i wr => ∃ t : Nat, t ≤ N ∧ i = .int .i64 t ∧ Hid (Below wl.heap.size wl wr)) (fun i _ => N - (intOf i).toNat)
                case atStart => exact ⟨0, Nat.zero_le _, rfl, Lib.hid (Below.refl _ _)⟩
                case round =>
                  obtain ⟨t, ht, rfl, HBR⟩ := hrel
                  have hN60 := HNN.out.2
                  by_cases hlt : t < N
                  · have dd : decide ((t : Int) < (N : Int)) = true := dT (by omega)
                    have dn : decide (t < N) = true := dT hlt
                    obtain ⟨b1, o1, ai, ci, e1, -, k1, r1, n1⟩ := (HGR.out.below HBR.out).at t hlt
                    obtain ⟨b2, o2, aj2, cj, e2, -, k2, r2, n2⟩ := (HWR2.out.below HBR.out).at t hlt
                    subst e1
                    subst e2
                    obtain ⟨X, hX⟩ : ∃ z, SD.R t = z := ⟨_, rfl⟩
                    obtain ⟨Wt, hW⟩ : ∃ z, SF.R t = z := ⟨_, rfl⟩
                    have hX2 : (secL SD N).getD t [] = X := by rw [← hX]; simp [secL, List.getD_eq_getElem?_getD, hlt]
                    have hW2 : (secL SF N).getD t [] = Wt := by rw [← hW]; simp [secL, List.getD_eq_getElem?_getD, hlt]
                    rw [hX2] at k1 r1 n1
                    rw [hW2] at k2 r2 n2
                    have HSR := Lib.hid (show X = Wt ∨ ∃ j, j < nb ∧ Hit (B.getD j opD) t X from by have h := HSRC.out t; rw [hX, hW] at h; exact h)
                    obtain ⟨ok0, hok0⟩ : ∃ z, (X == Wt) = z := ⟨_, rfl⟩
                    have HBS := Lib.hid (fun z => bytes_any ai aj2 X.length Wt.length ci cj X Wt (wr.drewN z) (CellsAt.below r1 (below_drewN (Below.refl _ _) z)) (CellsAt.below r2 (below_drewN (Below.refl _ _) z)) n1 n2)
                    rw [hok0] at HBS
                    have HOK0 := Lib.hid hok0
                    have HLT := Lib.hid hlt
                    obtain ⟨lx, hlx⟩ : ∃ z, X.length = z := ⟨_, rfl⟩
                    obtain ⟨lw, hlw⟩ : ∃ z, Wt.length = z := ⟨_, rfl⟩
                    rw [hlx] at k1 r1 n1 HBS
                    rw [hlw] at k2 HBS
                    have HN1 := Lib.hid n1
                    have HLX := Lib.hid hlx
                    have i1 : (0 : Int) ≤ (t : Int) := by omega
                    have i2 : (t : Int) < (N : Int) := by omega
                    have HR1 := Lib.hid r1
                    have HK1 := Lib.hid k1
                    clear r1 n1 r2 n2 hX hW hX2 hW2 hok0 hlx hlw ht
                    go_upto_region 33 with (fail)
                    go_quiet ((go_at_call 16; exact quiet_same (HBS.out _)))
                    rename_i nq
                    have HBQ := Lib.hid (below_drewN HBR.out nq)
                    have HR1Q := Lib.hid (show RowB (wr.drewN nq) ai lx X from CellsAt.below HR1.out (below_drewN (Below.refl _ _) nq))
                    have HK1Q := Lib.hid (show (wr.drewN nq).cell? ⟨b1, o1 + t, none⟩ = some (.slice ai lx ci) from HK1.out)
                    obtain ⟨wq, hwq⟩ : ∃ z, wr.drewN nq = z := ⟨_, rfl⟩
                    rw [hwq] at HBQ HR1Q HK1Q ⊢
                    clear hwq k1 k2 HBS HR1 HK1 HBR
                    go_wp2_with fail
                    go_loopw [19, 20] (fun okv i wx => ∃ (j : Nat) (okb : Bool), j ≤ nb ∧ okv = .bool okb ∧ i = .int .i64 j ∧ Hid ((X = Wt → okb = true) ∧ ∀ j', j' < j → Hit (B.getD j' opD) t X → okb = true) ∧ Hid (Below wq.heap.size wq wx)) (fun _ i _ => nb - (intOf i).toNat)
                    case atStart => exact ⟨0, ok0, Nat.zero_le _, rfl, rfl, Lib.hid ⟨fun e => by rw [← HOK0.out, e]; simp, fun j' h => absurd h (Nat.not_lt_zero _)⟩, Lib.hid (Below.refl _ _)⟩
                    case round =>
                      obtain ⟨j, okb, hj, rfl, rfl, HHI, HBX⟩ := hrel
                      have hnb := HFW.out.2.1
                      by_cases hjl : j < nb
                      · have dj : decide ((j : Int) < (nb : Int)) = true := dT (by omega)
                        have djn : decide (j < nb) = true := dT hjl
                        have HBELW := Lib.hid (((HOL.out.bel.trans (HBQ.out.mono HOL.out.bel.size)).trans (HBX.out.mono (Nat.le_trans HOL.out.bel.size HBQ.out.size))))
                        obtain ⟨o, ho⟩ : ∃ z, B.getD j opD = z := ⟨_, rfl⟩
                        obtain ⟨b, off, eab, ai2, ci2, c0, c1, -, c3, hv, hbm, hkm⟩ := (HB.out.below HBELW.out).at j hjl
                        subst eab
                        rw [ho] at c0 c1 c3 hv hbm hkm
                        have HOE := Lib.hid ho
                        obtain ⟨kd, hkd⟩ : ∃ z, o.kind = z := ⟨_, rfl⟩
                        obtain ⟨kz, hkz⟩ : ∃ z, o.k = z := ⟨_, rfl⟩
                        obtain ⟨ob, hob⟩ : ∃ z, o.b = z := ⟨_, rfl⟩
                        rw [hkd] at c0
                        rw [hkz] at c1
                        rw [hob] at c3 hv hbm
                        obtain ⟨bl, hbl⟩ : ∃ z, ob.length = z := ⟨_, rfl⟩
                        rw [hbl] at c3 hv hbm
                        have HBL := Lib.hid hbl
                        have HKO := Lib.hid (show o.kind = kd ∧ o.k = kz ∧ o.b = ob from ⟨hkd, hkz, hob⟩)
                        have HJL := Lib.hid hjl
                        have j1 : (0 : Int) ≤ (j : Int) := by omega
                        have j2 : (j : Int) < (nb : Int) := by omega
                        obtain ⟨z1, hz1⟩ : ∃ z, IntKind.i64.wrap ((t : Int) - kz) = z := ⟨_, rfl⟩
                        obtain ⟨z2, hz2⟩ : ∃ z, IntKind.i64.wrap (z1 * 256) = z := ⟨_, rfl⟩
                        clear hkd hkz hob hbl hkm ho hjl hj
                        have HSAME := Lib.hid (show ¬ Hit (B.getD j opD) t X → (X = Wt → okb = true) ∧ ∀ j', j' < j + 1 → Hit (B.getD j' opD) t X → okb = true from fun hno => ⟨HHI.out.1, fun j' h1 h2 => by
                          by_cases e : j' = j
                          · subst e; exact absurd h2 hno
                          · exact HHI.out.2 j' (by omega) h2⟩)
                        by_cases hh : kd = 1 ∧ 0 ≤ kz ∧ kz ≤ (t : Int)
                        · obtain ⟨hk1, hk2, hk3⟩ := hh
                          subst hk1
                          obtain ⟨K, rfl⟩ : ∃ K : Nat, kz = (K : Int) := ⟨kz.toNat, by omega⟩
                          have hKt : K ≤ t := by omega
                          obtain ⟨D0, hD0⟩ : ∃ z, t - K = z := ⟨_, rfl⟩
                          obtain ⟨E, hE⟩ : ∃ z, 256 * D0 = z := ⟨_, rfl⟩
                          have hz1' : IntKind.i64.wrap ((t : Int) - (K : Int)) = (D0 : Int) := by rw [IntKind.wrap_i64]; omega
                          have hz2' : IntKind.i64.wrap ((D0 : Int) * 256) = (E : Int) := by rw [IntKind.wrap_i64]; omega
                          clear hz1 hz2
                          have p1 : decide ((0 : Int) ≤ (K : Int)) = true := dT hk2
                          have p2 : decide ((K : Int) ≤ (t : Int)) = true := dT hk3
                          have p2n : decide (K ≤ t) = true := dT hKt
                          have HDE := Lib.hid (show t - K = D0 ∧ 256 * D0 = E ∧ K ≤ t from ⟨hD0, hE, hKt⟩)
                          clear hD0 hE hk2 hk3 hKt
                          by_cases hEb : E < bl
                          · have p3 : decide ((E : Int) < (bl : Int)) = true := dT (by omega)
                            have p3n : decide (E < bl) = true := dT hEb
                            have hmk : ∀ W, (Instr.makeSlice 25 (.int .i64 256) (.int .i64 256)).run Try.prog W = .ok (.slice (some ⟨W.heap.size, 0, none⟩) 256 256) (W.alloc (.cells (bc (zB 256)).toArray 5)) := fun W => make_run8 256 (by decide) W
                            have hba := (Below.refl wr.heap.size wr).alloc (Nat.le_refl _) (.cells (bc (zB 256)).toArray 5)
                            obtain ⟨ad2, hsl, hvr, -⟩ := hv.rest E (by omega)
                            obtain ⟨hb1, hb2, hb3⟩ := box_sector wr ((ob.drop E).take 256) (by rw [List.length_take]; exact Nat.min_le_left _ _) (bc (zB 256)).toArray rfl 5
                            have hvr2 := hvr _ (hv.below hba)
                            obtain ⟨m3, hm3⟩ : ∃ z, bl - E = z := ⟨_, rfl⟩
                            obtain ⟨c4, hc4⟩ : ∃ z, ci2 - E = z := ⟨_, rfl⟩
                            rw [hm3, hc4] at hsl hvr2
                            have hml := hvr2.open.1
                            have hxs : (ob.drop E).take 256 ++ List.replicate (256 - ((ob.drop E).take 256).length) 0 = secP ob D0 := by rw [secP, HDE.out.2.1]
                            obtain ⟨x, hx⟩ : ∃ z, (ob.drop E).take 256 = z := ⟨_, rfl⟩
                            rw [hx] at hb2 hb3 hxs
                            have hxl : x.length = Nat.min m3 256 := by rw [← hx, List.length_take, hml]; exact Nat.min_comm _ _
                            rw [hxs] at hb3
                            obtain ⟨Y, hY⟩ : ∃ z, secP ob D0 = z := ⟨_, rfl⟩
                            rw [hY] at hb3
                            have hYl : Y.length = 256 := by rw [← hY]; exact secP_len _ _
                            have HHT := Lib.hid (show Hit (B.getD j opD) t X → X = Y from fun h => by
                              obtain ⟨_, K', h1, h2, h3, h4⟩ := h
                              rw [HOE.out, HKO.out.2.1] at h1
                              have : K' = K := by omega
                              subst this
                              rw [h4, HOE.out, HKO.out.2.2, HDE.out.1, hY])
                            have HCN2 := Lib.hid (show (bc x).length = Nat.min m3 256 by rw [bc_length, hxl])
                            have HPOS := Lib.hid (show 0 < (bc x).length → (some ⟨wr.heap.size, 0, none⟩ : Option Addr) = some ⟨wr.heap.size, 0, none⟩ ∧ ∃ ad', ad2 = some ad' ∧ ∀ j v, (bc x)[j]? = some v → (wr.alloc (.cells (bc (zB 256)).toArray 5)).cell? (ad'.add j) = some v from fun h0 => by
                              refine ⟨rfl, ?_⟩
                              rcases hvr2.open.2.2.1.2 with h1 | ⟨b', o', rfl, _, hc⟩
                              · rw [bc_length, hxl, h1] at h0
                                simp at h0
                              · refine ⟨_, rfl, fun j v hv => ?_⟩
                                rw [Addr.add_mid]
                                refine hc j v ?_
                                rw [← hx, bc, List.getElem?_map, List.getElem?_take] at hv
                                split at hv
                                · rw [bc, List.getElem?_map]; exact hv
                                · simp at hv)
                            have HC1 := Lib.hid (show ∀ j, j < (bc x).length → ((wr.alloc (.cells (bc (zB 256)).toArray 5)).cell? ⟨wr.heap.size, 0 + j, none⟩).isSome = true from fun j hj => (hb1 j (by rw [bc_length, hxl] at hj; exact Nat.lt_of_lt_of_le hj (Nat.min_le_right _ _))).1)
                            have HC2 := Lib.hid (show ∀ j, j < (bc x).length → (wr.alloc (.cells (bc (zB 256)).toArray 5)).frozen? ⟨wr.heap.size, 0 + j, none⟩ = false from fun j hj => (hb1 j (by rw [bc_length, hxl] at hj; exact Nat.lt_of_lt_of_le hj (Nat.min_le_right _ _))).2)
                            have HX1 := Lib.hid (bc_oneCell x)
                            have HBX2 := Lib.hid (HBX.out.trans (hb2.mono HBX.out.size))
                            have HR2 := Lib.hid (CellsAt.below HR1Q.out HBX2.out)
                            have kg := cell_later HBX2.out HK1Q.out
                            have ke := cell_later hba c3
                            have hsz : wr.heap.size < ((wr.alloc (.cells (bc (zB 256)).toArray 5)).setCells wr.heap.size 0 (bc x)).heap.size := by rw [setCells_size, World.size_alloc]; omega
                            have HYY := Lib.hid (show RowB ((wr.alloc (.cells (bc (zB 256)).toArray 5)).setCells wr.heap.size 0 (bc x)) (some ⟨wr.heap.size, 0, none⟩) 256 Y from ⟨by rw [bc_length, hYl], Or.inr ⟨_, _, rfl, hsz, hb3⟩⟩)
                            have HWX := Lib.hid (show okb = true ∨ (okb || (X == Y)) = (X == Y) from by cases okb; right; rfl; left; rfl)
                            have HREL := Lib.hid (show ∀ r : Bool, (okb = true → r = true) → (X = Y → r = true) → (X = Wt → r = true) ∧ ∀ j', j' < j + 1 → Hit (B.getD j' opD) t X → r = true from fun r h1 h2 => ⟨fun e => h1 (HHI.out.1 e), fun j' h3 h4 => by
                              by_cases e : j' = j
                              · subst e; exact h2 (HHT.out h4)
                              · exact h1 (HHI.out.2 j' (by omega) h4)⟩)
                            obtain ⟨wy, hwy⟩ : ∃ z, (wr.alloc (.cells (bc (zB 256)).toArray 5)).setCells wr.heap.size 0 (bc x) = z := ⟨_, rfl⟩
                            rw [hwy] at HBX2 HR2 kg HYY
                            have HWY := Lib.hid hwy
                            have KG := Lib.hid kg
                            clear kg
                            clear hwy hsz hYl hY hxl hx hxs hml hm3 hc4 hb1 hb2 hb3 hvr hvr2 hba hv hEb hbm HSAME HHT HHI HKO HOE
                            go_upto_region 40 with (fail)
                            clear c0 c1 p1 p2 p2n p3 p3n hmk hz1' hz2'
                            go_upto_region 41 with (refine wpList_copy_mid rfl (.tmp 186) (.tmp 193) 25 25 rfl 5 Try.underlying25 (by kernel_rfl) _ _ 256 256 m3 c4 rfl rfl wr.heap.size 0 (bc x) HCN2.out HPOS.out HC1.out HC2.out HX1.out ?_; rw [HWY.out])
                            clear HCN2 HPOS HC1 HC2 HX1 HWY ke c3 hsl
                            have kg := KG.out
                            cases okb with
                            | true =>
                              have HRR := Lib.hid (HREL.out true (fun _ => rfl) (fun _ => rfl))
                              go_wp2
                              go_roundw
                              case rel => exact ⟨j + 1, true, HJL.out, rfl, by go_num, HRR, HBX2⟩
                              case measure =>
                                simp only [intOf]
                                have := HJL.out
                                omega
                            | false =>
                              obtain ⟨ok2, hok2⟩ : ∃ z, (X == Y) = z := ⟨_, rfl⟩
                              have HRR := Lib.hid (HREL.out ok2 (fun h => by cases h) (fun e => by rw [← hok2, e]; simp))
                              have HB3 := Lib.hid (bytes_any ai (some ⟨wr.heap.size, 0, none⟩) lx 256 ci 256 X Y wy HR2.out HYY.out HN1.out (fun e => by cases e))
                              rw [hok2] at HB3
                              clear hok2
                              go_wp2_with fail
                              refine HB3.out.mono ?_; rintro e wz ⟨rfl, rfl⟩
                              go_wp2
                              go_roundw
                              case rel => exact ⟨j + 1, ok2, HJL.out, rfl, by go_num, HRR, HBX2⟩
                              case measure =>
                                simp only [intOf]
                                have := HJL.out
                                omega
                          · have p3 : decide ((E : Int) < (bl : Int)) = false := dF (by omega)
                            have p3n : decide (E < bl) = false := dF hEb
                            have HNO := Lib.hid (HSAME.out (fun h => by
                              obtain ⟨_, K', h1, h2, h3, _⟩ := h
                              rw [HOE.out, HKO.out.2.1] at h1
                              rw [HOE.out, HKO.out.2.2, HBL.out] at h3
                              have := HDE.out
                              have : K' = K := by omega
                              subst this
                              omega))
                            clear hEb hv
                            go_wp2
                            go_roundw
                            case rel => exact ⟨j + 1, okb, HJL.out, rfl, by go_num, HNO, HBX⟩
                            case measure =>
                              simp only [intOf]
                              have := HJL.out
                              omega
                        · have HNO := Lib.hid (HSAME.out (fun h => by
                            obtain ⟨h0, K', h1, h2, h3, _⟩ := h
                            rw [HOE.out, HKO.out.2.1] at h1
                            rw [HOE.out, HKO.out.1] at h0
                            exact hh ⟨h0, by omega, by omega⟩))
                          have hd : (kd == 1) = false ∨ (kd = 1 ∧ decide (0 ≤ kz) = false) ∨ (kd = 1 ∧ decide (0 ≤ kz) = true ∧ decide (kz ≤ (t : Int)) = false) := by
                            by_cases h1 : kd = 1
                            · right
                              by_cases h2 : 0 ≤ kz
                              · exact Or.inr ⟨h1, dT h2, dF (fun h3 => hh ⟨h1, h2, h3⟩)⟩
                              · exact Or.inl ⟨h1, dF h2⟩
                            · exact Or.inl (eF h1)
                          clear hh hv HKO HOE
                          rcases hd with p1 | ⟨rfl, p2⟩ | ⟨rfl, p2, p3⟩
                          all_goals
                            go_wp2
                            go_roundw
                            case rel => exact ⟨j + 1, okb, HJL.out, rfl, by go_num, HNO, HBX⟩
                            case measure =>
                              simp only [intOf]
                              have := HJL.out
                              omega
                      · have dj : decide ((j : Int) < (nb : Int)) = false := dF (by omega)
                        have djn : decide (j < nb) = false := dF hjl
                        obtain rfl : okb = true := by
                          rcases HSR.out with h | ⟨j', h1, h2⟩
                          · exact HHI.out.1 h
                          · exact HHI.out.2 j' (by omega) h2
                        have HBX2 := Lib.hid (HBQ.out.trans (HBX.out.mono HBQ.out.size))
                        clear hjl hj HHI
                        go_wp2
                        go_roundw
                        case rel => exact ⟨t + 1, HLT.out, by go_num, HBX2⟩
                        case measure =>
                          simp only [intOf]
                          have := HLT.out
                          omega
                  · have dd : decide ((t : Int) < (N : Int)) = false := dF (by omega)
                    have dn : decide (t < N) = false := dF hlt
                    have HOM := Lib.hid (HOL.out.below HBR.out)
                    clear hlt
                    go_wp2_with fail
                    refine (first13 wr).mono ?_; rintro e wm ⟨rfl, hbm⟩
                    have HOZ := Lib.hid (HOM.out.below hbm)
                    clear hbm
                    go_wp2_with fail
                    refine (pending_any q c6 SD wm HOZ.out.dk).mono ?_; rintro e wz ⟨rfl, rfl⟩
                    rw [HDN.out.2.2.1]
                    go_wp2_with fail
                    refine (up_any q c6 SD wm HOZ.out.dk).mono ?_; rintro e wz ⟨rfl, rfl⟩
                    rw [HDN.out.2.1]
                    go_wp2
                    go_ret
                    exact ⟨rfl, HOZ.out.bel⟩
end Go.Proofs.Ytocfphijheidbaa
