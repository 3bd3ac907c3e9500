/- MdTurned: the walk. -/
import Derived.Test.YtmhiglhgkgannaaMdX
import Derived.Test.YtmhiglhgkgannaaStB
import Derived.Test.YtmhiglhgkgannaaMgA
namespace Go.Proofs.Ytmhiglhgkgannaa
open Go.RowKit

theorem rr_eqM (an : ByteArray) (at1 ac au : Int) (ad bn : ByteArray) (bt bc bu : Int) (bd : ByteArray) (x : Bool) (hx : (an.toList == bn.toList && (at1 == bt && (ac == bc && (au == bu && ad.toList == bd.toList)))) = x) (W : World) : (binOp .eql 30 (.agg #[.string an, .int .i64 at1, .int .i64 ac, .int .i64 au, .string ad]) (.agg #[.string bn, .int .i64 bt, .int .i64 bc, .int .i64 bu, .string bd])).run Try.prog W = .ok (.bool x) W := by
  rw [run_eql_struct, rr_equal, hx]; rfl
theorem bs_inj {l m : List UInt8} (h : bs l = bs m) : l = m := by rw [← bs_toList l, ← bs_toList m, h]
/-- A byte of the digest turned. -/
theorem turned54 {DT D2 : ByteArray} {ML : List UInt8} {j : Nat} {xb yb : UInt8} (hM : DT.data.toList = ML) (hl : ML.length = 54) (hj : 6 ≤ j ∧ j < 54) (hx : ML[j]'(by omega) = xb) (hy : xb ^^^ 1 = yb) (hD : bs (ML.set j yb) = D2) :
    D2.size = 54 ∧ (∀ i, i < 6 → byteAt D2 i = byteAt DT i) ∧ D2.extract 6 D2.size ≠ DT.extract 6 DT.size := by
  have h1 : D2.data.toList = ML.set j yb := by rw [← hD]; rfl
  have hz : D2.size = 54 := by rw [← hD, bs_size, List.length_set, hl]
  have hz0 : DT.size = 54 := by show DT.data.size = 54; rw [← Array.length_toList, hM, hl]
  refine ⟨hz, fun i hi => ?_, fun e => ?_⟩
  · unfold byteAt
    rw [h1, hM, List.getD_eq_getElem?_getD, List.getD_eq_getElem?_getD, List.getElem?_set_ne (by omega)]
  · have h2 := congrArg (fun b : ByteArray => b.data.toList[j - 6]?) e
    simp only [ByteArray.data_extract, Array.toList_extract, List.extract_eq_take_drop, hz, hz0, h1, hM] at h2
    rw [List.getElem?_take_of_lt (by omega), List.getElem?_take_of_lt (by omega), List.getElem?_drop, List.getElem?_drop, show 6 + (j - 6) = j by omega, List.getElem?_set_self (by omega), List.getElem?_eq_getElem (by omega), hx] at h2
    exact xor1_ne xb (hy.trans (Option.some.inj h2))
theorem more2M {apex : ByteArray} {l SL : List R5} {x R : R5} (h : ZnM apex l x) (hR : isMd apex R = true) (hR1 : isMd1 apex R = true) (hm : mayM R = true) {M : R5} (hM : mayM M = true) (h6 : M.k.t ≠ 6) (h63 : M.k.t ≠ 63) (hs : SL = keepRM (isMd apex) l ++ [R]) {DG : ByteArray} (h1 : getN R.d 0 4 = getN (soaT x.d) 0 4) (h2 : R.d.extract 6 R.d.size = DG) (hE : dgE apex (SL ++ [M]) = 0) :
    dgE apex SL = 0 ∧ dgE apex (SL ++ [M]) = 0 ∧ chkE apex (SL ++ [M]) = if DG = bs (dgD apex (SL ++ [M])) then 0 else 5 := by
  subst hs
  obtain ⟨a, b, c⟩ := h.more hR hR1 hm hM h6 h63
  refine ⟨a, b, c.trans ?_⟩
  rw [if_pos h1, h2, dgD, if_pos hE]
theorem dgDM {apex : ByteArray} {l m : List R5} (h : dgE apex m = 0) (h2 : dgL apex m = dgL apex l) : bs (shaL (dgL apex l)) = bs (dgD apex m) := by rw [dgD, if_pos h, h2]
set_option maxRecDepth 100000 in
set_option maxHeartbeats 64000000 in
theorem walkTurned (apex : ByteArray) (a : Option Addr) (n c : Nat) (l : List R5) (rn : ByteArray) (rt rc ru : Int) (rd : ByteArray) (t : Int) (w : World) (h : RowR w a n l) (hna : a = none → n = 0 ∧ c = 0) (hlen : n ≤ 9223372036854775807) (hz : ∀ r ∈ l, SzR r) (hzr : SzR ⟨⟨rn, rt, rc⟩, ru, rd⟩) :
    Calls Try.prog 4 #[.string apex, .slice a n c, .agg #[.string rn, .int .i64 rt, .int .i64 rc, .int .i64 ru, .string rd], .int .i64 t] w fun e w' => e = .returned (.bool true) ∧ Below w.heap.size w w' := by
  obtain ⟨i0, hi, hz0, hz1, hz2⟩ := info_parts infoRR
  have HI := Lib.hid hi
  have HZ0 := Lib.hid hz0
  have HZ1 := Lib.hid hz1
  have HZ2 := Lib.hid hz2
  clear hi hz0 hz1 hz2
  have HB := Lib.hid (Below.refl w.heap.size w)
  have HZ := Lib.hid hz
  have HZR := Lib.hid hzr
  have HR := Lib.hid h
  have HLN := Lib.hid h.1
  have HNA := Lib.hid hna
  clear hz hzr h hna
  go_enter Try.func4, Try.ntmps4
  have hba := (Below.refl _ _ : Below w.heap.size w w).alloc (Nat.le_refl _) (.cells #[.string rn, .int .i64 rt, .int .i64 rc, .int .i64 ru, .string rd] 30)
  have HC := Lib.hid (CN.new w #[.string rn, .int .i64 rt, .int .i64 rc, .int .i64 ru, .string rd] 30)
  replace HB := Lib.hid (HB.out.trans (hba.mono HB.out.size))
  replace HR := Lib.hid (HR.out.below hba)
  obtain ⟨w2, hw⟩ : ∃ x, w.alloc (.cells #[.string rn, .int .i64 rt, .int .i64 rc, .int .i64 ru, .string rd] 30) = x := ⟨_, rfl⟩
  obtain ⟨q2, hq⟩ : ∃ x, w.heap.size = x := ⟨_, rfl⟩
  rw [hw, hq] at HC
  rw [hw] at HB HR
  have HW := Lib.hid hw
  have HQ_ := Lib.hid hq
  clear hba hw hq
  go_upto_region 1 with (fail)
  rw [HW.out, HQ_.out]
  clear HW HQ_
  go_wp2_with fail
  refine (first9 _).mono ?_; rintro e w3 ⟨rfl, hb⟩
  replace HB := Lib.hid (HB.out.trans (hb.mono HB.out.size))
  replace HR := Lib.hid (HR.out.below hb)
  replace HC := Lib.hid (HC.out.below hb)
  clear hb
  go_wp2_with fail
  refine (few9 a n c l _ HR.out hlen HZ.out).mono ?_; rintro e w4 ⟨hf, hb⟩
  replace HB := Lib.hid (HB.out.trans (hb.mono HB.out.size))
  replace HR := Lib.hid (HR.out.below hb)
  replace HC := Lib.hid (HC.out.below hb)
  clear hb
  rcases hf with rfl | ⟨rfl, hn, hsx⟩
  · go_wp2_with fail
    refine (first9 _).mono ?_; rintro e w5 ⟨rfl, hb⟩
    replace HB := Lib.hid (HB.out.trans (hb.mono HB.out.size))
    replace HR := Lib.hid (HR.out.below hb)
    replace HC := Lib.hid (HC.out.below hb)
    clear hb
    go_wp2
    go_ret
    exact ⟨rfl, HB.out⟩
  · have HN := Lib.hid hn
    have HSX := Lib.hid hsx
    clear hsx
    obtain ⟨x0, x1, x2, x3, x4, _⟩ := HC.out.u5
    have hba := (Below.refl w4.heap.size w4).alloc (Nat.le_refl _) (.cells #[.string rn, .int .i64 rt, .int .i64 rc, .int .i64 ru, .string rd] 30)
    have HLM := Lib.hid (show RowR (w4.alloc (.cells #[.string rn, .int .i64 rt, .int .i64 rc, .int .i64 ru, .string rd] 30)) (some ⟨w4.heap.size, 0, none⟩) 1 [⟨⟨rn, rt, rc⟩, ru, rd⟩] from ⟨rfl, cells_lit w4 #[.string rn, .int .i64 rt, .int .i64 rc, .int .i64 ru, .string rd] 30⟩)
    replace HB := Lib.hid (HB.out.trans (hba.mono HB.out.size))
    replace HR := Lib.hid (HR.out.below hba)
    replace HC := Lib.hid (HC.out.below hba)
    go_wp2_with fail
    refine (few9 _ 1 1 _ _ HLM.out (by decide) (fun r hr => by rw [List.mem_singleton.1 hr]; exact HZR.out)).mono ?_; rintro e w5 ⟨hf, hb⟩
    clear hba HLM
    clear x0 x1 x2 x3 x4
    replace HB := Lib.hid (HB.out.trans (hb.mono HB.out.size))
    replace HR := Lib.hid (HR.out.below hb)
    replace HC := Lib.hid (HC.out.below hb)
    clear hb
    rcases hf with rfl | ⟨rfl, -, hsx⟩
    · go_wp2_with fail
      refine (first9 _).mono ?_; rintro e w6 ⟨rfl, hb⟩
      replace HB := Lib.hid (HB.out.trans (hb.mono HB.out.size))
      replace HR := Lib.hid (HR.out.below hb)
      replace HC := Lib.hid (HC.out.below hb)
      clear hb
      go_wp2
      go_ret
      exact ⟨rfl, HB.out⟩
    · have HSR := Lib.hid (hsx _ (List.mem_singleton.2 rfl))
      clear hsx
      by_cases ga : 1000 < apex.size
      · have d1 := dT ga
        have d2 := dT (p := (1000 : Int) < (apex.size : Int)) (by omega)
        clear ga
        go_wp2_with fail
        refine (first9 _).mono ?_; rintro e w6 ⟨rfl, hb⟩
        replace HB := Lib.hid (HB.out.trans (hb.mono HB.out.size))
        replace HR := Lib.hid (HR.out.below hb)
        replace HC := Lib.hid (HC.out.below hb)
        clear hb
        go_wp2
        go_ret
        exact ⟨rfl, HB.out⟩
      · have d1 := dF ga
        have d2 := dF (p := (1000 : Int) < (apex.size : Int)) (by omega)
        have HA := Lib.hid (show apex.size ≤ 1000000 by omega)
        clear ga
        by_cases gt : t < 0
        · have d3 := dT gt
          clear gt
          go_wp2_with fail
          refine (first9 _).mono ?_; rintro e w6 ⟨rfl, hb⟩
          replace HB := Lib.hid (HB.out.trans (hb.mono HB.out.size))
          replace HR := Lib.hid (HR.out.below hb)
          replace HC := Lib.hid (HC.out.below hb)
          clear hb
          go_wp2
          go_ret
          exact ⟨rfl, HB.out⟩
        · have d3 := dF gt
          by_cases g4 : 47 < t
          · have d4 := dT (p := (47 : Int) < t) g4
            clear gt g4
            go_wp2_with fail
            refine (first9 _).mono ?_; rintro e w6 ⟨rfl, hb⟩
            replace HB := Lib.hid (HB.out.trans (hb.mono HB.out.size))
            replace HR := Lib.hid (HR.out.below hb)
            replace HC := Lib.hid (HC.out.below hb)
            clear hb
            go_wp2
            go_ret
            exact ⟨rfl, HB.out⟩
          · have d4 := dF (p := (47 : Int) < t) g4
            obtain ⟨tn, rfl⟩ : ∃ tn : Nat, t = (tn : Int) := ⟨t.toNat, by omega⟩
            have HTN := Lib.hid (show tn ≤ 47 by omega)
            clear gt g4
            obtain ⟨E, hE⟩ : ∃ x, sgnE apex l = x := ⟨_, rfl⟩
            obtain ⟨SL, hSL⟩ : ∃ x, sgnL apex l = x := ⟨_, rfl⟩
            obtain ⟨ns, hns⟩ : ∃ x, SL.length = x := ⟨_, rfl⟩
            have HE := Lib.hid hE
            have HSL := Lib.hid hSL
            have HNS := Lib.hid hns
            clear hE hSL hns hn
            go_wp2_with fail
            refine (sign_any apex _ _ _ l _ HR.out HNA.out (by have := HN.out; omega) HSX.out HA.out).mono ?_; rintro e w6 ⟨⟨v1, u1, rfl, ho⟩, hb⟩
            replace HB := Lib.hid (HB.out.trans (hb.mono HB.out.size))
            replace HR := Lib.hid (HR.out.below hb)
            replace HC := Lib.hid (HC.out.below hb)
            clear hb
            rw [HE.out, HSL.out, HNS.out]
            rw [HSL.out, HNS.out] at ho
            have HSO := Lib.hid ho
            clear ho
            clear d1 d2 d3 d4
            by_cases hE0 : E = 0
            rotate_left
            · have e1 := nT hE0
              clear hE0
              go_wp2_with fail
              refine (first9 _).mono ?_; rintro e w7 ⟨rfl, hb⟩
              replace HB := Lib.hid (HB.out.trans (hb.mono HB.out.size))
              replace HR := Lib.hid (HR.out.below hb)
              replace HC := Lib.hid (HC.out.below hb)
              replace HSO := Lib.hid (own_below' HSO.out hb)
              clear hb
              go_wp2
              go_ret
              exact ⟨rfl, HB.out⟩
            · subst hE0
              obtain ⟨⟨⟨xn, xt, xc⟩, xu, xd⟩, hzn, -, hsl⟩ := ZnM.of HE.out
              rw [HSL.out] at hsl
              have HZN := Lib.hid hzn
              obtain ⟨TT, hTT⟩ : ∃ x, keepRM (isMd apex) l = x := ⟨_, rfl⟩
              have HTT := Lib.hid hTT
              obtain ⟨DG, hDG⟩ : ∃ x, bs (shaL (dgL apex l)) = x := ⟨_, rfl⟩
              have HDG := Lib.hid hDG
              obtain ⟨i2, hi2⟩ : ∃ x, getN (soaT xd) 0 4 = x := ⟨_, rfl⟩
              have HI2 := Lib.hid hi2
              have HFI := Lib.hid (show fits i2 4 = true by rw [← hi2]; exact hzn.ser)
              have HDS := Lib.hid (show DG.size = 48 by rw [← hDG]; exact dgB_size apex l)
              obtain ⟨DT, hDT⟩ : ∃ x, mdData i2 1 1 DG = x := ⟨_, rfl⟩
              have HDT := Lib.hid hDT
              have hrec : mdRec apex l ⟨⟨xn, xt, xc⟩, xu, xd⟩ = ⟨⟨apex, 63, xc⟩, xu, DT⟩ := by show (⟨⟨apex, 63, xc⟩, xu, mdData (getN (soaT xd) 0 4) 1 1 (bs (shaL (dgL apex l)))⟩ : R5) = _; rw [hi2, hDG, hDT]
              have HREC := Lib.hid hrec
              rw [hTT, hrec] at hsl
              have HS2 := Lib.hid hsl
              obtain ⟨mt, hmt⟩ : ∃ x, TT.length = x := ⟨_, rfl⟩
              have HMT := Lib.hid hmt
              have HMS := Lib.hid (show ns = mt + 1 by rw [← HNS.out, hsl, List.length_append, hmt]; rfl)
              have HMN := Lib.hid (show mt ≤ n by rw [← hmt, ← hTT, keepRM, ← HLN.out]; exact List.length_filter_le _ _)
              have HXT := Lib.hid (show (⟨⟨xn, xt, xc⟩, xu, xd⟩ : R5) ∈ TT from by
                have h1 := hzn.mem
                rw [← hTT]
                refine keepM_mem.2 ⟨h1.1, ?_⟩
                rw [Bool.eq_false_iff]; intro h9
                have h3 := (isMd_iff.1 h9).2
                have h4 : xt = 6 := h1.2.2.2.1
                have h5 : xt = 63 := h3
                omega)
              have HM1 := Lib.hid (show 1 ≤ mt by rw [← hmt]; exact List.length_pos_iff.2 (List.ne_nil_of_mem HXT.out))
              have HSS := Lib.hid (show ∀ r ∈ SL, SmX r from fun r hr => by
                rw [hsl] at hr
                rcases List.mem_append.1 hr with h | h
                · rw [← hTT] at h; exact HSX.out r (keepM_mem.1 h).1
                · rw [List.mem_singleton.1 h]
                  refine ⟨HA.out, ?_⟩
                  show DT.size ≤ 1000000
                  rw [← hDT, (md_ok HFI.out HDS.out).1]; decide)
              have HNN := Lib.hid (show ns ≤ 61 by have := HMS.out; have := HMN.out; have := HN.out; omega)
              have HDZ := Lib.hid (show DT.size = 54 by rw [← hDT]; exact (md_ok HFI.out HDS.out).1)
              have HMP := Lib.hid (show getN DT 0 4 = i2 ∧ byteAt DT 4 = 1 ∧ byteAt DT 5 = 1 ∧ DT.extract 6 DT.size = DG by rw [← hDT]; exact md_parts HFI.out HDS.out)
              have HRM := Lib.hid (show isMd apex ⟨⟨apex, 63, xc⟩, xu, DT⟩ = true ∧ isMd1 apex ⟨⟨apex, 63, xc⟩, xu, DT⟩ = true ∧ mayM ⟨⟨apex, 63, xc⟩, xu, DT⟩ = true by rw [← hDT]; exact hzn.mdR HFI.out HDS.out)
              clear hzn hsl hTT hDG hi2 hDT hrec hmt
              have d1 := dF (p := (ns : Int) < (2 : Int)) (by have := HMS.out; have := HM1.out; omega)
              have d2 := dF (p := ns < 2) (by have := HMS.out; have := HM1.out; omega)
              obtain ⟨b, of, rfl, x0, x1, x2, x3, x4⟩ := own_atS5 HSO.out mt apex 63 xc xu DT (by rw [HS2.out, List.getElem?_append_right (by rw [HMT.out]; exact Nat.le_refl _), HMT.out, Nat.sub_self]; rfl) (by have := HMS.out; omega)
              have hw1 : IntKind.i64.wrap ((ns : Int) - 1) = (mt : Int) := by have := HMS.out; have := HNN.out; rw [IntKind.wrap_i64]; omega
              have i1 : (0 : Int) ≤ (mt : Int) := by omega
              have i2x : (mt : Int) < (ns : Int) := by have := HMS.out; omega
              have hba := (Below.refl _ _ : Below w6.heap.size w6 w6).alloc (Nat.le_refl _) (.cells #[.string apex, .int .i64 63, .int .i64 xc, .int .i64 xu, .string DT] 30)
              have HL := Lib.hid (CN.new w6 #[.string apex, .int .i64 63, .int .i64 xc, .int .i64 xu, .string DT] 30)
              replace HB := Lib.hid (HB.out.trans (hba.mono HB.out.size))
              replace HR := Lib.hid (HR.out.below hba)
              replace HC := Lib.hid (HC.out.below hba)
              replace HSO := Lib.hid (own_below' HSO.out hba)
              obtain ⟨w7, hw⟩ : ∃ x, w6.alloc (.cells #[.string apex, .int .i64 63, .int .i64 xc, .int .i64 xu, .string DT] 30) = x := ⟨_, rfl⟩
              obtain ⟨q7, hq⟩ : ∃ x, w6.heap.size = x := ⟨_, rfl⟩
              rw [hw, hq] at HL
              rw [hw] at HB HR HC HSO
              have HW := Lib.hid hw
              have HQ_ := Lib.hid hq
              clear hba hw hq
              go_upto_region 9 with (fail)
              rw [HW.out, HQ_.out]
              clear HW HQ_
              clear x0 x1 x2 x3 x4 hw1 i1 i2x d1 d2
              obtain ⟨x0, x1, x2, x3, x4, _⟩ := HL.out.u5
              have e5 := nF (a := (DT.size : Int)) (b := 54) (by rw [HDZ.out]; rfl)
              go_wp2_with (refine conv_bytes rfl _ rfl DT rfl ?_)
              intro cap w30 hcap hb hsz hcell hfr
              clear x0 x1 x2 x3 x4
              clear HL HR e5
              have hSL : DT.data.toList.length = DT.size := by rw [Array.length_toList]; rfl
              obtain ⟨ML, hML⟩ : ∃ x, DT.data.toList = x := ⟨_, rfl⟩
              have HMLE := Lib.hid hML
              have HDB := Lib.hid (show CN w30 w7.heap.size (bc ML) from ⟨by rw [hsz]; omega, fun j u hj => by
                have hjl : j < DT.size := by have := (List.getElem?_eq_some_iff.1 hj).1; rw [bc_length, ← hML, hSL] at this; exact this
                refine ⟨?_, hfr j hjl⟩
                rw [hcell j hjl, ← hj, bc, List.getElem?_map, ← hML, Array.getElem?_toList, Array.getElem?_eq_getElem (show j < DT.data.size from hjl)]
                rfl⟩)
              have HML := Lib.hid (show ML.length = 54 by rw [← hML, hSL, HDZ.out])
              have HQB := Lib.hid (show w.heap.size ≤ w7.heap.size ∧ q2 < w7.heap.size ∧ ∀ k, (Value.slice (some ⟨b, of, none⟩) ns u1).ownBlock = some k → k < w7.heap.size from ⟨HB.out.size, HC.out.1, fun k hk => (HSO.out.lt k hk).2⟩)
              replace HB := Lib.hid (HB.out.trans (hb.mono HB.out.size))
              replace HC := Lib.hid (HC.out.below hb)
              replace HSO := Lib.hid (own_below' HSO.out hb)
              have HCAP := Lib.hid hcap
              clear hb hsz hcell hfr hSL hcap
              obtain ⟨qd, hqd⟩ : ∃ x, w7.heap.size = x := ⟨_, rfl⟩
              rw [hqd] at HDB HQB ⊢
              have hdz := HDZ.out
              rw [hdz]
              clear hqd hML hdz
              obtain ⟨j, hj⟩ : ∃ x, 6 + tn = x := ⟨_, rfl⟩
              have HJ := Lib.hid (show 6 ≤ j ∧ j < 54 by have := HTN.out; omega)
              obtain ⟨bc0, bf0⟩ := HDB.out.bat j (by rw [HML.out]; exact HJ.out.2)
              obtain ⟨xb, hxb⟩ : ∃ x, ML[j]'(by rw [HML.out]; exact HJ.out.2) = x := ⟨_, rfl⟩
              rw [hxb] at bc0
              have hxr := xor1M xb
              have HXB := Lib.hid hxb
              have HD4 := Lib.hid (HDB.out.bset j (by rw [HML.out]; exact HJ.out.2) (xb ^^^ 1))
              have hgm := grown_cell w30 qd j (.int .u8 ((xb ^^^ 1).toNat : Int))
              replace HB := Lib.hid (HB.out.grown hgm HB.out.size (fun k hk => by injection hk with hk; rw [← hk]; exact HQB.out.1))
              replace HC := Lib.hid (HC.out.grown hgm (fun e => by have e := Option.some.inj e; have := HQB.out.2.1; omega))
              replace HSO := Lib.hid (own_grownM HSO.out hgm (fun k hk e => by have h1 := HQB.out.2.2 k hk; injection e with e; omega))
              clear hxb
              obtain ⟨yb, hyb⟩ : ∃ x, xb ^^^ 1 = x := ⟨_, rfl⟩
              rw [hyb] at hxr HD4 HB HC HSO
              have HYB := Lib.hid hyb
              clear hyb hgm HDB
              have hw1 : IntKind.i64.wrap (6 + (tn : Int)) = (j : Int) := by have := HTN.out; rw [IntKind.wrap_i64]; omega
              have i1 : (0 : Int) ≤ (j : Int) := by omega
              have i2x : (j : Int) < 54 := by have := HJ.out.2; omega
              clear hj
              go_upto_region 13 with (fail)
              obtain ⟨w31, hw31⟩ : ∃ x, w30.setCell ⟨qd, j, none⟩ (.int .u8 (yb.toNat : Int)) = x := ⟨_, rfl⟩
              rw [hw31] at HB HC HSO HD4 ⊢
              clear hw31 hxr bc0 bf0 hw1 i1 i2x
              have hs := rowR_own2M HSO.out
              have HBC := Lib.hid HB.out.size
              have HQC := Lib.hid (show q2 < w31.heap.size ∧ ∀ k, (Value.slice (some ⟨b, of, none⟩) ns u1).ownBlock = some k → k < w31.heap.size from ⟨HC.out.1, fun k hk => (HSO.out.lt k hk).2⟩)
              go_wp2_with fail
              refine (copyRRs_any _ ns _ SL _ hs.1 hs.2 (by have := HNN.out; omega)).mono ?_; rintro e w8 ⟨v3, rfl, ho, hb⟩
              replace HB := Lib.hid (HB.out.trans (hb.mono HB.out.size))
              replace HC := Lib.hid (HC.out.below hb)
              replace HSO := Lib.hid (own_below' HSO.out hb)
              replace HD4 := Lib.hid (HD4.out.below hb)
              clear hb
              obtain ⟨va3, vc3, rfl, _⟩ := own_shapeM ho
              have HOT := Lib.hid ho
              clear ho hs
              obtain ⟨go, rfl⟩ : ∃ go, va3 = some ⟨go, 0, none⟩ := by
                rcases shape_ownM HOT.out with ⟨_, h0, _⟩ | ⟨go, c9, h9⟩
                · have := HMS.out; omega
                · injection h9 with h1; exact ⟨go, h1⟩
              have HGO := Lib.hid (show w31.heap.size ≤ go from (HOT.out.lt go rfl).1)
              obtain ⟨NL, hNL⟩ : ∃ x, ML.set j yb = x := ⟨_, rfl⟩
              rw [hNL] at HD4
              have HNL := Lib.hid hNL
              clear hNL
              have hcv := conv_row (cap := cap) (n := 54) (HD4.out.rowB (show NL.length = 54 by rw [← HNL.out, List.length_set, HML.out])) (fun h => by cases h)
              obtain ⟨D2, hD2⟩ : ∃ x, bs NL = x := ⟨_, rfl⟩
              rw [hD2] at hcv
              have HD2 := Lib.hid hD2
              clear hD2
              have hw1 : IntKind.i64.wrap ((ns : Int) - 1) = (mt : Int) := by have := HMS.out; have := HNN.out; rw [IntKind.wrap_i64]; omega
              have i1 : (0 : Int) ≤ (mt : Int) := by omega
              have i2x : (mt : Int) < (ns : Int) := by have := HMS.out; omega
              obtain ⟨z0, z1, z2, z3, z4, y0, y1, y2, y3, y4⟩ := own_cells5 HOT.out mt (by have := HMS.out; omega)
              have f4 := HOT.out.frozenAt (mt * 5 + 4)
              have HO4 := Lib.hid (own_last HOT.out (by rw [HS2.out]) (show TT.length = mt from HMT.out) D2)
              have hgm := grown_cell w8 go (mt * 5 + 4) (.string D2)
              clear y0 y1 y2 y3 z0 z1 z2 z3
              replace HB := Lib.hid (HB.out.grown hgm HB.out.size (fun k hk => by injection hk with hk; rw [← hk]; exact Nat.le_trans HBC.out HGO.out))
              replace HC := Lib.hid (HC.out.grown hgm (fun e => by have e := Option.some.inj e; have := HQC.out.1; have := HGO.out; omega))
              replace HSO := Lib.hid (own_grownM HSO.out hgm (fun k hk e => by have h1 := HQC.out.2 k hk; have h2 := HGO.out; injection e with e; omega))
              go_upto_region 15 with (fail)
              obtain ⟨wt, hwt⟩ : ∃ x, w8.setCell ⟨go, mt * 5 + 4, none⟩ (.string D2) = x := ⟨_, rfl⟩
              rw [hwt] at HB HSO HC HO4 ⊢
              clear hwt hgm y4 f4 hw1 i1 i2x HD4 HOT hcv z4
              have HTU := Lib.hid (turned54 HMLE.out HML.out HJ.out HXB.out HYB.out (show bs (ML.set j yb) = D2 by rw [HNL.out, HD2.out]))
              have HTM := Lib.hid (md_turn HDZ.out HTU.out.1 HMP.out.2.1 HMP.out.2.2.1 HTU.out.2.1)
              have hs := rowR_own2M HO4.out
              have HS4 := Lib.hid (show ∀ r ∈ TT ++ [⟨⟨apex, 63, xc⟩, xu, D2⟩], SmX r from fun r hr => by
                rcases List.mem_append.1 hr with h | h
                · exact HSS.out r (by rw [HS2.out]; exact List.mem_append.2 (Or.inl h))
                · rw [List.mem_singleton.1 h]
                  refine ⟨HA.out, ?_⟩
                  show D2.size ≤ 1000000
                  rw [HTU.out.1]; decide)
              go_wp2_with fail
              refine (check_any apex _ _ _ (TT ++ [⟨⟨apex, 63, xc⟩, xu, D2⟩]) _ hs.1 (by have := HNN.out; omega) HS4.out HA.out).mono ?_; rintro e w9 ⟨rfl, hb⟩
              replace HB := Lib.hid (HB.out.trans (hb.mono HB.out.size))
              replace HSO := Lib.hid (own_below' HSO.out hb)
              replace HC := Lib.hid (HC.out.below hb)
              replace HO4 := Lib.hid (own_below' HO4.out hb)
              clear hb
              rw [show chkE apex (TT ++ [⟨⟨apex, 63, xc⟩, xu, D2⟩]) = 5 by
                have h := HZN.out.check (m := TT ++ [⟨⟨apex, 63, xc⟩, xu, D2⟩]) (R := ⟨⟨apex, 63, xc⟩, xu, D2⟩) (isMd_iff.2 ⟨rfl, rfl⟩) (md1_of (x := ⟨⟨xn, xt, xc⟩, xu, xd⟩) HTM.out.1 HTM.out.2.1 HTM.out.2.2.1) (HZN.out.may HTM.out.1) (fun r => by rw [← HTT.out, List.mem_append, keepM_mem, List.mem_singleton])
                rw [h]
                show (if getN D2 0 4 = getN (soaT xd) 0 4 then (if D2.extract 6 D2.size = bs (shaL (dgL apex l)) then (0 : Int) else 5) else 12) = 5
                rw [HTM.out.2.2.2, HMP.out.1, HI2.out, HDG.out, if_pos rfl, if_neg (fun e => HTU.out.2.2 (e.trans HMP.out.2.2.2.symm))]]
              clear hs
              clear HO4
              have HZW := Lib.hid (HZN.out.with HRM.out.1 HRM.out.2.2 (m := SL) (fun r => by rw [HS2.out, ← HTT.out, List.mem_append, keepM_mem, List.mem_singleton]))
              obtain ⟨DL, hDL⟩ : ∃ x, dgD apex SL = x := ⟨_, rfl⟩
              obtain ⟨nd, hnd⟩ : ∃ x, DL.length = x := ⟨_, rfl⟩
              have HDL := Lib.hid hDL
              have HND := Lib.hid hnd
              clear hDL hnd
              have hs := rowR_own2M HSO.out
              go_wp2_with fail
              refine (digest_one apex _ _ _ SL _ hs.1 (by have := HNN.out; omega) HSS.out HA.out).mono ?_; rintro e w10 ⟨⟨v2, u2, rfl, ho⟩, hb⟩
              replace HB := Lib.hid (HB.out.trans (hb.mono HB.out.size))
              replace HSO := Lib.hid (own_below' HSO.out hb)
              replace HC := Lib.hid (HC.out.below hb)
              clear hb
              rw [HZW.out.1.dg, HDL.out, HND.out]
              rw [HDL.out, HND.out] at ho
              have HD1 := Lib.hid ho
              clear ho hs
              obtain ⟨E2, hE2⟩ : ∃ x, dgE apex (SL ++ [⟨⟨rn, rt, rc⟩, ru, rd⟩]) = x := ⟨_, rfl⟩
              obtain ⟨EL, hEL⟩ : ∃ x, dgD apex (SL ++ [⟨⟨rn, rt, rc⟩, ru, rd⟩]) = x := ⟨_, rfl⟩
              obtain ⟨ne, hne⟩ : ∃ x, EL.length = x := ⟨_, rfl⟩
              have HE2 := Lib.hid hE2
              have HEL := Lib.hid hEL
              have HNE := Lib.hid hne
              clear hE2 hEL hne
              have HSM := Lib.hid (show ∀ r ∈ SL ++ [⟨⟨rn, rt, rc⟩, ru, rd⟩], SmX r from fun r hr => by rcases List.mem_append.1 hr with h | h; exact HSS.out r h; rw [List.mem_singleton.1 h]; exact HSR.out)
              obtain ⟨x0, x1, x2, x3, x4, _⟩ := HC.out.u5
              go_upto_region 18 with (fail)
              clear x0 x1 x2 x3 x4
              refine wp_region_held_drew (S := (fun wx => Hid (Below w10.heap.size w10 wx))) (by kernel_rfl) (Lib.hid (Below.refl _ _).drew) (fun hHeld => ?_)
              obtain ⟨wA0, hwd⟩ : ∃ z, w10.drew = z := ⟨_, rfl⟩
              rw [hwd] at hHeld ⊢
              clear hwd
              refine Plan.of [0, 1, 3] ?_
              iterate 2 (refine Plan.w (v := ?_) rfl hHeld (by rfl) ?_ ?_; rotate_left; (focus (intro w hSw; (try dsimp only at hSw); go_simp; try with_reducible rfl)); try simp only [Act.put, List.setIfInBounds_toArray, List.set_cons_zero, List.set_cons_succ])
              refine Plan.w (v := ?_) rfl hHeld (by rfl) ?_ ?_; rotate_left; (focus (intro w hSw; (try dsimp only at hSw); have hca := HC.out.below hSw.out; have s0 := (hca.2 0 _ rfl).1; have s1 := (hca.2 1 _ rfl).1; have s2 := (hca.2 2 _ rfl).1; have s3 := (hca.2 3 _ rfl).1; have s4 := (hca.2 4 _ rfl).1; go_simp; try with_reducible rfl)); try simp only [Act.put, List.setIfInBounds_toArray, List.set_cons_zero, List.set_cons_succ]
              refine Plan.fin ?_
              refine wpAnyH_ready (rs := [2, 4]) (by kernel_rfl) (by simp) ?_
              refine AllReadyH.cons (o := { dst := some 115, op := Go.Op.call { callee := Go.Callee.value (Go.Operand.func 13), args := #[Go.Operand.tmp 114], argTypes := #[22] }, type := 22, pos := "law.go:113", after := #[{ on := 1, ground := Go.Ground.data }], guard := none }) rfl (fun K hK => ?_) (AllReadyH.cons (o := { dst := some 117, op := Go.Op.buildSlice 22 1 #[(0, Go.Operand.tmp 116)], type := 22, pos := "law.go:113", after := #[{ on := 3, ground := Go.Ground.data }], guard := none }) rfl (fun K hK => ?_) AllReadyH.nil)
              · go_simp
                refine (copyRRs_any _ ns _ SL _ ((rowR_own2M HSO.out).1.below hHeld.out) (rowR_own2M HSO.out).2 (by have := HNN.out; omega)).mono ?_; rintro e wA1 ⟨vcA, rfl, hown, hb⟩
                have HOA := Lib.hid (own_monoM (base' := w10.heap.size) hown hHeld.out.size)
                clear hown
                refine hK.out _ _ (Lib.hid (hHeld.out.trans (hb.mono hHeld.out.size))) (fun hHeld2 => ?_)
                clear hK K hHeld
                have hHeld := hHeld2
                clear hHeld2
                try simp only [Act.put, List.setIfInBounds_toArray, List.set_cons_zero, List.set_cons_succ]
                refine wpAnyH_ready (rs := [4]) (by kernel_rfl) (by simp) ?_
                refine AllReadyH.cons (o := { dst := some 117, op := Go.Op.buildSlice 22 1 #[(0, Go.Operand.tmp 116)], type := 22, pos := "law.go:113", after := #[{ on := 3, ground := Go.Ground.data }], guard := none }) rfl (fun K hK => ?_) AllReadyH.nil
                go_simp
                have hb := (Below.refl _ _ : Below wA1.heap.size wA1 wA1).alloc (Nat.le_refl _) (.cells #[.string rn, .int .i64 rt, .int .i64 rc, .int .i64 ru, .string rd] 30)
                have HLIT := Lib.hid (show CellsAt (wA1.alloc (.cells #[.string rn, .int .i64 rt, .int .i64 rc, .int .i64 ru, .string rd] 30)) (some ⟨wA1.heap.size, 0, none⟩) (1 * 5) (encR ⟨⟨rn, rt, rc⟩, ru, rd⟩) from cells_lit wA1 #[.string rn, .int .i64 rt, .int .i64 rc, .int .i64 ru, .string rd] 30)
                obtain ⟨wA2, hw⟩ : ∃ x, wA1.alloc (.cells #[.string rn, .int .i64 rt, .int .i64 rc, .int .i64 ru, .string rd] 30) = x := ⟨_, rfl⟩
                obtain ⟨ge, hge⟩ : ∃ x, wA1.heap.size = x := ⟨_, rfl⟩
                rw [hw] at hb HLIT ⊢
                rw [hge] at HLIT ⊢
                replace HOA := Lib.hid (own_below' HOA.out hb)
                clear hw hge
                refine hK.out _ _ (Lib.hid (hHeld.out.trans (hb.mono hHeld.out.size))) (fun hHeld2 => ?_)
                clear hK K hHeld
                have hHeld := hHeld2
                clear hHeld2
                try simp only [Act.put, List.setIfInBounds_toArray, List.set_cons_zero, List.set_cons_succ]
                refine wpAnyH_ready (rs := [5]) (by kernel_rfl) (by simp) ?_
                refine AllReadyH.cons (o := { dst := some 118, op := Go.Op.call { callee := Go.Callee.builtin Go.Builtin.append, args := #[Go.Operand.tmp 115, Go.Operand.tmp 117], argTypes := #[22, 22] }, type := 22, pos := "law.go:113", after := #[{ on := 2, ground := Go.Ground.data }, { on := 4, ground := Go.Ground.data }, { on := 2, ground := Go.Ground.chain }], guard := none }) rfl (fun K hK => ?_) AllReadyH.nil
                refine step_append_cellsG (by rfl) _ _ 22 30 (by rfl) i0 _ 5 56 Try.underlying22 HI.out HZ0.out HZ1.out HZ2.out rfl (by decide) w10.heap.size _ ns _ (by rfl) HOA.out (some ⟨ge, 0, none⟩) 1 1 (encR ⟨⟨rn, rt, rc⟩, ru, rd⟩) (by rfl) (fun h => by cases h) HLIT.out (fun u hu => flatR_oneM (l := [⟨⟨rn, rt, rc⟩, ru, rd⟩]) (by simpa [flatR] using hu)) (by have := HNN.out; omega) (by decide) (hHeld.out.size) ?_
                intro v5 wA3 hown hgrow
                have hbg := hHeld.out.grown hgrow hHeld.out.size (fun k hk => (HOA.out.lt k hk).1)
                have HOX := Lib.hid hown
                clear hown hgrow HLIT
                refine hK.out _ _ (Lib.hid hbg) (fun hHeld2 => ?_)
                clear hK K hHeld
                have hHeld := hHeld2
                clear hHeld2
                try simp only [Act.put, List.setIfInBounds_toArray, List.set_cons_zero, List.set_cons_succ]
                refine wpAnyH_ready (rs := [6]) (by kernel_rfl) (by simp) ?_
                refine AllReadyH.cons (o := { dst := some 119, op := Go.Op.call { callee := Go.Callee.value (Go.Operand.func 16), args := #[Go.Operand.tmp 113, Go.Operand.tmp 118], argTypes := #[9, 22] }, type := 41, pos := "law.go:113", after := #[{ on := 0, ground := Go.Ground.data }, { on := 5, ground := Go.Ground.data }, { on := 5, ground := Go.Ground.chain }], guard := none }) rfl (fun K hK => ?_) AllReadyH.nil
                obtain ⟨ta, tc, rfl, hrt, hnt⟩ := rowR_own (l := (SL ++ [⟨⟨rn, rt, rc⟩, ru, rd⟩])) (show wA3.ownsRow w10.heap.size 30 5 v5 (ns + 1) (flatR (SL ++ [⟨⟨rn, rt, rc⟩, ru, rd⟩])) by rw [flatR_append]; simpa [flatR] using HOX.out)
                clear HOX
                go_simp
                refine (digest_one apex _ _ _ (SL ++ [⟨⟨rn, rt, rc⟩, ru, rd⟩]) _ hrt (by have := HNN.out; omega) HSM.out HA.out).mono ?_; rintro e wA4 ⟨⟨v3, u3, rfl, ho⟩, hb⟩
                rw [HE2.out, HEL.out, HNE.out]
                rw [HEL.out, HNE.out] at ho
                have HD3 := Lib.hid ho
                clear ho hrt hnt
                refine hK.out _ _ (Lib.hid (hHeld.out.trans (hb.mono hHeld.out.size))) (fun hHeld2 => ?_)
                clear hK K hHeld
                have hHeld := hHeld2
                clear hHeld2
                try simp only [Act.put, List.setIfInBounds_toArray, List.set_cons_zero, List.set_cons_succ]
                refine Plan.of [7, 8, 9, 10, 11] ?_
                iterate 5 (refine Plan.w (v := ?_) rfl hHeld (by rfl) ?_ ?_; rotate_left; (focus (intro w hSw; (try dsimp only at hSw); go_simp; try with_reducible rfl)); try simp only [Act.put, List.setIfInBounds_toArray, List.set_cons_zero, List.set_cons_succ])
                refine Plan.fin ?_
                refine wpAnyH_done (by kernel_rfl) ?_ _
                have hb := hHeld.out
                replace HB := Lib.hid (HB.out.trans (hb.mono HB.out.size))
                replace HSO := Lib.hid (own_below' HSO.out hb)
                replace HC := Lib.hid (HC.out.below hb)
                replace HD1 := Lib.hid (own_below' HD1.out hb)
                clear hb hHeld HOA
                obtain ⟨x0, x1, x2, x3, x4, _⟩ := HC.out.u5
                by_cases hE2 : E2 = 0
                rotate_left
                · have e1 := nT hE2
                  clear hE2
                  go_wp2_with fail
                  refine (first9 _).mono ?_; rintro e w11 ⟨rfl, hb⟩
                  clear x0 x1 x2 x3 x4
                  replace HB := Lib.hid (HB.out.trans (hb.mono HB.out.size))
                  replace HSO := Lib.hid (own_below' HSO.out hb)
                  replace HC := Lib.hid (HC.out.below hb)
                  replace HD1 := Lib.hid (own_below' HD1.out hb)
                  replace HD3 := Lib.hid (own_below' HD3.out hb)
                  clear hb
                  go_wp2
                  go_ret
                  exact ⟨rfl, HB.out⟩
                · subst hE2
                  by_cases h6 : rt = 6
                  · have e2 := eT h6
                    clear h6
                    go_wp2_with fail
                    refine (first9 _).mono ?_; rintro e w11 ⟨rfl, hb⟩
                    clear x0 x1 x2 x3 x4
                    replace HB := Lib.hid (HB.out.trans (hb.mono HB.out.size))
                    replace HSO := Lib.hid (own_below' HSO.out hb)
                    replace HC := Lib.hid (HC.out.below hb)
                    replace HD1 := Lib.hid (own_below' HD1.out hb)
                    replace HD3 := Lib.hid (own_below' HD3.out hb)
                    clear hb
                    go_wp2
                    go_ret
                    exact ⟨rfl, HB.out⟩
                  · have e2 := eF h6
                    by_cases h63 : rt = 63
                    · have e3 := eT h63
                      clear h63 h6
                      go_wp2_with fail
                      refine (first9 _).mono ?_; rintro e w11 ⟨rfl, hb⟩
                      clear x0 x1 x2 x3 x4
                      replace HB := Lib.hid (HB.out.trans (hb.mono HB.out.size))
                      replace HSO := Lib.hid (own_below' HSO.out hb)
                      replace HC := Lib.hid (HC.out.below hb)
                      replace HD1 := Lib.hid (own_below' HD1.out hb)
                      replace HD3 := Lib.hid (own_below' HD3.out hb)
                      clear hb
                      go_wp2
                      go_ret
                      exact ⟨rfl, HB.out⟩
                    · have e3 := eF h63
                      have HMY := Lib.hid ((dgE_zero HE2.out).2 ⟨⟨rn, rt, rc⟩, ru, rd⟩ (List.mem_append.2 (Or.inr (List.mem_singleton.2 rfl))))
                      have HMO := Lib.hid (more2M HZN.out HRM.out.1 HRM.out.2.1 HRM.out.2.2 HMY.out h6 h63 (SL := SL) (by rw [HS2.out, HTT.out]) (show getN DT 0 4 = getN (soaT xd) 0 4 by rw [HMP.out.1, HI2.out]) (show DT.extract 6 DT.size = DG from HMP.out.2.2.2) HE2.out)
                      rw [HEL.out] at HMO
                      have HDE := Lib.hid (show DG = bs DL by rw [← HDG.out, ← HDL.out]; exact dgDM HZW.out.1.dg HZW.out.2)
                      clear h6 h63
                      go_wp2_with fail
                      refine (bytesM _ _ nd ne _ _ DL EL _ (RowB.of_own HD1.out).1 (RowB.of_own HD3.out).1 (RowB.of_own HD1.out).2 (RowB.of_own HD3.out).2).mono ?_; rintro e w11 ⟨rfl, rfl⟩
                      clear x0 x1 x2 x3 x4
                      clear e2 e3
                      obtain ⟨bb, hbb⟩ : ∃ x, (DL == EL) = x := ⟨_, rfl⟩
                      rw [hbb]
                      have HBB := Lib.hid hbb
                      cases bb
                      · have HNQ := Lib.hid (show DL ≠ EL from fun e => by rw [e] at hbb; simp at hbb)
                        clear hbb
                        have HCK := Lib.hid (show chkE apex (SL ++ [⟨⟨rn, rt, rc⟩, ru, rd⟩]) = 5 by rw [HMO.out.2.2, if_neg (fun e => HNQ.out (bs_inj (HDE.out.symm.trans e)))])
                        have HMR := Lib.hid (show (⟨⟨rn, rt, rc⟩, ru, rd⟩ : R5) ∉ SL ∧ undS rn apex = true from dg_more (dgE_zero HMO.out.1).1 (fun e => HNQ.out (by rw [← HDL.out, ← HEL.out, dgD, dgD, if_pos HMO.out.1, if_pos HE2.out, e])))
                        go_wp2_with fail
                        go_loopw [20, 19] (fun i v wr => ∃ (k : Nat) (fb : Bool), k ≤ ns ∧ i = .int .i64 k ∧ v = .bool fb ∧ Hid (fb = true ↔ (⟨⟨rn, rt, rc⟩, ru, rd⟩ : R5) ∈ SL.take k) ∧ Hid (Below wA4.heap.size wA4 wr)) (fun i _ _ => ns - (intOf i).toNat)
                        case atStart => exact ⟨0, false, Nat.zero_le _, rfl, rfl, Lib.hid (by simp), Lib.hid (Below.refl _ _)⟩
                        case round =>
                          obtain ⟨k, fb, hk, rfl, rfl, HFB, HW⟩ := hrel
                          by_cases hlt : k < ns
                          · obtain ⟨b1, of1, r, hbe, hbl, hr, x0, x1, x2, x3, x4⟩ := ((rowR_own2M HSO.out).1.below HW.out).at k hlt
                            injection hbe with hbe
                            injection hbe with hb1 hb2 _
                            subst hb1 hb2
                            obtain ⟨⟨yn, yt, yc⟩, yu, yd⟩ := r
                            replace x0 : wr.cell? ⟨b, of + k * 5, none⟩ = some (.string yn) := x0
                            replace x1 : wr.cell? ⟨b, of + k * 5 + 1, none⟩ = some (.int .i64 yt) := x1
                            replace x2 : wr.cell? ⟨b, of + k * 5 + 2, none⟩ = some (.int .i64 yc) := x2
                            replace x3 : wr.cell? ⟨b, of + k * 5 + 3, none⟩ = some (.int .i64 yu) := x3
                            replace x4 : wr.cell? ⟨b, of + k * 5 + 4, none⟩ = some (.string yd) := x4
                            obtain ⟨z0, z1, z2, z3, z4, _⟩ := (HC.out.below HW.out).u5
                            have HLT := Lib.hid hlt
                            have HNX := Lib.hid (show ∀ z, z ∈ SL.take (k + 1) ↔ z ∈ SL.take k ∨ z = ⟨⟨yn, yt, yc⟩, yu, yd⟩ from fun z => by rw [List.take_add_one, hr]; simp)
                            have hk61 : (k : Int) < 61 := by have := HNN.out; omega
                            have i1 : (0 : Int) ≤ (k : Int) := by omega
                            have i2x : (k : Int) < (ns : Int) := by omega
                            clear hr hbl
                            cases fb
                            · by_cases hs : (⟨⟨yn, yt, yc⟩, yu, yd⟩ : R5) = ⟨⟨rn, rt, rc⟩, ru, rd⟩
                              · have hke := fun W => rr_eqM yn yt yc yu yd rn rt rc ru rd true ((rr_same yn yt yc yu yd rn rt rc ru rd).2 hs) W
                                have HS9 := Lib.hid hs
                                clear hs
                                have HFB2 := Lib.hid (show  (⟨⟨rn, rt, rc⟩, ru, rd⟩ : R5) ∈ SL.take (k + 1) from (HNX.out _).2 (Or.inr HS9.out.symm))
                                clear HFB HNX
                                go_wp2_with fail
                                go_quiet (fail)
                                rename_i nq
                                have HBN := Lib.hid (below_drewN HW.out nq)
                                go_wp2
                                go_roundw
                                case rel => exact ⟨k + 1, true, by have := HLT.out; omega, by have := HLT.out; go_num, rfl, Lib.hid (⟨fun _ => HFB2.out, fun _ => rfl⟩), HBN⟩
                                case measure => have := HLT.out; simp [intOf]; omega
                              · have hke := fun W => rr_eqM yn yt yc yu yd rn rt rc ru rd false (Bool.eq_false_iff.2 (fun h => hs ((rr_same yn yt yc yu yd rn rt rc ru rd).1 h))) W
                                have HS9 := Lib.hid hs
                                clear hs
                                have HFB2 := Lib.hid (show ¬ (⟨⟨rn, rt, rc⟩, ru, rd⟩ : R5) ∈ SL.take (k + 1) from fun h => absurd (HFB.out.2 (((HNX.out _).1 h).resolve_right (fun e => HS9.out e.symm))) (by decide))
                                clear HFB HNX
                                go_wp2_with fail
                                go_quiet (fail)
                                rename_i nq
                                have HBN := Lib.hid (below_drewN HW.out nq)
                                go_wp2
                                go_roundw
                                case rel => exact ⟨k + 1, false, by have := HLT.out; omega, by have := HLT.out; go_num, rfl, Lib.hid (⟨(fun h => by cases h), (fun h => absurd h HFB2.out)⟩), HBN⟩
                                case measure => have := HLT.out; simp [intOf]; omega
                            · have HFB2 := Lib.hid (show  (⟨⟨rn, rt, rc⟩, ru, rd⟩ : R5) ∈ SL.take (k + 1) from (HNX.out _).2 (Or.inl (HFB.out.1 rfl)))
                              clear HFB HNX
                              go_wp2_with fail
                              go_quiet (fail)
                              rename_i nq
                              have HBN := Lib.hid (below_drewN HW.out nq)
                              go_wp2
                              go_roundw
                              case rel => exact ⟨k + 1, true, by have := HLT.out; omega, by have := HLT.out; go_num, rfl, Lib.hid (⟨fun _ => HFB2.out, fun _ => rfl⟩), HBN⟩
                              case measure => have := HLT.out; simp [intOf]; omega
                          · obtain rfl : k = ns := by omega
                            have HFF := Lib.hid (show fb = true ↔ (⟨⟨rn, rt, rc⟩, ru, rd⟩ : R5) ∈ SL by have h := HFB.out; rwa [List.take_of_length_le (by rw [HNS.out]; exact Nat.le_refl _)] at h)
                            clear hlt hk HFB
                            have hb := HW.out
                            replace HB := Lib.hid (HB.out.trans (hb.mono HB.out.size))
                            replace HSO := Lib.hid (own_below' HSO.out hb)
                            replace HC := Lib.hid (HC.out.below hb)
                            replace HD1 := Lib.hid (own_below' HD1.out hb)
                            replace HD3 := Lib.hid (own_below' HD3.out hb)
                            clear hb HW
                            obtain rfl : fb = false := by cases fb; rfl; exact absurd (HFF.out.1 rfl) HMR.out.1
                            have HU := Lib.hid HMR.out.2
                            obtain ⟨x0, x1, x2, x3, x4, _⟩ := HC.out.u5
                            go_upto_region 29 with (fail)
                            clear x0 x1 x2 x3 x4
                            refine wp_region_held_drew (S := (fun wx => Hid (Below wr.heap.size wr wx))) (by kernel_rfl) (Lib.hid (Below.refl _ _).drew) (fun hHeld => ?_)
                            obtain ⟨wB0, hwd⟩ : ∃ z, wr.drew = z := ⟨_, rfl⟩
                            rw [hwd] at hHeld ⊢
                            clear hwd
                            refine wpAnyH_ready (rs := [0]) (by kernel_rfl) (by simp) ?_
                            refine AllReadyH.cons (o := { dst := some 162, op := Go.Op.call { callee := Go.Callee.value (Go.Operand.func 8), args := #[], argTypes := #[] }, type := 4, pos := "law.go:125", after := #[], guard := none }) rfl (fun K hK => ?_) AllReadyH.nil
                            go_simp
                            refine (first9 _).mono ?_; rintro e wB1 ⟨rfl, hb⟩
                            refine hK.out _ _ (Lib.hid (hHeld.out.trans (hb.mono hHeld.out.size))) (fun hHeld2 => ?_)
                            clear hK K hHeld
                            have hHeld := hHeld2
                            clear hHeld2
                            try simp only [Act.put, List.setIfInBounds_toArray, List.set_cons_zero, List.set_cons_succ]
                            refine Plan.of [1, 2, 3, 5, 9] ?_
                            iterate 3 (refine Plan.w (v := ?_) rfl hHeld (by rfl) ?_ ?_; rotate_left; (focus (intro w hSw; (try dsimp only at hSw); go_simp; try with_reducible rfl)); try simp only [Act.put, List.setIfInBounds_toArray, List.set_cons_zero, List.set_cons_succ])
                            refine Plan.w (v := ?_) rfl hHeld (by rfl) ?_ ?_; rotate_left; (focus (intro w hSw; (try dsimp only at hSw); have hca := HC.out.below hSw.out; have s0 := (hca.2 0 _ rfl).1; have s1 := (hca.2 1 _ rfl).1; have s2 := (hca.2 2 _ rfl).1; have s3 := (hca.2 3 _ rfl).1; have s4 := (hca.2 4 _ rfl).1; go_simp; try with_reducible rfl)); try simp only [Act.put, List.setIfInBounds_toArray, List.set_cons_zero, List.set_cons_succ]
                            refine Plan.w (v := ?_) rfl hHeld (by rfl) ?_ ?_; rotate_left; (focus (intro w hSw; (try dsimp only at hSw); go_simp; try with_reducible rfl)); try simp only [Act.put, List.setIfInBounds_toArray, List.set_cons_zero, List.set_cons_succ]
                            refine Plan.fin ?_
                            refine wpAnyH_ready (rs := [4, 6]) (by kernel_rfl) (by simp) ?_
                            refine AllReadyH.cons (o := { dst := some 166, op := Go.Op.call { callee := Go.Callee.value (Go.Operand.func 13), args := #[Go.Operand.tmp 165], argTypes := #[22] }, type := 22, pos := "law.go:125", after := #[{ on := 3, ground := Go.Ground.data }, { on := 1, ground := Go.Ground.chain }, { on := 1, ground := Go.Ground.guard }], guard := some (1, true) }) rfl (fun K hK => ?_) (AllReadyH.cons (o := { dst := some 168, op := Go.Op.buildSlice 22 1 #[(0, Go.Operand.tmp 167)], type := 22, pos := "law.go:125", after := #[{ on := 5, ground := Go.Ground.data }, { on := 1, ground := Go.Ground.guard }], guard := some (1, true) }) rfl (fun K hK => ?_) AllReadyH.nil)
                            · go_simp
                              refine (copyRRs_any _ k _ SL _ ((rowR_own2M HSO.out).1.below hHeld.out) (rowR_own2M HSO.out).2 (by have := HNN.out; omega)).mono ?_; rintro e wB2 ⟨vcB, rfl, hown, hb⟩
                              have HOB := Lib.hid (own_monoM (base' := wr.heap.size) hown hHeld.out.size)
                              clear hown
                              refine hK.out _ _ (Lib.hid (hHeld.out.trans (hb.mono hHeld.out.size))) (fun hHeld2 => ?_)
                              clear hK K hHeld
                              have hHeld := hHeld2
                              clear hHeld2
                              try simp only [Act.put, List.setIfInBounds_toArray, List.set_cons_zero, List.set_cons_succ]
                              refine wpAnyH_ready (rs := [6]) (by kernel_rfl) (by simp) ?_
                              refine AllReadyH.cons (o := { dst := some 168, op := Go.Op.buildSlice 22 1 #[(0, Go.Operand.tmp 167)], type := 22, pos := "law.go:125", after := #[{ on := 5, ground := Go.Ground.data }, { on := 1, ground := Go.Ground.guard }], guard := some (1, true) }) rfl (fun K hK => ?_) AllReadyH.nil
                              go_simp
                              have hb := (Below.refl _ _ : Below wB2.heap.size wB2 wB2).alloc (Nat.le_refl _) (.cells #[.string rn, .int .i64 rt, .int .i64 rc, .int .i64 ru, .string rd] 30)
                              have HLIT := Lib.hid (show CellsAt (wB2.alloc (.cells #[.string rn, .int .i64 rt, .int .i64 rc, .int .i64 ru, .string rd] 30)) (some ⟨wB2.heap.size, 0, none⟩) (1 * 5) (encR ⟨⟨rn, rt, rc⟩, ru, rd⟩) from cells_lit wB2 #[.string rn, .int .i64 rt, .int .i64 rc, .int .i64 ru, .string rd] 30)
                              obtain ⟨wB3, hw⟩ : ∃ x, wB2.alloc (.cells #[.string rn, .int .i64 rt, .int .i64 rc, .int .i64 ru, .string rd] 30) = x := ⟨_, rfl⟩
                              obtain ⟨ge, hge⟩ : ∃ x, wB2.heap.size = x := ⟨_, rfl⟩
                              rw [hw] at hb HLIT ⊢
                              rw [hge] at HLIT ⊢
                              replace HOB := Lib.hid (own_below' HOB.out hb)
                              clear hw hge
                              refine hK.out _ _ (Lib.hid (hHeld.out.trans (hb.mono hHeld.out.size))) (fun hHeld2 => ?_)
                              clear hK K hHeld
                              have hHeld := hHeld2
                              clear hHeld2
                              try simp only [Act.put, List.setIfInBounds_toArray, List.set_cons_zero, List.set_cons_succ]
                              refine wpAnyH_ready (rs := [7]) (by kernel_rfl) (by simp) ?_
                              refine AllReadyH.cons (o := { dst := some 169, op := Go.Op.call { callee := Go.Callee.builtin Go.Builtin.append, args := #[Go.Operand.tmp 166, Go.Operand.tmp 168], argTypes := #[22, 22] }, type := 22, pos := "law.go:125", after := #[{ on := 4, ground := Go.Ground.data }, { on := 6, ground := Go.Ground.data }, { on := 4, ground := Go.Ground.chain }, { on := 1, ground := Go.Ground.guard }], guard := some (1, true) }) rfl (fun K hK => ?_) AllReadyH.nil
                              refine step_append_cellsG (by rfl) _ _ 22 30 (by rfl) i0 _ 5 56 Try.underlying22 HI.out HZ0.out HZ1.out HZ2.out rfl (by decide) wr.heap.size _ k _ (by rfl) HOB.out (some ⟨ge, 0, none⟩) 1 1 (encR ⟨⟨rn, rt, rc⟩, ru, rd⟩) (by rfl) (fun h => by cases h) HLIT.out (fun u hu => flatR_oneM (l := [⟨⟨rn, rt, rc⟩, ru, rd⟩]) (by simpa [flatR] using hu)) (by have := HNN.out; omega) (by decide) (hHeld.out.size) ?_
                              intro v5 wB4 hown hgrow
                              have hbg := hHeld.out.grown hgrow hHeld.out.size (fun k hk => (HOB.out.lt k hk).1)
                              have HOX := Lib.hid hown
                              clear hown hgrow HLIT
                              refine hK.out _ _ (Lib.hid hbg) (fun hHeld2 => ?_)
                              clear hK K hHeld
                              have hHeld := hHeld2
                              clear hHeld2
                              try simp only [Act.put, List.setIfInBounds_toArray, List.set_cons_zero, List.set_cons_succ]
                              refine wpAnyH_ready (rs := [8]) (by kernel_rfl) (by simp) ?_
                              refine AllReadyH.cons (o := { dst := some 170, op := Go.Op.call { callee := Go.Callee.value (Go.Operand.func 11), args := #[Go.Operand.tmp 164, Go.Operand.tmp 169], argTypes := #[9, 22] }, type := 25, pos := "law.go:125", after := #[{ on := 2, ground := Go.Ground.data }, { on := 7, ground := Go.Ground.data }, { on := 7, ground := Go.Ground.chain }, { on := 1, ground := Go.Ground.guard }], guard := some (1, true) }) rfl (fun K hK => ?_) AllReadyH.nil
                              obtain ⟨ta, tc, rfl, hrt, hnt⟩ := rowR_own (l := (SL ++ [⟨⟨rn, rt, rc⟩, ru, rd⟩])) (show wB4.ownsRow wr.heap.size 30 5 v5 (k + 1) (flatR (SL ++ [⟨⟨rn, rt, rc⟩, ru, rd⟩])) by rw [flatR_append]; simpa [flatR] using HOX.out)
                              clear HOX
                              go_simp
                              refine (check_any apex _ _ _ (SL ++ [⟨⟨rn, rt, rc⟩, ru, rd⟩]) _ hrt (by have := HNN.out; omega) HSM.out HA.out).mono ?_; rintro e wB5 ⟨rfl, hb⟩
                              rw [HCK.out]
                              clear hrt hnt
                              refine hK.out _ _ (Lib.hid (hHeld.out.trans (hb.mono hHeld.out.size))) (fun hHeld2 => ?_)
                              clear hK K hHeld
                              have hHeld := hHeld2
                              clear hHeld2
                              try simp only [Act.put, List.setIfInBounds_toArray, List.set_cons_zero, List.set_cons_succ]
                              refine Plan.of [10, 11, 12, 13, 14, 15, 16, 17, 18] ?_
                              iterate 7 (refine Plan.w (v := ?_) rfl hHeld (by rfl) ?_ ?_; rotate_left; (focus (intro w hSw; (try dsimp only at hSw); go_simp; try with_reducible rfl)); try simp only [Act.put, List.setIfInBounds_toArray, List.set_cons_zero, List.set_cons_succ])
                              refine Plan.w (v := ?_) rfl hHeld (by rfl) ?_ ?_; rotate_left; (focus (intro w hSw; (try dsimp only at hSw); have hca := HC.out.below hSw.out; have s0 := (hca.2 0 _ rfl).1; have s1 := (hca.2 1 _ rfl).1; have s2 := (hca.2 2 _ rfl).1; have s3 := (hca.2 3 _ rfl).1; have s4 := (hca.2 4 _ rfl).1; go_simp; try with_reducible rfl)); try simp only [Act.put, List.setIfInBounds_toArray, List.set_cons_zero, List.set_cons_succ]
                              refine Plan.w (v := ?_) rfl hHeld (by rfl) ?_ ?_; rotate_left; (focus (intro w hSw; (try dsimp only at hSw); go_simp; try with_reducible rfl)); try simp only [Act.put, List.setIfInBounds_toArray, List.set_cons_zero, List.set_cons_succ]
                              refine Plan.fin ?_
                              refine wpAnyH_ready (rs := [19]) (by kernel_rfl) (by simp) ?_
                              refine AllReadyH.cons (o := { dst := some 181, op := Go.Op.call { callee := Go.Callee.value (Go.Operand.func 18), args := #[Go.Operand.tmp 179, Go.Operand.tmp 180], argTypes := #[9, 9] }, type := 4, pos := "law.go:125", after := #[{ on := 17, ground := Go.Ground.data }, { on := 18, ground := Go.Ground.data }, { on := 15, ground := Go.Ground.chain }, { on := 15, ground := Go.Ground.guard }], guard := some (15, true) }) rfl (fun K hK => ?_) AllReadyH.nil
                              go_simp
                              refine (runder_any rn apex _ HSR.out.1 HA.out).mono ?_; rintro e wB6 ⟨rfl, hb⟩
                              rw [HU.out]
                              refine hK.out _ _ (Lib.hid (hHeld.out.trans (hb.mono hHeld.out.size))) (fun hHeld2 => ?_)
                              clear hK K hHeld
                              have hHeld := hHeld2
                              clear hHeld2
                              try simp only [Act.put, List.setIfInBounds_toArray, List.set_cons_zero, List.set_cons_succ]
                              refine Plan.of [20, 21, 22, 23, 24, 25, 26, 27] ?_
                              iterate 2 (refine Plan.w (v := ?_) rfl hHeld (by rfl) ?_ ?_; rotate_left; (focus (intro w hSw; (try dsimp only at hSw); go_simp; try with_reducible rfl)); try simp only [Act.put, List.setIfInBounds_toArray, List.set_cons_zero, List.set_cons_succ])
                              iterate 3 (refine Plan.n rfl hHeld (by rfl) ?_; try simp only [Act.put, List.setIfInBounds_toArray, List.set_cons_zero, List.set_cons_succ])
                              iterate 3 (refine Plan.w (v := ?_) rfl hHeld (by rfl) ?_ ?_; rotate_left; (focus (intro w hSw; (try dsimp only at hSw); go_simp; try with_reducible rfl)); try simp only [Act.put, List.setIfInBounds_toArray, List.set_cons_zero, List.set_cons_succ])
                              refine Plan.fin ?_
                              refine wpAnyH_done (by kernel_rfl) ?_ _
                              have HBZ := Lib.hid (HB.out.trans (hHeld.out.mono HB.out.size))
                              clear hHeld
                              go_wp2
                              go_ret
                              exact ⟨rfl, HBZ.out⟩
                            · go_simp
                              have hb := (Below.refl _ _ : Below wB1.heap.size wB1 wB1).alloc (Nat.le_refl _) (.cells #[.string rn, .int .i64 rt, .int .i64 rc, .int .i64 ru, .string rd] 30)
                              have HLIT := Lib.hid (show CellsAt (wB1.alloc (.cells #[.string rn, .int .i64 rt, .int .i64 rc, .int .i64 ru, .string rd] 30)) (some ⟨wB1.heap.size, 0, none⟩) (1 * 5) (encR ⟨⟨rn, rt, rc⟩, ru, rd⟩) from cells_lit wB1 #[.string rn, .int .i64 rt, .int .i64 rc, .int .i64 ru, .string rd] 30)
                              obtain ⟨wB2, hw⟩ : ∃ x, wB1.alloc (.cells #[.string rn, .int .i64 rt, .int .i64 rc, .int .i64 ru, .string rd] 30) = x := ⟨_, rfl⟩
                              obtain ⟨ge, hge⟩ : ∃ x, wB1.heap.size = x := ⟨_, rfl⟩
                              rw [hw] at hb HLIT ⊢
                              rw [hge] at HLIT ⊢
                              clear hw hge
                              refine hK.out _ _ (Lib.hid (hHeld.out.trans (hb.mono hHeld.out.size))) (fun hHeld2 => ?_)
                              clear hK K hHeld
                              have hHeld := hHeld2
                              clear hHeld2
                              try simp only [Act.put, List.setIfInBounds_toArray, List.set_cons_zero, List.set_cons_succ]
                              refine wpAnyH_ready (rs := [4]) (by kernel_rfl) (by simp) ?_
                              refine AllReadyH.cons (o := { dst := some 166, op := Go.Op.call { callee := Go.Callee.value (Go.Operand.func 13), args := #[Go.Operand.tmp 165], argTypes := #[22] }, type := 22, pos := "law.go:125", after := #[{ on := 3, ground := Go.Ground.data }, { on := 1, ground := Go.Ground.chain }, { on := 1, ground := Go.Ground.guard }], guard := some (1, true) }) rfl (fun K hK => ?_) AllReadyH.nil
                              go_simp
                              refine (copyRRs_any _ k _ SL _ ((rowR_own2M HSO.out).1.below hHeld.out) (rowR_own2M HSO.out).2 (by have := HNN.out; omega)).mono ?_; rintro e wB3 ⟨vcB, rfl, hown, hb⟩
                              have HOB := Lib.hid (own_monoM (base' := wr.heap.size) hown hHeld.out.size)
                              clear hown
                              replace HLIT := Lib.hid (HLIT.out.below hb)
                              refine hK.out _ _ (Lib.hid (hHeld.out.trans (hb.mono hHeld.out.size))) (fun hHeld2 => ?_)
                              clear hK K hHeld
                              have hHeld := hHeld2
                              clear hHeld2
                              try simp only [Act.put, List.setIfInBounds_toArray, List.set_cons_zero, List.set_cons_succ]
                              refine wpAnyH_ready (rs := [7]) (by kernel_rfl) (by simp) ?_
                              refine AllReadyH.cons (o := { dst := some 169, op := Go.Op.call { callee := Go.Callee.builtin Go.Builtin.append, args := #[Go.Operand.tmp 166, Go.Operand.tmp 168], argTypes := #[22, 22] }, type := 22, pos := "law.go:125", after := #[{ on := 4, ground := Go.Ground.data }, { on := 6, ground := Go.Ground.data }, { on := 4, ground := Go.Ground.chain }, { on := 1, ground := Go.Ground.guard }], guard := some (1, true) }) rfl (fun K hK => ?_) AllReadyH.nil
                              refine step_append_cellsG (by rfl) _ _ 22 30 (by rfl) i0 _ 5 56 Try.underlying22 HI.out HZ0.out HZ1.out HZ2.out rfl (by decide) wr.heap.size _ k _ (by rfl) HOB.out (some ⟨ge, 0, none⟩) 1 1 (encR ⟨⟨rn, rt, rc⟩, ru, rd⟩) (by rfl) (fun h => by cases h) HLIT.out (fun u hu => flatR_oneM (l := [⟨⟨rn, rt, rc⟩, ru, rd⟩]) (by simpa [flatR] using hu)) (by have := HNN.out; omega) (by decide) (hHeld.out.size) ?_
                              intro v5 wB4 hown hgrow
                              have hbg := hHeld.out.grown hgrow hHeld.out.size (fun k hk => (HOB.out.lt k hk).1)
                              have HOX := Lib.hid hown
                              clear hown hgrow HLIT
                              refine hK.out _ _ (Lib.hid hbg) (fun hHeld2 => ?_)
                              clear hK K hHeld
                              have hHeld := hHeld2
                              clear hHeld2
                              try simp only [Act.put, List.setIfInBounds_toArray, List.set_cons_zero, List.set_cons_succ]
                              refine wpAnyH_ready (rs := [8]) (by kernel_rfl) (by simp) ?_
                              refine AllReadyH.cons (o := { dst := some 170, op := Go.Op.call { callee := Go.Callee.value (Go.Operand.func 11), args := #[Go.Operand.tmp 164, Go.Operand.tmp 169], argTypes := #[9, 22] }, type := 25, pos := "law.go:125", after := #[{ on := 2, ground := Go.Ground.data }, { on := 7, ground := Go.Ground.data }, { on := 7, ground := Go.Ground.chain }, { on := 1, ground := Go.Ground.guard }], guard := some (1, true) }) rfl (fun K hK => ?_) AllReadyH.nil
                              obtain ⟨ta, tc, rfl, hrt, hnt⟩ := rowR_own (l := (SL ++ [⟨⟨rn, rt, rc⟩, ru, rd⟩])) (show wB4.ownsRow wr.heap.size 30 5 v5 (k + 1) (flatR (SL ++ [⟨⟨rn, rt, rc⟩, ru, rd⟩])) by rw [flatR_append]; simpa [flatR] using HOX.out)
                              clear HOX
                              go_simp
                              refine (check_any apex _ _ _ (SL ++ [⟨⟨rn, rt, rc⟩, ru, rd⟩]) _ hrt (by have := HNN.out; omega) HSM.out HA.out).mono ?_; rintro e wB5 ⟨rfl, hb⟩
                              rw [HCK.out]
                              clear hrt hnt
                              refine hK.out _ _ (Lib.hid (hHeld.out.trans (hb.mono hHeld.out.size))) (fun hHeld2 => ?_)
                              clear hK K hHeld
                              have hHeld := hHeld2
                              clear hHeld2
                              try simp only [Act.put, List.setIfInBounds_toArray, List.set_cons_zero, List.set_cons_succ]
                              refine Plan.of [10, 11, 12, 13, 14, 15, 16, 17, 18] ?_
                              iterate 7 (refine Plan.w (v := ?_) rfl hHeld (by rfl) ?_ ?_; rotate_left; (focus (intro w hSw; (try dsimp only at hSw); go_simp; try with_reducible rfl)); try simp only [Act.put, List.setIfInBounds_toArray, List.set_cons_zero, List.set_cons_succ])
                              refine Plan.w (v := ?_) rfl hHeld (by rfl) ?_ ?_; rotate_left; (focus (intro w hSw; (try dsimp only at hSw); have hca := HC.out.below hSw.out; have s0 := (hca.2 0 _ rfl).1; have s1 := (hca.2 1 _ rfl).1; have s2 := (hca.2 2 _ rfl).1; have s3 := (hca.2 3 _ rfl).1; have s4 := (hca.2 4 _ rfl).1; go_simp; try with_reducible rfl)); try simp only [Act.put, List.setIfInBounds_toArray, List.set_cons_zero, List.set_cons_succ]
                              refine Plan.w (v := ?_) rfl hHeld (by rfl) ?_ ?_; rotate_left; (focus (intro w hSw; (try dsimp only at hSw); go_simp; try with_reducible rfl)); try simp only [Act.put, List.setIfInBounds_toArray, List.set_cons_zero, List.set_cons_succ]
                              refine Plan.fin ?_
                              refine wpAnyH_ready (rs := [19]) (by kernel_rfl) (by simp) ?_
                              refine AllReadyH.cons (o := { dst := some 181, op := Go.Op.call { callee := Go.Callee.value (Go.Operand.func 18), args := #[Go.Operand.tmp 179, Go.Operand.tmp 180], argTypes := #[9, 9] }, type := 4, pos := "law.go:125", after := #[{ on := 17, ground := Go.Ground.data }, { on := 18, ground := Go.Ground.data }, { on := 15, ground := Go.Ground.chain }, { on := 15, ground := Go.Ground.guard }], guard := some (15, true) }) rfl (fun K hK => ?_) AllReadyH.nil
                              go_simp
                              refine (runder_any rn apex _ HSR.out.1 HA.out).mono ?_; rintro e wB6 ⟨rfl, hb⟩
                              rw [HU.out]
                              refine hK.out _ _ (Lib.hid (hHeld.out.trans (hb.mono hHeld.out.size))) (fun hHeld2 => ?_)
                              clear hK K hHeld
                              have hHeld := hHeld2
                              clear hHeld2
                              try simp only [Act.put, List.setIfInBounds_toArray, List.set_cons_zero, List.set_cons_succ]
                              refine Plan.of [20, 21, 22, 23, 24, 25, 26, 27] ?_
                              iterate 2 (refine Plan.w (v := ?_) rfl hHeld (by rfl) ?_ ?_; rotate_left; (focus (intro w hSw; (try dsimp only at hSw); go_simp; try with_reducible rfl)); try simp only [Act.put, List.setIfInBounds_toArray, List.set_cons_zero, List.set_cons_succ])
                              iterate 3 (refine Plan.n rfl hHeld (by rfl) ?_; try simp only [Act.put, List.setIfInBounds_toArray, List.set_cons_zero, List.set_cons_succ])
                              iterate 3 (refine Plan.w (v := ?_) rfl hHeld (by rfl) ?_ ?_; rotate_left; (focus (intro w hSw; (try dsimp only at hSw); go_simp; try with_reducible rfl)); try simp only [Act.put, List.setIfInBounds_toArray, List.set_cons_zero, List.set_cons_succ])
                              refine Plan.fin ?_
                              refine wpAnyH_done (by kernel_rfl) ?_ _
                              have HBZ := Lib.hid (HB.out.trans (hHeld.out.mono HB.out.size))
                              clear hHeld
                              go_wp2
                              go_ret
                              exact ⟨rfl, HBZ.out⟩
                      · have HCK := Lib.hid (show chkE apex (SL ++ [⟨⟨rn, rt, rc⟩, ru, rd⟩]) = 0 by rw [HMO.out.2.2, if_pos (HDE.out.trans (by rw [show DL = EL by simpa using hbb]))])
                        clear hbb
                        go_wp2_with fail
                        go_loopw [20, 19] (fun i v wr => ∃ (k : Nat) (fb : Bool), k ≤ ns ∧ i = .int .i64 k ∧ v = .bool fb ∧ Hid (fb = true ↔ (⟨⟨rn, rt, rc⟩, ru, rd⟩ : R5) ∈ SL.take k) ∧ Hid (Below wA4.heap.size wA4 wr)) (fun i _ _ => ns - (intOf i).toNat)
                        case atStart => exact ⟨0, false, Nat.zero_le _, rfl, rfl, Lib.hid (by simp), Lib.hid (Below.refl _ _)⟩
                        case round =>
                          obtain ⟨k, fb, hk, rfl, rfl, HFB, HW⟩ := hrel
                          by_cases hlt : k < ns
                          · obtain ⟨b1, of1, r, hbe, hbl, hr, x0, x1, x2, x3, x4⟩ := ((rowR_own2M HSO.out).1.below HW.out).at k hlt
                            injection hbe with hbe
                            injection hbe with hb1 hb2 _
                            subst hb1 hb2
                            obtain ⟨⟨yn, yt, yc⟩, yu, yd⟩ := r
                            replace x0 : wr.cell? ⟨b, of + k * 5, none⟩ = some (.string yn) := x0
                            replace x1 : wr.cell? ⟨b, of + k * 5 + 1, none⟩ = some (.int .i64 yt) := x1
                            replace x2 : wr.cell? ⟨b, of + k * 5 + 2, none⟩ = some (.int .i64 yc) := x2
                            replace x3 : wr.cell? ⟨b, of + k * 5 + 3, none⟩ = some (.int .i64 yu) := x3
                            replace x4 : wr.cell? ⟨b, of + k * 5 + 4, none⟩ = some (.string yd) := x4
                            obtain ⟨z0, z1, z2, z3, z4, _⟩ := (HC.out.below HW.out).u5
                            have HLT := Lib.hid hlt
                            have HNX := Lib.hid (show ∀ z, z ∈ SL.take (k + 1) ↔ z ∈ SL.take k ∨ z = ⟨⟨yn, yt, yc⟩, yu, yd⟩ from fun z => by rw [List.take_add_one, hr]; simp)
                            have hk61 : (k : Int) < 61 := by have := HNN.out; omega
                            have i1 : (0 : Int) ≤ (k : Int) := by omega
                            have i2x : (k : Int) < (ns : Int) := by omega
                            clear hr hbl
                            cases fb
                            · by_cases hs : (⟨⟨yn, yt, yc⟩, yu, yd⟩ : R5) = ⟨⟨rn, rt, rc⟩, ru, rd⟩
                              · have hke := fun W => rr_eqM yn yt yc yu yd rn rt rc ru rd true ((rr_same yn yt yc yu yd rn rt rc ru rd).2 hs) W
                                have HS9 := Lib.hid hs
                                clear hs
                                have HFB2 := Lib.hid (show  (⟨⟨rn, rt, rc⟩, ru, rd⟩ : R5) ∈ SL.take (k + 1) from (HNX.out _).2 (Or.inr HS9.out.symm))
                                clear HFB HNX
                                go_wp2_with fail
                                go_quiet (fail)
                                rename_i nq
                                have HBN := Lib.hid (below_drewN HW.out nq)
                                go_wp2
                                go_roundw
                                case rel => exact ⟨k + 1, true, by have := HLT.out; omega, by have := HLT.out; go_num, rfl, Lib.hid (⟨fun _ => HFB2.out, fun _ => rfl⟩), HBN⟩
                                case measure => have := HLT.out; simp [intOf]; omega
                              · have hke := fun W => rr_eqM yn yt yc yu yd rn rt rc ru rd false (Bool.eq_false_iff.2 (fun h => hs ((rr_same yn yt yc yu yd rn rt rc ru rd).1 h))) W
                                have HS9 := Lib.hid hs
                                clear hs
                                have HFB2 := Lib.hid (show ¬ (⟨⟨rn, rt, rc⟩, ru, rd⟩ : R5) ∈ SL.take (k + 1) from fun h => absurd (HFB.out.2 (((HNX.out _).1 h).resolve_right (fun e => HS9.out e.symm))) (by decide))
                                clear HFB HNX
                                go_wp2_with fail
                                go_quiet (fail)
                                rename_i nq
                                have HBN := Lib.hid (below_drewN HW.out nq)
                                go_wp2
                                go_roundw
                                case rel => exact ⟨k + 1, false, by have := HLT.out; omega, by have := HLT.out; go_num, rfl, Lib.hid (⟨(fun h => by cases h), (fun h => absurd h HFB2.out)⟩), HBN⟩
                                case measure => have := HLT.out; simp [intOf]; omega
                            · have HFB2 := Lib.hid (show  (⟨⟨rn, rt, rc⟩, ru, rd⟩ : R5) ∈ SL.take (k + 1) from (HNX.out _).2 (Or.inl (HFB.out.1 rfl)))
                              clear HFB HNX
                              go_wp2_with fail
                              go_quiet (fail)
                              rename_i nq
                              have HBN := Lib.hid (below_drewN HW.out nq)
                              go_wp2
                              go_roundw
                              case rel => exact ⟨k + 1, true, by have := HLT.out; omega, by have := HLT.out; go_num, rfl, Lib.hid (⟨fun _ => HFB2.out, fun _ => rfl⟩), HBN⟩
                              case measure => have := HLT.out; simp [intOf]; omega
                          · obtain rfl : k = ns := by omega
                            have HFF := Lib.hid (show fb = true ↔ (⟨⟨rn, rt, rc⟩, ru, rd⟩ : R5) ∈ SL by have h := HFB.out; rwa [List.take_of_length_le (by rw [HNS.out]; exact Nat.le_refl _)] at h)
                            clear hlt hk HFB
                            have hb := HW.out
                            replace HB := Lib.hid (HB.out.trans (hb.mono HB.out.size))
                            replace HSO := Lib.hid (own_below' HSO.out hb)
                            replace HC := Lib.hid (HC.out.below hb)
                            replace HD1 := Lib.hid (own_below' HD1.out hb)
                            replace HD3 := Lib.hid (own_below' HD3.out hb)
                            clear hb HW
                            cases fb
                            · obtain ⟨ub, hub⟩ : ∃ x, undS rn apex = x := ⟨_, rfl⟩
                              have HU := Lib.hid hub
                              clear hub
                              cases ub
                              · obtain ⟨x0, x1, x2, x3, x4, _⟩ := HC.out.u5
                                go_upto_region 29 with (fail)
                                clear x0 x1 x2 x3 x4
                                refine wp_region_held_drew (S := (fun wx => Hid (Below wr.heap.size wr wx))) (by kernel_rfl) (Lib.hid (Below.refl _ _).drew) (fun hHeld => ?_)
                                obtain ⟨wB0, hwd⟩ : ∃ z, wr.drew = z := ⟨_, rfl⟩
                                rw [hwd] at hHeld ⊢
                                clear hwd
                                refine wpAnyH_ready (rs := [0]) (by kernel_rfl) (by simp) ?_
                                refine AllReadyH.cons (o := { dst := some 162, op := Go.Op.call { callee := Go.Callee.value (Go.Operand.func 8), args := #[], argTypes := #[] }, type := 4, pos := "law.go:125", after := #[], guard := none }) rfl (fun K hK => ?_) AllReadyH.nil
                                go_simp
                                refine (first9 _).mono ?_; rintro e wB1 ⟨rfl, hb⟩
                                refine hK.out _ _ (Lib.hid (hHeld.out.trans (hb.mono hHeld.out.size))) (fun hHeld2 => ?_)
                                clear hK K hHeld
                                have hHeld := hHeld2
                                clear hHeld2
                                try simp only [Act.put, List.setIfInBounds_toArray, List.set_cons_zero, List.set_cons_succ]
                                refine Plan.of [1, 2, 3, 5, 9] ?_
                                iterate 3 (refine Plan.w (v := ?_) rfl hHeld (by rfl) ?_ ?_; rotate_left; (focus (intro w hSw; (try dsimp only at hSw); go_simp; try with_reducible rfl)); try simp only [Act.put, List.setIfInBounds_toArray, List.set_cons_zero, List.set_cons_succ])
                                refine Plan.w (v := ?_) rfl hHeld (by rfl) ?_ ?_; rotate_left; (focus (intro w hSw; (try dsimp only at hSw); have hca := HC.out.below hSw.out; have s0 := (hca.2 0 _ rfl).1; have s1 := (hca.2 1 _ rfl).1; have s2 := (hca.2 2 _ rfl).1; have s3 := (hca.2 3 _ rfl).1; have s4 := (hca.2 4 _ rfl).1; go_simp; try with_reducible rfl)); try simp only [Act.put, List.setIfInBounds_toArray, List.set_cons_zero, List.set_cons_succ]
                                refine Plan.w (v := ?_) rfl hHeld (by rfl) ?_ ?_; rotate_left; (focus (intro w hSw; (try dsimp only at hSw); go_simp; try with_reducible rfl)); try simp only [Act.put, List.setIfInBounds_toArray, List.set_cons_zero, List.set_cons_succ]
                                refine Plan.fin ?_
                                refine wpAnyH_ready (rs := [4, 6]) (by kernel_rfl) (by simp) ?_
                                refine AllReadyH.cons (o := { dst := some 166, op := Go.Op.call { callee := Go.Callee.value (Go.Operand.func 13), args := #[Go.Operand.tmp 165], argTypes := #[22] }, type := 22, pos := "law.go:125", after := #[{ on := 3, ground := Go.Ground.data }, { on := 1, ground := Go.Ground.chain }, { on := 1, ground := Go.Ground.guard }], guard := some (1, true) }) rfl (fun K hK => ?_) (AllReadyH.cons (o := { dst := some 168, op := Go.Op.buildSlice 22 1 #[(0, Go.Operand.tmp 167)], type := 22, pos := "law.go:125", after := #[{ on := 5, ground := Go.Ground.data }, { on := 1, ground := Go.Ground.guard }], guard := some (1, true) }) rfl (fun K hK => ?_) AllReadyH.nil)
                                · go_simp
                                  refine (copyRRs_any _ k _ SL _ ((rowR_own2M HSO.out).1.below hHeld.out) (rowR_own2M HSO.out).2 (by have := HNN.out; omega)).mono ?_; rintro e wB2 ⟨vcB, rfl, hown, hb⟩
                                  have HOB := Lib.hid (own_monoM (base' := wr.heap.size) hown hHeld.out.size)
                                  clear hown
                                  refine hK.out _ _ (Lib.hid (hHeld.out.trans (hb.mono hHeld.out.size))) (fun hHeld2 => ?_)
                                  clear hK K hHeld
                                  have hHeld := hHeld2
                                  clear hHeld2
                                  try simp only [Act.put, List.setIfInBounds_toArray, List.set_cons_zero, List.set_cons_succ]
                                  refine wpAnyH_ready (rs := [6]) (by kernel_rfl) (by simp) ?_
                                  refine AllReadyH.cons (o := { dst := some 168, op := Go.Op.buildSlice 22 1 #[(0, Go.Operand.tmp 167)], type := 22, pos := "law.go:125", after := #[{ on := 5, ground := Go.Ground.data }, { on := 1, ground := Go.Ground.guard }], guard := some (1, true) }) rfl (fun K hK => ?_) AllReadyH.nil
                                  go_simp
                                  have hb := (Below.refl _ _ : Below wB2.heap.size wB2 wB2).alloc (Nat.le_refl _) (.cells #[.string rn, .int .i64 rt, .int .i64 rc, .int .i64 ru, .string rd] 30)
                                  have HLIT := Lib.hid (show CellsAt (wB2.alloc (.cells #[.string rn, .int .i64 rt, .int .i64 rc, .int .i64 ru, .string rd] 30)) (some ⟨wB2.heap.size, 0, none⟩) (1 * 5) (encR ⟨⟨rn, rt, rc⟩, ru, rd⟩) from cells_lit wB2 #[.string rn, .int .i64 rt, .int .i64 rc, .int .i64 ru, .string rd] 30)
                                  obtain ⟨wB3, hw⟩ : ∃ x, wB2.alloc (.cells #[.string rn, .int .i64 rt, .int .i64 rc, .int .i64 ru, .string rd] 30) = x := ⟨_, rfl⟩
                                  obtain ⟨ge, hge⟩ : ∃ x, wB2.heap.size = x := ⟨_, rfl⟩
                                  rw [hw] at hb HLIT ⊢
                                  rw [hge] at HLIT ⊢
                                  replace HOB := Lib.hid (own_below' HOB.out hb)
                                  clear hw hge
                                  refine hK.out _ _ (Lib.hid (hHeld.out.trans (hb.mono hHeld.out.size))) (fun hHeld2 => ?_)
                                  clear hK K hHeld
                                  have hHeld := hHeld2
                                  clear hHeld2
                                  try simp only [Act.put, List.setIfInBounds_toArray, List.set_cons_zero, List.set_cons_succ]
                                  refine wpAnyH_ready (rs := [7]) (by kernel_rfl) (by simp) ?_
                                  refine AllReadyH.cons (o := { dst := some 169, op := Go.Op.call { callee := Go.Callee.builtin Go.Builtin.append, args := #[Go.Operand.tmp 166, Go.Operand.tmp 168], argTypes := #[22, 22] }, type := 22, pos := "law.go:125", after := #[{ on := 4, ground := Go.Ground.data }, { on := 6, ground := Go.Ground.data }, { on := 4, ground := Go.Ground.chain }, { on := 1, ground := Go.Ground.guard }], guard := some (1, true) }) rfl (fun K hK => ?_) AllReadyH.nil
                                  refine step_append_cellsG (by rfl) _ _ 22 30 (by rfl) i0 _ 5 56 Try.underlying22 HI.out HZ0.out HZ1.out HZ2.out rfl (by decide) wr.heap.size _ k _ (by rfl) HOB.out (some ⟨ge, 0, none⟩) 1 1 (encR ⟨⟨rn, rt, rc⟩, ru, rd⟩) (by rfl) (fun h => by cases h) HLIT.out (fun u hu => flatR_oneM (l := [⟨⟨rn, rt, rc⟩, ru, rd⟩]) (by simpa [flatR] using hu)) (by have := HNN.out; omega) (by decide) (hHeld.out.size) ?_
                                  intro v5 wB4 hown hgrow
                                  have hbg := hHeld.out.grown hgrow hHeld.out.size (fun k hk => (HOB.out.lt k hk).1)
                                  have HOX := Lib.hid hown
                                  clear hown hgrow HLIT
                                  refine hK.out _ _ (Lib.hid hbg) (fun hHeld2 => ?_)
                                  clear hK K hHeld
                                  have hHeld := hHeld2
                                  clear hHeld2
                                  try simp only [Act.put, List.setIfInBounds_toArray, List.set_cons_zero, List.set_cons_succ]
                                  refine wpAnyH_ready (rs := [8]) (by kernel_rfl) (by simp) ?_
                                  refine AllReadyH.cons (o := { dst := some 170, op := Go.Op.call { callee := Go.Callee.value (Go.Operand.func 11), args := #[Go.Operand.tmp 164, Go.Operand.tmp 169], argTypes := #[9, 22] }, type := 25, pos := "law.go:125", after := #[{ on := 2, ground := Go.Ground.data }, { on := 7, ground := Go.Ground.data }, { on := 7, ground := Go.Ground.chain }, { on := 1, ground := Go.Ground.guard }], guard := some (1, true) }) rfl (fun K hK => ?_) AllReadyH.nil
                                  obtain ⟨ta, tc, rfl, hrt, hnt⟩ := rowR_own (l := (SL ++ [⟨⟨rn, rt, rc⟩, ru, rd⟩])) (show wB4.ownsRow wr.heap.size 30 5 v5 (k + 1) (flatR (SL ++ [⟨⟨rn, rt, rc⟩, ru, rd⟩])) by rw [flatR_append]; simpa [flatR] using HOX.out)
                                  clear HOX
                                  go_simp
                                  refine (check_any apex _ _ _ (SL ++ [⟨⟨rn, rt, rc⟩, ru, rd⟩]) _ hrt (by have := HNN.out; omega) HSM.out HA.out).mono ?_; rintro e wB5 ⟨rfl, hb⟩
                                  rw [HCK.out]
                                  clear hrt hnt
                                  refine hK.out _ _ (Lib.hid (hHeld.out.trans (hb.mono hHeld.out.size))) (fun hHeld2 => ?_)
                                  clear hK K hHeld
                                  have hHeld := hHeld2
                                  clear hHeld2
                                  try simp only [Act.put, List.setIfInBounds_toArray, List.set_cons_zero, List.set_cons_succ]
                                  refine Plan.of [10, 11, 12, 13, 14, 15, 16, 17, 18] ?_
                                  iterate 7 (refine Plan.w (v := ?_) rfl hHeld (by rfl) ?_ ?_; rotate_left; (focus (intro w hSw; (try dsimp only at hSw); go_simp; try with_reducible rfl)); try simp only [Act.put, List.setIfInBounds_toArray, List.set_cons_zero, List.set_cons_succ])
                                  refine Plan.w (v := ?_) rfl hHeld (by rfl) ?_ ?_; rotate_left; (focus (intro w hSw; (try dsimp only at hSw); have hca := HC.out.below hSw.out; have s0 := (hca.2 0 _ rfl).1; have s1 := (hca.2 1 _ rfl).1; have s2 := (hca.2 2 _ rfl).1; have s3 := (hca.2 3 _ rfl).1; have s4 := (hca.2 4 _ rfl).1; go_simp; try with_reducible rfl)); try simp only [Act.put, List.setIfInBounds_toArray, List.set_cons_zero, List.set_cons_succ]
                                  refine Plan.w (v := ?_) rfl hHeld (by rfl) ?_ ?_; rotate_left; (focus (intro w hSw; (try dsimp only at hSw); go_simp; try with_reducible rfl)); try simp only [Act.put, List.setIfInBounds_toArray, List.set_cons_zero, List.set_cons_succ]
                                  refine Plan.fin ?_
                                  refine wpAnyH_ready (rs := [19]) (by kernel_rfl) (by simp) ?_
                                  refine AllReadyH.cons (o := { dst := some 181, op := Go.Op.call { callee := Go.Callee.value (Go.Operand.func 18), args := #[Go.Operand.tmp 179, Go.Operand.tmp 180], argTypes := #[9, 9] }, type := 4, pos := "law.go:125", after := #[{ on := 17, ground := Go.Ground.data }, { on := 18, ground := Go.Ground.data }, { on := 15, ground := Go.Ground.chain }, { on := 15, ground := Go.Ground.guard }], guard := some (15, true) }) rfl (fun K hK => ?_) AllReadyH.nil
                                  go_simp
                                  refine (runder_any rn apex _ HSR.out.1 HA.out).mono ?_; rintro e wB6 ⟨rfl, hb⟩
                                  rw [HU.out]
                                  refine hK.out _ _ (Lib.hid (hHeld.out.trans (hb.mono hHeld.out.size))) (fun hHeld2 => ?_)
                                  clear hK K hHeld
                                  have hHeld := hHeld2
                                  clear hHeld2
                                  try simp only [Act.put, List.setIfInBounds_toArray, List.set_cons_zero, List.set_cons_succ]
                                  refine Plan.of [20, 21, 22, 23] ?_
                                  iterate 4 (refine Plan.w (v := ?_) rfl hHeld (by rfl) ?_ ?_; rotate_left; (focus (intro w hSw; (try dsimp only at hSw); go_simp; try with_reducible rfl)); try simp only [Act.put, List.setIfInBounds_toArray, List.set_cons_zero, List.set_cons_succ])
                                  refine Plan.fin ?_
                                  refine wpAnyH_ready (rs := [24]) (by kernel_rfl) (by simp) ?_
                                  refine AllReadyH.cons (o := { dst := some 186, op := Go.Op.call { callee := Go.Callee.value (Go.Operand.func 17), args := #[Go.Operand.tmp 184, Go.Operand.tmp 185], argTypes := #[40, 40] }, type := 4, pos := "law.go:125", after := #[{ on := 22, ground := Go.Ground.data }, { on := 23, ground := Go.Ground.data }, { on := 21, ground := Go.Ground.chain }, { on := 21, ground := Go.Ground.guard }], guard := some (21, false) }) rfl (fun K hK => ?_) AllReadyH.nil
                                  go_simp
                                  have HX1 := Lib.hid (own_below' HD1.out hHeld.out)
                                  have HX3 := Lib.hid (own_below' HD3.out hHeld.out)
                                  refine (bytesM _ _ nd ne _ _ DL EL _ (RowB.of_own HX1.out).1 (RowB.of_own HX3.out).1 (RowB.of_own HX1.out).2 (RowB.of_own HX3.out).2).mono ?_; rintro e wB7 ⟨rfl, hw9⟩
                                  rw [HBB.out]
                                  have hb := (Below.refl wB6.heap.size wB6)
                                  subst hw9
                                  clear HX1 HX3
                                  refine hK.out _ _ (Lib.hid (hHeld.out.trans (hb.mono hHeld.out.size))) (fun hHeld2 => ?_)
                                  clear hK K hHeld
                                  have hHeld := hHeld2
                                  clear hHeld2
                                  try simp only [Act.put, List.setIfInBounds_toArray, List.set_cons_zero, List.set_cons_succ]
                                  refine Plan.of [25, 26, 27] ?_
                                  iterate 3 (refine Plan.w (v := ?_) rfl hHeld (by rfl) ?_ ?_; rotate_left; (focus (intro w hSw; (try dsimp only at hSw); go_simp; try with_reducible rfl)); try simp only [Act.put, List.setIfInBounds_toArray, List.set_cons_zero, List.set_cons_succ])
                                  refine Plan.fin ?_
                                  refine wpAnyH_done (by kernel_rfl) ?_ _
                                  have HBZ := Lib.hid (HB.out.trans (hHeld.out.mono HB.out.size))
                                  clear hHeld
                                  go_wp2
                                  go_ret
                                  exact ⟨rfl, HBZ.out⟩
                                · go_simp
                                  have hb := (Below.refl _ _ : Below wB1.heap.size wB1 wB1).alloc (Nat.le_refl _) (.cells #[.string rn, .int .i64 rt, .int .i64 rc, .int .i64 ru, .string rd] 30)
                                  have HLIT := Lib.hid (show CellsAt (wB1.alloc (.cells #[.string rn, .int .i64 rt, .int .i64 rc, .int .i64 ru, .string rd] 30)) (some ⟨wB1.heap.size, 0, none⟩) (1 * 5) (encR ⟨⟨rn, rt, rc⟩, ru, rd⟩) from cells_lit wB1 #[.string rn, .int .i64 rt, .int .i64 rc, .int .i64 ru, .string rd] 30)
                                  obtain ⟨wB2, hw⟩ : ∃ x, wB1.alloc (.cells #[.string rn, .int .i64 rt, .int .i64 rc, .int .i64 ru, .string rd] 30) = x := ⟨_, rfl⟩
                                  obtain ⟨ge, hge⟩ : ∃ x, wB1.heap.size = x := ⟨_, rfl⟩
                                  rw [hw] at hb HLIT ⊢
                                  rw [hge] at HLIT ⊢
                                  clear hw hge
                                  refine hK.out _ _ (Lib.hid (hHeld.out.trans (hb.mono hHeld.out.size))) (fun hHeld2 => ?_)
                                  clear hK K hHeld
                                  have hHeld := hHeld2
                                  clear hHeld2
                                  try simp only [Act.put, List.setIfInBounds_toArray, List.set_cons_zero, List.set_cons_succ]
                                  refine wpAnyH_ready (rs := [4]) (by kernel_rfl) (by simp) ?_
                                  refine AllReadyH.cons (o := { dst := some 166, op := Go.Op.call { callee := Go.Callee.value (Go.Operand.func 13), args := #[Go.Operand.tmp 165], argTypes := #[22] }, type := 22, pos := "law.go:125", after := #[{ on := 3, ground := Go.Ground.data }, { on := 1, ground := Go.Ground.chain }, { on := 1, ground := Go.Ground.guard }], guard := some (1, true) }) rfl (fun K hK => ?_) AllReadyH.nil
                                  go_simp
                                  refine (copyRRs_any _ k _ SL _ ((rowR_own2M HSO.out).1.below hHeld.out) (rowR_own2M HSO.out).2 (by have := HNN.out; omega)).mono ?_; rintro e wB3 ⟨vcB, rfl, hown, hb⟩
                                  have HOB := Lib.hid (own_monoM (base' := wr.heap.size) hown hHeld.out.size)
                                  clear hown
                                  replace HLIT := Lib.hid (HLIT.out.below hb)
                                  refine hK.out _ _ (Lib.hid (hHeld.out.trans (hb.mono hHeld.out.size))) (fun hHeld2 => ?_)
                                  clear hK K hHeld
                                  have hHeld := hHeld2
                                  clear hHeld2
                                  try simp only [Act.put, List.setIfInBounds_toArray, List.set_cons_zero, List.set_cons_succ]
                                  refine wpAnyH_ready (rs := [7]) (by kernel_rfl) (by simp) ?_
                                  refine AllReadyH.cons (o := { dst := some 169, op := Go.Op.call { callee := Go.Callee.builtin Go.Builtin.append, args := #[Go.Operand.tmp 166, Go.Operand.tmp 168], argTypes := #[22, 22] }, type := 22, pos := "law.go:125", after := #[{ on := 4, ground := Go.Ground.data }, { on := 6, ground := Go.Ground.data }, { on := 4, ground := Go.Ground.chain }, { on := 1, ground := Go.Ground.guard }], guard := some (1, true) }) rfl (fun K hK => ?_) AllReadyH.nil
                                  refine step_append_cellsG (by rfl) _ _ 22 30 (by rfl) i0 _ 5 56 Try.underlying22 HI.out HZ0.out HZ1.out HZ2.out rfl (by decide) wr.heap.size _ k _ (by rfl) HOB.out (some ⟨ge, 0, none⟩) 1 1 (encR ⟨⟨rn, rt, rc⟩, ru, rd⟩) (by rfl) (fun h => by cases h) HLIT.out (fun u hu => flatR_oneM (l := [⟨⟨rn, rt, rc⟩, ru, rd⟩]) (by simpa [flatR] using hu)) (by have := HNN.out; omega) (by decide) (hHeld.out.size) ?_
                                  intro v5 wB4 hown hgrow
                                  have hbg := hHeld.out.grown hgrow hHeld.out.size (fun k hk => (HOB.out.lt k hk).1)
                                  have HOX := Lib.hid hown
                                  clear hown hgrow HLIT
                                  refine hK.out _ _ (Lib.hid hbg) (fun hHeld2 => ?_)
                                  clear hK K hHeld
                                  have hHeld := hHeld2
                                  clear hHeld2
                                  try simp only [Act.put, List.setIfInBounds_toArray, List.set_cons_zero, List.set_cons_succ]
                                  refine wpAnyH_ready (rs := [8]) (by kernel_rfl) (by simp) ?_
                                  refine AllReadyH.cons (o := { dst := some 170, op := Go.Op.call { callee := Go.Callee.value (Go.Operand.func 11), args := #[Go.Operand.tmp 164, Go.Operand.tmp 169], argTypes := #[9, 22] }, type := 25, pos := "law.go:125", after := #[{ on := 2, ground := Go.Ground.data }, { on := 7, ground := Go.Ground.data }, { on := 7, ground := Go.Ground.chain }, { on := 1, ground := Go.Ground.guard }], guard := some (1, true) }) rfl (fun K hK => ?_) AllReadyH.nil
                                  obtain ⟨ta, tc, rfl, hrt, hnt⟩ := rowR_own (l := (SL ++ [⟨⟨rn, rt, rc⟩, ru, rd⟩])) (show wB4.ownsRow wr.heap.size 30 5 v5 (k + 1) (flatR (SL ++ [⟨⟨rn, rt, rc⟩, ru, rd⟩])) by rw [flatR_append]; simpa [flatR] using HOX.out)
                                  clear HOX
                                  go_simp
                                  refine (check_any apex _ _ _ (SL ++ [⟨⟨rn, rt, rc⟩, ru, rd⟩]) _ hrt (by have := HNN.out; omega) HSM.out HA.out).mono ?_; rintro e wB5 ⟨rfl, hb⟩
                                  rw [HCK.out]
                                  clear hrt hnt
                                  refine hK.out _ _ (Lib.hid (hHeld.out.trans (hb.mono hHeld.out.size))) (fun hHeld2 => ?_)
                                  clear hK K hHeld
                                  have hHeld := hHeld2
                                  clear hHeld2
                                  try simp only [Act.put, List.setIfInBounds_toArray, List.set_cons_zero, List.set_cons_succ]
                                  refine Plan.of [10, 11, 12, 13, 14, 15, 16, 17, 18] ?_
                                  iterate 7 (refine Plan.w (v := ?_) rfl hHeld (by rfl) ?_ ?_; rotate_left; (focus (intro w hSw; (try dsimp only at hSw); go_simp; try with_reducible rfl)); try simp only [Act.put, List.setIfInBounds_toArray, List.set_cons_zero, List.set_cons_succ])
                                  refine Plan.w (v := ?_) rfl hHeld (by rfl) ?_ ?_; rotate_left; (focus (intro w hSw; (try dsimp only at hSw); have hca := HC.out.below hSw.out; have s0 := (hca.2 0 _ rfl).1; have s1 := (hca.2 1 _ rfl).1; have s2 := (hca.2 2 _ rfl).1; have s3 := (hca.2 3 _ rfl).1; have s4 := (hca.2 4 _ rfl).1; go_simp; try with_reducible rfl)); try simp only [Act.put, List.setIfInBounds_toArray, List.set_cons_zero, List.set_cons_succ]
                                  refine Plan.w (v := ?_) rfl hHeld (by rfl) ?_ ?_; rotate_left; (focus (intro w hSw; (try dsimp only at hSw); go_simp; try with_reducible rfl)); try simp only [Act.put, List.setIfInBounds_toArray, List.set_cons_zero, List.set_cons_succ]
                                  refine Plan.fin ?_
                                  refine wpAnyH_ready (rs := [19]) (by kernel_rfl) (by simp) ?_
                                  refine AllReadyH.cons (o := { dst := some 181, op := Go.Op.call { callee := Go.Callee.value (Go.Operand.func 18), args := #[Go.Operand.tmp 179, Go.Operand.tmp 180], argTypes := #[9, 9] }, type := 4, pos := "law.go:125", after := #[{ on := 17, ground := Go.Ground.data }, { on := 18, ground := Go.Ground.data }, { on := 15, ground := Go.Ground.chain }, { on := 15, ground := Go.Ground.guard }], guard := some (15, true) }) rfl (fun K hK => ?_) AllReadyH.nil
                                  go_simp
                                  refine (runder_any rn apex _ HSR.out.1 HA.out).mono ?_; rintro e wB6 ⟨rfl, hb⟩
                                  rw [HU.out]
                                  refine hK.out _ _ (Lib.hid (hHeld.out.trans (hb.mono hHeld.out.size))) (fun hHeld2 => ?_)
                                  clear hK K hHeld
                                  have hHeld := hHeld2
                                  clear hHeld2
                                  try simp only [Act.put, List.setIfInBounds_toArray, List.set_cons_zero, List.set_cons_succ]
                                  refine Plan.of [20, 21, 22, 23] ?_
                                  iterate 4 (refine Plan.w (v := ?_) rfl hHeld (by rfl) ?_ ?_; rotate_left; (focus (intro w hSw; (try dsimp only at hSw); go_simp; try with_reducible rfl)); try simp only [Act.put, List.setIfInBounds_toArray, List.set_cons_zero, List.set_cons_succ])
                                  refine Plan.fin ?_
                                  refine wpAnyH_ready (rs := [24]) (by kernel_rfl) (by simp) ?_
                                  refine AllReadyH.cons (o := { dst := some 186, op := Go.Op.call { callee := Go.Callee.value (Go.Operand.func 17), args := #[Go.Operand.tmp 184, Go.Operand.tmp 185], argTypes := #[40, 40] }, type := 4, pos := "law.go:125", after := #[{ on := 22, ground := Go.Ground.data }, { on := 23, ground := Go.Ground.data }, { on := 21, ground := Go.Ground.chain }, { on := 21, ground := Go.Ground.guard }], guard := some (21, false) }) rfl (fun K hK => ?_) AllReadyH.nil
                                  go_simp
                                  have HX1 := Lib.hid (own_below' HD1.out hHeld.out)
                                  have HX3 := Lib.hid (own_below' HD3.out hHeld.out)
                                  refine (bytesM _ _ nd ne _ _ DL EL _ (RowB.of_own HX1.out).1 (RowB.of_own HX3.out).1 (RowB.of_own HX1.out).2 (RowB.of_own HX3.out).2).mono ?_; rintro e wB7 ⟨rfl, hw9⟩
                                  rw [HBB.out]
                                  have hb := (Below.refl wB6.heap.size wB6)
                                  subst hw9
                                  clear HX1 HX3
                                  refine hK.out _ _ (Lib.hid (hHeld.out.trans (hb.mono hHeld.out.size))) (fun hHeld2 => ?_)
                                  clear hK K hHeld
                                  have hHeld := hHeld2
                                  clear hHeld2
                                  try simp only [Act.put, List.setIfInBounds_toArray, List.set_cons_zero, List.set_cons_succ]
                                  refine Plan.of [25, 26, 27] ?_
                                  iterate 3 (refine Plan.w (v := ?_) rfl hHeld (by rfl) ?_ ?_; rotate_left; (focus (intro w hSw; (try dsimp only at hSw); go_simp; try with_reducible rfl)); try simp only [Act.put, List.setIfInBounds_toArray, List.set_cons_zero, List.set_cons_succ])
                                  refine Plan.fin ?_
                                  refine wpAnyH_done (by kernel_rfl) ?_ _
                                  have HBZ := Lib.hid (HB.out.trans (hHeld.out.mono HB.out.size))
                                  clear hHeld
                                  go_wp2
                                  go_ret
                                  exact ⟨rfl, HBZ.out⟩
                              · obtain ⟨x0, x1, x2, x3, x4, _⟩ := HC.out.u5
                                go_upto_region 29 with (fail)
                                clear x0 x1 x2 x3 x4
                                refine wp_region_held_drew (S := (fun wx => Hid (Below wr.heap.size wr wx))) (by kernel_rfl) (Lib.hid (Below.refl _ _).drew) (fun hHeld => ?_)
                                obtain ⟨wB0, hwd⟩ : ∃ z, wr.drew = z := ⟨_, rfl⟩
                                rw [hwd] at hHeld ⊢
                                clear hwd
                                refine wpAnyH_ready (rs := [0]) (by kernel_rfl) (by simp) ?_
                                refine AllReadyH.cons (o := { dst := some 162, op := Go.Op.call { callee := Go.Callee.value (Go.Operand.func 8), args := #[], argTypes := #[] }, type := 4, pos := "law.go:125", after := #[], guard := none }) rfl (fun K hK => ?_) AllReadyH.nil
                                go_simp
                                refine (first9 _).mono ?_; rintro e wB1 ⟨rfl, hb⟩
                                refine hK.out _ _ (Lib.hid (hHeld.out.trans (hb.mono hHeld.out.size))) (fun hHeld2 => ?_)
                                clear hK K hHeld
                                have hHeld := hHeld2
                                clear hHeld2
                                try simp only [Act.put, List.setIfInBounds_toArray, List.set_cons_zero, List.set_cons_succ]
                                refine Plan.of [1, 2, 3, 5, 9] ?_
                                iterate 3 (refine Plan.w (v := ?_) rfl hHeld (by rfl) ?_ ?_; rotate_left; (focus (intro w hSw; (try dsimp only at hSw); go_simp; try with_reducible rfl)); try simp only [Act.put, List.setIfInBounds_toArray, List.set_cons_zero, List.set_cons_succ])
                                refine Plan.w (v := ?_) rfl hHeld (by rfl) ?_ ?_; rotate_left; (focus (intro w hSw; (try dsimp only at hSw); have hca := HC.out.below hSw.out; have s0 := (hca.2 0 _ rfl).1; have s1 := (hca.2 1 _ rfl).1; have s2 := (hca.2 2 _ rfl).1; have s3 := (hca.2 3 _ rfl).1; have s4 := (hca.2 4 _ rfl).1; go_simp; try with_reducible rfl)); try simp only [Act.put, List.setIfInBounds_toArray, List.set_cons_zero, List.set_cons_succ]
                                refine Plan.w (v := ?_) rfl hHeld (by rfl) ?_ ?_; rotate_left; (focus (intro w hSw; (try dsimp only at hSw); go_simp; try with_reducible rfl)); try simp only [Act.put, List.setIfInBounds_toArray, List.set_cons_zero, List.set_cons_succ]
                                refine Plan.fin ?_
                                refine wpAnyH_ready (rs := [4, 6]) (by kernel_rfl) (by simp) ?_
                                refine AllReadyH.cons (o := { dst := some 166, op := Go.Op.call { callee := Go.Callee.value (Go.Operand.func 13), args := #[Go.Operand.tmp 165], argTypes := #[22] }, type := 22, pos := "law.go:125", after := #[{ on := 3, ground := Go.Ground.data }, { on := 1, ground := Go.Ground.chain }, { on := 1, ground := Go.Ground.guard }], guard := some (1, true) }) rfl (fun K hK => ?_) (AllReadyH.cons (o := { dst := some 168, op := Go.Op.buildSlice 22 1 #[(0, Go.Operand.tmp 167)], type := 22, pos := "law.go:125", after := #[{ on := 5, ground := Go.Ground.data }, { on := 1, ground := Go.Ground.guard }], guard := some (1, true) }) rfl (fun K hK => ?_) AllReadyH.nil)
                                · go_simp
                                  refine (copyRRs_any _ k _ SL _ ((rowR_own2M HSO.out).1.below hHeld.out) (rowR_own2M HSO.out).2 (by have := HNN.out; omega)).mono ?_; rintro e wB2 ⟨vcB, rfl, hown, hb⟩
                                  have HOB := Lib.hid (own_monoM (base' := wr.heap.size) hown hHeld.out.size)
                                  clear hown
                                  refine hK.out _ _ (Lib.hid (hHeld.out.trans (hb.mono hHeld.out.size))) (fun hHeld2 => ?_)
                                  clear hK K hHeld
                                  have hHeld := hHeld2
                                  clear hHeld2
                                  try simp only [Act.put, List.setIfInBounds_toArray, List.set_cons_zero, List.set_cons_succ]
                                  refine wpAnyH_ready (rs := [6]) (by kernel_rfl) (by simp) ?_
                                  refine AllReadyH.cons (o := { dst := some 168, op := Go.Op.buildSlice 22 1 #[(0, Go.Operand.tmp 167)], type := 22, pos := "law.go:125", after := #[{ on := 5, ground := Go.Ground.data }, { on := 1, ground := Go.Ground.guard }], guard := some (1, true) }) rfl (fun K hK => ?_) AllReadyH.nil
                                  go_simp
                                  have hb := (Below.refl _ _ : Below wB2.heap.size wB2 wB2).alloc (Nat.le_refl _) (.cells #[.string rn, .int .i64 rt, .int .i64 rc, .int .i64 ru, .string rd] 30)
                                  have HLIT := Lib.hid (show CellsAt (wB2.alloc (.cells #[.string rn, .int .i64 rt, .int .i64 rc, .int .i64 ru, .string rd] 30)) (some ⟨wB2.heap.size, 0, none⟩) (1 * 5) (encR ⟨⟨rn, rt, rc⟩, ru, rd⟩) from cells_lit wB2 #[.string rn, .int .i64 rt, .int .i64 rc, .int .i64 ru, .string rd] 30)
                                  obtain ⟨wB3, hw⟩ : ∃ x, wB2.alloc (.cells #[.string rn, .int .i64 rt, .int .i64 rc, .int .i64 ru, .string rd] 30) = x := ⟨_, rfl⟩
                                  obtain ⟨ge, hge⟩ : ∃ x, wB2.heap.size = x := ⟨_, rfl⟩
                                  rw [hw] at hb HLIT ⊢
                                  rw [hge] at HLIT ⊢
                                  replace HOB := Lib.hid (own_below' HOB.out hb)
                                  clear hw hge
                                  refine hK.out _ _ (Lib.hid (hHeld.out.trans (hb.mono hHeld.out.size))) (fun hHeld2 => ?_)
                                  clear hK K hHeld
                                  have hHeld := hHeld2
                                  clear hHeld2
                                  try simp only [Act.put, List.setIfInBounds_toArray, List.set_cons_zero, List.set_cons_succ]
                                  refine wpAnyH_ready (rs := [7]) (by kernel_rfl) (by simp) ?_
                                  refine AllReadyH.cons (o := { dst := some 169, op := Go.Op.call { callee := Go.Callee.builtin Go.Builtin.append, args := #[Go.Operand.tmp 166, Go.Operand.tmp 168], argTypes := #[22, 22] }, type := 22, pos := "law.go:125", after := #[{ on := 4, ground := Go.Ground.data }, { on := 6, ground := Go.Ground.data }, { on := 4, ground := Go.Ground.chain }, { on := 1, ground := Go.Ground.guard }], guard := some (1, true) }) rfl (fun K hK => ?_) AllReadyH.nil
                                  refine step_append_cellsG (by rfl) _ _ 22 30 (by rfl) i0 _ 5 56 Try.underlying22 HI.out HZ0.out HZ1.out HZ2.out rfl (by decide) wr.heap.size _ k _ (by rfl) HOB.out (some ⟨ge, 0, none⟩) 1 1 (encR ⟨⟨rn, rt, rc⟩, ru, rd⟩) (by rfl) (fun h => by cases h) HLIT.out (fun u hu => flatR_oneM (l := [⟨⟨rn, rt, rc⟩, ru, rd⟩]) (by simpa [flatR] using hu)) (by have := HNN.out; omega) (by decide) (hHeld.out.size) ?_
                                  intro v5 wB4 hown hgrow
                                  have hbg := hHeld.out.grown hgrow hHeld.out.size (fun k hk => (HOB.out.lt k hk).1)
                                  have HOX := Lib.hid hown
                                  clear hown hgrow HLIT
                                  refine hK.out _ _ (Lib.hid hbg) (fun hHeld2 => ?_)
                                  clear hK K hHeld
                                  have hHeld := hHeld2
                                  clear hHeld2
                                  try simp only [Act.put, List.setIfInBounds_toArray, List.set_cons_zero, List.set_cons_succ]
                                  refine wpAnyH_ready (rs := [8]) (by kernel_rfl) (by simp) ?_
                                  refine AllReadyH.cons (o := { dst := some 170, op := Go.Op.call { callee := Go.Callee.value (Go.Operand.func 11), args := #[Go.Operand.tmp 164, Go.Operand.tmp 169], argTypes := #[9, 22] }, type := 25, pos := "law.go:125", after := #[{ on := 2, ground := Go.Ground.data }, { on := 7, ground := Go.Ground.data }, { on := 7, ground := Go.Ground.chain }, { on := 1, ground := Go.Ground.guard }], guard := some (1, true) }) rfl (fun K hK => ?_) AllReadyH.nil
                                  obtain ⟨ta, tc, rfl, hrt, hnt⟩ := rowR_own (l := (SL ++ [⟨⟨rn, rt, rc⟩, ru, rd⟩])) (show wB4.ownsRow wr.heap.size 30 5 v5 (k + 1) (flatR (SL ++ [⟨⟨rn, rt, rc⟩, ru, rd⟩])) by rw [flatR_append]; simpa [flatR] using HOX.out)
                                  clear HOX
                                  go_simp
                                  refine (check_any apex _ _ _ (SL ++ [⟨⟨rn, rt, rc⟩, ru, rd⟩]) _ hrt (by have := HNN.out; omega) HSM.out HA.out).mono ?_; rintro e wB5 ⟨rfl, hb⟩
                                  rw [HCK.out]
                                  clear hrt hnt
                                  refine hK.out _ _ (Lib.hid (hHeld.out.trans (hb.mono hHeld.out.size))) (fun hHeld2 => ?_)
                                  clear hK K hHeld
                                  have hHeld := hHeld2
                                  clear hHeld2
                                  try simp only [Act.put, List.setIfInBounds_toArray, List.set_cons_zero, List.set_cons_succ]
                                  refine Plan.of [10, 11, 12, 13, 14, 15, 16, 17, 18] ?_
                                  iterate 7 (refine Plan.w (v := ?_) rfl hHeld (by rfl) ?_ ?_; rotate_left; (focus (intro w hSw; (try dsimp only at hSw); go_simp; try with_reducible rfl)); try simp only [Act.put, List.setIfInBounds_toArray, List.set_cons_zero, List.set_cons_succ])
                                  refine Plan.w (v := ?_) rfl hHeld (by rfl) ?_ ?_; rotate_left; (focus (intro w hSw; (try dsimp only at hSw); have hca := HC.out.below hSw.out; have s0 := (hca.2 0 _ rfl).1; have s1 := (hca.2 1 _ rfl).1; have s2 := (hca.2 2 _ rfl).1; have s3 := (hca.2 3 _ rfl).1; have s4 := (hca.2 4 _ rfl).1; go_simp; try with_reducible rfl)); try simp only [Act.put, List.setIfInBounds_toArray, List.set_cons_zero, List.set_cons_succ]
                                  refine Plan.w (v := ?_) rfl hHeld (by rfl) ?_ ?_; rotate_left; (focus (intro w hSw; (try dsimp only at hSw); go_simp; try with_reducible rfl)); try simp only [Act.put, List.setIfInBounds_toArray, List.set_cons_zero, List.set_cons_succ]
                                  refine Plan.fin ?_
                                  refine wpAnyH_ready (rs := [19]) (by kernel_rfl) (by simp) ?_
                                  refine AllReadyH.cons (o := { dst := some 181, op := Go.Op.call { callee := Go.Callee.value (Go.Operand.func 18), args := #[Go.Operand.tmp 179, Go.Operand.tmp 180], argTypes := #[9, 9] }, type := 4, pos := "law.go:125", after := #[{ on := 17, ground := Go.Ground.data }, { on := 18, ground := Go.Ground.data }, { on := 15, ground := Go.Ground.chain }, { on := 15, ground := Go.Ground.guard }], guard := some (15, true) }) rfl (fun K hK => ?_) AllReadyH.nil
                                  go_simp
                                  refine (runder_any rn apex _ HSR.out.1 HA.out).mono ?_; rintro e wB6 ⟨rfl, hb⟩
                                  rw [HU.out]
                                  refine hK.out _ _ (Lib.hid (hHeld.out.trans (hb.mono hHeld.out.size))) (fun hHeld2 => ?_)
                                  clear hK K hHeld
                                  have hHeld := hHeld2
                                  clear hHeld2
                                  try simp only [Act.put, List.setIfInBounds_toArray, List.set_cons_zero, List.set_cons_succ]
                                  refine Plan.of [20, 21, 22, 23, 24, 25, 26, 27] ?_
                                  iterate 2 (refine Plan.w (v := ?_) rfl hHeld (by rfl) ?_ ?_; rotate_left; (focus (intro w hSw; (try dsimp only at hSw); go_simp; try with_reducible rfl)); try simp only [Act.put, List.setIfInBounds_toArray, List.set_cons_zero, List.set_cons_succ])
                                  iterate 3 (refine Plan.n rfl hHeld (by rfl) ?_; try simp only [Act.put, List.setIfInBounds_toArray, List.set_cons_zero, List.set_cons_succ])
                                  iterate 3 (refine Plan.w (v := ?_) rfl hHeld (by rfl) ?_ ?_; rotate_left; (focus (intro w hSw; (try dsimp only at hSw); go_simp; try with_reducible rfl)); try simp only [Act.put, List.setIfInBounds_toArray, List.set_cons_zero, List.set_cons_succ])
                                  refine Plan.fin ?_
                                  refine wpAnyH_done (by kernel_rfl) ?_ _
                                  have HBZ := Lib.hid (HB.out.trans (hHeld.out.mono HB.out.size))
                                  clear hHeld
                                  go_wp2
                                  go_ret
                                  exact ⟨rfl, HBZ.out⟩
                                · go_simp
                                  have hb := (Below.refl _ _ : Below wB1.heap.size wB1 wB1).alloc (Nat.le_refl _) (.cells #[.string rn, .int .i64 rt, .int .i64 rc, .int .i64 ru, .string rd] 30)
                                  have HLIT := Lib.hid (show CellsAt (wB1.alloc (.cells #[.string rn, .int .i64 rt, .int .i64 rc, .int .i64 ru, .string rd] 30)) (some ⟨wB1.heap.size, 0, none⟩) (1 * 5) (encR ⟨⟨rn, rt, rc⟩, ru, rd⟩) from cells_lit wB1 #[.string rn, .int .i64 rt, .int .i64 rc, .int .i64 ru, .string rd] 30)
                                  obtain ⟨wB2, hw⟩ : ∃ x, wB1.alloc (.cells #[.string rn, .int .i64 rt, .int .i64 rc, .int .i64 ru, .string rd] 30) = x := ⟨_, rfl⟩
                                  obtain ⟨ge, hge⟩ : ∃ x, wB1.heap.size = x := ⟨_, rfl⟩
                                  rw [hw] at hb HLIT ⊢
                                  rw [hge] at HLIT ⊢
                                  clear hw hge
                                  refine hK.out _ _ (Lib.hid (hHeld.out.trans (hb.mono hHeld.out.size))) (fun hHeld2 => ?_)
                                  clear hK K hHeld
                                  have hHeld := hHeld2
                                  clear hHeld2
                                  try simp only [Act.put, List.setIfInBounds_toArray, List.set_cons_zero, List.set_cons_succ]
                                  refine wpAnyH_ready (rs := [4]) (by kernel_rfl) (by simp) ?_
                                  refine AllReadyH.cons (o := { dst := some 166, op := Go.Op.call { callee := Go.Callee.value (Go.Operand.func 13), args := #[Go.Operand.tmp 165], argTypes := #[22] }, type := 22, pos := "law.go:125", after := #[{ on := 3, ground := Go.Ground.data }, { on := 1, ground := Go.Ground.chain }, { on := 1, ground := Go.Ground.guard }], guard := some (1, true) }) rfl (fun K hK => ?_) AllReadyH.nil
                                  go_simp
                                  refine (copyRRs_any _ k _ SL _ ((rowR_own2M HSO.out).1.below hHeld.out) (rowR_own2M HSO.out).2 (by have := HNN.out; omega)).mono ?_; rintro e wB3 ⟨vcB, rfl, hown, hb⟩
                                  have HOB := Lib.hid (own_monoM (base' := wr.heap.size) hown hHeld.out.size)
                                  clear hown
                                  replace HLIT := Lib.hid (HLIT.out.below hb)
                                  refine hK.out _ _ (Lib.hid (hHeld.out.trans (hb.mono hHeld.out.size))) (fun hHeld2 => ?_)
                                  clear hK K hHeld
                                  have hHeld := hHeld2
                                  clear hHeld2
                                  try simp only [Act.put, List.setIfInBounds_toArray, List.set_cons_zero, List.set_cons_succ]
                                  refine wpAnyH_ready (rs := [7]) (by kernel_rfl) (by simp) ?_
                                  refine AllReadyH.cons (o := { dst := some 169, op := Go.Op.call { callee := Go.Callee.builtin Go.Builtin.append, args := #[Go.Operand.tmp 166, Go.Operand.tmp 168], argTypes := #[22, 22] }, type := 22, pos := "law.go:125", after := #[{ on := 4, ground := Go.Ground.data }, { on := 6, ground := Go.Ground.data }, { on := 4, ground := Go.Ground.chain }, { on := 1, ground := Go.Ground.guard }], guard := some (1, true) }) rfl (fun K hK => ?_) AllReadyH.nil
                                  refine step_append_cellsG (by rfl) _ _ 22 30 (by rfl) i0 _ 5 56 Try.underlying22 HI.out HZ0.out HZ1.out HZ2.out rfl (by decide) wr.heap.size _ k _ (by rfl) HOB.out (some ⟨ge, 0, none⟩) 1 1 (encR ⟨⟨rn, rt, rc⟩, ru, rd⟩) (by rfl) (fun h => by cases h) HLIT.out (fun u hu => flatR_oneM (l := [⟨⟨rn, rt, rc⟩, ru, rd⟩]) (by simpa [flatR] using hu)) (by have := HNN.out; omega) (by decide) (hHeld.out.size) ?_
                                  intro v5 wB4 hown hgrow
                                  have hbg := hHeld.out.grown hgrow hHeld.out.size (fun k hk => (HOB.out.lt k hk).1)
                                  have HOX := Lib.hid hown
                                  clear hown hgrow HLIT
                                  refine hK.out _ _ (Lib.hid hbg) (fun hHeld2 => ?_)
                                  clear hK K hHeld
                                  have hHeld := hHeld2
                                  clear hHeld2
                                  try simp only [Act.put, List.setIfInBounds_toArray, List.set_cons_zero, List.set_cons_succ]
                                  refine wpAnyH_ready (rs := [8]) (by kernel_rfl) (by simp) ?_
                                  refine AllReadyH.cons (o := { dst := some 170, op := Go.Op.call { callee := Go.Callee.value (Go.Operand.func 11), args := #[Go.Operand.tmp 164, Go.Operand.tmp 169], argTypes := #[9, 22] }, type := 25, pos := "law.go:125", after := #[{ on := 2, ground := Go.Ground.data }, { on := 7, ground := Go.Ground.data }, { on := 7, ground := Go.Ground.chain }, { on := 1, ground := Go.Ground.guard }], guard := some (1, true) }) rfl (fun K hK => ?_) AllReadyH.nil
                                  obtain ⟨ta, tc, rfl, hrt, hnt⟩ := rowR_own (l := (SL ++ [⟨⟨rn, rt, rc⟩, ru, rd⟩])) (show wB4.ownsRow wr.heap.size 30 5 v5 (k + 1) (flatR (SL ++ [⟨⟨rn, rt, rc⟩, ru, rd⟩])) by rw [flatR_append]; simpa [flatR] using HOX.out)
                                  clear HOX
                                  go_simp
                                  refine (check_any apex _ _ _ (SL ++ [⟨⟨rn, rt, rc⟩, ru, rd⟩]) _ hrt (by have := HNN.out; omega) HSM.out HA.out).mono ?_; rintro e wB5 ⟨rfl, hb⟩
                                  rw [HCK.out]
                                  clear hrt hnt
                                  refine hK.out _ _ (Lib.hid (hHeld.out.trans (hb.mono hHeld.out.size))) (fun hHeld2 => ?_)
                                  clear hK K hHeld
                                  have hHeld := hHeld2
                                  clear hHeld2
                                  try simp only [Act.put, List.setIfInBounds_toArray, List.set_cons_zero, List.set_cons_succ]
                                  refine Plan.of [10, 11, 12, 13, 14, 15, 16, 17, 18] ?_
                                  iterate 7 (refine Plan.w (v := ?_) rfl hHeld (by rfl) ?_ ?_; rotate_left; (focus (intro w hSw; (try dsimp only at hSw); go_simp; try with_reducible rfl)); try simp only [Act.put, List.setIfInBounds_toArray, List.set_cons_zero, List.set_cons_succ])
                                  refine Plan.w (v := ?_) rfl hHeld (by rfl) ?_ ?_; rotate_left; (focus (intro w hSw; (try dsimp only at hSw); have hca := HC.out.below hSw.out; have s0 := (hca.2 0 _ rfl).1; have s1 := (hca.2 1 _ rfl).1; have s2 := (hca.2 2 _ rfl).1; have s3 := (hca.2 3 _ rfl).1; have s4 := (hca.2 4 _ rfl).1; go_simp; try with_reducible rfl)); try simp only [Act.put, List.setIfInBounds_toArray, List.set_cons_zero, List.set_cons_succ]
                                  refine Plan.w (v := ?_) rfl hHeld (by rfl) ?_ ?_; rotate_left; (focus (intro w hSw; (try dsimp only at hSw); go_simp; try with_reducible rfl)); try simp only [Act.put, List.setIfInBounds_toArray, List.set_cons_zero, List.set_cons_succ]
                                  refine Plan.fin ?_
                                  refine wpAnyH_ready (rs := [19]) (by kernel_rfl) (by simp) ?_
                                  refine AllReadyH.cons (o := { dst := some 181, op := Go.Op.call { callee := Go.Callee.value (Go.Operand.func 18), args := #[Go.Operand.tmp 179, Go.Operand.tmp 180], argTypes := #[9, 9] }, type := 4, pos := "law.go:125", after := #[{ on := 17, ground := Go.Ground.data }, { on := 18, ground := Go.Ground.data }, { on := 15, ground := Go.Ground.chain }, { on := 15, ground := Go.Ground.guard }], guard := some (15, true) }) rfl (fun K hK => ?_) AllReadyH.nil
                                  go_simp
                                  refine (runder_any rn apex _ HSR.out.1 HA.out).mono ?_; rintro e wB6 ⟨rfl, hb⟩
                                  rw [HU.out]
                                  refine hK.out _ _ (Lib.hid (hHeld.out.trans (hb.mono hHeld.out.size))) (fun hHeld2 => ?_)
                                  clear hK K hHeld
                                  have hHeld := hHeld2
                                  clear hHeld2
                                  try simp only [Act.put, List.setIfInBounds_toArray, List.set_cons_zero, List.set_cons_succ]
                                  refine Plan.of [20, 21, 22, 23, 24, 25, 26, 27] ?_
                                  iterate 2 (refine Plan.w (v := ?_) rfl hHeld (by rfl) ?_ ?_; rotate_left; (focus (intro w hSw; (try dsimp only at hSw); go_simp; try with_reducible rfl)); try simp only [Act.put, List.setIfInBounds_toArray, List.set_cons_zero, List.set_cons_succ])
                                  iterate 3 (refine Plan.n rfl hHeld (by rfl) ?_; try simp only [Act.put, List.setIfInBounds_toArray, List.set_cons_zero, List.set_cons_succ])
                                  iterate 3 (refine Plan.w (v := ?_) rfl hHeld (by rfl) ?_ ?_; rotate_left; (focus (intro w hSw; (try dsimp only at hSw); go_simp; try with_reducible rfl)); try simp only [Act.put, List.setIfInBounds_toArray, List.set_cons_zero, List.set_cons_succ])
                                  refine Plan.fin ?_
                                  refine wpAnyH_done (by kernel_rfl) ?_ _
                                  have HBZ := Lib.hid (HB.out.trans (hHeld.out.mono HB.out.size))
                                  clear hHeld
                                  go_wp2
                                  go_ret
                                  exact ⟨rfl, HBZ.out⟩
                            · obtain ⟨x0, x1, x2, x3, x4, _⟩ := HC.out.u5
                              go_upto_region 29 with (fail)
                              clear x0 x1 x2 x3 x4
                              refine wp_region_held_drew (S := (fun wx => Hid (Below wr.heap.size wr wx))) (by kernel_rfl) (Lib.hid (Below.refl _ _).drew) (fun hHeld => ?_)
                              obtain ⟨wB0, hwd⟩ : ∃ z, wr.drew = z := ⟨_, rfl⟩
                              rw [hwd] at hHeld ⊢
                              clear hwd
                              refine wpAnyH_ready (rs := [0]) (by kernel_rfl) (by simp) ?_
                              refine AllReadyH.cons (o := { dst := some 162, op := Go.Op.call { callee := Go.Callee.value (Go.Operand.func 8), args := #[], argTypes := #[] }, type := 4, pos := "law.go:125", after := #[], guard := none }) rfl (fun K hK => ?_) AllReadyH.nil
                              go_simp
                              refine (first9 _).mono ?_; rintro e wB1 ⟨rfl, hb⟩
                              refine hK.out _ _ (Lib.hid (hHeld.out.trans (hb.mono hHeld.out.size))) (fun hHeld2 => ?_)
                              clear hK K hHeld
                              have hHeld := hHeld2
                              clear hHeld2
                              try simp only [Act.put, List.setIfInBounds_toArray, List.set_cons_zero, List.set_cons_succ]
                              refine Plan.of [1, 2, 3, 5, 9] ?_
                              iterate 3 (refine Plan.w (v := ?_) rfl hHeld (by rfl) ?_ ?_; rotate_left; (focus (intro w hSw; (try dsimp only at hSw); go_simp; try with_reducible rfl)); try simp only [Act.put, List.setIfInBounds_toArray, List.set_cons_zero, List.set_cons_succ])
                              refine Plan.w (v := ?_) rfl hHeld (by rfl) ?_ ?_; rotate_left; (focus (intro w hSw; (try dsimp only at hSw); have hca := HC.out.below hSw.out; have s0 := (hca.2 0 _ rfl).1; have s1 := (hca.2 1 _ rfl).1; have s2 := (hca.2 2 _ rfl).1; have s3 := (hca.2 3 _ rfl).1; have s4 := (hca.2 4 _ rfl).1; go_simp; try with_reducible rfl)); try simp only [Act.put, List.setIfInBounds_toArray, List.set_cons_zero, List.set_cons_succ]
                              refine Plan.w (v := ?_) rfl hHeld (by rfl) ?_ ?_; rotate_left; (focus (intro w hSw; (try dsimp only at hSw); go_simp; try with_reducible rfl)); try simp only [Act.put, List.setIfInBounds_toArray, List.set_cons_zero, List.set_cons_succ]
                              refine Plan.fin ?_
                              refine wpAnyH_ready (rs := [4, 6]) (by kernel_rfl) (by simp) ?_
                              refine AllReadyH.cons (o := { dst := some 166, op := Go.Op.call { callee := Go.Callee.value (Go.Operand.func 13), args := #[Go.Operand.tmp 165], argTypes := #[22] }, type := 22, pos := "law.go:125", after := #[{ on := 3, ground := Go.Ground.data }, { on := 1, ground := Go.Ground.chain }, { on := 1, ground := Go.Ground.guard }], guard := some (1, true) }) rfl (fun K hK => ?_) (AllReadyH.cons (o := { dst := some 168, op := Go.Op.buildSlice 22 1 #[(0, Go.Operand.tmp 167)], type := 22, pos := "law.go:125", after := #[{ on := 5, ground := Go.Ground.data }, { on := 1, ground := Go.Ground.guard }], guard := some (1, true) }) rfl (fun K hK => ?_) AllReadyH.nil)
                              · go_simp
                                refine (copyRRs_any _ k _ SL _ ((rowR_own2M HSO.out).1.below hHeld.out) (rowR_own2M HSO.out).2 (by have := HNN.out; omega)).mono ?_; rintro e wB2 ⟨vcB, rfl, hown, hb⟩
                                have HOB := Lib.hid (own_monoM (base' := wr.heap.size) hown hHeld.out.size)
                                clear hown
                                refine hK.out _ _ (Lib.hid (hHeld.out.trans (hb.mono hHeld.out.size))) (fun hHeld2 => ?_)
                                clear hK K hHeld
                                have hHeld := hHeld2
                                clear hHeld2
                                try simp only [Act.put, List.setIfInBounds_toArray, List.set_cons_zero, List.set_cons_succ]
                                refine wpAnyH_ready (rs := [6]) (by kernel_rfl) (by simp) ?_
                                refine AllReadyH.cons (o := { dst := some 168, op := Go.Op.buildSlice 22 1 #[(0, Go.Operand.tmp 167)], type := 22, pos := "law.go:125", after := #[{ on := 5, ground := Go.Ground.data }, { on := 1, ground := Go.Ground.guard }], guard := some (1, true) }) rfl (fun K hK => ?_) AllReadyH.nil
                                go_simp
                                have hb := (Below.refl _ _ : Below wB2.heap.size wB2 wB2).alloc (Nat.le_refl _) (.cells #[.string rn, .int .i64 rt, .int .i64 rc, .int .i64 ru, .string rd] 30)
                                have HLIT := Lib.hid (show CellsAt (wB2.alloc (.cells #[.string rn, .int .i64 rt, .int .i64 rc, .int .i64 ru, .string rd] 30)) (some ⟨wB2.heap.size, 0, none⟩) (1 * 5) (encR ⟨⟨rn, rt, rc⟩, ru, rd⟩) from cells_lit wB2 #[.string rn, .int .i64 rt, .int .i64 rc, .int .i64 ru, .string rd] 30)
                                obtain ⟨wB3, hw⟩ : ∃ x, wB2.alloc (.cells #[.string rn, .int .i64 rt, .int .i64 rc, .int .i64 ru, .string rd] 30) = x := ⟨_, rfl⟩
                                obtain ⟨ge, hge⟩ : ∃ x, wB2.heap.size = x := ⟨_, rfl⟩
                                rw [hw] at hb HLIT ⊢
                                rw [hge] at HLIT ⊢
                                replace HOB := Lib.hid (own_below' HOB.out hb)
                                clear hw hge
                                refine hK.out _ _ (Lib.hid (hHeld.out.trans (hb.mono hHeld.out.size))) (fun hHeld2 => ?_)
                                clear hK K hHeld
                                have hHeld := hHeld2
                                clear hHeld2
                                try simp only [Act.put, List.setIfInBounds_toArray, List.set_cons_zero, List.set_cons_succ]
                                refine wpAnyH_ready (rs := [7]) (by kernel_rfl) (by simp) ?_
                                refine AllReadyH.cons (o := { dst := some 169, op := Go.Op.call { callee := Go.Callee.builtin Go.Builtin.append, args := #[Go.Operand.tmp 166, Go.Operand.tmp 168], argTypes := #[22, 22] }, type := 22, pos := "law.go:125", after := #[{ on := 4, ground := Go.Ground.data }, { on := 6, ground := Go.Ground.data }, { on := 4, ground := Go.Ground.chain }, { on := 1, ground := Go.Ground.guard }], guard := some (1, true) }) rfl (fun K hK => ?_) AllReadyH.nil
                                refine step_append_cellsG (by rfl) _ _ 22 30 (by rfl) i0 _ 5 56 Try.underlying22 HI.out HZ0.out HZ1.out HZ2.out rfl (by decide) wr.heap.size _ k _ (by rfl) HOB.out (some ⟨ge, 0, none⟩) 1 1 (encR ⟨⟨rn, rt, rc⟩, ru, rd⟩) (by rfl) (fun h => by cases h) HLIT.out (fun u hu => flatR_oneM (l := [⟨⟨rn, rt, rc⟩, ru, rd⟩]) (by simpa [flatR] using hu)) (by have := HNN.out; omega) (by decide) (hHeld.out.size) ?_
                                intro v5 wB4 hown hgrow
                                have hbg := hHeld.out.grown hgrow hHeld.out.size (fun k hk => (HOB.out.lt k hk).1)
                                have HOX := Lib.hid hown
                                clear hown hgrow HLIT
                                refine hK.out _ _ (Lib.hid hbg) (fun hHeld2 => ?_)
                                clear hK K hHeld
                                have hHeld := hHeld2
                                clear hHeld2
                                try simp only [Act.put, List.setIfInBounds_toArray, List.set_cons_zero, List.set_cons_succ]
                                refine wpAnyH_ready (rs := [8]) (by kernel_rfl) (by simp) ?_
                                refine AllReadyH.cons (o := { dst := some 170, op := Go.Op.call { callee := Go.Callee.value (Go.Operand.func 11), args := #[Go.Operand.tmp 164, Go.Operand.tmp 169], argTypes := #[9, 22] }, type := 25, pos := "law.go:125", after := #[{ on := 2, ground := Go.Ground.data }, { on := 7, ground := Go.Ground.data }, { on := 7, ground := Go.Ground.chain }, { on := 1, ground := Go.Ground.guard }], guard := some (1, true) }) rfl (fun K hK => ?_) AllReadyH.nil
                                obtain ⟨ta, tc, rfl, hrt, hnt⟩ := rowR_own (l := (SL ++ [⟨⟨rn, rt, rc⟩, ru, rd⟩])) (show wB4.ownsRow wr.heap.size 30 5 v5 (k + 1) (flatR (SL ++ [⟨⟨rn, rt, rc⟩, ru, rd⟩])) by rw [flatR_append]; simpa [flatR] using HOX.out)
                                clear HOX
                                go_simp
                                refine (check_any apex _ _ _ (SL ++ [⟨⟨rn, rt, rc⟩, ru, rd⟩]) _ hrt (by have := HNN.out; omega) HSM.out HA.out).mono ?_; rintro e wB5 ⟨rfl, hb⟩
                                rw [HCK.out]
                                clear hrt hnt
                                refine hK.out _ _ (Lib.hid (hHeld.out.trans (hb.mono hHeld.out.size))) (fun hHeld2 => ?_)
                                clear hK K hHeld
                                have hHeld := hHeld2
                                clear hHeld2
                                try simp only [Act.put, List.setIfInBounds_toArray, List.set_cons_zero, List.set_cons_succ]
                                refine Plan.of [10, 11, 12, 13, 14, 15, 16, 17, 18, 19, 20, 21, 22, 23] ?_
                                iterate 6 (refine Plan.w (v := ?_) rfl hHeld (by rfl) ?_ ?_; rotate_left; (focus (intro w hSw; (try dsimp only at hSw); go_simp; try with_reducible rfl)); try simp only [Act.put, List.setIfInBounds_toArray, List.set_cons_zero, List.set_cons_succ])
                                iterate 4 (refine Plan.n rfl hHeld (by rfl) ?_; try simp only [Act.put, List.setIfInBounds_toArray, List.set_cons_zero, List.set_cons_succ])
                                iterate 4 (refine Plan.w (v := ?_) rfl hHeld (by rfl) ?_ ?_; rotate_left; (focus (intro w hSw; (try dsimp only at hSw); go_simp; try with_reducible rfl)); try simp only [Act.put, List.setIfInBounds_toArray, List.set_cons_zero, List.set_cons_succ])
                                refine Plan.fin ?_
                                refine wpAnyH_ready (rs := [24]) (by kernel_rfl) (by simp) ?_
                                refine AllReadyH.cons (o := { dst := some 186, op := Go.Op.call { callee := Go.Callee.value (Go.Operand.func 17), args := #[Go.Operand.tmp 184, Go.Operand.tmp 185], argTypes := #[40, 40] }, type := 4, pos := "law.go:125", after := #[{ on := 22, ground := Go.Ground.data }, { on := 23, ground := Go.Ground.data }, { on := 21, ground := Go.Ground.chain }, { on := 21, ground := Go.Ground.guard }], guard := some (21, false) }) rfl (fun K hK => ?_) AllReadyH.nil
                                go_simp
                                have HX1 := Lib.hid (own_below' HD1.out hHeld.out)
                                have HX3 := Lib.hid (own_below' HD3.out hHeld.out)
                                refine (bytesM _ _ nd ne _ _ DL EL _ (RowB.of_own HX1.out).1 (RowB.of_own HX3.out).1 (RowB.of_own HX1.out).2 (RowB.of_own HX3.out).2).mono ?_; rintro e wB6 ⟨rfl, hw9⟩
                                rw [HBB.out]
                                have hb := (Below.refl wB5.heap.size wB5)
                                subst hw9
                                clear HX1 HX3
                                refine hK.out _ _ (Lib.hid (hHeld.out.trans (hb.mono hHeld.out.size))) (fun hHeld2 => ?_)
                                clear hK K hHeld
                                have hHeld := hHeld2
                                clear hHeld2
                                try simp only [Act.put, List.setIfInBounds_toArray, List.set_cons_zero, List.set_cons_succ]
                                refine Plan.of [25, 26, 27] ?_
                                iterate 3 (refine Plan.w (v := ?_) rfl hHeld (by rfl) ?_ ?_; rotate_left; (focus (intro w hSw; (try dsimp only at hSw); go_simp; try with_reducible rfl)); try simp only [Act.put, List.setIfInBounds_toArray, List.set_cons_zero, List.set_cons_succ])
                                refine Plan.fin ?_
                                refine wpAnyH_done (by kernel_rfl) ?_ _
                                have HBZ := Lib.hid (HB.out.trans (hHeld.out.mono HB.out.size))
                                clear hHeld
                                go_wp2
                                go_ret
                                exact ⟨rfl, HBZ.out⟩
                              · go_simp
                                have hb := (Below.refl _ _ : Below wB1.heap.size wB1 wB1).alloc (Nat.le_refl _) (.cells #[.string rn, .int .i64 rt, .int .i64 rc, .int .i64 ru, .string rd] 30)
                                have HLIT := Lib.hid (show CellsAt (wB1.alloc (.cells #[.string rn, .int .i64 rt, .int .i64 rc, .int .i64 ru, .string rd] 30)) (some ⟨wB1.heap.size, 0, none⟩) (1 * 5) (encR ⟨⟨rn, rt, rc⟩, ru, rd⟩) from cells_lit wB1 #[.string rn, .int .i64 rt, .int .i64 rc, .int .i64 ru, .string rd] 30)
                                obtain ⟨wB2, hw⟩ : ∃ x, wB1.alloc (.cells #[.string rn, .int .i64 rt, .int .i64 rc, .int .i64 ru, .string rd] 30) = x := ⟨_, rfl⟩
                                obtain ⟨ge, hge⟩ : ∃ x, wB1.heap.size = x := ⟨_, rfl⟩
                                rw [hw] at hb HLIT ⊢
                                rw [hge] at HLIT ⊢
                                clear hw hge
                                refine hK.out _ _ (Lib.hid (hHeld.out.trans (hb.mono hHeld.out.size))) (fun hHeld2 => ?_)
                                clear hK K hHeld
                                have hHeld := hHeld2
                                clear hHeld2
                                try simp only [Act.put, List.setIfInBounds_toArray, List.set_cons_zero, List.set_cons_succ]
                                refine wpAnyH_ready (rs := [4]) (by kernel_rfl) (by simp) ?_
                                refine AllReadyH.cons (o := { dst := some 166, op := Go.Op.call { callee := Go.Callee.value (Go.Operand.func 13), args := #[Go.Operand.tmp 165], argTypes := #[22] }, type := 22, pos := "law.go:125", after := #[{ on := 3, ground := Go.Ground.data }, { on := 1, ground := Go.Ground.chain }, { on := 1, ground := Go.Ground.guard }], guard := some (1, true) }) rfl (fun K hK => ?_) AllReadyH.nil
                                go_simp
                                refine (copyRRs_any _ k _ SL _ ((rowR_own2M HSO.out).1.below hHeld.out) (rowR_own2M HSO.out).2 (by have := HNN.out; omega)).mono ?_; rintro e wB3 ⟨vcB, rfl, hown, hb⟩
                                have HOB := Lib.hid (own_monoM (base' := wr.heap.size) hown hHeld.out.size)
                                clear hown
                                replace HLIT := Lib.hid (HLIT.out.below hb)
                                refine hK.out _ _ (Lib.hid (hHeld.out.trans (hb.mono hHeld.out.size))) (fun hHeld2 => ?_)
                                clear hK K hHeld
                                have hHeld := hHeld2
                                clear hHeld2
                                try simp only [Act.put, List.setIfInBounds_toArray, List.set_cons_zero, List.set_cons_succ]
                                refine wpAnyH_ready (rs := [7]) (by kernel_rfl) (by simp) ?_
                                refine AllReadyH.cons (o := { dst := some 169, op := Go.Op.call { callee := Go.Callee.builtin Go.Builtin.append, args := #[Go.Operand.tmp 166, Go.Operand.tmp 168], argTypes := #[22, 22] }, type := 22, pos := "law.go:125", after := #[{ on := 4, ground := Go.Ground.data }, { on := 6, ground := Go.Ground.data }, { on := 4, ground := Go.Ground.chain }, { on := 1, ground := Go.Ground.guard }], guard := some (1, true) }) rfl (fun K hK => ?_) AllReadyH.nil
                                refine step_append_cellsG (by rfl) _ _ 22 30 (by rfl) i0 _ 5 56 Try.underlying22 HI.out HZ0.out HZ1.out HZ2.out rfl (by decide) wr.heap.size _ k _ (by rfl) HOB.out (some ⟨ge, 0, none⟩) 1 1 (encR ⟨⟨rn, rt, rc⟩, ru, rd⟩) (by rfl) (fun h => by cases h) HLIT.out (fun u hu => flatR_oneM (l := [⟨⟨rn, rt, rc⟩, ru, rd⟩]) (by simpa [flatR] using hu)) (by have := HNN.out; omega) (by decide) (hHeld.out.size) ?_
                                intro v5 wB4 hown hgrow
                                have hbg := hHeld.out.grown hgrow hHeld.out.size (fun k hk => (HOB.out.lt k hk).1)
                                have HOX := Lib.hid hown
                                clear hown hgrow HLIT
                                refine hK.out _ _ (Lib.hid hbg) (fun hHeld2 => ?_)
                                clear hK K hHeld
                                have hHeld := hHeld2
                                clear hHeld2
                                try simp only [Act.put, List.setIfInBounds_toArray, List.set_cons_zero, List.set_cons_succ]
                                refine wpAnyH_ready (rs := [8]) (by kernel_rfl) (by simp) ?_
                                refine AllReadyH.cons (o := { dst := some 170, op := Go.Op.call { callee := Go.Callee.value (Go.Operand.func 11), args := #[Go.Operand.tmp 164, Go.Operand.tmp 169], argTypes := #[9, 22] }, type := 25, pos := "law.go:125", after := #[{ on := 2, ground := Go.Ground.data }, { on := 7, ground := Go.Ground.data }, { on := 7, ground := Go.Ground.chain }, { on := 1, ground := Go.Ground.guard }], guard := some (1, true) }) rfl (fun K hK => ?_) AllReadyH.nil
                                obtain ⟨ta, tc, rfl, hrt, hnt⟩ := rowR_own (l := (SL ++ [⟨⟨rn, rt, rc⟩, ru, rd⟩])) (show wB4.ownsRow wr.heap.size 30 5 v5 (k + 1) (flatR (SL ++ [⟨⟨rn, rt, rc⟩, ru, rd⟩])) by rw [flatR_append]; simpa [flatR] using HOX.out)
                                clear HOX
                                go_simp
                                refine (check_any apex _ _ _ (SL ++ [⟨⟨rn, rt, rc⟩, ru, rd⟩]) _ hrt (by have := HNN.out; omega) HSM.out HA.out).mono ?_; rintro e wB5 ⟨rfl, hb⟩
                                rw [HCK.out]
                                clear hrt hnt
                                refine hK.out _ _ (Lib.hid (hHeld.out.trans (hb.mono hHeld.out.size))) (fun hHeld2 => ?_)
                                clear hK K hHeld
                                have hHeld := hHeld2
                                clear hHeld2
                                try simp only [Act.put, List.setIfInBounds_toArray, List.set_cons_zero, List.set_cons_succ]
                                refine Plan.of [10, 11, 12, 13, 14, 15, 16, 17, 18, 19, 20, 21, 22, 23] ?_
                                iterate 6 (refine Plan.w (v := ?_) rfl hHeld (by rfl) ?_ ?_; rotate_left; (focus (intro w hSw; (try dsimp only at hSw); go_simp; try with_reducible rfl)); try simp only [Act.put, List.setIfInBounds_toArray, List.set_cons_zero, List.set_cons_succ])
                                iterate 4 (refine Plan.n rfl hHeld (by rfl) ?_; try simp only [Act.put, List.setIfInBounds_toArray, List.set_cons_zero, List.set_cons_succ])
                                iterate 4 (refine Plan.w (v := ?_) rfl hHeld (by rfl) ?_ ?_; rotate_left; (focus (intro w hSw; (try dsimp only at hSw); go_simp; try with_reducible rfl)); try simp only [Act.put, List.setIfInBounds_toArray, List.set_cons_zero, List.set_cons_succ])
                                refine Plan.fin ?_
                                refine wpAnyH_ready (rs := [24]) (by kernel_rfl) (by simp) ?_
                                refine AllReadyH.cons (o := { dst := some 186, op := Go.Op.call { callee := Go.Callee.value (Go.Operand.func 17), args := #[Go.Operand.tmp 184, Go.Operand.tmp 185], argTypes := #[40, 40] }, type := 4, pos := "law.go:125", after := #[{ on := 22, ground := Go.Ground.data }, { on := 23, ground := Go.Ground.data }, { on := 21, ground := Go.Ground.chain }, { on := 21, ground := Go.Ground.guard }], guard := some (21, false) }) rfl (fun K hK => ?_) AllReadyH.nil
                                go_simp
                                have HX1 := Lib.hid (own_below' HD1.out hHeld.out)
                                have HX3 := Lib.hid (own_below' HD3.out hHeld.out)
                                refine (bytesM _ _ nd ne _ _ DL EL _ (RowB.of_own HX1.out).1 (RowB.of_own HX3.out).1 (RowB.of_own HX1.out).2 (RowB.of_own HX3.out).2).mono ?_; rintro e wB6 ⟨rfl, hw9⟩
                                rw [HBB.out]
                                have hb := (Below.refl wB5.heap.size wB5)
                                subst hw9
                                clear HX1 HX3
                                refine hK.out _ _ (Lib.hid (hHeld.out.trans (hb.mono hHeld.out.size))) (fun hHeld2 => ?_)
                                clear hK K hHeld
                                have hHeld := hHeld2
                                clear hHeld2
                                try simp only [Act.put, List.setIfInBounds_toArray, List.set_cons_zero, List.set_cons_succ]
                                refine Plan.of [25, 26, 27] ?_
                                iterate 3 (refine Plan.w (v := ?_) rfl hHeld (by rfl) ?_ ?_; rotate_left; (focus (intro w hSw; (try dsimp only at hSw); go_simp; try with_reducible rfl)); try simp only [Act.put, List.setIfInBounds_toArray, List.set_cons_zero, List.set_cons_succ])
                                refine Plan.fin ?_
                                refine wpAnyH_done (by kernel_rfl) ?_ _
                                have HBZ := Lib.hid (HB.out.trans (hHeld.out.mono HB.out.size))
                                clear hHeld
                                go_wp2
                                go_ret
                                exact ⟨rfl, HBZ.out⟩
              · go_simp
                have hb := (Below.refl _ _ : Below wA0.heap.size wA0 wA0).alloc (Nat.le_refl _) (.cells #[.string rn, .int .i64 rt, .int .i64 rc, .int .i64 ru, .string rd] 30)
                have HLIT := Lib.hid (show CellsAt (wA0.alloc (.cells #[.string rn, .int .i64 rt, .int .i64 rc, .int .i64 ru, .string rd] 30)) (some ⟨wA0.heap.size, 0, none⟩) (1 * 5) (encR ⟨⟨rn, rt, rc⟩, ru, rd⟩) from cells_lit wA0 #[.string rn, .int .i64 rt, .int .i64 rc, .int .i64 ru, .string rd] 30)
                obtain ⟨wA1, hw⟩ : ∃ x, wA0.alloc (.cells #[.string rn, .int .i64 rt, .int .i64 rc, .int .i64 ru, .string rd] 30) = x := ⟨_, rfl⟩
                obtain ⟨ge, hge⟩ : ∃ x, wA0.heap.size = x := ⟨_, rfl⟩
                rw [hw] at hb HLIT ⊢
                rw [hge] at HLIT ⊢
                clear hw hge
                refine hK.out _ _ (Lib.hid (hHeld.out.trans (hb.mono hHeld.out.size))) (fun hHeld2 => ?_)
                clear hK K hHeld
                have hHeld := hHeld2
                clear hHeld2
                try simp only [Act.put, List.setIfInBounds_toArray, List.set_cons_zero, List.set_cons_succ]
                refine wpAnyH_ready (rs := [2]) (by kernel_rfl) (by simp) ?_
                refine AllReadyH.cons (o := { dst := some 115, op := Go.Op.call { callee := Go.Callee.value (Go.Operand.func 13), args := #[Go.Operand.tmp 114], argTypes := #[22] }, type := 22, pos := "law.go:113", after := #[{ on := 1, ground := Go.Ground.data }], guard := none }) rfl (fun K hK => ?_) AllReadyH.nil
                go_simp
                refine (copyRRs_any _ ns _ SL _ ((rowR_own2M HSO.out).1.below hHeld.out) (rowR_own2M HSO.out).2 (by have := HNN.out; omega)).mono ?_; rintro e wA2 ⟨vcA, rfl, hown, hb⟩
                have HOA := Lib.hid (own_monoM (base' := w10.heap.size) hown hHeld.out.size)
                clear hown
                replace HLIT := Lib.hid (HLIT.out.below hb)
                refine hK.out _ _ (Lib.hid (hHeld.out.trans (hb.mono hHeld.out.size))) (fun hHeld2 => ?_)
                clear hK K hHeld
                have hHeld := hHeld2
                clear hHeld2
                try simp only [Act.put, List.setIfInBounds_toArray, List.set_cons_zero, List.set_cons_succ]
                refine wpAnyH_ready (rs := [5]) (by kernel_rfl) (by simp) ?_
                refine AllReadyH.cons (o := { dst := some 118, op := Go.Op.call { callee := Go.Callee.builtin Go.Builtin.append, args := #[Go.Operand.tmp 115, Go.Operand.tmp 117], argTypes := #[22, 22] }, type := 22, pos := "law.go:113", after := #[{ on := 2, ground := Go.Ground.data }, { on := 4, ground := Go.Ground.data }, { on := 2, ground := Go.Ground.chain }], guard := none }) rfl (fun K hK => ?_) AllReadyH.nil
                refine step_append_cellsG (by rfl) _ _ 22 30 (by rfl) i0 _ 5 56 Try.underlying22 HI.out HZ0.out HZ1.out HZ2.out rfl (by decide) w10.heap.size _ ns _ (by rfl) HOA.out (some ⟨ge, 0, none⟩) 1 1 (encR ⟨⟨rn, rt, rc⟩, ru, rd⟩) (by rfl) (fun h => by cases h) HLIT.out (fun u hu => flatR_oneM (l := [⟨⟨rn, rt, rc⟩, ru, rd⟩]) (by simpa [flatR] using hu)) (by have := HNN.out; omega) (by decide) (hHeld.out.size) ?_
                intro v5 wA3 hown hgrow
                have hbg := hHeld.out.grown hgrow hHeld.out.size (fun k hk => (HOA.out.lt k hk).1)
                have HOX := Lib.hid hown
                clear hown hgrow HLIT
                refine hK.out _ _ (Lib.hid hbg) (fun hHeld2 => ?_)
                clear hK K hHeld
                have hHeld := hHeld2
                clear hHeld2
                try simp only [Act.put, List.setIfInBounds_toArray, List.set_cons_zero, List.set_cons_succ]
                refine wpAnyH_ready (rs := [6]) (by kernel_rfl) (by simp) ?_
                refine AllReadyH.cons (o := { dst := some 119, op := Go.Op.call { callee := Go.Callee.value (Go.Operand.func 16), args := #[Go.Operand.tmp 113, Go.Operand.tmp 118], argTypes := #[9, 22] }, type := 41, pos := "law.go:113", after := #[{ on := 0, ground := Go.Ground.data }, { on := 5, ground := Go.Ground.data }, { on := 5, ground := Go.Ground.chain }], guard := none }) rfl (fun K hK => ?_) AllReadyH.nil
                obtain ⟨ta, tc, rfl, hrt, hnt⟩ := rowR_own (l := (SL ++ [⟨⟨rn, rt, rc⟩, ru, rd⟩])) (show wA3.ownsRow w10.heap.size 30 5 v5 (ns + 1) (flatR (SL ++ [⟨⟨rn, rt, rc⟩, ru, rd⟩])) by rw [flatR_append]; simpa [flatR] using HOX.out)
                clear HOX
                go_simp
                refine (digest_one apex _ _ _ (SL ++ [⟨⟨rn, rt, rc⟩, ru, rd⟩]) _ hrt (by have := HNN.out; omega) HSM.out HA.out).mono ?_; rintro e wA4 ⟨⟨v3, u3, rfl, ho⟩, hb⟩
                rw [HE2.out, HEL.out, HNE.out]
                rw [HEL.out, HNE.out] at ho
                have HD3 := Lib.hid ho
                clear ho hrt hnt
                refine hK.out _ _ (Lib.hid (hHeld.out.trans (hb.mono hHeld.out.size))) (fun hHeld2 => ?_)
                clear hK K hHeld
                have hHeld := hHeld2
                clear hHeld2
                try simp only [Act.put, List.setIfInBounds_toArray, List.set_cons_zero, List.set_cons_succ]
                refine Plan.of [7, 8, 9, 10, 11] ?_
                iterate 5 (refine Plan.w (v := ?_) rfl hHeld (by rfl) ?_ ?_; rotate_left; (focus (intro w hSw; (try dsimp only at hSw); go_simp; try with_reducible rfl)); try simp only [Act.put, List.setIfInBounds_toArray, List.set_cons_zero, List.set_cons_succ])
                refine Plan.fin ?_
                refine wpAnyH_done (by kernel_rfl) ?_ _
                have hb := hHeld.out
                replace HB := Lib.hid (HB.out.trans (hb.mono HB.out.size))
                replace HSO := Lib.hid (own_below' HSO.out hb)
                replace HC := Lib.hid (HC.out.below hb)
                replace HD1 := Lib.hid (own_below' HD1.out hb)
                clear hb hHeld HOA
                obtain ⟨x0, x1, x2, x3, x4, _⟩ := HC.out.u5
                by_cases hE2 : E2 = 0
                rotate_left
                · have e1 := nT hE2
                  clear hE2
                  go_wp2_with fail
                  refine (first9 _).mono ?_; rintro e w11 ⟨rfl, hb⟩
                  clear x0 x1 x2 x3 x4
                  replace HB := Lib.hid (HB.out.trans (hb.mono HB.out.size))
                  replace HSO := Lib.hid (own_below' HSO.out hb)
                  replace HC := Lib.hid (HC.out.below hb)
                  replace HD1 := Lib.hid (own_below' HD1.out hb)
                  replace HD3 := Lib.hid (own_below' HD3.out hb)
                  clear hb
                  go_wp2
                  go_ret
                  exact ⟨rfl, HB.out⟩
                · subst hE2
                  by_cases h6 : rt = 6
                  · have e2 := eT h6
                    clear h6
                    go_wp2_with fail
                    refine (first9 _).mono ?_; rintro e w11 ⟨rfl, hb⟩
                    clear x0 x1 x2 x3 x4
                    replace HB := Lib.hid (HB.out.trans (hb.mono HB.out.size))
                    replace HSO := Lib.hid (own_below' HSO.out hb)
                    replace HC := Lib.hid (HC.out.below hb)
                    replace HD1 := Lib.hid (own_below' HD1.out hb)
                    replace HD3 := Lib.hid (own_below' HD3.out hb)
                    clear hb
                    go_wp2
                    go_ret
                    exact ⟨rfl, HB.out⟩
                  · have e2 := eF h6
                    by_cases h63 : rt = 63
                    · have e3 := eT h63
                      clear h63 h6
                      go_wp2_with fail
                      refine (first9 _).mono ?_; rintro e w11 ⟨rfl, hb⟩
                      clear x0 x1 x2 x3 x4
                      replace HB := Lib.hid (HB.out.trans (hb.mono HB.out.size))
                      replace HSO := Lib.hid (own_below' HSO.out hb)
                      replace HC := Lib.hid (HC.out.below hb)
                      replace HD1 := Lib.hid (own_below' HD1.out hb)
                      replace HD3 := Lib.hid (own_below' HD3.out hb)
                      clear hb
                      go_wp2
                      go_ret
                      exact ⟨rfl, HB.out⟩
                    · have e3 := eF h63
                      have HMY := Lib.hid ((dgE_zero HE2.out).2 ⟨⟨rn, rt, rc⟩, ru, rd⟩ (List.mem_append.2 (Or.inr (List.mem_singleton.2 rfl))))
                      have HMO := Lib.hid (more2M HZN.out HRM.out.1 HRM.out.2.1 HRM.out.2.2 HMY.out h6 h63 (SL := SL) (by rw [HS2.out, HTT.out]) (show getN DT 0 4 = getN (soaT xd) 0 4 by rw [HMP.out.1, HI2.out]) (show DT.extract 6 DT.size = DG from HMP.out.2.2.2) HE2.out)
                      rw [HEL.out] at HMO
                      have HDE := Lib.hid (show DG = bs DL by rw [← HDG.out, ← HDL.out]; exact dgDM HZW.out.1.dg HZW.out.2)
                      clear h6 h63
                      go_wp2_with fail
                      refine (bytesM _ _ nd ne _ _ DL EL _ (RowB.of_own HD1.out).1 (RowB.of_own HD3.out).1 (RowB.of_own HD1.out).2 (RowB.of_own HD3.out).2).mono ?_; rintro e w11 ⟨rfl, rfl⟩
                      clear x0 x1 x2 x3 x4
                      clear e2 e3
                      obtain ⟨bb, hbb⟩ : ∃ x, (DL == EL) = x := ⟨_, rfl⟩
                      rw [hbb]
                      have HBB := Lib.hid hbb
                      cases bb
                      · have HNQ := Lib.hid (show DL ≠ EL from fun e => by rw [e] at hbb; simp at hbb)
                        clear hbb
                        have HCK := Lib.hid (show chkE apex (SL ++ [⟨⟨rn, rt, rc⟩, ru, rd⟩]) = 5 by rw [HMO.out.2.2, if_neg (fun e => HNQ.out (bs_inj (HDE.out.symm.trans e)))])
                        have HMR := Lib.hid (show (⟨⟨rn, rt, rc⟩, ru, rd⟩ : R5) ∉ SL ∧ undS rn apex = true from dg_more (dgE_zero HMO.out.1).1 (fun e => HNQ.out (by rw [← HDL.out, ← HEL.out, dgD, dgD, if_pos HMO.out.1, if_pos HE2.out, e])))
                        go_wp2_with fail
                        go_loopw [20, 19] (fun i v wr => ∃ (k : Nat) (fb : Bool), k ≤ ns ∧ i = .int .i64 k ∧ v = .bool fb ∧ Hid (fb = true ↔ (⟨⟨rn, rt, rc⟩, ru, rd⟩ : R5) ∈ SL.take k) ∧ Hid (Below wA4.heap.size wA4 wr)) (fun i _ _ => ns - (intOf i).toNat)
                        case atStart => exact ⟨0, false, Nat.zero_le _, rfl, rfl, Lib.hid (by simp), Lib.hid (Below.refl _ _)⟩
                        case round =>
                          obtain ⟨k, fb, hk, rfl, rfl, HFB, HW⟩ := hrel
                          by_cases hlt : k < ns
                          · obtain ⟨b1, of1, r, hbe, hbl, hr, x0, x1, x2, x3, x4⟩ := ((rowR_own2M HSO.out).1.below HW.out).at k hlt
                            injection hbe with hbe
                            injection hbe with hb1 hb2 _
                            subst hb1 hb2
                            obtain ⟨⟨yn, yt, yc⟩, yu, yd⟩ := r
                            replace x0 : wr.cell? ⟨b, of + k * 5, none⟩ = some (.string yn) := x0
                            replace x1 : wr.cell? ⟨b, of + k * 5 + 1, none⟩ = some (.int .i64 yt) := x1
                            replace x2 : wr.cell? ⟨b, of + k * 5 + 2, none⟩ = some (.int .i64 yc) := x2
                            replace x3 : wr.cell? ⟨b, of + k * 5 + 3, none⟩ = some (.int .i64 yu) := x3
                            replace x4 : wr.cell? ⟨b, of + k * 5 + 4, none⟩ = some (.string yd) := x4
                            obtain ⟨z0, z1, z2, z3, z4, _⟩ := (HC.out.below HW.out).u5
                            have HLT := Lib.hid hlt
                            have HNX := Lib.hid (show ∀ z, z ∈ SL.take (k + 1) ↔ z ∈ SL.take k ∨ z = ⟨⟨yn, yt, yc⟩, yu, yd⟩ from fun z => by rw [List.take_add_one, hr]; simp)
                            have hk61 : (k : Int) < 61 := by have := HNN.out; omega
                            have i1 : (0 : Int) ≤ (k : Int) := by omega
                            have i2x : (k : Int) < (ns : Int) := by omega
                            clear hr hbl
                            cases fb
                            · by_cases hs : (⟨⟨yn, yt, yc⟩, yu, yd⟩ : R5) = ⟨⟨rn, rt, rc⟩, ru, rd⟩
                              · have hke := fun W => rr_eqM yn yt yc yu yd rn rt rc ru rd true ((rr_same yn yt yc yu yd rn rt rc ru rd).2 hs) W
                                have HS9 := Lib.hid hs
                                clear hs
                                have HFB2 := Lib.hid (show  (⟨⟨rn, rt, rc⟩, ru, rd⟩ : R5) ∈ SL.take (k + 1) from (HNX.out _).2 (Or.inr HS9.out.symm))
                                clear HFB HNX
                                go_wp2_with fail
                                go_quiet (fail)
                                rename_i nq
                                have HBN := Lib.hid (below_drewN HW.out nq)
                                go_wp2
                                go_roundw
                                case rel => exact ⟨k + 1, true, by have := HLT.out; omega, by have := HLT.out; go_num, rfl, Lib.hid (⟨fun _ => HFB2.out, fun _ => rfl⟩), HBN⟩
                                case measure => have := HLT.out; simp [intOf]; omega
                              · have hke := fun W => rr_eqM yn yt yc yu yd rn rt rc ru rd false (Bool.eq_false_iff.2 (fun h => hs ((rr_same yn yt yc yu yd rn rt rc ru rd).1 h))) W
                                have HS9 := Lib.hid hs
                                clear hs
                                have HFB2 := Lib.hid (show ¬ (⟨⟨rn, rt, rc⟩, ru, rd⟩ : R5) ∈ SL.take (k + 1) from fun h => absurd (HFB.out.2 (((HNX.out _).1 h).resolve_right (fun e => HS9.out e.symm))) (by decide))
                                clear HFB HNX
                                go_wp2_with fail
                                go_quiet (fail)
                                rename_i nq
                                have HBN := Lib.hid (below_drewN HW.out nq)
                                go_wp2
                                go_roundw
                                case rel => exact ⟨k + 1, false, by have := HLT.out; omega, by have := HLT.out; go_num, rfl, Lib.hid (⟨(fun h => by cases h), (fun h => absurd h HFB2.out)⟩), HBN⟩
                                case measure => have := HLT.out; simp [intOf]; omega
                            · have HFB2 := Lib.hid (show  (⟨⟨rn, rt, rc⟩, ru, rd⟩ : R5) ∈ SL.take (k + 1) from (HNX.out _).2 (Or.inl (HFB.out.1 rfl)))
                              clear HFB HNX
                              go_wp2_with fail
                              go_quiet (fail)
                              rename_i nq
                              have HBN := Lib.hid (below_drewN HW.out nq)
                              go_wp2
                              go_roundw
                              case rel => exact ⟨k + 1, true, by have := HLT.out; omega, by have := HLT.out; go_num, rfl, Lib.hid (⟨fun _ => HFB2.out, fun _ => rfl⟩), HBN⟩
                              case measure => have := HLT.out; simp [intOf]; omega
                          · obtain rfl : k = ns := by omega
                            have HFF := Lib.hid (show fb = true ↔ (⟨⟨rn, rt, rc⟩, ru, rd⟩ : R5) ∈ SL by have h := HFB.out; rwa [List.take_of_length_le (by rw [HNS.out]; exact Nat.le_refl _)] at h)
                            clear hlt hk HFB
                            have hb := HW.out
                            replace HB := Lib.hid (HB.out.trans (hb.mono HB.out.size))
                            replace HSO := Lib.hid (own_below' HSO.out hb)
                            replace HC := Lib.hid (HC.out.below hb)
                            replace HD1 := Lib.hid (own_below' HD1.out hb)
                            replace HD3 := Lib.hid (own_below' HD3.out hb)
                            clear hb HW
                            obtain rfl : fb = false := by cases fb; rfl; exact absurd (HFF.out.1 rfl) HMR.out.1
                            have HU := Lib.hid HMR.out.2
                            obtain ⟨x0, x1, x2, x3, x4, _⟩ := HC.out.u5
                            go_upto_region 29 with (fail)
                            clear x0 x1 x2 x3 x4
                            refine wp_region_held_drew (S := (fun wx => Hid (Below wr.heap.size wr wx))) (by kernel_rfl) (Lib.hid (Below.refl _ _).drew) (fun hHeld => ?_)
                            obtain ⟨wB0, hwd⟩ : ∃ z, wr.drew = z := ⟨_, rfl⟩
                            rw [hwd] at hHeld ⊢
                            clear hwd
                            refine wpAnyH_ready (rs := [0]) (by kernel_rfl) (by simp) ?_
                            refine AllReadyH.cons (o := { dst := some 162, op := Go.Op.call { callee := Go.Callee.value (Go.Operand.func 8), args := #[], argTypes := #[] }, type := 4, pos := "law.go:125", after := #[], guard := none }) rfl (fun K hK => ?_) AllReadyH.nil
                            go_simp
                            refine (first9 _).mono ?_; rintro e wB1 ⟨rfl, hb⟩
                            refine hK.out _ _ (Lib.hid (hHeld.out.trans (hb.mono hHeld.out.size))) (fun hHeld2 => ?_)
                            clear hK K hHeld
                            have hHeld := hHeld2
                            clear hHeld2
                            try simp only [Act.put, List.setIfInBounds_toArray, List.set_cons_zero, List.set_cons_succ]
                            refine Plan.of [1, 2, 3, 5, 9] ?_
                            iterate 3 (refine Plan.w (v := ?_) rfl hHeld (by rfl) ?_ ?_; rotate_left; (focus (intro w hSw; (try dsimp only at hSw); go_simp; try with_reducible rfl)); try simp only [Act.put, List.setIfInBounds_toArray, List.set_cons_zero, List.set_cons_succ])
                            refine Plan.w (v := ?_) rfl hHeld (by rfl) ?_ ?_; rotate_left; (focus (intro w hSw; (try dsimp only at hSw); have hca := HC.out.below hSw.out; have s0 := (hca.2 0 _ rfl).1; have s1 := (hca.2 1 _ rfl).1; have s2 := (hca.2 2 _ rfl).1; have s3 := (hca.2 3 _ rfl).1; have s4 := (hca.2 4 _ rfl).1; go_simp; try with_reducible rfl)); try simp only [Act.put, List.setIfInBounds_toArray, List.set_cons_zero, List.set_cons_succ]
                            refine Plan.w (v := ?_) rfl hHeld (by rfl) ?_ ?_; rotate_left; (focus (intro w hSw; (try dsimp only at hSw); go_simp; try with_reducible rfl)); try simp only [Act.put, List.setIfInBounds_toArray, List.set_cons_zero, List.set_cons_succ]
                            refine Plan.fin ?_
                            refine wpAnyH_ready (rs := [4, 6]) (by kernel_rfl) (by simp) ?_
                            refine AllReadyH.cons (o := { dst := some 166, op := Go.Op.call { callee := Go.Callee.value (Go.Operand.func 13), args := #[Go.Operand.tmp 165], argTypes := #[22] }, type := 22, pos := "law.go:125", after := #[{ on := 3, ground := Go.Ground.data }, { on := 1, ground := Go.Ground.chain }, { on := 1, ground := Go.Ground.guard }], guard := some (1, true) }) rfl (fun K hK => ?_) (AllReadyH.cons (o := { dst := some 168, op := Go.Op.buildSlice 22 1 #[(0, Go.Operand.tmp 167)], type := 22, pos := "law.go:125", after := #[{ on := 5, ground := Go.Ground.data }, { on := 1, ground := Go.Ground.guard }], guard := some (1, true) }) rfl (fun K hK => ?_) AllReadyH.nil)
                            · go_simp
                              refine (copyRRs_any _ k _ SL _ ((rowR_own2M HSO.out).1.below hHeld.out) (rowR_own2M HSO.out).2 (by have := HNN.out; omega)).mono ?_; rintro e wB2 ⟨vcB, rfl, hown, hb⟩
                              have HOB := Lib.hid (own_monoM (base' := wr.heap.size) hown hHeld.out.size)
                              clear hown
                              refine hK.out _ _ (Lib.hid (hHeld.out.trans (hb.mono hHeld.out.size))) (fun hHeld2 => ?_)
                              clear hK K hHeld
                              have hHeld := hHeld2
                              clear hHeld2
                              try simp only [Act.put, List.setIfInBounds_toArray, List.set_cons_zero, List.set_cons_succ]
                              refine wpAnyH_ready (rs := [6]) (by kernel_rfl) (by simp) ?_
                              refine AllReadyH.cons (o := { dst := some 168, op := Go.Op.buildSlice 22 1 #[(0, Go.Operand.tmp 167)], type := 22, pos := "law.go:125", after := #[{ on := 5, ground := Go.Ground.data }, { on := 1, ground := Go.Ground.guard }], guard := some (1, true) }) rfl (fun K hK => ?_) AllReadyH.nil
                              go_simp
                              have hb := (Below.refl _ _ : Below wB2.heap.size wB2 wB2).alloc (Nat.le_refl _) (.cells #[.string rn, .int .i64 rt, .int .i64 rc, .int .i64 ru, .string rd] 30)
                              have HLIT := Lib.hid (show CellsAt (wB2.alloc (.cells #[.string rn, .int .i64 rt, .int .i64 rc, .int .i64 ru, .string rd] 30)) (some ⟨wB2.heap.size, 0, none⟩) (1 * 5) (encR ⟨⟨rn, rt, rc⟩, ru, rd⟩) from cells_lit wB2 #[.string rn, .int .i64 rt, .int .i64 rc, .int .i64 ru, .string rd] 30)
                              obtain ⟨wB3, hw⟩ : ∃ x, wB2.alloc (.cells #[.string rn, .int .i64 rt, .int .i64 rc, .int .i64 ru, .string rd] 30) = x := ⟨_, rfl⟩
                              obtain ⟨ge, hge⟩ : ∃ x, wB2.heap.size = x := ⟨_, rfl⟩
                              rw [hw] at hb HLIT ⊢
                              rw [hge] at HLIT ⊢
                              replace HOB := Lib.hid (own_below' HOB.out hb)
                              clear hw hge
                              refine hK.out _ _ (Lib.hid (hHeld.out.trans (hb.mono hHeld.out.size))) (fun hHeld2 => ?_)
                              clear hK K hHeld
                              have hHeld := hHeld2
                              clear hHeld2
                              try simp only [Act.put, List.setIfInBounds_toArray, List.set_cons_zero, List.set_cons_succ]
                              refine wpAnyH_ready (rs := [7]) (by kernel_rfl) (by simp) ?_
                              refine AllReadyH.cons (o := { dst := some 169, op := Go.Op.call { callee := Go.Callee.builtin Go.Builtin.append, args := #[Go.Operand.tmp 166, Go.Operand.tmp 168], argTypes := #[22, 22] }, type := 22, pos := "law.go:125", after := #[{ on := 4, ground := Go.Ground.data }, { on := 6, ground := Go.Ground.data }, { on := 4, ground := Go.Ground.chain }, { on := 1, ground := Go.Ground.guard }], guard := some (1, true) }) rfl (fun K hK => ?_) AllReadyH.nil
                              refine step_append_cellsG (by rfl) _ _ 22 30 (by rfl) i0 _ 5 56 Try.underlying22 HI.out HZ0.out HZ1.out HZ2.out rfl (by decide) wr.heap.size _ k _ (by rfl) HOB.out (some ⟨ge, 0, none⟩) 1 1 (encR ⟨⟨rn, rt, rc⟩, ru, rd⟩) (by rfl) (fun h => by cases h) HLIT.out (fun u hu => flatR_oneM (l := [⟨⟨rn, rt, rc⟩, ru, rd⟩]) (by simpa [flatR] using hu)) (by have := HNN.out; omega) (by decide) (hHeld.out.size) ?_
                              intro v5 wB4 hown hgrow
                              have hbg := hHeld.out.grown hgrow hHeld.out.size (fun k hk => (HOB.out.lt k hk).1)
                              have HOX := Lib.hid hown
                              clear hown hgrow HLIT
                              refine hK.out _ _ (Lib.hid hbg) (fun hHeld2 => ?_)
                              clear hK K hHeld
                              have hHeld := hHeld2
                              clear hHeld2
                              try simp only [Act.put, List.setIfInBounds_toArray, List.set_cons_zero, List.set_cons_succ]
                              refine wpAnyH_ready (rs := [8]) (by kernel_rfl) (by simp) ?_
                              refine AllReadyH.cons (o := { dst := some 170, op := Go.Op.call { callee := Go.Callee.value (Go.Operand.func 11), args := #[Go.Operand.tmp 164, Go.Operand.tmp 169], argTypes := #[9, 22] }, type := 25, pos := "law.go:125", after := #[{ on := 2, ground := Go.Ground.data }, { on := 7, ground := Go.Ground.data }, { on := 7, ground := Go.Ground.chain }, { on := 1, ground := Go.Ground.guard }], guard := some (1, true) }) rfl (fun K hK => ?_) AllReadyH.nil
                              obtain ⟨ta, tc, rfl, hrt, hnt⟩ := rowR_own (l := (SL ++ [⟨⟨rn, rt, rc⟩, ru, rd⟩])) (show wB4.ownsRow wr.heap.size 30 5 v5 (k + 1) (flatR (SL ++ [⟨⟨rn, rt, rc⟩, ru, rd⟩])) by rw [flatR_append]; simpa [flatR] using HOX.out)
                              clear HOX
                              go_simp
                              refine (check_any apex _ _ _ (SL ++ [⟨⟨rn, rt, rc⟩, ru, rd⟩]) _ hrt (by have := HNN.out; omega) HSM.out HA.out).mono ?_; rintro e wB5 ⟨rfl, hb⟩
                              rw [HCK.out]
                              clear hrt hnt
                              refine hK.out _ _ (Lib.hid (hHeld.out.trans (hb.mono hHeld.out.size))) (fun hHeld2 => ?_)
                              clear hK K hHeld
                              have hHeld := hHeld2
                              clear hHeld2
                              try simp only [Act.put, List.setIfInBounds_toArray, List.set_cons_zero, List.set_cons_succ]
                              refine Plan.of [10, 11, 12, 13, 14, 15, 16, 17, 18] ?_
                              iterate 7 (refine Plan.w (v := ?_) rfl hHeld (by rfl) ?_ ?_; rotate_left; (focus (intro w hSw; (try dsimp only at hSw); go_simp; try with_reducible rfl)); try simp only [Act.put, List.setIfInBounds_toArray, List.set_cons_zero, List.set_cons_succ])
                              refine Plan.w (v := ?_) rfl hHeld (by rfl) ?_ ?_; rotate_left; (focus (intro w hSw; (try dsimp only at hSw); have hca := HC.out.below hSw.out; have s0 := (hca.2 0 _ rfl).1; have s1 := (hca.2 1 _ rfl).1; have s2 := (hca.2 2 _ rfl).1; have s3 := (hca.2 3 _ rfl).1; have s4 := (hca.2 4 _ rfl).1; go_simp; try with_reducible rfl)); try simp only [Act.put, List.setIfInBounds_toArray, List.set_cons_zero, List.set_cons_succ]
                              refine Plan.w (v := ?_) rfl hHeld (by rfl) ?_ ?_; rotate_left; (focus (intro w hSw; (try dsimp only at hSw); go_simp; try with_reducible rfl)); try simp only [Act.put, List.setIfInBounds_toArray, List.set_cons_zero, List.set_cons_succ]
                              refine Plan.fin ?_
                              refine wpAnyH_ready (rs := [19]) (by kernel_rfl) (by simp) ?_
                              refine AllReadyH.cons (o := { dst := some 181, op := Go.Op.call { callee := Go.Callee.value (Go.Operand.func 18), args := #[Go.Operand.tmp 179, Go.Operand.tmp 180], argTypes := #[9, 9] }, type := 4, pos := "law.go:125", after := #[{ on := 17, ground := Go.Ground.data }, { on := 18, ground := Go.Ground.data }, { on := 15, ground := Go.Ground.chain }, { on := 15, ground := Go.Ground.guard }], guard := some (15, true) }) rfl (fun K hK => ?_) AllReadyH.nil
                              go_simp
                              refine (runder_any rn apex _ HSR.out.1 HA.out).mono ?_; rintro e wB6 ⟨rfl, hb⟩
                              rw [HU.out]
                              refine hK.out _ _ (Lib.hid (hHeld.out.trans (hb.mono hHeld.out.size))) (fun hHeld2 => ?_)
                              clear hK K hHeld
                              have hHeld := hHeld2
                              clear hHeld2
                              try simp only [Act.put, List.setIfInBounds_toArray, List.set_cons_zero, List.set_cons_succ]
                              refine Plan.of [20, 21, 22, 23, 24, 25, 26, 27] ?_
                              iterate 2 (refine Plan.w (v := ?_) rfl hHeld (by rfl) ?_ ?_; rotate_left; (focus (intro w hSw; (try dsimp only at hSw); go_simp; try with_reducible rfl)); try simp only [Act.put, List.setIfInBounds_toArray, List.set_cons_zero, List.set_cons_succ])
                              iterate 3 (refine Plan.n rfl hHeld (by rfl) ?_; try simp only [Act.put, List.setIfInBounds_toArray, List.set_cons_zero, List.set_cons_succ])
                              iterate 3 (refine Plan.w (v := ?_) rfl hHeld (by rfl) ?_ ?_; rotate_left; (focus (intro w hSw; (try dsimp only at hSw); go_simp; try with_reducible rfl)); try simp only [Act.put, List.setIfInBounds_toArray, List.set_cons_zero, List.set_cons_succ])
                              refine Plan.fin ?_
                              refine wpAnyH_done (by kernel_rfl) ?_ _
                              have HBZ := Lib.hid (HB.out.trans (hHeld.out.mono HB.out.size))
                              clear hHeld
                              go_wp2
                              go_ret
                              exact ⟨rfl, HBZ.out⟩
                            · go_simp
                              have hb := (Below.refl _ _ : Below wB1.heap.size wB1 wB1).alloc (Nat.le_refl _) (.cells #[.string rn, .int .i64 rt, .int .i64 rc, .int .i64 ru, .string rd] 30)
                              have HLIT := Lib.hid (show CellsAt (wB1.alloc (.cells #[.string rn, .int .i64 rt, .int .i64 rc, .int .i64 ru, .string rd] 30)) (some ⟨wB1.heap.size, 0, none⟩) (1 * 5) (encR ⟨⟨rn, rt, rc⟩, ru, rd⟩) from cells_lit wB1 #[.string rn, .int .i64 rt, .int .i64 rc, .int .i64 ru, .string rd] 30)
                              obtain ⟨wB2, hw⟩ : ∃ x, wB1.alloc (.cells #[.string rn, .int .i64 rt, .int .i64 rc, .int .i64 ru, .string rd] 30) = x := ⟨_, rfl⟩
                              obtain ⟨ge, hge⟩ : ∃ x, wB1.heap.size = x := ⟨_, rfl⟩
                              rw [hw] at hb HLIT ⊢
                              rw [hge] at HLIT ⊢
                              clear hw hge
                              refine hK.out _ _ (Lib.hid (hHeld.out.trans (hb.mono hHeld.out.size))) (fun hHeld2 => ?_)
                              clear hK K hHeld
                              have hHeld := hHeld2
                              clear hHeld2
                              try simp only [Act.put, List.setIfInBounds_toArray, List.set_cons_zero, List.set_cons_succ]
                              refine wpAnyH_ready (rs := [4]) (by kernel_rfl) (by simp) ?_
                              refine AllReadyH.cons (o := { dst := some 166, op := Go.Op.call { callee := Go.Callee.value (Go.Operand.func 13), args := #[Go.Operand.tmp 165], argTypes := #[22] }, type := 22, pos := "law.go:125", after := #[{ on := 3, ground := Go.Ground.data }, { on := 1, ground := Go.Ground.chain }, { on := 1, ground := Go.Ground.guard }], guard := some (1, true) }) rfl (fun K hK => ?_) AllReadyH.nil
                              go_simp
                              refine (copyRRs_any _ k _ SL _ ((rowR_own2M HSO.out).1.below hHeld.out) (rowR_own2M HSO.out).2 (by have := HNN.out; omega)).mono ?_; rintro e wB3 ⟨vcB, rfl, hown, hb⟩
                              have HOB := Lib.hid (own_monoM (base' := wr.heap.size) hown hHeld.out.size)
                              clear hown
                              replace HLIT := Lib.hid (HLIT.out.below hb)
                              refine hK.out _ _ (Lib.hid (hHeld.out.trans (hb.mono hHeld.out.size))) (fun hHeld2 => ?_)
                              clear hK K hHeld
                              have hHeld := hHeld2
                              clear hHeld2
                              try simp only [Act.put, List.setIfInBounds_toArray, List.set_cons_zero, List.set_cons_succ]
                              refine wpAnyH_ready (rs := [7]) (by kernel_rfl) (by simp) ?_
                              refine AllReadyH.cons (o := { dst := some 169, op := Go.Op.call { callee := Go.Callee.builtin Go.Builtin.append, args := #[Go.Operand.tmp 166, Go.Operand.tmp 168], argTypes := #[22, 22] }, type := 22, pos := "law.go:125", after := #[{ on := 4, ground := Go.Ground.data }, { on := 6, ground := Go.Ground.data }, { on := 4, ground := Go.Ground.chain }, { on := 1, ground := Go.Ground.guard }], guard := some (1, true) }) rfl (fun K hK => ?_) AllReadyH.nil
                              refine step_append_cellsG (by rfl) _ _ 22 30 (by rfl) i0 _ 5 56 Try.underlying22 HI.out HZ0.out HZ1.out HZ2.out rfl (by decide) wr.heap.size _ k _ (by rfl) HOB.out (some ⟨ge, 0, none⟩) 1 1 (encR ⟨⟨rn, rt, rc⟩, ru, rd⟩) (by rfl) (fun h => by cases h) HLIT.out (fun u hu => flatR_oneM (l := [⟨⟨rn, rt, rc⟩, ru, rd⟩]) (by simpa [flatR] using hu)) (by have := HNN.out; omega) (by decide) (hHeld.out.size) ?_
                              intro v5 wB4 hown hgrow
                              have hbg := hHeld.out.grown hgrow hHeld.out.size (fun k hk => (HOB.out.lt k hk).1)
                              have HOX := Lib.hid hown
                              clear hown hgrow HLIT
                              refine hK.out _ _ (Lib.hid hbg) (fun hHeld2 => ?_)
                              clear hK K hHeld
                              have hHeld := hHeld2
                              clear hHeld2
                              try simp only [Act.put, List.setIfInBounds_toArray, List.set_cons_zero, List.set_cons_succ]
                              refine wpAnyH_ready (rs := [8]) (by kernel_rfl) (by simp) ?_
                              refine AllReadyH.cons (o := { dst := some 170, op := Go.Op.call { callee := Go.Callee.value (Go.Operand.func 11), args := #[Go.Operand.tmp 164, Go.Operand.tmp 169], argTypes := #[9, 22] }, type := 25, pos := "law.go:125", after := #[{ on := 2, ground := Go.Ground.data }, { on := 7, ground := Go.Ground.data }, { on := 7, ground := Go.Ground.chain }, { on := 1, ground := Go.Ground.guard }], guard := some (1, true) }) rfl (fun K hK => ?_) AllReadyH.nil
                              obtain ⟨ta, tc, rfl, hrt, hnt⟩ := rowR_own (l := (SL ++ [⟨⟨rn, rt, rc⟩, ru, rd⟩])) (show wB4.ownsRow wr.heap.size 30 5 v5 (k + 1) (flatR (SL ++ [⟨⟨rn, rt, rc⟩, ru, rd⟩])) by rw [flatR_append]; simpa [flatR] using HOX.out)
                              clear HOX
                              go_simp
                              refine (check_any apex _ _ _ (SL ++ [⟨⟨rn, rt, rc⟩, ru, rd⟩]) _ hrt (by have := HNN.out; omega) HSM.out HA.out).mono ?_; rintro e wB5 ⟨rfl, hb⟩
                              rw [HCK.out]
                              clear hrt hnt
                              refine hK.out _ _ (Lib.hid (hHeld.out.trans (hb.mono hHeld.out.size))) (fun hHeld2 => ?_)
                              clear hK K hHeld
                              have hHeld := hHeld2
                              clear hHeld2
                              try simp only [Act.put, List.setIfInBounds_toArray, List.set_cons_zero, List.set_cons_succ]
                              refine Plan.of [10, 11, 12, 13, 14, 15, 16, 17, 18] ?_
                              iterate 7 (refine Plan.w (v := ?_) rfl hHeld (by rfl) ?_ ?_; rotate_left; (focus (intro w hSw; (try dsimp only at hSw); go_simp; try with_reducible rfl)); try simp only [Act.put, List.setIfInBounds_toArray, List.set_cons_zero, List.set_cons_succ])
                              refine Plan.w (v := ?_) rfl hHeld (by rfl) ?_ ?_; rotate_left; (focus (intro w hSw; (try dsimp only at hSw); have hca := HC.out.below hSw.out; have s0 := (hca.2 0 _ rfl).1; have s1 := (hca.2 1 _ rfl).1; have s2 := (hca.2 2 _ rfl).1; have s3 := (hca.2 3 _ rfl).1; have s4 := (hca.2 4 _ rfl).1; go_simp; try with_reducible rfl)); try simp only [Act.put, List.setIfInBounds_toArray, List.set_cons_zero, List.set_cons_succ]
                              refine Plan.w (v := ?_) rfl hHeld (by rfl) ?_ ?_; rotate_left; (focus (intro w hSw; (try dsimp only at hSw); go_simp; try with_reducible rfl)); try simp only [Act.put, List.setIfInBounds_toArray, List.set_cons_zero, List.set_cons_succ]
                              refine Plan.fin ?_
                              refine wpAnyH_ready (rs := [19]) (by kernel_rfl) (by simp) ?_
                              refine AllReadyH.cons (o := { dst := some 181, op := Go.Op.call { callee := Go.Callee.value (Go.Operand.func 18), args := #[Go.Operand.tmp 179, Go.Operand.tmp 180], argTypes := #[9, 9] }, type := 4, pos := "law.go:125", after := #[{ on := 17, ground := Go.Ground.data }, { on := 18, ground := Go.Ground.data }, { on := 15, ground := Go.Ground.chain }, { on := 15, ground := Go.Ground.guard }], guard := some (15, true) }) rfl (fun K hK => ?_) AllReadyH.nil
                              go_simp
                              refine (runder_any rn apex _ HSR.out.1 HA.out).mono ?_; rintro e wB6 ⟨rfl, hb⟩
                              rw [HU.out]
                              refine hK.out _ _ (Lib.hid (hHeld.out.trans (hb.mono hHeld.out.size))) (fun hHeld2 => ?_)
                              clear hK K hHeld
                              have hHeld := hHeld2
                              clear hHeld2
                              try simp only [Act.put, List.setIfInBounds_toArray, List.set_cons_zero, List.set_cons_succ]
                              refine Plan.of [20, 21, 22, 23, 24, 25, 26, 27] ?_
                              iterate 2 (refine Plan.w (v := ?_) rfl hHeld (by rfl) ?_ ?_; rotate_left; (focus (intro w hSw; (try dsimp only at hSw); go_simp; try with_reducible rfl)); try simp only [Act.put, List.setIfInBounds_toArray, List.set_cons_zero, List.set_cons_succ])
                              iterate 3 (refine Plan.n rfl hHeld (by rfl) ?_; try simp only [Act.put, List.setIfInBounds_toArray, List.set_cons_zero, List.set_cons_succ])
                              iterate 3 (refine Plan.w (v := ?_) rfl hHeld (by rfl) ?_ ?_; rotate_left; (focus (intro w hSw; (try dsimp only at hSw); go_simp; try with_reducible rfl)); try simp only [Act.put, List.setIfInBounds_toArray, List.set_cons_zero, List.set_cons_succ])
                              refine Plan.fin ?_
                              refine wpAnyH_done (by kernel_rfl) ?_ _
                              have HBZ := Lib.hid (HB.out.trans (hHeld.out.mono HB.out.size))
                              clear hHeld
                              go_wp2
                              go_ret
                              exact ⟨rfl, HBZ.out⟩
                      · have HCK := Lib.hid (show chkE apex (SL ++ [⟨⟨rn, rt, rc⟩, ru, rd⟩]) = 0 by rw [HMO.out.2.2, if_pos (HDE.out.trans (by rw [show DL = EL by simpa using hbb]))])
                        clear hbb
                        go_wp2_with fail
                        go_loopw [20, 19] (fun i v wr => ∃ (k : Nat) (fb : Bool), k ≤ ns ∧ i = .int .i64 k ∧ v = .bool fb ∧ Hid (fb = true ↔ (⟨⟨rn, rt, rc⟩, ru, rd⟩ : R5) ∈ SL.take k) ∧ Hid (Below wA4.heap.size wA4 wr)) (fun i _ _ => ns - (intOf i).toNat)
                        case atStart => exact ⟨0, false, Nat.zero_le _, rfl, rfl, Lib.hid (by simp), Lib.hid (Below.refl _ _)⟩
                        case round =>
                          obtain ⟨k, fb, hk, rfl, rfl, HFB, HW⟩ := hrel
                          by_cases hlt : k < ns
                          · obtain ⟨b1, of1, r, hbe, hbl, hr, x0, x1, x2, x3, x4⟩ := ((rowR_own2M HSO.out).1.below HW.out).at k hlt
                            injection hbe with hbe
                            injection hbe with hb1 hb2 _
                            subst hb1 hb2
                            obtain ⟨⟨yn, yt, yc⟩, yu, yd⟩ := r
                            replace x0 : wr.cell? ⟨b, of + k * 5, none⟩ = some (.string yn) := x0
                            replace x1 : wr.cell? ⟨b, of + k * 5 + 1, none⟩ = some (.int .i64 yt) := x1
                            replace x2 : wr.cell? ⟨b, of + k * 5 + 2, none⟩ = some (.int .i64 yc) := x2
                            replace x3 : wr.cell? ⟨b, of + k * 5 + 3, none⟩ = some (.int .i64 yu) := x3
                            replace x4 : wr.cell? ⟨b, of + k * 5 + 4, none⟩ = some (.string yd) := x4
                            obtain ⟨z0, z1, z2, z3, z4, _⟩ := (HC.out.below HW.out).u5
                            have HLT := Lib.hid hlt
                            have HNX := Lib.hid (show ∀ z, z ∈ SL.take (k + 1) ↔ z ∈ SL.take k ∨ z = ⟨⟨yn, yt, yc⟩, yu, yd⟩ from fun z => by rw [List.take_add_one, hr]; simp)
                            have hk61 : (k : Int) < 61 := by have := HNN.out; omega
                            have i1 : (0 : Int) ≤ (k : Int) := by omega
                            have i2x : (k : Int) < (ns : Int) := by omega
                            clear hr hbl
                            cases fb
                            · by_cases hs : (⟨⟨yn, yt, yc⟩, yu, yd⟩ : R5) = ⟨⟨rn, rt, rc⟩, ru, rd⟩
                              · have hke := fun W => rr_eqM yn yt yc yu yd rn rt rc ru rd true ((rr_same yn yt yc yu yd rn rt rc ru rd).2 hs) W
                                have HS9 := Lib.hid hs
                                clear hs
                                have HFB2 := Lib.hid (show  (⟨⟨rn, rt, rc⟩, ru, rd⟩ : R5) ∈ SL.take (k + 1) from (HNX.out _).2 (Or.inr HS9.out.symm))
                                clear HFB HNX
                                go_wp2_with fail
                                go_quiet (fail)
                                rename_i nq
                                have HBN := Lib.hid (below_drewN HW.out nq)
                                go_wp2
                                go_roundw
                                case rel => exact ⟨k + 1, true, by have := HLT.out; omega, by have := HLT.out; go_num, rfl, Lib.hid (⟨fun _ => HFB2.out, fun _ => rfl⟩), HBN⟩
                                case measure => have := HLT.out; simp [intOf]; omega
                              · have hke := fun W => rr_eqM yn yt yc yu yd rn rt rc ru rd false (Bool.eq_false_iff.2 (fun h => hs ((rr_same yn yt yc yu yd rn rt rc ru rd).1 h))) W
                                have HS9 := Lib.hid hs
                                clear hs
                                have HFB2 := Lib.hid (show ¬ (⟨⟨rn, rt, rc⟩, ru, rd⟩ : R5) ∈ SL.take (k + 1) from fun h => absurd (HFB.out.2 (((HNX.out _).1 h).resolve_right (fun e => HS9.out e.symm))) (by decide))
                                clear HFB HNX
                                go_wp2_with fail
                                go_quiet (fail)
                                rename_i nq
                                have HBN := Lib.hid (below_drewN HW.out nq)
                                go_wp2
                                go_roundw
                                case rel => exact ⟨k + 1, false, by have := HLT.out; omega, by have := HLT.out; go_num, rfl, Lib.hid (⟨(fun h => by cases h), (fun h => absurd h HFB2.out)⟩), HBN⟩
                                case measure => have := HLT.out; simp [intOf]; omega
                            · have HFB2 := Lib.hid (show  (⟨⟨rn, rt, rc⟩, ru, rd⟩ : R5) ∈ SL.take (k + 1) from (HNX.out _).2 (Or.inl (HFB.out.1 rfl)))
                              clear HFB HNX
                              go_wp2_with fail
                              go_quiet (fail)
                              rename_i nq
                              have HBN := Lib.hid (below_drewN HW.out nq)
                              go_wp2
                              go_roundw
                              case rel => exact ⟨k + 1, true, by have := HLT.out; omega, by have := HLT.out; go_num, rfl, Lib.hid (⟨fun _ => HFB2.out, fun _ => rfl⟩), HBN⟩
                              case measure => have := HLT.out; simp [intOf]; omega
                          · obtain rfl : k = ns := by omega
                            have HFF := Lib.hid (show fb = true ↔ (⟨⟨rn, rt, rc⟩, ru, rd⟩ : R5) ∈ SL by have h := HFB.out; rwa [List.take_of_length_le (by rw [HNS.out]; exact Nat.le_refl _)] at h)
                            clear hlt hk HFB
                            have hb := HW.out
                            replace HB := Lib.hid (HB.out.trans (hb.mono HB.out.size))
                            replace HSO := Lib.hid (own_below' HSO.out hb)
                            replace HC := Lib.hid (HC.out.below hb)
                            replace HD1 := Lib.hid (own_below' HD1.out hb)
                            replace HD3 := Lib.hid (own_below' HD3.out hb)
                            clear hb HW
                            cases fb
                            · obtain ⟨ub, hub⟩ : ∃ x, undS rn apex = x := ⟨_, rfl⟩
                              have HU := Lib.hid hub
                              clear hub
                              cases ub
                              · obtain ⟨x0, x1, x2, x3, x4, _⟩ := HC.out.u5
                                go_upto_region 29 with (fail)
                                clear x0 x1 x2 x3 x4
                                refine wp_region_held_drew (S := (fun wx => Hid (Below wr.heap.size wr wx))) (by kernel_rfl) (Lib.hid (Below.refl _ _).drew) (fun hHeld => ?_)
                                obtain ⟨wB0, hwd⟩ : ∃ z, wr.drew = z := ⟨_, rfl⟩
                                rw [hwd] at hHeld ⊢
                                clear hwd
                                refine wpAnyH_ready (rs := [0]) (by kernel_rfl) (by simp) ?_
                                refine AllReadyH.cons (o := { dst := some 162, op := Go.Op.call { callee := Go.Callee.value (Go.Operand.func 8), args := #[], argTypes := #[] }, type := 4, pos := "law.go:125", after := #[], guard := none }) rfl (fun K hK => ?_) AllReadyH.nil
                                go_simp
                                refine (first9 _).mono ?_; rintro e wB1 ⟨rfl, hb⟩
                                refine hK.out _ _ (Lib.hid (hHeld.out.trans (hb.mono hHeld.out.size))) (fun hHeld2 => ?_)
                                clear hK K hHeld
                                have hHeld := hHeld2
                                clear hHeld2
                                try simp only [Act.put, List.setIfInBounds_toArray, List.set_cons_zero, List.set_cons_succ]
                                refine Plan.of [1, 2, 3, 5, 9] ?_
                                iterate 3 (refine Plan.w (v := ?_) rfl hHeld (by rfl) ?_ ?_; rotate_left; (focus (intro w hSw; (try dsimp only at hSw); go_simp; try with_reducible rfl)); try simp only [Act.put, List.setIfInBounds_toArray, List.set_cons_zero, List.set_cons_succ])
                                refine Plan.w (v := ?_) rfl hHeld (by rfl) ?_ ?_; rotate_left; (focus (intro w hSw; (try dsimp only at hSw); have hca := HC.out.below hSw.out; have s0 := (hca.2 0 _ rfl).1; have s1 := (hca.2 1 _ rfl).1; have s2 := (hca.2 2 _ rfl).1; have s3 := (hca.2 3 _ rfl).1; have s4 := (hca.2 4 _ rfl).1; go_simp; try with_reducible rfl)); try simp only [Act.put, List.setIfInBounds_toArray, List.set_cons_zero, List.set_cons_succ]
                                refine Plan.w (v := ?_) rfl hHeld (by rfl) ?_ ?_; rotate_left; (focus (intro w hSw; (try dsimp only at hSw); go_simp; try with_reducible rfl)); try simp only [Act.put, List.setIfInBounds_toArray, List.set_cons_zero, List.set_cons_succ]
                                refine Plan.fin ?_
                                refine wpAnyH_ready (rs := [4, 6]) (by kernel_rfl) (by simp) ?_
                                refine AllReadyH.cons (o := { dst := some 166, op := Go.Op.call { callee := Go.Callee.value (Go.Operand.func 13), args := #[Go.Operand.tmp 165], argTypes := #[22] }, type := 22, pos := "law.go:125", after := #[{ on := 3, ground := Go.Ground.data }, { on := 1, ground := Go.Ground.chain }, { on := 1, ground := Go.Ground.guard }], guard := some (1, true) }) rfl (fun K hK => ?_) (AllReadyH.cons (o := { dst := some 168, op := Go.Op.buildSlice 22 1 #[(0, Go.Operand.tmp 167)], type := 22, pos := "law.go:125", after := #[{ on := 5, ground := Go.Ground.data }, { on := 1, ground := Go.Ground.guard }], guard := some (1, true) }) rfl (fun K hK => ?_) AllReadyH.nil)
                                · go_simp
                                  refine (copyRRs_any _ k _ SL _ ((rowR_own2M HSO.out).1.below hHeld.out) (rowR_own2M HSO.out).2 (by have := HNN.out; omega)).mono ?_; rintro e wB2 ⟨vcB, rfl, hown, hb⟩
                                  have HOB := Lib.hid (own_monoM (base' := wr.heap.size) hown hHeld.out.size)
                                  clear hown
                                  refine hK.out _ _ (Lib.hid (hHeld.out.trans (hb.mono hHeld.out.size))) (fun hHeld2 => ?_)
                                  clear hK K hHeld
                                  have hHeld := hHeld2
                                  clear hHeld2
                                  try simp only [Act.put, List.setIfInBounds_toArray, List.set_cons_zero, List.set_cons_succ]
                                  refine wpAnyH_ready (rs := [6]) (by kernel_rfl) (by simp) ?_
                                  refine AllReadyH.cons (o := { dst := some 168, op := Go.Op.buildSlice 22 1 #[(0, Go.Operand.tmp 167)], type := 22, pos := "law.go:125", after := #[{ on := 5, ground := Go.Ground.data }, { on := 1, ground := Go.Ground.guard }], guard := some (1, true) }) rfl (fun K hK => ?_) AllReadyH.nil
                                  go_simp
                                  have hb := (Below.refl _ _ : Below wB2.heap.size wB2 wB2).alloc (Nat.le_refl _) (.cells #[.string rn, .int .i64 rt, .int .i64 rc, .int .i64 ru, .string rd] 30)
                                  have HLIT := Lib.hid (show CellsAt (wB2.alloc (.cells #[.string rn, .int .i64 rt, .int .i64 rc, .int .i64 ru, .string rd] 30)) (some ⟨wB2.heap.size, 0, none⟩) (1 * 5) (encR ⟨⟨rn, rt, rc⟩, ru, rd⟩) from cells_lit wB2 #[.string rn, .int .i64 rt, .int .i64 rc, .int .i64 ru, .string rd] 30)
                                  obtain ⟨wB3, hw⟩ : ∃ x, wB2.alloc (.cells #[.string rn, .int .i64 rt, .int .i64 rc, .int .i64 ru, .string rd] 30) = x := ⟨_, rfl⟩
                                  obtain ⟨ge, hge⟩ : ∃ x, wB2.heap.size = x := ⟨_, rfl⟩
                                  rw [hw] at hb HLIT ⊢
                                  rw [hge] at HLIT ⊢
                                  replace HOB := Lib.hid (own_below' HOB.out hb)
                                  clear hw hge
                                  refine hK.out _ _ (Lib.hid (hHeld.out.trans (hb.mono hHeld.out.size))) (fun hHeld2 => ?_)
                                  clear hK K hHeld
                                  have hHeld := hHeld2
                                  clear hHeld2
                                  try simp only [Act.put, List.setIfInBounds_toArray, List.set_cons_zero, List.set_cons_succ]
                                  refine wpAnyH_ready (rs := [7]) (by kernel_rfl) (by simp) ?_
                                  refine AllReadyH.cons (o := { dst := some 169, op := Go.Op.call { callee := Go.Callee.builtin Go.Builtin.append, args := #[Go.Operand.tmp 166, Go.Operand.tmp 168], argTypes := #[22, 22] }, type := 22, pos := "law.go:125", after := #[{ on := 4, ground := Go.Ground.data }, { on := 6, ground := Go.Ground.data }, { on := 4, ground := Go.Ground.chain }, { on := 1, ground := Go.Ground.guard }], guard := some (1, true) }) rfl (fun K hK => ?_) AllReadyH.nil
                                  refine step_append_cellsG (by rfl) _ _ 22 30 (by rfl) i0 _ 5 56 Try.underlying22 HI.out HZ0.out HZ1.out HZ2.out rfl (by decide) wr.heap.size _ k _ (by rfl) HOB.out (some ⟨ge, 0, none⟩) 1 1 (encR ⟨⟨rn, rt, rc⟩, ru, rd⟩) (by rfl) (fun h => by cases h) HLIT.out (fun u hu => flatR_oneM (l := [⟨⟨rn, rt, rc⟩, ru, rd⟩]) (by simpa [flatR] using hu)) (by have := HNN.out; omega) (by decide) (hHeld.out.size) ?_
                                  intro v5 wB4 hown hgrow
                                  have hbg := hHeld.out.grown hgrow hHeld.out.size (fun k hk => (HOB.out.lt k hk).1)
                                  have HOX := Lib.hid hown
                                  clear hown hgrow HLIT
                                  refine hK.out _ _ (Lib.hid hbg) (fun hHeld2 => ?_)
                                  clear hK K hHeld
                                  have hHeld := hHeld2
                                  clear hHeld2
                                  try simp only [Act.put, List.setIfInBounds_toArray, List.set_cons_zero, List.set_cons_succ]
                                  refine wpAnyH_ready (rs := [8]) (by kernel_rfl) (by simp) ?_
                                  refine AllReadyH.cons (o := { dst := some 170, op := Go.Op.call { callee := Go.Callee.value (Go.Operand.func 11), args := #[Go.Operand.tmp 164, Go.Operand.tmp 169], argTypes := #[9, 22] }, type := 25, pos := "law.go:125", after := #[{ on := 2, ground := Go.Ground.data }, { on := 7, ground := Go.Ground.data }, { on := 7, ground := Go.Ground.chain }, { on := 1, ground := Go.Ground.guard }], guard := some (1, true) }) rfl (fun K hK => ?_) AllReadyH.nil
                                  obtain ⟨ta, tc, rfl, hrt, hnt⟩ := rowR_own (l := (SL ++ [⟨⟨rn, rt, rc⟩, ru, rd⟩])) (show wB4.ownsRow wr.heap.size 30 5 v5 (k + 1) (flatR (SL ++ [⟨⟨rn, rt, rc⟩, ru, rd⟩])) by rw [flatR_append]; simpa [flatR] using HOX.out)
                                  clear HOX
                                  go_simp
                                  refine (check_any apex _ _ _ (SL ++ [⟨⟨rn, rt, rc⟩, ru, rd⟩]) _ hrt (by have := HNN.out; omega) HSM.out HA.out).mono ?_; rintro e wB5 ⟨rfl, hb⟩
                                  rw [HCK.out]
                                  clear hrt hnt
                                  refine hK.out _ _ (Lib.hid (hHeld.out.trans (hb.mono hHeld.out.size))) (fun hHeld2 => ?_)
                                  clear hK K hHeld
                                  have hHeld := hHeld2
                                  clear hHeld2
                                  try simp only [Act.put, List.setIfInBounds_toArray, List.set_cons_zero, List.set_cons_succ]
                                  refine Plan.of [10, 11, 12, 13, 14, 15, 16, 17, 18] ?_
                                  iterate 7 (refine Plan.w (v := ?_) rfl hHeld (by rfl) ?_ ?_; rotate_left; (focus (intro w hSw; (try dsimp only at hSw); go_simp; try with_reducible rfl)); try simp only [Act.put, List.setIfInBounds_toArray, List.set_cons_zero, List.set_cons_succ])
                                  refine Plan.w (v := ?_) rfl hHeld (by rfl) ?_ ?_; rotate_left; (focus (intro w hSw; (try dsimp only at hSw); have hca := HC.out.below hSw.out; have s0 := (hca.2 0 _ rfl).1; have s1 := (hca.2 1 _ rfl).1; have s2 := (hca.2 2 _ rfl).1; have s3 := (hca.2 3 _ rfl).1; have s4 := (hca.2 4 _ rfl).1; go_simp; try with_reducible rfl)); try simp only [Act.put, List.setIfInBounds_toArray, List.set_cons_zero, List.set_cons_succ]
                                  refine Plan.w (v := ?_) rfl hHeld (by rfl) ?_ ?_; rotate_left; (focus (intro w hSw; (try dsimp only at hSw); go_simp; try with_reducible rfl)); try simp only [Act.put, List.setIfInBounds_toArray, List.set_cons_zero, List.set_cons_succ]
                                  refine Plan.fin ?_
                                  refine wpAnyH_ready (rs := [19]) (by kernel_rfl) (by simp) ?_
                                  refine AllReadyH.cons (o := { dst := some 181, op := Go.Op.call { callee := Go.Callee.value (Go.Operand.func 18), args := #[Go.Operand.tmp 179, Go.Operand.tmp 180], argTypes := #[9, 9] }, type := 4, pos := "law.go:125", after := #[{ on := 17, ground := Go.Ground.data }, { on := 18, ground := Go.Ground.data }, { on := 15, ground := Go.Ground.chain }, { on := 15, ground := Go.Ground.guard }], guard := some (15, true) }) rfl (fun K hK => ?_) AllReadyH.nil
                                  go_simp
                                  refine (runder_any rn apex _ HSR.out.1 HA.out).mono ?_; rintro e wB6 ⟨rfl, hb⟩
                                  rw [HU.out]
                                  refine hK.out _ _ (Lib.hid (hHeld.out.trans (hb.mono hHeld.out.size))) (fun hHeld2 => ?_)
                                  clear hK K hHeld
                                  have hHeld := hHeld2
                                  clear hHeld2
                                  try simp only [Act.put, List.setIfInBounds_toArray, List.set_cons_zero, List.set_cons_succ]
                                  refine Plan.of [20, 21, 22, 23] ?_
                                  iterate 4 (refine Plan.w (v := ?_) rfl hHeld (by rfl) ?_ ?_; rotate_left; (focus (intro w hSw; (try dsimp only at hSw); go_simp; try with_reducible rfl)); try simp only [Act.put, List.setIfInBounds_toArray, List.set_cons_zero, List.set_cons_succ])
                                  refine Plan.fin ?_
                                  refine wpAnyH_ready (rs := [24]) (by kernel_rfl) (by simp) ?_
                                  refine AllReadyH.cons (o := { dst := some 186, op := Go.Op.call { callee := Go.Callee.value (Go.Operand.func 17), args := #[Go.Operand.tmp 184, Go.Operand.tmp 185], argTypes := #[40, 40] }, type := 4, pos := "law.go:125", after := #[{ on := 22, ground := Go.Ground.data }, { on := 23, ground := Go.Ground.data }, { on := 21, ground := Go.Ground.chain }, { on := 21, ground := Go.Ground.guard }], guard := some (21, false) }) rfl (fun K hK => ?_) AllReadyH.nil
                                  go_simp
                                  have HX1 := Lib.hid (own_below' HD1.out hHeld.out)
                                  have HX3 := Lib.hid (own_below' HD3.out hHeld.out)
                                  refine (bytesM _ _ nd ne _ _ DL EL _ (RowB.of_own HX1.out).1 (RowB.of_own HX3.out).1 (RowB.of_own HX1.out).2 (RowB.of_own HX3.out).2).mono ?_; rintro e wB7 ⟨rfl, hw9⟩
                                  rw [HBB.out]
                                  have hb := (Below.refl wB6.heap.size wB6)
                                  subst hw9
                                  clear HX1 HX3
                                  refine hK.out _ _ (Lib.hid (hHeld.out.trans (hb.mono hHeld.out.size))) (fun hHeld2 => ?_)
                                  clear hK K hHeld
                                  have hHeld := hHeld2
                                  clear hHeld2
                                  try simp only [Act.put, List.setIfInBounds_toArray, List.set_cons_zero, List.set_cons_succ]
                                  refine Plan.of [25, 26, 27] ?_
                                  iterate 3 (refine Plan.w (v := ?_) rfl hHeld (by rfl) ?_ ?_; rotate_left; (focus (intro w hSw; (try dsimp only at hSw); go_simp; try with_reducible rfl)); try simp only [Act.put, List.setIfInBounds_toArray, List.set_cons_zero, List.set_cons_succ])
                                  refine Plan.fin ?_
                                  refine wpAnyH_done (by kernel_rfl) ?_ _
                                  have HBZ := Lib.hid (HB.out.trans (hHeld.out.mono HB.out.size))
                                  clear hHeld
                                  go_wp2
                                  go_ret
                                  exact ⟨rfl, HBZ.out⟩
                                · go_simp
                                  have hb := (Below.refl _ _ : Below wB1.heap.size wB1 wB1).alloc (Nat.le_refl _) (.cells #[.string rn, .int .i64 rt, .int .i64 rc, .int .i64 ru, .string rd] 30)
                                  have HLIT := Lib.hid (show CellsAt (wB1.alloc (.cells #[.string rn, .int .i64 rt, .int .i64 rc, .int .i64 ru, .string rd] 30)) (some ⟨wB1.heap.size, 0, none⟩) (1 * 5) (encR ⟨⟨rn, rt, rc⟩, ru, rd⟩) from cells_lit wB1 #[.string rn, .int .i64 rt, .int .i64 rc, .int .i64 ru, .string rd] 30)
                                  obtain ⟨wB2, hw⟩ : ∃ x, wB1.alloc (.cells #[.string rn, .int .i64 rt, .int .i64 rc, .int .i64 ru, .string rd] 30) = x := ⟨_, rfl⟩
                                  obtain ⟨ge, hge⟩ : ∃ x, wB1.heap.size = x := ⟨_, rfl⟩
                                  rw [hw] at hb HLIT ⊢
                                  rw [hge] at HLIT ⊢
                                  clear hw hge
                                  refine hK.out _ _ (Lib.hid (hHeld.out.trans (hb.mono hHeld.out.size))) (fun hHeld2 => ?_)
                                  clear hK K hHeld
                                  have hHeld := hHeld2
                                  clear hHeld2
                                  try simp only [Act.put, List.setIfInBounds_toArray, List.set_cons_zero, List.set_cons_succ]
                                  refine wpAnyH_ready (rs := [4]) (by kernel_rfl) (by simp) ?_
                                  refine AllReadyH.cons (o := { dst := some 166, op := Go.Op.call { callee := Go.Callee.value (Go.Operand.func 13), args := #[Go.Operand.tmp 165], argTypes := #[22] }, type := 22, pos := "law.go:125", after := #[{ on := 3, ground := Go.Ground.data }, { on := 1, ground := Go.Ground.chain }, { on := 1, ground := Go.Ground.guard }], guard := some (1, true) }) rfl (fun K hK => ?_) AllReadyH.nil
                                  go_simp
                                  refine (copyRRs_any _ k _ SL _ ((rowR_own2M HSO.out).1.below hHeld.out) (rowR_own2M HSO.out).2 (by have := HNN.out; omega)).mono ?_; rintro e wB3 ⟨vcB, rfl, hown, hb⟩
                                  have HOB := Lib.hid (own_monoM (base' := wr.heap.size) hown hHeld.out.size)
                                  clear hown
                                  replace HLIT := Lib.hid (HLIT.out.below hb)
                                  refine hK.out _ _ (Lib.hid (hHeld.out.trans (hb.mono hHeld.out.size))) (fun hHeld2 => ?_)
                                  clear hK K hHeld
                                  have hHeld := hHeld2
                                  clear hHeld2
                                  try simp only [Act.put, List.setIfInBounds_toArray, List.set_cons_zero, List.set_cons_succ]
                                  refine wpAnyH_ready (rs := [7]) (by kernel_rfl) (by simp) ?_
                                  refine AllReadyH.cons (o := { dst := some 169, op := Go.Op.call { callee := Go.Callee.builtin Go.Builtin.append, args := #[Go.Operand.tmp 166, Go.Operand.tmp 168], argTypes := #[22, 22] }, type := 22, pos := "law.go:125", after := #[{ on := 4, ground := Go.Ground.data }, { on := 6, ground := Go.Ground.data }, { on := 4, ground := Go.Ground.chain }, { on := 1, ground := Go.Ground.guard }], guard := some (1, true) }) rfl (fun K hK => ?_) AllReadyH.nil
                                  refine step_append_cellsG (by rfl) _ _ 22 30 (by rfl) i0 _ 5 56 Try.underlying22 HI.out HZ0.out HZ1.out HZ2.out rfl (by decide) wr.heap.size _ k _ (by rfl) HOB.out (some ⟨ge, 0, none⟩) 1 1 (encR ⟨⟨rn, rt, rc⟩, ru, rd⟩) (by rfl) (fun h => by cases h) HLIT.out (fun u hu => flatR_oneM (l := [⟨⟨rn, rt, rc⟩, ru, rd⟩]) (by simpa [flatR] using hu)) (by have := HNN.out; omega) (by decide) (hHeld.out.size) ?_
                                  intro v5 wB4 hown hgrow
                                  have hbg := hHeld.out.grown hgrow hHeld.out.size (fun k hk => (HOB.out.lt k hk).1)
                                  have HOX := Lib.hid hown
                                  clear hown hgrow HLIT
                                  refine hK.out _ _ (Lib.hid hbg) (fun hHeld2 => ?_)
                                  clear hK K hHeld
                                  have hHeld := hHeld2
                                  clear hHeld2
                                  try simp only [Act.put, List.setIfInBounds_toArray, List.set_cons_zero, List.set_cons_succ]
                                  refine wpAnyH_ready (rs := [8]) (by kernel_rfl) (by simp) ?_
                                  refine AllReadyH.cons (o := { dst := some 170, op := Go.Op.call { callee := Go.Callee.value (Go.Operand.func 11), args := #[Go.Operand.tmp 164, Go.Operand.tmp 169], argTypes := #[9, 22] }, type := 25, pos := "law.go:125", after := #[{ on := 2, ground := Go.Ground.data }, { on := 7, ground := Go.Ground.data }, { on := 7, ground := Go.Ground.chain }, { on := 1, ground := Go.Ground.guard }], guard := some (1, true) }) rfl (fun K hK => ?_) AllReadyH.nil
                                  obtain ⟨ta, tc, rfl, hrt, hnt⟩ := rowR_own (l := (SL ++ [⟨⟨rn, rt, rc⟩, ru, rd⟩])) (show wB4.ownsRow wr.heap.size 30 5 v5 (k + 1) (flatR (SL ++ [⟨⟨rn, rt, rc⟩, ru, rd⟩])) by rw [flatR_append]; simpa [flatR] using HOX.out)
                                  clear HOX
                                  go_simp
                                  refine (check_any apex _ _ _ (SL ++ [⟨⟨rn, rt, rc⟩, ru, rd⟩]) _ hrt (by have := HNN.out; omega) HSM.out HA.out).mono ?_; rintro e wB5 ⟨rfl, hb⟩
                                  rw [HCK.out]
                                  clear hrt hnt
                                  refine hK.out _ _ (Lib.hid (hHeld.out.trans (hb.mono hHeld.out.size))) (fun hHeld2 => ?_)
                                  clear hK K hHeld
                                  have hHeld := hHeld2
                                  clear hHeld2
                                  try simp only [Act.put, List.setIfInBounds_toArray, List.set_cons_zero, List.set_cons_succ]
                                  refine Plan.of [10, 11, 12, 13, 14, 15, 16, 17, 18] ?_
                                  iterate 7 (refine Plan.w (v := ?_) rfl hHeld (by rfl) ?_ ?_; rotate_left; (focus (intro w hSw; (try dsimp only at hSw); go_simp; try with_reducible rfl)); try simp only [Act.put, List.setIfInBounds_toArray, List.set_cons_zero, List.set_cons_succ])
                                  refine Plan.w (v := ?_) rfl hHeld (by rfl) ?_ ?_; rotate_left; (focus (intro w hSw; (try dsimp only at hSw); have hca := HC.out.below hSw.out; have s0 := (hca.2 0 _ rfl).1; have s1 := (hca.2 1 _ rfl).1; have s2 := (hca.2 2 _ rfl).1; have s3 := (hca.2 3 _ rfl).1; have s4 := (hca.2 4 _ rfl).1; go_simp; try with_reducible rfl)); try simp only [Act.put, List.setIfInBounds_toArray, List.set_cons_zero, List.set_cons_succ]
                                  refine Plan.w (v := ?_) rfl hHeld (by rfl) ?_ ?_; rotate_left; (focus (intro w hSw; (try dsimp only at hSw); go_simp; try with_reducible rfl)); try simp only [Act.put, List.setIfInBounds_toArray, List.set_cons_zero, List.set_cons_succ]
                                  refine Plan.fin ?_
                                  refine wpAnyH_ready (rs := [19]) (by kernel_rfl) (by simp) ?_
                                  refine AllReadyH.cons (o := { dst := some 181, op := Go.Op.call { callee := Go.Callee.value (Go.Operand.func 18), args := #[Go.Operand.tmp 179, Go.Operand.tmp 180], argTypes := #[9, 9] }, type := 4, pos := "law.go:125", after := #[{ on := 17, ground := Go.Ground.data }, { on := 18, ground := Go.Ground.data }, { on := 15, ground := Go.Ground.chain }, { on := 15, ground := Go.Ground.guard }], guard := some (15, true) }) rfl (fun K hK => ?_) AllReadyH.nil
                                  go_simp
                                  refine (runder_any rn apex _ HSR.out.1 HA.out).mono ?_; rintro e wB6 ⟨rfl, hb⟩
                                  rw [HU.out]
                                  refine hK.out _ _ (Lib.hid (hHeld.out.trans (hb.mono hHeld.out.size))) (fun hHeld2 => ?_)
                                  clear hK K hHeld
                                  have hHeld := hHeld2
                                  clear hHeld2
                                  try simp only [Act.put, List.setIfInBounds_toArray, List.set_cons_zero, List.set_cons_succ]
                                  refine Plan.of [20, 21, 22, 23] ?_
                                  iterate 4 (refine Plan.w (v := ?_) rfl hHeld (by rfl) ?_ ?_; rotate_left; (focus (intro w hSw; (try dsimp only at hSw); go_simp; try with_reducible rfl)); try simp only [Act.put, List.setIfInBounds_toArray, List.set_cons_zero, List.set_cons_succ])
                                  refine Plan.fin ?_
                                  refine wpAnyH_ready (rs := [24]) (by kernel_rfl) (by simp) ?_
                                  refine AllReadyH.cons (o := { dst := some 186, op := Go.Op.call { callee := Go.Callee.value (Go.Operand.func 17), args := #[Go.Operand.tmp 184, Go.Operand.tmp 185], argTypes := #[40, 40] }, type := 4, pos := "law.go:125", after := #[{ on := 22, ground := Go.Ground.data }, { on := 23, ground := Go.Ground.data }, { on := 21, ground := Go.Ground.chain }, { on := 21, ground := Go.Ground.guard }], guard := some (21, false) }) rfl (fun K hK => ?_) AllReadyH.nil
                                  go_simp
                                  have HX1 := Lib.hid (own_below' HD1.out hHeld.out)
                                  have HX3 := Lib.hid (own_below' HD3.out hHeld.out)
                                  refine (bytesM _ _ nd ne _ _ DL EL _ (RowB.of_own HX1.out).1 (RowB.of_own HX3.out).1 (RowB.of_own HX1.out).2 (RowB.of_own HX3.out).2).mono ?_; rintro e wB7 ⟨rfl, hw9⟩
                                  rw [HBB.out]
                                  have hb := (Below.refl wB6.heap.size wB6)
                                  subst hw9
                                  clear HX1 HX3
                                  refine hK.out _ _ (Lib.hid (hHeld.out.trans (hb.mono hHeld.out.size))) (fun hHeld2 => ?_)
                                  clear hK K hHeld
                                  have hHeld := hHeld2
                                  clear hHeld2
                                  try simp only [Act.put, List.setIfInBounds_toArray, List.set_cons_zero, List.set_cons_succ]
                                  refine Plan.of [25, 26, 27] ?_
                                  iterate 3 (refine Plan.w (v := ?_) rfl hHeld (by rfl) ?_ ?_; rotate_left; (focus (intro w hSw; (try dsimp only at hSw); go_simp; try with_reducible rfl)); try simp only [Act.put, List.setIfInBounds_toArray, List.set_cons_zero, List.set_cons_succ])
                                  refine Plan.fin ?_
                                  refine wpAnyH_done (by kernel_rfl) ?_ _
                                  have HBZ := Lib.hid (HB.out.trans (hHeld.out.mono HB.out.size))
                                  clear hHeld
                                  go_wp2
                                  go_ret
                                  exact ⟨rfl, HBZ.out⟩
                              · obtain ⟨x0, x1, x2, x3, x4, _⟩ := HC.out.u5
                                go_upto_region 29 with (fail)
                                clear x0 x1 x2 x3 x4
                                refine wp_region_held_drew (S := (fun wx => Hid (Below wr.heap.size wr wx))) (by kernel_rfl) (Lib.hid (Below.refl _ _).drew) (fun hHeld => ?_)
                                obtain ⟨wB0, hwd⟩ : ∃ z, wr.drew = z := ⟨_, rfl⟩
                                rw [hwd] at hHeld ⊢
                                clear hwd
                                refine wpAnyH_ready (rs := [0]) (by kernel_rfl) (by simp) ?_
                                refine AllReadyH.cons (o := { dst := some 162, op := Go.Op.call { callee := Go.Callee.value (Go.Operand.func 8), args := #[], argTypes := #[] }, type := 4, pos := "law.go:125", after := #[], guard := none }) rfl (fun K hK => ?_) AllReadyH.nil
                                go_simp
                                refine (first9 _).mono ?_; rintro e wB1 ⟨rfl, hb⟩
                                refine hK.out _ _ (Lib.hid (hHeld.out.trans (hb.mono hHeld.out.size))) (fun hHeld2 => ?_)
                                clear hK K hHeld
                                have hHeld := hHeld2
                                clear hHeld2
                                try simp only [Act.put, List.setIfInBounds_toArray, List.set_cons_zero, List.set_cons_succ]
                                refine Plan.of [1, 2, 3, 5, 9] ?_
                                iterate 3 (refine Plan.w (v := ?_) rfl hHeld (by rfl) ?_ ?_; rotate_left; (focus (intro w hSw; (try dsimp only at hSw); go_simp; try with_reducible rfl)); try simp only [Act.put, List.setIfInBounds_toArray, List.set_cons_zero, List.set_cons_succ])
                                refine Plan.w (v := ?_) rfl hHeld (by rfl) ?_ ?_; rotate_left; (focus (intro w hSw; (try dsimp only at hSw); have hca := HC.out.below hSw.out; have s0 := (hca.2 0 _ rfl).1; have s1 := (hca.2 1 _ rfl).1; have s2 := (hca.2 2 _ rfl).1; have s3 := (hca.2 3 _ rfl).1; have s4 := (hca.2 4 _ rfl).1; go_simp; try with_reducible rfl)); try simp only [Act.put, List.setIfInBounds_toArray, List.set_cons_zero, List.set_cons_succ]
                                refine Plan.w (v := ?_) rfl hHeld (by rfl) ?_ ?_; rotate_left; (focus (intro w hSw; (try dsimp only at hSw); go_simp; try with_reducible rfl)); try simp only [Act.put, List.setIfInBounds_toArray, List.set_cons_zero, List.set_cons_succ]
                                refine Plan.fin ?_
                                refine wpAnyH_ready (rs := [4, 6]) (by kernel_rfl) (by simp) ?_
                                refine AllReadyH.cons (o := { dst := some 166, op := Go.Op.call { callee := Go.Callee.value (Go.Operand.func 13), args := #[Go.Operand.tmp 165], argTypes := #[22] }, type := 22, pos := "law.go:125", after := #[{ on := 3, ground := Go.Ground.data }, { on := 1, ground := Go.Ground.chain }, { on := 1, ground := Go.Ground.guard }], guard := some (1, true) }) rfl (fun K hK => ?_) (AllReadyH.cons (o := { dst := some 168, op := Go.Op.buildSlice 22 1 #[(0, Go.Operand.tmp 167)], type := 22, pos := "law.go:125", after := #[{ on := 5, ground := Go.Ground.data }, { on := 1, ground := Go.Ground.guard }], guard := some (1, true) }) rfl (fun K hK => ?_) AllReadyH.nil)
                                · go_simp
                                  refine (copyRRs_any _ k _ SL _ ((rowR_own2M HSO.out).1.below hHeld.out) (rowR_own2M HSO.out).2 (by have := HNN.out; omega)).mono ?_; rintro e wB2 ⟨vcB, rfl, hown, hb⟩
                                  have HOB := Lib.hid (own_monoM (base' := wr.heap.size) hown hHeld.out.size)
                                  clear hown
                                  refine hK.out _ _ (Lib.hid (hHeld.out.trans (hb.mono hHeld.out.size))) (fun hHeld2 => ?_)
                                  clear hK K hHeld
                                  have hHeld := hHeld2
                                  clear hHeld2
                                  try simp only [Act.put, List.setIfInBounds_toArray, List.set_cons_zero, List.set_cons_succ]
                                  refine wpAnyH_ready (rs := [6]) (by kernel_rfl) (by simp) ?_
                                  refine AllReadyH.cons (o := { dst := some 168, op := Go.Op.buildSlice 22 1 #[(0, Go.Operand.tmp 167)], type := 22, pos := "law.go:125", after := #[{ on := 5, ground := Go.Ground.data }, { on := 1, ground := Go.Ground.guard }], guard := some (1, true) }) rfl (fun K hK => ?_) AllReadyH.nil
                                  go_simp
                                  have hb := (Below.refl _ _ : Below wB2.heap.size wB2 wB2).alloc (Nat.le_refl _) (.cells #[.string rn, .int .i64 rt, .int .i64 rc, .int .i64 ru, .string rd] 30)
                                  have HLIT := Lib.hid (show CellsAt (wB2.alloc (.cells #[.string rn, .int .i64 rt, .int .i64 rc, .int .i64 ru, .string rd] 30)) (some ⟨wB2.heap.size, 0, none⟩) (1 * 5) (encR ⟨⟨rn, rt, rc⟩, ru, rd⟩) from cells_lit wB2 #[.string rn, .int .i64 rt, .int .i64 rc, .int .i64 ru, .string rd] 30)
                                  obtain ⟨wB3, hw⟩ : ∃ x, wB2.alloc (.cells #[.string rn, .int .i64 rt, .int .i64 rc, .int .i64 ru, .string rd] 30) = x := ⟨_, rfl⟩
                                  obtain ⟨ge, hge⟩ : ∃ x, wB2.heap.size = x := ⟨_, rfl⟩
                                  rw [hw] at hb HLIT ⊢
                                  rw [hge] at HLIT ⊢
                                  replace HOB := Lib.hid (own_below' HOB.out hb)
                                  clear hw hge
                                  refine hK.out _ _ (Lib.hid (hHeld.out.trans (hb.mono hHeld.out.size))) (fun hHeld2 => ?_)
                                  clear hK K hHeld
                                  have hHeld := hHeld2
                                  clear hHeld2
                                  try simp only [Act.put, List.setIfInBounds_toArray, List.set_cons_zero, List.set_cons_succ]
                                  refine wpAnyH_ready (rs := [7]) (by kernel_rfl) (by simp) ?_
                                  refine AllReadyH.cons (o := { dst := some 169, op := Go.Op.call { callee := Go.Callee.builtin Go.Builtin.append, args := #[Go.Operand.tmp 166, Go.Operand.tmp 168], argTypes := #[22, 22] }, type := 22, pos := "law.go:125", after := #[{ on := 4, ground := Go.Ground.data }, { on := 6, ground := Go.Ground.data }, { on := 4, ground := Go.Ground.chain }, { on := 1, ground := Go.Ground.guard }], guard := some (1, true) }) rfl (fun K hK => ?_) AllReadyH.nil
                                  refine step_append_cellsG (by rfl) _ _ 22 30 (by rfl) i0 _ 5 56 Try.underlying22 HI.out HZ0.out HZ1.out HZ2.out rfl (by decide) wr.heap.size _ k _ (by rfl) HOB.out (some ⟨ge, 0, none⟩) 1 1 (encR ⟨⟨rn, rt, rc⟩, ru, rd⟩) (by rfl) (fun h => by cases h) HLIT.out (fun u hu => flatR_oneM (l := [⟨⟨rn, rt, rc⟩, ru, rd⟩]) (by simpa [flatR] using hu)) (by have := HNN.out; omega) (by decide) (hHeld.out.size) ?_
                                  intro v5 wB4 hown hgrow
                                  have hbg := hHeld.out.grown hgrow hHeld.out.size (fun k hk => (HOB.out.lt k hk).1)
                                  have HOX := Lib.hid hown
                                  clear hown hgrow HLIT
                                  refine hK.out _ _ (Lib.hid hbg) (fun hHeld2 => ?_)
                                  clear hK K hHeld
                                  have hHeld := hHeld2
                                  clear hHeld2
                                  try simp only [Act.put, List.setIfInBounds_toArray, List.set_cons_zero, List.set_cons_succ]
                                  refine wpAnyH_ready (rs := [8]) (by kernel_rfl) (by simp) ?_
                                  refine AllReadyH.cons (o := { dst := some 170, op := Go.Op.call { callee := Go.Callee.value (Go.Operand.func 11), args := #[Go.Operand.tmp 164, Go.Operand.tmp 169], argTypes := #[9, 22] }, type := 25, pos := "law.go:125", after := #[{ on := 2, ground := Go.Ground.data }, { on := 7, ground := Go.Ground.data }, { on := 7, ground := Go.Ground.chain }, { on := 1, ground := Go.Ground.guard }], guard := some (1, true) }) rfl (fun K hK => ?_) AllReadyH.nil
                                  obtain ⟨ta, tc, rfl, hrt, hnt⟩ := rowR_own (l := (SL ++ [⟨⟨rn, rt, rc⟩, ru, rd⟩])) (show wB4.ownsRow wr.heap.size 30 5 v5 (k + 1) (flatR (SL ++ [⟨⟨rn, rt, rc⟩, ru, rd⟩])) by rw [flatR_append]; simpa [flatR] using HOX.out)
                                  clear HOX
                                  go_simp
                                  refine (check_any apex _ _ _ (SL ++ [⟨⟨rn, rt, rc⟩, ru, rd⟩]) _ hrt (by have := HNN.out; omega) HSM.out HA.out).mono ?_; rintro e wB5 ⟨rfl, hb⟩
                                  rw [HCK.out]
                                  clear hrt hnt
                                  refine hK.out _ _ (Lib.hid (hHeld.out.trans (hb.mono hHeld.out.size))) (fun hHeld2 => ?_)
                                  clear hK K hHeld
                                  have hHeld := hHeld2
                                  clear hHeld2
                                  try simp only [Act.put, List.setIfInBounds_toArray, List.set_cons_zero, List.set_cons_succ]
                                  refine Plan.of [10, 11, 12, 13, 14, 15, 16, 17, 18] ?_
                                  iterate 7 (refine Plan.w (v := ?_) rfl hHeld (by rfl) ?_ ?_; rotate_left; (focus (intro w hSw; (try dsimp only at hSw); go_simp; try with_reducible rfl)); try simp only [Act.put, List.setIfInBounds_toArray, List.set_cons_zero, List.set_cons_succ])
                                  refine Plan.w (v := ?_) rfl hHeld (by rfl) ?_ ?_; rotate_left; (focus (intro w hSw; (try dsimp only at hSw); have hca := HC.out.below hSw.out; have s0 := (hca.2 0 _ rfl).1; have s1 := (hca.2 1 _ rfl).1; have s2 := (hca.2 2 _ rfl).1; have s3 := (hca.2 3 _ rfl).1; have s4 := (hca.2 4 _ rfl).1; go_simp; try with_reducible rfl)); try simp only [Act.put, List.setIfInBounds_toArray, List.set_cons_zero, List.set_cons_succ]
                                  refine Plan.w (v := ?_) rfl hHeld (by rfl) ?_ ?_; rotate_left; (focus (intro w hSw; (try dsimp only at hSw); go_simp; try with_reducible rfl)); try simp only [Act.put, List.setIfInBounds_toArray, List.set_cons_zero, List.set_cons_succ]
                                  refine Plan.fin ?_
                                  refine wpAnyH_ready (rs := [19]) (by kernel_rfl) (by simp) ?_
                                  refine AllReadyH.cons (o := { dst := some 181, op := Go.Op.call { callee := Go.Callee.value (Go.Operand.func 18), args := #[Go.Operand.tmp 179, Go.Operand.tmp 180], argTypes := #[9, 9] }, type := 4, pos := "law.go:125", after := #[{ on := 17, ground := Go.Ground.data }, { on := 18, ground := Go.Ground.data }, { on := 15, ground := Go.Ground.chain }, { on := 15, ground := Go.Ground.guard }], guard := some (15, true) }) rfl (fun K hK => ?_) AllReadyH.nil
                                  go_simp
                                  refine (runder_any rn apex _ HSR.out.1 HA.out).mono ?_; rintro e wB6 ⟨rfl, hb⟩
                                  rw [HU.out]
                                  refine hK.out _ _ (Lib.hid (hHeld.out.trans (hb.mono hHeld.out.size))) (fun hHeld2 => ?_)
                                  clear hK K hHeld
                                  have hHeld := hHeld2
                                  clear hHeld2
                                  try simp only [Act.put, List.setIfInBounds_toArray, List.set_cons_zero, List.set_cons_succ]
                                  refine Plan.of [20, 21, 22, 23, 24, 25, 26, 27] ?_
                                  iterate 2 (refine Plan.w (v := ?_) rfl hHeld (by rfl) ?_ ?_; rotate_left; (focus (intro w hSw; (try dsimp only at hSw); go_simp; try with_reducible rfl)); try simp only [Act.put, List.setIfInBounds_toArray, List.set_cons_zero, List.set_cons_succ])
                                  iterate 3 (refine Plan.n rfl hHeld (by rfl) ?_; try simp only [Act.put, List.setIfInBounds_toArray, List.set_cons_zero, List.set_cons_succ])
                                  iterate 3 (refine Plan.w (v := ?_) rfl hHeld (by rfl) ?_ ?_; rotate_left; (focus (intro w hSw; (try dsimp only at hSw); go_simp; try with_reducible rfl)); try simp only [Act.put, List.setIfInBounds_toArray, List.set_cons_zero, List.set_cons_succ])
                                  refine Plan.fin ?_
                                  refine wpAnyH_done (by kernel_rfl) ?_ _
                                  have HBZ := Lib.hid (HB.out.trans (hHeld.out.mono HB.out.size))
                                  clear hHeld
                                  go_wp2
                                  go_ret
                                  exact ⟨rfl, HBZ.out⟩
                                · go_simp
                                  have hb := (Below.refl _ _ : Below wB1.heap.size wB1 wB1).alloc (Nat.le_refl _) (.cells #[.string rn, .int .i64 rt, .int .i64 rc, .int .i64 ru, .string rd] 30)
                                  have HLIT := Lib.hid (show CellsAt (wB1.alloc (.cells #[.string rn, .int .i64 rt, .int .i64 rc, .int .i64 ru, .string rd] 30)) (some ⟨wB1.heap.size, 0, none⟩) (1 * 5) (encR ⟨⟨rn, rt, rc⟩, ru, rd⟩) from cells_lit wB1 #[.string rn, .int .i64 rt, .int .i64 rc, .int .i64 ru, .string rd] 30)
                                  obtain ⟨wB2, hw⟩ : ∃ x, wB1.alloc (.cells #[.string rn, .int .i64 rt, .int .i64 rc, .int .i64 ru, .string rd] 30) = x := ⟨_, rfl⟩
                                  obtain ⟨ge, hge⟩ : ∃ x, wB1.heap.size = x := ⟨_, rfl⟩
                                  rw [hw] at hb HLIT ⊢
                                  rw [hge] at HLIT ⊢
                                  clear hw hge
                                  refine hK.out _ _ (Lib.hid (hHeld.out.trans (hb.mono hHeld.out.size))) (fun hHeld2 => ?_)
                                  clear hK K hHeld
                                  have hHeld := hHeld2
                                  clear hHeld2
                                  try simp only [Act.put, List.setIfInBounds_toArray, List.set_cons_zero, List.set_cons_succ]
                                  refine wpAnyH_ready (rs := [4]) (by kernel_rfl) (by simp) ?_
                                  refine AllReadyH.cons (o := { dst := some 166, op := Go.Op.call { callee := Go.Callee.value (Go.Operand.func 13), args := #[Go.Operand.tmp 165], argTypes := #[22] }, type := 22, pos := "law.go:125", after := #[{ on := 3, ground := Go.Ground.data }, { on := 1, ground := Go.Ground.chain }, { on := 1, ground := Go.Ground.guard }], guard := some (1, true) }) rfl (fun K hK => ?_) AllReadyH.nil
                                  go_simp
                                  refine (copyRRs_any _ k _ SL _ ((rowR_own2M HSO.out).1.below hHeld.out) (rowR_own2M HSO.out).2 (by have := HNN.out; omega)).mono ?_; rintro e wB3 ⟨vcB, rfl, hown, hb⟩
                                  have HOB := Lib.hid (own_monoM (base' := wr.heap.size) hown hHeld.out.size)
                                  clear hown
                                  replace HLIT := Lib.hid (HLIT.out.below hb)
                                  refine hK.out _ _ (Lib.hid (hHeld.out.trans (hb.mono hHeld.out.size))) (fun hHeld2 => ?_)
                                  clear hK K hHeld
                                  have hHeld := hHeld2
                                  clear hHeld2
                                  try simp only [Act.put, List.setIfInBounds_toArray, List.set_cons_zero, List.set_cons_succ]
                                  refine wpAnyH_ready (rs := [7]) (by kernel_rfl) (by simp) ?_
                                  refine AllReadyH.cons (o := { dst := some 169, op := Go.Op.call { callee := Go.Callee.builtin Go.Builtin.append, args := #[Go.Operand.tmp 166, Go.Operand.tmp 168], argTypes := #[22, 22] }, type := 22, pos := "law.go:125", after := #[{ on := 4, ground := Go.Ground.data }, { on := 6, ground := Go.Ground.data }, { on := 4, ground := Go.Ground.chain }, { on := 1, ground := Go.Ground.guard }], guard := some (1, true) }) rfl (fun K hK => ?_) AllReadyH.nil
                                  refine step_append_cellsG (by rfl) _ _ 22 30 (by rfl) i0 _ 5 56 Try.underlying22 HI.out HZ0.out HZ1.out HZ2.out rfl (by decide) wr.heap.size _ k _ (by rfl) HOB.out (some ⟨ge, 0, none⟩) 1 1 (encR ⟨⟨rn, rt, rc⟩, ru, rd⟩) (by rfl) (fun h => by cases h) HLIT.out (fun u hu => flatR_oneM (l := [⟨⟨rn, rt, rc⟩, ru, rd⟩]) (by simpa [flatR] using hu)) (by have := HNN.out; omega) (by decide) (hHeld.out.size) ?_
                                  intro v5 wB4 hown hgrow
                                  have hbg := hHeld.out.grown hgrow hHeld.out.size (fun k hk => (HOB.out.lt k hk).1)
                                  have HOX := Lib.hid hown
                                  clear hown hgrow HLIT
                                  refine hK.out _ _ (Lib.hid hbg) (fun hHeld2 => ?_)
                                  clear hK K hHeld
                                  have hHeld := hHeld2
                                  clear hHeld2
                                  try simp only [Act.put, List.setIfInBounds_toArray, List.set_cons_zero, List.set_cons_succ]
                                  refine wpAnyH_ready (rs := [8]) (by kernel_rfl) (by simp) ?_
                                  refine AllReadyH.cons (o := { dst := some 170, op := Go.Op.call { callee := Go.Callee.value (Go.Operand.func 11), args := #[Go.Operand.tmp 164, Go.Operand.tmp 169], argTypes := #[9, 22] }, type := 25, pos := "law.go:125", after := #[{ on := 2, ground := Go.Ground.data }, { on := 7, ground := Go.Ground.data }, { on := 7, ground := Go.Ground.chain }, { on := 1, ground := Go.Ground.guard }], guard := some (1, true) }) rfl (fun K hK => ?_) AllReadyH.nil
                                  obtain ⟨ta, tc, rfl, hrt, hnt⟩ := rowR_own (l := (SL ++ [⟨⟨rn, rt, rc⟩, ru, rd⟩])) (show wB4.ownsRow wr.heap.size 30 5 v5 (k + 1) (flatR (SL ++ [⟨⟨rn, rt, rc⟩, ru, rd⟩])) by rw [flatR_append]; simpa [flatR] using HOX.out)
                                  clear HOX
                                  go_simp
                                  refine (check_any apex _ _ _ (SL ++ [⟨⟨rn, rt, rc⟩, ru, rd⟩]) _ hrt (by have := HNN.out; omega) HSM.out HA.out).mono ?_; rintro e wB5 ⟨rfl, hb⟩
                                  rw [HCK.out]
                                  clear hrt hnt
                                  refine hK.out _ _ (Lib.hid (hHeld.out.trans (hb.mono hHeld.out.size))) (fun hHeld2 => ?_)
                                  clear hK K hHeld
                                  have hHeld := hHeld2
                                  clear hHeld2
                                  try simp only [Act.put, List.setIfInBounds_toArray, List.set_cons_zero, List.set_cons_succ]
                                  refine Plan.of [10, 11, 12, 13, 14, 15, 16, 17, 18] ?_
                                  iterate 7 (refine Plan.w (v := ?_) rfl hHeld (by rfl) ?_ ?_; rotate_left; (focus (intro w hSw; (try dsimp only at hSw); go_simp; try with_reducible rfl)); try simp only [Act.put, List.setIfInBounds_toArray, List.set_cons_zero, List.set_cons_succ])
                                  refine Plan.w (v := ?_) rfl hHeld (by rfl) ?_ ?_; rotate_left; (focus (intro w hSw; (try dsimp only at hSw); have hca := HC.out.below hSw.out; have s0 := (hca.2 0 _ rfl).1; have s1 := (hca.2 1 _ rfl).1; have s2 := (hca.2 2 _ rfl).1; have s3 := (hca.2 3 _ rfl).1; have s4 := (hca.2 4 _ rfl).1; go_simp; try with_reducible rfl)); try simp only [Act.put, List.setIfInBounds_toArray, List.set_cons_zero, List.set_cons_succ]
                                  refine Plan.w (v := ?_) rfl hHeld (by rfl) ?_ ?_; rotate_left; (focus (intro w hSw; (try dsimp only at hSw); go_simp; try with_reducible rfl)); try simp only [Act.put, List.setIfInBounds_toArray, List.set_cons_zero, List.set_cons_succ]
                                  refine Plan.fin ?_
                                  refine wpAnyH_ready (rs := [19]) (by kernel_rfl) (by simp) ?_
                                  refine AllReadyH.cons (o := { dst := some 181, op := Go.Op.call { callee := Go.Callee.value (Go.Operand.func 18), args := #[Go.Operand.tmp 179, Go.Operand.tmp 180], argTypes := #[9, 9] }, type := 4, pos := "law.go:125", after := #[{ on := 17, ground := Go.Ground.data }, { on := 18, ground := Go.Ground.data }, { on := 15, ground := Go.Ground.chain }, { on := 15, ground := Go.Ground.guard }], guard := some (15, true) }) rfl (fun K hK => ?_) AllReadyH.nil
                                  go_simp
                                  refine (runder_any rn apex _ HSR.out.1 HA.out).mono ?_; rintro e wB6 ⟨rfl, hb⟩
                                  rw [HU.out]
                                  refine hK.out _ _ (Lib.hid (hHeld.out.trans (hb.mono hHeld.out.size))) (fun hHeld2 => ?_)
                                  clear hK K hHeld
                                  have hHeld := hHeld2
                                  clear hHeld2
                                  try simp only [Act.put, List.setIfInBounds_toArray, List.set_cons_zero, List.set_cons_succ]
                                  refine Plan.of [20, 21, 22, 23, 24, 25, 26, 27] ?_
                                  iterate 2 (refine Plan.w (v := ?_) rfl hHeld (by rfl) ?_ ?_; rotate_left; (focus (intro w hSw; (try dsimp only at hSw); go_simp; try with_reducible rfl)); try simp only [Act.put, List.setIfInBounds_toArray, List.set_cons_zero, List.set_cons_succ])
                                  iterate 3 (refine Plan.n rfl hHeld (by rfl) ?_; try simp only [Act.put, List.setIfInBounds_toArray, List.set_cons_zero, List.set_cons_succ])
                                  iterate 3 (refine Plan.w (v := ?_) rfl hHeld (by rfl) ?_ ?_; rotate_left; (focus (intro w hSw; (try dsimp only at hSw); go_simp; try with_reducible rfl)); try simp only [Act.put, List.setIfInBounds_toArray, List.set_cons_zero, List.set_cons_succ])
                                  refine Plan.fin ?_
                                  refine wpAnyH_done (by kernel_rfl) ?_ _
                                  have HBZ := Lib.hid (HB.out.trans (hHeld.out.mono HB.out.size))
                                  clear hHeld
                                  go_wp2
                                  go_ret
                                  exact ⟨rfl, HBZ.out⟩
                            · obtain ⟨x0, x1, x2, x3, x4, _⟩ := HC.out.u5
                              go_upto_region 29 with (fail)
                              clear x0 x1 x2 x3 x4
                              refine wp_region_held_drew (S := (fun wx => Hid (Below wr.heap.size wr wx))) (by kernel_rfl) (Lib.hid (Below.refl _ _).drew) (fun hHeld => ?_)
                              obtain ⟨wB0, hwd⟩ : ∃ z, wr.drew = z := ⟨_, rfl⟩
                              rw [hwd] at hHeld ⊢
                              clear hwd
                              refine wpAnyH_ready (rs := [0]) (by kernel_rfl) (by simp) ?_
                              refine AllReadyH.cons (o := { dst := some 162, op := Go.Op.call { callee := Go.Callee.value (Go.Operand.func 8), args := #[], argTypes := #[] }, type := 4, pos := "law.go:125", after := #[], guard := none }) rfl (fun K hK => ?_) AllReadyH.nil
                              go_simp
                              refine (first9 _).mono ?_; rintro e wB1 ⟨rfl, hb⟩
                              refine hK.out _ _ (Lib.hid (hHeld.out.trans (hb.mono hHeld.out.size))) (fun hHeld2 => ?_)
                              clear hK K hHeld
                              have hHeld := hHeld2
                              clear hHeld2
                              try simp only [Act.put, List.setIfInBounds_toArray, List.set_cons_zero, List.set_cons_succ]
                              refine Plan.of [1, 2, 3, 5, 9] ?_
                              iterate 3 (refine Plan.w (v := ?_) rfl hHeld (by rfl) ?_ ?_; rotate_left; (focus (intro w hSw; (try dsimp only at hSw); go_simp; try with_reducible rfl)); try simp only [Act.put, List.setIfInBounds_toArray, List.set_cons_zero, List.set_cons_succ])
                              refine Plan.w (v := ?_) rfl hHeld (by rfl) ?_ ?_; rotate_left; (focus (intro w hSw; (try dsimp only at hSw); have hca := HC.out.below hSw.out; have s0 := (hca.2 0 _ rfl).1; have s1 := (hca.2 1 _ rfl).1; have s2 := (hca.2 2 _ rfl).1; have s3 := (hca.2 3 _ rfl).1; have s4 := (hca.2 4 _ rfl).1; go_simp; try with_reducible rfl)); try simp only [Act.put, List.setIfInBounds_toArray, List.set_cons_zero, List.set_cons_succ]
                              refine Plan.w (v := ?_) rfl hHeld (by rfl) ?_ ?_; rotate_left; (focus (intro w hSw; (try dsimp only at hSw); go_simp; try with_reducible rfl)); try simp only [Act.put, List.setIfInBounds_toArray, List.set_cons_zero, List.set_cons_succ]
                              refine Plan.fin ?_
                              refine wpAnyH_ready (rs := [4, 6]) (by kernel_rfl) (by simp) ?_
                              refine AllReadyH.cons (o := { dst := some 166, op := Go.Op.call { callee := Go.Callee.value (Go.Operand.func 13), args := #[Go.Operand.tmp 165], argTypes := #[22] }, type := 22, pos := "law.go:125", after := #[{ on := 3, ground := Go.Ground.data }, { on := 1, ground := Go.Ground.chain }, { on := 1, ground := Go.Ground.guard }], guard := some (1, true) }) rfl (fun K hK => ?_) (AllReadyH.cons (o := { dst := some 168, op := Go.Op.buildSlice 22 1 #[(0, Go.Operand.tmp 167)], type := 22, pos := "law.go:125", after := #[{ on := 5, ground := Go.Ground.data }, { on := 1, ground := Go.Ground.guard }], guard := some (1, true) }) rfl (fun K hK => ?_) AllReadyH.nil)
                              · go_simp
                                refine (copyRRs_any _ k _ SL _ ((rowR_own2M HSO.out).1.below hHeld.out) (rowR_own2M HSO.out).2 (by have := HNN.out; omega)).mono ?_; rintro e wB2 ⟨vcB, rfl, hown, hb⟩
                                have HOB := Lib.hid (own_monoM (base' := wr.heap.size) hown hHeld.out.size)
                                clear hown
                                refine hK.out _ _ (Lib.hid (hHeld.out.trans (hb.mono hHeld.out.size))) (fun hHeld2 => ?_)
                                clear hK K hHeld
                                have hHeld := hHeld2
                                clear hHeld2
                                try simp only [Act.put, List.setIfInBounds_toArray, List.set_cons_zero, List.set_cons_succ]
                                refine wpAnyH_ready (rs := [6]) (by kernel_rfl) (by simp) ?_
                                refine AllReadyH.cons (o := { dst := some 168, op := Go.Op.buildSlice 22 1 #[(0, Go.Operand.tmp 167)], type := 22, pos := "law.go:125", after := #[{ on := 5, ground := Go.Ground.data }, { on := 1, ground := Go.Ground.guard }], guard := some (1, true) }) rfl (fun K hK => ?_) AllReadyH.nil
                                go_simp
                                have hb := (Below.refl _ _ : Below wB2.heap.size wB2 wB2).alloc (Nat.le_refl _) (.cells #[.string rn, .int .i64 rt, .int .i64 rc, .int .i64 ru, .string rd] 30)
                                have HLIT := Lib.hid (show CellsAt (wB2.alloc (.cells #[.string rn, .int .i64 rt, .int .i64 rc, .int .i64 ru, .string rd] 30)) (some ⟨wB2.heap.size, 0, none⟩) (1 * 5) (encR ⟨⟨rn, rt, rc⟩, ru, rd⟩) from cells_lit wB2 #[.string rn, .int .i64 rt, .int .i64 rc, .int .i64 ru, .string rd] 30)
                                obtain ⟨wB3, hw⟩ : ∃ x, wB2.alloc (.cells #[.string rn, .int .i64 rt, .int .i64 rc, .int .i64 ru, .string rd] 30) = x := ⟨_, rfl⟩
                                obtain ⟨ge, hge⟩ : ∃ x, wB2.heap.size = x := ⟨_, rfl⟩
                                rw [hw] at hb HLIT ⊢
                                rw [hge] at HLIT ⊢
                                replace HOB := Lib.hid (own_below' HOB.out hb)
                                clear hw hge
                                refine hK.out _ _ (Lib.hid (hHeld.out.trans (hb.mono hHeld.out.size))) (fun hHeld2 => ?_)
                                clear hK K hHeld
                                have hHeld := hHeld2
                                clear hHeld2
                                try simp only [Act.put, List.setIfInBounds_toArray, List.set_cons_zero, List.set_cons_succ]
                                refine wpAnyH_ready (rs := [7]) (by kernel_rfl) (by simp) ?_
                                refine AllReadyH.cons (o := { dst := some 169, op := Go.Op.call { callee := Go.Callee.builtin Go.Builtin.append, args := #[Go.Operand.tmp 166, Go.Operand.tmp 168], argTypes := #[22, 22] }, type := 22, pos := "law.go:125", after := #[{ on := 4, ground := Go.Ground.data }, { on := 6, ground := Go.Ground.data }, { on := 4, ground := Go.Ground.chain }, { on := 1, ground := Go.Ground.guard }], guard := some (1, true) }) rfl (fun K hK => ?_) AllReadyH.nil
                                refine step_append_cellsG (by rfl) _ _ 22 30 (by rfl) i0 _ 5 56 Try.underlying22 HI.out HZ0.out HZ1.out HZ2.out rfl (by decide) wr.heap.size _ k _ (by rfl) HOB.out (some ⟨ge, 0, none⟩) 1 1 (encR ⟨⟨rn, rt, rc⟩, ru, rd⟩) (by rfl) (fun h => by cases h) HLIT.out (fun u hu => flatR_oneM (l := [⟨⟨rn, rt, rc⟩, ru, rd⟩]) (by simpa [flatR] using hu)) (by have := HNN.out; omega) (by decide) (hHeld.out.size) ?_
                                intro v5 wB4 hown hgrow
                                have hbg := hHeld.out.grown hgrow hHeld.out.size (fun k hk => (HOB.out.lt k hk).1)
                                have HOX := Lib.hid hown
                                clear hown hgrow HLIT
                                refine hK.out _ _ (Lib.hid hbg) (fun hHeld2 => ?_)
                                clear hK K hHeld
                                have hHeld := hHeld2
                                clear hHeld2
                                try simp only [Act.put, List.setIfInBounds_toArray, List.set_cons_zero, List.set_cons_succ]
                                refine wpAnyH_ready (rs := [8]) (by kernel_rfl) (by simp) ?_
                                refine AllReadyH.cons (o := { dst := some 170, op := Go.Op.call { callee := Go.Callee.value (Go.Operand.func 11), args := #[Go.Operand.tmp 164, Go.Operand.tmp 169], argTypes := #[9, 22] }, type := 25, pos := "law.go:125", after := #[{ on := 2, ground := Go.Ground.data }, { on := 7, ground := Go.Ground.data }, { on := 7, ground := Go.Ground.chain }, { on := 1, ground := Go.Ground.guard }], guard := some (1, true) }) rfl (fun K hK => ?_) AllReadyH.nil
                                obtain ⟨ta, tc, rfl, hrt, hnt⟩ := rowR_own (l := (SL ++ [⟨⟨rn, rt, rc⟩, ru, rd⟩])) (show wB4.ownsRow wr.heap.size 30 5 v5 (k + 1) (flatR (SL ++ [⟨⟨rn, rt, rc⟩, ru, rd⟩])) by rw [flatR_append]; simpa [flatR] using HOX.out)
                                clear HOX
                                go_simp
                                refine (check_any apex _ _ _ (SL ++ [⟨⟨rn, rt, rc⟩, ru, rd⟩]) _ hrt (by have := HNN.out; omega) HSM.out HA.out).mono ?_; rintro e wB5 ⟨rfl, hb⟩
                                rw [HCK.out]
                                clear hrt hnt
                                refine hK.out _ _ (Lib.hid (hHeld.out.trans (hb.mono hHeld.out.size))) (fun hHeld2 => ?_)
                                clear hK K hHeld
                                have hHeld := hHeld2
                                clear hHeld2
                                try simp only [Act.put, List.setIfInBounds_toArray, List.set_cons_zero, List.set_cons_succ]
                                refine Plan.of [10, 11, 12, 13, 14, 15, 16, 17, 18, 19, 20, 21, 22, 23] ?_
                                iterate 6 (refine Plan.w (v := ?_) rfl hHeld (by rfl) ?_ ?_; rotate_left; (focus (intro w hSw; (try dsimp only at hSw); go_simp; try with_reducible rfl)); try simp only [Act.put, List.setIfInBounds_toArray, List.set_cons_zero, List.set_cons_succ])
                                iterate 4 (refine Plan.n rfl hHeld (by rfl) ?_; try simp only [Act.put, List.setIfInBounds_toArray, List.set_cons_zero, List.set_cons_succ])
                                iterate 4 (refine Plan.w (v := ?_) rfl hHeld (by rfl) ?_ ?_; rotate_left; (focus (intro w hSw; (try dsimp only at hSw); go_simp; try with_reducible rfl)); try simp only [Act.put, List.setIfInBounds_toArray, List.set_cons_zero, List.set_cons_succ])
                                refine Plan.fin ?_
                                refine wpAnyH_ready (rs := [24]) (by kernel_rfl) (by simp) ?_
                                refine AllReadyH.cons (o := { dst := some 186, op := Go.Op.call { callee := Go.Callee.value (Go.Operand.func 17), args := #[Go.Operand.tmp 184, Go.Operand.tmp 185], argTypes := #[40, 40] }, type := 4, pos := "law.go:125", after := #[{ on := 22, ground := Go.Ground.data }, { on := 23, ground := Go.Ground.data }, { on := 21, ground := Go.Ground.chain }, { on := 21, ground := Go.Ground.guard }], guard := some (21, false) }) rfl (fun K hK => ?_) AllReadyH.nil
                                go_simp
                                have HX1 := Lib.hid (own_below' HD1.out hHeld.out)
                                have HX3 := Lib.hid (own_below' HD3.out hHeld.out)
                                refine (bytesM _ _ nd ne _ _ DL EL _ (RowB.of_own HX1.out).1 (RowB.of_own HX3.out).1 (RowB.of_own HX1.out).2 (RowB.of_own HX3.out).2).mono ?_; rintro e wB6 ⟨rfl, hw9⟩
                                rw [HBB.out]
                                have hb := (Below.refl wB5.heap.size wB5)
                                subst hw9
                                clear HX1 HX3
                                refine hK.out _ _ (Lib.hid (hHeld.out.trans (hb.mono hHeld.out.size))) (fun hHeld2 => ?_)
                                clear hK K hHeld
                                have hHeld := hHeld2
                                clear hHeld2
                                try simp only [Act.put, List.setIfInBounds_toArray, List.set_cons_zero, List.set_cons_succ]
                                refine Plan.of [25, 26, 27] ?_
                                iterate 3 (refine Plan.w (v := ?_) rfl hHeld (by rfl) ?_ ?_; rotate_left; (focus (intro w hSw; (try dsimp only at hSw); go_simp; try with_reducible rfl)); try simp only [Act.put, List.setIfInBounds_toArray, List.set_cons_zero, List.set_cons_succ])
                                refine Plan.fin ?_
                                refine wpAnyH_done (by kernel_rfl) ?_ _
                                have HBZ := Lib.hid (HB.out.trans (hHeld.out.mono HB.out.size))
                                clear hHeld
                                go_wp2
                                go_ret
                                exact ⟨rfl, HBZ.out⟩
                              · go_simp
                                have hb := (Below.refl _ _ : Below wB1.heap.size wB1 wB1).alloc (Nat.le_refl _) (.cells #[.string rn, .int .i64 rt, .int .i64 rc, .int .i64 ru, .string rd] 30)
                                have HLIT := Lib.hid (show CellsAt (wB1.alloc (.cells #[.string rn, .int .i64 rt, .int .i64 rc, .int .i64 ru, .string rd] 30)) (some ⟨wB1.heap.size, 0, none⟩) (1 * 5) (encR ⟨⟨rn, rt, rc⟩, ru, rd⟩) from cells_lit wB1 #[.string rn, .int .i64 rt, .int .i64 rc, .int .i64 ru, .string rd] 30)
                                obtain ⟨wB2, hw⟩ : ∃ x, wB1.alloc (.cells #[.string rn, .int .i64 rt, .int .i64 rc, .int .i64 ru, .string rd] 30) = x := ⟨_, rfl⟩
                                obtain ⟨ge, hge⟩ : ∃ x, wB1.heap.size = x := ⟨_, rfl⟩
                                rw [hw] at hb HLIT ⊢
                                rw [hge] at HLIT ⊢
                                clear hw hge
                                refine hK.out _ _ (Lib.hid (hHeld.out.trans (hb.mono hHeld.out.size))) (fun hHeld2 => ?_)
                                clear hK K hHeld
                                have hHeld := hHeld2
                                clear hHeld2
                                try simp only [Act.put, List.setIfInBounds_toArray, List.set_cons_zero, List.set_cons_succ]
                                refine wpAnyH_ready (rs := [4]) (by kernel_rfl) (by simp) ?_
                                refine AllReadyH.cons (o := { dst := some 166, op := Go.Op.call { callee := Go.Callee.value (Go.Operand.func 13), args := #[Go.Operand.tmp 165], argTypes := #[22] }, type := 22, pos := "law.go:125", after := #[{ on := 3, ground := Go.Ground.data }, { on := 1, ground := Go.Ground.chain }, { on := 1, ground := Go.Ground.guard }], guard := some (1, true) }) rfl (fun K hK => ?_) AllReadyH.nil
                                go_simp
                                refine (copyRRs_any _ k _ SL _ ((rowR_own2M HSO.out).1.below hHeld.out) (rowR_own2M HSO.out).2 (by have := HNN.out; omega)).mono ?_; rintro e wB3 ⟨vcB, rfl, hown, hb⟩
                                have HOB := Lib.hid (own_monoM (base' := wr.heap.size) hown hHeld.out.size)
                                clear hown
                                replace HLIT := Lib.hid (HLIT.out.below hb)
                                refine hK.out _ _ (Lib.hid (hHeld.out.trans (hb.mono hHeld.out.size))) (fun hHeld2 => ?_)
                                clear hK K hHeld
                                have hHeld := hHeld2
                                clear hHeld2
                                try simp only [Act.put, List.setIfInBounds_toArray, List.set_cons_zero, List.set_cons_succ]
                                refine wpAnyH_ready (rs := [7]) (by kernel_rfl) (by simp) ?_
                                refine AllReadyH.cons (o := { dst := some 169, op := Go.Op.call { callee := Go.Callee.builtin Go.Builtin.append, args := #[Go.Operand.tmp 166, Go.Operand.tmp 168], argTypes := #[22, 22] }, type := 22, pos := "law.go:125", after := #[{ on := 4, ground := Go.Ground.data }, { on := 6, ground := Go.Ground.data }, { on := 4, ground := Go.Ground.chain }, { on := 1, ground := Go.Ground.guard }], guard := some (1, true) }) rfl (fun K hK => ?_) AllReadyH.nil
                                refine step_append_cellsG (by rfl) _ _ 22 30 (by rfl) i0 _ 5 56 Try.underlying22 HI.out HZ0.out HZ1.out HZ2.out rfl (by decide) wr.heap.size _ k _ (by rfl) HOB.out (some ⟨ge, 0, none⟩) 1 1 (encR ⟨⟨rn, rt, rc⟩, ru, rd⟩) (by rfl) (fun h => by cases h) HLIT.out (fun u hu => flatR_oneM (l := [⟨⟨rn, rt, rc⟩, ru, rd⟩]) (by simpa [flatR] using hu)) (by have := HNN.out; omega) (by decide) (hHeld.out.size) ?_
                                intro v5 wB4 hown hgrow
                                have hbg := hHeld.out.grown hgrow hHeld.out.size (fun k hk => (HOB.out.lt k hk).1)
                                have HOX := Lib.hid hown
                                clear hown hgrow HLIT
                                refine hK.out _ _ (Lib.hid hbg) (fun hHeld2 => ?_)
                                clear hK K hHeld
                                have hHeld := hHeld2
                                clear hHeld2
                                try simp only [Act.put, List.setIfInBounds_toArray, List.set_cons_zero, List.set_cons_succ]
                                refine wpAnyH_ready (rs := [8]) (by kernel_rfl) (by simp) ?_
                                refine AllReadyH.cons (o := { dst := some 170, op := Go.Op.call { callee := Go.Callee.value (Go.Operand.func 11), args := #[Go.Operand.tmp 164, Go.Operand.tmp 169], argTypes := #[9, 22] }, type := 25, pos := "law.go:125", after := #[{ on := 2, ground := Go.Ground.data }, { on := 7, ground := Go.Ground.data }, { on := 7, ground := Go.Ground.chain }, { on := 1, ground := Go.Ground.guard }], guard := some (1, true) }) rfl (fun K hK => ?_) AllReadyH.nil
                                obtain ⟨ta, tc, rfl, hrt, hnt⟩ := rowR_own (l := (SL ++ [⟨⟨rn, rt, rc⟩, ru, rd⟩])) (show wB4.ownsRow wr.heap.size 30 5 v5 (k + 1) (flatR (SL ++ [⟨⟨rn, rt, rc⟩, ru, rd⟩])) by rw [flatR_append]; simpa [flatR] using HOX.out)
                                clear HOX
                                go_simp
                                refine (check_any apex _ _ _ (SL ++ [⟨⟨rn, rt, rc⟩, ru, rd⟩]) _ hrt (by have := HNN.out; omega) HSM.out HA.out).mono ?_; rintro e wB5 ⟨rfl, hb⟩
                                rw [HCK.out]
                                clear hrt hnt
                                refine hK.out _ _ (Lib.hid (hHeld.out.trans (hb.mono hHeld.out.size))) (fun hHeld2 => ?_)
                                clear hK K hHeld
                                have hHeld := hHeld2
                                clear hHeld2
                                try simp only [Act.put, List.setIfInBounds_toArray, List.set_cons_zero, List.set_cons_succ]
                                refine Plan.of [10, 11, 12, 13, 14, 15, 16, 17, 18, 19, 20, 21, 22, 23] ?_
                                iterate 6 (refine Plan.w (v := ?_) rfl hHeld (by rfl) ?_ ?_; rotate_left; (focus (intro w hSw; (try dsimp only at hSw); go_simp; try with_reducible rfl)); try simp only [Act.put, List.setIfInBounds_toArray, List.set_cons_zero, List.set_cons_succ])
                                iterate 4 (refine Plan.n rfl hHeld (by rfl) ?_; try simp only [Act.put, List.setIfInBounds_toArray, List.set_cons_zero, List.set_cons_succ])
                                iterate 4 (refine Plan.w (v := ?_) rfl hHeld (by rfl) ?_ ?_; rotate_left; (focus (intro w hSw; (try dsimp only at hSw); go_simp; try with_reducible rfl)); try simp only [Act.put, List.setIfInBounds_toArray, List.set_cons_zero, List.set_cons_succ])
                                refine Plan.fin ?_
                                refine wpAnyH_ready (rs := [24]) (by kernel_rfl) (by simp) ?_
                                refine AllReadyH.cons (o := { dst := some 186, op := Go.Op.call { callee := Go.Callee.value (Go.Operand.func 17), args := #[Go.Operand.tmp 184, Go.Operand.tmp 185], argTypes := #[40, 40] }, type := 4, pos := "law.go:125", after := #[{ on := 22, ground := Go.Ground.data }, { on := 23, ground := Go.Ground.data }, { on := 21, ground := Go.Ground.chain }, { on := 21, ground := Go.Ground.guard }], guard := some (21, false) }) rfl (fun K hK => ?_) AllReadyH.nil
                                go_simp
                                have HX1 := Lib.hid (own_below' HD1.out hHeld.out)
                                have HX3 := Lib.hid (own_below' HD3.out hHeld.out)
                                refine (bytesM _ _ nd ne _ _ DL EL _ (RowB.of_own HX1.out).1 (RowB.of_own HX3.out).1 (RowB.of_own HX1.out).2 (RowB.of_own HX3.out).2).mono ?_; rintro e wB6 ⟨rfl, hw9⟩
                                rw [HBB.out]
                                have hb := (Below.refl wB5.heap.size wB5)
                                subst hw9
                                clear HX1 HX3
                                refine hK.out _ _ (Lib.hid (hHeld.out.trans (hb.mono hHeld.out.size))) (fun hHeld2 => ?_)
                                clear hK K hHeld
                                have hHeld := hHeld2
                                clear hHeld2
                                try simp only [Act.put, List.setIfInBounds_toArray, List.set_cons_zero, List.set_cons_succ]
                                refine Plan.of [25, 26, 27] ?_
                                iterate 3 (refine Plan.w (v := ?_) rfl hHeld (by rfl) ?_ ?_; rotate_left; (focus (intro w hSw; (try dsimp only at hSw); go_simp; try with_reducible rfl)); try simp only [Act.put, List.setIfInBounds_toArray, List.set_cons_zero, List.set_cons_succ])
                                refine Plan.fin ?_
                                refine wpAnyH_done (by kernel_rfl) ?_ _
                                have HBZ := Lib.hid (HB.out.trans (hHeld.out.mono HB.out.size))
                                clear hHeld
                                go_wp2
                                go_ret
                                exact ⟨rfl, HBZ.out⟩
end Go.Proofs.Ytmhiglhgkgannaa
