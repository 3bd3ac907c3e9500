/- MdSerials: the walk. -/
import Derived.Test.YtmhiglhgkgannaaMgA
import Derived.Test.YtmhiglhgkgannaaMdX
import Derived.Test.YtmhiglhgkgannaaStB
namespace Go.Proofs.Ytmhiglhgkgannaa
open Go.RowKit

set_option maxRecDepth 100000 in
set_option maxHeartbeats 64000000 in
theorem walkSerials (apex : ByteArray) (a : Option Addr) (n c : Nat) (l : List R5) (hash : Int) (w : World) (h : RowR w a n l) (hna : a = none → n = 0 ∧ c = 0) (hlen : n ≤ 9223372036854775807) (hz : ∀ r ∈ l, SzR r) :
    Calls Try.prog 7 #[.string apex, .slice a n c, .int .i64 hash] w fun e w' => e = .returned (.bool true) ∧ Below w.heap.size w w' := by
  obtain ⟨i0, hi, hz0, hz1, hz2⟩ := info_parts infoRR
  have HI := Lib.hid hi
  have HZ0 := Lib.hid hz0
  have HZ1 := Lib.hid hz1
  have HZ2 := Lib.hid hz2
  clear hi hz0 hz1 hz2
  have HB := Lib.hid (Below.refl w.heap.size w)
  have HZ := Lib.hid hz
  have HR := Lib.hid h
  have HLN := Lib.hid h.1
  have HNA := Lib.hid hna
  clear hz h hna
  go_enter Try.func7, Try.ntmps7
  go_wp2_with fail
  refine (first9 _).mono ?_; rintro e w2 ⟨rfl, hb⟩
  replace HB := Lib.hid (HB.out.trans (hb.mono HB.out.size))
  replace HR := Lib.hid (HR.out.below hb)
  clear hb
  go_wp2_with fail
  refine (few9 a n c l _ HR.out hlen HZ.out).mono ?_; rintro e w3 ⟨hf, hb⟩
  replace HB := Lib.hid (HB.out.trans (hb.mono HB.out.size))
  replace HR := Lib.hid (HR.out.below hb)
  clear hb
  rcases hf with rfl | ⟨rfl, hn, hsx⟩
  · go_wp2_with fail
    refine (first9 _).mono ?_; rintro e w4 ⟨rfl, hb⟩
    replace HB := Lib.hid (HB.out.trans (hb.mono HB.out.size))
    replace HR := Lib.hid (HR.out.below hb)
    clear hb
    go_wp2
    go_ret
    exact ⟨rfl, HB.out⟩
  · have HN := Lib.hid hn
    have HSX := Lib.hid hsx
    clear hsx
    by_cases ga : 1000 < apex.size
    · have d1 := dT ga
      have d2 := dT (p := (1000 : Int) < (apex.size : Int)) (by omega)
      clear ga
      go_wp2_with fail
      refine (first9 _).mono ?_; rintro e w4 ⟨rfl, hb⟩
      replace HB := Lib.hid (HB.out.trans (hb.mono HB.out.size))
      replace HR := Lib.hid (HR.out.below hb)
      clear hb
      go_wp2
      go_ret
      exact ⟨rfl, HB.out⟩
    · have d1 := dF ga
      have d2 := dF (p := (1000 : Int) < (apex.size : Int)) (by omega)
      have HA := Lib.hid (show apex.size ≤ 1000000 by omega)
      clear ga
      by_cases g2 : hash < 2
      · have d3 := dT g2
        clear g2
        go_wp2_with fail
        refine (first9 _).mono ?_; rintro e w4 ⟨rfl, hb⟩
        replace HB := Lib.hid (HB.out.trans (hb.mono HB.out.size))
        replace HR := Lib.hid (HR.out.below hb)
        clear hb
        go_wp2
        go_ret
        exact ⟨rfl, HB.out⟩
      · have d3 := dF g2
        by_cases g3 : 255 < hash
        · have d4 := dT (p := (255 : Int) < hash) g3
          clear g2 g3
          go_wp2_with fail
          refine (first9 _).mono ?_; rintro e w4 ⟨rfl, hb⟩
          replace HB := Lib.hid (HB.out.trans (hb.mono HB.out.size))
          replace HR := Lib.hid (HR.out.below hb)
          clear hb
          go_wp2
          go_ret
          exact ⟨rfl, HB.out⟩
        · have d4 := dF (p := (255 : Int) < hash) g3
          have HHH := Lib.hid (show 2 ≤ hash ∧ hash ≤ 255 by omega)
          clear g2 g3
          obtain ⟨E, hE⟩ : ∃ x, sgnE apex l = x := ⟨_, rfl⟩
          obtain ⟨SL, hSL⟩ : ∃ x, sgnL apex l = x := ⟨_, rfl⟩
          obtain ⟨ns, hns⟩ : ∃ x, SL.length = x := ⟨_, rfl⟩
          have HE := Lib.hid hE
          have HSL := Lib.hid hSL
          have HNS := Lib.hid hns
          clear hE hSL hns hn
          go_wp2_with fail
          refine (sign_any apex _ _ _ l _ HR.out HNA.out (by have := HN.out; omega) HSX.out HA.out).mono ?_; rintro e w4 ⟨⟨v1, u1, rfl, ho⟩, hb⟩
          replace HB := Lib.hid (HB.out.trans (hb.mono HB.out.size))
          replace HR := Lib.hid (HR.out.below hb)
          clear hb
          rw [HE.out, HSL.out, HNS.out]
          rw [HSL.out, HNS.out] at ho
          have HSO := Lib.hid ho
          clear ho
          clear d1 d2 d3 d4
          by_cases hE0 : E = 0
          rotate_left
          · have e1 := nT hE0
            clear hE0
            go_wp2_with fail
            refine (first9 _).mono ?_; rintro e w5 ⟨rfl, hb⟩
            replace HB := Lib.hid (HB.out.trans (hb.mono HB.out.size))
            replace HR := Lib.hid (HR.out.below hb)
            replace HSO := Lib.hid (own_below' HSO.out hb)
            clear hb
            go_wp2
            go_ret
            exact ⟨rfl, HB.out⟩
          · subst hE0
            obtain ⟨⟨⟨xn, xt, xc⟩, xu, xd⟩, hzn, -, hsl⟩ := ZnM.of HE.out
            rw [HSL.out] at hsl
            have HZN := Lib.hid hzn
            obtain ⟨TT, hTT⟩ : ∃ x, keepRM (isMd apex) l = x := ⟨_, rfl⟩
            have HTT := Lib.hid hTT
            obtain ⟨DG, hDG⟩ : ∃ x, bs (shaL (dgL apex l)) = x := ⟨_, rfl⟩
            have HDG := Lib.hid hDG
            obtain ⟨i2, hi2⟩ : ∃ x, getN (soaT xd) 0 4 = x := ⟨_, rfl⟩
            have HI2 := Lib.hid hi2
            have HFI := Lib.hid (show fits i2 4 = true by rw [← hi2]; exact hzn.ser)
            have HDS := Lib.hid (show DG.size = 48 by rw [← hDG]; exact dgB_size apex l)
            obtain ⟨DT, hDT⟩ : ∃ x, mdData i2 1 1 DG = x := ⟨_, rfl⟩
            have HDT := Lib.hid hDT
            have hrec : mdRec apex l ⟨⟨xn, xt, xc⟩, xu, xd⟩ = ⟨⟨apex, 63, xc⟩, xu, DT⟩ := by show (⟨⟨apex, 63, xc⟩, xu, mdData (getN (soaT xd) 0 4) 1 1 (bs (shaL (dgL apex l)))⟩ : R5) = _; rw [hi2, hDG, hDT]
            have HREC := Lib.hid hrec
            rw [hTT, hrec] at hsl
            have HS2 := Lib.hid hsl
            obtain ⟨mt, hmt⟩ : ∃ x, TT.length = x := ⟨_, rfl⟩
            have HMT := Lib.hid hmt
            have HMS := Lib.hid (show ns = mt + 1 by rw [← HNS.out, hsl, List.length_append, hmt]; rfl)
            have HMN := Lib.hid (show mt ≤ n by rw [← hmt, ← hTT, keepRM, ← HLN.out]; exact List.length_filter_le _ _)
            have HXT := Lib.hid (show (⟨⟨xn, xt, xc⟩, xu, xd⟩ : R5) ∈ TT from by
              have h1 := hzn.mem
              rw [← hTT]
              refine keepM_mem.2 ⟨h1.1, ?_⟩
              rw [Bool.eq_false_iff]; intro h9
              have h3 := (isMd_iff.1 h9).2
              have h4 : xt = 6 := h1.2.2.2.1
              have h5 : xt = 63 := h3
              omega)
            have HM1 := Lib.hid (show 1 ≤ mt by rw [← hmt]; exact List.length_pos_iff.2 (List.ne_nil_of_mem HXT.out))
            have HSS := Lib.hid (show ∀ r ∈ SL, SmX r from fun r hr => by
              rw [hsl] at hr
              rcases List.mem_append.1 hr with h | h
              · rw [← hTT] at h; exact HSX.out r (keepM_mem.1 h).1
              · rw [List.mem_singleton.1 h]
                refine ⟨HA.out, ?_⟩
                show DT.size ≤ 1000000
                rw [← hDT, (md_ok HFI.out HDS.out).1]; decide)
            have HNN := Lib.hid (show ns ≤ 61 by have := HMS.out; have := HMN.out; have := HN.out; omega)
            have HDZ := Lib.hid (show DT.size = 54 by rw [← hDT]; exact (md_ok HFI.out HDS.out).1)
            have HMP := Lib.hid (show getN DT 0 4 = i2 ∧ byteAt DT 4 = 1 ∧ byteAt DT 5 = 1 ∧ DT.extract 6 DT.size = DG by rw [← hDT]; exact md_parts HFI.out HDS.out)
            have HRM2 := Lib.hid (show isMd apex ⟨⟨apex, 63, xc⟩, xu, DT⟩ = true ∧ isMd1 apex ⟨⟨apex, 63, xc⟩, xu, DT⟩ = true ∧ mayM ⟨⟨apex, 63, xc⟩, xu, DT⟩ = true by rw [← hDT]; exact hzn.mdR HFI.out HDS.out)
            clear hzn hsl hTT hDG hi2 hDT hrec hmt
            have d1 := dF (p := (ns : Int) < (2 : Int)) (by have := HMS.out; have := HM1.out; omega)
            have d2 := dF (p := ns < 2) (by have := HMS.out; have := HM1.out; omega)
            obtain ⟨b, of, rfl, x0, x1, x2, x3, x4⟩ := own_atS5 HSO.out mt apex 63 xc xu DT (by rw [HS2.out, List.getElem?_append_right (by rw [HMT.out]; exact Nat.le_refl _), HMT.out, Nat.sub_self]; rfl) (by have := HMS.out; omega)
            have hw1 : IntKind.i64.wrap ((ns : Int) - 1) = (mt : Int) := by have := HMS.out; have := HNN.out; rw [IntKind.wrap_i64]; omega
            have i1 : (0 : Int) ≤ (mt : Int) := by omega
            have i2x : (mt : Int) < (ns : Int) := by have := HMS.out; omega
            have hba := (Below.refl _ _ : Below w4.heap.size w4 w4).alloc (Nat.le_refl _) (.cells #[.string apex, .int .i64 63, .int .i64 xc, .int .i64 xu, .string DT] 30)
            have HL := Lib.hid (CN.new w4 #[.string apex, .int .i64 63, .int .i64 xc, .int .i64 xu, .string DT] 30)
            replace HB := Lib.hid (HB.out.trans (hba.mono HB.out.size))
            replace HR := Lib.hid (HR.out.below hba)
            replace HSO := Lib.hid (own_below' HSO.out hba)
            obtain ⟨w5, hw⟩ : ∃ x, w4.alloc (.cells #[.string apex, .int .i64 63, .int .i64 xc, .int .i64 xu, .string DT] 30) = x := ⟨_, rfl⟩
            obtain ⟨q5, hq⟩ : ∃ x, w4.heap.size = x := ⟨_, rfl⟩
            rw [hw, hq] at HL
            rw [hw] at HB HR HSO
            have HW := Lib.hid hw
            have HQ_ := Lib.hid hq
            clear hba hw hq
            go_upto_region 9 with (fail)
            rw [HW.out, HQ_.out]
            clear HW HQ_
            clear x0 x1 x2 x3 x4 hw1 i1 i2x d1 d2
            obtain ⟨x0, x1, x2, x3, x4, _⟩ := HL.out.u5
            go_wp2_with fail
            refine (getMd_any DT _ (by rw [HDZ.out]; decide)).mono ?_; rintro e w6 ⟨rfl, hb⟩
            clear x0 x1 x2 x3 x4
            replace HB := Lib.hid (HB.out.trans (hb.mono HB.out.size))
            replace HR := Lib.hid (HR.out.below hb)
            replace HSO := Lib.hid (own_below' HSO.out hb)
            replace HL := Lib.hid (HL.out.below hb)
            clear hb
            rw [show getMdV DT = .tuple #[.agg #[.int .i64 i2, .int .i64 1, .int .i64 1, .string DG], .bool true] by rw [← HDT.out]; exact md_put i2 1 1 DG HFI.out (by decide) (md_ok HFI.out HDS.out).2.1]
            have hba := (Below.refl _ _ : Below w6.heap.size w6 w6).alloc (Nat.le_refl _) (.cells #[.int .i64 i2, .int .i64 1, .int .i64 1, .string DG] 32)
            have HMD := Lib.hid (CN.new w6 #[.int .i64 i2, .int .i64 1, .int .i64 1, .string DG] 32)
            replace HB := Lib.hid (HB.out.trans (hba.mono HB.out.size))
            replace HR := Lib.hid (HR.out.below hba)
            replace HSO := Lib.hid (own_below' HSO.out hba)
            replace HL := Lib.hid (HL.out.below hba)
            obtain ⟨w7, hw⟩ : ∃ x, w6.alloc (.cells #[.int .i64 i2, .int .i64 1, .int .i64 1, .string DG] 32) = x := ⟨_, rfl⟩
            obtain ⟨q7, hq⟩ : ∃ x, w6.heap.size = x := ⟨_, rfl⟩
            rw [hw, hq] at HMD
            rw [hw] at HB HR HSO HL
            have HW := Lib.hid hw
            have HQ_ := Lib.hid hq
            clear hba hw hq
            go_upto_region 10 with (fail)
            rw [HW.out, HQ_.out]
            clear HW HQ_
            obtain ⟨x0, x1, x2, x3, x4, _⟩ := HL.out.u5
            obtain ⟨m0, m1, m2, m3, _⟩ := cn4 HMD.out
            have hdg := HDS.out
            go_wp2_with fail
            clear hdg
            clear x0 x1 x2 x3 x4 m0 m1 m2 m3
            go_loopw [13, 12] (fun i v wr => ∃ (k : Nat) (fb : Bool), k ≤ ns ∧ i = .int .i64 k ∧ v = .bool fb ∧ Hid (fb = true ↔ (⟨⟨xn, xt, xc⟩, xu, xd⟩ : R5) ∈ SL.take k) ∧ Hid (Below w7.heap.size w7 wr)) (fun i _ _ => ns - (intOf i).toNat)
            case atStart => exact ⟨0, false, Nat.zero_le _, rfl, rfl, Lib.hid (by simp), Lib.hid (Below.refl _ _)⟩
            case round =>
              obtain ⟨k, fb, hk, rfl, rfl, HFB, HW⟩ := hrel
              by_cases hlt : k < ns
              · obtain ⟨b1, of1, r, hbe, hbl, hr, x0, x1, x2, x3, x4⟩ := ((rowR_own2M HSO.out).1.below HW.out).at k hlt
                injection hbe with hbe
                injection hbe with hb1 hb2 _
                subst hb1 hb2
                obtain ⟨⟨yn, yt, yc⟩, yu, yd⟩ := r
                replace x0 : wr.cell? ⟨b, of + k * 5, none⟩ = some (.string yn) := x0
                replace x1 : wr.cell? ⟨b, of + k * 5 + 1, none⟩ = some (.int .i64 yt) := x1
                replace x2 : wr.cell? ⟨b, of + k * 5 + 2, none⟩ = some (.int .i64 yc) := x2
                replace x3 : wr.cell? ⟨b, of + k * 5 + 3, none⟩ = some (.int .i64 yu) := x3
                replace x4 : wr.cell? ⟨b, of + k * 5 + 4, none⟩ = some (.string yd) := x4
                have HLT := Lib.hid hlt
                have HRM := Lib.hid (List.mem_of_getElem? hr)
                have HKR := Lib.hid hr
                have HNX := Lib.hid (show ∀ z, z ∈ SL.take (k + 1) ↔ z ∈ SL.take k ∨ z = ⟨⟨yn, yt, yc⟩, yu, yd⟩ from fun z => by rw [List.take_add_one, hr]; simp)
                have hk61 : (k : Int) < 61 := by have := HNN.out; omega
                clear hr hbl
                have HSOA := Lib.hid (show isSoa apex ⟨⟨yn, yt, yc⟩, yu, yd⟩ = true → (⟨⟨yn, yt, yc⟩, yu, yd⟩ : R5) = ⟨⟨xn, xt, xc⟩, xu, xd⟩ from fun h9 => by
                  have hz := (HZN.out.with HRM2.out.1 HRM2.out.2.2 (m := SL) (fun r => by rw [HS2.out, ← HTT.out, List.mem_append, keepM_mem, List.mem_singleton])).1
                  exact hz.mem.2.2.2.2 _ HRM.out h9)
                have HXA := Lib.hid (show xn = apex ∧ xt = 6 from ⟨HZN.out.mem.2.2.1, HZN.out.mem.2.2.2.1⟩)
                by_cases ht : yt = 6
                rotate_left
                · have e1 := eF ht
                  have HNEQ := Lib.hid (show ¬ (⟨⟨xn, xt, xc⟩, xu, xd⟩ : R5) = ⟨⟨yn, yt, yc⟩, yu, yd⟩ from fun e => by
                    injection e with e1 _ _
                    injection e1 with _ e2 _
                    exact ht (e2.symm.trans HXA.out.2))
                  have HFB2 := Lib.hid (show fb = true ↔ (⟨⟨xn, xt, xc⟩, xu, xd⟩ : R5) ∈ SL.take (k + 1) by
                    rw [HFB.out, HNX.out]
                    constructor
                    · intro h; exact Or.inl h
                    · rintro (h | h)
                      · exact h
                      · exact absurd h HNEQ.out)
                  clear HFB HSOA HXA ht
                  go_wp2
                  go_roundw
                  case rel => exact ⟨k + 1, fb, by have := HLT.out; omega, by have := HLT.out; go_num, rfl, HFB2, HW⟩
                  case measure => have := HLT.out; simp [intOf]; omega
                · have e1 := eT ht
                  obtain ⟨v, hv⟩ : ∃ v, (yn.toList == apex.toList) = v := ⟨_, rfl⟩
                  cases v
                  · have HNEQ := Lib.hid (show ¬ (⟨⟨xn, xt, xc⟩, xu, xd⟩ : R5) = ⟨⟨yn, yt, yc⟩, yu, yd⟩ from fun e => by
                      injection e with e1 _ _
                      injection e1 with e2 _ _
                      rw [← e2, HXA.out.1] at hv; simp at hv)
                    have HFB2 := Lib.hid (show fb = true ↔ (⟨⟨xn, xt, xc⟩, xu, xd⟩ : R5) ∈ SL.take (k + 1) by
                      rw [HFB.out, HNX.out]
                      constructor
                      · intro h; exact Or.inl h
                      · rintro (h | h)
                        · exact h
                        · exact absurd h HNEQ.out)
                    clear HFB HSOA HXA ht
                    go_wp2
                    go_roundw
                    case rel => exact ⟨k + 1, fb, by have := HLT.out; omega, by have := HLT.out; go_num, rfl, HFB2, HW⟩
                    case measure => have := HLT.out; simp [intOf]; omega
                  · have hrx := HSOA.out (isSoa_iff.2 ⟨str_eqM (beq_iff_eq.1 hv), ht⟩)
                    injection hrx with h1 h2 h3
                    injection h1 with h4 h5 h6
                    subst h2 h3 h4 h5 h6
                    have HXD := Lib.hid ((HSS.out _ HRM.out).2)
                    obtain ⟨s0, s1, i2q, i3, i4, i5, i6, hgs, hser⟩ := soaV_ex yd
                    have hq2 : i2 = i2q := by rw [hser HZN.out.ok]; exact HI2.out.symm
                    subst hq2
                    rw [HZN.out.ok] at hgs
                    have HGS := Lib.hid hgs
                    clear hgs hser ht HSOA HXA
                    go_wp2_with fail
                    refine (getSoa_any yd _ HXD.out).mono ?_; rintro e w20 ⟨rfl, hb⟩
                    rw [HGS.out]
                    have hba := (Below.refl w20.heap.size w20).alloc (Nat.le_refl _) (.cells #[.string s0, .string s1, .int .i64 i2, .int .i64 i3, .int .i64 i4, .int .i64 i5, .int .i64 i6] 50)
                    have HC7 := Lib.hid (CN.new w20 #[.string s0, .string s1, .int .i64 i2, .int .i64 i3, .int .i64 i4, .int .i64 i5, .int .i64 i6] 50)
                    have HW2 := Lib.hid ((HW.out.trans (hb.mono HW.out.size)).trans (hba.mono (Nat.le_trans HW.out.size hb.size)))
                    clear hb hba x0 x1 x2 x3 x4 hv e1
                    go_upto_region 18 with (fail)
                    obtain ⟨w21, hw21⟩ : ∃ x, w20.alloc (.cells #[.string s0, .string s1, .int .i64 i2, .int .i64 i3, .int .i64 i4, .int .i64 i5, .int .i64 i6] 50) = x := ⟨_, rfl⟩
                    obtain ⟨q21, hq21⟩ : ∃ x, w20.heap.size = x := ⟨_, rfl⟩
                    rw [hw21] at HC7 HW2 ⊢
                    rw [hq21] at HC7 ⊢
                    clear hw21 hq21
                    have i1 : (0 : Int) ≤ (k : Int) := by omega
                    have i2x : (k : Int) < (ns : Int) := by have := HLT.out; omega
                    have HRK := Lib.hid (((rowR_own2M HSO.out).1.below HW2.out).2)
                    have HKX := Lib.hid (show SL[k]? = some ⟨⟨yn, yt, yc⟩, yu, yd⟩ from HKR.out)
                    refine wp_region_held_drew (S := (fun wx => Hid (CN wx q21 [.string s0, .string s1, .int .i64 i2, .int .i64 i3, .int .i64 i4, .int .i64 i5, .int .i64 i6] ∧ Below w7.heap.size w7 wx))) (by kernel_rfl) (Lib.hid ⟨HC7.out.below (Below.refl _ _).drew, HW2.out.trans ((Below.refl _ _).drew.mono HW2.out.size)⟩) (fun hHeld => ?_)
                    refine Plan.of [0, 1, 2, 3, 4, 5, 6, 7, 8, 9, 10, 11, 12, 13, 14, 15, 16, 17, 18, 19, 20, 21, 22, 23, 24, 25, 26, 27, 28] ?_
                    iterate 3 (refine Plan.w (v := ?_) rfl hHeld (by rfl) ?_ ?_; rotate_left; (focus (intro w hSw; (try dsimp only at hSw); go_simp; try with_reducible rfl)); try simp only [Act.put, List.setIfInBounds_toArray, List.set_cons_zero, List.set_cons_succ])
                    refine Plan.w (v := ?_) rfl hHeld (by rfl) ?_ ?_; rotate_left; (focus (intro w hSw; (try dsimp only at hSw); obtain ⟨h7, hS⟩ := hSw.out; have z2 := (h7.2 2 _ rfl).1; go_simp; try with_reducible rfl)); try simp only [Act.put, List.setIfInBounds_toArray, List.set_cons_zero, List.set_cons_succ]
                    refine Plan.w (v := ?_) rfl hHeld (by rfl) ?_ ?_; rotate_left; (focus (intro w hSw; (try dsimp only at hSw); go_simp; try with_reducible rfl)); try simp only [Act.put, List.setIfInBounds_toArray, List.set_cons_zero, List.set_cons_succ]
                    refine Plan.w (v := ?_) rfl hHeld (by rfl) ?_ ?_; rotate_left; (focus (intro w hSw; (try dsimp only at hSw); obtain ⟨h7, hS⟩ := hSw.out; have m0 := ((HMD.out.below hS).2 0 _ rfl).1; go_simp; try with_reducible rfl)); try simp only [Act.put, List.setIfInBounds_toArray, List.set_cons_zero, List.set_cons_succ]
                    iterate 7 (refine Plan.w (v := ?_) rfl hHeld (by rfl) ?_ ?_; rotate_left; (focus (intro w hSw; (try dsimp only at hSw); go_simp; try with_reducible rfl)); try simp only [Act.put, List.setIfInBounds_toArray, List.set_cons_zero, List.set_cons_succ])
                    refine Plan.w (v := ?_) rfl hHeld (by rfl) ?_ ?_; rotate_left; (focus (intro w hSw; (try dsimp only at hSw); obtain ⟨h7, hS⟩ := hSw.out; obtain ⟨t0, t1, t2, t3, t4⟩ := own_atA5 (own_below' HSO.out hS) k yn yt yc yu yd HKX.out HLT.out; go_simp; try with_reducible rfl)); try simp only [Act.put, List.setIfInBounds_toArray, List.set_cons_zero, List.set_cons_succ]
                    refine Plan.w (v := ?_) rfl hHeld (by rfl) ?_ ?_; rotate_left; (focus (intro w hSw; (try dsimp only at hSw); go_simp; try with_reducible rfl)); try simp only [Act.put, List.setIfInBounds_toArray, List.set_cons_zero, List.set_cons_succ]
                    refine Plan.w (v := ?_) rfl hHeld (by rfl) ?_ ?_; rotate_left; (focus (intro w hSw; (try dsimp only at hSw); obtain ⟨h7, hS⟩ := hSw.out; have l2 := ((HL.out.below hS).2 2 _ rfl).1; go_simp; try with_reducible rfl)); try simp only [Act.put, List.setIfInBounds_toArray, List.set_cons_zero, List.set_cons_succ]
                    iterate 7 (refine Plan.w (v := ?_) rfl hHeld (by rfl) ?_ ?_; rotate_left; (focus (intro w hSw; (try dsimp only at hSw); go_simp; try with_reducible rfl)); try simp only [Act.put, List.setIfInBounds_toArray, List.set_cons_zero, List.set_cons_succ])
                    refine Plan.w (v := ?_) rfl hHeld (by rfl) ?_ ?_; rotate_left; (focus (intro w hSw; (try dsimp only at hSw); obtain ⟨h7, hS⟩ := hSw.out; obtain ⟨t0, t1, t2, t3, t4⟩ := own_atA5 (own_below' HSO.out hS) k yn yt yc yu yd HKX.out HLT.out; go_simp; try with_reducible rfl)); try simp only [Act.put, List.setIfInBounds_toArray, List.set_cons_zero, List.set_cons_succ]
                    refine Plan.w (v := ?_) rfl hHeld (by rfl) ?_ ?_; rotate_left; (focus (intro w hSw; (try dsimp only at hSw); go_simp; try with_reducible rfl)); try simp only [Act.put, List.setIfInBounds_toArray, List.set_cons_zero, List.set_cons_succ]
                    refine Plan.w (v := ?_) rfl hHeld (by rfl) ?_ ?_; rotate_left; (focus (intro w hSw; (try dsimp only at hSw); obtain ⟨h7, hS⟩ := hSw.out; have l3 := ((HL.out.below hS).2 3 _ rfl).1; go_simp; try with_reducible rfl)); try simp only [Act.put, List.setIfInBounds_toArray, List.set_cons_zero, List.set_cons_succ]
                    iterate 3 (refine Plan.w (v := ?_) rfl hHeld (by rfl) ?_ ?_; rotate_left; (focus (intro w hSw; (try dsimp only at hSw); go_simp; try with_reducible rfl)); try simp only [Act.put, List.setIfInBounds_toArray, List.set_cons_zero, List.set_cons_succ])
                    refine Plan.fin ?_
                    refine wpAnyH_done (by kernel_rfl) ?_ _
                    have hSw := hHeld.out
                    clear hHeld
                    have HWZ := Lib.hid hSw.2
                    clear hSw
                    have HFB2 := Lib.hid (show true = true ↔ (⟨⟨yn, yt, yc⟩, yu, yd⟩ : R5) ∈ SL.take (k + 1) from ⟨fun _ => (HNX.out _).2 (Or.inr rfl), fun _ => rfl⟩)
                    clear HFB HRK HKX HC7 HW2
                    go_wp2
                    go_roundw
                    case rel => exact ⟨k + 1, true, by have := HLT.out; omega, by have := HLT.out; go_num, rfl, HFB2, HWZ⟩
                    case measure => have := HLT.out; simp [intOf]; omega
              · obtain rfl : k = ns := by omega
                have hfb : fb = true := HFB.out.2 (by rw [List.take_of_length_le (by rw [HNS.out]; exact Nat.le_refl _), HS2.out]; exact List.mem_append.2 (Or.inl HXT.out))
                subst hfb
                clear hlt hk HFB
                have hb := HW.out
                replace HB := Lib.hid (HB.out.trans (hb.mono HB.out.size))
                replace HR := Lib.hid (HR.out.below hb)
                replace HSO := Lib.hid (own_below' HSO.out hb)
                replace HL := Lib.hid (HL.out.below hb)
                replace HMD := Lib.hid (HMD.out.below hb)
                clear hb HW
                clear HR
                obtain ⟨x0, x1, x2, x3, x4, _⟩ := HL.out.u5
                go_upto_region 19 with (fail)
                clear x0 x1 x2 x3 x4
                refine wp_region_held_drew (S := (fun wx => Hid (Below wr.heap.size wr wx))) (by kernel_rfl) (Lib.hid (Below.refl _ _).drew) (fun hHeld => ?_)
                obtain ⟨wz0, hwd⟩ : ∃ z, wr.drew = z := ⟨_, rfl⟩
                rw [hwd] at hHeld ⊢
                clear hwd
                refine Plan.of [0, 1] ?_
                iterate 2 (refine Plan.w (v := ?_) rfl hHeld (by rfl) ?_ ?_; rotate_left; (focus (intro w hSw; (try dsimp only at hSw); have hl := HL.out.below hSw.out; have s0 := (hl.2 0 _ rfl).1; have s1 := (hl.2 1 _ rfl).1; have s2 := (hl.2 2 _ rfl).1; have s3 := (hl.2 3 _ rfl).1; have s4 := (hl.2 4 _ rfl).1; go_simp; try with_reducible rfl)); try simp only [Act.put, List.setIfInBounds_toArray, List.set_cons_zero, List.set_cons_succ])
                refine Plan.fin ?_
                refine wpAnyH_ready (rs := [2, 3]) (by kernel_rfl) (by simp) ?_
                refine AllReadyH.cons (o := { dst := some 16, op := Go.Op.alloc 30, type := 0, pos := "more.go:34", after := #[], guard := none }) rfl (fun K hK => ?_) (AllReadyH.cons (o := { dst := some 17, op := Go.Op.alloc 30, type := 0, pos := "more.go:34", after := #[], guard := none }) rfl (fun K hK => ?_) AllReadyH.nil)
                · go_simp
                  have hb := (Below.refl _ _ : Below wz0.heap.size wz0 wz0).alloc (Nat.le_refl _) (.cells #[.string ⟨#[]⟩, .int .i64 0, .int .i64 0, .int .i64 0, .string ⟨#[]⟩] 30)
                  have HZ16 := Lib.hid (CN.new wz0 #[.string ⟨#[]⟩, .int .i64 0, .int .i64 0, .int .i64 0, .string ⟨#[]⟩] 30)
                  obtain ⟨wz1, hw⟩ : ∃ x, wz0.alloc (.cells #[.string ⟨#[]⟩, .int .i64 0, .int .i64 0, .int .i64 0, .string ⟨#[]⟩] 30) = x := ⟨_, rfl⟩
                  obtain ⟨q16, hq⟩ : ∃ x, wz0.heap.size = x := ⟨_, rfl⟩
                  rw [hw] at hb HZ16 ⊢
                  rw [hq] at HZ16 ⊢
                  have HQX := Lib.hid (show q16 < wz1.heap.size from HZ16.out.1)
                  have HGq16 := Lib.hid (show wr.heap.size ≤ q16 from by rw [← hq]; exact hHeld.out.size)
                  clear hw hq
                  refine hK.out _ _ (Lib.hid (hHeld.out.trans (hb.mono hHeld.out.size))) (fun hHeld2 => ?_)
                  clear hK K hHeld
                  have hHeld := hHeld2
                  clear hHeld2
                  try simp only [Act.put, List.setIfInBounds_toArray, List.set_cons_zero, List.set_cons_succ]
                  refine wpAnyH_ready (rs := [3]) (by kernel_rfl) (by simp) ?_
                  refine AllReadyH.cons (o := { dst := some 17, op := Go.Op.alloc 30, type := 0, pos := "more.go:34", after := #[], guard := none }) rfl (fun K hK => ?_) AllReadyH.nil
                  go_simp
                  have hb := (Below.refl _ _ : Below wz1.heap.size wz1 wz1).alloc (Nat.le_refl _) (.cells #[.string ⟨#[]⟩, .int .i64 0, .int .i64 0, .int .i64 0, .string ⟨#[]⟩] 30)
                  have HZ17 := Lib.hid (CN.new wz1 #[.string ⟨#[]⟩, .int .i64 0, .int .i64 0, .int .i64 0, .string ⟨#[]⟩] 30)
                  replace HZ16 := Lib.hid (HZ16.out.below hb)
                  have HQ67 := Lib.hid (show q16 ≠ wz1.heap.size from Nat.ne_of_lt HQX.out)
                  obtain ⟨wz2, hw⟩ : ∃ x, wz1.alloc (.cells #[.string ⟨#[]⟩, .int .i64 0, .int .i64 0, .int .i64 0, .string ⟨#[]⟩] 30) = x := ⟨_, rfl⟩
                  obtain ⟨q17, hq⟩ : ∃ x, wz1.heap.size = x := ⟨_, rfl⟩
                  rw [hw] at hb HZ17 HZ16 ⊢
                  rw [hq] at HZ17 HQ67 ⊢
                  have HGq17 := Lib.hid (show wr.heap.size ≤ q17 from by rw [← hq]; exact hHeld.out.size)
                  clear hw hq
                  refine hK.out _ _ (Lib.hid (hHeld.out.trans (hb.mono hHeld.out.size))) (fun hHeld2 => ?_)
                  clear hK K hHeld
                  have hHeld := hHeld2
                  clear hHeld2
                  try simp only [Act.put, List.setIfInBounds_toArray, List.set_cons_zero, List.set_cons_succ]
                  refine wpAnyH_ready (rs := [4]) (by kernel_rfl) (by simp) ?_
                  refine AllReadyH.cons (o := { dst := none, op := Go.Op.store 30 (Go.Operand.tmp 16) (Go.Operand.tmp 161), type := 0, pos := "more.go:34", after := #[{ on := 2, ground := Go.Ground.data }, { on := 0, ground := Go.Ground.data }, { on := 0, ground := Go.Ground.phase }, { on := 1, ground := Go.Ground.textOnly Go.Departure.lateStores }, { on := 2, ground := Go.Ground.phase }, { on := 3, ground := Go.Ground.phase }], guard := none }) rfl (fun K hK => ?_) AllReadyH.nil
                  refine step_store_box rfl 30 (.tmp 16) (.tmp 161) rfl [.string apex, .int .i64 63, .int .i64 xc, .int .i64 xu, .string DT] rfl rfl HZ16.out rfl (by kernel_rfl) (by rfl) ?_
                  intro wz3 hcn hgz
                  have hbg := hHeld.out.grown hgz hHeld.out.size (fun k hk => by injection hk with hk; rw [← hk]; exact HGq16.out)
                  have HZ17b := Lib.hid (HZ17.out.grown hgz (fun e => (fun e => HQ67.out e.symm) (Option.some.inj e)))
                  have HO16 := Lib.hid hcn
                  clear hcn hgz HZ16 HZ17
                  simp only [Act.put]
                  refine hK.out _ _ (Lib.hid hbg) (fun hHeld2 => ?_)
                  clear hK K hHeld
                  have hHeld := hHeld2
                  clear hHeld2
                  try simp only [Act.put, List.setIfInBounds_toArray, List.set_cons_zero, List.set_cons_succ]
                  refine wpAnyH_ready (rs := [5]) (by kernel_rfl) (by simp) ?_
                  refine AllReadyH.cons (o := { dst := none, op := Go.Op.store 30 (Go.Operand.tmp 17) (Go.Operand.tmp 162), type := 0, pos := "more.go:34", after := #[{ on := 3, ground := Go.Ground.data }, { on := 1, ground := Go.Ground.data }, { on := 4, ground := Go.Ground.chain }, { on := 0, ground := Go.Ground.phase }, { on := 1, ground := Go.Ground.phase }, { on := 2, ground := Go.Ground.phase }, { on := 3, ground := Go.Ground.phase }, { on := 4, ground := Go.Ground.phase }], guard := none }) rfl (fun K hK => ?_) AllReadyH.nil
                  refine step_store_box rfl 30 (.tmp 17) (.tmp 162) rfl [.string apex, .int .i64 63, .int .i64 xc, .int .i64 xu, .string DT] rfl rfl HZ17b.out rfl (by kernel_rfl) (by rfl) ?_
                  intro wz4 hcn hgz
                  have hbg := hHeld.out.grown hgz hHeld.out.size (fun k hk => by injection hk with hk; rw [← hk]; exact HGq17.out)
                  replace HO16 := Lib.hid (HO16.out.grown hgz (fun e => HQ67.out (Option.some.inj e)))
                  have HO17 := Lib.hid hcn
                  clear hcn hgz HZ17b
                  simp only [Act.put]
                  refine hK.out _ _ (Lib.hid hbg) (fun hHeld2 => ?_)
                  clear hK K hHeld
                  have hHeld := hHeld2
                  clear hHeld2
                  try simp only [Act.put, List.setIfInBounds_toArray, List.set_cons_zero, List.set_cons_succ]
                  refine wpAnyH_done (by kernel_rfl) ?_ _
                  have HW := Lib.hid hHeld.out
                  clear hHeld HQX
                  have hmd := HMD.out.below HW.out
                  obtain ⟨m0, m1, m2, m3, _⟩ := cn4 hmd
                  clear hmd
                  have HQA := Lib.hid (show q16 < wz4.heap.size ∧ q17 < wz4.heap.size from ⟨HO16.out.1, HO17.out.1⟩)
                  have HQS := Lib.hid (show wr.heap.size ≤ wz4.heap.size from HW.out.size)
                  have hba := (Below.refl _ _ : Below wz4.heap.size wz4 wz4).alloc (Nat.le_refl _) (.cells #[.int .i64 i2, .int .i64 1, .int .i64 1, .string DG] 32)
                  have HN4 := Lib.hid (CN.new wz4 #[.int .i64 i2, .int .i64 1, .int .i64 1, .string DG] 32)
                  replace HW := Lib.hid (HW.out.trans (hba.mono HW.out.size))
                  replace HO16 := Lib.hid (HO16.out.below hba)
                  replace HO17 := Lib.hid (HO17.out.below hba)
                  obtain ⟨w8, hw⟩ : ∃ x, wz4.alloc (.cells #[.int .i64 i2, .int .i64 1, .int .i64 1, .string DG] 32) = x := ⟨_, rfl⟩
                  obtain ⟨q8, hq⟩ : ∃ x, wz4.heap.size = x := ⟨_, rfl⟩
                  rw [hw, hq] at HN4
                  rw [hw] at HW HO16 HO17
                  have HW := Lib.hid hw
                  have HQ_ := Lib.hid hq
                  rw [hq] at HQA HQS
                  clear hba hw hq
                  go_upto_region 21 with (fail)
                  rw [HW.out, HQ_.out]
                  clear HW HQ_
                  clear m0 m1 m2 m3
                  have m2 := HN4.out.2 2 _ rfl
                  obtain ⟨m2c, m2f⟩ := m2
                  have hgm := grown_cell w8 q8 2 (.int .i64 hash)
                  have HN5 := Lib.hid (HN4.out.set 2 (by simp) (.int .i64 hash))
                  replace HW := Lib.hid (HW.out.grown hgm HW.out.size (fun k hk => by injection hk with hk; rw [← hk]; exact HQS.out))
                  replace HO16 := Lib.hid (HO16.out.grown hgm (fun e => by have e := Option.some.inj e; have := HQA.out.1; omega))
                  replace HO17 := Lib.hid (HO17.out.grown hgm (fun e => by have e := Option.some.inj e; have := HQA.out.2; omega))
                  go_upto_region 22 with (fail)
                  obtain ⟨wa, hwa⟩ : ∃ x, w8.setCell ⟨q8, 2, none⟩ (.int .i64 hash) = x := ⟨_, rfl⟩
                  rw [hwa] at HW HO16 HO17 HN5 ⊢
                  clear hwa hgm m2c m2f HN4
                  have HN6 := Lib.hid (show CN wa q8 [.int .i64 i2, .int .i64 1, .int .i64 hash, .string DG] from HN5.out)
                  obtain ⟨m0, m1, m2, m3, _⟩ := cn4 HN6.out
                  go_wp2_with fail
                  refine (putMd_any i2 1 hash DG _ (by rw [HDS.out]; decide)).mono ?_; rintro e w9 ⟨rfl, hb⟩
                  clear m0 m1 m2 m3
                  replace HW := Lib.hid (HW.out.trans (hb.mono HW.out.size))
                  replace HO16 := Lib.hid (HO16.out.below hb)
                  replace HO17 := Lib.hid (HO17.out.below hb)
                  clear hb
                  clear HN5 HN6
                  have HMO := Lib.hid (md_other HFI.out HHH.out HDS.out)
                  rw [HMO.out.2.2.1, HMO.out.2.2.2.1]
                  obtain ⟨D2, hD2⟩ : ∃ x, mdData i2 1 hash DG = x := ⟨_, rfl⟩
                  rw [hD2] at HMO ⊢
                  clear hD2
                  obtain ⟨m2c, m2f⟩ := HO16.out.2 4 _ rfl
                  have hgm := grown_cell w9 q16 4 (.string D2)
                  have HP16 := Lib.hid (HO16.out.set 4 (by simp) (.string D2))
                  replace HW := Lib.hid (HW.out.grown hgm HW.out.size (fun k hk => by injection hk with hk; rw [← hk]; exact HGq16.out))
                  replace HO17 := Lib.hid (HO17.out.grown hgm (fun e => by have e := Option.some.inj e; exact HQ67.out e.symm))
                  go_upto_region 23 with (fail)
                  obtain ⟨wb2, hwb⟩ : ∃ x, w9.setCell ⟨q16, 4, none⟩ (.string D2) = x := ⟨_, rfl⟩
                  rw [hwb] at HW HP16 HO17 ⊢
                  clear hwb hgm m2c m2f HO16
                  have HQ16 := Lib.hid (show CN wb2 q16 [.string apex, .int .i64 63, .int .i64 xc, .int .i64 xu, .string D2] from HP16.out)
                  clear HP16
                  have hl := HL.out.below HW.out
                  have x4 := (hl.2 4 _ rfl).1
                  clear hl
                  go_wp2_with (refine conv_bytes rfl _ rfl DT rfl ?_)
                  intro cap w30 hcap hb hsz hcell hfr
                  clear x4
                  have hSL : DT.data.toList.length = DT.size := by rw [Array.length_toList]; rfl
                  obtain ⟨ML, hML⟩ : ∃ x, DT.data.toList = x := ⟨_, rfl⟩
                  have HMLE := Lib.hid hML
                  have HDB := Lib.hid (show CN w30 wb2.heap.size (bc ML) from ⟨by rw [hsz]; omega, fun j u hj => by
                    have hjl : j < DT.size := by have := (List.getElem?_eq_some_iff.1 hj).1; rw [bc_length, ← hML, hSL] at this; exact this
                    refine ⟨?_, hfr j hjl⟩
                    rw [hcell j hjl, ← hj, bc, List.getElem?_map, ← hML, Array.getElem?_toList, Array.getElem?_eq_getElem (show j < DT.data.size from hjl)]
                    rfl⟩)
                  have HML := Lib.hid (show ML.length = 54 by rw [← hML, hSL, HDZ.out])
                  have HQB := Lib.hid (show q16 < wb2.heap.size ∧ q17 < wb2.heap.size ∧ wr.heap.size ≤ wb2.heap.size from ⟨HQ16.out.1, HO17.out.1, HW.out.size⟩)
                  replace HW := Lib.hid (HW.out.trans (hb.mono HW.out.size))
                  replace HQ16 := Lib.hid (HQ16.out.below hb)
                  replace HO17 := Lib.hid (HO17.out.below hb)
                  have HCAP := Lib.hid hcap
                  clear hb hsz hcell hfr hSL hcap
                  obtain ⟨qd, hqd⟩ : ∃ x, wb2.heap.size = x := ⟨_, rfl⟩
                  rw [hqd] at HDB HQB ⊢
                  have hdz := HDZ.out
                  rw [hdz]
                  clear hqd hML hdz
                  obtain ⟨bc0, bf0⟩ := HDB.out.bat 53 (by rw [HML.out]; decide)
                  obtain ⟨xb, hxb⟩ : ∃ x, ML[53]'(by rw [HML.out]; decide) = x := ⟨_, rfl⟩
                  rw [hxb] at bc0
                  have hadd := add1M xb
                  have HXB := Lib.hid hxb
                  have HD4 := Lib.hid (HDB.out.bset 53 (by rw [HML.out]; decide) (xb + 1))
                  have hgm := grown_cell w30 qd 53 (.int .u8 ((xb + 1).toNat : Int))
                  replace HW := Lib.hid (HW.out.grown hgm HW.out.size (fun k hk => by injection hk with hk; rw [← hk]; exact HQB.out.2.2))
                  replace HQ16 := Lib.hid (HQ16.out.grown hgm (fun e => by have e := Option.some.inj e; have := HQB.out.1; omega))
                  replace HO17 := Lib.hid (HO17.out.grown hgm (fun e => by have e := Option.some.inj e; have := HQB.out.2.1; omega))
                  clear hxb
                  obtain ⟨yb, hyb⟩ : ∃ x, xb + 1 = x := ⟨_, rfl⟩
                  rw [hyb] at hadd HD4 HW HQ16 HO17
                  have HYB := Lib.hid hyb
                  clear hyb hgm
                  go_upto_region 27 with (fail)
                  obtain ⟨w31, hw31⟩ : ∃ x, w30.setCell ⟨qd, 53, none⟩ (.int .u8 (yb.toNat : Int)) = x := ⟨_, rfl⟩
                  rw [hw31] at HW HQ16 HO17 HD4 ⊢
                  clear hw31 hadd bc0 bf0 HDB
                  obtain ⟨NL, hNL⟩ : ∃ x, ML.set 53 yb = x := ⟨_, rfl⟩
                  rw [hNL] at HD4
                  have HNL := Lib.hid hNL
                  clear hNL
                  have hcv := conv_row (cap := cap) (n := 54) (HD4.out.rowB (show NL.length = 54 by rw [← HNL.out, List.length_set, HML.out])) (fun h => by cases h)
                  obtain ⟨D3, hD3⟩ : ∃ x, bs NL = x := ⟨_, rfl⟩
                  rw [hD3] at hcv
                  have HD3 := Lib.hid hD3
                  clear hD3
                  obtain ⟨m2c, m2f⟩ := HO17.out.2 4 _ rfl
                  have hgm := grown_cell w31 q17 4 (.string D3)
                  have HP17 := Lib.hid (HO17.out.set 4 (by simp) (.string D3))
                  replace HW := Lib.hid (HW.out.grown hgm HW.out.size (fun k hk => by injection hk with hk; rw [← hk]; exact HGq17.out))
                  replace HQ16 := Lib.hid (HQ16.out.grown hgm (fun e => by have e := Option.some.inj e; exact HQ67.out e))
                  go_upto_region 28 with (fail)
                  obtain ⟨wf, hwf⟩ : ∃ x, w31.setCell ⟨q17, 4, none⟩ (.string D3) = x := ⟨_, rfl⟩
                  rw [hwf] at HW HP17 HQ16 ⊢
                  clear hwf hgm m2c m2f hcv HO17 HD4
                  have HQ17 := Lib.hid (show CN wf q17 [.string apex, .int .i64 63, .int .i64 xc, .int .i64 xu, .string D3] from HP17.out)
                  clear HP17
                  have HBF := Lib.hid (HB.out.trans (HW.out.mono HB.out.size))
                  have HSF := Lib.hid (own_below' HSO.out HW.out)
                  have HMEM := Lib.hid (show ∀ M : R5, ∀ r, r ∈ SL ++ [M] ↔ (r ∈ l ∧ isMd apex r = false) ∨ r ∈ [⟨⟨apex, 63, xc⟩, xu, DT⟩, M] from fun M r => by
                    rw [HS2.out, ← HTT.out, List.mem_append, List.mem_append, keepM_mem, List.mem_singleton, List.mem_singleton, List.mem_cons, List.mem_singleton, or_assoc])
                  have HR2 := Lib.hid (show isMd apex ⟨⟨apex, 63, xc⟩, xu, D2⟩ = true ∧ mayM ⟨⟨apex, 63, xc⟩, xu, D2⟩ = true ∧ isMd1 apex ⟨⟨apex, 63, xc⟩, xu, D2⟩ = false from ⟨isMd_iff.2 ⟨rfl, rfl⟩, HZN.out.may HMO.out.1, by
                    show (mayD 63 D2 && (_ && (_ && ((byteAt D2 5 : Int) == 1)))) = false
                    rw [eF (a := (byteAt D2 5 : Int)) (b := 1) (by rw [HMO.out.2.2.2.2]; have := HHH.out; omega)]
                    simp⟩)
                  have HK0 := Lib.hid (show chkE apex (SL ++ [⟨⟨apex, 63, xc⟩, xu, D2⟩]) = 0 by
                    have h := HZN.out.checkE (E := [⟨⟨apex, 63, xc⟩, xu, DT⟩, ⟨⟨apex, 63, xc⟩, xu, D2⟩]) (R := ⟨⟨apex, 63, xc⟩, xu, DT⟩) (fun r hr => by
                      rcases List.mem_cons.1 hr with rfl | hr
                      · exact ⟨HRM2.out.1, HRM2.out.2.2⟩
                      · rw [List.mem_singleton.1 hr]; exact ⟨HR2.out.1, HR2.out.2.1⟩) (HMEM.out _) (fun r => by
                      constructor
                      · rintro ⟨h1, h2⟩
                        rcases List.mem_cons.1 h1 with h1 | h1
                        · exact h1
                        · rw [List.mem_singleton.1 h1, HR2.out.2.2] at h2; cases h2
                      · rintro rfl; exact ⟨List.mem_cons_self .., HRM2.out.2.1⟩)
                    rw [h]
                    show (if getN DT 0 4 = getN (soaT xd) 0 4 then (if DT.extract 6 DT.size = bs (shaL (dgL apex l)) then (0 : Int) else 5) else 12) = 0
                    rw [HMP.out.1, HMP.out.2.2.2, HI2.out, HDG.out, if_pos rfl, if_pos rfl])
                  have HR3 := Lib.hid (show D3.size = 54 ∧ isMd apex ⟨⟨apex, 63, xc⟩, xu, D3⟩ = true ∧ mayM ⟨⟨apex, 63, xc⟩, xu, D3⟩ = true ∧ isMd1 apex ⟨⟨apex, 63, xc⟩, xu, D3⟩ = true ∧ DT ≠ D3 from by
                    have hz3 : D3.size = 54 := by rw [← HD3.out, bs_size, ← HNL.out, List.length_set, HML.out]
                    have ht := md_turn HDZ.out hz3 HMP.out.2.1 HMP.out.2.2.1 (fun j hj => by
                      unfold byteAt
                      rw [show D3.data.toList = NL from by rw [← HD3.out]; rfl, ← HNL.out, HMLE.out, List.getD_eq_getElem?_getD, List.getD_eq_getElem?_getD, List.getElem?_set_ne (by omega)])
                    refine ⟨hz3, isMd_iff.2 ⟨rfl, rfl⟩, HZN.out.may ht.1, md1_of (x := ⟨⟨xn, xt, xc⟩, xu, xd⟩) ht.1 ht.2.1 ht.2.2.1, fun e => ?_⟩
                    have h9 : ML = NL := by rw [← HMLE.out, e, ← HD3.out]; rfl
                    have h8 : ML[53]? = (ML.set 53 yb)[53]? := by rw [HNL.out, ← h9]
                    rw [List.getElem?_set_self (by rw [HML.out]; decide), List.getElem?_eq_getElem (by rw [HML.out]; decide), HXB.out] at h8
                    exact add1_ne xb (HYB.out.trans (Option.some.inj h8).symm))
                  have HK6 := Lib.hid (show chkE apex (SL ++ [⟨⟨apex, 63, xc⟩, xu, D3⟩]) = 6 from HZN.out.two (E := [⟨⟨apex, 63, xc⟩, xu, DT⟩, ⟨⟨apex, 63, xc⟩, xu, D3⟩]) (fun r hr => by
                    rcases List.mem_cons.1 hr with rfl | hr
                    · exact ⟨HRM2.out.1, HRM2.out.2.2⟩
                    · rw [List.mem_singleton.1 hr]; exact ⟨HR3.out.2.1, HR3.out.2.2.1⟩) (HMEM.out _) (R := ⟨⟨apex, 63, xc⟩, xu, DT⟩) (R2 := ⟨⟨apex, 63, xc⟩, xu, D3⟩) ⟨List.mem_cons_self .., HRM2.out.2.1⟩ ⟨List.mem_cons.2 (Or.inr (List.mem_singleton.2 rfl)), HR3.out.2.2.2.1⟩ (fun e => HR3.out.2.2.2.2 (by injection e)))
                  refine wp_region_held_drew (S := (fun wx => Hid (Below wf.heap.size wf wx))) (by kernel_rfl) (Lib.hid (Below.refl _ _).drew) (fun hHeld => ?_)
                  obtain ⟨we0, hwd⟩ : ∃ z, wf.drew = z := ⟨_, rfl⟩
                  rw [hwd] at hHeld ⊢
                  clear hwd
                  refine wpAnyH_ready (rs := [0]) (by kernel_rfl) (by simp) ?_
                  refine AllReadyH.cons (o := { dst := some 186, op := Go.Op.call { callee := Go.Callee.value (Go.Operand.func 8), args := #[], argTypes := #[] }, type := 4, pos := "more.go:44", after := #[], guard := none }) rfl (fun K hK => ?_) AllReadyH.nil
                  go_simp
                  refine (first9 _).mono ?_; rintro e we1 ⟨rfl, hb⟩
                  refine hK.out _ _ (Lib.hid (hHeld.out.trans (hb.mono hHeld.out.size))) (fun hHeld2 => ?_)
                  clear hK K hHeld
                  have hHeld := hHeld2
                  clear hHeld2
                  try simp only [Act.put, List.setIfInBounds_toArray, List.set_cons_zero, List.set_cons_succ]
                  refine Plan.of [1, 2, 3, 4, 5, 6, 8] ?_
                  iterate 6 (refine Plan.w (v := ?_) rfl hHeld (by rfl) ?_ ?_; rotate_left; (focus (intro w hSw; (try dsimp only at hSw); go_simp; try with_reducible rfl)); try simp only [Act.put, List.setIfInBounds_toArray, List.set_cons_zero, List.set_cons_succ])
                  refine Plan.w (v := ?_) rfl hHeld (by rfl) ?_ ?_; rotate_left; (focus (intro w hSw; (try dsimp only at hSw); have hca := HQ16.out.below hSw.out; have s0 := (hca.2 0 _ rfl).1; have s1 := (hca.2 1 _ rfl).1; have s2 := (hca.2 2 _ rfl).1; have s3 := (hca.2 3 _ rfl).1; have s4 := (hca.2 4 _ rfl).1; go_simp; try with_reducible rfl)); try simp only [Act.put, List.setIfInBounds_toArray, List.set_cons_zero, List.set_cons_succ]
                  refine Plan.fin ?_
                  refine wpAnyH_ready (rs := [7, 9]) (by kernel_rfl) (by simp) ?_
                  refine AllReadyH.cons (o := { dst := some 193, op := Go.Op.call { callee := Go.Callee.value (Go.Operand.func 13), args := #[Go.Operand.tmp 192], argTypes := #[22] }, type := 22, pos := "more.go:44", after := #[{ on := 6, ground := Go.Ground.data }, { on := 4, ground := Go.Ground.chain }, { on := 4, ground := Go.Ground.guard }], guard := some (4, true) }) rfl (fun K hK => ?_) (AllReadyH.cons (o := { dst := some 195, op := Go.Op.buildSlice 22 1 #[(0, Go.Operand.tmp 194)], type := 22, pos := "more.go:44", after := #[{ on := 8, ground := Go.Ground.data }, { on := 4, ground := Go.Ground.guard }], guard := some (4, true) }) rfl (fun K hK => ?_) AllReadyH.nil)
                  · go_simp
                    refine (copyRRs_any _ k _ SL _ ((rowR_own2M HSF.out).1.below hHeld.out) (rowR_own2M HSF.out).2 (by have := HNN.out; omega)).mono ?_; rintro e we2 ⟨vc7, rfl, hown, hb⟩
                    have HOC7 := Lib.hid (own_monoM (base' := wf.heap.size) hown hHeld.out.size)
                    clear hown
                    refine hK.out _ _ (Lib.hid (hHeld.out.trans (hb.mono hHeld.out.size))) (fun hHeld2 => ?_)
                    clear hK K hHeld
                    have hHeld := hHeld2
                    clear hHeld2
                    try simp only [Act.put, List.setIfInBounds_toArray, List.set_cons_zero, List.set_cons_succ]
                    refine wpAnyH_ready (rs := [9]) (by kernel_rfl) (by simp) ?_
                    refine AllReadyH.cons (o := { dst := some 195, op := Go.Op.buildSlice 22 1 #[(0, Go.Operand.tmp 194)], type := 22, pos := "more.go:44", after := #[{ on := 8, ground := Go.Ground.data }, { on := 4, ground := Go.Ground.guard }], guard := some (4, true) }) rfl (fun K hK => ?_) AllReadyH.nil
                    go_simp
                    have hb := (Below.refl _ _ : Below we2.heap.size we2 we2).alloc (Nat.le_refl _) (.cells #[.string apex, .int .i64 63, .int .i64 xc, .int .i64 xu, .string D2] 30)
                    have HLIT9 := Lib.hid (show CellsAt (we2.alloc (.cells #[.string apex, .int .i64 63, .int .i64 xc, .int .i64 xu, .string D2] 30)) (some ⟨we2.heap.size, 0, none⟩) (1 * 5) (encR ⟨⟨apex, 63, xc⟩, xu, D2⟩) from cells_lit we2 #[.string apex, .int .i64 63, .int .i64 xc, .int .i64 xu, .string D2] 30)
                    obtain ⟨we3, hw⟩ : ∃ x, we2.alloc (.cells #[.string apex, .int .i64 63, .int .i64 xc, .int .i64 xu, .string D2] 30) = x := ⟨_, rfl⟩
                    obtain ⟨ge9, hge⟩ : ∃ x, we2.heap.size = x := ⟨_, rfl⟩
                    rw [hw] at hb HLIT9 ⊢
                    rw [hge] at HLIT9 ⊢
                    replace HOC7 := Lib.hid (own_below' HOC7.out hb)
                    clear hw hge
                    refine hK.out _ _ (Lib.hid (hHeld.out.trans (hb.mono hHeld.out.size))) (fun hHeld2 => ?_)
                    clear hK K hHeld
                    have hHeld := hHeld2
                    clear hHeld2
                    try simp only [Act.put, List.setIfInBounds_toArray, List.set_cons_zero, List.set_cons_succ]
                    refine wpAnyH_ready (rs := [10]) (by kernel_rfl) (by simp) ?_
                    refine AllReadyH.cons (o := { dst := some 196, op := Go.Op.call { callee := Go.Callee.builtin Go.Builtin.append, args := #[Go.Operand.tmp 193, Go.Operand.tmp 195], argTypes := #[22, 22] }, type := 22, pos := "more.go:44", after := #[{ on := 7, ground := Go.Ground.data }, { on := 9, ground := Go.Ground.data }, { on := 7, ground := Go.Ground.chain }, { on := 4, ground := Go.Ground.guard }], guard := some (4, true) }) rfl (fun K hK => ?_) AllReadyH.nil
                    refine step_append_cellsG (by rfl) _ _ 22 30 (by rfl) i0 _ 5 56 Try.underlying22 HI.out HZ0.out HZ1.out HZ2.out rfl (by decide) wf.heap.size _ k _ (by rfl) HOC7.out (some ⟨ge9, 0, none⟩) 1 1 (encR ⟨⟨apex, 63, xc⟩, xu, D2⟩) (by rfl) (fun h => by cases h) HLIT9.out (fun u hu => flatR_oneM (l := [⟨⟨apex, 63, xc⟩, xu, D2⟩]) (by simpa [flatR] using hu)) (by have := HNN.out; omega) (by decide) (hHeld.out.size) ?_
                    intro vx10 we4 hown hgrow
                    have hbg := hHeld.out.grown hgrow hHeld.out.size (fun k hk => (HOC7.out.lt k hk).1)
                    have HOX10 := Lib.hid hown
                    clear hown hgrow HLIT9 HOC7
                    refine hK.out _ _ (Lib.hid hbg) (fun hHeld2 => ?_)
                    clear hK K hHeld
                    have hHeld := hHeld2
                    clear hHeld2
                    try simp only [Act.put, List.setIfInBounds_toArray, List.set_cons_zero, List.set_cons_succ]
                    refine wpAnyH_ready (rs := [11]) (by kernel_rfl) (by simp) ?_
                    refine AllReadyH.cons (o := { dst := some 197, op := Go.Op.call { callee := Go.Callee.value (Go.Operand.func 11), args := #[Go.Operand.tmp 191, Go.Operand.tmp 196], argTypes := #[9, 22] }, type := 25, pos := "more.go:44", after := #[{ on := 5, ground := Go.Ground.data }, { on := 10, ground := Go.Ground.data }, { on := 10, ground := Go.Ground.chain }, { on := 4, ground := Go.Ground.guard }], guard := some (4, true) }) rfl (fun K hK => ?_) AllReadyH.nil
                    obtain ⟨ta11, tc11, rfl, hrt, _⟩ := rowR_own (l := SL ++ [⟨⟨apex, 63, xc⟩, xu, D2⟩]) (show we4.ownsRow wf.heap.size 30 5 vx10 (k + 1) (flatR (SL ++ [⟨⟨apex, 63, xc⟩, xu, D2⟩])) by rw [flatR_append]; simpa [flatR] using HOX10.out)
                    clear HOX10
                    go_simp
                    refine (check_any apex _ _ _ (SL ++ [⟨⟨apex, 63, xc⟩, xu, D2⟩]) _ hrt (by have := HNN.out; omega) (fun r hr => by
                      rcases List.mem_append.1 hr with h | h
                      · exact HSS.out r h
                      · rw [List.mem_singleton.1 h]; exact ⟨HA.out, by show D2.size ≤ 1000000; rw [HMO.out.2.1]; decide⟩) HA.out).mono ?_; rintro e we5 ⟨rfl, hb⟩
                    rw [HK0.out]
                    clear hrt
                    refine hK.out _ _ (Lib.hid (hHeld.out.trans (hb.mono hHeld.out.size))) (fun hHeld2 => ?_)
                    clear hK K hHeld
                    have hHeld := hHeld2
                    clear hHeld2
                    try simp only [Act.put, List.setIfInBounds_toArray, List.set_cons_zero, List.set_cons_succ]
                    refine Plan.of [12, 13, 14, 15, 16, 18] ?_
                    iterate 5 (refine Plan.w (v := ?_) rfl hHeld (by rfl) ?_ ?_; rotate_left; (focus (intro w hSw; (try dsimp only at hSw); go_simp; try with_reducible rfl)); try simp only [Act.put, List.setIfInBounds_toArray, List.set_cons_zero, List.set_cons_succ])
                    refine Plan.w (v := ?_) rfl hHeld (by rfl) ?_ ?_; rotate_left; (focus (intro w hSw; (try dsimp only at hSw); have hca := HQ17.out.below hSw.out; have s0 := (hca.2 0 _ rfl).1; have s1 := (hca.2 1 _ rfl).1; have s2 := (hca.2 2 _ rfl).1; have s3 := (hca.2 3 _ rfl).1; have s4 := (hca.2 4 _ rfl).1; go_simp; try with_reducible rfl)); try simp only [Act.put, List.setIfInBounds_toArray, List.set_cons_zero, List.set_cons_succ]
                    refine Plan.fin ?_
                    refine wpAnyH_ready (rs := [17, 19]) (by kernel_rfl) (by simp) ?_
                    refine AllReadyH.cons (o := { dst := some 203, op := Go.Op.call { callee := Go.Callee.value (Go.Operand.func 13), args := #[Go.Operand.tmp 202], argTypes := #[22] }, type := 22, pos := "more.go:44", after := #[{ on := 16, ground := Go.Ground.data }, { on := 14, ground := Go.Ground.chain }, { on := 14, ground := Go.Ground.guard }], guard := some (14, true) }) rfl (fun K hK => ?_) (AllReadyH.cons (o := { dst := some 205, op := Go.Op.buildSlice 22 1 #[(0, Go.Operand.tmp 204)], type := 22, pos := "more.go:44", after := #[{ on := 18, ground := Go.Ground.data }, { on := 14, ground := Go.Ground.guard }], guard := some (14, true) }) rfl (fun K hK => ?_) AllReadyH.nil)
                    · go_simp
                      refine (copyRRs_any _ k _ SL _ ((rowR_own2M HSF.out).1.below hHeld.out) (rowR_own2M HSF.out).2 (by have := HNN.out; omega)).mono ?_; rintro e we6 ⟨vc17, rfl, hown, hb⟩
                      have HOC17 := Lib.hid (own_monoM (base' := wf.heap.size) hown hHeld.out.size)
                      clear hown
                      refine hK.out _ _ (Lib.hid (hHeld.out.trans (hb.mono hHeld.out.size))) (fun hHeld2 => ?_)
                      clear hK K hHeld
                      have hHeld := hHeld2
                      clear hHeld2
                      try simp only [Act.put, List.setIfInBounds_toArray, List.set_cons_zero, List.set_cons_succ]
                      refine wpAnyH_ready (rs := [19]) (by kernel_rfl) (by simp) ?_
                      refine AllReadyH.cons (o := { dst := some 205, op := Go.Op.buildSlice 22 1 #[(0, Go.Operand.tmp 204)], type := 22, pos := "more.go:44", after := #[{ on := 18, ground := Go.Ground.data }, { on := 14, ground := Go.Ground.guard }], guard := some (14, true) }) rfl (fun K hK => ?_) AllReadyH.nil
                      go_simp
                      have hb := (Below.refl _ _ : Below we6.heap.size we6 we6).alloc (Nat.le_refl _) (.cells #[.string apex, .int .i64 63, .int .i64 xc, .int .i64 xu, .string D3] 30)
                      have HLIT19 := Lib.hid (show CellsAt (we6.alloc (.cells #[.string apex, .int .i64 63, .int .i64 xc, .int .i64 xu, .string D3] 30)) (some ⟨we6.heap.size, 0, none⟩) (1 * 5) (encR ⟨⟨apex, 63, xc⟩, xu, D3⟩) from cells_lit we6 #[.string apex, .int .i64 63, .int .i64 xc, .int .i64 xu, .string D3] 30)
                      obtain ⟨we7, hw⟩ : ∃ x, we6.alloc (.cells #[.string apex, .int .i64 63, .int .i64 xc, .int .i64 xu, .string D3] 30) = x := ⟨_, rfl⟩
                      obtain ⟨ge19, hge⟩ : ∃ x, we6.heap.size = x := ⟨_, rfl⟩
                      rw [hw] at hb HLIT19 ⊢
                      rw [hge] at HLIT19 ⊢
                      replace HOC17 := Lib.hid (own_below' HOC17.out hb)
                      clear hw hge
                      refine hK.out _ _ (Lib.hid (hHeld.out.trans (hb.mono hHeld.out.size))) (fun hHeld2 => ?_)
                      clear hK K hHeld
                      have hHeld := hHeld2
                      clear hHeld2
                      try simp only [Act.put, List.setIfInBounds_toArray, List.set_cons_zero, List.set_cons_succ]
                      refine wpAnyH_ready (rs := [20]) (by kernel_rfl) (by simp) ?_
                      refine AllReadyH.cons (o := { dst := some 206, op := Go.Op.call { callee := Go.Callee.builtin Go.Builtin.append, args := #[Go.Operand.tmp 203, Go.Operand.tmp 205], argTypes := #[22, 22] }, type := 22, pos := "more.go:44", after := #[{ on := 17, ground := Go.Ground.data }, { on := 19, ground := Go.Ground.data }, { on := 17, ground := Go.Ground.chain }, { on := 14, ground := Go.Ground.guard }], guard := some (14, true) }) rfl (fun K hK => ?_) AllReadyH.nil
                      refine step_append_cellsG (by rfl) _ _ 22 30 (by rfl) i0 _ 5 56 Try.underlying22 HI.out HZ0.out HZ1.out HZ2.out rfl (by decide) wf.heap.size _ k _ (by rfl) HOC17.out (some ⟨ge19, 0, none⟩) 1 1 (encR ⟨⟨apex, 63, xc⟩, xu, D3⟩) (by rfl) (fun h => by cases h) HLIT19.out (fun u hu => flatR_oneM (l := [⟨⟨apex, 63, xc⟩, xu, D3⟩]) (by simpa [flatR] using hu)) (by have := HNN.out; omega) (by decide) (hHeld.out.size) ?_
                      intro vx20 we8 hown hgrow
                      have hbg := hHeld.out.grown hgrow hHeld.out.size (fun k hk => (HOC17.out.lt k hk).1)
                      have HOX20 := Lib.hid hown
                      clear hown hgrow HLIT19 HOC17
                      refine hK.out _ _ (Lib.hid hbg) (fun hHeld2 => ?_)
                      clear hK K hHeld
                      have hHeld := hHeld2
                      clear hHeld2
                      try simp only [Act.put, List.setIfInBounds_toArray, List.set_cons_zero, List.set_cons_succ]
                      refine wpAnyH_ready (rs := [21]) (by kernel_rfl) (by simp) ?_
                      refine AllReadyH.cons (o := { dst := some 207, op := Go.Op.call { callee := Go.Callee.value (Go.Operand.func 11), args := #[Go.Operand.tmp 201, Go.Operand.tmp 206], argTypes := #[9, 22] }, type := 25, pos := "more.go:44", after := #[{ on := 15, ground := Go.Ground.data }, { on := 20, ground := Go.Ground.data }, { on := 20, ground := Go.Ground.chain }, { on := 14, ground := Go.Ground.guard }], guard := some (14, true) }) rfl (fun K hK => ?_) AllReadyH.nil
                      obtain ⟨ta21, tc21, rfl, hrt, _⟩ := rowR_own (l := SL ++ [⟨⟨apex, 63, xc⟩, xu, D3⟩]) (show we8.ownsRow wf.heap.size 30 5 vx20 (k + 1) (flatR (SL ++ [⟨⟨apex, 63, xc⟩, xu, D3⟩])) by rw [flatR_append]; simpa [flatR] using HOX20.out)
                      clear HOX20
                      go_simp
                      refine (check_any apex _ _ _ (SL ++ [⟨⟨apex, 63, xc⟩, xu, D3⟩]) _ hrt (by have := HNN.out; omega) (fun r hr => by
                        rcases List.mem_append.1 hr with h | h
                        · exact HSS.out r h
                        · rw [List.mem_singleton.1 h]; exact ⟨HA.out, by show D3.size ≤ 1000000; rw [HR3.out.1]; decide⟩) HA.out).mono ?_; rintro e we9 ⟨rfl, hb⟩
                      rw [HK6.out]
                      clear hrt
                      refine hK.out _ _ (Lib.hid (hHeld.out.trans (hb.mono hHeld.out.size))) (fun hHeld2 => ?_)
                      clear hK K hHeld
                      have hHeld := hHeld2
                      clear hHeld2
                      try simp only [Act.put, List.setIfInBounds_toArray, List.set_cons_zero, List.set_cons_succ]
                      refine Plan.of [22, 23, 24] ?_
                      iterate 3 (refine Plan.w (v := ?_) rfl hHeld (by rfl) ?_ ?_; rotate_left; (focus (intro w hSw; (try dsimp only at hSw); go_simp; try with_reducible rfl)); try simp only [Act.put, List.setIfInBounds_toArray, List.set_cons_zero, List.set_cons_succ])
                      refine Plan.fin ?_
                      refine wpAnyH_done (by kernel_rfl) ?_ _
                      have HBZ := Lib.hid (HBF.out.trans (hHeld.out.mono HBF.out.size))
                      clear hHeld
                      go_wp2
                      go_ret
                      exact ⟨rfl, HBZ.out⟩
                    · go_simp
                      have hb := (Below.refl _ _ : Below we5.heap.size we5 we5).alloc (Nat.le_refl _) (.cells #[.string apex, .int .i64 63, .int .i64 xc, .int .i64 xu, .string D3] 30)
                      have HLIT19 := Lib.hid (show CellsAt (we5.alloc (.cells #[.string apex, .int .i64 63, .int .i64 xc, .int .i64 xu, .string D3] 30)) (some ⟨we5.heap.size, 0, none⟩) (1 * 5) (encR ⟨⟨apex, 63, xc⟩, xu, D3⟩) from cells_lit we5 #[.string apex, .int .i64 63, .int .i64 xc, .int .i64 xu, .string D3] 30)
                      obtain ⟨we6, hw⟩ : ∃ x, we5.alloc (.cells #[.string apex, .int .i64 63, .int .i64 xc, .int .i64 xu, .string D3] 30) = x := ⟨_, rfl⟩
                      obtain ⟨ge19, hge⟩ : ∃ x, we5.heap.size = x := ⟨_, rfl⟩
                      rw [hw] at hb HLIT19 ⊢
                      rw [hge] at HLIT19 ⊢
                      clear hw hge
                      refine hK.out _ _ (Lib.hid (hHeld.out.trans (hb.mono hHeld.out.size))) (fun hHeld2 => ?_)
                      clear hK K hHeld
                      have hHeld := hHeld2
                      clear hHeld2
                      try simp only [Act.put, List.setIfInBounds_toArray, List.set_cons_zero, List.set_cons_succ]
                      refine wpAnyH_ready (rs := [17]) (by kernel_rfl) (by simp) ?_
                      refine AllReadyH.cons (o := { dst := some 203, op := Go.Op.call { callee := Go.Callee.value (Go.Operand.func 13), args := #[Go.Operand.tmp 202], argTypes := #[22] }, type := 22, pos := "more.go:44", after := #[{ on := 16, ground := Go.Ground.data }, { on := 14, ground := Go.Ground.chain }, { on := 14, ground := Go.Ground.guard }], guard := some (14, true) }) rfl (fun K hK => ?_) AllReadyH.nil
                      go_simp
                      refine (copyRRs_any _ k _ SL _ ((rowR_own2M HSF.out).1.below hHeld.out) (rowR_own2M HSF.out).2 (by have := HNN.out; omega)).mono ?_; rintro e we7 ⟨vc17, rfl, hown, hb⟩
                      have HOC17 := Lib.hid (own_monoM (base' := wf.heap.size) hown hHeld.out.size)
                      clear hown
                      replace HLIT19 := Lib.hid (HLIT19.out.below hb)
                      refine hK.out _ _ (Lib.hid (hHeld.out.trans (hb.mono hHeld.out.size))) (fun hHeld2 => ?_)
                      clear hK K hHeld
                      have hHeld := hHeld2
                      clear hHeld2
                      try simp only [Act.put, List.setIfInBounds_toArray, List.set_cons_zero, List.set_cons_succ]
                      refine wpAnyH_ready (rs := [20]) (by kernel_rfl) (by simp) ?_
                      refine AllReadyH.cons (o := { dst := some 206, op := Go.Op.call { callee := Go.Callee.builtin Go.Builtin.append, args := #[Go.Operand.tmp 203, Go.Operand.tmp 205], argTypes := #[22, 22] }, type := 22, pos := "more.go:44", after := #[{ on := 17, ground := Go.Ground.data }, { on := 19, ground := Go.Ground.data }, { on := 17, ground := Go.Ground.chain }, { on := 14, ground := Go.Ground.guard }], guard := some (14, true) }) rfl (fun K hK => ?_) AllReadyH.nil
                      refine step_append_cellsG (by rfl) _ _ 22 30 (by rfl) i0 _ 5 56 Try.underlying22 HI.out HZ0.out HZ1.out HZ2.out rfl (by decide) wf.heap.size _ k _ (by rfl) HOC17.out (some ⟨ge19, 0, none⟩) 1 1 (encR ⟨⟨apex, 63, xc⟩, xu, D3⟩) (by rfl) (fun h => by cases h) HLIT19.out (fun u hu => flatR_oneM (l := [⟨⟨apex, 63, xc⟩, xu, D3⟩]) (by simpa [flatR] using hu)) (by have := HNN.out; omega) (by decide) (hHeld.out.size) ?_
                      intro vx20 we8 hown hgrow
                      have hbg := hHeld.out.grown hgrow hHeld.out.size (fun k hk => (HOC17.out.lt k hk).1)
                      have HOX20 := Lib.hid hown
                      clear hown hgrow HLIT19 HOC17
                      refine hK.out _ _ (Lib.hid hbg) (fun hHeld2 => ?_)
                      clear hK K hHeld
                      have hHeld := hHeld2
                      clear hHeld2
                      try simp only [Act.put, List.setIfInBounds_toArray, List.set_cons_zero, List.set_cons_succ]
                      refine wpAnyH_ready (rs := [21]) (by kernel_rfl) (by simp) ?_
                      refine AllReadyH.cons (o := { dst := some 207, op := Go.Op.call { callee := Go.Callee.value (Go.Operand.func 11), args := #[Go.Operand.tmp 201, Go.Operand.tmp 206], argTypes := #[9, 22] }, type := 25, pos := "more.go:44", after := #[{ on := 15, ground := Go.Ground.data }, { on := 20, ground := Go.Ground.data }, { on := 20, ground := Go.Ground.chain }, { on := 14, ground := Go.Ground.guard }], guard := some (14, true) }) rfl (fun K hK => ?_) AllReadyH.nil
                      obtain ⟨ta21, tc21, rfl, hrt, _⟩ := rowR_own (l := SL ++ [⟨⟨apex, 63, xc⟩, xu, D3⟩]) (show we8.ownsRow wf.heap.size 30 5 vx20 (k + 1) (flatR (SL ++ [⟨⟨apex, 63, xc⟩, xu, D3⟩])) by rw [flatR_append]; simpa [flatR] using HOX20.out)
                      clear HOX20
                      go_simp
                      refine (check_any apex _ _ _ (SL ++ [⟨⟨apex, 63, xc⟩, xu, D3⟩]) _ hrt (by have := HNN.out; omega) (fun r hr => by
                        rcases List.mem_append.1 hr with h | h
                        · exact HSS.out r h
                        · rw [List.mem_singleton.1 h]; exact ⟨HA.out, by show D3.size ≤ 1000000; rw [HR3.out.1]; decide⟩) HA.out).mono ?_; rintro e we9 ⟨rfl, hb⟩
                      rw [HK6.out]
                      clear hrt
                      refine hK.out _ _ (Lib.hid (hHeld.out.trans (hb.mono hHeld.out.size))) (fun hHeld2 => ?_)
                      clear hK K hHeld
                      have hHeld := hHeld2
                      clear hHeld2
                      try simp only [Act.put, List.setIfInBounds_toArray, List.set_cons_zero, List.set_cons_succ]
                      refine Plan.of [22, 23, 24] ?_
                      iterate 3 (refine Plan.w (v := ?_) rfl hHeld (by rfl) ?_ ?_; rotate_left; (focus (intro w hSw; (try dsimp only at hSw); go_simp; try with_reducible rfl)); try simp only [Act.put, List.setIfInBounds_toArray, List.set_cons_zero, List.set_cons_succ])
                      refine Plan.fin ?_
                      refine wpAnyH_done (by kernel_rfl) ?_ _
                      have HBZ := Lib.hid (HBF.out.trans (hHeld.out.mono HBF.out.size))
                      clear hHeld
                      go_wp2
                      go_ret
                      exact ⟨rfl, HBZ.out⟩
                  · go_simp
                    have hb := (Below.refl _ _ : Below we1.heap.size we1 we1).alloc (Nat.le_refl _) (.cells #[.string apex, .int .i64 63, .int .i64 xc, .int .i64 xu, .string D2] 30)
                    have HLIT9 := Lib.hid (show CellsAt (we1.alloc (.cells #[.string apex, .int .i64 63, .int .i64 xc, .int .i64 xu, .string D2] 30)) (some ⟨we1.heap.size, 0, none⟩) (1 * 5) (encR ⟨⟨apex, 63, xc⟩, xu, D2⟩) from cells_lit we1 #[.string apex, .int .i64 63, .int .i64 xc, .int .i64 xu, .string D2] 30)
                    obtain ⟨we2, hw⟩ : ∃ x, we1.alloc (.cells #[.string apex, .int .i64 63, .int .i64 xc, .int .i64 xu, .string D2] 30) = x := ⟨_, rfl⟩
                    obtain ⟨ge9, hge⟩ : ∃ x, we1.heap.size = x := ⟨_, rfl⟩
                    rw [hw] at hb HLIT9 ⊢
                    rw [hge] at HLIT9 ⊢
                    clear hw hge
                    refine hK.out _ _ (Lib.hid (hHeld.out.trans (hb.mono hHeld.out.size))) (fun hHeld2 => ?_)
                    clear hK K hHeld
                    have hHeld := hHeld2
                    clear hHeld2
                    try simp only [Act.put, List.setIfInBounds_toArray, List.set_cons_zero, List.set_cons_succ]
                    refine wpAnyH_ready (rs := [7]) (by kernel_rfl) (by simp) ?_
                    refine AllReadyH.cons (o := { dst := some 193, op := Go.Op.call { callee := Go.Callee.value (Go.Operand.func 13), args := #[Go.Operand.tmp 192], argTypes := #[22] }, type := 22, pos := "more.go:44", after := #[{ on := 6, ground := Go.Ground.data }, { on := 4, ground := Go.Ground.chain }, { on := 4, ground := Go.Ground.guard }], guard := some (4, true) }) rfl (fun K hK => ?_) AllReadyH.nil
                    go_simp
                    refine (copyRRs_any _ k _ SL _ ((rowR_own2M HSF.out).1.below hHeld.out) (rowR_own2M HSF.out).2 (by have := HNN.out; omega)).mono ?_; rintro e we3 ⟨vc7, rfl, hown, hb⟩
                    have HOC7 := Lib.hid (own_monoM (base' := wf.heap.size) hown hHeld.out.size)
                    clear hown
                    replace HLIT9 := Lib.hid (HLIT9.out.below hb)
                    refine hK.out _ _ (Lib.hid (hHeld.out.trans (hb.mono hHeld.out.size))) (fun hHeld2 => ?_)
                    clear hK K hHeld
                    have hHeld := hHeld2
                    clear hHeld2
                    try simp only [Act.put, List.setIfInBounds_toArray, List.set_cons_zero, List.set_cons_succ]
                    refine wpAnyH_ready (rs := [10]) (by kernel_rfl) (by simp) ?_
                    refine AllReadyH.cons (o := { dst := some 196, op := Go.Op.call { callee := Go.Callee.builtin Go.Builtin.append, args := #[Go.Operand.tmp 193, Go.Operand.tmp 195], argTypes := #[22, 22] }, type := 22, pos := "more.go:44", after := #[{ on := 7, ground := Go.Ground.data }, { on := 9, ground := Go.Ground.data }, { on := 7, ground := Go.Ground.chain }, { on := 4, ground := Go.Ground.guard }], guard := some (4, true) }) rfl (fun K hK => ?_) AllReadyH.nil
                    refine step_append_cellsG (by rfl) _ _ 22 30 (by rfl) i0 _ 5 56 Try.underlying22 HI.out HZ0.out HZ1.out HZ2.out rfl (by decide) wf.heap.size _ k _ (by rfl) HOC7.out (some ⟨ge9, 0, none⟩) 1 1 (encR ⟨⟨apex, 63, xc⟩, xu, D2⟩) (by rfl) (fun h => by cases h) HLIT9.out (fun u hu => flatR_oneM (l := [⟨⟨apex, 63, xc⟩, xu, D2⟩]) (by simpa [flatR] using hu)) (by have := HNN.out; omega) (by decide) (hHeld.out.size) ?_
                    intro vx10 we4 hown hgrow
                    have hbg := hHeld.out.grown hgrow hHeld.out.size (fun k hk => (HOC7.out.lt k hk).1)
                    have HOX10 := Lib.hid hown
                    clear hown hgrow HLIT9 HOC7
                    refine hK.out _ _ (Lib.hid hbg) (fun hHeld2 => ?_)
                    clear hK K hHeld
                    have hHeld := hHeld2
                    clear hHeld2
                    try simp only [Act.put, List.setIfInBounds_toArray, List.set_cons_zero, List.set_cons_succ]
                    refine wpAnyH_ready (rs := [11]) (by kernel_rfl) (by simp) ?_
                    refine AllReadyH.cons (o := { dst := some 197, op := Go.Op.call { callee := Go.Callee.value (Go.Operand.func 11), args := #[Go.Operand.tmp 191, Go.Operand.tmp 196], argTypes := #[9, 22] }, type := 25, pos := "more.go:44", after := #[{ on := 5, ground := Go.Ground.data }, { on := 10, ground := Go.Ground.data }, { on := 10, ground := Go.Ground.chain }, { on := 4, ground := Go.Ground.guard }], guard := some (4, true) }) rfl (fun K hK => ?_) AllReadyH.nil
                    obtain ⟨ta11, tc11, rfl, hrt, _⟩ := rowR_own (l := SL ++ [⟨⟨apex, 63, xc⟩, xu, D2⟩]) (show we4.ownsRow wf.heap.size 30 5 vx10 (k + 1) (flatR (SL ++ [⟨⟨apex, 63, xc⟩, xu, D2⟩])) by rw [flatR_append]; simpa [flatR] using HOX10.out)
                    clear HOX10
                    go_simp
                    refine (check_any apex _ _ _ (SL ++ [⟨⟨apex, 63, xc⟩, xu, D2⟩]) _ hrt (by have := HNN.out; omega) (fun r hr => by
                      rcases List.mem_append.1 hr with h | h
                      · exact HSS.out r h
                      · rw [List.mem_singleton.1 h]; exact ⟨HA.out, by show D2.size ≤ 1000000; rw [HMO.out.2.1]; decide⟩) HA.out).mono ?_; rintro e we5 ⟨rfl, hb⟩
                    rw [HK0.out]
                    clear hrt
                    refine hK.out _ _ (Lib.hid (hHeld.out.trans (hb.mono hHeld.out.size))) (fun hHeld2 => ?_)
                    clear hK K hHeld
                    have hHeld := hHeld2
                    clear hHeld2
                    try simp only [Act.put, List.setIfInBounds_toArray, List.set_cons_zero, List.set_cons_succ]
                    refine Plan.of [12, 13, 14, 15, 16, 18] ?_
                    iterate 5 (refine Plan.w (v := ?_) rfl hHeld (by rfl) ?_ ?_; rotate_left; (focus (intro w hSw; (try dsimp only at hSw); go_simp; try with_reducible rfl)); try simp only [Act.put, List.setIfInBounds_toArray, List.set_cons_zero, List.set_cons_succ])
                    refine Plan.w (v := ?_) rfl hHeld (by rfl) ?_ ?_; rotate_left; (focus (intro w hSw; (try dsimp only at hSw); have hca := HQ17.out.below hSw.out; have s0 := (hca.2 0 _ rfl).1; have s1 := (hca.2 1 _ rfl).1; have s2 := (hca.2 2 _ rfl).1; have s3 := (hca.2 3 _ rfl).1; have s4 := (hca.2 4 _ rfl).1; go_simp; try with_reducible rfl)); try simp only [Act.put, List.setIfInBounds_toArray, List.set_cons_zero, List.set_cons_succ]
                    refine Plan.fin ?_
                    refine wpAnyH_ready (rs := [17, 19]) (by kernel_rfl) (by simp) ?_
                    refine AllReadyH.cons (o := { dst := some 203, op := Go.Op.call { callee := Go.Callee.value (Go.Operand.func 13), args := #[Go.Operand.tmp 202], argTypes := #[22] }, type := 22, pos := "more.go:44", after := #[{ on := 16, ground := Go.Ground.data }, { on := 14, ground := Go.Ground.chain }, { on := 14, ground := Go.Ground.guard }], guard := some (14, true) }) rfl (fun K hK => ?_) (AllReadyH.cons (o := { dst := some 205, op := Go.Op.buildSlice 22 1 #[(0, Go.Operand.tmp 204)], type := 22, pos := "more.go:44", after := #[{ on := 18, ground := Go.Ground.data }, { on := 14, ground := Go.Ground.guard }], guard := some (14, true) }) rfl (fun K hK => ?_) AllReadyH.nil)
                    · go_simp
                      refine (copyRRs_any _ k _ SL _ ((rowR_own2M HSF.out).1.below hHeld.out) (rowR_own2M HSF.out).2 (by have := HNN.out; omega)).mono ?_; rintro e we6 ⟨vc17, rfl, hown, hb⟩
                      have HOC17 := Lib.hid (own_monoM (base' := wf.heap.size) hown hHeld.out.size)
                      clear hown
                      refine hK.out _ _ (Lib.hid (hHeld.out.trans (hb.mono hHeld.out.size))) (fun hHeld2 => ?_)
                      clear hK K hHeld
                      have hHeld := hHeld2
                      clear hHeld2
                      try simp only [Act.put, List.setIfInBounds_toArray, List.set_cons_zero, List.set_cons_succ]
                      refine wpAnyH_ready (rs := [19]) (by kernel_rfl) (by simp) ?_
                      refine AllReadyH.cons (o := { dst := some 205, op := Go.Op.buildSlice 22 1 #[(0, Go.Operand.tmp 204)], type := 22, pos := "more.go:44", after := #[{ on := 18, ground := Go.Ground.data }, { on := 14, ground := Go.Ground.guard }], guard := some (14, true) }) rfl (fun K hK => ?_) AllReadyH.nil
                      go_simp
                      have hb := (Below.refl _ _ : Below we6.heap.size we6 we6).alloc (Nat.le_refl _) (.cells #[.string apex, .int .i64 63, .int .i64 xc, .int .i64 xu, .string D3] 30)
                      have HLIT19 := Lib.hid (show CellsAt (we6.alloc (.cells #[.string apex, .int .i64 63, .int .i64 xc, .int .i64 xu, .string D3] 30)) (some ⟨we6.heap.size, 0, none⟩) (1 * 5) (encR ⟨⟨apex, 63, xc⟩, xu, D3⟩) from cells_lit we6 #[.string apex, .int .i64 63, .int .i64 xc, .int .i64 xu, .string D3] 30)
                      obtain ⟨we7, hw⟩ : ∃ x, we6.alloc (.cells #[.string apex, .int .i64 63, .int .i64 xc, .int .i64 xu, .string D3] 30) = x := ⟨_, rfl⟩
                      obtain ⟨ge19, hge⟩ : ∃ x, we6.heap.size = x := ⟨_, rfl⟩
                      rw [hw] at hb HLIT19 ⊢
                      rw [hge] at HLIT19 ⊢
                      replace HOC17 := Lib.hid (own_below' HOC17.out hb)
                      clear hw hge
                      refine hK.out _ _ (Lib.hid (hHeld.out.trans (hb.mono hHeld.out.size))) (fun hHeld2 => ?_)
                      clear hK K hHeld
                      have hHeld := hHeld2
                      clear hHeld2
                      try simp only [Act.put, List.setIfInBounds_toArray, List.set_cons_zero, List.set_cons_succ]
                      refine wpAnyH_ready (rs := [20]) (by kernel_rfl) (by simp) ?_
                      refine AllReadyH.cons (o := { dst := some 206, op := Go.Op.call { callee := Go.Callee.builtin Go.Builtin.append, args := #[Go.Operand.tmp 203, Go.Operand.tmp 205], argTypes := #[22, 22] }, type := 22, pos := "more.go:44", after := #[{ on := 17, ground := Go.Ground.data }, { on := 19, ground := Go.Ground.data }, { on := 17, ground := Go.Ground.chain }, { on := 14, ground := Go.Ground.guard }], guard := some (14, true) }) rfl (fun K hK => ?_) AllReadyH.nil
                      refine step_append_cellsG (by rfl) _ _ 22 30 (by rfl) i0 _ 5 56 Try.underlying22 HI.out HZ0.out HZ1.out HZ2.out rfl (by decide) wf.heap.size _ k _ (by rfl) HOC17.out (some ⟨ge19, 0, none⟩) 1 1 (encR ⟨⟨apex, 63, xc⟩, xu, D3⟩) (by rfl) (fun h => by cases h) HLIT19.out (fun u hu => flatR_oneM (l := [⟨⟨apex, 63, xc⟩, xu, D3⟩]) (by simpa [flatR] using hu)) (by have := HNN.out; omega) (by decide) (hHeld.out.size) ?_
                      intro vx20 we8 hown hgrow
                      have hbg := hHeld.out.grown hgrow hHeld.out.size (fun k hk => (HOC17.out.lt k hk).1)
                      have HOX20 := Lib.hid hown
                      clear hown hgrow HLIT19 HOC17
                      refine hK.out _ _ (Lib.hid hbg) (fun hHeld2 => ?_)
                      clear hK K hHeld
                      have hHeld := hHeld2
                      clear hHeld2
                      try simp only [Act.put, List.setIfInBounds_toArray, List.set_cons_zero, List.set_cons_succ]
                      refine wpAnyH_ready (rs := [21]) (by kernel_rfl) (by simp) ?_
                      refine AllReadyH.cons (o := { dst := some 207, op := Go.Op.call { callee := Go.Callee.value (Go.Operand.func 11), args := #[Go.Operand.tmp 201, Go.Operand.tmp 206], argTypes := #[9, 22] }, type := 25, pos := "more.go:44", after := #[{ on := 15, ground := Go.Ground.data }, { on := 20, ground := Go.Ground.data }, { on := 20, ground := Go.Ground.chain }, { on := 14, ground := Go.Ground.guard }], guard := some (14, true) }) rfl (fun K hK => ?_) AllReadyH.nil
                      obtain ⟨ta21, tc21, rfl, hrt, _⟩ := rowR_own (l := SL ++ [⟨⟨apex, 63, xc⟩, xu, D3⟩]) (show we8.ownsRow wf.heap.size 30 5 vx20 (k + 1) (flatR (SL ++ [⟨⟨apex, 63, xc⟩, xu, D3⟩])) by rw [flatR_append]; simpa [flatR] using HOX20.out)
                      clear HOX20
                      go_simp
                      refine (check_any apex _ _ _ (SL ++ [⟨⟨apex, 63, xc⟩, xu, D3⟩]) _ hrt (by have := HNN.out; omega) (fun r hr => by
                        rcases List.mem_append.1 hr with h | h
                        · exact HSS.out r h
                        · rw [List.mem_singleton.1 h]; exact ⟨HA.out, by show D3.size ≤ 1000000; rw [HR3.out.1]; decide⟩) HA.out).mono ?_; rintro e we9 ⟨rfl, hb⟩
                      rw [HK6.out]
                      clear hrt
                      refine hK.out _ _ (Lib.hid (hHeld.out.trans (hb.mono hHeld.out.size))) (fun hHeld2 => ?_)
                      clear hK K hHeld
                      have hHeld := hHeld2
                      clear hHeld2
                      try simp only [Act.put, List.setIfInBounds_toArray, List.set_cons_zero, List.set_cons_succ]
                      refine Plan.of [22, 23, 24] ?_
                      iterate 3 (refine Plan.w (v := ?_) rfl hHeld (by rfl) ?_ ?_; rotate_left; (focus (intro w hSw; (try dsimp only at hSw); go_simp; try with_reducible rfl)); try simp only [Act.put, List.setIfInBounds_toArray, List.set_cons_zero, List.set_cons_succ])
                      refine Plan.fin ?_
                      refine wpAnyH_done (by kernel_rfl) ?_ _
                      have HBZ := Lib.hid (HBF.out.trans (hHeld.out.mono HBF.out.size))
                      clear hHeld
                      go_wp2
                      go_ret
                      exact ⟨rfl, HBZ.out⟩
                    · go_simp
                      have hb := (Below.refl _ _ : Below we5.heap.size we5 we5).alloc (Nat.le_refl _) (.cells #[.string apex, .int .i64 63, .int .i64 xc, .int .i64 xu, .string D3] 30)
                      have HLIT19 := Lib.hid (show CellsAt (we5.alloc (.cells #[.string apex, .int .i64 63, .int .i64 xc, .int .i64 xu, .string D3] 30)) (some ⟨we5.heap.size, 0, none⟩) (1 * 5) (encR ⟨⟨apex, 63, xc⟩, xu, D3⟩) from cells_lit we5 #[.string apex, .int .i64 63, .int .i64 xc, .int .i64 xu, .string D3] 30)
                      obtain ⟨we6, hw⟩ : ∃ x, we5.alloc (.cells #[.string apex, .int .i64 63, .int .i64 xc, .int .i64 xu, .string D3] 30) = x := ⟨_, rfl⟩
                      obtain ⟨ge19, hge⟩ : ∃ x, we5.heap.size = x := ⟨_, rfl⟩
                      rw [hw] at hb HLIT19 ⊢
                      rw [hge] at HLIT19 ⊢
                      clear hw hge
                      refine hK.out _ _ (Lib.hid (hHeld.out.trans (hb.mono hHeld.out.size))) (fun hHeld2 => ?_)
                      clear hK K hHeld
                      have hHeld := hHeld2
                      clear hHeld2
                      try simp only [Act.put, List.setIfInBounds_toArray, List.set_cons_zero, List.set_cons_succ]
                      refine wpAnyH_ready (rs := [17]) (by kernel_rfl) (by simp) ?_
                      refine AllReadyH.cons (o := { dst := some 203, op := Go.Op.call { callee := Go.Callee.value (Go.Operand.func 13), args := #[Go.Operand.tmp 202], argTypes := #[22] }, type := 22, pos := "more.go:44", after := #[{ on := 16, ground := Go.Ground.data }, { on := 14, ground := Go.Ground.chain }, { on := 14, ground := Go.Ground.guard }], guard := some (14, true) }) rfl (fun K hK => ?_) AllReadyH.nil
                      go_simp
                      refine (copyRRs_any _ k _ SL _ ((rowR_own2M HSF.out).1.below hHeld.out) (rowR_own2M HSF.out).2 (by have := HNN.out; omega)).mono ?_; rintro e we7 ⟨vc17, rfl, hown, hb⟩
                      have HOC17 := Lib.hid (own_monoM (base' := wf.heap.size) hown hHeld.out.size)
                      clear hown
                      replace HLIT19 := Lib.hid (HLIT19.out.below hb)
                      refine hK.out _ _ (Lib.hid (hHeld.out.trans (hb.mono hHeld.out.size))) (fun hHeld2 => ?_)
                      clear hK K hHeld
                      have hHeld := hHeld2
                      clear hHeld2
                      try simp only [Act.put, List.setIfInBounds_toArray, List.set_cons_zero, List.set_cons_succ]
                      refine wpAnyH_ready (rs := [20]) (by kernel_rfl) (by simp) ?_
                      refine AllReadyH.cons (o := { dst := some 206, op := Go.Op.call { callee := Go.Callee.builtin Go.Builtin.append, args := #[Go.Operand.tmp 203, Go.Operand.tmp 205], argTypes := #[22, 22] }, type := 22, pos := "more.go:44", after := #[{ on := 17, ground := Go.Ground.data }, { on := 19, ground := Go.Ground.data }, { on := 17, ground := Go.Ground.chain }, { on := 14, ground := Go.Ground.guard }], guard := some (14, true) }) rfl (fun K hK => ?_) AllReadyH.nil
                      refine step_append_cellsG (by rfl) _ _ 22 30 (by rfl) i0 _ 5 56 Try.underlying22 HI.out HZ0.out HZ1.out HZ2.out rfl (by decide) wf.heap.size _ k _ (by rfl) HOC17.out (some ⟨ge19, 0, none⟩) 1 1 (encR ⟨⟨apex, 63, xc⟩, xu, D3⟩) (by rfl) (fun h => by cases h) HLIT19.out (fun u hu => flatR_oneM (l := [⟨⟨apex, 63, xc⟩, xu, D3⟩]) (by simpa [flatR] using hu)) (by have := HNN.out; omega) (by decide) (hHeld.out.size) ?_
                      intro vx20 we8 hown hgrow
                      have hbg := hHeld.out.grown hgrow hHeld.out.size (fun k hk => (HOC17.out.lt k hk).1)
                      have HOX20 := Lib.hid hown
                      clear hown hgrow HLIT19 HOC17
                      refine hK.out _ _ (Lib.hid hbg) (fun hHeld2 => ?_)
                      clear hK K hHeld
                      have hHeld := hHeld2
                      clear hHeld2
                      try simp only [Act.put, List.setIfInBounds_toArray, List.set_cons_zero, List.set_cons_succ]
                      refine wpAnyH_ready (rs := [21]) (by kernel_rfl) (by simp) ?_
                      refine AllReadyH.cons (o := { dst := some 207, op := Go.Op.call { callee := Go.Callee.value (Go.Operand.func 11), args := #[Go.Operand.tmp 201, Go.Operand.tmp 206], argTypes := #[9, 22] }, type := 25, pos := "more.go:44", after := #[{ on := 15, ground := Go.Ground.data }, { on := 20, ground := Go.Ground.data }, { on := 20, ground := Go.Ground.chain }, { on := 14, ground := Go.Ground.guard }], guard := some (14, true) }) rfl (fun K hK => ?_) AllReadyH.nil
                      obtain ⟨ta21, tc21, rfl, hrt, _⟩ := rowR_own (l := SL ++ [⟨⟨apex, 63, xc⟩, xu, D3⟩]) (show we8.ownsRow wf.heap.size 30 5 vx20 (k + 1) (flatR (SL ++ [⟨⟨apex, 63, xc⟩, xu, D3⟩])) by rw [flatR_append]; simpa [flatR] using HOX20.out)
                      clear HOX20
                      go_simp
                      refine (check_any apex _ _ _ (SL ++ [⟨⟨apex, 63, xc⟩, xu, D3⟩]) _ hrt (by have := HNN.out; omega) (fun r hr => by
                        rcases List.mem_append.1 hr with h | h
                        · exact HSS.out r h
                        · rw [List.mem_singleton.1 h]; exact ⟨HA.out, by show D3.size ≤ 1000000; rw [HR3.out.1]; decide⟩) HA.out).mono ?_; rintro e we9 ⟨rfl, hb⟩
                      rw [HK6.out]
                      clear hrt
                      refine hK.out _ _ (Lib.hid (hHeld.out.trans (hb.mono hHeld.out.size))) (fun hHeld2 => ?_)
                      clear hK K hHeld
                      have hHeld := hHeld2
                      clear hHeld2
                      try simp only [Act.put, List.setIfInBounds_toArray, List.set_cons_zero, List.set_cons_succ]
                      refine Plan.of [22, 23, 24] ?_
                      iterate 3 (refine Plan.w (v := ?_) rfl hHeld (by rfl) ?_ ?_; rotate_left; (focus (intro w hSw; (try dsimp only at hSw); go_simp; try with_reducible rfl)); try simp only [Act.put, List.setIfInBounds_toArray, List.set_cons_zero, List.set_cons_succ])
                      refine Plan.fin ?_
                      refine wpAnyH_done (by kernel_rfl) ?_ _
                      have HBZ := Lib.hid (HBF.out.trans (hHeld.out.mono HBF.out.size))
                      clear hHeld
                      go_wp2
                      go_ret
                      exact ⟨rfl, HBZ.out⟩
                · go_simp
                  have hb := (Below.refl _ _ : Below wz0.heap.size wz0 wz0).alloc (Nat.le_refl _) (.cells #[.string ⟨#[]⟩, .int .i64 0, .int .i64 0, .int .i64 0, .string ⟨#[]⟩] 30)
                  have HZ17 := Lib.hid (CN.new wz0 #[.string ⟨#[]⟩, .int .i64 0, .int .i64 0, .int .i64 0, .string ⟨#[]⟩] 30)
                  obtain ⟨wz1, hw⟩ : ∃ x, wz0.alloc (.cells #[.string ⟨#[]⟩, .int .i64 0, .int .i64 0, .int .i64 0, .string ⟨#[]⟩] 30) = x := ⟨_, rfl⟩
                  obtain ⟨q17, hq⟩ : ∃ x, wz0.heap.size = x := ⟨_, rfl⟩
                  rw [hw] at hb HZ17 ⊢
                  rw [hq] at HZ17 ⊢
                  have HQX := Lib.hid (show q17 < wz1.heap.size from HZ17.out.1)
                  have HGq17 := Lib.hid (show wr.heap.size ≤ q17 from by rw [← hq]; exact hHeld.out.size)
                  clear hw hq
                  refine hK.out _ _ (Lib.hid (hHeld.out.trans (hb.mono hHeld.out.size))) (fun hHeld2 => ?_)
                  clear hK K hHeld
                  have hHeld := hHeld2
                  clear hHeld2
                  try simp only [Act.put, List.setIfInBounds_toArray, List.set_cons_zero, List.set_cons_succ]
                  refine wpAnyH_ready (rs := [2]) (by kernel_rfl) (by simp) ?_
                  refine AllReadyH.cons (o := { dst := some 16, op := Go.Op.alloc 30, type := 0, pos := "more.go:34", after := #[], guard := none }) rfl (fun K hK => ?_) AllReadyH.nil
                  go_simp
                  have hb := (Below.refl _ _ : Below wz1.heap.size wz1 wz1).alloc (Nat.le_refl _) (.cells #[.string ⟨#[]⟩, .int .i64 0, .int .i64 0, .int .i64 0, .string ⟨#[]⟩] 30)
                  have HZ16 := Lib.hid (CN.new wz1 #[.string ⟨#[]⟩, .int .i64 0, .int .i64 0, .int .i64 0, .string ⟨#[]⟩] 30)
                  replace HZ17 := Lib.hid (HZ17.out.below hb)
                  have HQ67 := Lib.hid (show q17 ≠ wz1.heap.size from Nat.ne_of_lt HQX.out)
                  obtain ⟨wz2, hw⟩ : ∃ x, wz1.alloc (.cells #[.string ⟨#[]⟩, .int .i64 0, .int .i64 0, .int .i64 0, .string ⟨#[]⟩] 30) = x := ⟨_, rfl⟩
                  obtain ⟨q16, hq⟩ : ∃ x, wz1.heap.size = x := ⟨_, rfl⟩
                  rw [hw] at hb HZ16 HZ17 ⊢
                  rw [hq] at HZ16 HQ67 ⊢
                  have HGq16 := Lib.hid (show wr.heap.size ≤ q16 from by rw [← hq]; exact hHeld.out.size)
                  clear hw hq
                  refine hK.out _ _ (Lib.hid (hHeld.out.trans (hb.mono hHeld.out.size))) (fun hHeld2 => ?_)
                  clear hK K hHeld
                  have hHeld := hHeld2
                  clear hHeld2
                  try simp only [Act.put, List.setIfInBounds_toArray, List.set_cons_zero, List.set_cons_succ]
                  refine wpAnyH_ready (rs := [4]) (by kernel_rfl) (by simp) ?_
                  refine AllReadyH.cons (o := { dst := none, op := Go.Op.store 30 (Go.Operand.tmp 16) (Go.Operand.tmp 161), type := 0, pos := "more.go:34", after := #[{ on := 2, ground := Go.Ground.data }, { on := 0, ground := Go.Ground.data }, { on := 0, ground := Go.Ground.phase }, { on := 1, ground := Go.Ground.textOnly Go.Departure.lateStores }, { on := 2, ground := Go.Ground.phase }, { on := 3, ground := Go.Ground.phase }], guard := none }) rfl (fun K hK => ?_) AllReadyH.nil
                  refine step_store_box rfl 30 (.tmp 16) (.tmp 161) rfl [.string apex, .int .i64 63, .int .i64 xc, .int .i64 xu, .string DT] rfl rfl HZ16.out rfl (by kernel_rfl) (by rfl) ?_
                  intro wz3 hcn hgz
                  have hbg := hHeld.out.grown hgz hHeld.out.size (fun k hk => by injection hk with hk; rw [← hk]; exact HGq16.out)
                  have HZ17b := Lib.hid (HZ17.out.grown hgz (fun e => HQ67.out (Option.some.inj e)))
                  have HO16 := Lib.hid hcn
                  clear hcn hgz HZ16 HZ17
                  simp only [Act.put]
                  refine hK.out _ _ (Lib.hid hbg) (fun hHeld2 => ?_)
                  clear hK K hHeld
                  have hHeld := hHeld2
                  clear hHeld2
                  try simp only [Act.put, List.setIfInBounds_toArray, List.set_cons_zero, List.set_cons_succ]
                  refine wpAnyH_ready (rs := [5]) (by kernel_rfl) (by simp) ?_
                  refine AllReadyH.cons (o := { dst := none, op := Go.Op.store 30 (Go.Operand.tmp 17) (Go.Operand.tmp 162), type := 0, pos := "more.go:34", after := #[{ on := 3, ground := Go.Ground.data }, { on := 1, ground := Go.Ground.data }, { on := 4, ground := Go.Ground.chain }, { on := 0, ground := Go.Ground.phase }, { on := 1, ground := Go.Ground.phase }, { on := 2, ground := Go.Ground.phase }, { on := 3, ground := Go.Ground.phase }, { on := 4, ground := Go.Ground.phase }], guard := none }) rfl (fun K hK => ?_) AllReadyH.nil
                  refine step_store_box rfl 30 (.tmp 17) (.tmp 162) rfl [.string apex, .int .i64 63, .int .i64 xc, .int .i64 xu, .string DT] rfl rfl HZ17b.out rfl (by kernel_rfl) (by rfl) ?_
                  intro wz4 hcn hgz
                  have hbg := hHeld.out.grown hgz hHeld.out.size (fun k hk => by injection hk with hk; rw [← hk]; exact HGq17.out)
                  replace HO16 := Lib.hid (HO16.out.grown hgz (fun e => (fun e => HQ67.out e.symm) (Option.some.inj e)))
                  have HO17 := Lib.hid hcn
                  clear hcn hgz HZ17b
                  simp only [Act.put]
                  refine hK.out _ _ (Lib.hid hbg) (fun hHeld2 => ?_)
                  clear hK K hHeld
                  have hHeld := hHeld2
                  clear hHeld2
                  try simp only [Act.put, List.setIfInBounds_toArray, List.set_cons_zero, List.set_cons_succ]
                  refine wpAnyH_done (by kernel_rfl) ?_ _
                  have HW := Lib.hid hHeld.out
                  clear hHeld HQX
                  have HQ67b := Lib.hid (show q16 ≠ q17 from fun e => HQ67.out e.symm)
                  clear HQ67
                  have HQ67 := HQ67b
                  have hmd := HMD.out.below HW.out
                  obtain ⟨m0, m1, m2, m3, _⟩ := cn4 hmd
                  clear hmd
                  have HQA := Lib.hid (show q16 < wz4.heap.size ∧ q17 < wz4.heap.size from ⟨HO16.out.1, HO17.out.1⟩)
                  have HQS := Lib.hid (show wr.heap.size ≤ wz4.heap.size from HW.out.size)
                  have hba := (Below.refl _ _ : Below wz4.heap.size wz4 wz4).alloc (Nat.le_refl _) (.cells #[.int .i64 i2, .int .i64 1, .int .i64 1, .string DG] 32)
                  have HN4 := Lib.hid (CN.new wz4 #[.int .i64 i2, .int .i64 1, .int .i64 1, .string DG] 32)
                  replace HW := Lib.hid (HW.out.trans (hba.mono HW.out.size))
                  replace HO16 := Lib.hid (HO16.out.below hba)
                  replace HO17 := Lib.hid (HO17.out.below hba)
                  obtain ⟨w8, hw⟩ : ∃ x, wz4.alloc (.cells #[.int .i64 i2, .int .i64 1, .int .i64 1, .string DG] 32) = x := ⟨_, rfl⟩
                  obtain ⟨q8, hq⟩ : ∃ x, wz4.heap.size = x := ⟨_, rfl⟩
                  rw [hw, hq] at HN4
                  rw [hw] at HW HO16 HO17
                  have HW := Lib.hid hw
                  have HQ_ := Lib.hid hq
                  rw [hq] at HQA HQS
                  clear hba hw hq
                  go_upto_region 21 with (fail)
                  rw [HW.out, HQ_.out]
                  clear HW HQ_
                  clear m0 m1 m2 m3
                  have m2 := HN4.out.2 2 _ rfl
                  obtain ⟨m2c, m2f⟩ := m2
                  have hgm := grown_cell w8 q8 2 (.int .i64 hash)
                  have HN5 := Lib.hid (HN4.out.set 2 (by simp) (.int .i64 hash))
                  replace HW := Lib.hid (HW.out.grown hgm HW.out.size (fun k hk => by injection hk with hk; rw [← hk]; exact HQS.out))
                  replace HO16 := Lib.hid (HO16.out.grown hgm (fun e => by have e := Option.some.inj e; have := HQA.out.1; omega))
                  replace HO17 := Lib.hid (HO17.out.grown hgm (fun e => by have e := Option.some.inj e; have := HQA.out.2; omega))
                  go_upto_region 22 with (fail)
                  obtain ⟨wa, hwa⟩ : ∃ x, w8.setCell ⟨q8, 2, none⟩ (.int .i64 hash) = x := ⟨_, rfl⟩
                  rw [hwa] at HW HO16 HO17 HN5 ⊢
                  clear hwa hgm m2c m2f HN4
                  have HN6 := Lib.hid (show CN wa q8 [.int .i64 i2, .int .i64 1, .int .i64 hash, .string DG] from HN5.out)
                  obtain ⟨m0, m1, m2, m3, _⟩ := cn4 HN6.out
                  go_wp2_with fail
                  refine (putMd_any i2 1 hash DG _ (by rw [HDS.out]; decide)).mono ?_; rintro e w9 ⟨rfl, hb⟩
                  clear m0 m1 m2 m3
                  replace HW := Lib.hid (HW.out.trans (hb.mono HW.out.size))
                  replace HO16 := Lib.hid (HO16.out.below hb)
                  replace HO17 := Lib.hid (HO17.out.below hb)
                  clear hb
                  clear HN5 HN6
                  have HMO := Lib.hid (md_other HFI.out HHH.out HDS.out)
                  rw [HMO.out.2.2.1, HMO.out.2.2.2.1]
                  obtain ⟨D2, hD2⟩ : ∃ x, mdData i2 1 hash DG = x := ⟨_, rfl⟩
                  rw [hD2] at HMO ⊢
                  clear hD2
                  obtain ⟨m2c, m2f⟩ := HO16.out.2 4 _ rfl
                  have hgm := grown_cell w9 q16 4 (.string D2)
                  have HP16 := Lib.hid (HO16.out.set 4 (by simp) (.string D2))
                  replace HW := Lib.hid (HW.out.grown hgm HW.out.size (fun k hk => by injection hk with hk; rw [← hk]; exact HGq16.out))
                  replace HO17 := Lib.hid (HO17.out.grown hgm (fun e => by have e := Option.some.inj e; exact HQ67.out e.symm))
                  go_upto_region 23 with (fail)
                  obtain ⟨wb2, hwb⟩ : ∃ x, w9.setCell ⟨q16, 4, none⟩ (.string D2) = x := ⟨_, rfl⟩
                  rw [hwb] at HW HP16 HO17 ⊢
                  clear hwb hgm m2c m2f HO16
                  have HQ16 := Lib.hid (show CN wb2 q16 [.string apex, .int .i64 63, .int .i64 xc, .int .i64 xu, .string D2] from HP16.out)
                  clear HP16
                  have hl := HL.out.below HW.out
                  have x4 := (hl.2 4 _ rfl).1
                  clear hl
                  go_wp2_with (refine conv_bytes rfl _ rfl DT rfl ?_)
                  intro cap w30 hcap hb hsz hcell hfr
                  clear x4
                  have hSL : DT.data.toList.length = DT.size := by rw [Array.length_toList]; rfl
                  obtain ⟨ML, hML⟩ : ∃ x, DT.data.toList = x := ⟨_, rfl⟩
                  have HMLE := Lib.hid hML
                  have HDB := Lib.hid (show CN w30 wb2.heap.size (bc ML) from ⟨by rw [hsz]; omega, fun j u hj => by
                    have hjl : j < DT.size := by have := (List.getElem?_eq_some_iff.1 hj).1; rw [bc_length, ← hML, hSL] at this; exact this
                    refine ⟨?_, hfr j hjl⟩
                    rw [hcell j hjl, ← hj, bc, List.getElem?_map, ← hML, Array.getElem?_toList, Array.getElem?_eq_getElem (show j < DT.data.size from hjl)]
                    rfl⟩)
                  have HML := Lib.hid (show ML.length = 54 by rw [← hML, hSL, HDZ.out])
                  have HQB := Lib.hid (show q16 < wb2.heap.size ∧ q17 < wb2.heap.size ∧ wr.heap.size ≤ wb2.heap.size from ⟨HQ16.out.1, HO17.out.1, HW.out.size⟩)
                  replace HW := Lib.hid (HW.out.trans (hb.mono HW.out.size))
                  replace HQ16 := Lib.hid (HQ16.out.below hb)
                  replace HO17 := Lib.hid (HO17.out.below hb)
                  have HCAP := Lib.hid hcap
                  clear hb hsz hcell hfr hSL hcap
                  obtain ⟨qd, hqd⟩ : ∃ x, wb2.heap.size = x := ⟨_, rfl⟩
                  rw [hqd] at HDB HQB ⊢
                  have hdz := HDZ.out
                  rw [hdz]
                  clear hqd hML hdz
                  obtain ⟨bc0, bf0⟩ := HDB.out.bat 53 (by rw [HML.out]; decide)
                  obtain ⟨xb, hxb⟩ : ∃ x, ML[53]'(by rw [HML.out]; decide) = x := ⟨_, rfl⟩
                  rw [hxb] at bc0
                  have hadd := add1M xb
                  have HXB := Lib.hid hxb
                  have HD4 := Lib.hid (HDB.out.bset 53 (by rw [HML.out]; decide) (xb + 1))
                  have hgm := grown_cell w30 qd 53 (.int .u8 ((xb + 1).toNat : Int))
                  replace HW := Lib.hid (HW.out.grown hgm HW.out.size (fun k hk => by injection hk with hk; rw [← hk]; exact HQB.out.2.2))
                  replace HQ16 := Lib.hid (HQ16.out.grown hgm (fun e => by have e := Option.some.inj e; have := HQB.out.1; omega))
                  replace HO17 := Lib.hid (HO17.out.grown hgm (fun e => by have e := Option.some.inj e; have := HQB.out.2.1; omega))
                  clear hxb
                  obtain ⟨yb, hyb⟩ : ∃ x, xb + 1 = x := ⟨_, rfl⟩
                  rw [hyb] at hadd HD4 HW HQ16 HO17
                  have HYB := Lib.hid hyb
                  clear hyb hgm
                  go_upto_region 27 with (fail)
                  obtain ⟨w31, hw31⟩ : ∃ x, w30.setCell ⟨qd, 53, none⟩ (.int .u8 (yb.toNat : Int)) = x := ⟨_, rfl⟩
                  rw [hw31] at HW HQ16 HO17 HD4 ⊢
                  clear hw31 hadd bc0 bf0 HDB
                  obtain ⟨NL, hNL⟩ : ∃ x, ML.set 53 yb = x := ⟨_, rfl⟩
                  rw [hNL] at HD4
                  have HNL := Lib.hid hNL
                  clear hNL
                  have hcv := conv_row (cap := cap) (n := 54) (HD4.out.rowB (show NL.length = 54 by rw [← HNL.out, List.length_set, HML.out])) (fun h => by cases h)
                  obtain ⟨D3, hD3⟩ : ∃ x, bs NL = x := ⟨_, rfl⟩
                  rw [hD3] at hcv
                  have HD3 := Lib.hid hD3
                  clear hD3
                  obtain ⟨m2c, m2f⟩ := HO17.out.2 4 _ rfl
                  have hgm := grown_cell w31 q17 4 (.string D3)
                  have HP17 := Lib.hid (HO17.out.set 4 (by simp) (.string D3))
                  replace HW := Lib.hid (HW.out.grown hgm HW.out.size (fun k hk => by injection hk with hk; rw [← hk]; exact HGq17.out))
                  replace HQ16 := Lib.hid (HQ16.out.grown hgm (fun e => by have e := Option.some.inj e; exact HQ67.out e))
                  go_upto_region 28 with (fail)
                  obtain ⟨wf, hwf⟩ : ∃ x, w31.setCell ⟨q17, 4, none⟩ (.string D3) = x := ⟨_, rfl⟩
                  rw [hwf] at HW HP17 HQ16 ⊢
                  clear hwf hgm m2c m2f hcv HO17 HD4
                  have HQ17 := Lib.hid (show CN wf q17 [.string apex, .int .i64 63, .int .i64 xc, .int .i64 xu, .string D3] from HP17.out)
                  clear HP17
                  have HBF := Lib.hid (HB.out.trans (HW.out.mono HB.out.size))
                  have HSF := Lib.hid (own_below' HSO.out HW.out)
                  have HMEM := Lib.hid (show ∀ M : R5, ∀ r, r ∈ SL ++ [M] ↔ (r ∈ l ∧ isMd apex r = false) ∨ r ∈ [⟨⟨apex, 63, xc⟩, xu, DT⟩, M] from fun M r => by
                    rw [HS2.out, ← HTT.out, List.mem_append, List.mem_append, keepM_mem, List.mem_singleton, List.mem_singleton, List.mem_cons, List.mem_singleton, or_assoc])
                  have HR2 := Lib.hid (show isMd apex ⟨⟨apex, 63, xc⟩, xu, D2⟩ = true ∧ mayM ⟨⟨apex, 63, xc⟩, xu, D2⟩ = true ∧ isMd1 apex ⟨⟨apex, 63, xc⟩, xu, D2⟩ = false from ⟨isMd_iff.2 ⟨rfl, rfl⟩, HZN.out.may HMO.out.1, by
                    show (mayD 63 D2 && (_ && (_ && ((byteAt D2 5 : Int) == 1)))) = false
                    rw [eF (a := (byteAt D2 5 : Int)) (b := 1) (by rw [HMO.out.2.2.2.2]; have := HHH.out; omega)]
                    simp⟩)
                  have HK0 := Lib.hid (show chkE apex (SL ++ [⟨⟨apex, 63, xc⟩, xu, D2⟩]) = 0 by
                    have h := HZN.out.checkE (E := [⟨⟨apex, 63, xc⟩, xu, DT⟩, ⟨⟨apex, 63, xc⟩, xu, D2⟩]) (R := ⟨⟨apex, 63, xc⟩, xu, DT⟩) (fun r hr => by
                      rcases List.mem_cons.1 hr with rfl | hr
                      · exact ⟨HRM2.out.1, HRM2.out.2.2⟩
                      · rw [List.mem_singleton.1 hr]; exact ⟨HR2.out.1, HR2.out.2.1⟩) (HMEM.out _) (fun r => by
                      constructor
                      · rintro ⟨h1, h2⟩
                        rcases List.mem_cons.1 h1 with h1 | h1
                        · exact h1
                        · rw [List.mem_singleton.1 h1, HR2.out.2.2] at h2; cases h2
                      · rintro rfl; exact ⟨List.mem_cons_self .., HRM2.out.2.1⟩)
                    rw [h]
                    show (if getN DT 0 4 = getN (soaT xd) 0 4 then (if DT.extract 6 DT.size = bs (shaL (dgL apex l)) then (0 : Int) else 5) else 12) = 0
                    rw [HMP.out.1, HMP.out.2.2.2, HI2.out, HDG.out, if_pos rfl, if_pos rfl])
                  have HR3 := Lib.hid (show D3.size = 54 ∧ isMd apex ⟨⟨apex, 63, xc⟩, xu, D3⟩ = true ∧ mayM ⟨⟨apex, 63, xc⟩, xu, D3⟩ = true ∧ isMd1 apex ⟨⟨apex, 63, xc⟩, xu, D3⟩ = true ∧ DT ≠ D3 from by
                    have hz3 : D3.size = 54 := by rw [← HD3.out, bs_size, ← HNL.out, List.length_set, HML.out]
                    have ht := md_turn HDZ.out hz3 HMP.out.2.1 HMP.out.2.2.1 (fun j hj => by
                      unfold byteAt
                      rw [show D3.data.toList = NL from by rw [← HD3.out]; rfl, ← HNL.out, HMLE.out, List.getD_eq_getElem?_getD, List.getD_eq_getElem?_getD, List.getElem?_set_ne (by omega)])
                    refine ⟨hz3, isMd_iff.2 ⟨rfl, rfl⟩, HZN.out.may ht.1, md1_of (x := ⟨⟨xn, xt, xc⟩, xu, xd⟩) ht.1 ht.2.1 ht.2.2.1, fun e => ?_⟩
                    have h9 : ML = NL := by rw [← HMLE.out, e, ← HD3.out]; rfl
                    have h8 : ML[53]? = (ML.set 53 yb)[53]? := by rw [HNL.out, ← h9]
                    rw [List.getElem?_set_self (by rw [HML.out]; decide), List.getElem?_eq_getElem (by rw [HML.out]; decide), HXB.out] at h8
                    exact add1_ne xb (HYB.out.trans (Option.some.inj h8).symm))
                  have HK6 := Lib.hid (show chkE apex (SL ++ [⟨⟨apex, 63, xc⟩, xu, D3⟩]) = 6 from HZN.out.two (E := [⟨⟨apex, 63, xc⟩, xu, DT⟩, ⟨⟨apex, 63, xc⟩, xu, D3⟩]) (fun r hr => by
                    rcases List.mem_cons.1 hr with rfl | hr
                    · exact ⟨HRM2.out.1, HRM2.out.2.2⟩
                    · rw [List.mem_singleton.1 hr]; exact ⟨HR3.out.2.1, HR3.out.2.2.1⟩) (HMEM.out _) (R := ⟨⟨apex, 63, xc⟩, xu, DT⟩) (R2 := ⟨⟨apex, 63, xc⟩, xu, D3⟩) ⟨List.mem_cons_self .., HRM2.out.2.1⟩ ⟨List.mem_cons.2 (Or.inr (List.mem_singleton.2 rfl)), HR3.out.2.2.2.1⟩ (fun e => HR3.out.2.2.2.2 (by injection e)))
                  refine wp_region_held_drew (S := (fun wx => Hid (Below wf.heap.size wf wx))) (by kernel_rfl) (Lib.hid (Below.refl _ _).drew) (fun hHeld => ?_)
                  obtain ⟨we0, hwd⟩ : ∃ z, wf.drew = z := ⟨_, rfl⟩
                  rw [hwd] at hHeld ⊢
                  clear hwd
                  refine wpAnyH_ready (rs := [0]) (by kernel_rfl) (by simp) ?_
                  refine AllReadyH.cons (o := { dst := some 186, op := Go.Op.call { callee := Go.Callee.value (Go.Operand.func 8), args := #[], argTypes := #[] }, type := 4, pos := "more.go:44", after := #[], guard := none }) rfl (fun K hK => ?_) AllReadyH.nil
                  go_simp
                  refine (first9 _).mono ?_; rintro e we1 ⟨rfl, hb⟩
                  refine hK.out _ _ (Lib.hid (hHeld.out.trans (hb.mono hHeld.out.size))) (fun hHeld2 => ?_)
                  clear hK K hHeld
                  have hHeld := hHeld2
                  clear hHeld2
                  try simp only [Act.put, List.setIfInBounds_toArray, List.set_cons_zero, List.set_cons_succ]
                  refine Plan.of [1, 2, 3, 4, 5, 6, 8] ?_
                  iterate 6 (refine Plan.w (v := ?_) rfl hHeld (by rfl) ?_ ?_; rotate_left; (focus (intro w hSw; (try dsimp only at hSw); go_simp; try with_reducible rfl)); try simp only [Act.put, List.setIfInBounds_toArray, List.set_cons_zero, List.set_cons_succ])
                  refine Plan.w (v := ?_) rfl hHeld (by rfl) ?_ ?_; rotate_left; (focus (intro w hSw; (try dsimp only at hSw); have hca := HQ16.out.below hSw.out; have s0 := (hca.2 0 _ rfl).1; have s1 := (hca.2 1 _ rfl).1; have s2 := (hca.2 2 _ rfl).1; have s3 := (hca.2 3 _ rfl).1; have s4 := (hca.2 4 _ rfl).1; go_simp; try with_reducible rfl)); try simp only [Act.put, List.setIfInBounds_toArray, List.set_cons_zero, List.set_cons_succ]
                  refine Plan.fin ?_
                  refine wpAnyH_ready (rs := [7, 9]) (by kernel_rfl) (by simp) ?_
                  refine AllReadyH.cons (o := { dst := some 193, op := Go.Op.call { callee := Go.Callee.value (Go.Operand.func 13), args := #[Go.Operand.tmp 192], argTypes := #[22] }, type := 22, pos := "more.go:44", after := #[{ on := 6, ground := Go.Ground.data }, { on := 4, ground := Go.Ground.chain }, { on := 4, ground := Go.Ground.guard }], guard := some (4, true) }) rfl (fun K hK => ?_) (AllReadyH.cons (o := { dst := some 195, op := Go.Op.buildSlice 22 1 #[(0, Go.Operand.tmp 194)], type := 22, pos := "more.go:44", after := #[{ on := 8, ground := Go.Ground.data }, { on := 4, ground := Go.Ground.guard }], guard := some (4, true) }) rfl (fun K hK => ?_) AllReadyH.nil)
                  · go_simp
                    refine (copyRRs_any _ k _ SL _ ((rowR_own2M HSF.out).1.below hHeld.out) (rowR_own2M HSF.out).2 (by have := HNN.out; omega)).mono ?_; rintro e we2 ⟨vc7, rfl, hown, hb⟩
                    have HOC7 := Lib.hid (own_monoM (base' := wf.heap.size) hown hHeld.out.size)
                    clear hown
                    refine hK.out _ _ (Lib.hid (hHeld.out.trans (hb.mono hHeld.out.size))) (fun hHeld2 => ?_)
                    clear hK K hHeld
                    have hHeld := hHeld2
                    clear hHeld2
                    try simp only [Act.put, List.setIfInBounds_toArray, List.set_cons_zero, List.set_cons_succ]
                    refine wpAnyH_ready (rs := [9]) (by kernel_rfl) (by simp) ?_
                    refine AllReadyH.cons (o := { dst := some 195, op := Go.Op.buildSlice 22 1 #[(0, Go.Operand.tmp 194)], type := 22, pos := "more.go:44", after := #[{ on := 8, ground := Go.Ground.data }, { on := 4, ground := Go.Ground.guard }], guard := some (4, true) }) rfl (fun K hK => ?_) AllReadyH.nil
                    go_simp
                    have hb := (Below.refl _ _ : Below we2.heap.size we2 we2).alloc (Nat.le_refl _) (.cells #[.string apex, .int .i64 63, .int .i64 xc, .int .i64 xu, .string D2] 30)
                    have HLIT9 := Lib.hid (show CellsAt (we2.alloc (.cells #[.string apex, .int .i64 63, .int .i64 xc, .int .i64 xu, .string D2] 30)) (some ⟨we2.heap.size, 0, none⟩) (1 * 5) (encR ⟨⟨apex, 63, xc⟩, xu, D2⟩) from cells_lit we2 #[.string apex, .int .i64 63, .int .i64 xc, .int .i64 xu, .string D2] 30)
                    obtain ⟨we3, hw⟩ : ∃ x, we2.alloc (.cells #[.string apex, .int .i64 63, .int .i64 xc, .int .i64 xu, .string D2] 30) = x := ⟨_, rfl⟩
                    obtain ⟨ge9, hge⟩ : ∃ x, we2.heap.size = x := ⟨_, rfl⟩
                    rw [hw] at hb HLIT9 ⊢
                    rw [hge] at HLIT9 ⊢
                    replace HOC7 := Lib.hid (own_below' HOC7.out hb)
                    clear hw hge
                    refine hK.out _ _ (Lib.hid (hHeld.out.trans (hb.mono hHeld.out.size))) (fun hHeld2 => ?_)
                    clear hK K hHeld
                    have hHeld := hHeld2
                    clear hHeld2
                    try simp only [Act.put, List.setIfInBounds_toArray, List.set_cons_zero, List.set_cons_succ]
                    refine wpAnyH_ready (rs := [10]) (by kernel_rfl) (by simp) ?_
                    refine AllReadyH.cons (o := { dst := some 196, op := Go.Op.call { callee := Go.Callee.builtin Go.Builtin.append, args := #[Go.Operand.tmp 193, Go.Operand.tmp 195], argTypes := #[22, 22] }, type := 22, pos := "more.go:44", after := #[{ on := 7, ground := Go.Ground.data }, { on := 9, ground := Go.Ground.data }, { on := 7, ground := Go.Ground.chain }, { on := 4, ground := Go.Ground.guard }], guard := some (4, true) }) rfl (fun K hK => ?_) AllReadyH.nil
                    refine step_append_cellsG (by rfl) _ _ 22 30 (by rfl) i0 _ 5 56 Try.underlying22 HI.out HZ0.out HZ1.out HZ2.out rfl (by decide) wf.heap.size _ k _ (by rfl) HOC7.out (some ⟨ge9, 0, none⟩) 1 1 (encR ⟨⟨apex, 63, xc⟩, xu, D2⟩) (by rfl) (fun h => by cases h) HLIT9.out (fun u hu => flatR_oneM (l := [⟨⟨apex, 63, xc⟩, xu, D2⟩]) (by simpa [flatR] using hu)) (by have := HNN.out; omega) (by decide) (hHeld.out.size) ?_
                    intro vx10 we4 hown hgrow
                    have hbg := hHeld.out.grown hgrow hHeld.out.size (fun k hk => (HOC7.out.lt k hk).1)
                    have HOX10 := Lib.hid hown
                    clear hown hgrow HLIT9 HOC7
                    refine hK.out _ _ (Lib.hid hbg) (fun hHeld2 => ?_)
                    clear hK K hHeld
                    have hHeld := hHeld2
                    clear hHeld2
                    try simp only [Act.put, List.setIfInBounds_toArray, List.set_cons_zero, List.set_cons_succ]
                    refine wpAnyH_ready (rs := [11]) (by kernel_rfl) (by simp) ?_
                    refine AllReadyH.cons (o := { dst := some 197, op := Go.Op.call { callee := Go.Callee.value (Go.Operand.func 11), args := #[Go.Operand.tmp 191, Go.Operand.tmp 196], argTypes := #[9, 22] }, type := 25, pos := "more.go:44", after := #[{ on := 5, ground := Go.Ground.data }, { on := 10, ground := Go.Ground.data }, { on := 10, ground := Go.Ground.chain }, { on := 4, ground := Go.Ground.guard }], guard := some (4, true) }) rfl (fun K hK => ?_) AllReadyH.nil
                    obtain ⟨ta11, tc11, rfl, hrt, _⟩ := rowR_own (l := SL ++ [⟨⟨apex, 63, xc⟩, xu, D2⟩]) (show we4.ownsRow wf.heap.size 30 5 vx10 (k + 1) (flatR (SL ++ [⟨⟨apex, 63, xc⟩, xu, D2⟩])) by rw [flatR_append]; simpa [flatR] using HOX10.out)
                    clear HOX10
                    go_simp
                    refine (check_any apex _ _ _ (SL ++ [⟨⟨apex, 63, xc⟩, xu, D2⟩]) _ hrt (by have := HNN.out; omega) (fun r hr => by
                      rcases List.mem_append.1 hr with h | h
                      · exact HSS.out r h
                      · rw [List.mem_singleton.1 h]; exact ⟨HA.out, by show D2.size ≤ 1000000; rw [HMO.out.2.1]; decide⟩) HA.out).mono ?_; rintro e we5 ⟨rfl, hb⟩
                    rw [HK0.out]
                    clear hrt
                    refine hK.out _ _ (Lib.hid (hHeld.out.trans (hb.mono hHeld.out.size))) (fun hHeld2 => ?_)
                    clear hK K hHeld
                    have hHeld := hHeld2
                    clear hHeld2
                    try simp only [Act.put, List.setIfInBounds_toArray, List.set_cons_zero, List.set_cons_succ]
                    refine Plan.of [12, 13, 14, 15, 16, 18] ?_
                    iterate 5 (refine Plan.w (v := ?_) rfl hHeld (by rfl) ?_ ?_; rotate_left; (focus (intro w hSw; (try dsimp only at hSw); go_simp; try with_reducible rfl)); try simp only [Act.put, List.setIfInBounds_toArray, List.set_cons_zero, List.set_cons_succ])
                    refine Plan.w (v := ?_) rfl hHeld (by rfl) ?_ ?_; rotate_left; (focus (intro w hSw; (try dsimp only at hSw); have hca := HQ17.out.below hSw.out; have s0 := (hca.2 0 _ rfl).1; have s1 := (hca.2 1 _ rfl).1; have s2 := (hca.2 2 _ rfl).1; have s3 := (hca.2 3 _ rfl).1; have s4 := (hca.2 4 _ rfl).1; go_simp; try with_reducible rfl)); try simp only [Act.put, List.setIfInBounds_toArray, List.set_cons_zero, List.set_cons_succ]
                    refine Plan.fin ?_
                    refine wpAnyH_ready (rs := [17, 19]) (by kernel_rfl) (by simp) ?_
                    refine AllReadyH.cons (o := { dst := some 203, op := Go.Op.call { callee := Go.Callee.value (Go.Operand.func 13), args := #[Go.Operand.tmp 202], argTypes := #[22] }, type := 22, pos := "more.go:44", after := #[{ on := 16, ground := Go.Ground.data }, { on := 14, ground := Go.Ground.chain }, { on := 14, ground := Go.Ground.guard }], guard := some (14, true) }) rfl (fun K hK => ?_) (AllReadyH.cons (o := { dst := some 205, op := Go.Op.buildSlice 22 1 #[(0, Go.Operand.tmp 204)], type := 22, pos := "more.go:44", after := #[{ on := 18, ground := Go.Ground.data }, { on := 14, ground := Go.Ground.guard }], guard := some (14, true) }) rfl (fun K hK => ?_) AllReadyH.nil)
                    · go_simp
                      refine (copyRRs_any _ k _ SL _ ((rowR_own2M HSF.out).1.below hHeld.out) (rowR_own2M HSF.out).2 (by have := HNN.out; omega)).mono ?_; rintro e we6 ⟨vc17, rfl, hown, hb⟩
                      have HOC17 := Lib.hid (own_monoM (base' := wf.heap.size) hown hHeld.out.size)
                      clear hown
                      refine hK.out _ _ (Lib.hid (hHeld.out.trans (hb.mono hHeld.out.size))) (fun hHeld2 => ?_)
                      clear hK K hHeld
                      have hHeld := hHeld2
                      clear hHeld2
                      try simp only [Act.put, List.setIfInBounds_toArray, List.set_cons_zero, List.set_cons_succ]
                      refine wpAnyH_ready (rs := [19]) (by kernel_rfl) (by simp) ?_
                      refine AllReadyH.cons (o := { dst := some 205, op := Go.Op.buildSlice 22 1 #[(0, Go.Operand.tmp 204)], type := 22, pos := "more.go:44", after := #[{ on := 18, ground := Go.Ground.data }, { on := 14, ground := Go.Ground.guard }], guard := some (14, true) }) rfl (fun K hK => ?_) AllReadyH.nil
                      go_simp
                      have hb := (Below.refl _ _ : Below we6.heap.size we6 we6).alloc (Nat.le_refl _) (.cells #[.string apex, .int .i64 63, .int .i64 xc, .int .i64 xu, .string D3] 30)
                      have HLIT19 := Lib.hid (show CellsAt (we6.alloc (.cells #[.string apex, .int .i64 63, .int .i64 xc, .int .i64 xu, .string D3] 30)) (some ⟨we6.heap.size, 0, none⟩) (1 * 5) (encR ⟨⟨apex, 63, xc⟩, xu, D3⟩) from cells_lit we6 #[.string apex, .int .i64 63, .int .i64 xc, .int .i64 xu, .string D3] 30)
                      obtain ⟨we7, hw⟩ : ∃ x, we6.alloc (.cells #[.string apex, .int .i64 63, .int .i64 xc, .int .i64 xu, .string D3] 30) = x := ⟨_, rfl⟩
                      obtain ⟨ge19, hge⟩ : ∃ x, we6.heap.size = x := ⟨_, rfl⟩
                      rw [hw] at hb HLIT19 ⊢
                      rw [hge] at HLIT19 ⊢
                      replace HOC17 := Lib.hid (own_below' HOC17.out hb)
                      clear hw hge
                      refine hK.out _ _ (Lib.hid (hHeld.out.trans (hb.mono hHeld.out.size))) (fun hHeld2 => ?_)
                      clear hK K hHeld
                      have hHeld := hHeld2
                      clear hHeld2
                      try simp only [Act.put, List.setIfInBounds_toArray, List.set_cons_zero, List.set_cons_succ]
                      refine wpAnyH_ready (rs := [20]) (by kernel_rfl) (by simp) ?_
                      refine AllReadyH.cons (o := { dst := some 206, op := Go.Op.call { callee := Go.Callee.builtin Go.Builtin.append, args := #[Go.Operand.tmp 203, Go.Operand.tmp 205], argTypes := #[22, 22] }, type := 22, pos := "more.go:44", after := #[{ on := 17, ground := Go.Ground.data }, { on := 19, ground := Go.Ground.data }, { on := 17, ground := Go.Ground.chain }, { on := 14, ground := Go.Ground.guard }], guard := some (14, true) }) rfl (fun K hK => ?_) AllReadyH.nil
                      refine step_append_cellsG (by rfl) _ _ 22 30 (by rfl) i0 _ 5 56 Try.underlying22 HI.out HZ0.out HZ1.out HZ2.out rfl (by decide) wf.heap.size _ k _ (by rfl) HOC17.out (some ⟨ge19, 0, none⟩) 1 1 (encR ⟨⟨apex, 63, xc⟩, xu, D3⟩) (by rfl) (fun h => by cases h) HLIT19.out (fun u hu => flatR_oneM (l := [⟨⟨apex, 63, xc⟩, xu, D3⟩]) (by simpa [flatR] using hu)) (by have := HNN.out; omega) (by decide) (hHeld.out.size) ?_
                      intro vx20 we8 hown hgrow
                      have hbg := hHeld.out.grown hgrow hHeld.out.size (fun k hk => (HOC17.out.lt k hk).1)
                      have HOX20 := Lib.hid hown
                      clear hown hgrow HLIT19 HOC17
                      refine hK.out _ _ (Lib.hid hbg) (fun hHeld2 => ?_)
                      clear hK K hHeld
                      have hHeld := hHeld2
                      clear hHeld2
                      try simp only [Act.put, List.setIfInBounds_toArray, List.set_cons_zero, List.set_cons_succ]
                      refine wpAnyH_ready (rs := [21]) (by kernel_rfl) (by simp) ?_
                      refine AllReadyH.cons (o := { dst := some 207, op := Go.Op.call { callee := Go.Callee.value (Go.Operand.func 11), args := #[Go.Operand.tmp 201, Go.Operand.tmp 206], argTypes := #[9, 22] }, type := 25, pos := "more.go:44", after := #[{ on := 15, ground := Go.Ground.data }, { on := 20, ground := Go.Ground.data }, { on := 20, ground := Go.Ground.chain }, { on := 14, ground := Go.Ground.guard }], guard := some (14, true) }) rfl (fun K hK => ?_) AllReadyH.nil
                      obtain ⟨ta21, tc21, rfl, hrt, _⟩ := rowR_own (l := SL ++ [⟨⟨apex, 63, xc⟩, xu, D3⟩]) (show we8.ownsRow wf.heap.size 30 5 vx20 (k + 1) (flatR (SL ++ [⟨⟨apex, 63, xc⟩, xu, D3⟩])) by rw [flatR_append]; simpa [flatR] using HOX20.out)
                      clear HOX20
                      go_simp
                      refine (check_any apex _ _ _ (SL ++ [⟨⟨apex, 63, xc⟩, xu, D3⟩]) _ hrt (by have := HNN.out; omega) (fun r hr => by
                        rcases List.mem_append.1 hr with h | h
                        · exact HSS.out r h
                        · rw [List.mem_singleton.1 h]; exact ⟨HA.out, by show D3.size ≤ 1000000; rw [HR3.out.1]; decide⟩) HA.out).mono ?_; rintro e we9 ⟨rfl, hb⟩
                      rw [HK6.out]
                      clear hrt
                      refine hK.out _ _ (Lib.hid (hHeld.out.trans (hb.mono hHeld.out.size))) (fun hHeld2 => ?_)
                      clear hK K hHeld
                      have hHeld := hHeld2
                      clear hHeld2
                      try simp only [Act.put, List.setIfInBounds_toArray, List.set_cons_zero, List.set_cons_succ]
                      refine Plan.of [22, 23, 24] ?_
                      iterate 3 (refine Plan.w (v := ?_) rfl hHeld (by rfl) ?_ ?_; rotate_left; (focus (intro w hSw; (try dsimp only at hSw); go_simp; try with_reducible rfl)); try simp only [Act.put, List.setIfInBounds_toArray, List.set_cons_zero, List.set_cons_succ])
                      refine Plan.fin ?_
                      refine wpAnyH_done (by kernel_rfl) ?_ _
                      have HBZ := Lib.hid (HBF.out.trans (hHeld.out.mono HBF.out.size))
                      clear hHeld
                      go_wp2
                      go_ret
                      exact ⟨rfl, HBZ.out⟩
                    · go_simp
                      have hb := (Below.refl _ _ : Below we5.heap.size we5 we5).alloc (Nat.le_refl _) (.cells #[.string apex, .int .i64 63, .int .i64 xc, .int .i64 xu, .string D3] 30)
                      have HLIT19 := Lib.hid (show CellsAt (we5.alloc (.cells #[.string apex, .int .i64 63, .int .i64 xc, .int .i64 xu, .string D3] 30)) (some ⟨we5.heap.size, 0, none⟩) (1 * 5) (encR ⟨⟨apex, 63, xc⟩, xu, D3⟩) from cells_lit we5 #[.string apex, .int .i64 63, .int .i64 xc, .int .i64 xu, .string D3] 30)
                      obtain ⟨we6, hw⟩ : ∃ x, we5.alloc (.cells #[.string apex, .int .i64 63, .int .i64 xc, .int .i64 xu, .string D3] 30) = x := ⟨_, rfl⟩
                      obtain ⟨ge19, hge⟩ : ∃ x, we5.heap.size = x := ⟨_, rfl⟩
                      rw [hw] at hb HLIT19 ⊢
                      rw [hge] at HLIT19 ⊢
                      clear hw hge
                      refine hK.out _ _ (Lib.hid (hHeld.out.trans (hb.mono hHeld.out.size))) (fun hHeld2 => ?_)
                      clear hK K hHeld
                      have hHeld := hHeld2
                      clear hHeld2
                      try simp only [Act.put, List.setIfInBounds_toArray, List.set_cons_zero, List.set_cons_succ]
                      refine wpAnyH_ready (rs := [17]) (by kernel_rfl) (by simp) ?_
                      refine AllReadyH.cons (o := { dst := some 203, op := Go.Op.call { callee := Go.Callee.value (Go.Operand.func 13), args := #[Go.Operand.tmp 202], argTypes := #[22] }, type := 22, pos := "more.go:44", after := #[{ on := 16, ground := Go.Ground.data }, { on := 14, ground := Go.Ground.chain }, { on := 14, ground := Go.Ground.guard }], guard := some (14, true) }) rfl (fun K hK => ?_) AllReadyH.nil
                      go_simp
                      refine (copyRRs_any _ k _ SL _ ((rowR_own2M HSF.out).1.below hHeld.out) (rowR_own2M HSF.out).2 (by have := HNN.out; omega)).mono ?_; rintro e we7 ⟨vc17, rfl, hown, hb⟩
                      have HOC17 := Lib.hid (own_monoM (base' := wf.heap.size) hown hHeld.out.size)
                      clear hown
                      replace HLIT19 := Lib.hid (HLIT19.out.below hb)
                      refine hK.out _ _ (Lib.hid (hHeld.out.trans (hb.mono hHeld.out.size))) (fun hHeld2 => ?_)
                      clear hK K hHeld
                      have hHeld := hHeld2
                      clear hHeld2
                      try simp only [Act.put, List.setIfInBounds_toArray, List.set_cons_zero, List.set_cons_succ]
                      refine wpAnyH_ready (rs := [20]) (by kernel_rfl) (by simp) ?_
                      refine AllReadyH.cons (o := { dst := some 206, op := Go.Op.call { callee := Go.Callee.builtin Go.Builtin.append, args := #[Go.Operand.tmp 203, Go.Operand.tmp 205], argTypes := #[22, 22] }, type := 22, pos := "more.go:44", after := #[{ on := 17, ground := Go.Ground.data }, { on := 19, ground := Go.Ground.data }, { on := 17, ground := Go.Ground.chain }, { on := 14, ground := Go.Ground.guard }], guard := some (14, true) }) rfl (fun K hK => ?_) AllReadyH.nil
                      refine step_append_cellsG (by rfl) _ _ 22 30 (by rfl) i0 _ 5 56 Try.underlying22 HI.out HZ0.out HZ1.out HZ2.out rfl (by decide) wf.heap.size _ k _ (by rfl) HOC17.out (some ⟨ge19, 0, none⟩) 1 1 (encR ⟨⟨apex, 63, xc⟩, xu, D3⟩) (by rfl) (fun h => by cases h) HLIT19.out (fun u hu => flatR_oneM (l := [⟨⟨apex, 63, xc⟩, xu, D3⟩]) (by simpa [flatR] using hu)) (by have := HNN.out; omega) (by decide) (hHeld.out.size) ?_
                      intro vx20 we8 hown hgrow
                      have hbg := hHeld.out.grown hgrow hHeld.out.size (fun k hk => (HOC17.out.lt k hk).1)
                      have HOX20 := Lib.hid hown
                      clear hown hgrow HLIT19 HOC17
                      refine hK.out _ _ (Lib.hid hbg) (fun hHeld2 => ?_)
                      clear hK K hHeld
                      have hHeld := hHeld2
                      clear hHeld2
                      try simp only [Act.put, List.setIfInBounds_toArray, List.set_cons_zero, List.set_cons_succ]
                      refine wpAnyH_ready (rs := [21]) (by kernel_rfl) (by simp) ?_
                      refine AllReadyH.cons (o := { dst := some 207, op := Go.Op.call { callee := Go.Callee.value (Go.Operand.func 11), args := #[Go.Operand.tmp 201, Go.Operand.tmp 206], argTypes := #[9, 22] }, type := 25, pos := "more.go:44", after := #[{ on := 15, ground := Go.Ground.data }, { on := 20, ground := Go.Ground.data }, { on := 20, ground := Go.Ground.chain }, { on := 14, ground := Go.Ground.guard }], guard := some (14, true) }) rfl (fun K hK => ?_) AllReadyH.nil
                      obtain ⟨ta21, tc21, rfl, hrt, _⟩ := rowR_own (l := SL ++ [⟨⟨apex, 63, xc⟩, xu, D3⟩]) (show we8.ownsRow wf.heap.size 30 5 vx20 (k + 1) (flatR (SL ++ [⟨⟨apex, 63, xc⟩, xu, D3⟩])) by rw [flatR_append]; simpa [flatR] using HOX20.out)
                      clear HOX20
                      go_simp
                      refine (check_any apex _ _ _ (SL ++ [⟨⟨apex, 63, xc⟩, xu, D3⟩]) _ hrt (by have := HNN.out; omega) (fun r hr => by
                        rcases List.mem_append.1 hr with h | h
                        · exact HSS.out r h
                        · rw [List.mem_singleton.1 h]; exact ⟨HA.out, by show D3.size ≤ 1000000; rw [HR3.out.1]; decide⟩) HA.out).mono ?_; rintro e we9 ⟨rfl, hb⟩
                      rw [HK6.out]
                      clear hrt
                      refine hK.out _ _ (Lib.hid (hHeld.out.trans (hb.mono hHeld.out.size))) (fun hHeld2 => ?_)
                      clear hK K hHeld
                      have hHeld := hHeld2
                      clear hHeld2
                      try simp only [Act.put, List.setIfInBounds_toArray, List.set_cons_zero, List.set_cons_succ]
                      refine Plan.of [22, 23, 24] ?_
                      iterate 3 (refine Plan.w (v := ?_) rfl hHeld (by rfl) ?_ ?_; rotate_left; (focus (intro w hSw; (try dsimp only at hSw); go_simp; try with_reducible rfl)); try simp only [Act.put, List.setIfInBounds_toArray, List.set_cons_zero, List.set_cons_succ])
                      refine Plan.fin ?_
                      refine wpAnyH_done (by kernel_rfl) ?_ _
                      have HBZ := Lib.hid (HBF.out.trans (hHeld.out.mono HBF.out.size))
                      clear hHeld
                      go_wp2
                      go_ret
                      exact ⟨rfl, HBZ.out⟩
                  · go_simp
                    have hb := (Below.refl _ _ : Below we1.heap.size we1 we1).alloc (Nat.le_refl _) (.cells #[.string apex, .int .i64 63, .int .i64 xc, .int .i64 xu, .string D2] 30)
                    have HLIT9 := Lib.hid (show CellsAt (we1.alloc (.cells #[.string apex, .int .i64 63, .int .i64 xc, .int .i64 xu, .string D2] 30)) (some ⟨we1.heap.size, 0, none⟩) (1 * 5) (encR ⟨⟨apex, 63, xc⟩, xu, D2⟩) from cells_lit we1 #[.string apex, .int .i64 63, .int .i64 xc, .int .i64 xu, .string D2] 30)
                    obtain ⟨we2, hw⟩ : ∃ x, we1.alloc (.cells #[.string apex, .int .i64 63, .int .i64 xc, .int .i64 xu, .string D2] 30) = x := ⟨_, rfl⟩
                    obtain ⟨ge9, hge⟩ : ∃ x, we1.heap.size = x := ⟨_, rfl⟩
                    rw [hw] at hb HLIT9 ⊢
                    rw [hge] at HLIT9 ⊢
                    clear hw hge
                    refine hK.out _ _ (Lib.hid (hHeld.out.trans (hb.mono hHeld.out.size))) (fun hHeld2 => ?_)
                    clear hK K hHeld
                    have hHeld := hHeld2
                    clear hHeld2
                    try simp only [Act.put, List.setIfInBounds_toArray, List.set_cons_zero, List.set_cons_succ]
                    refine wpAnyH_ready (rs := [7]) (by kernel_rfl) (by simp) ?_
                    refine AllReadyH.cons (o := { dst := some 193, op := Go.Op.call { callee := Go.Callee.value (Go.Operand.func 13), args := #[Go.Operand.tmp 192], argTypes := #[22] }, type := 22, pos := "more.go:44", after := #[{ on := 6, ground := Go.Ground.data }, { on := 4, ground := Go.Ground.chain }, { on := 4, ground := Go.Ground.guard }], guard := some (4, true) }) rfl (fun K hK => ?_) AllReadyH.nil
                    go_simp
                    refine (copyRRs_any _ k _ SL _ ((rowR_own2M HSF.out).1.below hHeld.out) (rowR_own2M HSF.out).2 (by have := HNN.out; omega)).mono ?_; rintro e we3 ⟨vc7, rfl, hown, hb⟩
                    have HOC7 := Lib.hid (own_monoM (base' := wf.heap.size) hown hHeld.out.size)
                    clear hown
                    replace HLIT9 := Lib.hid (HLIT9.out.below hb)
                    refine hK.out _ _ (Lib.hid (hHeld.out.trans (hb.mono hHeld.out.size))) (fun hHeld2 => ?_)
                    clear hK K hHeld
                    have hHeld := hHeld2
                    clear hHeld2
                    try simp only [Act.put, List.setIfInBounds_toArray, List.set_cons_zero, List.set_cons_succ]
                    refine wpAnyH_ready (rs := [10]) (by kernel_rfl) (by simp) ?_
                    refine AllReadyH.cons (o := { dst := some 196, op := Go.Op.call { callee := Go.Callee.builtin Go.Builtin.append, args := #[Go.Operand.tmp 193, Go.Operand.tmp 195], argTypes := #[22, 22] }, type := 22, pos := "more.go:44", after := #[{ on := 7, ground := Go.Ground.data }, { on := 9, ground := Go.Ground.data }, { on := 7, ground := Go.Ground.chain }, { on := 4, ground := Go.Ground.guard }], guard := some (4, true) }) rfl (fun K hK => ?_) AllReadyH.nil
                    refine step_append_cellsG (by rfl) _ _ 22 30 (by rfl) i0 _ 5 56 Try.underlying22 HI.out HZ0.out HZ1.out HZ2.out rfl (by decide) wf.heap.size _ k _ (by rfl) HOC7.out (some ⟨ge9, 0, none⟩) 1 1 (encR ⟨⟨apex, 63, xc⟩, xu, D2⟩) (by rfl) (fun h => by cases h) HLIT9.out (fun u hu => flatR_oneM (l := [⟨⟨apex, 63, xc⟩, xu, D2⟩]) (by simpa [flatR] using hu)) (by have := HNN.out; omega) (by decide) (hHeld.out.size) ?_
                    intro vx10 we4 hown hgrow
                    have hbg := hHeld.out.grown hgrow hHeld.out.size (fun k hk => (HOC7.out.lt k hk).1)
                    have HOX10 := Lib.hid hown
                    clear hown hgrow HLIT9 HOC7
                    refine hK.out _ _ (Lib.hid hbg) (fun hHeld2 => ?_)
                    clear hK K hHeld
                    have hHeld := hHeld2
                    clear hHeld2
                    try simp only [Act.put, List.setIfInBounds_toArray, List.set_cons_zero, List.set_cons_succ]
                    refine wpAnyH_ready (rs := [11]) (by kernel_rfl) (by simp) ?_
                    refine AllReadyH.cons (o := { dst := some 197, op := Go.Op.call { callee := Go.Callee.value (Go.Operand.func 11), args := #[Go.Operand.tmp 191, Go.Operand.tmp 196], argTypes := #[9, 22] }, type := 25, pos := "more.go:44", after := #[{ on := 5, ground := Go.Ground.data }, { on := 10, ground := Go.Ground.data }, { on := 10, ground := Go.Ground.chain }, { on := 4, ground := Go.Ground.guard }], guard := some (4, true) }) rfl (fun K hK => ?_) AllReadyH.nil
                    obtain ⟨ta11, tc11, rfl, hrt, _⟩ := rowR_own (l := SL ++ [⟨⟨apex, 63, xc⟩, xu, D2⟩]) (show we4.ownsRow wf.heap.size 30 5 vx10 (k + 1) (flatR (SL ++ [⟨⟨apex, 63, xc⟩, xu, D2⟩])) by rw [flatR_append]; simpa [flatR] using HOX10.out)
                    clear HOX10
                    go_simp
                    refine (check_any apex _ _ _ (SL ++ [⟨⟨apex, 63, xc⟩, xu, D2⟩]) _ hrt (by have := HNN.out; omega) (fun r hr => by
                      rcases List.mem_append.1 hr with h | h
                      · exact HSS.out r h
                      · rw [List.mem_singleton.1 h]; exact ⟨HA.out, by show D2.size ≤ 1000000; rw [HMO.out.2.1]; decide⟩) HA.out).mono ?_; rintro e we5 ⟨rfl, hb⟩
                    rw [HK0.out]
                    clear hrt
                    refine hK.out _ _ (Lib.hid (hHeld.out.trans (hb.mono hHeld.out.size))) (fun hHeld2 => ?_)
                    clear hK K hHeld
                    have hHeld := hHeld2
                    clear hHeld2
                    try simp only [Act.put, List.setIfInBounds_toArray, List.set_cons_zero, List.set_cons_succ]
                    refine Plan.of [12, 13, 14, 15, 16, 18] ?_
                    iterate 5 (refine Plan.w (v := ?_) rfl hHeld (by rfl) ?_ ?_; rotate_left; (focus (intro w hSw; (try dsimp only at hSw); go_simp; try with_reducible rfl)); try simp only [Act.put, List.setIfInBounds_toArray, List.set_cons_zero, List.set_cons_succ])
                    refine Plan.w (v := ?_) rfl hHeld (by rfl) ?_ ?_; rotate_left; (focus (intro w hSw; (try dsimp only at hSw); have hca := HQ17.out.below hSw.out; have s0 := (hca.2 0 _ rfl).1; have s1 := (hca.2 1 _ rfl).1; have s2 := (hca.2 2 _ rfl).1; have s3 := (hca.2 3 _ rfl).1; have s4 := (hca.2 4 _ rfl).1; go_simp; try with_reducible rfl)); try simp only [Act.put, List.setIfInBounds_toArray, List.set_cons_zero, List.set_cons_succ]
                    refine Plan.fin ?_
                    refine wpAnyH_ready (rs := [17, 19]) (by kernel_rfl) (by simp) ?_
                    refine AllReadyH.cons (o := { dst := some 203, op := Go.Op.call { callee := Go.Callee.value (Go.Operand.func 13), args := #[Go.Operand.tmp 202], argTypes := #[22] }, type := 22, pos := "more.go:44", after := #[{ on := 16, ground := Go.Ground.data }, { on := 14, ground := Go.Ground.chain }, { on := 14, ground := Go.Ground.guard }], guard := some (14, true) }) rfl (fun K hK => ?_) (AllReadyH.cons (o := { dst := some 205, op := Go.Op.buildSlice 22 1 #[(0, Go.Operand.tmp 204)], type := 22, pos := "more.go:44", after := #[{ on := 18, ground := Go.Ground.data }, { on := 14, ground := Go.Ground.guard }], guard := some (14, true) }) rfl (fun K hK => ?_) AllReadyH.nil)
                    · go_simp
                      refine (copyRRs_any _ k _ SL _ ((rowR_own2M HSF.out).1.below hHeld.out) (rowR_own2M HSF.out).2 (by have := HNN.out; omega)).mono ?_; rintro e we6 ⟨vc17, rfl, hown, hb⟩
                      have HOC17 := Lib.hid (own_monoM (base' := wf.heap.size) hown hHeld.out.size)
                      clear hown
                      refine hK.out _ _ (Lib.hid (hHeld.out.trans (hb.mono hHeld.out.size))) (fun hHeld2 => ?_)
                      clear hK K hHeld
                      have hHeld := hHeld2
                      clear hHeld2
                      try simp only [Act.put, List.setIfInBounds_toArray, List.set_cons_zero, List.set_cons_succ]
                      refine wpAnyH_ready (rs := [19]) (by kernel_rfl) (by simp) ?_
                      refine AllReadyH.cons (o := { dst := some 205, op := Go.Op.buildSlice 22 1 #[(0, Go.Operand.tmp 204)], type := 22, pos := "more.go:44", after := #[{ on := 18, ground := Go.Ground.data }, { on := 14, ground := Go.Ground.guard }], guard := some (14, true) }) rfl (fun K hK => ?_) AllReadyH.nil
                      go_simp
                      have hb := (Below.refl _ _ : Below we6.heap.size we6 we6).alloc (Nat.le_refl _) (.cells #[.string apex, .int .i64 63, .int .i64 xc, .int .i64 xu, .string D3] 30)
                      have HLIT19 := Lib.hid (show CellsAt (we6.alloc (.cells #[.string apex, .int .i64 63, .int .i64 xc, .int .i64 xu, .string D3] 30)) (some ⟨we6.heap.size, 0, none⟩) (1 * 5) (encR ⟨⟨apex, 63, xc⟩, xu, D3⟩) from cells_lit we6 #[.string apex, .int .i64 63, .int .i64 xc, .int .i64 xu, .string D3] 30)
                      obtain ⟨we7, hw⟩ : ∃ x, we6.alloc (.cells #[.string apex, .int .i64 63, .int .i64 xc, .int .i64 xu, .string D3] 30) = x := ⟨_, rfl⟩
                      obtain ⟨ge19, hge⟩ : ∃ x, we6.heap.size = x := ⟨_, rfl⟩
                      rw [hw] at hb HLIT19 ⊢
                      rw [hge] at HLIT19 ⊢
                      replace HOC17 := Lib.hid (own_below' HOC17.out hb)
                      clear hw hge
                      refine hK.out _ _ (Lib.hid (hHeld.out.trans (hb.mono hHeld.out.size))) (fun hHeld2 => ?_)
                      clear hK K hHeld
                      have hHeld := hHeld2
                      clear hHeld2
                      try simp only [Act.put, List.setIfInBounds_toArray, List.set_cons_zero, List.set_cons_succ]
                      refine wpAnyH_ready (rs := [20]) (by kernel_rfl) (by simp) ?_
                      refine AllReadyH.cons (o := { dst := some 206, op := Go.Op.call { callee := Go.Callee.builtin Go.Builtin.append, args := #[Go.Operand.tmp 203, Go.Operand.tmp 205], argTypes := #[22, 22] }, type := 22, pos := "more.go:44", after := #[{ on := 17, ground := Go.Ground.data }, { on := 19, ground := Go.Ground.data }, { on := 17, ground := Go.Ground.chain }, { on := 14, ground := Go.Ground.guard }], guard := some (14, true) }) rfl (fun K hK => ?_) AllReadyH.nil
                      refine step_append_cellsG (by rfl) _ _ 22 30 (by rfl) i0 _ 5 56 Try.underlying22 HI.out HZ0.out HZ1.out HZ2.out rfl (by decide) wf.heap.size _ k _ (by rfl) HOC17.out (some ⟨ge19, 0, none⟩) 1 1 (encR ⟨⟨apex, 63, xc⟩, xu, D3⟩) (by rfl) (fun h => by cases h) HLIT19.out (fun u hu => flatR_oneM (l := [⟨⟨apex, 63, xc⟩, xu, D3⟩]) (by simpa [flatR] using hu)) (by have := HNN.out; omega) (by decide) (hHeld.out.size) ?_
                      intro vx20 we8 hown hgrow
                      have hbg := hHeld.out.grown hgrow hHeld.out.size (fun k hk => (HOC17.out.lt k hk).1)
                      have HOX20 := Lib.hid hown
                      clear hown hgrow HLIT19 HOC17
                      refine hK.out _ _ (Lib.hid hbg) (fun hHeld2 => ?_)
                      clear hK K hHeld
                      have hHeld := hHeld2
                      clear hHeld2
                      try simp only [Act.put, List.setIfInBounds_toArray, List.set_cons_zero, List.set_cons_succ]
                      refine wpAnyH_ready (rs := [21]) (by kernel_rfl) (by simp) ?_
                      refine AllReadyH.cons (o := { dst := some 207, op := Go.Op.call { callee := Go.Callee.value (Go.Operand.func 11), args := #[Go.Operand.tmp 201, Go.Operand.tmp 206], argTypes := #[9, 22] }, type := 25, pos := "more.go:44", after := #[{ on := 15, ground := Go.Ground.data }, { on := 20, ground := Go.Ground.data }, { on := 20, ground := Go.Ground.chain }, { on := 14, ground := Go.Ground.guard }], guard := some (14, true) }) rfl (fun K hK => ?_) AllReadyH.nil
                      obtain ⟨ta21, tc21, rfl, hrt, _⟩ := rowR_own (l := SL ++ [⟨⟨apex, 63, xc⟩, xu, D3⟩]) (show we8.ownsRow wf.heap.size 30 5 vx20 (k + 1) (flatR (SL ++ [⟨⟨apex, 63, xc⟩, xu, D3⟩])) by rw [flatR_append]; simpa [flatR] using HOX20.out)
                      clear HOX20
                      go_simp
                      refine (check_any apex _ _ _ (SL ++ [⟨⟨apex, 63, xc⟩, xu, D3⟩]) _ hrt (by have := HNN.out; omega) (fun r hr => by
                        rcases List.mem_append.1 hr with h | h
                        · exact HSS.out r h
                        · rw [List.mem_singleton.1 h]; exact ⟨HA.out, by show D3.size ≤ 1000000; rw [HR3.out.1]; decide⟩) HA.out).mono ?_; rintro e we9 ⟨rfl, hb⟩
                      rw [HK6.out]
                      clear hrt
                      refine hK.out _ _ (Lib.hid (hHeld.out.trans (hb.mono hHeld.out.size))) (fun hHeld2 => ?_)
                      clear hK K hHeld
                      have hHeld := hHeld2
                      clear hHeld2
                      try simp only [Act.put, List.setIfInBounds_toArray, List.set_cons_zero, List.set_cons_succ]
                      refine Plan.of [22, 23, 24] ?_
                      iterate 3 (refine Plan.w (v := ?_) rfl hHeld (by rfl) ?_ ?_; rotate_left; (focus (intro w hSw; (try dsimp only at hSw); go_simp; try with_reducible rfl)); try simp only [Act.put, List.setIfInBounds_toArray, List.set_cons_zero, List.set_cons_succ])
                      refine Plan.fin ?_
                      refine wpAnyH_done (by kernel_rfl) ?_ _
                      have HBZ := Lib.hid (HBF.out.trans (hHeld.out.mono HBF.out.size))
                      clear hHeld
                      go_wp2
                      go_ret
                      exact ⟨rfl, HBZ.out⟩
                    · go_simp
                      have hb := (Below.refl _ _ : Below we5.heap.size we5 we5).alloc (Nat.le_refl _) (.cells #[.string apex, .int .i64 63, .int .i64 xc, .int .i64 xu, .string D3] 30)
                      have HLIT19 := Lib.hid (show CellsAt (we5.alloc (.cells #[.string apex, .int .i64 63, .int .i64 xc, .int .i64 xu, .string D3] 30)) (some ⟨we5.heap.size, 0, none⟩) (1 * 5) (encR ⟨⟨apex, 63, xc⟩, xu, D3⟩) from cells_lit we5 #[.string apex, .int .i64 63, .int .i64 xc, .int .i64 xu, .string D3] 30)
                      obtain ⟨we6, hw⟩ : ∃ x, we5.alloc (.cells #[.string apex, .int .i64 63, .int .i64 xc, .int .i64 xu, .string D3] 30) = x := ⟨_, rfl⟩
                      obtain ⟨ge19, hge⟩ : ∃ x, we5.heap.size = x := ⟨_, rfl⟩
                      rw [hw] at hb HLIT19 ⊢
                      rw [hge] at HLIT19 ⊢
                      clear hw hge
                      refine hK.out _ _ (Lib.hid (hHeld.out.trans (hb.mono hHeld.out.size))) (fun hHeld2 => ?_)
                      clear hK K hHeld
                      have hHeld := hHeld2
                      clear hHeld2
                      try simp only [Act.put, List.setIfInBounds_toArray, List.set_cons_zero, List.set_cons_succ]
                      refine wpAnyH_ready (rs := [17]) (by kernel_rfl) (by simp) ?_
                      refine AllReadyH.cons (o := { dst := some 203, op := Go.Op.call { callee := Go.Callee.value (Go.Operand.func 13), args := #[Go.Operand.tmp 202], argTypes := #[22] }, type := 22, pos := "more.go:44", after := #[{ on := 16, ground := Go.Ground.data }, { on := 14, ground := Go.Ground.chain }, { on := 14, ground := Go.Ground.guard }], guard := some (14, true) }) rfl (fun K hK => ?_) AllReadyH.nil
                      go_simp
                      refine (copyRRs_any _ k _ SL _ ((rowR_own2M HSF.out).1.below hHeld.out) (rowR_own2M HSF.out).2 (by have := HNN.out; omega)).mono ?_; rintro e we7 ⟨vc17, rfl, hown, hb⟩
                      have HOC17 := Lib.hid (own_monoM (base' := wf.heap.size) hown hHeld.out.size)
                      clear hown
                      replace HLIT19 := Lib.hid (HLIT19.out.below hb)
                      refine hK.out _ _ (Lib.hid (hHeld.out.trans (hb.mono hHeld.out.size))) (fun hHeld2 => ?_)
                      clear hK K hHeld
                      have hHeld := hHeld2
                      clear hHeld2
                      try simp only [Act.put, List.setIfInBounds_toArray, List.set_cons_zero, List.set_cons_succ]
                      refine wpAnyH_ready (rs := [20]) (by kernel_rfl) (by simp) ?_
                      refine AllReadyH.cons (o := { dst := some 206, op := Go.Op.call { callee := Go.Callee.builtin Go.Builtin.append, args := #[Go.Operand.tmp 203, Go.Operand.tmp 205], argTypes := #[22, 22] }, type := 22, pos := "more.go:44", after := #[{ on := 17, ground := Go.Ground.data }, { on := 19, ground := Go.Ground.data }, { on := 17, ground := Go.Ground.chain }, { on := 14, ground := Go.Ground.guard }], guard := some (14, true) }) rfl (fun K hK => ?_) AllReadyH.nil
                      refine step_append_cellsG (by rfl) _ _ 22 30 (by rfl) i0 _ 5 56 Try.underlying22 HI.out HZ0.out HZ1.out HZ2.out rfl (by decide) wf.heap.size _ k _ (by rfl) HOC17.out (some ⟨ge19, 0, none⟩) 1 1 (encR ⟨⟨apex, 63, xc⟩, xu, D3⟩) (by rfl) (fun h => by cases h) HLIT19.out (fun u hu => flatR_oneM (l := [⟨⟨apex, 63, xc⟩, xu, D3⟩]) (by simpa [flatR] using hu)) (by have := HNN.out; omega) (by decide) (hHeld.out.size) ?_
                      intro vx20 we8 hown hgrow
                      have hbg := hHeld.out.grown hgrow hHeld.out.size (fun k hk => (HOC17.out.lt k hk).1)
                      have HOX20 := Lib.hid hown
                      clear hown hgrow HLIT19 HOC17
                      refine hK.out _ _ (Lib.hid hbg) (fun hHeld2 => ?_)
                      clear hK K hHeld
                      have hHeld := hHeld2
                      clear hHeld2
                      try simp only [Act.put, List.setIfInBounds_toArray, List.set_cons_zero, List.set_cons_succ]
                      refine wpAnyH_ready (rs := [21]) (by kernel_rfl) (by simp) ?_
                      refine AllReadyH.cons (o := { dst := some 207, op := Go.Op.call { callee := Go.Callee.value (Go.Operand.func 11), args := #[Go.Operand.tmp 201, Go.Operand.tmp 206], argTypes := #[9, 22] }, type := 25, pos := "more.go:44", after := #[{ on := 15, ground := Go.Ground.data }, { on := 20, ground := Go.Ground.data }, { on := 20, ground := Go.Ground.chain }, { on := 14, ground := Go.Ground.guard }], guard := some (14, true) }) rfl (fun K hK => ?_) AllReadyH.nil
                      obtain ⟨ta21, tc21, rfl, hrt, _⟩ := rowR_own (l := SL ++ [⟨⟨apex, 63, xc⟩, xu, D3⟩]) (show we8.ownsRow wf.heap.size 30 5 vx20 (k + 1) (flatR (SL ++ [⟨⟨apex, 63, xc⟩, xu, D3⟩])) by rw [flatR_append]; simpa [flatR] using HOX20.out)
                      clear HOX20
                      go_simp
                      refine (check_any apex _ _ _ (SL ++ [⟨⟨apex, 63, xc⟩, xu, D3⟩]) _ hrt (by have := HNN.out; omega) (fun r hr => by
                        rcases List.mem_append.1 hr with h | h
                        · exact HSS.out r h
                        · rw [List.mem_singleton.1 h]; exact ⟨HA.out, by show D3.size ≤ 1000000; rw [HR3.out.1]; decide⟩) HA.out).mono ?_; rintro e we9 ⟨rfl, hb⟩
                      rw [HK6.out]
                      clear hrt
                      refine hK.out _ _ (Lib.hid (hHeld.out.trans (hb.mono hHeld.out.size))) (fun hHeld2 => ?_)
                      clear hK K hHeld
                      have hHeld := hHeld2
                      clear hHeld2
                      try simp only [Act.put, List.setIfInBounds_toArray, List.set_cons_zero, List.set_cons_succ]
                      refine Plan.of [22, 23, 24] ?_
                      iterate 3 (refine Plan.w (v := ?_) rfl hHeld (by rfl) ?_ ?_; rotate_left; (focus (intro w hSw; (try dsimp only at hSw); go_simp; try with_reducible rfl)); try simp only [Act.put, List.setIfInBounds_toArray, List.set_cons_zero, List.set_cons_succ])
                      refine Plan.fin ?_
                      refine wpAnyH_done (by kernel_rfl) ?_ _
                      have HBZ := Lib.hid (HBF.out.trans (hHeld.out.mono HBF.out.size))
                      clear hHeld
                      go_wp2
                      go_ret
                      exact ⟨rfl, HBZ.out⟩
end Go.Proofs.Ytmhiglhgkgannaa
