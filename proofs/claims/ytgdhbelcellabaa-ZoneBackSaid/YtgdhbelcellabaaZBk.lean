/- ZoneBack: the walk. -/
import Derived.Test.YtgdhbelcellabaaZBp
import Derived.Test.YtgdhbelcellabaaZnR
namespace Go.Proofs.Ytgdhbelcellabaa
open Go.RowKit

set_option maxRecDepth 100000 in
set_option maxHeartbeats 8000000 in
theorem walkZBack (apex : ByteArray) (a : Option Addr) (n c : Nat) (l : List R5) (w : World) (h : RowR w a n l) (hn : a = none → n = 0 ∧ c = 0) (hlen : n ≤ 9223372036854775807) (hsz : ∀ r ∈ l, SzR r) (ha : apex.size ≤ 9223372036854775807) :
    Calls Try.prog 3 #[.string apex, .slice a n c] w fun e w' => e = .returned (.bool true) ∧ Below w.heap.size w w' := by
  have HR := Lib.hid h
  have HN := Lib.hid hn
  have HSZ := Lib.hid hsz
  have HLN := Lib.hid h.1
  clear h hn hsz
  go_enter Try.func3, Try.ntmps3
  go_wp2_with fail
  refine (first10 _).mono ?_; rintro e w1 ⟨rfl, hb⟩
  have HB1 := Lib.hid hb
  clear hb
  go_wp2_with fail
  refine (few10 a n c l _ (HR.out.below HB1.out) hlen HSZ.out).mono ?_; rintro e w2 ⟨hres, hb⟩
  have HB2 := Lib.hid (HB1.out.trans (hb.mono HB1.out.size))
  clear hb HB1
  rcases hres with rfl | ⟨rfl, hn4, hsm⟩
  · -- not few
    go_wp2_with fail
    refine (first10 _).mono ?_; rintro e w9 ⟨rfl, hb⟩
    have HB9 := Lib.hid (HB2.out.trans (hb.mono HB2.out.size))
    clear hb
    go_wp2
    go_ret
    exact ⟨rfl, HB9.out⟩
  have HN4 := Lib.hid hn4
  have HSM := Lib.hid hsm
  clear hsm
  by_cases h1 : 1000 < apex.size
  · have d1 : decide (1000 < apex.size) = true := dT h1
    have d2 : decide ((1000 : Int) < (apex.size : Int)) = true := dT (by omega)
    clear h1
    go_wp2_with fail
    refine (first10 _).mono ?_; rintro e w9 ⟨rfl, hb⟩
    have HB9 := Lib.hid (HB2.out.trans (hb.mono HB2.out.size))
    clear hb
    go_wp2
    go_ret
    exact ⟨rfl, HB9.out⟩
  have d1 : decide (1000 < apex.size) = false := dF h1
  have d2 : decide ((1000 : Int) < (apex.size : Int)) = false := dF (by omega)
  have HA1 := Lib.hid (show apex.size ≤ 1000000 by omega)
  clear h1
  go_wp2_with fail
  refine (znew_any apex a n c l w2 (HR.out.below HB2.out) HN.out (by have := HN4.out; omega) (fun r hr => by have := (HSM.out r hr).1; omega) (fun r hr => by have := (HSM.out r hr).2; omega) HA1.out).mono ?_; rintro e w3 hnr
  obtain ⟨hres, hb⟩ := hnr.two
  have HB3 := Lib.hid (HB2.out.trans (hb.mono HB2.out.size))
  clear hnr hb HB2 d1 d2 ha
  rcases hres with ⟨x, hx, rfl⟩ | ⟨z, S, rfl, hzw, hok⟩
  · have e1 : (x != 0) = true := nT hx
    go_wp2_with fail
    refine (first10 _).mono ?_; rintro e w9 ⟨rfl, hb⟩
    have HB9 := Lib.hid (HB3.out.trans (hb.mono HB3.out.size))
    clear hb
    go_wp2
    go_ret
    exact ⟨rfl, HB9.out⟩
  have HOK := Lib.hid hok
  have HS3 := Lib.hid hok.sum
  obtain ⟨s0, d0, hs0, hd0, hso, hdz⟩ := soa_one hok
  have HS0 := Lib.hid hs0
  have HD0 := Lib.hid hd0
  have HSO := Lib.hid hso
  have HDZ := Lib.hid hdz
  obtain ⟨f, hf⟩ : ∃ x, sumD S = x := ⟨_, rfl⟩
  have HF := Lib.hid hf
  have HFL := Lib.hid (show (flatP S).length = f by rw [flatP_length]; exact hf)
  have HFN := Lib.hid (show f ≤ 310 ∧ f ≤ n by have h1 := hok.sum; rw [hf, HLN.out] at h1; omega)
  clear hok hzw hs0 hd0 hso hdz hf hn4
  go_wp2_with fail
  refine (zrecords_any z apex S w3 HOK.out.is HOK.out.sz (by rw [HF.out]; have := HFN.out; omega)).mono ?_; rintro e w4 ⟨v2, rfl, hown, hb⟩
  rw [HFL.out] at hown
  obtain ⟨a2, c2, rfl, hrr, hnn⟩ := rowR_own hown
  have HRR := Lib.hid hrr
  have HNN := Lib.hid hnn
  have HX4 := Lib.hid hb
  clear hb hown hrr hnn
  go_wp2_with fail
  refine (znew_any apex a2 f c2 (flatP S) w4 HRR.out HNN.out (by have := HFN.out; omega) (fun r hr => by have := mayN_sz (mayR5_n (back_may HOK.out.canon HOK.out.may r hr)); omega) (fun r hr => by
    obtain ⟨s, hs, h1, h2, h3⟩ := mem_flatP.1 hr
    obtain ⟨r3, hr3, k1, k2⟩ := (HOK.out.canon.mem s.k r.d).1 ⟨s, hs, rfl, h3⟩
    have := (HSM.out r3 hr3).2
    rw [← k2]; omega) HA1.out).mono ?_; rintro e w5 hnr
  obtain ⟨⟨z2, rfl, hz2⟩, hb⟩ := newR_back HOK.out hnr
  have HX5 := Lib.hid (HX4.out.trans (hb.mono HX4.out.size))
  have HR5 := Lib.hid (HRR.out.below hb)
  have HZ2 := Lib.hid hz2
  clear hnr hb hz2 HX4 HRR
  go_wp2_with fail
  refine (zsets_any z2 apex S w5 HZ2.out HOK.out.sz).mono ?_; rintro e w6 ⟨v3, L3, rfl, hm3, hos3, hb⟩
  obtain ⟨a3, c3, rfl, hsa3, -⟩ := hos3.at
  rw [hm3] at hsa3
  have hl3 : L3.length = S.length := by rw [← hm3, List.length_map]
  rw [hl3] at hsa3 ⊢
  have HSA3 := Lib.hid hsa3
  have HX6 := Lib.hid (HX5.out.trans (hb.mono HX5.out.size))
  have HR6 := Lib.hid (HR5.out.below hb)
  clear hb hos3 hsa3 hm3 hl3 HX5 HR5 HZ2 L3
  obtain ⟨m, hm⟩ : ∃ x, S.length = x := ⟨_, rfl⟩
  have HM := Lib.hid hm
  have HMN := Lib.hid (show m ≤ 100000 by have h1 := HOK.out.len; have h2 := HOK.out.few; omega)
  rw [hm] at HSA3 ⊢
  clear hm
  go_wp2_with fail
  refine (plains_any a3 m c3 S w6 HSA3.out HMN.out).mono ?_; rintro e w7 ⟨⟨a4, c4, rfl, hsa4⟩, hb⟩
  have HSA4 := Lib.hid hsa4
  have HX7 := Lib.hid (HX6.out.trans (hb.mono HX6.out.size))
  have HR7 := Lib.hid (HR6.out.below hb)
  clear hb hsa4 HX6 HR6 HSA3
  go_wp2_with fail
  refine (zsets_any z apex S w7 (HOK.out.is.below HX7.out) HOK.out.sz).mono ?_; rintro e w8 ⟨v5, L5, rfl, hm5, hos5, hb⟩
  obtain ⟨a5, c5, rfl, hsa5, -⟩ := hos5.at
  rw [hm5] at hsa5
  have hl5 : L5.length = m := by rw [← HM.out, ← hm5, List.length_map]
  rw [hl5] at hsa5 ⊢
  have HSA5 := Lib.hid hsa5
  have HX8 := Lib.hid (HX7.out.trans (hb.mono HX7.out.size))
  have HR8 := Lib.hid (HR7.out.below hb)
  have HSB4 := Lib.hid (HSA4.out.below hb)
  clear hb hos5 hsa5 hm5 hl5 HX7 HR7 HSA4 L5
  go_wp2_with fail
  refine (plains_any a5 m c5 S w8 HSA5.out HMN.out).mono ?_; rintro e w9 ⟨⟨a6, c6, rfl, hsa6⟩, hb⟩
  have HSA6 := Lib.hid hsa6
  have HX9 := Lib.hid (HX8.out.trans (hb.mono HX8.out.size))
  have HR9 := Lib.hid (HR8.out.below hb)
  have HSC4 := Lib.hid (HSB4.out.below hb)
  clear hb hsa6 HX8 HR8 HSB4 HSA5
  go_wp2_with fail
  refine (sameSets_any a4 a6 m m c4 c6 S S w9 HSC4.out HSA6.out HMN.out HMN.out (fun s hs => by have := (HOK.out.sz.2 s hs).2; omega)).mono ?_; rintro e w10 ⟨⟨x, rfl, hx⟩, hb⟩
  obtain rfl : x = true := hx.2 rfl
  have HX10 := Lib.hid (HX9.out.trans (hb.mono HX9.out.size))
  have HR10 := Lib.hid (HR9.out.below hb)
  clear hb hx HX9 HR9 HSA6 HSC4
  go_wp2_with fail
  refine (zsets_any z apex S w10 (HOK.out.is.below HX10.out) HOK.out.sz).mono ?_; rintro e w11 ⟨v7, L7, rfl, hm7, hos7, hb⟩
  have hl7 : L7.length = m := by rw [← HM.out, ← hm7, List.length_map]
  have HW7 := Lib.hid (OwnW.of hos7)
  have HBB := Lib.hid hb
  have HL7 := Lib.hid hl7
  obtain ⟨a7, c7, rfl, -, hn7⟩ := hos7.at
  rw [hl7] at HW7 ⊢
  clear hb hos7 hm7 hl7 hn7
  go_wp2_with fail
  go_loopw [11] (fun i wr => ∃ (k : Nat) (L : List (SetP × Value)), k ≤ m ∧ i = .int .i64 k ∧ Hid (L.length = m) ∧ Hid (OwnW wr w10.heap.size (.slice a7 m c7) L) ∧ Hid (Below w10.heap.size w10 wr)) (fun i _ => m - (intOf i).toNat)
  case atStart => exact ⟨0, L7, Nat.zero_le _, rfl, HL7, HW7, HBB⟩
  case round =>
    obtain ⟨k, L, hk, rfl, hl, how, hbw⟩ := hrel
    clear HW7 HBB HL7
    have hmn := HMN.out
    by_cases hlt : k < m
    · obtain ⟨g, hg⟩ : ∃ g, a7 = some ⟨g, 0, none⟩ := by
        rcases how.out.1.2 with ⟨_, h0⟩ | ⟨g, cap, cur, e, _⟩
        · have := hl.out; omega
        · injection e with e1; exact ⟨g, e1⟩
      subst hg
      obtain ⟨⟨s, dv⟩, hs⟩ : ∃ p, L[k]? = some p := ⟨_, List.getElem?_eq_getElem (by have := hl.out; omega)⟩
      have HGB := Lib.hid (show w10.heap.size ≤ g from (how.out.1.lt g rfl).1)
      have how1 := how.out.1
      rw [hl.out] at how1
      obtain ⟨v0, v1, v2', v3, v4, y0, y1, y2, y3, y4⟩ := own_cells5S how1 k hlt
      have f3 := how1.frozenAt (k * 5 + 3)
      have HT := Lib.hid (how.out.ttl hl.out hs 7777)
      have HB2 := Lib.hid (hbw.out.setCell (p := ⟨g, k * 5 + 3, none⟩) HGB.out (.int .i64 7777))
      have hk4 : wr.cell? ⟨g, k * 5 + 4, none⟩ = some dv := by
        have h5 := ownsRow_at how1 (k * 5 + 4) dv (by
          rw [flatS, flatMap_get encS 5 encS_len (by omega), show (k * 5 + 4) / 5 = k by omega, show (k * 5 + 4) % 5 = 4 by omega, hs]; rfl)
        exact h5
      obtain ⟨dn, xs, hdv⟩ := how.out.2 (s, dv) (List.mem_of_getElem? hs)
      have HDV := Lib.hid (hdv.kept (grown_cell wr g (k * 5 + 3) (.int .i64 7777)) (own_ne2 (by decide) hdv how.out.1))
      have HLL := Lib.hid (show (L.set k ({ s with ttl := 7777 }, dv)).length = m by rw [List.length_set]; exact hl.out)
      have HLT := Lib.hid hlt
      have i1 : (0 : Int) ≤ (k : Int) := by omega
      have i2 : (k : Int) < (m : Int) := by omega
      replace y4 := hk4
      clear hs how1 hlt hk4
      go_upto_region 17 with (fail)
      obtain ⟨wa, hwa⟩ : ∃ x, wr.setCell ⟨g, k * 5 + 3, none⟩ (.int .i64 7777) = x := ⟨_, rfl⟩
      have z4 : wa.cell? ⟨g, k * 5 + 4, none⟩ = some dv := by
        rw [← hwa, World.cell?_setCell_other _ _ _ _ (by intro e; injection e; omega)]; exact y4
      rw [hwa] at HT HB2 HDV ⊢
      clear hwa y0 y1 y2 y3 y4 f3 how hbw hdv
      rcases HDV.out.2 with ⟨rfl, h0⟩ | ⟨g2, cap, cur, rfl, hB2, -⟩
      · go_wp2
        go_roundw
        case rel => exact ⟨k + 1, _, HLT.out, by have := HLT.out; go_num, HLL, HT, HB2⟩
        case measure => have := HLT.out; simp [intOf]; omega
      · have HG2 := Lib.hid hB2
        by_cases hp : 0 < dn
        · have d1 : decide (0 < dn) = true := dT hp
          have d2 : decide ((0 : Int) < (dn : Int)) = true := dT (by omega)
          have j2 : (0 : Int) < (dn : Int) := by omega
          have hx0 := HDV.out.cellAt 0 (by omega)
          rw [List.getElem?_eq_getElem (by have := HDV.out.1; omega)] at hx0
          obtain ⟨x0, hx0e⟩ : ∃ x0, xs[0]'(by have := HDV.out.1; omega) = x0 := ⟨_, rfl⟩
          rw [hx0e] at hx0
          have f0 := HDV.out.frozenAt 0
          have HSP := Lib.hid (HT.out.spoil HDV.out (.string ⟨#[115, 112, 111, 105, 108, 116]⟩))
          have HBS := Lib.hid (HB2.out.setCell (p := ⟨g2, 0, none⟩) HG2.out (.string ⟨#[115, 112, 111, 105, 108, 116]⟩))
          clear hp hx0e hB2
          go_wp2
          go_roundw
          case rel => exact ⟨k + 1, _, HLT.out, by have := HLT.out; go_num, HLL, HSP, HBS⟩
          case measure => have := HLT.out; simp [intOf]; omega
        · have d1 : decide (0 < dn) = false := dF hp
          have d2 : decide ((0 : Int) < (dn : Int)) = false := dF (by omega)
          clear hp hB2
          go_wp2
          go_roundw
          case rel => exact ⟨k + 1, _, HLT.out, by have := HLT.out; go_num, HLL, HT, HB2⟩
          case measure => have := HLT.out; simp [intOf]; omega
    · have HX11 := Lib.hid (HX10.out.trans (hbw.out.mono HX10.out.size))
      have HR11 := Lib.hid (HR10.out.below hbw.out)
      obtain rfl : k = m := by omega
      clear hlt hk hbw how hl HX10 HR10
      go_wp2_with fail
      refine (zrecords_any z apex S wr (HOK.out.is.below HX11.out) HOK.out.sz (by rw [HF.out]; have := HFN.out; omega)).mono ?_; rintro e w12 ⟨v8, rfl, hown, hb⟩
      rw [HFL.out] at hown
      obtain ⟨a8, c8, rfl, hr8, -⟩ := rowR_own hown
      have HR8 := Lib.hid hr8
      have HX12 := Lib.hid (HX11.out.trans (hb.mono HX11.out.size))
      have HR12 := Lib.hid (HR11.out.below hb)
      clear hb hown hr8 HX11 HR11
      go_wp2_with fail
      refine (rrs_any a8 a2 f f c8 c2 (flatP S) (flatP S) w12 HR8.out HR12.out (by have := HFN.out; omega) (by have := HFN.out; omega)).mono ?_; rintro e w13 ⟨⟨x, rfl, hx⟩, hb⟩
      obtain rfl : x = true := hx.2 rfl
      have HX13 := Lib.hid (HX12.out.trans (hb.mono HX12.out.size))
      clear hb hx HX12 HR8 HR12
      go_wp2_with fail
      go_loopw [12] (fun i wr => ∃ (j : Nat), j ≤ n ∧ i = .int .i64 j ∧ Hid (Below w3.heap.size w3 wr)) (fun i _ => n - (intOf i).toNat)
      case atStart => exact ⟨0, Nat.zero_le _, rfl, HX13⟩
      case round =>
        obtain ⟨j, hj, rfl, hbw⟩ := hrel
        clear HX13
        have hn4 := HN4.out
        by_cases hlt : j < n
        · have HBW := Lib.hid (HB3.out.trans (hbw.out.mono HB3.out.size))
          obtain ⟨b, o, r, rfl, hbl, hlk, c0, c1, c2', c3, c4⟩ := (HR.out.below HBW.out).at j hlt
          have hmem := List.mem_of_getElem? hlk
          obtain ⟨s, hs, hsm, hsk, hsd, -⟩ := HOK.out.canon.found hmem
          have hth := there_of HOK.out hmem
          have hnz := mayN_sz (mayR5_n (HOK.out.may r hmem))
          obtain ⟨⟨rn, rt, rc⟩, ru, rd⟩ := r
          replace hs : findK S ⟨rn, rt, rc⟩ = some s := hs
          replace hth : (undS rn apex && thereP S rn) = true := hth
          replace hsd : rd ∈ s.data := hsd
          replace hnz : rn.size ≤ 255 := hnz
          replace c0 : wr.cell? ⟨b, o + j * 5, none⟩ = some (.string rn) := c0
          replace c1 : wr.cell? ⟨b, o + j * 5 + 1, none⟩ = some (.int .i64 rt) := c1
          replace c2' : wr.cell? ⟨b, o + j * 5 + 2, none⟩ = some (.int .i64 rc) := c2'
          replace c3 : wr.cell? ⟨b, o + j * 5 + 3, none⟩ = some (.int .i64 ru) := c3
          replace c4 : wr.cell? ⟨b, o + j * 5 + 4, none⟩ = some (.string rd) := c4
          have HS := Lib.hid hs
          have HSD := Lib.hid (memS_t hsd)
          have HSL := Lib.hid ((HOK.out.sz.2 s hsm).2)
          have HTH := Lib.hid (fun wx (hx : Below w3.heap.size w3 wx) => zthere_any z apex S rn wx (HOK.out.is.below hx) HOK.out.sz HA1.out (by omega))
          rw [hth] at HTH
          have HNZ := Lib.hid hnz
          have C0 := Lib.hid c0
          have C4 := Lib.hid c4
          have i1 : (0 : Int) ≤ (j : Int) := by omega
          have i2 : (j : Int) < (n : Int) := by omega
          have HLT := Lib.hid hlt
          clear hlk hmem hs hsm hsk hsd hth hnz hbl hlt HBW
          go_wp2_with fail
          refine (keyOf_any ⟨⟨rn, rt, rc⟩, ru, rd⟩ _).mono ?_; rintro e wk ⟨rfl, hbk⟩
          dsimp only
          have HXK := Lib.hid hbk.b
          have HBK := Lib.hid (hbw.out.trans (hbk.b.mono hbw.out.size))
          clear hbk c0 c1 c2' c3 c4
          go_wp2_with fail
          refine (zget_any z apex S rn rt rc wk (HOK.out.is.below HBK.out) HOK.out.canon.keys HOK.out.sz (by have := HNZ.out; omega)).mono ?_; rintro e wg ⟨hf, hbg⟩
          rcases hf with ⟨s', dv, hfs, rfl, ho⟩ | ⟨hfn, -⟩
          case inr => rw [HS.out] at hfn; cases hfn
          obtain rfl : s = s' := by rw [HS.out] at hfs; exact Option.some.inj hfs
          obtain ⟨⟨sn, st, sc1⟩, su, sd⟩ := s
          replace ho : wg.ownsRow wk.heap.size 9 1 dv sd.length (sc sd) := ho
          obtain ⟨da, dc, rfl, hdr, -⟩ := rowS_of_own ho
          have hdl := HSL.out
          replace hdl : sd.length ≤ 100000 := hdl
          have hsd := HSD.out
          replace hsd : memS rd sd = true := hsd
          obtain ⟨dl, hdl2⟩ : ∃ x, sd.length = x := ⟨_, rfl⟩
          rw [hdl2] at hdr hdl
          have hba := (Below.refl wg.heap.size wg).alloc (Nat.le_refl _) (.cells #[.string sn, .int .i64 st, .int .i64 sc1, .int .i64 su, .slice da dl dc] 39)
          have HXG := Lib.hid (HXK.out.trans ((hbg.trans (hba.mono hbg.size)).mono HXK.out.size))
          have HBG := Lib.hid (HBK.out.trans ((hbg.trans (hba.mono hbg.size)).mono HBK.out.size))
          have HDR := Lib.hid (hdr.below hba)
          have HC7 := Lib.hid (c5_new wg (.string sn) (.int .i64 st) (.int .i64 sc1) (.int .i64 su) (.slice da dl dc) 39)
          dsimp only
          rw [hdl2]
          clear hfs ho hdr hba hbg hdl2 HXK HBK HSL HSD
          go_upto_region 25 with (fail)
          obtain ⟨wa, hwa⟩ : ∃ x, wg.alloc (.cells #[.string sn, .int .i64 st, .int .i64 sc1, .int .i64 su, .slice da dl dc] 39) = x := ⟨_, rfl⟩
          rw [hwa] at HXG HBG HDR HC7 ⊢
          clear hwa
          obtain ⟨q, hq⟩ : ∃ x, wg.heap.size = x := ⟨_, rfl⟩
          rw [hq] at HC7 ⊢
          clear hq
          have HHAS := Lib.hid (fun wx (hx : Below wa.heap.size wa wx) => has_any sn st sc1 su sd da dl dc rd wx (HDR.out.below hx) hdl)
          rw [hsd] at HHAS
          have HBD := Lib.hid ((Below.refl wa.heap.size wa).drew)
          have D0 := Lib.hid (cell_later4 HXG.out C0.out)
          have D4 := Lib.hid (cell_later4 HXG.out C4.out)
          clear hsd hdl
          refine wp_region_held_drew (S := (fun wx => Hid (Below wa.heap.size wa wx) ∧ wx.cell? ⟨q, 0, none⟩ = some (.string sn) ∧ wx.cell? ⟨q, 1, none⟩ = some (.int .i64 st) ∧ wx.cell? ⟨q, 2, none⟩ = some (.int .i64 sc1) ∧ wx.cell? ⟨q, 3, none⟩ = some (.int .i64 su) ∧ wx.cell? ⟨q, 4, none⟩ = some (.slice da dl dc) ∧ wx.cell? ⟨b, o + j * 5, none⟩ = some (.string rn) ∧ wx.cell? ⟨b, o + j * 5 + 4, none⟩ = some (.string rd))) (by kernel_rfl) (⟨HBD, cell_later4 HBD.out HC7.out.2.1, cell_later4 HBD.out HC7.out.2.2.1, cell_later4 HBD.out HC7.out.2.2.2.1, cell_later4 HBD.out HC7.out.2.2.2.2.1, cell_later4 HBD.out HC7.out.2.2.2.2.2.1, cell_later4 HBD.out D0.out, cell_later4 HBD.out D4.out⟩) (fun hHeld => ?_)
          refine wpAnyH_take (i := 0) (oi := { dst := some 121, op := Go.Op.move (Go.Operand.tmp 14), type := 4, pos := "law.go:86", after := #[], guard := none }) (v := ?v0_1) rfl (by kernel_rfl) (by kernel_rfl) (by kernel_rfl) (fun _ _ _ h => h) (Or.inl ⟨by rfl, ?y0_1⟩) hHeld ?r0_1
          case y0_1 => intro w hSw; (try dsimp only at hSw); go_simp; try with_reducible rfl
          try simp only [Act.put, List.setIfInBounds_toArray, List.set_cons_zero, List.set_cons_succ]
          refine wpAnyH_take (i := 1) (oi := { dst := some 122, op := Go.Op.unOp Go.UnOp.not 4 (Go.Operand.tmp 121), type := 4, pos := "law.go:86", after := #[{ on := 0, ground := Go.Ground.data }], guard := none }) (v := ?v1_1) rfl (by kernel_rfl) (by kernel_rfl) (by kernel_rfl) (fun _ _ _ h => h) (Or.inl ⟨by rfl, ?y1_1⟩) hHeld ?r1_1
          case y1_1 => intro w hSw; (try dsimp only at hSw); go_simp; try with_reducible rfl
          try simp only [Act.put, List.setIfInBounds_toArray, List.set_cons_zero, List.set_cons_succ]
          refine wpAnyH_take (i := 2) (oi := { dst := some 123, op := Go.Op.move (Go.Operand.tmp 122), type := 4, pos := "law.go:86", after := #[{ on := 1, ground := Go.Ground.data }], guard := none }) (v := ?v2_1) rfl (by kernel_rfl) (by kernel_rfl) (by kernel_rfl) (fun _ _ _ h => h) (Or.inl ⟨by rfl, ?y2_1⟩) hHeld ?r2_1
          case y2_1 => intro w hSw; (try dsimp only at hSw); go_simp; try with_reducible rfl
          try simp only [Act.put, List.setIfInBounds_toArray, List.set_cons_zero, List.set_cons_succ]
          refine wpAnyH_take (i := 3) (oi := { dst := some 124, op := Go.Op.load 39 (Go.Operand.tmp 13), type := 39, pos := "law.go:86", after := #[{ on := 2, ground := Go.Ground.guard }], guard := some (2, false) }) (v := ?v3_1) rfl (by kernel_rfl) (by kernel_rfl) (by kernel_rfl) (fun _ _ _ h => h) (Or.inl ⟨by rfl, ?y3_1⟩) hHeld ?r3_1
          case y3_1 => intro w hSw; (try dsimp only at hSw); go_simp; try with_reducible rfl
          try simp only [Act.put, List.setIfInBounds_toArray, List.set_cons_zero, List.set_cons_succ]
          refine wpAnyH_take (i := 4) (oi := { dst := some 125, op := Go.Op.move (Go.Operand.tmp 1), type := 22, pos := "law.go:86", after := #[{ on := 2, ground := Go.Ground.guard }], guard := some (2, false) }) (v := ?v4_1) rfl (by kernel_rfl) (by kernel_rfl) (by kernel_rfl) (fun _ _ _ h => h) (Or.inl ⟨by rfl, ?y4_1⟩) hHeld ?r4_1
          case y4_1 => intro w hSw; (try dsimp only at hSw); go_simp; try with_reducible rfl
          try simp only [Act.put, List.setIfInBounds_toArray, List.set_cons_zero, List.set_cons_succ]
          refine wpAnyH_take (i := 5) (oi := { dst := some 126, op := Go.Op.move (Go.Operand.tmp 12), type := 3, pos := "law.go:86", after := #[{ on := 2, ground := Go.Ground.guard }], guard := some (2, false) }) (v := ?v5_1) rfl (by kernel_rfl) (by kernel_rfl) (by kernel_rfl) (fun _ _ _ h => h) (Or.inl ⟨by rfl, ?y5_1⟩) hHeld ?r5_1
          case y5_1 => intro w hSw; (try dsimp only at hSw); go_simp; try with_reducible rfl
          try simp only [Act.put, List.setIfInBounds_toArray, List.set_cons_zero, List.set_cons_succ]
          refine wpAnyH_take (i := 6) (oi := { dst := some 127, op := Go.Op.indexAddr 22 (Go.Operand.tmp 125) (Go.Operand.tmp 126), type := 0, pos := "law.go:86", after := #[{ on := 4, ground := Go.Ground.data }, { on := 5, ground := Go.Ground.data }, { on := 2, ground := Go.Ground.guard }], guard := some (2, false) }) (v := ?v6_1) rfl (by kernel_rfl) (by kernel_rfl) (by kernel_rfl) (fun _ _ _ h => h) (Or.inl ⟨by rfl, ?y6_1⟩) hHeld ?r6_1
          case y6_1 => intro w hSw; (try dsimp only at hSw); go_simp; try with_reducible rfl
          try simp only [Act.put, List.setIfInBounds_toArray, List.set_cons_zero, List.set_cons_succ]
          refine wpAnyH_take (i := 7) (oi := { dst := some 128, op := Go.Op.fieldAddr 45 (Go.Operand.tmp 127) 4, type := 0, pos := "law.go:86", after := #[{ on := 6, ground := Go.Ground.data }, { on := 2, ground := Go.Ground.guard }], guard := some (2, false) }) (v := ?v7_1) rfl (by kernel_rfl) (by kernel_rfl) (by kernel_rfl) (fun _ _ _ h => h) (Or.inl ⟨by rfl, ?y7_1⟩) hHeld ?r7_1
          case y7_1 => intro w hSw; (try dsimp only at hSw); go_simp; try with_reducible rfl
          try simp only [Act.put, List.setIfInBounds_toArray, List.set_cons_zero, List.set_cons_succ]
          refine wpAnyH_take (i := 8) (oi := { dst := some 129, op := Go.Op.load 9 (Go.Operand.tmp 128), type := 9, pos := "law.go:86", after := #[{ on := 7, ground := Go.Ground.data }, { on := 2, ground := Go.Ground.guard }], guard := some (2, false) }) (v := ?v8_1) rfl (by kernel_rfl) (by kernel_rfl) (by kernel_rfl) (fun _ _ _ h => h) (Or.inl ⟨by rfl, ?y8_1⟩) hHeld ?r8_1
          case y8_1 => intro w hSw; (try dsimp only at hSw); go_simp; try with_reducible rfl
          try simp only [Act.put, List.setIfInBounds_toArray, List.set_cons_zero, List.set_cons_succ]
          refine wpAnyH_ready (rs := [9]) (by kernel_rfl) (by simp) ?_
          refine AllReadyH.cons (o := { dst := some 130, op := Go.Op.call { callee := Go.Callee.value (Go.Operand.func 19), args := #[Go.Operand.tmp 124, Go.Operand.tmp 129], argTypes := #[39, 9] }, type := 4, pos := "law.go:86", after := #[{ on := 3, ground := Go.Ground.data }, { on := 8, ground := Go.Ground.data }, { on := 2, ground := Go.Ground.chain }, { on := 2, ground := Go.Ground.guard }], guard := some (2, false) }) rfl (fun K hK => ?_) AllReadyH.nil
          go_simp
          refine (HHAS.out _ hHeld.1.out).mono ?_; rintro e wy ⟨rfl, hb⟩
          go_wp2_with fail
          refine hK.out _ _ (⟨Lib.hid (hHeld.1.out.trans (hb.mono hHeld.1.out.size)), cell_later4 hb hHeld.2.1, cell_later4 hb hHeld.2.2.1, cell_later4 hb hHeld.2.2.2.1, cell_later4 hb hHeld.2.2.2.2.1, cell_later4 hb hHeld.2.2.2.2.2.1, cell_later4 hb hHeld.2.2.2.2.2.2.1, cell_later4 hb hHeld.2.2.2.2.2.2.2⟩) (fun hHeld2 => ?_)
          clear hK K hHeld
          have hHeld := hHeld2
          clear hHeld2
          try simp only [Act.put, List.setIfInBounds_toArray, List.set_cons_zero, List.set_cons_succ]
          refine wpAnyH_take (i := 10) (oi := { dst := some 131, op := Go.Op.unOp Go.UnOp.not 4 (Go.Operand.tmp 130), type := 4, pos := "law.go:86", after := #[{ on := 9, ground := Go.Ground.data }, { on := 2, ground := Go.Ground.guard }], guard := some (2, false) }) (v := ?v10_1) rfl (by kernel_rfl) (by kernel_rfl) (by kernel_rfl) (fun _ _ _ h => h) (Or.inl ⟨by rfl, ?y10_1⟩) hHeld ?r10_1
          case y10_1 => intro w hSw; (try dsimp only at hSw); go_simp; try with_reducible rfl
          try simp only [Act.put, List.setIfInBounds_toArray, List.set_cons_zero, List.set_cons_succ]
          refine wpAnyH_take (i := 11) (oi := { dst := some 132, op := Go.Op.pick (Go.Operand.tmp 123) (Go.Operand.const (Go.Value.bool true)) (Go.Operand.tmp 131), type := 4, pos := "law.go:86", after := #[{ on := 2, ground := Go.Ground.data }, { on := 10, ground := Go.Ground.data }], guard := none }) (v := ?v11_1) rfl (by kernel_rfl) (by kernel_rfl) (by kernel_rfl) (fun _ _ _ h => h) (Or.inl ⟨by rfl, ?y11_1⟩) hHeld ?r11_1
          case y11_1 => intro w hSw; (try dsimp only at hSw); go_simp; try with_reducible rfl
          try simp only [Act.put, List.setIfInBounds_toArray, List.set_cons_zero, List.set_cons_succ]
          refine wpAnyH_take (i := 12) (oi := { dst := some 133, op := Go.Op.move (Go.Operand.tmp 132), type := 4, pos := "law.go:86", after := #[{ on := 11, ground := Go.Ground.data }, { on := 9, ground := Go.Ground.chain }], guard := none }) (v := ?v12_1) rfl (by kernel_rfl) (by kernel_rfl) (by kernel_rfl) (fun _ _ _ h => h) (Or.inl ⟨by rfl, ?y12_1⟩) hHeld ?r12_1
          case y12_1 => intro w hSw; (try dsimp only at hSw); go_simp; try with_reducible rfl
          try simp only [Act.put, List.setIfInBounds_toArray, List.set_cons_zero, List.set_cons_succ]
          refine wpAnyH_take (i := 13) (oi := { dst := some 134, op := Go.Op.move (Go.Operand.tmp 5), type := 25, pos := "law.go:86", after := #[{ on := 12, ground := Go.Ground.guard }], guard := some (12, false) }) (v := ?v13_1) rfl (by kernel_rfl) (by kernel_rfl) (by kernel_rfl) (fun _ _ _ h => h) (Or.inl ⟨by rfl, ?y13_1⟩) hHeld ?r13_1
          case y13_1 => intro w hSw; (try dsimp only at hSw); go_simp; try with_reducible rfl
          try simp only [Act.put, List.setIfInBounds_toArray, List.set_cons_zero, List.set_cons_succ]
          refine wpAnyH_take (i := 14) (oi := { dst := some 135, op := Go.Op.move (Go.Operand.tmp 1), type := 22, pos := "law.go:86", after := #[{ on := 12, ground := Go.Ground.guard }], guard := some (12, false) }) (v := ?v14_1) rfl (by kernel_rfl) (by kernel_rfl) (by kernel_rfl) (fun _ _ _ h => h) (Or.inl ⟨by rfl, ?y14_1⟩) hHeld ?r14_1
          case y14_1 => intro w hSw; (try dsimp only at hSw); go_simp; try with_reducible rfl
          try simp only [Act.put, List.setIfInBounds_toArray, List.set_cons_zero, List.set_cons_succ]
          refine wpAnyH_take (i := 15) (oi := { dst := some 136, op := Go.Op.move (Go.Operand.tmp 12), type := 3, pos := "law.go:86", after := #[{ on := 12, ground := Go.Ground.guard }], guard := some (12, false) }) (v := ?v15_1) rfl (by kernel_rfl) (by kernel_rfl) (by kernel_rfl) (fun _ _ _ h => h) (Or.inl ⟨by rfl, ?y15_1⟩) hHeld ?r15_1
          case y15_1 => intro w hSw; (try dsimp only at hSw); go_simp; try with_reducible rfl
          try simp only [Act.put, List.setIfInBounds_toArray, List.set_cons_zero, List.set_cons_succ]
          refine wpAnyH_take (i := 16) (oi := { dst := some 137, op := Go.Op.indexAddr 22 (Go.Operand.tmp 135) (Go.Operand.tmp 136), type := 0, pos := "law.go:86", after := #[{ on := 14, ground := Go.Ground.data }, { on := 15, ground := Go.Ground.data }, { on := 12, ground := Go.Ground.guard }], guard := some (12, false) }) (v := ?v16_1) rfl (by kernel_rfl) (by kernel_rfl) (by kernel_rfl) (fun _ _ _ h => h) (Or.inl ⟨by rfl, ?y16_1⟩) hHeld ?r16_1
          case y16_1 => intro w hSw; (try dsimp only at hSw); go_simp; try with_reducible rfl
          try simp only [Act.put, List.setIfInBounds_toArray, List.set_cons_zero, List.set_cons_succ]
          refine wpAnyH_take (i := 17) (oi := { dst := some 138, op := Go.Op.fieldAddr 45 (Go.Operand.tmp 137) 0, type := 0, pos := "law.go:86", after := #[{ on := 16, ground := Go.Ground.data }, { on := 12, ground := Go.Ground.guard }], guard := some (12, false) }) (v := ?v17_1) rfl (by kernel_rfl) (by kernel_rfl) (by kernel_rfl) (fun _ _ _ h => h) (Or.inl ⟨by rfl, ?y17_1⟩) hHeld ?r17_1
          case y17_1 => intro w hSw; (try dsimp only at hSw); go_simp; try with_reducible rfl
          try simp only [Act.put, List.setIfInBounds_toArray, List.set_cons_zero, List.set_cons_succ]
          refine wpAnyH_take (i := 18) (oi := { dst := some 139, op := Go.Op.load 9 (Go.Operand.tmp 138), type := 9, pos := "law.go:86", after := #[{ on := 17, ground := Go.Ground.data }, { on := 12, ground := Go.Ground.guard }], guard := some (12, false) }) (v := ?v18_1) rfl (by kernel_rfl) (by kernel_rfl) (by kernel_rfl) (fun _ _ _ h => h) (Or.inl ⟨by rfl, ?y18_1⟩) hHeld ?r18_1
          case y18_1 => intro w hSw; (try dsimp only at hSw); go_simp; try with_reducible rfl
          try simp only [Act.put, List.setIfInBounds_toArray, List.set_cons_zero, List.set_cons_succ]
          refine wpAnyH_ready (rs := [19]) (by kernel_rfl) (by simp) ?_
          refine AllReadyH.cons (o := { dst := some 140, op := Go.Op.call { callee := Go.Callee.value (Go.Operand.func 20), args := #[Go.Operand.tmp 134, Go.Operand.tmp 139], argTypes := #[25, 9] }, type := 4, pos := "law.go:86", after := #[{ on := 13, ground := Go.Ground.data }, { on := 18, ground := Go.Ground.data }, { on := 12, ground := Go.Ground.chain }, { on := 12, ground := Go.Ground.guard }], guard := some (12, false) }) rfl (fun K hK => ?_) AllReadyH.nil
          go_simp
          refine (HTH.out _ (HBG.out.trans (hHeld.1.out.mono HBG.out.size))).mono ?_; rintro e wy2 ⟨rfl, hb⟩
          go_wp2_with fail
          refine hK.out _ _ (⟨Lib.hid (hHeld.1.out.trans (hb.mono hHeld.1.out.size)), cell_later4 hb hHeld.2.1, cell_later4 hb hHeld.2.2.1, cell_later4 hb hHeld.2.2.2.1, cell_later4 hb hHeld.2.2.2.2.1, cell_later4 hb hHeld.2.2.2.2.2.1, cell_later4 hb hHeld.2.2.2.2.2.2.1, cell_later4 hb hHeld.2.2.2.2.2.2.2⟩) (fun hHeld2 => ?_)
          clear hK K hHeld
          have hHeld := hHeld2
          clear hHeld2
          try simp only [Act.put, List.setIfInBounds_toArray, List.set_cons_zero, List.set_cons_succ]
          refine wpAnyH_take (i := 20) (oi := { dst := some 141, op := Go.Op.unOp Go.UnOp.not 4 (Go.Operand.tmp 140), type := 4, pos := "law.go:86", after := #[{ on := 19, ground := Go.Ground.data }, { on := 12, ground := Go.Ground.guard }], guard := some (12, false) }) (v := ?v20_1) rfl (by kernel_rfl) (by kernel_rfl) (by kernel_rfl) (fun _ _ _ h => h) (Or.inl ⟨by rfl, ?y20_1⟩) hHeld ?r20_1
          case y20_1 => intro w hSw; (try dsimp only at hSw); go_simp; try with_reducible rfl
          try simp only [Act.put, List.setIfInBounds_toArray, List.set_cons_zero, List.set_cons_succ]
          refine wpAnyH_take (i := 21) (oi := { dst := some 142, op := Go.Op.pick (Go.Operand.tmp 133) (Go.Operand.const (Go.Value.bool true)) (Go.Operand.tmp 141), type := 4, pos := "law.go:86", after := #[{ on := 12, ground := Go.Ground.data }, { on := 20, ground := Go.Ground.data }], guard := none }) (v := ?v21_1) rfl (by kernel_rfl) (by kernel_rfl) (by kernel_rfl) (fun _ _ _ h => h) (Or.inl ⟨by rfl, ?y21_1⟩) hHeld ?r21_1
          case y21_1 => intro w hSw; (try dsimp only at hSw); go_simp; try with_reducible rfl
          try simp only [Act.put, List.setIfInBounds_toArray, List.set_cons_zero, List.set_cons_succ]
          refine wpAnyH_done (by kernel_rfl) ?_ _
          have HBE := Lib.hid (HBG.out.trans (hHeld.1.out.mono HBG.out.size))
          go_wp2
          go_roundw
          case rel => exact ⟨j + 1, HLT.out, by have := HLT.out; go_num, HBE⟩
          case measure => have := HLT.out; simp [intOf]; omega
        · obtain rfl : j = n := by omega
          have hds := HD0.out
          go_wp2_with fail
          refine (zget_any z apex S apex 6 1 wr (HOK.out.is.below hbw.out) HOK.out.canon.keys HOK.out.sz HA1.out).mono ?_; rintro e wg ⟨hf, hbg⟩
          rcases hf with ⟨s', dv, hfs, rfl, ho⟩ | ⟨hfn, -⟩
          case inr => rw [HS0.out] at hfn; cases hfn
          obtain rfl : s0 = s' := by rw [HS0.out] at hfs; exact Option.some.inj hfs
          obtain ⟨⟨sn, st, sc1⟩, su, sd⟩ := s0
          obtain rfl : sd = [d0] := hds
          replace ho : wg.ownsRow wr.heap.size 9 1 dv 1 [.string d0] := ho
          obtain ⟨g, c9, rfl⟩ : ∃ g c9, dv = .slice (some ⟨g, 0, none⟩) 1 c9 := by
            rcases ho.2 with ⟨_, h1⟩ | ⟨g', cap, cur, e, _⟩
            · cases h1
            · exact ⟨g', cap, e⟩
          have hc0 : wg.cell? ⟨g, 0, none⟩ = some (.string d0) := ownsRow_at ho 0 _ rfl
          have hba := (Below.refl wg.heap.size wg).alloc (Nat.le_refl _) (.cells #[.string sn, .int .i64 st, .int .i64 sc1, .int .i64 su, .slice (some ⟨g, 0, none⟩) 1 c9] 39)
          have HBG := Lib.hid (hbw.out.trans ((hbg.trans (hba.mono hbg.size)).mono hbw.out.size))
          have HC7 := Lib.hid (c5_new wg (.string sn) (.int .i64 st) (.int .i64 sc1) (.int .i64 su) (.slice (some ⟨g, 0, none⟩) 1 c9) 39)
          have HK0 := Lib.hid (cell_later4 hba hc0)
          dsimp only
          clear hfs ho hba hbg hc0 hlt hj hbw
          go_upto_region 28 with (fail)
          obtain ⟨wa, hwa⟩ : ∃ x, wg.alloc (.cells #[.string sn, .int .i64 st, .int .i64 sc1, .int .i64 su, .slice (some ⟨g, 0, none⟩) 1 c9] 39) = x := ⟨_, rfl⟩
          rw [hwa] at HBG HC7 HK0 ⊢
          clear hwa
          obtain ⟨-, q0, q1, q2, q3, q4, -⟩ := HC7.out
          have k0 := HK0.out
          obtain ⟨M, R, x1, x2, x3, x4, x5, hgs⟩ : ∃ M R x1 x2 x3 x4 x5, getSoaV d0 = .tuple #[.agg #[.string M, .string R, .int .i64 x1, .int .i64 x2, .int .i64 x3, .int .i64 x4, .int .i64 x5], .bool true] := by
            rw [getSoaV, if_pos HSO.out]; exact ⟨_, _, _, _, _, _, _, rfl⟩
          have HGS := Lib.hid hgs
          have HGC := Lib.hid (fun wx => getSoa_any d0 wx HDZ.out)
          rw [hgs] at HGC
          clear hgs
          go_wp2_with fail
          refine (HGC.out _).mono ?_; rintro e wb ⟨rfl, hb⟩
          have hba := (Below.refl wb.heap.size wb).alloc (Nat.le_refl _) (.cells #[.string M, .string R, .int .i64 x1, .int .i64 x2, .int .i64 x3, .int .i64 x4, .int .i64 x5] 48)
          have HBH := Lib.hid (HBG.out.trans ((hb.trans (hba.mono hb.size)).mono HBG.out.size))
          have HN7 := Lib.hid (CN.new wb #[.string M, .string R, .int .i64 x1, .int .i64 x2, .int .i64 x3, .int .i64 x4, .int .i64 x5] 48)
          replace HN7 : Hid (CN (wb.alloc (.cells #[.string M, .string R, .int .i64 x1, .int .i64 x2, .int .i64 x3, .int .i64 x4, .int .i64 x5] 48)) wb.heap.size [.string M, .string R, .int .i64 x1, .int .i64 x2, .int .i64 x3, .int .i64 x4, .int .i64 x5]) := HN7
          clear hb hba q0 q1 q2 q3 q4 k0 HC7 HK0 HBG
          go_upto_region 31 with (fail)
          obtain ⟨wc, hwc⟩ : ∃ x, wb.alloc (.cells #[.string M, .string R, .int .i64 x1, .int .i64 x2, .int .i64 x3, .int .i64 x4, .int .i64 x5] 48) = x := ⟨_, rfl⟩
          rw [hwc] at HBH HN7 ⊢
          clear hwc
          obtain ⟨q, hq⟩ : ∃ x, wb.heap.size = x := ⟨_, rfl⟩
          rw [hq] at HN7 ⊢
          clear hq
          have HBD := Lib.hid ((Below.refl wc.heap.size wc).drew)
          have HPX := Lib.hid (fun wx (hx : Below wc.heap.size wc wx) => HOK.out.is.below (HBH.out.trans (hx.mono HBH.out.size)))
          have HSOA := Lib.hid (fun wx (hx : Below wc.heap.size wc wx) => zsoa_any z apex S _ d0 [] M R x1 x2 x3 x4 x5 true wx (HPX.out wx hx) HOK.out.canon.keys HOK.out.sz HA1.out HS0.out rfl HDZ.out HGS.out)
          have HAPX := Lib.hid (fun wx (hx : Below wc.heap.size wc wx) => (zapex_any z apex S wx (HPX.out wx hx)).mono (fun e w' h => (⟨h.1, by rw [← h.2]; exact Below.refl _ _⟩ : e = .returned (.string apex) ∧ Below wx.heap.size wx w')))
          have HLEN := Lib.hid (fun wx (hx : Below wc.heap.size wc wx) => zlen_any z apex S wx (HPX.out wx hx) HOK.out.sz)
          rw [HF.out] at HLEN
          have hse := soa_equal M R x1 x2 x3 x4 x5
          have e2 := eqB_refl0 apex
          have d1 : decide (f ≤ j) = true := dT HFN.out.2
          have d2 : decide ((f : Int) ≤ (j : Int)) = true := dT (by have := HFN.out; omega)
          have e3 : ((f : Int) == (f : Int)) = true := eT rfl
          refine wp_region_held_drew (S := (fun wx => Hid (Below wc.heap.size wc wx) ∧ wx.cell? ⟨q, 0, none⟩ = some (.string M) ∧ wx.cell? ⟨q, 1, none⟩ = some (.string R) ∧ wx.cell? ⟨q, 2, none⟩ = some (.int .i64 x1) ∧ wx.cell? ⟨q, 3, none⟩ = some (.int .i64 x2) ∧ wx.cell? ⟨q, 4, none⟩ = some (.int .i64 x3) ∧ wx.cell? ⟨q, 5, none⟩ = some (.int .i64 x4) ∧ wx.cell? ⟨q, 6, none⟩ = some (.int .i64 x5))) (by kernel_rfl) (⟨HBD, cell_later4 HBD.out (HN7.out.2 0 _ rfl).1, cell_later4 HBD.out (HN7.out.2 1 _ rfl).1, cell_later4 HBD.out (HN7.out.2 2 _ rfl).1, cell_later4 HBD.out (HN7.out.2 3 _ rfl).1, cell_later4 HBD.out (HN7.out.2 4 _ rfl).1, cell_later4 HBD.out (HN7.out.2 5 _ rfl).1, cell_later4 HBD.out (HN7.out.2 6 _ rfl).1⟩) (fun hHeld => ?_)
          refine wpAnyH_ready (rs := [0]) (by kernel_rfl) (by simp) ?_
          refine AllReadyH.cons (o := { dst := some 166, op := Go.Op.call { callee := Go.Callee.value (Go.Operand.func 9), args := #[], argTypes := #[] }, type := 4, pos := "law.go:95", after := #[], guard := none }) rfl (fun K hK => ?_) AllReadyH.nil
          go_simp
          refine (first10 _).mono ?_; rintro e wy0 ⟨rfl, hb⟩
          go_wp2_with fail
          refine hK.out _ _ (⟨Lib.hid (hHeld.1.out.trans (hb.mono hHeld.1.out.size)), cell_later4 hb hHeld.2.1, cell_later4 hb hHeld.2.2.1, cell_later4 hb hHeld.2.2.2.1, cell_later4 hb hHeld.2.2.2.2.1, cell_later4 hb hHeld.2.2.2.2.2.1, cell_later4 hb hHeld.2.2.2.2.2.2.1, cell_later4 hb hHeld.2.2.2.2.2.2.2⟩) (fun hHeld2 => ?_)
          clear hK K hHeld
          have hHeld := hHeld2
          clear hHeld2
          try simp only [Act.put, List.setIfInBounds_toArray, List.set_cons_zero, List.set_cons_succ]
          refine wpAnyH_take (i := 1) (oi := { dst := some 167, op := Go.Op.move (Go.Operand.tmp 166), type := 4, pos := "law.go:95", after := #[{ on := 0, ground := Go.Ground.data }, { on := 0, ground := Go.Ground.chain }], guard := none }) (v := ?v1_2) rfl (by kernel_rfl) (by kernel_rfl) (by kernel_rfl) (fun _ _ _ h => h) (Or.inl ⟨by rfl, ?y1_2⟩) hHeld ?r1_2
          case y1_2 => intro w hSw; (try dsimp only at hSw); go_simp; try with_reducible rfl
          try simp only [Act.put, List.setIfInBounds_toArray, List.set_cons_zero, List.set_cons_succ]
          refine wpAnyH_take (i := 2) (oi := { dst := some 168, op := Go.Op.move (Go.Operand.tmp 18), type := 4, pos := "law.go:95", after := #[{ on := 1, ground := Go.Ground.guard }], guard := some (1, true) }) (v := ?v2_2) rfl (by kernel_rfl) (by kernel_rfl) (by kernel_rfl) (fun _ _ _ h => h) (Or.inl ⟨by rfl, ?y2_2⟩) hHeld ?r2_2
          case y2_2 => intro w hSw; (try dsimp only at hSw); go_simp; try with_reducible rfl
          try simp only [Act.put, List.setIfInBounds_toArray, List.set_cons_zero, List.set_cons_succ]
          refine wpAnyH_take (i := 3) (oi := { dst := some 169, op := Go.Op.pick (Go.Operand.tmp 167) (Go.Operand.tmp 168) (Go.Operand.const (Go.Value.bool false)), type := 4, pos := "law.go:95", after := #[{ on := 1, ground := Go.Ground.data }, { on := 2, ground := Go.Ground.data }], guard := none }) (v := ?v3_2) rfl (by kernel_rfl) (by kernel_rfl) (by kernel_rfl) (fun _ _ _ h => h) (Or.inl ⟨by rfl, ?y3_2⟩) hHeld ?r3_2
          case y3_2 => intro w hSw; (try dsimp only at hSw); go_simp; try with_reducible rfl
          try simp only [Act.put, List.setIfInBounds_toArray, List.set_cons_zero, List.set_cons_succ]
          refine wpAnyH_take (i := 4) (oi := { dst := some 170, op := Go.Op.move (Go.Operand.tmp 169), type := 4, pos := "law.go:95", after := #[{ on := 3, ground := Go.Ground.data }, { on := 1, ground := Go.Ground.chain }], guard := none }) (v := ?v4_2) rfl (by kernel_rfl) (by kernel_rfl) (by kernel_rfl) (fun _ _ _ h => h) (Or.inl ⟨by rfl, ?y4_2⟩) hHeld ?r4_2
          case y4_2 => intro w hSw; (try dsimp only at hSw); go_simp; try with_reducible rfl
          try simp only [Act.put, List.setIfInBounds_toArray, List.set_cons_zero, List.set_cons_succ]
          refine wpAnyH_take (i := 5) (oi := { dst := some 171, op := Go.Op.load 48 (Go.Operand.tmp 17), type := 48, pos := "law.go:95", after := #[{ on := 4, ground := Go.Ground.guard }], guard := some (4, true) }) (v := ?v5_2) rfl (by kernel_rfl) (by kernel_rfl) (by kernel_rfl) (fun _ _ _ h => h) (Or.inl ⟨by rfl, ?y5_2⟩) hHeld ?r5_2
          case y5_2 => intro w hSw; (try dsimp only at hSw); go_simp; try with_reducible rfl
          try simp only [Act.put, List.setIfInBounds_toArray, List.set_cons_zero, List.set_cons_succ]
          refine wpAnyH_take (i := 6) (oi := { dst := some 172, op := Go.Op.move (Go.Operand.tmp 5), type := 25, pos := "law.go:95", after := #[{ on := 4, ground := Go.Ground.guard }], guard := some (4, true) }) (v := ?v6_2) rfl (by kernel_rfl) (by kernel_rfl) (by kernel_rfl) (fun _ _ _ h => h) (Or.inl ⟨by rfl, ?y6_2⟩) hHeld ?r6_2
          case y6_2 => intro w hSw; (try dsimp only at hSw); go_simp; try with_reducible rfl
          try simp only [Act.put, List.setIfInBounds_toArray, List.set_cons_zero, List.set_cons_succ]
          refine wpAnyH_ready (rs := [7]) (by kernel_rfl) (by simp) ?_
          refine AllReadyH.cons (o := { dst := some 173, op := Go.Op.call { callee := Go.Callee.value (Go.Operand.func 22), args := #[Go.Operand.tmp 172], argTypes := #[25] }, type := 48, pos := "law.go:95", after := #[{ on := 6, ground := Go.Ground.data }, { on := 4, ground := Go.Ground.chain }, { on := 4, ground := Go.Ground.guard }], guard := some (4, true) }) rfl (fun K hK => ?_) AllReadyH.nil
          go_simp
          refine (HSOA.out _ hHeld.1.out).mono ?_; rintro e wy1 ⟨rfl, hb⟩
          go_wp2_with fail
          refine hK.out _ _ (⟨Lib.hid (hHeld.1.out.trans (hb.mono hHeld.1.out.size)), cell_later4 hb hHeld.2.1, cell_later4 hb hHeld.2.2.1, cell_later4 hb hHeld.2.2.2.1, cell_later4 hb hHeld.2.2.2.2.1, cell_later4 hb hHeld.2.2.2.2.2.1, cell_later4 hb hHeld.2.2.2.2.2.2.1, cell_later4 hb hHeld.2.2.2.2.2.2.2⟩) (fun hHeld2 => ?_)
          clear hK K hHeld
          have hHeld := hHeld2
          clear hHeld2
          try simp only [Act.put, List.setIfInBounds_toArray, List.set_cons_zero, List.set_cons_succ]
          refine wpAnyH_take (i := 8) (oi := { dst := some 174, op := Go.Op.binOp Go.BinOp.eql 48 (Go.Operand.tmp 171) (Go.Operand.tmp 173) 48, type := 4, pos := "law.go:95", after := #[{ on := 5, ground := Go.Ground.data }, { on := 7, ground := Go.Ground.data }, { on := 4, ground := Go.Ground.guard }], guard := some (4, true) }) (v := ?v8_2) rfl (by kernel_rfl) (by kernel_rfl) (by kernel_rfl) (fun _ _ _ h => h) (Or.inl ⟨by rfl, ?y8_2⟩) hHeld ?r8_2
          case y8_2 => intro w hSw; (try dsimp only at hSw); go_simp; try with_reducible rfl
          try simp only [Act.put, List.setIfInBounds_toArray, List.set_cons_zero, List.set_cons_succ]
          refine wpAnyH_take (i := 9) (oi := { dst := some 175, op := Go.Op.pick (Go.Operand.tmp 170) (Go.Operand.tmp 174) (Go.Operand.const (Go.Value.bool false)), type := 4, pos := "law.go:95", after := #[{ on := 4, ground := Go.Ground.data }, { on := 8, ground := Go.Ground.data }], guard := none }) (v := ?v9_2) rfl (by kernel_rfl) (by kernel_rfl) (by kernel_rfl) (fun _ _ _ h => h) (Or.inl ⟨by rfl, ?y9_2⟩) hHeld ?r9_2
          case y9_2 => intro w hSw; (try dsimp only at hSw); go_simp; try with_reducible rfl
          try simp only [Act.put, List.setIfInBounds_toArray, List.set_cons_zero, List.set_cons_succ]
          refine wpAnyH_take (i := 10) (oi := { dst := some 176, op := Go.Op.move (Go.Operand.tmp 175), type := 4, pos := "law.go:95", after := #[{ on := 9, ground := Go.Ground.data }, { on := 7, ground := Go.Ground.chain }], guard := none }) (v := ?v10_2) rfl (by kernel_rfl) (by kernel_rfl) (by kernel_rfl) (fun _ _ _ h => h) (Or.inl ⟨by rfl, ?y10_2⟩) hHeld ?r10_2
          case y10_2 => intro w hSw; (try dsimp only at hSw); go_simp; try with_reducible rfl
          try simp only [Act.put, List.setIfInBounds_toArray, List.set_cons_zero, List.set_cons_succ]
          refine wpAnyH_take (i := 11) (oi := { dst := some 177, op := Go.Op.move (Go.Operand.tmp 5), type := 25, pos := "law.go:95", after := #[{ on := 10, ground := Go.Ground.guard }], guard := some (10, true) }) (v := ?v11_2) rfl (by kernel_rfl) (by kernel_rfl) (by kernel_rfl) (fun _ _ _ h => h) (Or.inl ⟨by rfl, ?y11_2⟩) hHeld ?r11_2
          case y11_2 => intro w hSw; (try dsimp only at hSw); go_simp; try with_reducible rfl
          try simp only [Act.put, List.setIfInBounds_toArray, List.set_cons_zero, List.set_cons_succ]
          refine wpAnyH_take (i := 13) (oi := { dst := some 179, op := Go.Op.move (Go.Operand.tmp 0), type := 9, pos := "law.go:95", after := #[{ on := 10, ground := Go.Ground.guard }], guard := some (10, true) }) (v := ?v13_2) rfl (by kernel_rfl) (by kernel_rfl) (by kernel_rfl) (fun _ _ _ h => h) (Or.inl ⟨by rfl, ?y13_2⟩) hHeld ?r13_2
          case y13_2 => intro w hSw; (try dsimp only at hSw); go_simp; try with_reducible rfl
          try simp only [Act.put, List.setIfInBounds_toArray, List.set_cons_zero, List.set_cons_succ]
          refine wpAnyH_ready (rs := [12]) (by kernel_rfl) (by simp) ?_
          refine AllReadyH.cons (o := { dst := some 178, op := Go.Op.call { callee := Go.Callee.value (Go.Operand.func 23), args := #[Go.Operand.tmp 177], argTypes := #[25] }, type := 9, pos := "law.go:95", after := #[{ on := 11, ground := Go.Ground.data }, { on := 10, ground := Go.Ground.chain }, { on := 10, ground := Go.Ground.guard }], guard := some (10, true) }) rfl (fun K hK => ?_) AllReadyH.nil
          go_simp
          refine (HAPX.out _ hHeld.1.out).mono ?_; rintro e wy2 ⟨rfl, hb⟩
          go_wp2_with fail
          refine hK.out _ _ (⟨Lib.hid (hHeld.1.out.trans (hb.mono hHeld.1.out.size)), cell_later4 hb hHeld.2.1, cell_later4 hb hHeld.2.2.1, cell_later4 hb hHeld.2.2.2.1, cell_later4 hb hHeld.2.2.2.2.1, cell_later4 hb hHeld.2.2.2.2.2.1, cell_later4 hb hHeld.2.2.2.2.2.2.1, cell_later4 hb hHeld.2.2.2.2.2.2.2⟩) (fun hHeld2 => ?_)
          clear hK K hHeld
          have hHeld := hHeld2
          clear hHeld2
          try simp only [Act.put, List.setIfInBounds_toArray, List.set_cons_zero, List.set_cons_succ]
          refine wpAnyH_take (i := 14) (oi := { dst := some 180, op := Go.Op.binOp Go.BinOp.eql 9 (Go.Operand.tmp 178) (Go.Operand.tmp 179) 9, type := 4, pos := "law.go:95", after := #[{ on := 12, ground := Go.Ground.data }, { on := 13, ground := Go.Ground.data }, { on := 10, ground := Go.Ground.guard }], guard := some (10, true) }) (v := ?v14_2) rfl (by kernel_rfl) (by kernel_rfl) (by kernel_rfl) (fun _ _ _ h => h) (Or.inl ⟨by rfl, ?y14_2⟩) hHeld ?r14_2
          case y14_2 => intro w hSw; (try dsimp only at hSw); go_simp; try with_reducible rfl
          try simp only [Act.put, List.setIfInBounds_toArray, List.set_cons_zero, List.set_cons_succ]
          refine wpAnyH_take (i := 15) (oi := { dst := some 181, op := Go.Op.pick (Go.Operand.tmp 176) (Go.Operand.tmp 180) (Go.Operand.const (Go.Value.bool false)), type := 4, pos := "law.go:95", after := #[{ on := 10, ground := Go.Ground.data }, { on := 14, ground := Go.Ground.data }], guard := none }) (v := ?v15_2) rfl (by kernel_rfl) (by kernel_rfl) (by kernel_rfl) (fun _ _ _ h => h) (Or.inl ⟨by rfl, ?y15_2⟩) hHeld ?r15_2
          case y15_2 => intro w hSw; (try dsimp only at hSw); go_simp; try with_reducible rfl
          try simp only [Act.put, List.setIfInBounds_toArray, List.set_cons_zero, List.set_cons_succ]
          refine wpAnyH_take (i := 16) (oi := { dst := some 182, op := Go.Op.move (Go.Operand.tmp 181), type := 4, pos := "law.go:95", after := #[{ on := 15, ground := Go.Ground.data }, { on := 12, ground := Go.Ground.chain }], guard := none }) (v := ?v16_2) rfl (by kernel_rfl) (by kernel_rfl) (by kernel_rfl) (fun _ _ _ h => h) (Or.inl ⟨by rfl, ?y16_2⟩) hHeld ?r16_2
          case y16_2 => intro w hSw; (try dsimp only at hSw); go_simp; try with_reducible rfl
          try simp only [Act.put, List.setIfInBounds_toArray, List.set_cons_zero, List.set_cons_succ]
          refine wpAnyH_take (i := 17) (oi := { dst := some 183, op := Go.Op.move (Go.Operand.tmp 5), type := 25, pos := "law.go:95", after := #[{ on := 16, ground := Go.Ground.guard }], guard := some (16, true) }) (v := ?v17_2) rfl (by kernel_rfl) (by kernel_rfl) (by kernel_rfl) (fun _ _ _ h => h) (Or.inl ⟨by rfl, ?y17_2⟩) hHeld ?r17_2
          case y17_2 => intro w hSw; (try dsimp only at hSw); go_simp; try with_reducible rfl
          try simp only [Act.put, List.setIfInBounds_toArray, List.set_cons_zero, List.set_cons_succ]
          refine wpAnyH_take (i := 19) (oi := { dst := some 185, op := Go.Op.move (Go.Operand.tmp 7), type := 22, pos := "law.go:95", after := #[{ on := 16, ground := Go.Ground.guard }], guard := some (16, true) }) (v := ?v19_2) rfl (by kernel_rfl) (by kernel_rfl) (by kernel_rfl) (fun _ _ _ h => h) (Or.inl ⟨by rfl, ?y19_2⟩) hHeld ?r19_2
          case y19_2 => intro w hSw; (try dsimp only at hSw); go_simp; try with_reducible rfl
          try simp only [Act.put, List.setIfInBounds_toArray, List.set_cons_zero, List.set_cons_succ]
          refine wpAnyH_take (i := 20) (oi := { dst := some 186, op := Go.Op.call { callee := Go.Callee.builtin Go.Builtin.len, args := #[Go.Operand.tmp 185], argTypes := #[22] }, type := 3, pos := "law.go:95", after := #[{ on := 19, ground := Go.Ground.data }, { on := 16, ground := Go.Ground.guard }], guard := some (16, true) }) (v := ?v20_2) rfl (by kernel_rfl) (by kernel_rfl) (by kernel_rfl) (fun _ _ _ h => h) (Or.inl ⟨by rfl, ?y20_2⟩) hHeld ?r20_2
          case y20_2 => intro w hSw; (try dsimp only at hSw); go_simp; try with_reducible rfl
          try simp only [Act.put, List.setIfInBounds_toArray, List.set_cons_zero, List.set_cons_succ]
          refine wpAnyH_ready (rs := [18]) (by kernel_rfl) (by simp) ?_
          refine AllReadyH.cons (o := { dst := some 184, op := Go.Op.call { callee := Go.Callee.value (Go.Operand.func 24), args := #[Go.Operand.tmp 183], argTypes := #[25] }, type := 3, pos := "law.go:95", after := #[{ on := 17, ground := Go.Ground.data }, { on := 16, ground := Go.Ground.chain }, { on := 16, ground := Go.Ground.guard }], guard := some (16, true) }) rfl (fun K hK => ?_) AllReadyH.nil
          go_simp
          refine (HLEN.out _ hHeld.1.out).mono ?_; rintro e wy3 ⟨rfl, hb⟩
          go_wp2_with fail
          refine hK.out _ _ (⟨Lib.hid (hHeld.1.out.trans (hb.mono hHeld.1.out.size)), cell_later4 hb hHeld.2.1, cell_later4 hb hHeld.2.2.1, cell_later4 hb hHeld.2.2.2.1, cell_later4 hb hHeld.2.2.2.2.1, cell_later4 hb hHeld.2.2.2.2.2.1, cell_later4 hb hHeld.2.2.2.2.2.2.1, cell_later4 hb hHeld.2.2.2.2.2.2.2⟩) (fun hHeld2 => ?_)
          clear hK K hHeld
          have hHeld := hHeld2
          clear hHeld2
          try simp only [Act.put, List.setIfInBounds_toArray, List.set_cons_zero, List.set_cons_succ]
          refine wpAnyH_take (i := 21) (oi := { dst := some 187, op := Go.Op.binOp Go.BinOp.eql 3 (Go.Operand.tmp 184) (Go.Operand.tmp 186) 3, type := 4, pos := "law.go:95", after := #[{ on := 18, ground := Go.Ground.data }, { on := 20, ground := Go.Ground.data }, { on := 16, ground := Go.Ground.guard }], guard := some (16, true) }) (v := ?v21_2) rfl (by kernel_rfl) (by kernel_rfl) (by kernel_rfl) (fun _ _ _ h => h) (Or.inl ⟨by rfl, ?y21_2⟩) hHeld ?r21_2
          case y21_2 => intro w hSw; (try dsimp only at hSw); go_simp; try with_reducible rfl
          try simp only [Act.put, List.setIfInBounds_toArray, List.set_cons_zero, List.set_cons_succ]
          refine wpAnyH_take (i := 22) (oi := { dst := some 188, op := Go.Op.pick (Go.Operand.tmp 182) (Go.Operand.tmp 187) (Go.Operand.const (Go.Value.bool false)), type := 4, pos := "law.go:95", after := #[{ on := 16, ground := Go.Ground.data }, { on := 21, ground := Go.Ground.data }], guard := none }) (v := ?v22_2) rfl (by kernel_rfl) (by kernel_rfl) (by kernel_rfl) (fun _ _ _ h => h) (Or.inl ⟨by rfl, ?y22_2⟩) hHeld ?r22_2
          case y22_2 => intro w hSw; (try dsimp only at hSw); go_simp; try with_reducible rfl
          try simp only [Act.put, List.setIfInBounds_toArray, List.set_cons_zero, List.set_cons_succ]
          refine wpAnyH_take (i := 23) (oi := { dst := some 189, op := Go.Op.move (Go.Operand.tmp 188), type := 4, pos := "law.go:95", after := #[{ on := 22, ground := Go.Ground.data }, { on := 18, ground := Go.Ground.chain }], guard := none }) (v := ?v23_2) rfl (by kernel_rfl) (by kernel_rfl) (by kernel_rfl) (fun _ _ _ h => h) (Or.inl ⟨by rfl, ?y23_2⟩) hHeld ?r23_2
          case y23_2 => intro w hSw; (try dsimp only at hSw); go_simp; try with_reducible rfl
          try simp only [Act.put, List.setIfInBounds_toArray, List.set_cons_zero, List.set_cons_succ]
          refine wpAnyH_take (i := 24) (oi := { dst := some 190, op := Go.Op.move (Go.Operand.tmp 5), type := 25, pos := "law.go:95", after := #[{ on := 23, ground := Go.Ground.guard }], guard := some (23, true) }) (v := ?v24_2) rfl (by kernel_rfl) (by kernel_rfl) (by kernel_rfl) (fun _ _ _ h => h) (Or.inl ⟨by rfl, ?y24_2⟩) hHeld ?r24_2
          case y24_2 => intro w hSw; (try dsimp only at hSw); go_simp; try with_reducible rfl
          try simp only [Act.put, List.setIfInBounds_toArray, List.set_cons_zero, List.set_cons_succ]
          refine wpAnyH_take (i := 26) (oi := { dst := some 192, op := Go.Op.move (Go.Operand.tmp 1), type := 22, pos := "law.go:95", after := #[{ on := 23, ground := Go.Ground.guard }], guard := some (23, true) }) (v := ?v26_2) rfl (by kernel_rfl) (by kernel_rfl) (by kernel_rfl) (fun _ _ _ h => h) (Or.inl ⟨by rfl, ?y26_2⟩) hHeld ?r26_2
          case y26_2 => intro w hSw; (try dsimp only at hSw); go_simp; try with_reducible rfl
          try simp only [Act.put, List.setIfInBounds_toArray, List.set_cons_zero, List.set_cons_succ]
          refine wpAnyH_take (i := 27) (oi := { dst := some 193, op := Go.Op.call { callee := Go.Callee.builtin Go.Builtin.len, args := #[Go.Operand.tmp 192], argTypes := #[22] }, type := 3, pos := "law.go:95", after := #[{ on := 26, ground := Go.Ground.data }, { on := 23, ground := Go.Ground.guard }], guard := some (23, true) }) (v := ?v27_2) rfl (by kernel_rfl) (by kernel_rfl) (by kernel_rfl) (fun _ _ _ h => h) (Or.inl ⟨by rfl, ?y27_2⟩) hHeld ?r27_2
          case y27_2 => intro w hSw; (try dsimp only at hSw); go_simp; try with_reducible rfl
          try simp only [Act.put, List.setIfInBounds_toArray, List.set_cons_zero, List.set_cons_succ]
          refine wpAnyH_ready (rs := [25]) (by kernel_rfl) (by simp) ?_
          refine AllReadyH.cons (o := { dst := some 191, op := Go.Op.call { callee := Go.Callee.value (Go.Operand.func 24), args := #[Go.Operand.tmp 190], argTypes := #[25] }, type := 3, pos := "law.go:95", after := #[{ on := 24, ground := Go.Ground.data }, { on := 23, ground := Go.Ground.chain }, { on := 23, ground := Go.Ground.guard }], guard := some (23, true) }) rfl (fun K hK => ?_) AllReadyH.nil
          go_simp
          refine (HLEN.out _ hHeld.1.out).mono ?_; rintro e wy4 ⟨rfl, hb⟩
          go_wp2_with fail
          refine hK.out _ _ (⟨Lib.hid (hHeld.1.out.trans (hb.mono hHeld.1.out.size)), cell_later4 hb hHeld.2.1, cell_later4 hb hHeld.2.2.1, cell_later4 hb hHeld.2.2.2.1, cell_later4 hb hHeld.2.2.2.2.1, cell_later4 hb hHeld.2.2.2.2.2.1, cell_later4 hb hHeld.2.2.2.2.2.2.1, cell_later4 hb hHeld.2.2.2.2.2.2.2⟩) (fun hHeld2 => ?_)
          clear hK K hHeld
          have hHeld := hHeld2
          clear hHeld2
          try simp only [Act.put, List.setIfInBounds_toArray, List.set_cons_zero, List.set_cons_succ]
          refine wpAnyH_take (i := 28) (oi := { dst := some 194, op := Go.Op.binOp Go.BinOp.leq 3 (Go.Operand.tmp 191) (Go.Operand.tmp 193) 3, type := 4, pos := "law.go:95", after := #[{ on := 25, ground := Go.Ground.data }, { on := 27, ground := Go.Ground.data }, { on := 23, ground := Go.Ground.guard }], guard := some (23, true) }) (v := ?v28_2) rfl (by kernel_rfl) (by kernel_rfl) (by kernel_rfl) (fun _ _ _ h => h) (Or.inl ⟨by rfl, ?y28_2⟩) hHeld ?r28_2
          case y28_2 => intro w hSw; (try dsimp only at hSw); go_simp; try with_reducible rfl
          try simp only [Act.put, List.setIfInBounds_toArray, List.set_cons_zero, List.set_cons_succ]
          refine wpAnyH_take (i := 29) (oi := { dst := some 195, op := Go.Op.pick (Go.Operand.tmp 189) (Go.Operand.tmp 194) (Go.Operand.const (Go.Value.bool false)), type := 4, pos := "law.go:95", after := #[{ on := 23, ground := Go.Ground.data }, { on := 28, ground := Go.Ground.data }], guard := none }) (v := ?v29_2) rfl (by kernel_rfl) (by kernel_rfl) (by kernel_rfl) (fun _ _ _ h => h) (Or.inl ⟨by rfl, ?y29_2⟩) hHeld ?r29_2
          case y29_2 => intro w hSw; (try dsimp only at hSw); go_simp; try with_reducible rfl
          try simp only [Act.put, List.setIfInBounds_toArray, List.set_cons_zero, List.set_cons_succ]
          refine wpAnyH_take (i := 30) (oi := { dst := some 4, op := Go.Op.assign (Go.Operand.tmp 195), type := 4, pos := "law.go:95", after := #[{ on := 29, ground := Go.Ground.data }, { on := 25, ground := Go.Ground.chain }, { on := 0, ground := Go.Ground.phase }, { on := 1, ground := Go.Ground.phase }, { on := 2, ground := Go.Ground.phase }, { on := 3, ground := Go.Ground.phase }, { on := 4, ground := Go.Ground.phase }, { on := 5, ground := Go.Ground.phase }, { on := 6, ground := Go.Ground.phase }, { on := 7, ground := Go.Ground.phase }, { on := 8, ground := Go.Ground.phase }, { on := 9, ground := Go.Ground.phase }, { on := 10, ground := Go.Ground.phase }, { on := 11, ground := Go.Ground.phase }, { on := 12, ground := Go.Ground.phase }, { on := 13, ground := Go.Ground.phase }, { on := 14, ground := Go.Ground.phase }, { on := 15, ground := Go.Ground.phase }, { on := 16, ground := Go.Ground.phase }, { on := 17, ground := Go.Ground.phase }, { on := 18, ground := Go.Ground.phase }, { on := 19, ground := Go.Ground.phase }, { on := 20, ground := Go.Ground.phase }, { on := 21, ground := Go.Ground.phase }, { on := 22, ground := Go.Ground.phase }, { on := 23, ground := Go.Ground.phase }, { on := 24, ground := Go.Ground.phase }, { on := 25, ground := Go.Ground.phase }, { on := 26, ground := Go.Ground.phase }, { on := 27, ground := Go.Ground.phase }, { on := 28, ground := Go.Ground.phase }, { on := 29, ground := Go.Ground.phase }], guard := none }) (v := ?v30_2) rfl (by kernel_rfl) (by kernel_rfl) (by kernel_rfl) (fun _ _ _ h => h) (Or.inl ⟨by rfl, ?y30_2⟩) hHeld ?r30_2
          case y30_2 => intro w hSw; (try dsimp only at hSw); go_simp; try with_reducible rfl
          try simp only [Act.put, List.setIfInBounds_toArray, List.set_cons_zero, List.set_cons_succ]
          refine wpAnyH_done (by kernel_rfl) ?_ _
          have HBE := Lib.hid (HBH.out.trans (hHeld.1.out.mono HBH.out.size))
          go_wp2
          go_ret
          exact ⟨rfl, HB3.out.trans (HBE.out.mono HB3.out.size)⟩
end Go.Proofs.Ytgdhbelcellabaa
