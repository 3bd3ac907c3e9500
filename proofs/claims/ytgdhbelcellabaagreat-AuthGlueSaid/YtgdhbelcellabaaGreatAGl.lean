/- AuthGlue: the walk. -/
import Derived.Test.YtgdhbelcellabaaGreatAGp
namespace Go.Proofs.YtgdhbelcellabaaGreat
open Go.RowKit

set_option maxRecDepth 100000 in
set_option maxHeartbeats 8000000 in
theorem walkGlue (apex : ByteArray) (a : Option Addr) (n c : Nat) (l : List R5) (kn : ByteArray) (kt kc : Int) (w : World) (h : RowR w a n l) (hn : a = none → n = 0 ∧ c = 0) (hlen : n ≤ 9223372036854775807) (hsz : ∀ r ∈ l, SzR r) (ha : apex.size ≤ 9223372036854775807) (hkn : kn.size ≤ 9223372036854775807) :
    Calls Tryz.prog 5 #[.string apex, .slice a n c, .agg #[.string kn, .int .i64 kt, .int .i64 kc]] w fun e w' => e = .returned (.bool true) ∧ Below w.heap.size w w' := by
  have HR := Lib.hid h
  have HN := Lib.hid hn
  have HSZ := Lib.hid hsz
  have HLN := Lib.hid h.1
  have HQ := Lib.hid (CN.new w #[.string kn, .int .i64 kt, .int .i64 kc] 24)
  have hb0 := (Below.refl w.heap.size w).alloc (Nat.le_refl _) (.cells #[.string kn, .int .i64 kt, .int .i64 kc] 24)
  clear h hn hsz
  go_enter Tryz.func5, Tryz.ntmps5
  go_upto_region 1 with (fail)
  obtain ⟨w0, hw0⟩ : ∃ x, w.alloc (.cells #[.string kn, .int .i64 kt, .int .i64 kc] 24) = x := ⟨_, rfl⟩
  obtain ⟨q5, hq5⟩ : ∃ x, w.heap.size = x := ⟨_, rfl⟩
  rw [hw0] at HQ hb0 ⊢
  rw [show (Value.pointer (some { block := w.heap.size, off := 0 })) = Value.pointer (some { block := q5, off := 0 }) by rw [hq5]]
  rw [hq5] at HQ
  have HB0 := Lib.hid hb0
  have HQ5 := Lib.hid (show w.heap.size ≤ q5 by omega)
  clear hw0 hq5 hb0
  go_wp2_with fail
  refine (first11 _).mono ?_; rintro e w1 ⟨rfl, hb⟩
  have HB1 := Lib.hid (HB0.out.trans (hb.mono HB0.out.size))
  replace HQ := Lib.hid (HQ.out.below hb)
  clear hb HB0
  go_wp2_with fail
  refine (few10 a n c l _ (HR.out.below HB1.out) hlen HSZ.out).mono ?_; rintro e w2 ⟨hres, hb⟩
  have HB2 := Lib.hid (HB1.out.trans (hb.mono HB1.out.size))
  replace HQ := Lib.hid (HQ.out.below hb)
  clear hb HB1
  rcases hres with rfl | ⟨rfl, hn4, hsm⟩
  · go_wp2_with fail
    refine (first11 _).mono ?_; rintro e w9 ⟨rfl, hb⟩
    have HB9 := Lib.hid (HB2.out.trans (hb.mono HB2.out.size))
    clear hb
    go_wp2
    go_ret
    exact ⟨rfl, HB9.out⟩
  have HSM := Lib.hid hsm
  have HN3 := Lib.hid (show n ≤ 310 by omega)
  clear hsm hlen hn4
  by_cases h1 : 1000 < apex.size
  · have d1 : decide (1000 < apex.size) = true := dT h1
    have d2 : decide ((1000 : Int) < (apex.size : Int)) = true := dT (by omega)
    clear h1
    go_wp2_with fail
    refine (first11 _).mono ?_; rintro e w9 ⟨rfl, hb⟩
    have HB9 := Lib.hid (HB2.out.trans (hb.mono HB2.out.size))
    clear hb
    go_wp2
    go_ret
    exact ⟨rfl, HB9.out⟩
  have d1 : decide (1000 < apex.size) = false := dF h1
  have d2 : decide ((1000 : Int) < (apex.size : Int)) = false := dF (by omega)
  have HA1 := Lib.hid (show apex.size ≤ 1000000 by omega)
  clear h1
  by_cases h1 : 1000 < kn.size
  · have d3 : decide (1000 < kn.size) = true := dT h1
    have d4 : decide ((1000 : Int) < (kn.size : Int)) = true := dT (by omega)
    obtain ⟨p0, p1, p2, _⟩ := HQ.out.v3
    clear h1
    go_wp2_with fail
    refine (first11 _).mono ?_; rintro e w9 ⟨rfl, hb⟩
    have HB9 := Lib.hid (HB2.out.trans (hb.mono HB2.out.size))
    clear hb
    go_wp2
    go_ret
    exact ⟨rfl, HB9.out⟩
  have d3 : decide (1000 < kn.size) = false := dF h1
  have d4 : decide ((1000 : Int) < (kn.size : Int)) = false := dF (by omega)
  have HA2 := Lib.hid (show kn.size ≤ 1000000 by omega)
  obtain ⟨p0, p1, p2, _⟩ := HQ.out.v3
  clear h1 ha hkn
  go_wp2_with fail
  refine (znew_up apex a n c l w2 (HR.out.below HB2.out) HN.out (by have := HN3.out; omega) (fun r hr => by have := (HSM.out r hr).1; omega) (fun r hr => by have := (HSM.out r hr).2; omega) HA1.out).mono ?_; rintro e w3 hnr
  obtain ⟨hres, hb⟩ := newU_two hnr
  have HQB := Lib.hid HQ.out.1
  have HB3 := Lib.hid (HB2.out.trans (hb.mono HB2.out.size))
  replace HQ := Lib.hid (HQ.out.below hb)
  clear hnr hb HB2 d1 d2 d3 d4 p0 p1 p2
  rcases hres with ⟨x, hx, rfl⟩ | ⟨z, S, rfl, hzu, hok⟩
  · go_wp2_with fail
    refine (first11 _).mono ?_; rintro e w9 ⟨rfl, hb⟩
    have HB9 := Lib.hid (HB3.out.trans (hb.mono HB3.out.size))
    clear hb
    go_wp2
    go_ret
    exact ⟨rfl, HB9.out⟩
  have HOK := Lib.hid hok
  clear hok
  have HZU := Lib.hid hzu
  clear hzu
  obtain ⟨p0, p1, p2, g0, g1, g2⟩ := HQ.out.v3
  have hg := (grown_cell w3 q5 1 (.int .i64 2)).trans (grown_cell _ q5 2 (.int .i64 1))
  have HQ4 := Lib.hid (show CN ((w3.setCell ⟨q5, 1, none⟩ (.int .i64 2)).setCell ⟨q5, 2, none⟩ (.int .i64 1)) q5 [.string kn, .int .i64 2, .int .i64 1] from (HQ.out.set 1 (by simp) (.int .i64 2)).set 2 (by simp) (.int .i64 1))
  have HZU4 := Lib.hid (HZU.out.far hg HQB.out)
  have HB4 := Lib.hid (HB3.out.grown hg HB3.out.size (fun k hk => by injection hk with hk; rw [← hk]; exact HQ5.out))
  clear hg
  go_upto_region 9 with (fail)
  obtain ⟨w4, hw4⟩ : ∃ x, ((w3.setCell ⟨q5, 1, none⟩ (.int .i64 2)).setCell ⟨q5, 2, none⟩ (.int .i64 1)) = x := ⟨_, rfl⟩
  rw [hw4] at HQ4 HZU4 HB4 ⊢
  clear hw4 p0 p1 p2 g0 g1 g2 HB3 HQ HZU
  have HOK4 := Lib.hid (show ZOk w4 z apex l S from ⟨HOK.out.name, HOK.out.may, HOK.out.few, HOK.out.canon, HOK.out.sum, HOK.out.len, HOK.out.whole, HZU4.out.is⟩)
  clear HOK HZU4
  obtain ⟨p0, p1, p2, _⟩ := HQ4.out.v3
  go_wp2_with fail
  refine (zget_any z apex S kn 2 1 w4 HOK4.out.is HOK4.out.canon.keys HOK4.out.sz HA2.out).mono ?_; rintro e w5 ⟨hf, hb⟩
  obtain ⟨⟨⟨sn, st, sk⟩, su, sd⟩, da, dc, hgd, rfl, hor⟩ := found_getD hf
  replace hor : w5.ownsRow w4.heap.size 9 1 (.slice da sd.length dc) sd.length (sc sd) := hor
  obtain ⟨a', c', he, hdr, hdn⟩ := rowS_of_own hor
  simp only [Value.slice.injEq] at he
  obtain ⟨rfl, -, rfl⟩ := he
  dsimp only
  have HFK := Lib.hid hgd
  have HSD := Lib.hid (show sd.length ≤ 300 ∧ ∀ d ∈ sd, d.size ≤ 1000000 from gotD_small HOK4.out hgd)
  obtain ⟨dl, hdl⟩ : ∃ x, sd.length = x := ⟨_, rfl⟩
  rw [hdl] at hdr hdn ⊢
  have HDL := Lib.hid hdl
  have HDN := Lib.hid hdn
  have hba := (Below.refl w5.heap.size w5).alloc (Nat.le_refl _) (.cells #[.string sn, .int .i64 st, .int .i64 sk, .int .i64 su, .slice da dl dc] 38)
  have hbb := hb.trans (hba.mono hb.size)
  have hn9 := CN.new w5 #[.string sn, .int .i64 st, .int .i64 sk, .int .i64 su, .slice da dl dc] 38
  replace hdr := hdr.below hba
  clear hf hor hgd hdl hdn hb hba p0 p1 p2
  go_upto_region 10 with (fail)
  obtain ⟨w6, hw⟩ : ∃ x, w5.alloc (.cells #[.string sn, .int .i64 st, .int .i64 sk, .int .i64 su, .slice da dl dc] 38) = x := ⟨_, rfl⟩
  rw [hw] at hbb hn9 hdr ⊢
  obtain ⟨q9, hq⟩ : ∃ x, w5.heap.size = x := ⟨_, rfl⟩
  rw [hq] at hn9 ⊢
  clear hw hq
  have HC9 := Lib.hid hn9
  have HDR := Lib.hid hdr
  have HB6 := Lib.hid (HB4.out.trans (hbb.mono HB4.out.size))
  have HOK6 := Lib.hid (HOK4.out.below hbb)
  clear hbb hn9 hdr HB4 HOK4 HQ4
  have hba := (Below.refl w6.heap.size w6).alloc (Nat.le_refl _) (.cells #[.string sn, .int .i64 st, .int .i64 sk, .int .i64 su, .slice da dl dc, .string sn, .int .i64 st, .int .i64 sk, .int .i64 su, .slice da dl dc] 38)
  have hs2 := setsAt_two (w := w6) (sn := sn) (st := st) (sk := sk) (su := su) HDL.out HDR.out HDN.out
  have HOK7 := Lib.hid (HOK6.out.below hba)
  have HB7 := Lib.hid (HB6.out.trans (hba.mono HB6.out.size))
  have HC7 := Lib.hid (HC9.out.below hba)
  have HDR7 := Lib.hid (HDR.out.below hba)
  obtain ⟨y0, y1, y2, y3, y4, -⟩ := HC9.out.u5
  clear hba
  go_wp2_with fail
  refine (glue_any z apex S (some ⟨w6.heap.size, 0, none⟩) 2 2 [(⟨⟨sn, st, sk⟩, su, sd⟩ : SetP), (⟨⟨sn, st, sk⟩, su, sd⟩ : SetP)] _ HOK7.out.is HOK7.out.canon.keys HOK7.out.sz hs2 (by decide) (two_data (s := (⟨⟨sn, st, sk⟩, su, sd⟩ : SetP)) HSD.out.2) (by have h := HSD.out.1; simp only [sumD]; omega)).mono ?_; rintro e w8 ⟨v, G, T, m, rfl, htg, hgm, hgl, hgn, hos, hb⟩
  obtain ⟨ga, gc, rfl, hsg, -⟩ := hos.at
  rw [hgm] at hsg
  rw [hgl] at hsg ⊢
  have hglen : (glueP S T).length = m := by rw [← hgl, ← hgm, List.length_map]
  have HB8 := Lib.hid (HB7.out.trans (hb.mono HB7.out.size))
  have HOK8 := Lib.hid (HOK7.out.below hb)
  have HC8 := Lib.hid (HC7.out.below hb)
  have HDR8 := Lib.hid (HDR7.out.below hb)
  have HSG := Lib.hid hsg
  have HTG := Lib.hid htg
  have HGL := Lib.hid hglen
  clear hs2 hb hos hsg hgm hgl hgn htg hglen y0 y1 y2 y3 y4 HB6 HB7 HOK6 HOK7 HC9 HC7 HDR HDR7 G
  cases hfk : findK S ⟨kn, 2, 1⟩ with
  | none =>
    have hm0 : m = 0 := by have h := HFK.out; rw [hfk] at h; exact glue_none h.symm HTG.out HGL.out
    subst hm0
    simp only [Option.isSome_none]
    clear hfk
    go_wp2_with fail
    refine (first11 _).mono ?_; rintro e w9 ⟨rfl, hb⟩
    have HB9 := Lib.hid (HB8.out.trans (hb.mono HB8.out.size))
    clear hb
    go_wp2
    go_ret
    exact ⟨rfl, HB9.out⟩
  | some s =>
    have hs9 := HFK.out
    rw [hfk] at hs9
    obtain rfl : s = (⟨⟨sn, st, sk⟩, su, sd⟩ : SetP) := hs9
    have hkey := find_key hfk
    simp only [Ky.mk.injEq] at hkey
    obtain ⟨rfl, rfl, rfl⟩ := hkey
    have HMEM := Lib.hid (find_mem hfk)
    simp only [Option.isSome_some]
    have hcount := glue_count (S := S) (s := ⟨⟨sn, 2, 1⟩, su, sd⟩) rfl (ns_data HOK8.out HMEM.out rfl) (HOK8.out.canon.rise _ HMEM.out) HTG.out
    have HCNT := Lib.hid (show (glueP S sd).length = m by rw [← HGL.out]; exact hcount.1.symm)
    have HIN := Lib.hid (show ∀ x ∈ T, x ∈ sd from hcount.2)
    have HRS := Lib.hid (glueP_rise S T HTG.out.1)
    clear hfk hcount HFK HTG
    have hdb : dl ≤ 300 := by have h := HSD.out.1; rw [HDL.out] at h; exact h
    go_wp2_with fail
    go_loopw [12, 13] (fun nv i wr => ∃ (k : Nat) (t : Nat), k ≤ dl ∧ t ≤ 600 ∧ i = .int .i64 k ∧ nv = .int .i64 t ∧ Hid (t = (glueP S (sd.take k)).length) ∧ Hid (Below w8.heap.size w8 wr)) (fun _ i _ => dl - (intOf i).toNat)
    case atStart => exact ⟨0, 0, Nat.zero_le _, Nat.zero_le _, rfl, rfl, Lib.hid (by simp [glueP]), Lib.hid (Below.refl _ _)⟩
    case round =>
      obtain ⟨k, t, hk, ht, rfl, rfl, hcn, hbw⟩ := hrel
      obtain ⟨y0, y1, y2, y3, y4, -⟩ := (HC8.out.below hbw.out).u5
      by_cases hlt : k < dl
      · rcases (HDR8.out.below hbw.out).2 with h9 | ⟨b2, o2, rfl, hbl2, hcd⟩
        · omega
        obtain ⟨d, hd⟩ : ∃ d, sd[k]? = some d := ⟨_, List.getElem?_eq_getElem (by rw [HDL.out]; exact hlt)⟩
        have c0 := hcd k hlt
        rw [show sd.getD k ByteArray.empty = d by rw [List.getD_eq_getElem?_getD, hd]; rfl] at c0
        have HDS := Lib.hid (HSD.out.2 d (List.mem_of_getElem? hd))
        have HSN := Lib.hid (glue_next (S := S) hd)
        have HTB := Lib.hid (show t ≤ 2 * k by rw [hcn.out]; exact Nat.le_trans (glueP_le S _) (by rw [List.length_take]; omega))
        have i3 : (0 : Int) ≤ (k : Int) := by omega
        have i4 : (k : Int) < (dl : Int) := by omega
        have HLT := Lib.hid hlt
        have HOKR := Lib.hid (HOK8.out.below hbw.out)
        have HCR := Lib.hid (HC8.out.below hbw.out)
        have HDRR := Lib.hid (HDR8.out.below hbw.out)
        have HCD := Lib.hid c0
        clear hd hbl2 hcd hlt hk
        go_wp2_with fail
        refine (zget_any z apex S d 1 1 wr HOKR.out.is HOKR.out.canon.keys HOKR.out.sz HDS.out).mono ?_; rintro e wg0 ⟨hf, hb⟩
        obtain ⟨⟨⟨sn0, st0, sk0⟩, su0, sd0⟩, da0, dc0, -, rfl, -⟩ := found_getD hf
        dsimp only
        obtain ⟨sl0, hsl⟩ : ∃ x, sd0.length = x := ⟨_, rfl⟩
        rw [hsl]
        have hba := (Below.refl wg0.heap.size wg0).alloc (Nat.le_refl _) (.cells #[.string sn0, .int .i64 st0, .int .i64 sk0, .int .i64 su0, .slice da0 sl0 dc0] 38)
        have hbb := hb.trans (hba.mono hb.size)
        have HBW0 := Lib.hid (hbw.out.trans (hbb.mono hbw.out.size))
        replace HOKR := Lib.hid (HOKR.out.below hbb)
        replace HCR := Lib.hid (HCR.out.below hbb)
        replace HCD := Lib.hid (cell_later4 hbb HCD.out)
        clear hsl hf hb hba hbb y0 y1 y2 y3 y4 c0
        go_upto_region 18 with (fail)
        obtain ⟨wh0, hw⟩ : ∃ x, wg0.alloc (.cells #[.string sn0, .int .i64 st0, .int .i64 sk0, .int .i64 su0, .slice da0 sl0 dc0] 38) = x := ⟨_, rfl⟩
        rw [hw] at HBW0 HOKR HCR HCD ⊢
        clear hw
        obtain ⟨y0, y1, y2, y3, y4, -⟩ := HCR.out.u5
        have c0 := HCD.out
        go_wp2_with fail
        refine (zget_any z apex S d 28 1 wh0 HOKR.out.is HOKR.out.canon.keys HOKR.out.sz HDS.out).mono ?_; rintro e wg1 ⟨hf, hb⟩
        obtain ⟨⟨⟨sn1, st1, sk1⟩, su1, sd1⟩, da1, dc1, -, rfl, -⟩ := found_getD hf
        dsimp only
        obtain ⟨sl1, hsl⟩ : ∃ x, sd1.length = x := ⟨_, rfl⟩
        rw [hsl]
        have hba := (Below.refl wg1.heap.size wg1).alloc (Nat.le_refl _) (.cells #[.string sn1, .int .i64 st1, .int .i64 sk1, .int .i64 su1, .slice da1 sl1 dc1] 38)
        have hbb := hb.trans (hba.mono hb.size)
        have HBW1 := Lib.hid (HBW0.out.trans (hbb.mono HBW0.out.size))
        replace HOKR := Lib.hid (HOKR.out.below hbb)
        replace HCR := Lib.hid (HCR.out.below hbb)
        replace HCD := Lib.hid (cell_later4 hbb HCD.out)
        clear hsl hf hb hba hbb y0 y1 y2 y3 y4 c0
        go_upto_region 19 with (fail)
        obtain ⟨wh1, hw⟩ : ∃ x, wg1.alloc (.cells #[.string sn1, .int .i64 st1, .int .i64 sk1, .int .i64 su1, .slice da1 sl1 dc1] 38) = x := ⟨_, rfl⟩
        rw [hw] at HBW1 HOKR HCR HCD ⊢
        clear hw
        obtain ⟨y0, y1, y2, y3, y4, -⟩ := HCR.out.u5
        have c0 := HCD.out
        have hdt := HTB.out
        have hlt2 := HLT.out
        obtain ⟨b1, hb1⟩ : ∃ x, (findK S ⟨d, 1, 1⟩).isSome = x := ⟨_, rfl⟩
        obtain ⟨b28, hb28⟩ : ∃ x, (findK S ⟨d, 28, 1⟩).isSome = x := ⟨_, rfl⟩
        have hsn := HSN.out
        rw [hb1, hb28, ← hcn.out] at hsn
        rw [hb1, hb28]
        have HS2 := Lib.hid hsn
        clear hsn hb1 hb28 y0 y1 y2 y3 y4 c0
        cases b1
        · cases b28
          · go_wp2
            go_roundw
            case rel => exact ⟨k + 1, t, by omega, by omega, by go_num, rfl, Lib.hid (by rw [HS2.out]; rfl), HBW1⟩
            case measure => simp [intOf]; omega
          · go_wp2
            go_roundw
            case rel => exact ⟨k + 1, t + 1, by omega, by omega, by go_num, by go_num, Lib.hid (by rw [HS2.out]; rfl), HBW1⟩
            case measure => simp [intOf]; omega
        · cases b28
          · go_wp2
            go_roundw
            case rel => exact ⟨k + 1, t + 1, by omega, by omega, by go_num, by go_num, Lib.hid (by rw [HS2.out]; rfl), HBW1⟩
            case measure => simp [intOf]; omega
          · go_wp2
            go_roundw
            case rel => exact ⟨k + 1, t + 2, by omega, by omega, by go_num, by go_num, Lib.hid (by rw [HS2.out]; rfl), HBW1⟩
            case measure => simp [intOf]; omega
      · obtain rfl : k = dl := by omega
        have htm : m = t := by rw [← HCNT.out, hcn.out, show sd.take k = sd from List.take_of_length_le (by rw [HDL.out]; exact Nat.le_refl _)]
        subst htm
        have HB9 := Lib.hid (HB8.out.trans (hbw.out.mono HB8.out.size))
        have HOK9 := Lib.hid (HOK8.out.below hbw.out)
        have HC9 := Lib.hid (HC8.out.below hbw.out)
        have HDR9 := Lib.hid (HDR8.out.below hbw.out)
        have HSG9 := Lib.hid (HSG.out.below hbw.out)
        have HMN := Lib.hid ht
        have HKB := Lib.hid hdb
        clear hcn hlt hk hbw HB8 HOK8 HC8 HDR8 HSG
        go_wp2_with fail
        clear y0 y1 y2 y3 y4
        obtain ⟨w10, hw10⟩ : ∃ x, wr = x := ⟨_, rfl⟩
        rw [hw10] at HB9 HOK9 HC9 HDR9 HSG9 ⊢
        clear hw10
        go_loopw [18] (fun i wr => ∃ (j : Nat), j ≤ m ∧ i = .int .i64 j ∧ Hid (Below w10.heap.size w10 wr)) (fun i _ => m - (intOf i).toNat)
        case atStart => exact ⟨0, Nat.zero_le _, rfl, Lib.hid (Below.refl _ _)⟩
        case round =>
          obtain ⟨j, hj, rfl, hbw⟩ := hrel
          have hmn := HMN.out
          by_cases hlt : j < m
          · have hsb := HSG9.out
            rcases hsb.2 with h9 | ⟨b, o, rfl, hbl, hc⟩
            · omega
            obtain ⟨pa, ca, hs2⟩ := hc j hlt
            have hmem : (glueP S T).getD j ssD ∈ glueP S T := by rw [List.getD_eq_getElem?_getD, List.getElem?_eq_getElem (by have := HGL.out; omega)]; exact List.getElem_mem _
            obtain ⟨s, hss⟩ : ∃ s, (glueP S T).getD j ssD = s := ⟨_, rfl⟩
            rw [hss] at hs2 hmem
            obtain ⟨hfg, hgt, hgT, hgc⟩ := glue_in hmem
            have hgz := HOK9.out.sz.2 _ (find_mem hfg)
            obtain ⟨⟨gn, gt, gk⟩, gu, gd⟩ := s
            obtain rfl : gk = 1 := hgc
            obtain ⟨x0, x1, x2, x3, x4, hsr, -⟩ := hs2
            replace hsr : RowS w10 pa gd.length gd := hsr
            replace x4 : w10.cell? ⟨b, o + j * 5 + 4, none⟩ = some (.slice pa gd.length ca) := x4
            obtain ⟨gl, hgl⟩ : ∃ x, gd.length = x := ⟨_, rfl⟩
            rw [hgl] at hsr x4
            replace hgz : gn.size ≤ 1000000 ∧ gd.length ≤ 100000 := hgz
            rw [hgl] at hgz
            have X0 := Lib.hid (show wr.cell? ⟨b, o + j * 5, none⟩ = some (.string gn) from cell_later4 hbw.out x0)
            have X1 := Lib.hid (show wr.cell? ⟨b, o + j * 5 + 1, none⟩ = some (.int .i64 gt) from cell_later4 hbw.out x1)
            have X2 := Lib.hid (show wr.cell? ⟨b, o + j * 5 + 2, none⟩ = some (.int .i64 1) from cell_later4 hbw.out x2)
            have X3 := Lib.hid (show wr.cell? ⟨b, o + j * 5 + 3, none⟩ = some (.int .i64 gu) from cell_later4 hbw.out x3)
            have X4 := Lib.hid (cell_later4 hbw.out x4)
            have HSR := Lib.hid (hsr.below hbw.out)
            have HFG := Lib.hid (show findK S ⟨gn, gt, 1⟩ = some ⟨⟨gn, gt, 1⟩, gu, gd⟩ from hfg)
            have HVT := Lib.hid (show decide (gt ∈ [(1 : Int), 28]) = true from dT (by have h : gt = 1 ∨ gt = 28 := hgt; simpa using h))
            have HMS := Lib.hid (memS_t (HIN.out gn hgT))
            have HGZ := Lib.hid hgz.1
            have HGD := Lib.hid hgz.2
            have HGLL := Lib.hid hgl
            have HPV := Lib.hid (show ∀ j0, j = j0 + 1 → ∃ n t c, w10.cell? ⟨b, o + j0 * 5, none⟩ = some (.string n) ∧ w10.cell? ⟨b, o + j0 * 5 + 1, none⟩ = some (.int .i64 t) ∧ w10.cell? ⟨b, o + j0 * 5 + 2, none⟩ = some (.int .i64 c) ∧ n.size ≤ 1000000 ∧ kcmp ⟨n, t, c⟩ ⟨gn, gt, 1⟩ < 0 from fun j0 hj0 => by
              obtain ⟨p1, cc1, q0, q1, q2, -⟩ := hc j0 (by omega)
              have hr := rise_at (f := fun s t : SetP => kcmp s.k t.k) HRS.out (d := ssD) (k := j0) (by have := HGL.out; omega)
              rw [← hj0] at hr
              replace hr : kcmp ((glueP S T).getD j0 ssD).k ((glueP S T).getD j ssD).k < 0 := hr
              rw [hss] at hr
              refine ⟨_, _, _, q0, q1, q2, ?_, hr⟩
              have hm0 : (glueP S T).getD j0 ssD ∈ glueP S T := by rw [List.getD_eq_getElem?_getD, List.getElem?_eq_getElem (by have := HGL.out; omega)]; exact List.getElem_mem _
              exact (HOK9.out.sz.2 _ (find_mem (glue_in hm0).1)).1)
            have c0 := X0.out
            have c1 := X1.out
            have c2 := X2.out
            have i1 : (0 : Int) ≤ (j : Int) := by omega
            have i2 : (j : Int) < (m : Int) := by omega
            have HLT := Lib.hid hlt
            have HOKR := Lib.hid (HOK9.out.below hbw.out)
            clear x0 x1 x2 x3 x4 hsr hmem hss hgz hgl hlt hc hbl hsb hfg hgt hgT
            go_wp2_with fail
            refine (zget_any z apex S gn gt 1 wr HOKR.out.is HOKR.out.canon.keys HOKR.out.sz HGZ.out).mono ?_; rintro e wg ⟨hf, hbg⟩
            rcases hf with ⟨s', dv, hfs, rfl, ho⟩ | ⟨hfn, -⟩
            case inr => rw [HFG.out] at hfn; cases hfn
            obtain rfl : (⟨⟨gn, gt, 1⟩, gu, gd⟩ : SetP) = s' := by rw [HFG.out] at hfs; exact Option.some.inj hfs
            replace ho : wg.ownsRow wr.heap.size 9 1 dv gd.length (sc gd) := ho
            obtain ⟨ta2, tc2, rfl, htr, -⟩ := rowS_of_own ho
            rw [HGLL.out] at htr
            dsimp only
            rw [HGLL.out]
            have hba := (Below.refl wg.heap.size wg).alloc (Nat.le_refl _) (.cells #[.string gn, .int .i64 gt, .int .i64 1, .int .i64 gu, .slice ta2 gl tc2] 38)
            have hbb := hbg.trans (hba.mono hbg.size)
            have hn19 := CN.new wg #[.string gn, .int .i64 gt, .int .i64 1, .int .i64 gu, .slice ta2 gl tc2] 38
            replace htr := htr.below hba
            clear hfs ho hba hbg c0 c1 c2
            go_upto_region 27 with (fail)
            obtain ⟨wb, hwb⟩ : ∃ x, wg.alloc (.cells #[.string gn, .int .i64 gt, .int .i64 1, .int .i64 gu, .slice ta2 gl tc2] 38) = x := ⟨_, rfl⟩
            rw [hwb] at hbb hn19 htr ⊢
            obtain ⟨q19, hq⟩ : ∃ x, wg.heap.size = x := ⟨_, rfl⟩
            rw [hq] at hn19 ⊢
            clear hwb hq
            have HTR := Lib.hid htr
            have HC19 := Lib.hid hn19
            have HXB := Lib.hid hbb
            have HSRB := Lib.hid (HSR.out.below hbb)
            have HDRB := Lib.hid ((HDR9.out.below hbw.out).below hbb)
            have HCB := Lib.hid ((HC9.out.below hbw.out).below hbb)
            have Y0 := Lib.hid (cell_later4 hbb X0.out)
            have Y1 := Lib.hid (cell_later4 hbb X1.out)
            have Y2 := Lib.hid (cell_later4 hbb X2.out)
            have Y3 := Lib.hid (cell_later4 hbb X3.out)
            have Y4 := Lib.hid (cell_later4 hbb X4.out)
            clear hbb hn19 htr
            have HSAME := Lib.hid (fun wx (hx : Below wb.heap.size wb wx) => same_selfG gn gt 1 gu gd ta2 pa gl tc2 ca wx (HTR.out.below hx) (HSRB.out.below hx) HGD.out)
            have HHAS := Lib.hid (fun wx (hx : Below wb.heap.size wb wx) => has_any sn 2 1 su sd da k dc gn wx (HDRB.out.below hx) (by have := HKB.out; omega))
            rw [HMS.out] at HHAS
            obtain ⟨z0, z1, z2, z3, z4, -⟩ := HC19.out.u5
            obtain ⟨v0, v1, v2, v3, v4, -⟩ := HCB.out.u5
            obtain ⟨we, hwe⟩ : ∃ x, wb.drew = x := ⟨_, rfl⟩
            have HBE := Lib.hid (show Below wb.heap.size wb we by rw [← hwe]; exact (Below.refl _ _).drew)
            by_cases h0 : j = 0
            · have d0 : decide ((0 : Int) < (j : Int)) = false := dF (by omega)
              have d00 : decide (0 < j) = false := dF (by omega)
              clear h0
              refine wp_region_held_drew (S := (fun wx => Hid (Below wb.heap.size wb wx) ∧ wx.cell? ⟨q19, 0, none⟩ = some (.string gn) ∧ wx.cell? ⟨q19, 1, none⟩ = some (.int .i64 gt) ∧ wx.cell? ⟨q19, 2, none⟩ = some (.int .i64 1) ∧ wx.cell? ⟨q19, 3, none⟩ = some (.int .i64 gu) ∧ wx.cell? ⟨q19, 4, none⟩ = some (.slice ta2 gl tc2) ∧ wx.cell? ⟨b, o + j * 5, none⟩ = some (.string gn) ∧ wx.cell? ⟨b, o + j * 5 + 1, none⟩ = some (.int .i64 gt) ∧ wx.cell? ⟨b, o + j * 5 + 2, none⟩ = some (.int .i64 1) ∧ wx.cell? ⟨b, o + j * 5 + 3, none⟩ = some (.int .i64 gu) ∧ wx.cell? ⟨b, o + j * 5 + 4, none⟩ = some (.slice pa gl ca) ∧ wx.cell? ⟨q9, 0, none⟩ = some (.string sn) ∧ wx.cell? ⟨q9, 1, none⟩ = some (.int .i64 2) ∧ wx.cell? ⟨q9, 2, none⟩ = some (.int .i64 1) ∧ wx.cell? ⟨q9, 3, none⟩ = some (.int .i64 su) ∧ wx.cell? ⟨q9, 4, none⟩ = some (.slice da k dc))) (by kernel_rfl) (by rw [hwe]; exact ⟨HBE, cell_later4 HBE.out z0, cell_later4 HBE.out z1, cell_later4 HBE.out z2, cell_later4 HBE.out z3, cell_later4 HBE.out z4, cell_later4 HBE.out Y0.out, cell_later4 HBE.out Y1.out, cell_later4 HBE.out Y2.out, cell_later4 HBE.out Y3.out, cell_later4 HBE.out Y4.out, cell_later4 HBE.out v0, cell_later4 HBE.out v1, cell_later4 HBE.out v2, cell_later4 HBE.out v3, cell_later4 HBE.out v4⟩) (fun hHeld => ?_)
              rw [hwe] at hHeld ⊢
              clear hwe
              refine wpAnyH_take (i := 0) (oi := { dst := some 119, op := Go.Op.move (Go.Operand.tmp 20), type := 4, pos := "extra.go:43", after := #[], guard := none }) (v := ?v0_101) rfl (by kernel_rfl) (by kernel_rfl) (by kernel_rfl) (fun _ _ _ h => h) (Or.inl ⟨by rfl, ?y0_101⟩) hHeld ?r0_101
              case y0_101 => intro w hSw; (try dsimp only at hSw); go_simp; try with_reducible rfl
              try simp only [Act.put, List.setIfInBounds_toArray, List.set_cons_zero, List.set_cons_succ]
              refine wpAnyH_take (i := 1) (oi := { dst := some 120, op := Go.Op.unOp Go.UnOp.not 4 (Go.Operand.tmp 119), type := 4, pos := "extra.go:43", after := #[{ on := 0, ground := Go.Ground.data }], guard := none }) (v := ?v1_101) rfl (by kernel_rfl) (by kernel_rfl) (by kernel_rfl) (fun _ _ _ h => h) (Or.inl ⟨by rfl, ?y1_101⟩) hHeld ?r1_101
              case y1_101 => intro w hSw; (try dsimp only at hSw); go_simp; try with_reducible rfl
              try simp only [Act.put, List.setIfInBounds_toArray, List.set_cons_zero, List.set_cons_succ]
              refine wpAnyH_take (i := 2) (oi := { dst := some 121, op := Go.Op.move (Go.Operand.tmp 120), type := 4, pos := "extra.go:43", after := #[{ on := 1, ground := Go.Ground.data }], guard := none }) (v := ?v2_101) rfl (by kernel_rfl) (by kernel_rfl) (by kernel_rfl) (fun _ _ _ h => h) (Or.inl ⟨by rfl, ?y2_101⟩) hHeld ?r2_101
              case y2_101 => intro w hSw; (try dsimp only at hSw); go_simp; try with_reducible rfl
              try simp only [Act.put, List.setIfInBounds_toArray, List.set_cons_zero, List.set_cons_succ]
              refine wpAnyH_take (i := 3) (oi := { dst := some 122, op := Go.Op.load 38 (Go.Operand.tmp 19), type := 38, pos := "extra.go:43", after := #[{ on := 2, ground := Go.Ground.guard }], guard := some (2, false) }) (v := ?v3_101) rfl (by kernel_rfl) (by kernel_rfl) (by kernel_rfl) (fun _ _ _ h => h) (Or.inl ⟨by rfl, ?y3_101⟩) hHeld ?r3_101
              case y3_101 => intro w hSw; (try dsimp only at hSw); go_simp; try with_reducible rfl
              try simp only [Act.put, List.setIfInBounds_toArray, List.set_cons_zero, List.set_cons_succ]
              refine wpAnyH_take (i := 4) (oi := { dst := some 123, op := Go.Op.move (Go.Operand.tmp 11), type := 61, pos := "extra.go:43", after := #[{ on := 2, ground := Go.Ground.guard }], guard := some (2, false) }) (v := ?v4_101) rfl (by kernel_rfl) (by kernel_rfl) (by kernel_rfl) (fun _ _ _ h => h) (Or.inl ⟨by rfl, ?y4_101⟩) hHeld ?r4_101
              case y4_101 => intro w hSw; (try dsimp only at hSw); go_simp; try with_reducible rfl
              try simp only [Act.put, List.setIfInBounds_toArray, List.set_cons_zero, List.set_cons_succ]
              refine wpAnyH_take (i := 5) (oi := { dst := some 124, op := Go.Op.move (Go.Operand.tmp 18), type := 3, pos := "extra.go:43", after := #[{ on := 2, ground := Go.Ground.guard }], guard := some (2, false) }) (v := ?v5_101) rfl (by kernel_rfl) (by kernel_rfl) (by kernel_rfl) (fun _ _ _ h => h) (Or.inl ⟨by rfl, ?y5_101⟩) hHeld ?r5_101
              case y5_101 => intro w hSw; (try dsimp only at hSw); go_simp; try with_reducible rfl
              try simp only [Act.put, List.setIfInBounds_toArray, List.set_cons_zero, List.set_cons_succ]
              refine wpAnyH_take (i := 6) (oi := { dst := some 125, op := Go.Op.indexAddr 61 (Go.Operand.tmp 123) (Go.Operand.tmp 124), type := 0, pos := "extra.go:43", after := #[{ on := 4, ground := Go.Ground.data }, { on := 5, ground := Go.Ground.data }, { on := 2, ground := Go.Ground.guard }], guard := some (2, false) }) (v := ?v6_101) rfl (by kernel_rfl) (by kernel_rfl) (by kernel_rfl) (fun _ _ _ h => h) (Or.inl ⟨by rfl, ?y6_101⟩) hHeld ?r6_101
              case y6_101 => intro w hSw; (try dsimp only at hSw); go_simp; try with_reducible rfl
              try simp only [Act.put, List.setIfInBounds_toArray, List.set_cons_zero, List.set_cons_succ]
              refine wpAnyH_take (i := 7) (oi := { dst := some 126, op := Go.Op.load 38 (Go.Operand.tmp 125), type := 38, pos := "extra.go:43", after := #[{ on := 6, ground := Go.Ground.data }, { on := 2, ground := Go.Ground.guard }], guard := some (2, false) }) (v := ?v7_101) rfl (by kernel_rfl) (by kernel_rfl) (by kernel_rfl) (fun _ _ _ h => h) (Or.inl ⟨by rfl, ?y7_101⟩) hHeld ?r7_101
              case y7_101 => intro w hSw; (try dsimp only at hSw); go_simp; try with_reducible rfl
              try simp only [Act.put, List.setIfInBounds_toArray, List.set_cons_zero, List.set_cons_succ]
              refine wpAnyH_ready (rs := [8]) (by kernel_rfl) (by simp) ?_
              refine AllReadyH.cons (o := { dst := some 127, op := Go.Op.call { callee := Go.Callee.value (Go.Operand.func 34), args := #[Go.Operand.tmp 122, Go.Operand.tmp 126], argTypes := #[38, 38] }, type := 4, pos := "extra.go:43", after := #[{ on := 3, ground := Go.Ground.data }, { on := 7, ground := Go.Ground.data }, { on := 2, ground := Go.Ground.chain }, { on := 2, ground := Go.Ground.guard }], guard := some (2, false) }) rfl (fun K hK => ?_) AllReadyH.nil
              go_simp
              refine (HSAME.out _ hHeld.1.out).mono ?_; rintro e wz1 ⟨rfl, hb⟩
              go_wp2_with fail
              refine hK.out _ _ (⟨Lib.hid (hHeld.1.out.trans (hb.mono hHeld.1.out.size)), cell_later4 hb hHeld.2.1, cell_later4 hb hHeld.2.2.1, cell_later4 hb hHeld.2.2.2.1, cell_later4 hb hHeld.2.2.2.2.1, cell_later4 hb hHeld.2.2.2.2.2.1, cell_later4 hb hHeld.2.2.2.2.2.2.1, cell_later4 hb hHeld.2.2.2.2.2.2.2.1, cell_later4 hb hHeld.2.2.2.2.2.2.2.2.1, cell_later4 hb hHeld.2.2.2.2.2.2.2.2.2.1, cell_later4 hb hHeld.2.2.2.2.2.2.2.2.2.2.1, cell_later4 hb hHeld.2.2.2.2.2.2.2.2.2.2.2.1, cell_later4 hb hHeld.2.2.2.2.2.2.2.2.2.2.2.2.1, cell_later4 hb hHeld.2.2.2.2.2.2.2.2.2.2.2.2.2.1, cell_later4 hb hHeld.2.2.2.2.2.2.2.2.2.2.2.2.2.2.1, cell_later4 hb hHeld.2.2.2.2.2.2.2.2.2.2.2.2.2.2.2⟩) (fun hHeld2 => ?_)
              clear hK K hHeld
              have hHeld := hHeld2
              clear hHeld2
              try simp only [Act.put, List.setIfInBounds_toArray, List.set_cons_zero, List.set_cons_succ]
              refine wpAnyH_take (i := 9) (oi := { dst := some 128, op := Go.Op.unOp Go.UnOp.not 4 (Go.Operand.tmp 127), type := 4, pos := "extra.go:43", after := #[{ on := 8, ground := Go.Ground.data }, { on := 2, ground := Go.Ground.guard }], guard := some (2, false) }) (v := ?v9_102) rfl (by kernel_rfl) (by kernel_rfl) (by kernel_rfl) (fun _ _ _ h => h) (Or.inl ⟨by rfl, ?y9_102⟩) hHeld ?r9_102
              case y9_102 => intro w hSw; (try dsimp only at hSw); go_simp; try with_reducible rfl
              try simp only [Act.put, List.setIfInBounds_toArray, List.set_cons_zero, List.set_cons_succ]
              refine wpAnyH_take (i := 10) (oi := { dst := some 129, op := Go.Op.pick (Go.Operand.tmp 121) (Go.Operand.const (Go.Value.bool true)) (Go.Operand.tmp 128), type := 4, pos := "extra.go:43", after := #[{ on := 2, ground := Go.Ground.data }, { on := 9, ground := Go.Ground.data }], guard := none }) (v := ?v10_102) rfl (by kernel_rfl) (by kernel_rfl) (by kernel_rfl) (fun _ _ _ h => h) (Or.inl ⟨by rfl, ?y10_102⟩) hHeld ?r10_102
              case y10_102 => intro w hSw; (try dsimp only at hSw); go_simp; try with_reducible rfl
              try simp only [Act.put, List.setIfInBounds_toArray, List.set_cons_zero, List.set_cons_succ]
              refine wpAnyH_take (i := 11) (oi := { dst := some 130, op := Go.Op.move (Go.Operand.tmp 129), type := 4, pos := "extra.go:43", after := #[{ on := 10, ground := Go.Ground.data }, { on := 8, ground := Go.Ground.chain }], guard := none }) (v := ?v11_102) rfl (by kernel_rfl) (by kernel_rfl) (by kernel_rfl) (fun _ _ _ h => h) (Or.inl ⟨by rfl, ?y11_102⟩) hHeld ?r11_102
              case y11_102 => intro w hSw; (try dsimp only at hSw); go_simp; try with_reducible rfl
              try simp only [Act.put, List.setIfInBounds_toArray, List.set_cons_zero, List.set_cons_succ]
              refine wpAnyH_take (i := 12) (oi := { dst := some 131, op := Go.Op.move (Go.Operand.tmp 11), type := 61, pos := "extra.go:43", after := #[{ on := 11, ground := Go.Ground.guard }], guard := some (11, false) }) (v := ?v12_102) rfl (by kernel_rfl) (by kernel_rfl) (by kernel_rfl) (fun _ _ _ h => h) (Or.inl ⟨by rfl, ?y12_102⟩) hHeld ?r12_102
              case y12_102 => intro w hSw; (try dsimp only at hSw); go_simp; try with_reducible rfl
              try simp only [Act.put, List.setIfInBounds_toArray, List.set_cons_zero, List.set_cons_succ]
              refine wpAnyH_take (i := 13) (oi := { dst := some 132, op := Go.Op.move (Go.Operand.tmp 18), type := 3, pos := "extra.go:43", after := #[{ on := 11, ground := Go.Ground.guard }], guard := some (11, false) }) (v := ?v13_102) rfl (by kernel_rfl) (by kernel_rfl) (by kernel_rfl) (fun _ _ _ h => h) (Or.inl ⟨by rfl, ?y13_102⟩) hHeld ?r13_102
              case y13_102 => intro w hSw; (try dsimp only at hSw); go_simp; try with_reducible rfl
              try simp only [Act.put, List.setIfInBounds_toArray, List.set_cons_zero, List.set_cons_succ]
              refine wpAnyH_take (i := 14) (oi := { dst := some 133, op := Go.Op.indexAddr 61 (Go.Operand.tmp 131) (Go.Operand.tmp 132), type := 0, pos := "extra.go:43", after := #[{ on := 12, ground := Go.Ground.data }, { on := 13, ground := Go.Ground.data }, { on := 11, ground := Go.Ground.guard }], guard := some (11, false) }) (v := ?v14_102) rfl (by kernel_rfl) (by kernel_rfl) (by kernel_rfl) (fun _ _ _ h => h) (Or.inl ⟨by rfl, ?y14_102⟩) hHeld ?r14_102
              case y14_102 => intro w hSw; (try dsimp only at hSw); go_simp; try with_reducible rfl
              try simp only [Act.put, List.setIfInBounds_toArray, List.set_cons_zero, List.set_cons_succ]
              refine wpAnyH_take (i := 15) (oi := { dst := some 134, op := Go.Op.fieldAddr 38 (Go.Operand.tmp 133) 0, type := 0, pos := "extra.go:43", after := #[{ on := 14, ground := Go.Ground.data }, { on := 11, ground := Go.Ground.guard }], guard := some (11, false) }) (v := ?v15_102) rfl (by kernel_rfl) (by kernel_rfl) (by kernel_rfl) (fun _ _ _ h => h) (Or.inl ⟨by rfl, ?y15_102⟩) hHeld ?r15_102
              case y15_102 => intro w hSw; (try dsimp only at hSw); go_simp; try with_reducible rfl
              try simp only [Act.put, List.setIfInBounds_toArray, List.set_cons_zero, List.set_cons_succ]
              refine wpAnyH_take (i := 16) (oi := { dst := some 135, op := Go.Op.load 24 (Go.Operand.tmp 134), type := 24, pos := "extra.go:43", after := #[{ on := 15, ground := Go.Ground.data }, { on := 11, ground := Go.Ground.guard }], guard := some (11, false) }) (v := ?v16_102) rfl (by kernel_rfl) (by kernel_rfl) (by kernel_rfl) (fun _ _ _ h => h) (Or.inl ⟨by rfl, ?y16_102⟩) hHeld ?r16_102
              case y16_102 => intro w hSw; (try dsimp only at hSw); go_simp; try with_reducible rfl
              try simp only [Act.put, List.setIfInBounds_toArray, List.set_cons_zero, List.set_cons_succ]
              refine wpAnyH_ready (rs := [17]) (by kernel_rfl) (by simp) ?_
              refine AllReadyH.cons (o := { dst := some 136, op := Go.Op.buildSlice 119 2 #[(0, Go.Operand.const (Go.Value.int Go.IntKind.i64 1)), (1, Go.Operand.const (Go.Value.int Go.IntKind.i64 28))], type := 119, pos := "extra.go:43", after := #[{ on := 11, ground := Go.Ground.guard }], guard := some (11, false) }) rfl (fun K hK => ?_) AllReadyH.nil
              go_simp
              have hb := (Below.refl _ _ : Below wz1.heap.size wz1 wz1).alloc (Nat.le_refl _) (.cells #[.int .i64 1, .int .i64 28] 3)
              have HL2 := Lib.hid (row_lit2 wz1 1 28 3)
              obtain ⟨wz2, hwf⟩ : ∃ x, wz1.alloc (.cells #[.int .i64 1, .int .i64 28] 3) = x := ⟨_, rfl⟩
              rw [hwf] at hb HL2 ⊢
              obtain ⟨gf, hgf⟩ : ∃ x, wz1.heap.size = x := ⟨_, rfl⟩
              rw [hgf] at HL2 ⊢
              clear hwf hgf
              refine hK.out _ _ (⟨Lib.hid (hHeld.1.out.trans (hb.mono hHeld.1.out.size)), cell_later4 hb hHeld.2.1, cell_later4 hb hHeld.2.2.1, cell_later4 hb hHeld.2.2.2.1, cell_later4 hb hHeld.2.2.2.2.1, cell_later4 hb hHeld.2.2.2.2.2.1, cell_later4 hb hHeld.2.2.2.2.2.2.1, cell_later4 hb hHeld.2.2.2.2.2.2.2.1, cell_later4 hb hHeld.2.2.2.2.2.2.2.2.1, cell_later4 hb hHeld.2.2.2.2.2.2.2.2.2.1, cell_later4 hb hHeld.2.2.2.2.2.2.2.2.2.2.1, cell_later4 hb hHeld.2.2.2.2.2.2.2.2.2.2.2.1, cell_later4 hb hHeld.2.2.2.2.2.2.2.2.2.2.2.2.1, cell_later4 hb hHeld.2.2.2.2.2.2.2.2.2.2.2.2.2.1, cell_later4 hb hHeld.2.2.2.2.2.2.2.2.2.2.2.2.2.2.1, cell_later4 hb hHeld.2.2.2.2.2.2.2.2.2.2.2.2.2.2.2⟩) (fun hHeld2 => ?_)
              clear hK K hHeld
              have hHeld := hHeld2
              clear hHeld2
              try simp only [Act.put, List.setIfInBounds_toArray, List.set_cons_zero, List.set_cons_succ]
              refine wpAnyH_ready (rs := [18]) (by kernel_rfl) (by simp) ?_
              refine AllReadyH.cons (o := { dst := some 137, op := Go.Op.call { callee := Go.Callee.value (Go.Operand.func 35), args := #[Go.Operand.tmp 135, Go.Operand.tmp 136], argTypes := #[24, 119] }, type := 4, pos := "extra.go:43", after := #[{ on := 16, ground := Go.Ground.data }, { on := 17, ground := Go.Ground.data }, { on := 11, ground := Go.Ground.chain }, { on := 11, ground := Go.Ground.guard }], guard := some (11, false) }) rfl (fun K hK => ?_) AllReadyH.nil
              go_simp
              refine (isK ⟨gn, gt, 1⟩ (some ⟨gf, 0, none⟩) 2 2 [1, 28] wz2 HL2.out (by omega)).mono ?_; rintro e wz3 ⟨rfl, hb⟩
              rw [show decide ((⟨gn, gt, 1⟩ : Ky).t ∈ [(1 : Int), 28]) = true from HVT.out]
              go_wp2_with fail
              refine hK.out _ _ (⟨Lib.hid (hHeld.1.out.trans (hb.mono hHeld.1.out.size)), cell_later4 hb hHeld.2.1, cell_later4 hb hHeld.2.2.1, cell_later4 hb hHeld.2.2.2.1, cell_later4 hb hHeld.2.2.2.2.1, cell_later4 hb hHeld.2.2.2.2.2.1, cell_later4 hb hHeld.2.2.2.2.2.2.1, cell_later4 hb hHeld.2.2.2.2.2.2.2.1, cell_later4 hb hHeld.2.2.2.2.2.2.2.2.1, cell_later4 hb hHeld.2.2.2.2.2.2.2.2.2.1, cell_later4 hb hHeld.2.2.2.2.2.2.2.2.2.2.1, cell_later4 hb hHeld.2.2.2.2.2.2.2.2.2.2.2.1, cell_later4 hb hHeld.2.2.2.2.2.2.2.2.2.2.2.2.1, cell_later4 hb hHeld.2.2.2.2.2.2.2.2.2.2.2.2.2.1, cell_later4 hb hHeld.2.2.2.2.2.2.2.2.2.2.2.2.2.2.1, cell_later4 hb hHeld.2.2.2.2.2.2.2.2.2.2.2.2.2.2.2⟩) (fun hHeld2 => ?_)
              clear hK K hHeld
              have hHeld := hHeld2
              clear hHeld2
              try simp only [Act.put, List.setIfInBounds_toArray, List.set_cons_zero, List.set_cons_succ]
              refine wpAnyH_take (i := 19) (oi := { dst := some 138, op := Go.Op.unOp Go.UnOp.not 4 (Go.Operand.tmp 137), type := 4, pos := "extra.go:43", after := #[{ on := 18, ground := Go.Ground.data }, { on := 11, ground := Go.Ground.guard }], guard := some (11, false) }) (v := ?v19_104) rfl (by kernel_rfl) (by kernel_rfl) (by kernel_rfl) (fun _ _ _ h => h) (Or.inl ⟨by rfl, ?y19_104⟩) hHeld ?r19_104
              case y19_104 => intro w hSw; (try dsimp only at hSw); go_simp; try with_reducible rfl
              try simp only [Act.put, List.setIfInBounds_toArray, List.set_cons_zero, List.set_cons_succ]
              refine wpAnyH_take (i := 20) (oi := { dst := some 139, op := Go.Op.pick (Go.Operand.tmp 130) (Go.Operand.const (Go.Value.bool true)) (Go.Operand.tmp 138), type := 4, pos := "extra.go:43", after := #[{ on := 11, ground := Go.Ground.data }, { on := 19, ground := Go.Ground.data }], guard := none }) (v := ?v20_104) rfl (by kernel_rfl) (by kernel_rfl) (by kernel_rfl) (fun _ _ _ h => h) (Or.inl ⟨by rfl, ?y20_104⟩) hHeld ?r20_104
              case y20_104 => intro w hSw; (try dsimp only at hSw); go_simp; try with_reducible rfl
              try simp only [Act.put, List.setIfInBounds_toArray, List.set_cons_zero, List.set_cons_succ]
              refine wpAnyH_take (i := 21) (oi := { dst := some 140, op := Go.Op.move (Go.Operand.tmp 139), type := 4, pos := "extra.go:43", after := #[{ on := 20, ground := Go.Ground.data }, { on := 18, ground := Go.Ground.chain }], guard := none }) (v := ?v21_104) rfl (by kernel_rfl) (by kernel_rfl) (by kernel_rfl) (fun _ _ _ h => h) (Or.inl ⟨by rfl, ?y21_104⟩) hHeld ?r21_104
              case y21_104 => intro w hSw; (try dsimp only at hSw); go_simp; try with_reducible rfl
              try simp only [Act.put, List.setIfInBounds_toArray, List.set_cons_zero, List.set_cons_succ]
              refine wpAnyH_take (i := 22) (oi := { dst := some 141, op := Go.Op.load 38 (Go.Operand.tmp 9), type := 38, pos := "extra.go:43", after := #[{ on := 21, ground := Go.Ground.guard }], guard := some (21, false) }) (v := ?v22_104) rfl (by kernel_rfl) (by kernel_rfl) (by kernel_rfl) (fun _ _ _ h => h) (Or.inl ⟨by rfl, ?y22_104⟩) hHeld ?r22_104
              case y22_104 => intro w hSw; (try dsimp only at hSw); go_simp; try with_reducible rfl
              try simp only [Act.put, List.setIfInBounds_toArray, List.set_cons_zero, List.set_cons_succ]
              refine wpAnyH_take (i := 23) (oi := { dst := some 142, op := Go.Op.move (Go.Operand.tmp 11), type := 61, pos := "extra.go:43", after := #[{ on := 21, ground := Go.Ground.guard }], guard := some (21, false) }) (v := ?v23_104) rfl (by kernel_rfl) (by kernel_rfl) (by kernel_rfl) (fun _ _ _ h => h) (Or.inl ⟨by rfl, ?y23_104⟩) hHeld ?r23_104
              case y23_104 => intro w hSw; (try dsimp only at hSw); go_simp; try with_reducible rfl
              try simp only [Act.put, List.setIfInBounds_toArray, List.set_cons_zero, List.set_cons_succ]
              refine wpAnyH_take (i := 24) (oi := { dst := some 143, op := Go.Op.move (Go.Operand.tmp 18), type := 3, pos := "extra.go:43", after := #[{ on := 21, ground := Go.Ground.guard }], guard := some (21, false) }) (v := ?v24_104) rfl (by kernel_rfl) (by kernel_rfl) (by kernel_rfl) (fun _ _ _ h => h) (Or.inl ⟨by rfl, ?y24_104⟩) hHeld ?r24_104
              case y24_104 => intro w hSw; (try dsimp only at hSw); go_simp; try with_reducible rfl
              try simp only [Act.put, List.setIfInBounds_toArray, List.set_cons_zero, List.set_cons_succ]
              refine wpAnyH_take (i := 25) (oi := { dst := some 144, op := Go.Op.indexAddr 61 (Go.Operand.tmp 142) (Go.Operand.tmp 143), type := 0, pos := "extra.go:43", after := #[{ on := 23, ground := Go.Ground.data }, { on := 24, ground := Go.Ground.data }, { on := 21, ground := Go.Ground.guard }], guard := some (21, false) }) (v := ?v25_104) rfl (by kernel_rfl) (by kernel_rfl) (by kernel_rfl) (fun _ _ _ h => h) (Or.inl ⟨by rfl, ?y25_104⟩) hHeld ?r25_104
              case y25_104 => intro w hSw; (try dsimp only at hSw); go_simp; try with_reducible rfl
              try simp only [Act.put, List.setIfInBounds_toArray, List.set_cons_zero, List.set_cons_succ]
              refine wpAnyH_take (i := 26) (oi := { dst := some 145, op := Go.Op.fieldAddr 38 (Go.Operand.tmp 144) 0, type := 0, pos := "extra.go:43", after := #[{ on := 25, ground := Go.Ground.data }, { on := 21, ground := Go.Ground.guard }], guard := some (21, false) }) (v := ?v26_104) rfl (by kernel_rfl) (by kernel_rfl) (by kernel_rfl) (fun _ _ _ h => h) (Or.inl ⟨by rfl, ?y26_104⟩) hHeld ?r26_104
              case y26_104 => intro w hSw; (try dsimp only at hSw); go_simp; try with_reducible rfl
              try simp only [Act.put, List.setIfInBounds_toArray, List.set_cons_zero, List.set_cons_succ]
              refine wpAnyH_take (i := 27) (oi := { dst := some 146, op := Go.Op.fieldAddr 24 (Go.Operand.tmp 145) 0, type := 0, pos := "extra.go:43", after := #[{ on := 26, ground := Go.Ground.data }, { on := 21, ground := Go.Ground.guard }], guard := some (21, false) }) (v := ?v27_104) rfl (by kernel_rfl) (by kernel_rfl) (by kernel_rfl) (fun _ _ _ h => h) (Or.inl ⟨by rfl, ?y27_104⟩) hHeld ?r27_104
              case y27_104 => intro w hSw; (try dsimp only at hSw); go_simp; try with_reducible rfl
              try simp only [Act.put, List.setIfInBounds_toArray, List.set_cons_zero, List.set_cons_succ]
              refine wpAnyH_take (i := 28) (oi := { dst := some 147, op := Go.Op.load 9 (Go.Operand.tmp 146), type := 9, pos := "extra.go:43", after := #[{ on := 27, ground := Go.Ground.data }, { on := 21, ground := Go.Ground.guard }], guard := some (21, false) }) (v := ?v28_104) rfl (by kernel_rfl) (by kernel_rfl) (by kernel_rfl) (fun _ _ _ h => h) (Or.inl ⟨by rfl, ?y28_104⟩) hHeld ?r28_104
              case y28_104 => intro w hSw; (try dsimp only at hSw); go_simp; try with_reducible rfl
              try simp only [Act.put, List.setIfInBounds_toArray, List.set_cons_zero, List.set_cons_succ]
              refine wpAnyH_ready (rs := [29]) (by kernel_rfl) (by simp) ?_
              refine AllReadyH.cons (o := { dst := some 148, op := Go.Op.call { callee := Go.Callee.value (Go.Operand.func 38), args := #[Go.Operand.tmp 141, Go.Operand.tmp 147], argTypes := #[38, 9] }, type := 4, pos := "extra.go:43", after := #[{ on := 22, ground := Go.Ground.data }, { on := 28, ground := Go.Ground.data }, { on := 21, ground := Go.Ground.chain }, { on := 21, ground := Go.Ground.guard }], guard := some (21, false) }) rfl (fun K hK => ?_) AllReadyH.nil
              go_simp
              refine (HHAS.out _ hHeld.1.out).mono ?_; rintro e wz4 ⟨rfl, hb⟩
              go_wp2_with fail
              refine hK.out _ _ (⟨Lib.hid (hHeld.1.out.trans (hb.mono hHeld.1.out.size)), cell_later4 hb hHeld.2.1, cell_later4 hb hHeld.2.2.1, cell_later4 hb hHeld.2.2.2.1, cell_later4 hb hHeld.2.2.2.2.1, cell_later4 hb hHeld.2.2.2.2.2.1, cell_later4 hb hHeld.2.2.2.2.2.2.1, cell_later4 hb hHeld.2.2.2.2.2.2.2.1, cell_later4 hb hHeld.2.2.2.2.2.2.2.2.1, cell_later4 hb hHeld.2.2.2.2.2.2.2.2.2.1, cell_later4 hb hHeld.2.2.2.2.2.2.2.2.2.2.1, cell_later4 hb hHeld.2.2.2.2.2.2.2.2.2.2.2.1, cell_later4 hb hHeld.2.2.2.2.2.2.2.2.2.2.2.2.1, cell_later4 hb hHeld.2.2.2.2.2.2.2.2.2.2.2.2.2.1, cell_later4 hb hHeld.2.2.2.2.2.2.2.2.2.2.2.2.2.2.1, cell_later4 hb hHeld.2.2.2.2.2.2.2.2.2.2.2.2.2.2.2⟩) (fun hHeld2 => ?_)
              clear hK K hHeld
              have hHeld := hHeld2
              clear hHeld2
              try simp only [Act.put, List.setIfInBounds_toArray, List.set_cons_zero, List.set_cons_succ]
              refine wpAnyH_take (i := 30) (oi := { dst := some 149, op := Go.Op.unOp Go.UnOp.not 4 (Go.Operand.tmp 148), type := 4, pos := "extra.go:43", after := #[{ on := 29, ground := Go.Ground.data }, { on := 21, ground := Go.Ground.guard }], guard := some (21, false) }) (v := ?v30_105) rfl (by kernel_rfl) (by kernel_rfl) (by kernel_rfl) (fun _ _ _ h => h) (Or.inl ⟨by rfl, ?y30_105⟩) hHeld ?r30_105
              case y30_105 => intro w hSw; (try dsimp only at hSw); go_simp; try with_reducible rfl
              try simp only [Act.put, List.setIfInBounds_toArray, List.set_cons_zero, List.set_cons_succ]
              refine wpAnyH_take (i := 31) (oi := { dst := some 150, op := Go.Op.pick (Go.Operand.tmp 140) (Go.Operand.const (Go.Value.bool true)) (Go.Operand.tmp 149), type := 4, pos := "extra.go:43", after := #[{ on := 21, ground := Go.Ground.data }, { on := 30, ground := Go.Ground.data }], guard := none }) (v := ?v31_105) rfl (by kernel_rfl) (by kernel_rfl) (by kernel_rfl) (fun _ _ _ h => h) (Or.inl ⟨by rfl, ?y31_105⟩) hHeld ?r31_105
              case y31_105 => intro w hSw; (try dsimp only at hSw); go_simp; try with_reducible rfl
              try simp only [Act.put, List.setIfInBounds_toArray, List.set_cons_zero, List.set_cons_succ]
              refine wpAnyH_take (i := 32) (oi := { dst := some 151, op := Go.Op.move (Go.Operand.tmp 150), type := 4, pos := "extra.go:43", after := #[{ on := 31, ground := Go.Ground.data }, { on := 29, ground := Go.Ground.chain }], guard := none }) (v := ?v32_105) rfl (by kernel_rfl) (by kernel_rfl) (by kernel_rfl) (fun _ _ _ h => h) (Or.inl ⟨by rfl, ?y32_105⟩) hHeld ?r32_105
              case y32_105 => intro w hSw; (try dsimp only at hSw); go_simp; try with_reducible rfl
              try simp only [Act.put, List.setIfInBounds_toArray, List.set_cons_zero, List.set_cons_succ]
              refine wpAnyH_take (i := 33) (oi := { dst := some 152, op := Go.Op.move (Go.Operand.tmp 18), type := 3, pos := "extra.go:43", after := #[{ on := 32, ground := Go.Ground.guard }], guard := some (32, false) }) (v := ?v33_105) rfl (by kernel_rfl) (by kernel_rfl) (by kernel_rfl) (fun _ _ _ h => h) (Or.inl ⟨by rfl, ?y33_105⟩) hHeld ?r33_105
              case y33_105 => intro w hSw; (try dsimp only at hSw); go_simp; try with_reducible rfl
              try simp only [Act.put, List.setIfInBounds_toArray, List.set_cons_zero, List.set_cons_succ]
              refine wpAnyH_take (i := 34) (oi := { dst := some 153, op := Go.Op.binOp Go.BinOp.gtr 3 (Go.Operand.tmp 152) (Go.Operand.const (Go.Value.int Go.IntKind.i64 0)) 3, type := 4, pos := "extra.go:43", after := #[{ on := 33, ground := Go.Ground.data }, { on := 32, ground := Go.Ground.guard }], guard := some (32, false) }) (v := ?v34_105) rfl (by kernel_rfl) (by kernel_rfl) (by kernel_rfl) (fun _ _ _ h => h) (Or.inl ⟨by rfl, ?y34_105⟩) hHeld ?r34_105
              case y34_105 => intro w hSw; (try dsimp only at hSw); go_simp; try with_reducible rfl
              try simp only [Act.put, List.setIfInBounds_toArray, List.set_cons_zero, List.set_cons_succ]
              refine wpAnyH_take (i := 35) (oi := { dst := some 154, op := Go.Op.move (Go.Operand.tmp 153), type := 4, pos := "extra.go:43", after := #[{ on := 34, ground := Go.Ground.data }, { on := 32, ground := Go.Ground.chain }, { on := 32, ground := Go.Ground.guard }], guard := some (32, false) }) (v := ?v35_105) rfl (by kernel_rfl) (by kernel_rfl) (by kernel_rfl) (fun _ _ _ h => h) (Or.inl ⟨by rfl, ?y35_105⟩) hHeld ?r35_105
              case y35_105 => intro w hSw; (try dsimp only at hSw); go_simp; try with_reducible rfl
              try simp only [Act.put, List.setIfInBounds_toArray, List.set_cons_zero, List.set_cons_succ]
              refine wpAnyH_take (i := 36) (oi := { dst := some 155, op := Go.Op.move (Go.Operand.tmp 11), type := 61, pos := "extra.go:43", after := #[{ on := 35, ground := Go.Ground.guard }], guard := some (35, true) }) (v := undef) rfl (by kernel_rfl) (by kernel_rfl) (by kernel_rfl) (fun _ _ _ h => h) (Or.inr ⟨by rfl, rfl⟩) hHeld ?_
              try simp only [Act.put, List.setIfInBounds_toArray, List.set_cons_zero, List.set_cons_succ]
              refine wpAnyH_take (i := 37) (oi := { dst := some 156, op := Go.Op.move (Go.Operand.tmp 18), type := 3, pos := "extra.go:43", after := #[{ on := 35, ground := Go.Ground.guard }], guard := some (35, true) }) (v := undef) rfl (by kernel_rfl) (by kernel_rfl) (by kernel_rfl) (fun _ _ _ h => h) (Or.inr ⟨by rfl, rfl⟩) hHeld ?_
              try simp only [Act.put, List.setIfInBounds_toArray, List.set_cons_zero, List.set_cons_succ]
              refine wpAnyH_take (i := 38) (oi := { dst := some 157, op := Go.Op.binOp Go.BinOp.sub 3 (Go.Operand.tmp 156) (Go.Operand.const (Go.Value.int Go.IntKind.i64 1)) 3, type := 3, pos := "extra.go:43", after := #[{ on := 37, ground := Go.Ground.data }, { on := 35, ground := Go.Ground.guard }], guard := some (35, true) }) (v := undef) rfl (by kernel_rfl) (by kernel_rfl) (by kernel_rfl) (fun _ _ _ h => h) (Or.inr ⟨by rfl, rfl⟩) hHeld ?_
              try simp only [Act.put, List.setIfInBounds_toArray, List.set_cons_zero, List.set_cons_succ]
              refine wpAnyH_take (i := 39) (oi := { dst := some 158, op := Go.Op.indexAddr 61 (Go.Operand.tmp 155) (Go.Operand.tmp 157), type := 0, pos := "extra.go:43", after := #[{ on := 36, ground := Go.Ground.data }, { on := 38, ground := Go.Ground.data }, { on := 35, ground := Go.Ground.guard }], guard := some (35, true) }) (v := undef) rfl (by kernel_rfl) (by kernel_rfl) (by kernel_rfl) (fun _ _ _ h => h) (Or.inr ⟨by rfl, rfl⟩) hHeld ?_
              try simp only [Act.put, List.setIfInBounds_toArray, List.set_cons_zero, List.set_cons_succ]
              refine wpAnyH_take (i := 40) (oi := { dst := some 159, op := Go.Op.fieldAddr 38 (Go.Operand.tmp 158) 0, type := 0, pos := "extra.go:43", after := #[{ on := 39, ground := Go.Ground.data }, { on := 35, ground := Go.Ground.guard }], guard := some (35, true) }) (v := undef) rfl (by kernel_rfl) (by kernel_rfl) (by kernel_rfl) (fun _ _ _ h => h) (Or.inr ⟨by rfl, rfl⟩) hHeld ?_
              try simp only [Act.put, List.setIfInBounds_toArray, List.set_cons_zero, List.set_cons_succ]
              refine wpAnyH_take (i := 41) (oi := { dst := some 160, op := Go.Op.load 24 (Go.Operand.tmp 159), type := 24, pos := "extra.go:43", after := #[{ on := 40, ground := Go.Ground.data }, { on := 35, ground := Go.Ground.guard }], guard := some (35, true) }) (v := undef) rfl (by kernel_rfl) (by kernel_rfl) (by kernel_rfl) (fun _ _ _ h => h) (Or.inr ⟨by rfl, rfl⟩) hHeld ?_
              try simp only [Act.put, List.setIfInBounds_toArray, List.set_cons_zero, List.set_cons_succ]
              refine wpAnyH_take (i := 42) (oi := { dst := some 161, op := Go.Op.move (Go.Operand.tmp 11), type := 61, pos := "extra.go:43", after := #[{ on := 35, ground := Go.Ground.guard }], guard := some (35, true) }) (v := undef) rfl (by kernel_rfl) (by kernel_rfl) (by kernel_rfl) (fun _ _ _ h => h) (Or.inr ⟨by rfl, rfl⟩) hHeld ?_
              try simp only [Act.put, List.setIfInBounds_toArray, List.set_cons_zero, List.set_cons_succ]
              refine wpAnyH_take (i := 43) (oi := { dst := some 162, op := Go.Op.move (Go.Operand.tmp 18), type := 3, pos := "extra.go:43", after := #[{ on := 35, ground := Go.Ground.guard }], guard := some (35, true) }) (v := undef) rfl (by kernel_rfl) (by kernel_rfl) (by kernel_rfl) (fun _ _ _ h => h) (Or.inr ⟨by rfl, rfl⟩) hHeld ?_
              try simp only [Act.put, List.setIfInBounds_toArray, List.set_cons_zero, List.set_cons_succ]
              refine wpAnyH_take (i := 44) (oi := { dst := some 163, op := Go.Op.indexAddr 61 (Go.Operand.tmp 161) (Go.Operand.tmp 162), type := 0, pos := "extra.go:43", after := #[{ on := 42, ground := Go.Ground.data }, { on := 43, ground := Go.Ground.data }, { on := 35, ground := Go.Ground.guard }], guard := some (35, true) }) (v := undef) rfl (by kernel_rfl) (by kernel_rfl) (by kernel_rfl) (fun _ _ _ h => h) (Or.inr ⟨by rfl, rfl⟩) hHeld ?_
              try simp only [Act.put, List.setIfInBounds_toArray, List.set_cons_zero, List.set_cons_succ]
              refine wpAnyH_take (i := 45) (oi := { dst := some 164, op := Go.Op.fieldAddr 38 (Go.Operand.tmp 163) 0, type := 0, pos := "extra.go:43", after := #[{ on := 44, ground := Go.Ground.data }, { on := 35, ground := Go.Ground.guard }], guard := some (35, true) }) (v := undef) rfl (by kernel_rfl) (by kernel_rfl) (by kernel_rfl) (fun _ _ _ h => h) (Or.inr ⟨by rfl, rfl⟩) hHeld ?_
              try simp only [Act.put, List.setIfInBounds_toArray, List.set_cons_zero, List.set_cons_succ]
              refine wpAnyH_take (i := 46) (oi := { dst := some 165, op := Go.Op.load 24 (Go.Operand.tmp 164), type := 24, pos := "extra.go:43", after := #[{ on := 45, ground := Go.Ground.data }, { on := 35, ground := Go.Ground.guard }], guard := some (35, true) }) (v := undef) rfl (by kernel_rfl) (by kernel_rfl) (by kernel_rfl) (fun _ _ _ h => h) (Or.inr ⟨by rfl, rfl⟩) hHeld ?_
              try simp only [Act.put, List.setIfInBounds_toArray, List.set_cons_zero, List.set_cons_succ]
              refine wpAnyH_take (i := 47) (oi := { dst := some 166, op := Go.Op.call { callee := Go.Callee.value (Go.Operand.func 39), args := #[Go.Operand.tmp 160, Go.Operand.tmp 165], argTypes := #[24, 24] }, type := 3, pos := "extra.go:43", after := #[{ on := 41, ground := Go.Ground.data }, { on := 46, ground := Go.Ground.data }, { on := 35, ground := Go.Ground.chain }, { on := 35, ground := Go.Ground.guard }], guard := some (35, true) }) (v := undef) rfl (by kernel_rfl) (by kernel_rfl) (by kernel_rfl) (fun _ _ _ h => h) (Or.inr ⟨by rfl, rfl⟩) hHeld ?_
              try simp only [Act.put, List.setIfInBounds_toArray, List.set_cons_zero, List.set_cons_succ]
              refine wpAnyH_take (i := 48) (oi := { dst := some 167, op := Go.Op.binOp Go.BinOp.geq 3 (Go.Operand.tmp 166) (Go.Operand.const (Go.Value.int Go.IntKind.i64 0)) 3, type := 4, pos := "extra.go:43", after := #[{ on := 47, ground := Go.Ground.data }, { on := 35, ground := Go.Ground.guard }], guard := some (35, true) }) (v := undef) rfl (by kernel_rfl) (by kernel_rfl) (by kernel_rfl) (fun _ _ _ h => h) (Or.inr ⟨by rfl, rfl⟩) hHeld ?_
              try simp only [Act.put, List.setIfInBounds_toArray, List.set_cons_zero, List.set_cons_succ]
              refine wpAnyH_take (i := 49) (oi := { dst := some 168, op := Go.Op.pick (Go.Operand.tmp 154) (Go.Operand.tmp 167) (Go.Operand.const (Go.Value.bool false)), type := 4, pos := "extra.go:43", after := #[{ on := 35, ground := Go.Ground.data }, { on := 48, ground := Go.Ground.data }, { on := 32, ground := Go.Ground.guard }], guard := some (32, false) }) (v := ?v49_105) rfl (by kernel_rfl) (by kernel_rfl) (by kernel_rfl) (fun _ _ _ h => h) (Or.inl ⟨by rfl, ?y49_105⟩) hHeld ?r49_105
              case y49_105 => intro w hSw; (try dsimp only at hSw); go_simp; try with_reducible rfl
              try simp only [Act.put, List.setIfInBounds_toArray, List.set_cons_zero, List.set_cons_succ]
              refine wpAnyH_take (i := 50) (oi := { dst := some 169, op := Go.Op.pick (Go.Operand.tmp 151) (Go.Operand.const (Go.Value.bool true)) (Go.Operand.tmp 168), type := 4, pos := "extra.go:43", after := #[{ on := 32, ground := Go.Ground.data }, { on := 49, ground := Go.Ground.data }], guard := none }) (v := ?v50_105) rfl (by kernel_rfl) (by kernel_rfl) (by kernel_rfl) (fun _ _ _ h => h) (Or.inl ⟨by rfl, ?y50_105⟩) hHeld ?r50_105
              case y50_105 => intro w hSw; (try dsimp only at hSw); go_simp; try with_reducible rfl
              try simp only [Act.put, List.setIfInBounds_toArray, List.set_cons_zero, List.set_cons_succ]
              refine wpAnyH_done (by kernel_rfl) ?_ _
              have hbe := hHeld.1.out
              clear hHeld
              have HBN := Lib.hid (hbw.out.trans ((HXB.out.trans (hbe.mono HXB.out.size)).mono hbw.out.size))
              clear hbe
              go_wp2
              go_roundw
              case rel => exact ⟨j + 1, by have := HLT.out; omega, by have := HLT.out; go_num, HBN⟩
              case measure => have := HLT.out; simp [intOf]; omega
            · obtain ⟨j0, hj0⟩ : ∃ j0, j = j0 + 1 := ⟨j - 1, by omega⟩
              obtain ⟨n1, t1, c1, u0, u1, u2, hnz, hkc⟩ := HPV.out j0 hj0
              replace u0 := cell_later4 (hbw.out.trans (HXB.out.mono hbw.out.size)) u0
              replace u1 := cell_later4 (hbw.out.trans (HXB.out.mono hbw.out.size)) u1
              replace u2 := cell_later4 (hbw.out.trans (HXB.out.mono hbw.out.size)) u2
              have HKC := Lib.hid (fun wx => kcompare_any ⟨n1, t1, c1⟩ ⟨gn, gt, 1⟩ wx hnz HGZ.out)
              obtain ⟨vk, hvk⟩ : ∃ x, kcmp ⟨n1, t1, c1⟩ ⟨gn, gt, 1⟩ = x := ⟨_, rfl⟩
              rw [hvk] at HKC hkc
              have d5 : decide (0 ≤ vk) = false := dF (by omega)
              have h5 : decide ((0 : Int) < (j : Int)) = true := dT (by omega)
              have h55 : decide (0 < j) = true := dT (by omega)
              have f1 : (j : Int) - 1 = (j0 : Int) := by omega
              have f2 : IntKind.i64.wrap (j0 : Int) = (j0 : Int) := by rw [IntKind.wrap_i64]; omega
              have i0 : (0 : Int) ≤ (j0 : Int) := by omega
              have i3 : (j0 : Int) < (m : Int) := by omega
              clear h0 hj0 hnz hkc hvk
              refine wp_region_held_drew (S := (fun wx => Hid (Below wb.heap.size wb wx) ∧ wx.cell? ⟨q19, 0, none⟩ = some (.string gn) ∧ wx.cell? ⟨q19, 1, none⟩ = some (.int .i64 gt) ∧ wx.cell? ⟨q19, 2, none⟩ = some (.int .i64 1) ∧ wx.cell? ⟨q19, 3, none⟩ = some (.int .i64 gu) ∧ wx.cell? ⟨q19, 4, none⟩ = some (.slice ta2 gl tc2) ∧ wx.cell? ⟨b, o + j * 5, none⟩ = some (.string gn) ∧ wx.cell? ⟨b, o + j * 5 + 1, none⟩ = some (.int .i64 gt) ∧ wx.cell? ⟨b, o + j * 5 + 2, none⟩ = some (.int .i64 1) ∧ wx.cell? ⟨b, o + j * 5 + 3, none⟩ = some (.int .i64 gu) ∧ wx.cell? ⟨b, o + j * 5 + 4, none⟩ = some (.slice pa gl ca) ∧ wx.cell? ⟨q9, 0, none⟩ = some (.string sn) ∧ wx.cell? ⟨q9, 1, none⟩ = some (.int .i64 2) ∧ wx.cell? ⟨q9, 2, none⟩ = some (.int .i64 1) ∧ wx.cell? ⟨q9, 3, none⟩ = some (.int .i64 su) ∧ wx.cell? ⟨q9, 4, none⟩ = some (.slice da k dc) ∧ wx.cell? ⟨b, o + j0 * 5, none⟩ = some (.string n1) ∧ wx.cell? ⟨b, o + j0 * 5 + 1, none⟩ = some (.int .i64 t1) ∧ wx.cell? ⟨b, o + j0 * 5 + 2, none⟩ = some (.int .i64 c1))) (by kernel_rfl) (by rw [hwe]; exact ⟨HBE, cell_later4 HBE.out z0, cell_later4 HBE.out z1, cell_later4 HBE.out z2, cell_later4 HBE.out z3, cell_later4 HBE.out z4, cell_later4 HBE.out Y0.out, cell_later4 HBE.out Y1.out, cell_later4 HBE.out Y2.out, cell_later4 HBE.out Y3.out, cell_later4 HBE.out Y4.out, cell_later4 HBE.out v0, cell_later4 HBE.out v1, cell_later4 HBE.out v2, cell_later4 HBE.out v3, cell_later4 HBE.out v4, cell_later4 HBE.out u0, cell_later4 HBE.out u1, cell_later4 HBE.out u2⟩) (fun hHeld => ?_)
              rw [hwe] at hHeld ⊢
              clear hwe
              refine wpAnyH_take (i := 0) (oi := { dst := some 119, op := Go.Op.move (Go.Operand.tmp 20), type := 4, pos := "extra.go:43", after := #[], guard := none }) (v := ?v0_201) rfl (by kernel_rfl) (by kernel_rfl) (by kernel_rfl) (fun _ _ _ h => h) (Or.inl ⟨by rfl, ?y0_201⟩) hHeld ?r0_201
              case y0_201 => intro w hSw; (try dsimp only at hSw); go_simp; try with_reducible rfl
              try simp only [Act.put, List.setIfInBounds_toArray, List.set_cons_zero, List.set_cons_succ]
              refine wpAnyH_take (i := 1) (oi := { dst := some 120, op := Go.Op.unOp Go.UnOp.not 4 (Go.Operand.tmp 119), type := 4, pos := "extra.go:43", after := #[{ on := 0, ground := Go.Ground.data }], guard := none }) (v := ?v1_201) rfl (by kernel_rfl) (by kernel_rfl) (by kernel_rfl) (fun _ _ _ h => h) (Or.inl ⟨by rfl, ?y1_201⟩) hHeld ?r1_201
              case y1_201 => intro w hSw; (try dsimp only at hSw); go_simp; try with_reducible rfl
              try simp only [Act.put, List.setIfInBounds_toArray, List.set_cons_zero, List.set_cons_succ]
              refine wpAnyH_take (i := 2) (oi := { dst := some 121, op := Go.Op.move (Go.Operand.tmp 120), type := 4, pos := "extra.go:43", after := #[{ on := 1, ground := Go.Ground.data }], guard := none }) (v := ?v2_201) rfl (by kernel_rfl) (by kernel_rfl) (by kernel_rfl) (fun _ _ _ h => h) (Or.inl ⟨by rfl, ?y2_201⟩) hHeld ?r2_201
              case y2_201 => intro w hSw; (try dsimp only at hSw); go_simp; try with_reducible rfl
              try simp only [Act.put, List.setIfInBounds_toArray, List.set_cons_zero, List.set_cons_succ]
              refine wpAnyH_take (i := 3) (oi := { dst := some 122, op := Go.Op.load 38 (Go.Operand.tmp 19), type := 38, pos := "extra.go:43", after := #[{ on := 2, ground := Go.Ground.guard }], guard := some (2, false) }) (v := ?v3_201) rfl (by kernel_rfl) (by kernel_rfl) (by kernel_rfl) (fun _ _ _ h => h) (Or.inl ⟨by rfl, ?y3_201⟩) hHeld ?r3_201
              case y3_201 => intro w hSw; (try dsimp only at hSw); go_simp; try with_reducible rfl
              try simp only [Act.put, List.setIfInBounds_toArray, List.set_cons_zero, List.set_cons_succ]
              refine wpAnyH_take (i := 4) (oi := { dst := some 123, op := Go.Op.move (Go.Operand.tmp 11), type := 61, pos := "extra.go:43", after := #[{ on := 2, ground := Go.Ground.guard }], guard := some (2, false) }) (v := ?v4_201) rfl (by kernel_rfl) (by kernel_rfl) (by kernel_rfl) (fun _ _ _ h => h) (Or.inl ⟨by rfl, ?y4_201⟩) hHeld ?r4_201
              case y4_201 => intro w hSw; (try dsimp only at hSw); go_simp; try with_reducible rfl
              try simp only [Act.put, List.setIfInBounds_toArray, List.set_cons_zero, List.set_cons_succ]
              refine wpAnyH_take (i := 5) (oi := { dst := some 124, op := Go.Op.move (Go.Operand.tmp 18), type := 3, pos := "extra.go:43", after := #[{ on := 2, ground := Go.Ground.guard }], guard := some (2, false) }) (v := ?v5_201) rfl (by kernel_rfl) (by kernel_rfl) (by kernel_rfl) (fun _ _ _ h => h) (Or.inl ⟨by rfl, ?y5_201⟩) hHeld ?r5_201
              case y5_201 => intro w hSw; (try dsimp only at hSw); go_simp; try with_reducible rfl
              try simp only [Act.put, List.setIfInBounds_toArray, List.set_cons_zero, List.set_cons_succ]
              refine wpAnyH_take (i := 6) (oi := { dst := some 125, op := Go.Op.indexAddr 61 (Go.Operand.tmp 123) (Go.Operand.tmp 124), type := 0, pos := "extra.go:43", after := #[{ on := 4, ground := Go.Ground.data }, { on := 5, ground := Go.Ground.data }, { on := 2, ground := Go.Ground.guard }], guard := some (2, false) }) (v := ?v6_201) rfl (by kernel_rfl) (by kernel_rfl) (by kernel_rfl) (fun _ _ _ h => h) (Or.inl ⟨by rfl, ?y6_201⟩) hHeld ?r6_201
              case y6_201 => intro w hSw; (try dsimp only at hSw); go_simp; try with_reducible rfl
              try simp only [Act.put, List.setIfInBounds_toArray, List.set_cons_zero, List.set_cons_succ]
              refine wpAnyH_take (i := 7) (oi := { dst := some 126, op := Go.Op.load 38 (Go.Operand.tmp 125), type := 38, pos := "extra.go:43", after := #[{ on := 6, ground := Go.Ground.data }, { on := 2, ground := Go.Ground.guard }], guard := some (2, false) }) (v := ?v7_201) rfl (by kernel_rfl) (by kernel_rfl) (by kernel_rfl) (fun _ _ _ h => h) (Or.inl ⟨by rfl, ?y7_201⟩) hHeld ?r7_201
              case y7_201 => intro w hSw; (try dsimp only at hSw); go_simp; try with_reducible rfl
              try simp only [Act.put, List.setIfInBounds_toArray, List.set_cons_zero, List.set_cons_succ]
              refine wpAnyH_ready (rs := [8]) (by kernel_rfl) (by simp) ?_
              refine AllReadyH.cons (o := { dst := some 127, op := Go.Op.call { callee := Go.Callee.value (Go.Operand.func 34), args := #[Go.Operand.tmp 122, Go.Operand.tmp 126], argTypes := #[38, 38] }, type := 4, pos := "extra.go:43", after := #[{ on := 3, ground := Go.Ground.data }, { on := 7, ground := Go.Ground.data }, { on := 2, ground := Go.Ground.chain }, { on := 2, ground := Go.Ground.guard }], guard := some (2, false) }) rfl (fun K hK => ?_) AllReadyH.nil
              go_simp
              refine (HSAME.out _ hHeld.1.out).mono ?_; rintro e wz1 ⟨rfl, hb⟩
              go_wp2_with fail
              refine hK.out _ _ (⟨Lib.hid (hHeld.1.out.trans (hb.mono hHeld.1.out.size)), cell_later4 hb hHeld.2.1, cell_later4 hb hHeld.2.2.1, cell_later4 hb hHeld.2.2.2.1, cell_later4 hb hHeld.2.2.2.2.1, cell_later4 hb hHeld.2.2.2.2.2.1, cell_later4 hb hHeld.2.2.2.2.2.2.1, cell_later4 hb hHeld.2.2.2.2.2.2.2.1, cell_later4 hb hHeld.2.2.2.2.2.2.2.2.1, cell_later4 hb hHeld.2.2.2.2.2.2.2.2.2.1, cell_later4 hb hHeld.2.2.2.2.2.2.2.2.2.2.1, cell_later4 hb hHeld.2.2.2.2.2.2.2.2.2.2.2.1, cell_later4 hb hHeld.2.2.2.2.2.2.2.2.2.2.2.2.1, cell_later4 hb hHeld.2.2.2.2.2.2.2.2.2.2.2.2.2.1, cell_later4 hb hHeld.2.2.2.2.2.2.2.2.2.2.2.2.2.2.1, cell_later4 hb hHeld.2.2.2.2.2.2.2.2.2.2.2.2.2.2.2.1, cell_later4 hb hHeld.2.2.2.2.2.2.2.2.2.2.2.2.2.2.2.2.1, cell_later4 hb hHeld.2.2.2.2.2.2.2.2.2.2.2.2.2.2.2.2.2.1, cell_later4 hb hHeld.2.2.2.2.2.2.2.2.2.2.2.2.2.2.2.2.2.2⟩) (fun hHeld2 => ?_)
              clear hK K hHeld
              have hHeld := hHeld2
              clear hHeld2
              try simp only [Act.put, List.setIfInBounds_toArray, List.set_cons_zero, List.set_cons_succ]
              refine wpAnyH_take (i := 9) (oi := { dst := some 128, op := Go.Op.unOp Go.UnOp.not 4 (Go.Operand.tmp 127), type := 4, pos := "extra.go:43", after := #[{ on := 8, ground := Go.Ground.data }, { on := 2, ground := Go.Ground.guard }], guard := some (2, false) }) (v := ?v9_202) rfl (by kernel_rfl) (by kernel_rfl) (by kernel_rfl) (fun _ _ _ h => h) (Or.inl ⟨by rfl, ?y9_202⟩) hHeld ?r9_202
              case y9_202 => intro w hSw; (try dsimp only at hSw); go_simp; try with_reducible rfl
              try simp only [Act.put, List.setIfInBounds_toArray, List.set_cons_zero, List.set_cons_succ]
              refine wpAnyH_take (i := 10) (oi := { dst := some 129, op := Go.Op.pick (Go.Operand.tmp 121) (Go.Operand.const (Go.Value.bool true)) (Go.Operand.tmp 128), type := 4, pos := "extra.go:43", after := #[{ on := 2, ground := Go.Ground.data }, { on := 9, ground := Go.Ground.data }], guard := none }) (v := ?v10_202) rfl (by kernel_rfl) (by kernel_rfl) (by kernel_rfl) (fun _ _ _ h => h) (Or.inl ⟨by rfl, ?y10_202⟩) hHeld ?r10_202
              case y10_202 => intro w hSw; (try dsimp only at hSw); go_simp; try with_reducible rfl
              try simp only [Act.put, List.setIfInBounds_toArray, List.set_cons_zero, List.set_cons_succ]
              refine wpAnyH_take (i := 11) (oi := { dst := some 130, op := Go.Op.move (Go.Operand.tmp 129), type := 4, pos := "extra.go:43", after := #[{ on := 10, ground := Go.Ground.data }, { on := 8, ground := Go.Ground.chain }], guard := none }) (v := ?v11_202) rfl (by kernel_rfl) (by kernel_rfl) (by kernel_rfl) (fun _ _ _ h => h) (Or.inl ⟨by rfl, ?y11_202⟩) hHeld ?r11_202
              case y11_202 => intro w hSw; (try dsimp only at hSw); go_simp; try with_reducible rfl
              try simp only [Act.put, List.setIfInBounds_toArray, List.set_cons_zero, List.set_cons_succ]
              refine wpAnyH_take (i := 12) (oi := { dst := some 131, op := Go.Op.move (Go.Operand.tmp 11), type := 61, pos := "extra.go:43", after := #[{ on := 11, ground := Go.Ground.guard }], guard := some (11, false) }) (v := ?v12_202) rfl (by kernel_rfl) (by kernel_rfl) (by kernel_rfl) (fun _ _ _ h => h) (Or.inl ⟨by rfl, ?y12_202⟩) hHeld ?r12_202
              case y12_202 => intro w hSw; (try dsimp only at hSw); go_simp; try with_reducible rfl
              try simp only [Act.put, List.setIfInBounds_toArray, List.set_cons_zero, List.set_cons_succ]
              refine wpAnyH_take (i := 13) (oi := { dst := some 132, op := Go.Op.move (Go.Operand.tmp 18), type := 3, pos := "extra.go:43", after := #[{ on := 11, ground := Go.Ground.guard }], guard := some (11, false) }) (v := ?v13_202) rfl (by kernel_rfl) (by kernel_rfl) (by kernel_rfl) (fun _ _ _ h => h) (Or.inl ⟨by rfl, ?y13_202⟩) hHeld ?r13_202
              case y13_202 => intro w hSw; (try dsimp only at hSw); go_simp; try with_reducible rfl
              try simp only [Act.put, List.setIfInBounds_toArray, List.set_cons_zero, List.set_cons_succ]
              refine wpAnyH_take (i := 14) (oi := { dst := some 133, op := Go.Op.indexAddr 61 (Go.Operand.tmp 131) (Go.Operand.tmp 132), type := 0, pos := "extra.go:43", after := #[{ on := 12, ground := Go.Ground.data }, { on := 13, ground := Go.Ground.data }, { on := 11, ground := Go.Ground.guard }], guard := some (11, false) }) (v := ?v14_202) rfl (by kernel_rfl) (by kernel_rfl) (by kernel_rfl) (fun _ _ _ h => h) (Or.inl ⟨by rfl, ?y14_202⟩) hHeld ?r14_202
              case y14_202 => intro w hSw; (try dsimp only at hSw); go_simp; try with_reducible rfl
              try simp only [Act.put, List.setIfInBounds_toArray, List.set_cons_zero, List.set_cons_succ]
              refine wpAnyH_take (i := 15) (oi := { dst := some 134, op := Go.Op.fieldAddr 38 (Go.Operand.tmp 133) 0, type := 0, pos := "extra.go:43", after := #[{ on := 14, ground := Go.Ground.data }, { on := 11, ground := Go.Ground.guard }], guard := some (11, false) }) (v := ?v15_202) rfl (by kernel_rfl) (by kernel_rfl) (by kernel_rfl) (fun _ _ _ h => h) (Or.inl ⟨by rfl, ?y15_202⟩) hHeld ?r15_202
              case y15_202 => intro w hSw; (try dsimp only at hSw); go_simp; try with_reducible rfl
              try simp only [Act.put, List.setIfInBounds_toArray, List.set_cons_zero, List.set_cons_succ]
              refine wpAnyH_take (i := 16) (oi := { dst := some 135, op := Go.Op.load 24 (Go.Operand.tmp 134), type := 24, pos := "extra.go:43", after := #[{ on := 15, ground := Go.Ground.data }, { on := 11, ground := Go.Ground.guard }], guard := some (11, false) }) (v := ?v16_202) rfl (by kernel_rfl) (by kernel_rfl) (by kernel_rfl) (fun _ _ _ h => h) (Or.inl ⟨by rfl, ?y16_202⟩) hHeld ?r16_202
              case y16_202 => intro w hSw; (try dsimp only at hSw); go_simp; try with_reducible rfl
              try simp only [Act.put, List.setIfInBounds_toArray, List.set_cons_zero, List.set_cons_succ]
              refine wpAnyH_ready (rs := [17]) (by kernel_rfl) (by simp) ?_
              refine AllReadyH.cons (o := { dst := some 136, op := Go.Op.buildSlice 119 2 #[(0, Go.Operand.const (Go.Value.int Go.IntKind.i64 1)), (1, Go.Operand.const (Go.Value.int Go.IntKind.i64 28))], type := 119, pos := "extra.go:43", after := #[{ on := 11, ground := Go.Ground.guard }], guard := some (11, false) }) rfl (fun K hK => ?_) AllReadyH.nil
              go_simp
              have hb := (Below.refl _ _ : Below wz1.heap.size wz1 wz1).alloc (Nat.le_refl _) (.cells #[.int .i64 1, .int .i64 28] 3)
              have HL2 := Lib.hid (row_lit2 wz1 1 28 3)
              obtain ⟨wz2, hwf⟩ : ∃ x, wz1.alloc (.cells #[.int .i64 1, .int .i64 28] 3) = x := ⟨_, rfl⟩
              rw [hwf] at hb HL2 ⊢
              obtain ⟨gf, hgf⟩ : ∃ x, wz1.heap.size = x := ⟨_, rfl⟩
              rw [hgf] at HL2 ⊢
              clear hwf hgf
              refine hK.out _ _ (⟨Lib.hid (hHeld.1.out.trans (hb.mono hHeld.1.out.size)), cell_later4 hb hHeld.2.1, cell_later4 hb hHeld.2.2.1, cell_later4 hb hHeld.2.2.2.1, cell_later4 hb hHeld.2.2.2.2.1, cell_later4 hb hHeld.2.2.2.2.2.1, cell_later4 hb hHeld.2.2.2.2.2.2.1, cell_later4 hb hHeld.2.2.2.2.2.2.2.1, cell_later4 hb hHeld.2.2.2.2.2.2.2.2.1, cell_later4 hb hHeld.2.2.2.2.2.2.2.2.2.1, cell_later4 hb hHeld.2.2.2.2.2.2.2.2.2.2.1, cell_later4 hb hHeld.2.2.2.2.2.2.2.2.2.2.2.1, cell_later4 hb hHeld.2.2.2.2.2.2.2.2.2.2.2.2.1, cell_later4 hb hHeld.2.2.2.2.2.2.2.2.2.2.2.2.2.1, cell_later4 hb hHeld.2.2.2.2.2.2.2.2.2.2.2.2.2.2.1, cell_later4 hb hHeld.2.2.2.2.2.2.2.2.2.2.2.2.2.2.2.1, cell_later4 hb hHeld.2.2.2.2.2.2.2.2.2.2.2.2.2.2.2.2.1, cell_later4 hb hHeld.2.2.2.2.2.2.2.2.2.2.2.2.2.2.2.2.2.1, cell_later4 hb hHeld.2.2.2.2.2.2.2.2.2.2.2.2.2.2.2.2.2.2⟩) (fun hHeld2 => ?_)
              clear hK K hHeld
              have hHeld := hHeld2
              clear hHeld2
              try simp only [Act.put, List.setIfInBounds_toArray, List.set_cons_zero, List.set_cons_succ]
              refine wpAnyH_ready (rs := [18]) (by kernel_rfl) (by simp) ?_
              refine AllReadyH.cons (o := { dst := some 137, op := Go.Op.call { callee := Go.Callee.value (Go.Operand.func 35), args := #[Go.Operand.tmp 135, Go.Operand.tmp 136], argTypes := #[24, 119] }, type := 4, pos := "extra.go:43", after := #[{ on := 16, ground := Go.Ground.data }, { on := 17, ground := Go.Ground.data }, { on := 11, ground := Go.Ground.chain }, { on := 11, ground := Go.Ground.guard }], guard := some (11, false) }) rfl (fun K hK => ?_) AllReadyH.nil
              go_simp
              refine (isK ⟨gn, gt, 1⟩ (some ⟨gf, 0, none⟩) 2 2 [1, 28] wz2 HL2.out (by omega)).mono ?_; rintro e wz3 ⟨rfl, hb⟩
              rw [show decide ((⟨gn, gt, 1⟩ : Ky).t ∈ [(1 : Int), 28]) = true from HVT.out]
              go_wp2_with fail
              refine hK.out _ _ (⟨Lib.hid (hHeld.1.out.trans (hb.mono hHeld.1.out.size)), cell_later4 hb hHeld.2.1, cell_later4 hb hHeld.2.2.1, cell_later4 hb hHeld.2.2.2.1, cell_later4 hb hHeld.2.2.2.2.1, cell_later4 hb hHeld.2.2.2.2.2.1, cell_later4 hb hHeld.2.2.2.2.2.2.1, cell_later4 hb hHeld.2.2.2.2.2.2.2.1, cell_later4 hb hHeld.2.2.2.2.2.2.2.2.1, cell_later4 hb hHeld.2.2.2.2.2.2.2.2.2.1, cell_later4 hb hHeld.2.2.2.2.2.2.2.2.2.2.1, cell_later4 hb hHeld.2.2.2.2.2.2.2.2.2.2.2.1, cell_later4 hb hHeld.2.2.2.2.2.2.2.2.2.2.2.2.1, cell_later4 hb hHeld.2.2.2.2.2.2.2.2.2.2.2.2.2.1, cell_later4 hb hHeld.2.2.2.2.2.2.2.2.2.2.2.2.2.2.1, cell_later4 hb hHeld.2.2.2.2.2.2.2.2.2.2.2.2.2.2.2.1, cell_later4 hb hHeld.2.2.2.2.2.2.2.2.2.2.2.2.2.2.2.2.1, cell_later4 hb hHeld.2.2.2.2.2.2.2.2.2.2.2.2.2.2.2.2.2.1, cell_later4 hb hHeld.2.2.2.2.2.2.2.2.2.2.2.2.2.2.2.2.2.2⟩) (fun hHeld2 => ?_)
              clear hK K hHeld
              have hHeld := hHeld2
              clear hHeld2
              try simp only [Act.put, List.setIfInBounds_toArray, List.set_cons_zero, List.set_cons_succ]
              refine wpAnyH_take (i := 19) (oi := { dst := some 138, op := Go.Op.unOp Go.UnOp.not 4 (Go.Operand.tmp 137), type := 4, pos := "extra.go:43", after := #[{ on := 18, ground := Go.Ground.data }, { on := 11, ground := Go.Ground.guard }], guard := some (11, false) }) (v := ?v19_204) rfl (by kernel_rfl) (by kernel_rfl) (by kernel_rfl) (fun _ _ _ h => h) (Or.inl ⟨by rfl, ?y19_204⟩) hHeld ?r19_204
              case y19_204 => intro w hSw; (try dsimp only at hSw); go_simp; try with_reducible rfl
              try simp only [Act.put, List.setIfInBounds_toArray, List.set_cons_zero, List.set_cons_succ]
              refine wpAnyH_take (i := 20) (oi := { dst := some 139, op := Go.Op.pick (Go.Operand.tmp 130) (Go.Operand.const (Go.Value.bool true)) (Go.Operand.tmp 138), type := 4, pos := "extra.go:43", after := #[{ on := 11, ground := Go.Ground.data }, { on := 19, ground := Go.Ground.data }], guard := none }) (v := ?v20_204) rfl (by kernel_rfl) (by kernel_rfl) (by kernel_rfl) (fun _ _ _ h => h) (Or.inl ⟨by rfl, ?y20_204⟩) hHeld ?r20_204
              case y20_204 => intro w hSw; (try dsimp only at hSw); go_simp; try with_reducible rfl
              try simp only [Act.put, List.setIfInBounds_toArray, List.set_cons_zero, List.set_cons_succ]
              refine wpAnyH_take (i := 21) (oi := { dst := some 140, op := Go.Op.move (Go.Operand.tmp 139), type := 4, pos := "extra.go:43", after := #[{ on := 20, ground := Go.Ground.data }, { on := 18, ground := Go.Ground.chain }], guard := none }) (v := ?v21_204) rfl (by kernel_rfl) (by kernel_rfl) (by kernel_rfl) (fun _ _ _ h => h) (Or.inl ⟨by rfl, ?y21_204⟩) hHeld ?r21_204
              case y21_204 => intro w hSw; (try dsimp only at hSw); go_simp; try with_reducible rfl
              try simp only [Act.put, List.setIfInBounds_toArray, List.set_cons_zero, List.set_cons_succ]
              refine wpAnyH_take (i := 22) (oi := { dst := some 141, op := Go.Op.load 38 (Go.Operand.tmp 9), type := 38, pos := "extra.go:43", after := #[{ on := 21, ground := Go.Ground.guard }], guard := some (21, false) }) (v := ?v22_204) rfl (by kernel_rfl) (by kernel_rfl) (by kernel_rfl) (fun _ _ _ h => h) (Or.inl ⟨by rfl, ?y22_204⟩) hHeld ?r22_204
              case y22_204 => intro w hSw; (try dsimp only at hSw); go_simp; try with_reducible rfl
              try simp only [Act.put, List.setIfInBounds_toArray, List.set_cons_zero, List.set_cons_succ]
              refine wpAnyH_take (i := 23) (oi := { dst := some 142, op := Go.Op.move (Go.Operand.tmp 11), type := 61, pos := "extra.go:43", after := #[{ on := 21, ground := Go.Ground.guard }], guard := some (21, false) }) (v := ?v23_204) rfl (by kernel_rfl) (by kernel_rfl) (by kernel_rfl) (fun _ _ _ h => h) (Or.inl ⟨by rfl, ?y23_204⟩) hHeld ?r23_204
              case y23_204 => intro w hSw; (try dsimp only at hSw); go_simp; try with_reducible rfl
              try simp only [Act.put, List.setIfInBounds_toArray, List.set_cons_zero, List.set_cons_succ]
              refine wpAnyH_take (i := 24) (oi := { dst := some 143, op := Go.Op.move (Go.Operand.tmp 18), type := 3, pos := "extra.go:43", after := #[{ on := 21, ground := Go.Ground.guard }], guard := some (21, false) }) (v := ?v24_204) rfl (by kernel_rfl) (by kernel_rfl) (by kernel_rfl) (fun _ _ _ h => h) (Or.inl ⟨by rfl, ?y24_204⟩) hHeld ?r24_204
              case y24_204 => intro w hSw; (try dsimp only at hSw); go_simp; try with_reducible rfl
              try simp only [Act.put, List.setIfInBounds_toArray, List.set_cons_zero, List.set_cons_succ]
              refine wpAnyH_take (i := 25) (oi := { dst := some 144, op := Go.Op.indexAddr 61 (Go.Operand.tmp 142) (Go.Operand.tmp 143), type := 0, pos := "extra.go:43", after := #[{ on := 23, ground := Go.Ground.data }, { on := 24, ground := Go.Ground.data }, { on := 21, ground := Go.Ground.guard }], guard := some (21, false) }) (v := ?v25_204) rfl (by kernel_rfl) (by kernel_rfl) (by kernel_rfl) (fun _ _ _ h => h) (Or.inl ⟨by rfl, ?y25_204⟩) hHeld ?r25_204
              case y25_204 => intro w hSw; (try dsimp only at hSw); go_simp; try with_reducible rfl
              try simp only [Act.put, List.setIfInBounds_toArray, List.set_cons_zero, List.set_cons_succ]
              refine wpAnyH_take (i := 26) (oi := { dst := some 145, op := Go.Op.fieldAddr 38 (Go.Operand.tmp 144) 0, type := 0, pos := "extra.go:43", after := #[{ on := 25, ground := Go.Ground.data }, { on := 21, ground := Go.Ground.guard }], guard := some (21, false) }) (v := ?v26_204) rfl (by kernel_rfl) (by kernel_rfl) (by kernel_rfl) (fun _ _ _ h => h) (Or.inl ⟨by rfl, ?y26_204⟩) hHeld ?r26_204
              case y26_204 => intro w hSw; (try dsimp only at hSw); go_simp; try with_reducible rfl
              try simp only [Act.put, List.setIfInBounds_toArray, List.set_cons_zero, List.set_cons_succ]
              refine wpAnyH_take (i := 27) (oi := { dst := some 146, op := Go.Op.fieldAddr 24 (Go.Operand.tmp 145) 0, type := 0, pos := "extra.go:43", after := #[{ on := 26, ground := Go.Ground.data }, { on := 21, ground := Go.Ground.guard }], guard := some (21, false) }) (v := ?v27_204) rfl (by kernel_rfl) (by kernel_rfl) (by kernel_rfl) (fun _ _ _ h => h) (Or.inl ⟨by rfl, ?y27_204⟩) hHeld ?r27_204
              case y27_204 => intro w hSw; (try dsimp only at hSw); go_simp; try with_reducible rfl
              try simp only [Act.put, List.setIfInBounds_toArray, List.set_cons_zero, List.set_cons_succ]
              refine wpAnyH_take (i := 28) (oi := { dst := some 147, op := Go.Op.load 9 (Go.Operand.tmp 146), type := 9, pos := "extra.go:43", after := #[{ on := 27, ground := Go.Ground.data }, { on := 21, ground := Go.Ground.guard }], guard := some (21, false) }) (v := ?v28_204) rfl (by kernel_rfl) (by kernel_rfl) (by kernel_rfl) (fun _ _ _ h => h) (Or.inl ⟨by rfl, ?y28_204⟩) hHeld ?r28_204
              case y28_204 => intro w hSw; (try dsimp only at hSw); go_simp; try with_reducible rfl
              try simp only [Act.put, List.setIfInBounds_toArray, List.set_cons_zero, List.set_cons_succ]
              refine wpAnyH_ready (rs := [29]) (by kernel_rfl) (by simp) ?_
              refine AllReadyH.cons (o := { dst := some 148, op := Go.Op.call { callee := Go.Callee.value (Go.Operand.func 38), args := #[Go.Operand.tmp 141, Go.Operand.tmp 147], argTypes := #[38, 9] }, type := 4, pos := "extra.go:43", after := #[{ on := 22, ground := Go.Ground.data }, { on := 28, ground := Go.Ground.data }, { on := 21, ground := Go.Ground.chain }, { on := 21, ground := Go.Ground.guard }], guard := some (21, false) }) rfl (fun K hK => ?_) AllReadyH.nil
              go_simp
              refine (HHAS.out _ hHeld.1.out).mono ?_; rintro e wz4 ⟨rfl, hb⟩
              go_wp2_with fail
              refine hK.out _ _ (⟨Lib.hid (hHeld.1.out.trans (hb.mono hHeld.1.out.size)), cell_later4 hb hHeld.2.1, cell_later4 hb hHeld.2.2.1, cell_later4 hb hHeld.2.2.2.1, cell_later4 hb hHeld.2.2.2.2.1, cell_later4 hb hHeld.2.2.2.2.2.1, cell_later4 hb hHeld.2.2.2.2.2.2.1, cell_later4 hb hHeld.2.2.2.2.2.2.2.1, cell_later4 hb hHeld.2.2.2.2.2.2.2.2.1, cell_later4 hb hHeld.2.2.2.2.2.2.2.2.2.1, cell_later4 hb hHeld.2.2.2.2.2.2.2.2.2.2.1, cell_later4 hb hHeld.2.2.2.2.2.2.2.2.2.2.2.1, cell_later4 hb hHeld.2.2.2.2.2.2.2.2.2.2.2.2.1, cell_later4 hb hHeld.2.2.2.2.2.2.2.2.2.2.2.2.2.1, cell_later4 hb hHeld.2.2.2.2.2.2.2.2.2.2.2.2.2.2.1, cell_later4 hb hHeld.2.2.2.2.2.2.2.2.2.2.2.2.2.2.2.1, cell_later4 hb hHeld.2.2.2.2.2.2.2.2.2.2.2.2.2.2.2.2.1, cell_later4 hb hHeld.2.2.2.2.2.2.2.2.2.2.2.2.2.2.2.2.2.1, cell_later4 hb hHeld.2.2.2.2.2.2.2.2.2.2.2.2.2.2.2.2.2.2⟩) (fun hHeld2 => ?_)
              clear hK K hHeld
              have hHeld := hHeld2
              clear hHeld2
              try simp only [Act.put, List.setIfInBounds_toArray, List.set_cons_zero, List.set_cons_succ]
              refine wpAnyH_take (i := 30) (oi := { dst := some 149, op := Go.Op.unOp Go.UnOp.not 4 (Go.Operand.tmp 148), type := 4, pos := "extra.go:43", after := #[{ on := 29, ground := Go.Ground.data }, { on := 21, ground := Go.Ground.guard }], guard := some (21, false) }) (v := ?v30_205) rfl (by kernel_rfl) (by kernel_rfl) (by kernel_rfl) (fun _ _ _ h => h) (Or.inl ⟨by rfl, ?y30_205⟩) hHeld ?r30_205
              case y30_205 => intro w hSw; (try dsimp only at hSw); go_simp; try with_reducible rfl
              try simp only [Act.put, List.setIfInBounds_toArray, List.set_cons_zero, List.set_cons_succ]
              refine wpAnyH_take (i := 31) (oi := { dst := some 150, op := Go.Op.pick (Go.Operand.tmp 140) (Go.Operand.const (Go.Value.bool true)) (Go.Operand.tmp 149), type := 4, pos := "extra.go:43", after := #[{ on := 21, ground := Go.Ground.data }, { on := 30, ground := Go.Ground.data }], guard := none }) (v := ?v31_205) rfl (by kernel_rfl) (by kernel_rfl) (by kernel_rfl) (fun _ _ _ h => h) (Or.inl ⟨by rfl, ?y31_205⟩) hHeld ?r31_205
              case y31_205 => intro w hSw; (try dsimp only at hSw); go_simp; try with_reducible rfl
              try simp only [Act.put, List.setIfInBounds_toArray, List.set_cons_zero, List.set_cons_succ]
              refine wpAnyH_take (i := 32) (oi := { dst := some 151, op := Go.Op.move (Go.Operand.tmp 150), type := 4, pos := "extra.go:43", after := #[{ on := 31, ground := Go.Ground.data }, { on := 29, ground := Go.Ground.chain }], guard := none }) (v := ?v32_205) rfl (by kernel_rfl) (by kernel_rfl) (by kernel_rfl) (fun _ _ _ h => h) (Or.inl ⟨by rfl, ?y32_205⟩) hHeld ?r32_205
              case y32_205 => intro w hSw; (try dsimp only at hSw); go_simp; try with_reducible rfl
              try simp only [Act.put, List.setIfInBounds_toArray, List.set_cons_zero, List.set_cons_succ]
              refine wpAnyH_take (i := 33) (oi := { dst := some 152, op := Go.Op.move (Go.Operand.tmp 18), type := 3, pos := "extra.go:43", after := #[{ on := 32, ground := Go.Ground.guard }], guard := some (32, false) }) (v := ?v33_205) rfl (by kernel_rfl) (by kernel_rfl) (by kernel_rfl) (fun _ _ _ h => h) (Or.inl ⟨by rfl, ?y33_205⟩) hHeld ?r33_205
              case y33_205 => intro w hSw; (try dsimp only at hSw); go_simp; try with_reducible rfl
              try simp only [Act.put, List.setIfInBounds_toArray, List.set_cons_zero, List.set_cons_succ]
              refine wpAnyH_take (i := 34) (oi := { dst := some 153, op := Go.Op.binOp Go.BinOp.gtr 3 (Go.Operand.tmp 152) (Go.Operand.const (Go.Value.int Go.IntKind.i64 0)) 3, type := 4, pos := "extra.go:43", after := #[{ on := 33, ground := Go.Ground.data }, { on := 32, ground := Go.Ground.guard }], guard := some (32, false) }) (v := ?v34_205) rfl (by kernel_rfl) (by kernel_rfl) (by kernel_rfl) (fun _ _ _ h => h) (Or.inl ⟨by rfl, ?y34_205⟩) hHeld ?r34_205
              case y34_205 => intro w hSw; (try dsimp only at hSw); go_simp; try with_reducible rfl
              try simp only [Act.put, List.setIfInBounds_toArray, List.set_cons_zero, List.set_cons_succ]
              refine wpAnyH_take (i := 35) (oi := { dst := some 154, op := Go.Op.move (Go.Operand.tmp 153), type := 4, pos := "extra.go:43", after := #[{ on := 34, ground := Go.Ground.data }, { on := 32, ground := Go.Ground.chain }, { on := 32, ground := Go.Ground.guard }], guard := some (32, false) }) (v := ?v35_205) rfl (by kernel_rfl) (by kernel_rfl) (by kernel_rfl) (fun _ _ _ h => h) (Or.inl ⟨by rfl, ?y35_205⟩) hHeld ?r35_205
              case y35_205 => intro w hSw; (try dsimp only at hSw); go_simp; try with_reducible rfl
              try simp only [Act.put, List.setIfInBounds_toArray, List.set_cons_zero, List.set_cons_succ]
              refine wpAnyH_take (i := 36) (oi := { dst := some 155, op := Go.Op.move (Go.Operand.tmp 11), type := 61, pos := "extra.go:43", after := #[{ on := 35, ground := Go.Ground.guard }], guard := some (35, true) }) (v := ?v36_205) rfl (by kernel_rfl) (by kernel_rfl) (by kernel_rfl) (fun _ _ _ h => h) (Or.inl ⟨by rfl, ?y36_205⟩) hHeld ?r36_205
              case y36_205 => intro w hSw; (try dsimp only at hSw); go_simp; try with_reducible rfl
              try simp only [Act.put, List.setIfInBounds_toArray, List.set_cons_zero, List.set_cons_succ]
              refine wpAnyH_take (i := 37) (oi := { dst := some 156, op := Go.Op.move (Go.Operand.tmp 18), type := 3, pos := "extra.go:43", after := #[{ on := 35, ground := Go.Ground.guard }], guard := some (35, true) }) (v := ?v37_205) rfl (by kernel_rfl) (by kernel_rfl) (by kernel_rfl) (fun _ _ _ h => h) (Or.inl ⟨by rfl, ?y37_205⟩) hHeld ?r37_205
              case y37_205 => intro w hSw; (try dsimp only at hSw); go_simp; try with_reducible rfl
              try simp only [Act.put, List.setIfInBounds_toArray, List.set_cons_zero, List.set_cons_succ]
              refine wpAnyH_take (i := 38) (oi := { dst := some 157, op := Go.Op.binOp Go.BinOp.sub 3 (Go.Operand.tmp 156) (Go.Operand.const (Go.Value.int Go.IntKind.i64 1)) 3, type := 3, pos := "extra.go:43", after := #[{ on := 37, ground := Go.Ground.data }, { on := 35, ground := Go.Ground.guard }], guard := some (35, true) }) (v := ?v38_205) rfl (by kernel_rfl) (by kernel_rfl) (by kernel_rfl) (fun _ _ _ h => h) (Or.inl ⟨by rfl, ?y38_205⟩) hHeld ?r38_205
              case y38_205 => intro w hSw; (try dsimp only at hSw); go_simp; try with_reducible rfl
              try simp only [Act.put, List.setIfInBounds_toArray, List.set_cons_zero, List.set_cons_succ]
              refine wpAnyH_take (i := 39) (oi := { dst := some 158, op := Go.Op.indexAddr 61 (Go.Operand.tmp 155) (Go.Operand.tmp 157), type := 0, pos := "extra.go:43", after := #[{ on := 36, ground := Go.Ground.data }, { on := 38, ground := Go.Ground.data }, { on := 35, ground := Go.Ground.guard }], guard := some (35, true) }) (v := ?v39_205) rfl (by kernel_rfl) (by kernel_rfl) (by kernel_rfl) (fun _ _ _ h => h) (Or.inl ⟨by rfl, ?y39_205⟩) hHeld ?r39_205
              case y39_205 => intro w hSw; (try dsimp only at hSw); go_simp; try with_reducible rfl
              try simp only [Act.put, List.setIfInBounds_toArray, List.set_cons_zero, List.set_cons_succ]
              refine wpAnyH_take (i := 40) (oi := { dst := some 159, op := Go.Op.fieldAddr 38 (Go.Operand.tmp 158) 0, type := 0, pos := "extra.go:43", after := #[{ on := 39, ground := Go.Ground.data }, { on := 35, ground := Go.Ground.guard }], guard := some (35, true) }) (v := ?v40_205) rfl (by kernel_rfl) (by kernel_rfl) (by kernel_rfl) (fun _ _ _ h => h) (Or.inl ⟨by rfl, ?y40_205⟩) hHeld ?r40_205
              case y40_205 => intro w hSw; (try dsimp only at hSw); go_simp; try with_reducible rfl
              try simp only [Act.put, List.setIfInBounds_toArray, List.set_cons_zero, List.set_cons_succ]
              refine wpAnyH_take (i := 41) (oi := { dst := some 160, op := Go.Op.load 24 (Go.Operand.tmp 159), type := 24, pos := "extra.go:43", after := #[{ on := 40, ground := Go.Ground.data }, { on := 35, ground := Go.Ground.guard }], guard := some (35, true) }) (v := ?v41_205) rfl (by kernel_rfl) (by kernel_rfl) (by kernel_rfl) (fun _ _ _ h => h) (Or.inl ⟨by rfl, ?y41_205⟩) hHeld ?r41_205
              case y41_205 => intro w hSw; (try dsimp only at hSw); go_simp; try with_reducible rfl
              try simp only [Act.put, List.setIfInBounds_toArray, List.set_cons_zero, List.set_cons_succ]
              refine wpAnyH_take (i := 42) (oi := { dst := some 161, op := Go.Op.move (Go.Operand.tmp 11), type := 61, pos := "extra.go:43", after := #[{ on := 35, ground := Go.Ground.guard }], guard := some (35, true) }) (v := ?v42_205) rfl (by kernel_rfl) (by kernel_rfl) (by kernel_rfl) (fun _ _ _ h => h) (Or.inl ⟨by rfl, ?y42_205⟩) hHeld ?r42_205
              case y42_205 => intro w hSw; (try dsimp only at hSw); go_simp; try with_reducible rfl
              try simp only [Act.put, List.setIfInBounds_toArray, List.set_cons_zero, List.set_cons_succ]
              refine wpAnyH_take (i := 43) (oi := { dst := some 162, op := Go.Op.move (Go.Operand.tmp 18), type := 3, pos := "extra.go:43", after := #[{ on := 35, ground := Go.Ground.guard }], guard := some (35, true) }) (v := ?v43_205) rfl (by kernel_rfl) (by kernel_rfl) (by kernel_rfl) (fun _ _ _ h => h) (Or.inl ⟨by rfl, ?y43_205⟩) hHeld ?r43_205
              case y43_205 => intro w hSw; (try dsimp only at hSw); go_simp; try with_reducible rfl
              try simp only [Act.put, List.setIfInBounds_toArray, List.set_cons_zero, List.set_cons_succ]
              refine wpAnyH_take (i := 44) (oi := { dst := some 163, op := Go.Op.indexAddr 61 (Go.Operand.tmp 161) (Go.Operand.tmp 162), type := 0, pos := "extra.go:43", after := #[{ on := 42, ground := Go.Ground.data }, { on := 43, ground := Go.Ground.data }, { on := 35, ground := Go.Ground.guard }], guard := some (35, true) }) (v := ?v44_205) rfl (by kernel_rfl) (by kernel_rfl) (by kernel_rfl) (fun _ _ _ h => h) (Or.inl ⟨by rfl, ?y44_205⟩) hHeld ?r44_205
              case y44_205 => intro w hSw; (try dsimp only at hSw); go_simp; try with_reducible rfl
              try simp only [Act.put, List.setIfInBounds_toArray, List.set_cons_zero, List.set_cons_succ]
              refine wpAnyH_take (i := 45) (oi := { dst := some 164, op := Go.Op.fieldAddr 38 (Go.Operand.tmp 163) 0, type := 0, pos := "extra.go:43", after := #[{ on := 44, ground := Go.Ground.data }, { on := 35, ground := Go.Ground.guard }], guard := some (35, true) }) (v := ?v45_205) rfl (by kernel_rfl) (by kernel_rfl) (by kernel_rfl) (fun _ _ _ h => h) (Or.inl ⟨by rfl, ?y45_205⟩) hHeld ?r45_205
              case y45_205 => intro w hSw; (try dsimp only at hSw); go_simp; try with_reducible rfl
              try simp only [Act.put, List.setIfInBounds_toArray, List.set_cons_zero, List.set_cons_succ]
              refine wpAnyH_take (i := 46) (oi := { dst := some 165, op := Go.Op.load 24 (Go.Operand.tmp 164), type := 24, pos := "extra.go:43", after := #[{ on := 45, ground := Go.Ground.data }, { on := 35, ground := Go.Ground.guard }], guard := some (35, true) }) (v := ?v46_205) rfl (by kernel_rfl) (by kernel_rfl) (by kernel_rfl) (fun _ _ _ h => h) (Or.inl ⟨by rfl, ?y46_205⟩) hHeld ?r46_205
              case y46_205 => intro w hSw; (try dsimp only at hSw); go_simp; try with_reducible rfl
              try simp only [Act.put, List.setIfInBounds_toArray, List.set_cons_zero, List.set_cons_succ]
              refine wpAnyH_ready (rs := [47]) (by kernel_rfl) (by simp) ?_
              refine AllReadyH.cons (o := { dst := some 166, op := Go.Op.call { callee := Go.Callee.value (Go.Operand.func 39), args := #[Go.Operand.tmp 160, Go.Operand.tmp 165], argTypes := #[24, 24] }, type := 3, pos := "extra.go:43", after := #[{ on := 41, ground := Go.Ground.data }, { on := 46, ground := Go.Ground.data }, { on := 35, ground := Go.Ground.chain }, { on := 35, ground := Go.Ground.guard }], guard := some (35, true) }) rfl (fun K hK => ?_) AllReadyH.nil
              go_simp
              refine (HKC.out _).mono ?_; rintro e wz5 ⟨rfl, hbd⟩
              have hb := hbd.b
              clear hbd
              go_wp2_with fail
              refine hK.out _ _ (⟨Lib.hid (hHeld.1.out.trans (hb.mono hHeld.1.out.size)), cell_later4 hb hHeld.2.1, cell_later4 hb hHeld.2.2.1, cell_later4 hb hHeld.2.2.2.1, cell_later4 hb hHeld.2.2.2.2.1, cell_later4 hb hHeld.2.2.2.2.2.1, cell_later4 hb hHeld.2.2.2.2.2.2.1, cell_later4 hb hHeld.2.2.2.2.2.2.2.1, cell_later4 hb hHeld.2.2.2.2.2.2.2.2.1, cell_later4 hb hHeld.2.2.2.2.2.2.2.2.2.1, cell_later4 hb hHeld.2.2.2.2.2.2.2.2.2.2.1, cell_later4 hb hHeld.2.2.2.2.2.2.2.2.2.2.2.1, cell_later4 hb hHeld.2.2.2.2.2.2.2.2.2.2.2.2.1, cell_later4 hb hHeld.2.2.2.2.2.2.2.2.2.2.2.2.2.1, cell_later4 hb hHeld.2.2.2.2.2.2.2.2.2.2.2.2.2.2.1, cell_later4 hb hHeld.2.2.2.2.2.2.2.2.2.2.2.2.2.2.2.1, cell_later4 hb hHeld.2.2.2.2.2.2.2.2.2.2.2.2.2.2.2.2.1, cell_later4 hb hHeld.2.2.2.2.2.2.2.2.2.2.2.2.2.2.2.2.2.1, cell_later4 hb hHeld.2.2.2.2.2.2.2.2.2.2.2.2.2.2.2.2.2.2⟩) (fun hHeld2 => ?_)
              clear hK K hHeld
              have hHeld := hHeld2
              clear hHeld2
              try simp only [Act.put, List.setIfInBounds_toArray, List.set_cons_zero, List.set_cons_succ]
              refine wpAnyH_take (i := 48) (oi := { dst := some 167, op := Go.Op.binOp Go.BinOp.geq 3 (Go.Operand.tmp 166) (Go.Operand.const (Go.Value.int Go.IntKind.i64 0)) 3, type := 4, pos := "extra.go:43", after := #[{ on := 47, ground := Go.Ground.data }, { on := 35, ground := Go.Ground.guard }], guard := some (35, true) }) (v := ?v48_206) rfl (by kernel_rfl) (by kernel_rfl) (by kernel_rfl) (fun _ _ _ h => h) (Or.inl ⟨by rfl, ?y48_206⟩) hHeld ?r48_206
              case y48_206 => intro w hSw; (try dsimp only at hSw); go_simp; try with_reducible rfl
              try simp only [Act.put, List.setIfInBounds_toArray, List.set_cons_zero, List.set_cons_succ]
              refine wpAnyH_take (i := 49) (oi := { dst := some 168, op := Go.Op.pick (Go.Operand.tmp 154) (Go.Operand.tmp 167) (Go.Operand.const (Go.Value.bool false)), type := 4, pos := "extra.go:43", after := #[{ on := 35, ground := Go.Ground.data }, { on := 48, ground := Go.Ground.data }, { on := 32, ground := Go.Ground.guard }], guard := some (32, false) }) (v := ?v49_206) rfl (by kernel_rfl) (by kernel_rfl) (by kernel_rfl) (fun _ _ _ h => h) (Or.inl ⟨by rfl, ?y49_206⟩) hHeld ?r49_206
              case y49_206 => intro w hSw; (try dsimp only at hSw); go_simp; try with_reducible rfl
              try simp only [Act.put, List.setIfInBounds_toArray, List.set_cons_zero, List.set_cons_succ]
              refine wpAnyH_take (i := 50) (oi := { dst := some 169, op := Go.Op.pick (Go.Operand.tmp 151) (Go.Operand.const (Go.Value.bool true)) (Go.Operand.tmp 168), type := 4, pos := "extra.go:43", after := #[{ on := 32, ground := Go.Ground.data }, { on := 49, ground := Go.Ground.data }], guard := none }) (v := ?v50_206) rfl (by kernel_rfl) (by kernel_rfl) (by kernel_rfl) (fun _ _ _ h => h) (Or.inl ⟨by rfl, ?y50_206⟩) hHeld ?r50_206
              case y50_206 => intro w hSw; (try dsimp only at hSw); go_simp; try with_reducible rfl
              try simp only [Act.put, List.setIfInBounds_toArray, List.set_cons_zero, List.set_cons_succ]
              refine wpAnyH_done (by kernel_rfl) ?_ _
              have hbe := hHeld.1.out
              clear hHeld
              have HBN := Lib.hid (hbw.out.trans ((HXB.out.trans (hbe.mono HXB.out.size)).mono hbw.out.size))
              clear hbe h5 d5
              go_wp2
              go_roundw
              case rel => exact ⟨j + 1, by have := HLT.out; omega, by have := HLT.out; go_num, HBN⟩
              case measure => have := HLT.out; simp [intOf]; omega
          · obtain rfl : j = m := by omega
            have HB12 := Lib.hid (HB9.out.trans (hbw.out.mono HB9.out.size))
            clear hbw hlt hj
            go_wp2_with fail
            refine (first11 _).mono ?_; rintro e w9 ⟨rfl, hb⟩
            have HB9 := Lib.hid (HB12.out.trans (hb.mono HB12.out.size))
            clear hb
            go_wp2
            go_ret
            exact ⟨rfl, HB9.out⟩
end Go.Proofs.YtgdhbelcellabaaGreat
