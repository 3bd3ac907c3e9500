/- The law on keys and sets: the walk, a set of some data. -/
import Derived.Test.YtgdbbdbfaglkdaaSkG
namespace Go.Proofs.Ytgdbbdbfaglkdaa
open Go.RowKit

set_option maxRecDepth 100000 in
set_option maxHeartbeats 12000000 in
theorem keys_walk1 (an : ByteArray) (at1 ac au : Int) (ad : List ByteArray) (pa : Option Addr) (al aca : Nat) (bn : ByteArray) (bt bc bu : Int) (bd : List ByteArray) (pb : Option Addr) (bl bca : Nat) (ta : Option Addr) (tn tc : Nat) (tl : List Int) (d : ByteArray) (w : World)
    (ha : RowS w pa al ad) (hna : pa = none → al = 0 ∧ aca = 0) (hb : RowS w pb bl bd) (hnb : pb = none → bl = 0 ∧ bca = 0) (ht : Row w ta tn tl) (hza : SzS ⟨⟨an, at1, ac⟩, au, ad⟩) (hzb : SzS ⟨⟨bn, bt, bc⟩, bu, bd⟩) (htn : tn ≤ 9223372036854775807) (hd : d.size ≤ 9223372036854775807) (h0a : ¬ al = 0) :
    Calls Try.prog 9 #[.agg #[.string an, .int .i64 at1, .int .i64 ac, .int .i64 au, .slice pa al aca], .agg #[.string bn, .int .i64 bt, .int .i64 bc, .int .i64 bu, .slice pb bl bca], .slice ta tn tc, .string d] w fun e w' => e = .returned (.bool true) ∧ Below w.heap.size w w' := by
  have H0A := Lib.hid h0a
  clear h0a
  have HA := Lib.hid ha
  have HBr := Lib.hid hb
  have HT := Lib.hid ht
  have HNA := Lib.hid hna
  have HNB := Lib.hid hnb
  have HZA := Lib.hid hza
  have HZB := Lib.hid hzb
  have HS0 := Lib.hid (sk_start w an at1 ac au (.slice pa al aca) bn bt bc bu (.slice pb bl bca) 73)
  clear ha hb ht hna hnb hza hzb
  go_enter Try.func9, Try.ntmps9
  go_wp2_with fail
  refine (first4 _).mono ?_; rintro e w1 ⟨rfl, hb⟩
  have HS1 := Lib.hid (HS0.out.next hb)
  clear hb HS0
  obtain ⟨q, hq⟩ : ∃ q, w.heap.size = q := ⟨_, rfl⟩
  obtain ⟨r, hr⟩ : ∃ r, w.heap.size + 1 = r := ⟨_, rfl⟩
  rw [hr] at HS1 ⊢
  rw [show (Value.pointer (some { block := w.heap.size, off := 0 })) = Value.pointer (some { block := q, off := 0 }) by rw [hq]]
  have HS1 : Hid (SK w q r an at1 ac au (.slice pa al aca) bn bt bc bu (.slice pb bl bca) w1) := by rw [← hq]; exact HS1
  have hqr : q ≠ r := by omega
  have HQ := Lib.hid hq
  have HR := Lib.hid hr
  clear hq hr
  obtain ⟨p0, p1, p2, p3, p4, r0, r1, r2, r3, r4⟩ := HS1.out.cells
  have HF := Lib.hid (two_sets (bn := bn) (bt := bt) (bc := bc) (bu := bu) (an := an) (at1 := at1) (ac := ac) (au := au) (aca := aca) (bca := bca) 73 (HA.out.below HS1.out.1) (HBr.out.below HS1.out.1) HNA.out HNB.out)
  go_wp2_with fail
  have HS2 := Lib.hid (HS1.out.next ((Below.refl _ w1).alloc (Nat.le_refl _) (.cells #[.string an, .int .i64 at1, .int .i64 ac, .int .i64 au, .slice pa al aca, .string bn, .int .i64 bt, .int .i64 bc, .int .i64 bu, .slice pb bl bca] 73)))
  refine (fewSets_any _ 2 2 _ _ HF.out (by omega) (fun k hk => by
    rcases k with _ | _ | k
    · exact HZA.out
    · exact HZB.out
    · omega)).mono ?_
  clear HF HS1 p0 p1 p2 p3 p4 r0 r1 r2 r3 r4
  obtain ⟨w2, hw2⟩ : ∃ x, (w1.alloc (.cells #[.string an, .int .i64 at1, .int .i64 ac, .int .i64 au, .slice pa al aca, .string bn, .int .i64 bt, .int .i64 bc, .int .i64 bu, .slice pb bl bca] 73)) = x := ⟨_, rfl⟩
  rw [hw2] at HS2 ⊢
  obtain ⟨z1, hz1⟩ : ∃ x, Value.slice (some { block := w1.heap.size, off := 0 }) 2 2 = x := ⟨_, rfl⟩
  rw [hz1]
  clear hw2 hz1
  obtain ⟨p0, p1, p2, p3, p4, r0, r1, r2, r3, r4⟩ := HS2.out.cells
  rintro e w' ⟨rfl | ⟨rfl, -, hsm⟩, rfl⟩
  · go_wp2_with fail
    refine (first4 _).mono ?_; rintro e w3 ⟨rfl, hb⟩
    have HB := Lib.hid (HS2.out.next hb).1
    clear hb
    go_wp2
    go_ret
    exact ⟨rfl, HB.out⟩
  have HMA := Lib.hid (show SmS ⟨⟨an, at1, ac⟩, au, ad⟩ from hsm 0 (by omega))
  have HMB := Lib.hid (show SmS ⟨⟨bn, bt, bc⟩, bu, bd⟩ from hsm 1 (by omega))
  clear hsm HZA HZB
  by_cases ht1 : 100 < tn
  · have d1 := dT (p := (100 : Int) < (tn : Int)) (by omega)
    go_wp2_with fail
    refine (first4 _).mono ?_; rintro e w3 ⟨rfl, hb⟩
    have HB := Lib.hid (HS2.out.next hb).1
    clear hb
    go_wp2
    go_ret
    exact ⟨rfl, HB.out⟩
  have d1 := dF (p := (100 : Int) < (tn : Int)) (by omega)
  by_cases hd1 : 2000 < d.size
  · have d2 := dT (p := (2000 : Int) < (d.size : Int)) (by omega)
    go_wp2_with fail
    refine (first4 _).mono ?_; rintro e w3 ⟨rfl, hb⟩
    have HB := Lib.hid (HS2.out.next hb).1
    clear hb
    go_wp2
    go_ret
    exact ⟨rfl, HB.out⟩
  have d2 := dF (p := (2000 : Int) < (d.size : Int)) (by omega)
  have HT2 := Lib.hid (HT.out.below HS2.out.1)
  have HTL := Lib.hid HT2.out.1
  go_wp2_with fail
  go_loopw [9, 10] (fun v i wr => ∃ (k m : Nat) (ib : Bool), k ≤ tn ∧ i = .int .i64 k ∧ v = .bool ib ∧ Hid (ib = true ↔ at1 ∈ tl.take k) ∧ wr = w2.drewN m) (fun _ i _ => tn - (intOf i).toNat)
  case atStart => exact ⟨0, 0, false, Nat.zero_le _, rfl, rfl, ⟨fun h => absurd h (by decide), fun h => absurd h (by simp)⟩, rfl⟩
  case round =>
    obtain ⟨k, m, ib, hk, rfl, rfl, hib, rfl⟩ := hrel
    by_cases hlt : k < tn
    · rcases HT2.out.2 with h9 | ⟨b, o, rfl, hbl, hc⟩
      · omega
      have c0 := hc k hlt
      obtain ⟨x, hx⟩ : ∃ x, tl.getD k 0 = x := ⟨_, rfl⟩
      rw [hx] at c0
      have HN := Lib.hid (show at1 ∈ tl.take (k + 1) ↔ at1 ∈ tl.take k ∨ x = at1 by
        rw [mem_take (by have := HTL.out; omega), hx])
      clear hc hx
      cases ib with
      | true =>
        go_wp2_with fail
        go_quiet (fail)
        go_wp2
        rename_i nq
        go_roundw
        case rel => exact ⟨k + 1, m + nq, true, by omega, by go_num, rfl, ⟨fun _ => HN.out.2 (Or.inl (hib.out.1 (by first | rfl | trivial))), fun _ => rfl⟩, by first | rfl | exact drewN_add _ _ _⟩
        case measure => simp [intOf]; omega
      | false =>
        by_cases hxa : x = at1
        · have e1 : (x == at1) = true := eT hxa
          have HX := Lib.hid hxa
          clear hxa
          go_wp2_with fail
          go_quiet (fail)
          go_wp2
          rename_i nq
          go_roundw
          case rel => exact ⟨k + 1, m + nq, true, by omega, by go_num, rfl, ⟨fun _ => HN.out.2 (Or.inr HX.out), fun _ => rfl⟩, by first | rfl | exact drewN_add _ _ _⟩
          case measure => simp [intOf]; omega
        · have e1 : (x == at1) = false := eF hxa
          have HX := Lib.hid hxa
          clear hxa
          go_wp2_with fail
          go_quiet (fail)
          go_wp2
          rename_i nq
          go_roundw
          case rel => exact ⟨k + 1, m + nq, false, by omega, by go_num, rfl, ⟨fun h => absurd h (by decide), fun h => (HN.out.1 h).elim (fun h => hib.out.2 h) (fun h => absurd h HX.out)⟩, by first | rfl | exact drewN_add _ _ _⟩
          case measure => simp [intOf]; omega
    · have hkn : k = tn := by omega
      have HIS := Lib.hid (show ib = decide (at1 ∈ tl) by
        have h1 := hib.out
        rw [hkn, ← HTL.out, List.take_length] at h1
        by_cases h : at1 ∈ tl
        · rw [h1.2 h, dT h]
        · rw [dF h]
          cases ib with
          | false => rfl
          | true => exact absurd (h1.1 rfl) h)
      subst hkn
      clear hib
      go_wp2_with fail
      have HS3 := Lib.hid (HS2.out.next (below_drewN (Below.refl _ w2) m))
      obtain ⟨w3, hw3⟩ : ∃ x, w2.drewN m = x := ⟨_, rfl⟩
      rw [hw3] at HS3 ⊢
      clear hw3 HS2 HT2 p0 p1 p2 p3 p4 r0 r1 r2 r3 r4
      have HAL := Lib.hid (show al ≤ 200 by
        have h1 : ad.length ≤ 200 := HMA.out.2.1
        rw [HA.out.1] at h1; exact h1)
      have hal := HAL.out
      refine (copy_any an at1 ac au ad pa al aca w3 (HA.out.below HS3.out.1) HNA.out (by omega)).mono ?_; rintro e w4 ⟨dv, rfl, hown, hb⟩
      have HS4 := Lib.hid (HS3.out.next hb)
      have HO := Lib.hid (own_mono4 (base' := w.heap.size + 2) hown (by have h1 := HS3.out.2.2.1; have h2 := HR.out; omega))
      clear hb hown HS3
      obtain ⟨a', c', rfl, hrow, hn'⟩ := rowS_of_own HO.out
      have hcn := c5_new w4 (.string an) (.int .i64 at1) (.int .i64 ac) (.int .i64 au) (.slice a' al c') 73
      have h5 := (Below.refl w4.heap.size w4).alloc (Nat.le_refl _) (.cells #[.string an, .int .i64 at1, .int .i64 ac, .int .i64 au, .slice a' al c'] 73)
      have HRC := Lib.hid (hrow.below h5)
      have HO5 := Lib.hid (own_below' HO.out h5)
      have HS5 := Lib.hid (HS4.out.next h5)
      have HCC := Lib.hid hcn
      have HQ11 := Lib.hid (show w.heap.size + 2 ≤ w4.heap.size by have h1 := HS4.out.2.2.1; have h2 := HR.out; omega)
      have HGC := Lib.hid (fun k h => (HO.out.lt k h).2)
      clear hcn hrow h5
      obtain ⟨p0, p1, p2, p3, p4, r0, r1, r2, r3, r4⟩ := HS4.out.cells
      go_upto_region 11 with fail
      clear p0 p1 p2 p3 p4 r0 r1 r2 r3 r4 HS4 HO
      obtain ⟨w5, hw5⟩ : ∃ x, (w4.alloc (.cells #[.string an, .int .i64 at1, .int .i64 ac, .int .i64 au, .slice a' al c'] 73)) = x := ⟨_, rfl⟩
      rw [hw5] at HRC HO5 HS5 HCC ⊢
      obtain ⟨c, hc⟩ : ∃ x, w4.heap.size = x := ⟨_, rfl⟩
      rw [hc] at HCC HQ11 HGC ⊢
      clear hw5 hc
      obtain ⟨p0, p1, p2, p3, p4, r0, r1, r2, r3, r4⟩ := HS5.out.cells
      obtain ⟨_, x0, x1, x2, x3, x4, _⟩ := HCC.out
      go_wp2_with fail
      clear x0 x1 x2 x3 x4 p0 p1 p2 p3 p4 r0 r1 r2 r3 r4
      refine (same_at an at1 ac au ad an at1 ac au ad a' pa al al c' aca w5 HRC.out (HA.out.below HS5.out.1) (by omega)).mono ?_; rintro e w6 ⟨rfl, hb⟩
      rw [sameP_self]
      have HRC6 := Lib.hid (HRC.out.below hb)
      have HO6 := Lib.hid (own_below' HO5.out hb)
      have HS6 := Lib.hid (HS5.out.next hb)
      have HC6 := Lib.hid (HCC.out.below hb)
      clear hb HRC HO5 HS5 HCC
      obtain ⟨_, x0, x1, x2, x3, x4, _⟩ := HC6.out
      obtain ⟨p0, p1, p2, p3, p4, r0, r1, r2, r3, r4⟩ := HS6.out.cells
      go_upto_if 57 with fail
      go_cut [] (fun wx => Hid (∃ cd, Below w.heap.size w wx ∧ SK w q r an at1 ac au (.slice pa al aca) bn bt bc bu (.slice pb bl bca) wx ∧ C5 wx c (.string an) (.int .i64 at1) (.int .i64 ac) (.int .i64 au) (.slice a' al c') ∧ RowS wx a' al cd ∧ (al = 0 ∨ cd ≠ ad)))
      case first =>
        have h0 := H0A.out
        have d3 : decide ((0 : Int) < (al : Int)) = true := dT (by omega)
        rcases HO6.out.2 with ⟨_, h10⟩ | ⟨g, cap, cur, hv, hge, -⟩
        · exact absurd h10 h0
        have hv2 : a' = some ⟨g, 0, none⟩ ∧ c' = cap := by
          simp only [Value.slice.injEq] at hv
          exact ⟨hv.1, hv.2.2⟩
        obtain ⟨rfl, rfl⟩ := hv2
        have hgc : g < c := HGC.out g rfl
        have hgq : g ≠ q := by have := HQ.out; omega
        have hgr : g ≠ r := by have := HR.out; omega
        have hgc' : g ≠ c := by omega
        have HADL := Lib.hid (show ad.length = al from HA.out.1)
        obtain ⟨s0, hs0⟩ : ∃ s, ad[0]? = some s := ⟨_, List.getElem?_eq_getElem (by have := HADL.out; omega)⟩
        have y0 : w6.cell? ⟨g, 0, none⟩ = some (.string s0) := ownsRow_at HO6.out 0 _ (by simp [sc, hs0])
        have fz : w6.frozen? ⟨g, 0, none⟩ = false := HO6.out.frozenAt 0
        have HS0 := Lib.hid hs0
        have HGE := Lib.hid (show w.heap.size ≤ g by omega)
        clear hs0 hv hge
        have hpos : 0 < al := by omega
        have hs6 : s0.size ≤ 60000 := by
          have h1 := HMA.out.2.2 0 (show 0 < ad.length by rw [HADL.out]; exact hpos)
          rw [List.getD_eq_getElem?_getD] at h1
          have h2 : ad[0]? = some s0 := HS0.out
          have h3 : (ad[0]?.getD ByteArray.empty).size ≤ 60000 := h1
          rw [h2] at h3; exact h3
        have hs7 : ¬ 9223372036854775807 < s0.size + 1 := by omega
        go_wp2_with fail
        clear p0 p1 p2 p3 p4 r0 r1 r2 r3 r4 x0 x1 x2 x3 d1 d2
        go_region
        have hst := HO6.out.stored 0 (.string (s0 ++ { data := #[120] }))
        rw [sc_set] at hst
        obtain ⟨a2, c2, hv2, hrow, _⟩ := rowS_of_own hst.1
        simp only [Value.slice.injEq] at hv2
        obtain ⟨rfl, -, rfl⟩ := hv2
        have hsk := (HS6.out.far ⟨g, 0, none⟩ HGE.out hgq hgr (.string (s0 ++ { data := #[120] }))).next ((Below.refl _ _).drew)
        have hc6 := (HC6.out.far ⟨g, 0, none⟩ hgc' (.string (s0 ++ { data := #[120] }))).below ((Below.refl _ _).drew)
        have HFIN := Lib.hid (show ∃ cd, Below w.heap.size w _ ∧ SK w q r an at1 ac au (.slice pa al aca) bn bt bc bu (.slice pb bl bca) _ ∧ C5 _ c (.string an) (.int .i64 at1) (.int .i64 ac) (.int .i64 au) (.slice (some ⟨g, 0, none⟩) al c') ∧ RowS _ (some ⟨g, 0, none⟩) al cd ∧ (al = 0 ∨ cd ≠ ad) from ⟨_, hsk.1, hsk, hc6, hrow.below ((Below.refl _ _).drew), Or.inr (set_ne HS0.out)⟩)
        clear hst hrow hsk hc6
        go_wp2
        go_meet
        exact HFIN
      case rest =>
      have HCUT := Lib.hid (show ∃ cd, Below w.heap.size w wc ∧ SK w q r an at1 ac au (.slice pa al aca) bn bt bc bu (.slice pb bl bca) wc ∧ C5 wc c (.string an) (.int .i64 at1) (.int .i64 ac) (.int .i64 au) (.slice a' al c') ∧ RowS wc a' al cd ∧ (al = 0 ∨ cd ≠ ad) from hcut)
      clear hcut x0 x1 x2 x3 x4 p0 p1 p2 p3 p4 r0 r1 r2 r3 r4 HS6 HC6 HRC6 HO6
      obtain ⟨cd, hB, hSK, hC, hRC, hne⟩ := HCUT.out
      have HSK := Lib.hid hSK
      have HC := Lib.hid hC
      have HRC := Lib.hid hRC
      have HNE := Lib.hid hne
      obtain ⟨p0, p1, p2, p3, p4, r0, r1, r2, r3, r4⟩ := hSK.cells
      clear hB hSK hC hRC hne HCUT
      have hz1 : an.size ≤ 60000 := HMA.out.1
      have hz2 : bn.size ≤ 60000 := HMB.out.1
      have hbl : bl ≤ 200 := by
        have h1 : bd.length ≤ 200 := HMB.out.2.1
        rw [HBr.out.1] at h1; exact h1
      have HFI := Lib.hid (fun wx => first4 wx)
      have HCM := Lib.hid (fun wx => (kcompare' an at1 ac bn bt bc wx (by omega) (by omega)).mono (fun _ _ (h : _ ∧ _) => (⟨h.1, h.2.b⟩ : _ ∧ Below wx.heap.size wx _)))
      have HK1 := Lib.hid (fun wx => keyConv an at1 ac wx)
      have HK2 := Lib.hid (fun wx => keyConv bn bt bc wx)
      have HRCM := Lib.hid (fun wx => rcompareK ⟨an, at1, ac⟩ ⟨bn, bt, bc⟩ wx (show an.size ≤ 1000000 by omega) (show bn.size ≤ 1000000 by omega))
      have HIK := Lib.hid (fun wx (hx : Below w.heap.size w wx) => isK ⟨an, at1, ac⟩ ta k tc tl wx (HT.out.below hx) (by omega))
      have HMK := Lib.hid (fun wx => kmay_any ⟨an, at1, ac⟩ wx (show an.size ≤ 1000000 by omega))
      have HRMK := Lib.hid (fun wx => rkmay_any ⟨an, at1, ac⟩ wx (show an.size ≤ 1000000 by omega))
      have HSM := Lib.hid (fun wx (hx : Below w.heap.size w wx) => same_at an at1 ac au ad bn bt bc bu bd pa pb al bl aca bca wx (HA.out.below hx) (HBr.out.below hx) (by omega))
      have HSC0 := Lib.hid (fun wx (hx : Below wc.heap.size wc wx ∧ Below w.heap.size w wx) => same_at an at1 ac au cd an at1 ac au ad a' pa al al c' aca wx (HRC.out.below hx.1) (HA.out.below hx.2) (by omega))
      have HP1 := Lib.hid (fun wx => plain_any an at1 ac au pa al aca wx)
      have HP2 := Lib.hid (fun wx => plain_any bn bt bc bu pb bl bca wx)
      have HRS := Lib.hid (fun wx (hx : Below w.heap.size w wx) => rsame_at an at1 ac au ad bn bt bc bu bd pa pb al bl aca bca wx (HA.out.below hx) (HBr.out.below hx) (by omega))
      have HHA := Lib.hid (fun wx (hx : Below w.heap.size w wx) => has_any an at1 ac au ad pa al aca d wx (HA.out.below hx) (by omega))
      have HRH := Lib.hid (fun wx (hx : Below w.heap.size w wx) => (rhas_any pa al aca ad d wx (HA.out.below hx) (by omega)).mono (fun e9 w9 (h : e9 = _ ∧ wx = w9) => (⟨h.1, by rw [← h.2]; exact Below.refl _ _⟩ : _ ∧ Below wx.heap.size wx w9)))
      have HKO := Lib.hid (fun wx => (keyOf' an at1 ac 0 ⟨#[]⟩ wx).mono (fun _ _ (h : _ ∧ _) => (⟨h.1, h.2.b⟩ : _ ∧ Below wx.heap.size wx _)))
      have hks := key_self an at1 ac
      obtain ⟨x1, hx1⟩ : ∃ x, kcmp ⟨an, at1, ac⟩ ⟨bn, bt, bc⟩ = x := ⟨_, rfl⟩
      rw [hx1] at HCM HRCM
      obtain ⟨x2, hx2⟩ : ∃ x, mayK ⟨an, at1, ac⟩ = x := ⟨_, rfl⟩
      rw [hx2] at HMK HRMK
      obtain ⟨x3, hx3⟩ : ∃ x, sameP ⟨⟨an, at1, ac⟩, au, ad⟩ ⟨⟨bn, bt, bc⟩, bu, bd⟩ = x := ⟨_, rfl⟩
      rw [hx3] at HSM HRS
      obtain ⟨x4, hx4⟩ : ∃ x, memS d ad = x := ⟨_, rfl⟩
      rw [hx4] at HHA HRH
      rw [show decide (({ n := an, t := at1, c := ac } : Ky).t ∈ tl) = ib from HIS.out.symm] at HIK
      clear hx1 hx2 hx3 hx4
      go_wp2_with fail
      have cR := c5_new wc (.string an) (.int .i64 at1) (.int .i64 ac) (.int .i64 0) (.string ⟨#[]⟩) 23
      have h7 := (Below.refl wc.heap.size wc).alloc (Nat.le_refl _) (.cells #[.string an, .int .i64 at1, .int .i64 ac, .int .i64 0, .string ⟨#[]⟩] 23)
      have hSK7 := HSK.out.next h7
      have hC7 := HC.out.below h7
      obtain ⟨w7, hw7⟩ : ∃ x, wc.alloc (.cells #[.string an, .int .i64 at1, .int .i64 ac, .int .i64 0, .string ⟨#[]⟩] 23) = x := ⟨_, rfl⟩
      obtain ⟨R, hR9⟩ : ∃ x, wc.heap.size = x := ⟨_, rfl⟩
      rw [hw7] at h7 hSK7 hC7 cR ⊢
      rw [hR9] at cR ⊢
      have HPd := Lib.hid (KS.next ((Below.refl w7.heap.size w7).drew) (KQ.shown (⟨h7, hSK7, hC7, cR⟩ : KQ w wc q r c R an at1 ac au (.slice pa al aca) (.slice a' al c') bn bt bc bu (.slice pb bl bca) w7)))
      clear h7 hSK7 hC7 cR hw7 hR9 p0 p1 p2 p3 p4 r0 r1 r2 r3 r4 HSK HC
      have h0 := H0A.out
      have e9 : ((al : Int) == 0) = false := eF (by omega)
      have HSC := Lib.hid (fun wx (hx : Below wc.heap.size wc wx ∧ Below w.heap.size w wx) => by
        have h1 := HSC0.out wx hx
        rw [show sameP ⟨⟨an, at1, ac⟩, au, cd⟩ ⟨⟨an, at1, ac⟩, au, ad⟩ = false by
          have hne : cd ≠ ad := HNE.out.resolve_left h0
          simp [sameP, hne]] at h1
        exact h1)
      have H0 := Lib.hid h0
      clear h0 HSC0
      -- SCRIPT B
      refine wp_region_held_drew (S := (fun wx => Hid (KQ w wc q r c R an at1 ac au (.slice pa al aca) (.slice a' al c') bn bt bc bu (.slice pb bl bca) wx) ∧ wx.cell? ⟨q, 0, none⟩ = some (.string an) ∧ wx.cell? ⟨q, 1, none⟩ = some (.int .i64 at1) ∧ wx.cell? ⟨q, 2, none⟩ = some (.int .i64 ac) ∧ wx.cell? ⟨q, 3, none⟩ = some (.int .i64 au) ∧ wx.cell? ⟨q, 4, none⟩ = some (.slice pa al aca) ∧ wx.cell? ⟨r, 0, none⟩ = some (.string bn) ∧ wx.cell? ⟨r, 1, none⟩ = some (.int .i64 bt) ∧ wx.cell? ⟨r, 2, none⟩ = some (.int .i64 bc) ∧ wx.cell? ⟨r, 3, none⟩ = some (.int .i64 bu) ∧ wx.cell? ⟨r, 4, none⟩ = some (.slice pb bl bca) ∧ wx.cell? ⟨c, 0, none⟩ = some (.string an) ∧ wx.cell? ⟨c, 1, none⟩ = some (.int .i64 at1) ∧ wx.cell? ⟨c, 2, none⟩ = some (.int .i64 ac) ∧ wx.cell? ⟨c, 3, none⟩ = some (.int .i64 au) ∧ wx.cell? ⟨c, 4, none⟩ = some (.slice a' al c') ∧ wx.cell? ⟨R, 0, none⟩ = some (.string an) ∧ wx.cell? ⟨R, 1, none⟩ = some (.int .i64 at1) ∧ wx.cell? ⟨R, 2, none⟩ = some (.int .i64 ac) ∧ wx.cell? ⟨R, 3, none⟩ = some (.int .i64 0) ∧ wx.cell? ⟨R, 4, none⟩ = some (.string ⟨#[]⟩))) (by kernel_rfl) (HPd.out) (fun hHeld => ?_)
      refine wpAnyH_ready (rs := [0]) (by kernel_rfl) (by simp) ?_
      refine AllReadyH.cons (o := { dst := some 76, op := Go.Op.call { callee := Go.Callee.value (Go.Operand.func 38), args := #[], argTypes := #[] }, type := 4, pos := "law.go:92", after := #[], guard := none }) rfl (fun K hK => ?_) AllReadyH.nil
      go_simp
      refine (HFI.out _).mono ?_; rintro e wy ⟨rfl, hb⟩
      go_wp2_with fail
      refine hK.out _ _ (KS.next hb hHeld) (fun hHeld2 => ?_)
      clear hK K hHeld
      have hHeld := hHeld2
      clear hHeld2
      try simp only [Act.put, List.setIfInBounds_toArray, List.set_cons_zero, List.set_cons_succ]
      refine wpAnyH_take (i := 1) (oi := { dst := some 77, op := Go.Op.move (Go.Operand.tmp 76), type := 4, pos := "law.go:92", after := #[{ on := 0, ground := Go.Ground.data }, { on := 0, ground := Go.Ground.chain }], guard := none }) (v := ?v1_2) rfl (by kernel_rfl) (by kernel_rfl) (by kernel_rfl) (fun _ _ _ h => h) (Or.inl ⟨by rfl, ?y1_2⟩) hHeld ?r1_2
      case y1_2 => intro w hSw; (try dsimp only at hSw); go_simp; try with_reducible rfl
      try simp only [Act.put, List.setIfInBounds_toArray, List.set_cons_zero, List.set_cons_succ]
      refine wpAnyH_take (i := 2) (oi := { dst := some 78, op := Go.Op.fieldAddr 73 (Go.Operand.tmp 4) 0, type := 0, pos := "law.go:92", after := #[{ on := 1, ground := Go.Ground.guard }], guard := some (1, true) }) (v := ?v2_2) rfl (by kernel_rfl) (by kernel_rfl) (by kernel_rfl) (fun _ _ _ h => h) (Or.inl ⟨by rfl, ?y2_2⟩) hHeld ?r2_2
      case y2_2 => intro w hSw; (try dsimp only at hSw); go_simp; try with_reducible rfl
      try simp only [Act.put, List.setIfInBounds_toArray, List.set_cons_zero, List.set_cons_succ]
      refine wpAnyH_take (i := 3) (oi := { dst := some 79, op := Go.Op.load 68 (Go.Operand.tmp 78), type := 68, pos := "law.go:92", after := #[{ on := 2, ground := Go.Ground.data }, { on := 1, ground := Go.Ground.guard }], guard := some (1, true) }) (v := ?v3_2) rfl (by kernel_rfl) (by kernel_rfl) (by kernel_rfl) (fun _ _ _ h => h) (Or.inl ⟨by rfl, ?y3_2⟩) hHeld ?r3_2
      case y3_2 => intro w hSw; (try dsimp only at hSw); go_simp; try with_reducible rfl
      try simp only [Act.put, List.setIfInBounds_toArray, List.set_cons_zero, List.set_cons_succ]
      refine wpAnyH_take (i := 4) (oi := { dst := some 80, op := Go.Op.fieldAddr 73 (Go.Operand.tmp 5) 0, type := 0, pos := "law.go:92", after := #[{ on := 1, ground := Go.Ground.guard }], guard := some (1, true) }) (v := ?v4_2) rfl (by kernel_rfl) (by kernel_rfl) (by kernel_rfl) (fun _ _ _ h => h) (Or.inl ⟨by rfl, ?y4_2⟩) hHeld ?r4_2
      case y4_2 => intro w hSw; (try dsimp only at hSw); go_simp; try with_reducible rfl
      try simp only [Act.put, List.setIfInBounds_toArray, List.set_cons_zero, List.set_cons_succ]
      refine wpAnyH_take (i := 5) (oi := { dst := some 81, op := Go.Op.load 68 (Go.Operand.tmp 80), type := 68, pos := "law.go:92", after := #[{ on := 4, ground := Go.Ground.data }, { on := 1, ground := Go.Ground.guard }], guard := some (1, true) }) (v := ?v5_2) rfl (by kernel_rfl) (by kernel_rfl) (by kernel_rfl) (fun _ _ _ h => h) (Or.inl ⟨by rfl, ?y5_2⟩) hHeld ?r5_2
      case y5_2 => intro w hSw; (try dsimp only at hSw); go_simp; try with_reducible rfl
      try simp only [Act.put, List.setIfInBounds_toArray, List.set_cons_zero, List.set_cons_succ]
      refine wpAnyH_take (i := 7) (oi := { dst := some 83, op := Go.Op.fieldAddr 73 (Go.Operand.tmp 4) 0, type := 0, pos := "law.go:92", after := #[{ on := 1, ground := Go.Ground.guard }], guard := some (1, true) }) (v := ?v7_2) rfl (by kernel_rfl) (by kernel_rfl) (by kernel_rfl) (fun _ _ _ h => h) (Or.inl ⟨by rfl, ?y7_2⟩) hHeld ?r7_2
      case y7_2 => intro w hSw; (try dsimp only at hSw); go_simp; try with_reducible rfl
      try simp only [Act.put, List.setIfInBounds_toArray, List.set_cons_zero, List.set_cons_succ]
      refine wpAnyH_take (i := 8) (oi := { dst := some 84, op := Go.Op.load 68 (Go.Operand.tmp 83), type := 68, pos := "law.go:92", after := #[{ on := 7, ground := Go.Ground.data }, { on := 1, ground := Go.Ground.guard }], guard := some (1, true) }) (v := ?v8_2) rfl (by kernel_rfl) (by kernel_rfl) (by kernel_rfl) (fun _ _ _ h => h) (Or.inl ⟨by rfl, ?y8_2⟩) hHeld ?r8_2
      case y8_2 => intro w hSw; (try dsimp only at hSw); go_simp; try with_reducible rfl
      try simp only [Act.put, List.setIfInBounds_toArray, List.set_cons_zero, List.set_cons_succ]
      refine wpAnyH_take (i := 10) (oi := { dst := some 86, op := Go.Op.fieldAddr 73 (Go.Operand.tmp 5) 0, type := 0, pos := "law.go:92", after := #[{ on := 1, ground := Go.Ground.guard }], guard := some (1, true) }) (v := ?v10_2) rfl (by kernel_rfl) (by kernel_rfl) (by kernel_rfl) (fun _ _ _ h => h) (Or.inl ⟨by rfl, ?y10_2⟩) hHeld ?r10_2
      case y10_2 => intro w hSw; (try dsimp only at hSw); go_simp; try with_reducible rfl
      try simp only [Act.put, List.setIfInBounds_toArray, List.set_cons_zero, List.set_cons_succ]
      refine wpAnyH_take (i := 11) (oi := { dst := some 87, op := Go.Op.load 68 (Go.Operand.tmp 86), type := 68, pos := "law.go:92", after := #[{ on := 10, ground := Go.Ground.data }, { on := 1, ground := Go.Ground.guard }], guard := some (1, true) }) (v := ?v11_2) rfl (by kernel_rfl) (by kernel_rfl) (by kernel_rfl) (fun _ _ _ h => h) (Or.inl ⟨by rfl, ?y11_2⟩) hHeld ?r11_2
      case y11_2 => intro w hSw; (try dsimp only at hSw); go_simp; try with_reducible rfl
      try simp only [Act.put, List.setIfInBounds_toArray, List.set_cons_zero, List.set_cons_succ]
      refine wpAnyH_ready (rs := [6]) (by kernel_rfl) (by simp) ?_
      refine AllReadyH.cons (o := { dst := some 82, op := Go.Op.call { callee := Go.Callee.value (Go.Operand.func 60), args := #[Go.Operand.tmp 79, Go.Operand.tmp 81], argTypes := #[68, 68] }, type := 3, pos := "law.go:92", after := #[{ on := 3, ground := Go.Ground.data }, { on := 5, ground := Go.Ground.data }, { on := 1, ground := Go.Ground.chain }, { on := 1, ground := Go.Ground.guard }], guard := some (1, true) }) rfl (fun K hK => ?_) AllReadyH.nil
      go_simp
      refine (HCM.out _).mono ?_; rintro e wy ⟨rfl, hb⟩
      go_wp2_with fail
      refine hK.out _ _ (KS.next hb hHeld) (fun hHeld2 => ?_)
      clear hK K hHeld
      have hHeld := hHeld2
      clear hHeld2
      try simp only [Act.put, List.setIfInBounds_toArray, List.set_cons_zero, List.set_cons_succ]
      refine wpAnyH_ready (rs := [9]) (by kernel_rfl) (by simp) ?_
      refine AllReadyH.cons (o := { dst := some 85, op := Go.Op.call { callee := Go.Callee.value (Go.Operand.func 45), args := #[Go.Operand.tmp 84], argTypes := #[68] }, type := 76, pos := "law.go:92", after := #[{ on := 8, ground := Go.Ground.data }, { on := 6, ground := Go.Ground.chain }, { on := 1, ground := Go.Ground.guard }], guard := some (1, true) }) rfl (fun K hK => ?_) AllReadyH.nil
      go_simp
      refine (HK1.out _).mono ?_; rintro e wy ⟨rfl, hb⟩
      go_wp2_with fail
      refine hK.out _ _ (KS.next hb hHeld) (fun hHeld2 => ?_)
      clear hK K hHeld
      have hHeld := hHeld2
      clear hHeld2
      try simp only [Act.put, List.setIfInBounds_toArray, List.set_cons_zero, List.set_cons_succ]
      refine wpAnyH_ready (rs := [12]) (by kernel_rfl) (by simp) ?_
      refine AllReadyH.cons (o := { dst := some 88, op := Go.Op.call { callee := Go.Callee.value (Go.Operand.func 45), args := #[Go.Operand.tmp 87], argTypes := #[68] }, type := 76, pos := "law.go:92", after := #[{ on := 11, ground := Go.Ground.data }, { on := 9, ground := Go.Ground.chain }, { on := 1, ground := Go.Ground.guard }], guard := some (1, true) }) rfl (fun K hK => ?_) AllReadyH.nil
      go_simp
      refine (HK2.out _).mono ?_; rintro e wy ⟨rfl, hb⟩
      go_wp2_with fail
      refine hK.out _ _ (KS.next hb hHeld) (fun hHeld2 => ?_)
      clear hK K hHeld
      have hHeld := hHeld2
      clear hHeld2
      try simp only [Act.put, List.setIfInBounds_toArray, List.set_cons_zero, List.set_cons_succ]
      refine wpAnyH_ready (rs := [13]) (by kernel_rfl) (by simp) ?_
      refine AllReadyH.cons (o := { dst := some 89, op := Go.Op.call { callee := Go.Callee.value (Go.Operand.func 61), args := #[Go.Operand.tmp 85, Go.Operand.tmp 88], argTypes := #[76, 76] }, type := 3, pos := "law.go:92", after := #[{ on := 9, ground := Go.Ground.data }, { on := 12, ground := Go.Ground.data }, { on := 12, ground := Go.Ground.chain }, { on := 1, ground := Go.Ground.guard }], guard := some (1, true) }) rfl (fun K hK => ?_) AllReadyH.nil
      go_simp
      refine (HRCM.out _).mono ?_; rintro e wy ⟨rfl, hb⟩
      go_wp2_with fail
      refine hK.out _ _ (KS.next hb hHeld) (fun hHeld2 => ?_)
      clear hK K hHeld
      have hHeld := hHeld2
      clear hHeld2
      try simp only [Act.put, List.setIfInBounds_toArray, List.set_cons_zero, List.set_cons_succ]
      refine wpAnyH_take (i := 14) (oi := { dst := some 90, op := Go.Op.binOp Go.BinOp.eql 3 (Go.Operand.tmp 82) (Go.Operand.tmp 89) 3, type := 4, pos := "law.go:92", after := #[{ on := 6, ground := Go.Ground.data }, { on := 13, ground := Go.Ground.data }, { on := 1, ground := Go.Ground.guard }], guard := some (1, true) }) (v := ?v14_2) rfl (by kernel_rfl) (by kernel_rfl) (by kernel_rfl) (fun _ _ _ h => h) (Or.inl ⟨by rfl, ?y14_2⟩) hHeld ?r14_2
      case y14_2 => intro w hSw; (try dsimp only at hSw); go_simp; try with_reducible rfl
      try simp only [Act.put, List.setIfInBounds_toArray, List.set_cons_zero, List.set_cons_succ]
      refine wpAnyH_take (i := 15) (oi := { dst := some 91, op := Go.Op.pick (Go.Operand.tmp 77) (Go.Operand.tmp 90) (Go.Operand.const (Go.Value.bool false)), type := 4, pos := "law.go:92", after := #[{ on := 1, ground := Go.Ground.data }, { on := 14, ground := Go.Ground.data }], guard := none }) (v := ?v15_2) rfl (by kernel_rfl) (by kernel_rfl) (by kernel_rfl) (fun _ _ _ h => h) (Or.inl ⟨by rfl, ?y15_2⟩) hHeld ?r15_2
      case y15_2 => intro w hSw; (try dsimp only at hSw); go_simp; try with_reducible rfl
      try simp only [Act.put, List.setIfInBounds_toArray, List.set_cons_zero, List.set_cons_succ]
      refine wpAnyH_take (i := 16) (oi := { dst := some 92, op := Go.Op.move (Go.Operand.tmp 91), type := 4, pos := "law.go:92", after := #[{ on := 15, ground := Go.Ground.data }, { on := 13, ground := Go.Ground.chain }], guard := none }) (v := ?v16_2) rfl (by kernel_rfl) (by kernel_rfl) (by kernel_rfl) (fun _ _ _ h => h) (Or.inl ⟨by rfl, ?y16_2⟩) hHeld ?r16_2
      case y16_2 => intro w hSw; (try dsimp only at hSw); go_simp; try with_reducible rfl
      try simp only [Act.put, List.setIfInBounds_toArray, List.set_cons_zero, List.set_cons_succ]
      refine wpAnyH_take (i := 17) (oi := { dst := some 93, op := Go.Op.fieldAddr 73 (Go.Operand.tmp 4) 0, type := 0, pos := "law.go:92", after := #[{ on := 16, ground := Go.Ground.guard }], guard := some (16, true) }) (v := ?v17_2) rfl (by kernel_rfl) (by kernel_rfl) (by kernel_rfl) (fun _ _ _ h => h) (Or.inl ⟨by rfl, ?y17_2⟩) hHeld ?r17_2
      case y17_2 => intro w hSw; (try dsimp only at hSw); go_simp; try with_reducible rfl
      try simp only [Act.put, List.setIfInBounds_toArray, List.set_cons_zero, List.set_cons_succ]
      refine wpAnyH_take (i := 18) (oi := { dst := some 94, op := Go.Op.load 68 (Go.Operand.tmp 93), type := 68, pos := "law.go:92", after := #[{ on := 17, ground := Go.Ground.data }, { on := 16, ground := Go.Ground.guard }], guard := some (16, true) }) (v := ?v18_2) rfl (by kernel_rfl) (by kernel_rfl) (by kernel_rfl) (fun _ _ _ h => h) (Or.inl ⟨by rfl, ?y18_2⟩) hHeld ?r18_2
      case y18_2 => intro w hSw; (try dsimp only at hSw); go_simp; try with_reducible rfl
      try simp only [Act.put, List.setIfInBounds_toArray, List.set_cons_zero, List.set_cons_succ]
      refine wpAnyH_take (i := 19) (oi := { dst := some 95, op := Go.Op.fieldAddr 73 (Go.Operand.tmp 5) 0, type := 0, pos := "law.go:92", after := #[{ on := 16, ground := Go.Ground.guard }], guard := some (16, true) }) (v := ?v19_2) rfl (by kernel_rfl) (by kernel_rfl) (by kernel_rfl) (fun _ _ _ h => h) (Or.inl ⟨by rfl, ?y19_2⟩) hHeld ?r19_2
      case y19_2 => intro w hSw; (try dsimp only at hSw); go_simp; try with_reducible rfl
      try simp only [Act.put, List.setIfInBounds_toArray, List.set_cons_zero, List.set_cons_succ]
      refine wpAnyH_take (i := 20) (oi := { dst := some 96, op := Go.Op.load 68 (Go.Operand.tmp 95), type := 68, pos := "law.go:92", after := #[{ on := 19, ground := Go.Ground.data }, { on := 16, ground := Go.Ground.guard }], guard := some (16, true) }) (v := ?v20_2) rfl (by kernel_rfl) (by kernel_rfl) (by kernel_rfl) (fun _ _ _ h => h) (Or.inl ⟨by rfl, ?y20_2⟩) hHeld ?r20_2
      case y20_2 => intro w hSw; (try dsimp only at hSw); go_simp; try with_reducible rfl
      try simp only [Act.put, List.setIfInBounds_toArray, List.set_cons_zero, List.set_cons_succ]
      refine wpAnyH_take (i := 22) (oi := { dst := some 98, op := Go.Op.fieldAddr 73 (Go.Operand.tmp 4) 0, type := 0, pos := "law.go:92", after := #[{ on := 16, ground := Go.Ground.guard }], guard := some (16, true) }) (v := ?v22_2) rfl (by kernel_rfl) (by kernel_rfl) (by kernel_rfl) (fun _ _ _ h => h) (Or.inl ⟨by rfl, ?y22_2⟩) hHeld ?r22_2
      case y22_2 => intro w hSw; (try dsimp only at hSw); go_simp; try with_reducible rfl
      try simp only [Act.put, List.setIfInBounds_toArray, List.set_cons_zero, List.set_cons_succ]
      refine wpAnyH_take (i := 23) (oi := { dst := some 99, op := Go.Op.load 68 (Go.Operand.tmp 98), type := 68, pos := "law.go:92", after := #[{ on := 22, ground := Go.Ground.data }, { on := 16, ground := Go.Ground.guard }], guard := some (16, true) }) (v := ?v23_2) rfl (by kernel_rfl) (by kernel_rfl) (by kernel_rfl) (fun _ _ _ h => h) (Or.inl ⟨by rfl, ?y23_2⟩) hHeld ?r23_2
      case y23_2 => intro w hSw; (try dsimp only at hSw); go_simp; try with_reducible rfl
      try simp only [Act.put, List.setIfInBounds_toArray, List.set_cons_zero, List.set_cons_succ]
      refine wpAnyH_take (i := 24) (oi := { dst := some 100, op := Go.Op.fieldAddr 73 (Go.Operand.tmp 5) 0, type := 0, pos := "law.go:92", after := #[{ on := 16, ground := Go.Ground.guard }], guard := some (16, true) }) (v := ?v24_2) rfl (by kernel_rfl) (by kernel_rfl) (by kernel_rfl) (fun _ _ _ h => h) (Or.inl ⟨by rfl, ?y24_2⟩) hHeld ?r24_2
      case y24_2 => intro w hSw; (try dsimp only at hSw); go_simp; try with_reducible rfl
      try simp only [Act.put, List.setIfInBounds_toArray, List.set_cons_zero, List.set_cons_succ]
      refine wpAnyH_take (i := 25) (oi := { dst := some 101, op := Go.Op.load 68 (Go.Operand.tmp 100), type := 68, pos := "law.go:92", after := #[{ on := 24, ground := Go.Ground.data }, { on := 16, ground := Go.Ground.guard }], guard := some (16, true) }) (v := ?v25_2) rfl (by kernel_rfl) (by kernel_rfl) (by kernel_rfl) (fun _ _ _ h => h) (Or.inl ⟨by rfl, ?y25_2⟩) hHeld ?r25_2
      case y25_2 => intro w hSw; (try dsimp only at hSw); go_simp; try with_reducible rfl
      try simp only [Act.put, List.setIfInBounds_toArray, List.set_cons_zero, List.set_cons_succ]
      refine wpAnyH_ready (rs := [21]) (by kernel_rfl) (by simp) ?_
      refine AllReadyH.cons (o := { dst := some 97, op := Go.Op.call { callee := Go.Callee.value (Go.Operand.func 60), args := #[Go.Operand.tmp 94, Go.Operand.tmp 96], argTypes := #[68, 68] }, type := 3, pos := "law.go:92", after := #[{ on := 18, ground := Go.Ground.data }, { on := 20, ground := Go.Ground.data }, { on := 16, ground := Go.Ground.chain }, { on := 16, ground := Go.Ground.guard }], guard := some (16, true) }) rfl (fun K hK => ?_) AllReadyH.nil
      go_simp
      refine (HCM.out _).mono ?_; rintro e wy ⟨rfl, hb⟩
      go_wp2_with fail
      refine hK.out _ _ (KS.next hb hHeld) (fun hHeld2 => ?_)
      clear hK K hHeld
      have hHeld := hHeld2
      clear hHeld2
      try simp only [Act.put, List.setIfInBounds_toArray, List.set_cons_zero, List.set_cons_succ]
      refine wpAnyH_ready (rs := [26]) (by kernel_rfl) (by simp) ?_
      refine AllReadyH.cons (o := { dst := some 102, op := Go.Op.call { callee := Go.Callee.value (Go.Operand.func 60), args := #[Go.Operand.tmp 99, Go.Operand.tmp 101], argTypes := #[68, 68] }, type := 3, pos := "law.go:92", after := #[{ on := 23, ground := Go.Ground.data }, { on := 25, ground := Go.Ground.data }, { on := 21, ground := Go.Ground.chain }, { on := 16, ground := Go.Ground.guard }], guard := some (16, true) }) rfl (fun K hK => ?_) AllReadyH.nil
      go_simp
      refine (HCM.out _).mono ?_; rintro e wy ⟨rfl, hb⟩
      go_wp2_with fail
      refine hK.out _ _ (KS.next hb hHeld) (fun hHeld2 => ?_)
      clear hK K hHeld
      have hHeld := hHeld2
      clear hHeld2
      try simp only [Act.put, List.setIfInBounds_toArray, List.set_cons_zero, List.set_cons_succ]
      refine wpAnyH_take (i := 27) (oi := { dst := some 103, op := Go.Op.binOp Go.BinOp.eql 3 (Go.Operand.tmp 97) (Go.Operand.tmp 102) 3, type := 4, pos := "law.go:92", after := #[{ on := 21, ground := Go.Ground.data }, { on := 26, ground := Go.Ground.data }, { on := 16, ground := Go.Ground.guard }], guard := some (16, true) }) (v := ?v27_2) rfl (by kernel_rfl) (by kernel_rfl) (by kernel_rfl) (fun _ _ _ h => h) (Or.inl ⟨by rfl, ?y27_2⟩) hHeld ?r27_2
      case y27_2 => intro w hSw; (try dsimp only at hSw); go_simp; try with_reducible rfl
      try simp only [Act.put, List.setIfInBounds_toArray, List.set_cons_zero, List.set_cons_succ]
      refine wpAnyH_take (i := 28) (oi := { dst := some 104, op := Go.Op.pick (Go.Operand.tmp 92) (Go.Operand.tmp 103) (Go.Operand.const (Go.Value.bool false)), type := 4, pos := "law.go:92", after := #[{ on := 16, ground := Go.Ground.data }, { on := 27, ground := Go.Ground.data }], guard := none }) (v := ?v28_2) rfl (by kernel_rfl) (by kernel_rfl) (by kernel_rfl) (fun _ _ _ h => h) (Or.inl ⟨by rfl, ?y28_2⟩) hHeld ?r28_2
      case y28_2 => intro w hSw; (try dsimp only at hSw); go_simp; try with_reducible rfl
      try simp only [Act.put, List.setIfInBounds_toArray, List.set_cons_zero, List.set_cons_succ]
      refine wpAnyH_take (i := 29) (oi := { dst := some 105, op := Go.Op.move (Go.Operand.tmp 104), type := 4, pos := "law.go:92", after := #[{ on := 28, ground := Go.Ground.data }, { on := 26, ground := Go.Ground.chain }], guard := none }) (v := ?v29_2) rfl (by kernel_rfl) (by kernel_rfl) (by kernel_rfl) (fun _ _ _ h => h) (Or.inl ⟨by rfl, ?y29_2⟩) hHeld ?r29_2
      case y29_2 => intro w hSw; (try dsimp only at hSw); go_simp; try with_reducible rfl
      try simp only [Act.put, List.setIfInBounds_toArray, List.set_cons_zero, List.set_cons_succ]
      as_aux_lemma =>
       refine wpAnyH_take (i := 30) (oi := { dst := some 106, op := Go.Op.fieldAddr 73 (Go.Operand.tmp 4) 0, type := 0, pos := "law.go:92", after := #[{ on := 29, ground := Go.Ground.guard }], guard := some (29, true) }) (v := ?v30_2) rfl (by kernel_rfl) (by kernel_rfl) (by kernel_rfl) (fun _ _ _ h => h) (Or.inl ⟨by rfl, ?y30_2⟩) hHeld ?r30_2
       case y30_2 => intro w hSw; (try dsimp only at hSw); go_simp; try with_reducible rfl
       try simp only [Act.put, List.setIfInBounds_toArray, List.set_cons_zero, List.set_cons_succ]
       refine wpAnyH_take (i := 31) (oi := { dst := some 107, op := Go.Op.load 68 (Go.Operand.tmp 106), type := 68, pos := "law.go:92", after := #[{ on := 30, ground := Go.Ground.data }, { on := 29, ground := Go.Ground.guard }], guard := some (29, true) }) (v := ?v31_2) rfl (by kernel_rfl) (by kernel_rfl) (by kernel_rfl) (fun _ _ _ h => h) (Or.inl ⟨by rfl, ?y31_2⟩) hHeld ?r31_2
       case y31_2 => intro w hSw; (try dsimp only at hSw); go_simp; try with_reducible rfl
       try simp only [Act.put, List.setIfInBounds_toArray, List.set_cons_zero, List.set_cons_succ]
       refine wpAnyH_take (i := 32) (oi := { dst := some 108, op := Go.Op.move (Go.Operand.tmp 2), type := 49, pos := "law.go:92", after := #[{ on := 29, ground := Go.Ground.guard }], guard := some (29, true) }) (v := ?v32_2) rfl (by kernel_rfl) (by kernel_rfl) (by kernel_rfl) (fun _ _ _ h => h) (Or.inl ⟨by rfl, ?y32_2⟩) hHeld ?r32_2
       case y32_2 => intro w hSw; (try dsimp only at hSw); go_simp; try with_reducible rfl
       try simp only [Act.put, List.setIfInBounds_toArray, List.set_cons_zero, List.set_cons_succ]
       refine wpAnyH_take (i := 34) (oi := { dst := some 110, op := Go.Op.move (Go.Operand.tmp 9), type := 4, pos := "law.go:92", after := #[{ on := 29, ground := Go.Ground.guard }], guard := some (29, true) }) (v := ?v34_2) rfl (by kernel_rfl) (by kernel_rfl) (by kernel_rfl) (fun _ _ _ h => h) (Or.inl ⟨by rfl, ?y34_2⟩) hHeld ?r34_2
       case y34_2 => intro w hSw; (try dsimp only at hSw); go_simp; try with_reducible rfl
       try simp only [Act.put, List.setIfInBounds_toArray, List.set_cons_zero, List.set_cons_succ]
       refine wpAnyH_ready (rs := [33]) (by kernel_rfl) (by simp) ?_
       refine AllReadyH.cons (o := { dst := some 109, op := Go.Op.call { callee := Go.Callee.value (Go.Operand.func 62), args := #[Go.Operand.tmp 107, Go.Operand.tmp 108], argTypes := #[68, 49] }, type := 4, pos := "law.go:92", after := #[{ on := 31, ground := Go.Ground.data }, { on := 32, ground := Go.Ground.data }, { on := 29, ground := Go.Ground.chain }, { on := 29, ground := Go.Ground.guard }], guard := some (29, true) }) rfl (fun K hK => ?_) AllReadyH.nil
       go_simp
       refine (HIK.out _ (KS.get hHeld).2).mono ?_; rintro e wy ⟨rfl, hb⟩
       go_wp2_with fail
       refine hK.out _ _ (KS.next hb hHeld) (fun hHeld2 => ?_)
       clear hK K hHeld
       have hHeld := hHeld2
       clear hHeld2
       try simp only [Act.put, List.setIfInBounds_toArray, List.set_cons_zero, List.set_cons_succ]
       refine wpAnyH_take (i := 35) (oi := { dst := some 111, op := Go.Op.binOp Go.BinOp.eql 4 (Go.Operand.tmp 109) (Go.Operand.tmp 110) 4, type := 4, pos := "law.go:92", after := #[{ on := 33, ground := Go.Ground.data }, { on := 34, ground := Go.Ground.data }, { on := 29, ground := Go.Ground.guard }], guard := some (29, true) }) (v := ?v35_2) rfl (by kernel_rfl) (by kernel_rfl) (by kernel_rfl) (fun _ _ _ h => h) (Or.inl ⟨by rfl, ?y35_2⟩) hHeld ?r35_2
       case y35_2 => intro w hSw; (try dsimp only at hSw); go_simp; try with_reducible rfl
       try simp only [Act.put, List.setIfInBounds_toArray, List.set_cons_zero, List.set_cons_succ]
       refine wpAnyH_take (i := 36) (oi := { dst := some 112, op := Go.Op.pick (Go.Operand.tmp 105) (Go.Operand.tmp 111) (Go.Operand.const (Go.Value.bool false)), type := 4, pos := "law.go:92", after := #[{ on := 29, ground := Go.Ground.data }, { on := 35, ground := Go.Ground.data }], guard := none }) (v := ?v36_2) rfl (by kernel_rfl) (by kernel_rfl) (by kernel_rfl) (fun _ _ _ h => h) (Or.inl ⟨by rfl, ?y36_2⟩) hHeld ?r36_2
       case y36_2 => intro w hSw; (try dsimp only at hSw); go_simp; try with_reducible rfl
       try simp only [Act.put, List.setIfInBounds_toArray, List.set_cons_zero, List.set_cons_succ]
       refine wpAnyH_take (i := 37) (oi := { dst := some 113, op := Go.Op.move (Go.Operand.tmp 112), type := 4, pos := "law.go:92", after := #[{ on := 36, ground := Go.Ground.data }, { on := 33, ground := Go.Ground.chain }], guard := none }) (v := ?v37_2) rfl (by kernel_rfl) (by kernel_rfl) (by kernel_rfl) (fun _ _ _ h => h) (Or.inl ⟨by rfl, ?y37_2⟩) hHeld ?r37_2
       case y37_2 => intro w hSw; (try dsimp only at hSw); go_simp; try with_reducible rfl
       try simp only [Act.put, List.setIfInBounds_toArray, List.set_cons_zero, List.set_cons_succ]
       refine wpAnyH_take (i := 38) (oi := { dst := some 114, op := Go.Op.fieldAddr 73 (Go.Operand.tmp 4) 0, type := 0, pos := "law.go:92", after := #[{ on := 37, ground := Go.Ground.guard }], guard := some (37, true) }) (v := ?v38_2) rfl (by kernel_rfl) (by kernel_rfl) (by kernel_rfl) (fun _ _ _ h => h) (Or.inl ⟨by rfl, ?y38_2⟩) hHeld ?r38_2
       case y38_2 => intro w hSw; (try dsimp only at hSw); go_simp; try with_reducible rfl
       try simp only [Act.put, List.setIfInBounds_toArray, List.set_cons_zero, List.set_cons_succ]
       refine wpAnyH_take (i := 39) (oi := { dst := some 115, op := Go.Op.load 68 (Go.Operand.tmp 114), type := 68, pos := "law.go:92", after := #[{ on := 38, ground := Go.Ground.data }, { on := 37, ground := Go.Ground.guard }], guard := some (37, true) }) (v := ?v39_2) rfl (by kernel_rfl) (by kernel_rfl) (by kernel_rfl) (fun _ _ _ h => h) (Or.inl ⟨by rfl, ?y39_2⟩) hHeld ?r39_2
       case y39_2 => intro w hSw; (try dsimp only at hSw); go_simp; try with_reducible rfl
       try simp only [Act.put, List.setIfInBounds_toArray, List.set_cons_zero, List.set_cons_succ]
       refine wpAnyH_take (i := 41) (oi := { dst := some 117, op := Go.Op.fieldAddr 73 (Go.Operand.tmp 4) 0, type := 0, pos := "law.go:92", after := #[{ on := 37, ground := Go.Ground.guard }], guard := some (37, true) }) (v := ?v41_2) rfl (by kernel_rfl) (by kernel_rfl) (by kernel_rfl) (fun _ _ _ h => h) (Or.inl ⟨by rfl, ?y41_2⟩) hHeld ?r41_2
       case y41_2 => intro w hSw; (try dsimp only at hSw); go_simp; try with_reducible rfl
       try simp only [Act.put, List.setIfInBounds_toArray, List.set_cons_zero, List.set_cons_succ]
       refine wpAnyH_take (i := 42) (oi := { dst := some 118, op := Go.Op.load 68 (Go.Operand.tmp 117), type := 68, pos := "law.go:92", after := #[{ on := 41, ground := Go.Ground.data }, { on := 37, ground := Go.Ground.guard }], guard := some (37, true) }) (v := ?v42_2) rfl (by kernel_rfl) (by kernel_rfl) (by kernel_rfl) (fun _ _ _ h => h) (Or.inl ⟨by rfl, ?y42_2⟩) hHeld ?r42_2
       case y42_2 => intro w hSw; (try dsimp only at hSw); go_simp; try with_reducible rfl
       try simp only [Act.put, List.setIfInBounds_toArray, List.set_cons_zero, List.set_cons_succ]
       refine wpAnyH_ready (rs := [40]) (by kernel_rfl) (by simp) ?_
       refine AllReadyH.cons (o := { dst := some 116, op := Go.Op.call { callee := Go.Callee.value (Go.Operand.func 63), args := #[Go.Operand.tmp 115], argTypes := #[68] }, type := 4, pos := "law.go:92", after := #[{ on := 39, ground := Go.Ground.data }, { on := 37, ground := Go.Ground.chain }, { on := 37, ground := Go.Ground.guard }], guard := some (37, true) }) rfl (fun K hK => ?_) AllReadyH.nil
       go_simp
       refine (HMK.out _).mono ?_; rintro e wy ⟨rfl, hb⟩
       go_wp2_with fail
       refine hK.out _ _ (KS.next hb hHeld) (fun hHeld2 => ?_)
       clear hK K hHeld
       have hHeld := hHeld2
       clear hHeld2
       try simp only [Act.put, List.setIfInBounds_toArray, List.set_cons_zero, List.set_cons_succ]
       refine wpAnyH_ready (rs := [43]) (by kernel_rfl) (by simp) ?_
       refine AllReadyH.cons (o := { dst := some 119, op := Go.Op.call { callee := Go.Callee.value (Go.Operand.func 45), args := #[Go.Operand.tmp 118], argTypes := #[68] }, type := 76, pos := "law.go:92", after := #[{ on := 42, ground := Go.Ground.data }, { on := 40, ground := Go.Ground.chain }, { on := 37, ground := Go.Ground.guard }], guard := some (37, true) }) rfl (fun K hK => ?_) AllReadyH.nil
       go_simp
       refine (HK1.out _).mono ?_; rintro e wy ⟨rfl, hb⟩
       go_wp2_with fail
       refine hK.out _ _ (KS.next hb hHeld) (fun hHeld2 => ?_)
       clear hK K hHeld
       have hHeld := hHeld2
       clear hHeld2
       try simp only [Act.put, List.setIfInBounds_toArray, List.set_cons_zero, List.set_cons_succ]
       refine wpAnyH_ready (rs := [44]) (by kernel_rfl) (by simp) ?_
       refine AllReadyH.cons (o := { dst := some 120, op := Go.Op.call { callee := Go.Callee.value (Go.Operand.func 64), args := #[Go.Operand.tmp 119], argTypes := #[76] }, type := 4, pos := "law.go:92", after := #[{ on := 43, ground := Go.Ground.data }, { on := 43, ground := Go.Ground.chain }, { on := 37, ground := Go.Ground.guard }], guard := some (37, true) }) rfl (fun K hK => ?_) AllReadyH.nil
       go_simp
       refine (HRMK.out _).mono ?_; rintro e wy ⟨rfl, hb⟩
       go_wp2_with fail
       refine hK.out _ _ (KS.next hb hHeld) (fun hHeld2 => ?_)
       clear hK K hHeld
       have hHeld := hHeld2
       clear hHeld2
       try simp only [Act.put, List.setIfInBounds_toArray, List.set_cons_zero, List.set_cons_succ]
       refine wpAnyH_take (i := 45) (oi := { dst := some 121, op := Go.Op.binOp Go.BinOp.eql 4 (Go.Operand.tmp 116) (Go.Operand.tmp 120) 4, type := 4, pos := "law.go:92", after := #[{ on := 40, ground := Go.Ground.data }, { on := 44, ground := Go.Ground.data }, { on := 37, ground := Go.Ground.guard }], guard := some (37, true) }) (v := ?v45_2) rfl (by kernel_rfl) (by kernel_rfl) (by kernel_rfl) (fun _ _ _ h => h) (Or.inl ⟨by rfl, ?y45_2⟩) hHeld ?r45_2
       case y45_2 => intro w hSw; (try dsimp only at hSw); go_simp; try with_reducible rfl
       try simp only [Act.put, List.setIfInBounds_toArray, List.set_cons_zero, List.set_cons_succ]
       refine wpAnyH_take (i := 46) (oi := { dst := some 122, op := Go.Op.pick (Go.Operand.tmp 113) (Go.Operand.tmp 121) (Go.Operand.const (Go.Value.bool false)), type := 4, pos := "law.go:92", after := #[{ on := 37, ground := Go.Ground.data }, { on := 45, ground := Go.Ground.data }], guard := none }) (v := ?v46_2) rfl (by kernel_rfl) (by kernel_rfl) (by kernel_rfl) (fun _ _ _ h => h) (Or.inl ⟨by rfl, ?y46_2⟩) hHeld ?r46_2
       case y46_2 => intro w hSw; (try dsimp only at hSw); go_simp; try with_reducible rfl
       try simp only [Act.put, List.setIfInBounds_toArray, List.set_cons_zero, List.set_cons_succ]
       refine wpAnyH_take (i := 47) (oi := { dst := some 123, op := Go.Op.move (Go.Operand.tmp 122), type := 4, pos := "law.go:92", after := #[{ on := 46, ground := Go.Ground.data }, { on := 44, ground := Go.Ground.chain }], guard := none }) (v := ?v47_2) rfl (by kernel_rfl) (by kernel_rfl) (by kernel_rfl) (fun _ _ _ h => h) (Or.inl ⟨by rfl, ?y47_2⟩) hHeld ?r47_2
       case y47_2 => intro w hSw; (try dsimp only at hSw); go_simp; try with_reducible rfl
       try simp only [Act.put, List.setIfInBounds_toArray, List.set_cons_zero, List.set_cons_succ]
       refine wpAnyH_take (i := 48) (oi := { dst := some 124, op := Go.Op.load 73 (Go.Operand.tmp 4), type := 73, pos := "law.go:92", after := #[{ on := 47, ground := Go.Ground.guard }], guard := some (47, true) }) (v := ?v48_2) rfl (by kernel_rfl) (by kernel_rfl) (by kernel_rfl) (fun _ _ _ h => h) (Or.inl ⟨by rfl, ?y48_2⟩) hHeld ?r48_2
       case y48_2 => intro w hSw; (try dsimp only at hSw); go_simp; try with_reducible rfl
       try simp only [Act.put, List.setIfInBounds_toArray, List.set_cons_zero, List.set_cons_succ]
       refine wpAnyH_take (i := 49) (oi := { dst := some 125, op := Go.Op.load 73 (Go.Operand.tmp 5), type := 73, pos := "law.go:92", after := #[{ on := 47, ground := Go.Ground.guard }], guard := some (47, true) }) (v := ?v49_2) rfl (by kernel_rfl) (by kernel_rfl) (by kernel_rfl) (fun _ _ _ h => h) (Or.inl ⟨by rfl, ?y49_2⟩) hHeld ?r49_2
       case y49_2 => intro w hSw; (try dsimp only at hSw); go_simp; try with_reducible rfl
       try simp only [Act.put, List.setIfInBounds_toArray, List.set_cons_zero, List.set_cons_succ]
       refine wpAnyH_take (i := 51) (oi := { dst := some 127, op := Go.Op.load 73 (Go.Operand.tmp 4), type := 73, pos := "law.go:92", after := #[{ on := 47, ground := Go.Ground.guard }], guard := some (47, true) }) (v := ?v51_2) rfl (by kernel_rfl) (by kernel_rfl) (by kernel_rfl) (fun _ _ _ h => h) (Or.inl ⟨by rfl, ?y51_2⟩) hHeld ?r51_2
       case y51_2 => intro w hSw; (try dsimp only at hSw); go_simp; try with_reducible rfl
       try simp only [Act.put, List.setIfInBounds_toArray, List.set_cons_zero, List.set_cons_succ]
       refine wpAnyH_take (i := 53) (oi := { dst := some 129, op := Go.Op.load 73 (Go.Operand.tmp 5), type := 73, pos := "law.go:92", after := #[{ on := 47, ground := Go.Ground.guard }], guard := some (47, true) }) (v := ?v53_2) rfl (by kernel_rfl) (by kernel_rfl) (by kernel_rfl) (fun _ _ _ h => h) (Or.inl ⟨by rfl, ?y53_2⟩) hHeld ?r53_2
       case y53_2 => intro w hSw; (try dsimp only at hSw); go_simp; try with_reducible rfl
       try simp only [Act.put, List.setIfInBounds_toArray, List.set_cons_zero, List.set_cons_succ]
       refine wpAnyH_ready (rs := [50]) (by kernel_rfl) (by simp) ?_
       refine AllReadyH.cons (o := { dst := some 126, op := Go.Op.call { callee := Go.Callee.value (Go.Operand.func 59), args := #[Go.Operand.tmp 124, Go.Operand.tmp 125], argTypes := #[73, 73] }, type := 4, pos := "law.go:92", after := #[{ on := 48, ground := Go.Ground.data }, { on := 49, ground := Go.Ground.data }, { on := 47, ground := Go.Ground.chain }, { on := 47, ground := Go.Ground.guard }], guard := some (47, true) }) rfl (fun K hK => ?_) AllReadyH.nil
       go_simp
       refine (HSM.out _ (KS.get hHeld).2).mono ?_; rintro e wy ⟨rfl, hb⟩
       go_wp2_with fail
       refine hK.out _ _ (KS.next hb hHeld) (fun hHeld2 => ?_)
       clear hK K hHeld
       have hHeld := hHeld2
       clear hHeld2
       try simp only [Act.put, List.setIfInBounds_toArray, List.set_cons_zero, List.set_cons_succ]
       refine wpAnyH_ready (rs := [52]) (by kernel_rfl) (by simp) ?_
       refine AllReadyH.cons (o := { dst := some 128, op := Go.Op.call { callee := Go.Callee.value (Go.Operand.func 49), args := #[Go.Operand.tmp 127], argTypes := #[73] }, type := 78, pos := "law.go:92", after := #[{ on := 51, ground := Go.Ground.data }, { on := 50, ground := Go.Ground.chain }, { on := 47, ground := Go.Ground.guard }], guard := some (47, true) }) rfl (fun K hK => ?_) AllReadyH.nil
       go_simp
       refine (HP1.out _).mono ?_; rintro e wy ⟨rfl, hb⟩
       go_wp2_with fail
       refine hK.out _ _ (KS.next hb hHeld) (fun hHeld2 => ?_)
       clear hK K hHeld
       have hHeld := hHeld2
       clear hHeld2
       try simp only [Act.put, List.setIfInBounds_toArray, List.set_cons_zero, List.set_cons_succ]
       refine wpAnyH_ready (rs := [54]) (by kernel_rfl) (by simp) ?_
       refine AllReadyH.cons (o := { dst := some 130, op := Go.Op.call { callee := Go.Callee.value (Go.Operand.func 49), args := #[Go.Operand.tmp 129], argTypes := #[73] }, type := 78, pos := "law.go:92", after := #[{ on := 53, ground := Go.Ground.data }, { on := 52, ground := Go.Ground.chain }, { on := 47, ground := Go.Ground.guard }], guard := some (47, true) }) rfl (fun K hK => ?_) AllReadyH.nil
       go_simp
       refine (HP2.out _).mono ?_; rintro e wy ⟨rfl, hb⟩
       go_wp2_with fail
       refine hK.out _ _ (KS.next hb hHeld) (fun hHeld2 => ?_)
       clear hK K hHeld
       have hHeld := hHeld2
       clear hHeld2
       try simp only [Act.put, List.setIfInBounds_toArray, List.set_cons_zero, List.set_cons_succ]
       refine wpAnyH_ready (rs := [55]) (by kernel_rfl) (by simp) ?_
       refine AllReadyH.cons (o := { dst := some 131, op := Go.Op.call { callee := Go.Callee.value (Go.Operand.func 57), args := #[Go.Operand.tmp 128, Go.Operand.tmp 130], argTypes := #[78, 78] }, type := 4, pos := "law.go:92", after := #[{ on := 52, ground := Go.Ground.data }, { on := 54, ground := Go.Ground.data }, { on := 54, ground := Go.Ground.chain }, { on := 47, ground := Go.Ground.guard }], guard := some (47, true) }) rfl (fun K hK => ?_) AllReadyH.nil
       go_simp
       refine (HRS.out _ (KS.get hHeld).2).mono ?_; rintro e wy ⟨rfl, hb⟩
       go_wp2_with fail
       refine hK.out _ _ (KS.next hb hHeld) (fun hHeld2 => ?_)
       clear hK K hHeld
       have hHeld := hHeld2
       clear hHeld2
       try simp only [Act.put, List.setIfInBounds_toArray, List.set_cons_zero, List.set_cons_succ]
       refine wpAnyH_take (i := 56) (oi := { dst := some 132, op := Go.Op.binOp Go.BinOp.eql 4 (Go.Operand.tmp 126) (Go.Operand.tmp 131) 4, type := 4, pos := "law.go:92", after := #[{ on := 50, ground := Go.Ground.data }, { on := 55, ground := Go.Ground.data }, { on := 47, ground := Go.Ground.guard }], guard := some (47, true) }) (v := ?v56_2) rfl (by kernel_rfl) (by kernel_rfl) (by kernel_rfl) (fun _ _ _ h => h) (Or.inl ⟨by rfl, ?y56_2⟩) hHeld ?r56_2
       case y56_2 => intro w hSw; (try dsimp only at hSw); go_simp; try with_reducible rfl
       try simp only [Act.put, List.setIfInBounds_toArray, List.set_cons_zero, List.set_cons_succ]
       refine wpAnyH_take (i := 57) (oi := { dst := some 133, op := Go.Op.pick (Go.Operand.tmp 123) (Go.Operand.tmp 132) (Go.Operand.const (Go.Value.bool false)), type := 4, pos := "law.go:92", after := #[{ on := 47, ground := Go.Ground.data }, { on := 56, ground := Go.Ground.data }], guard := none }) (v := ?v57_2) rfl (by kernel_rfl) (by kernel_rfl) (by kernel_rfl) (fun _ _ _ h => h) (Or.inl ⟨by rfl, ?y57_2⟩) hHeld ?r57_2
       case y57_2 => intro w hSw; (try dsimp only at hSw); go_simp; try with_reducible rfl
       try simp only [Act.put, List.setIfInBounds_toArray, List.set_cons_zero, List.set_cons_succ]
       refine wpAnyH_take (i := 58) (oi := { dst := some 134, op := Go.Op.move (Go.Operand.tmp 133), type := 4, pos := "law.go:92", after := #[{ on := 57, ground := Go.Ground.data }, { on := 55, ground := Go.Ground.chain }], guard := none }) (v := ?v58_2) rfl (by kernel_rfl) (by kernel_rfl) (by kernel_rfl) (fun _ _ _ h => h) (Or.inl ⟨by rfl, ?y58_2⟩) hHeld ?r58_2
       case y58_2 => intro w hSw; (try dsimp only at hSw); go_simp; try with_reducible rfl
       try simp only [Act.put, List.setIfInBounds_toArray, List.set_cons_zero, List.set_cons_succ]
       refine wpAnyH_take (i := 59) (oi := { dst := some 135, op := Go.Op.move (Go.Operand.tmp 12), type := 4, pos := "law.go:92", after := #[{ on := 58, ground := Go.Ground.guard }], guard := some (58, true) }) (v := ?v59_2) rfl (by kernel_rfl) (by kernel_rfl) (by kernel_rfl) (fun _ _ _ h => h) (Or.inl ⟨by rfl, ?y59_2⟩) hHeld ?r59_2
       case y59_2 => intro w hSw; (try dsimp only at hSw); go_simp; try with_reducible rfl
       try simp only [Act.put, List.setIfInBounds_toArray, List.set_cons_zero, List.set_cons_succ]
       refine wpAnyH_take (i := 60) (oi := { dst := some 136, op := Go.Op.pick (Go.Operand.tmp 134) (Go.Operand.tmp 135) (Go.Operand.const (Go.Value.bool false)), type := 4, pos := "law.go:92", after := #[{ on := 58, ground := Go.Ground.data }, { on := 59, ground := Go.Ground.data }], guard := none }) (v := ?v60_2) rfl (by kernel_rfl) (by kernel_rfl) (by kernel_rfl) (fun _ _ _ h => h) (Or.inl ⟨by rfl, ?y60_2⟩) hHeld ?r60_2
       case y60_2 => intro w hSw; (try dsimp only at hSw); go_simp; try with_reducible rfl
       try simp only [Act.put, List.setIfInBounds_toArray, List.set_cons_zero, List.set_cons_succ]
       as_aux_lemma =>
        refine wpAnyH_take (i := 61) (oi := { dst := some 137, op := Go.Op.move (Go.Operand.tmp 136), type := 4, pos := "law.go:92", after := #[{ on := 60, ground := Go.Ground.data }, { on := 58, ground := Go.Ground.chain }], guard := none }) (v := ?v61_2) rfl (by kernel_rfl) (by kernel_rfl) (by kernel_rfl) (fun _ _ _ h => h) (Or.inl ⟨by rfl, ?y61_2⟩) hHeld ?r61_2
        case y61_2 => intro w hSw; (try dsimp only at hSw); go_simp; try with_reducible rfl
        try simp only [Act.put, List.setIfInBounds_toArray, List.set_cons_zero, List.set_cons_succ]
        refine wpAnyH_take (i := 62) (oi := { dst := some 138, op := Go.Op.fieldAddr 73 (Go.Operand.tmp 4) 2, type := 0, pos := "law.go:92", after := #[{ on := 61, ground := Go.Ground.guard }], guard := some (61, true) }) (v := ?v62_2) rfl (by kernel_rfl) (by kernel_rfl) (by kernel_rfl) (fun _ _ _ h => h) (Or.inl ⟨by rfl, ?y62_2⟩) hHeld ?r62_2
        case y62_2 => intro w hSw; (try dsimp only at hSw); go_simp; try with_reducible rfl
        try simp only [Act.put, List.setIfInBounds_toArray, List.set_cons_zero, List.set_cons_succ]
        refine wpAnyH_take (i := 63) (oi := { dst := some 139, op := Go.Op.load 45 (Go.Operand.tmp 138), type := 45, pos := "law.go:92", after := #[{ on := 62, ground := Go.Ground.data }, { on := 61, ground := Go.Ground.guard }], guard := some (61, true) }) (v := ?v63_2) rfl (by kernel_rfl) (by kernel_rfl) (by kernel_rfl) (fun _ _ _ h => h) (Or.inl ⟨by rfl, ?y63_2⟩) hHeld ?r63_2
        case y63_2 => intro w hSw; (try dsimp only at hSw); go_simp; try with_reducible rfl
        try simp only [Act.put, List.setIfInBounds_toArray, List.set_cons_zero, List.set_cons_succ]
        refine wpAnyH_take (i := 64) (oi := { dst := some 140, op := Go.Op.call { callee := Go.Callee.builtin Go.Builtin.len, args := #[Go.Operand.tmp 139], argTypes := #[45] }, type := 3, pos := "law.go:92", after := #[{ on := 63, ground := Go.Ground.data }, { on := 61, ground := Go.Ground.guard }], guard := some (61, true) }) (v := ?v64_2) rfl (by kernel_rfl) (by kernel_rfl) (by kernel_rfl) (fun _ _ _ h => h) (Or.inl ⟨by rfl, ?y64_2⟩) hHeld ?r64_2
        case y64_2 => intro w hSw; (try dsimp only at hSw); go_simp; try with_reducible rfl
        try simp only [Act.put, List.setIfInBounds_toArray, List.set_cons_zero, List.set_cons_succ]
        refine wpAnyH_take (i := 65) (oi := { dst := some 141, op := Go.Op.binOp Go.BinOp.eql 3 (Go.Operand.tmp 140) (Go.Operand.const (Go.Value.int Go.IntKind.i64 0)) 3, type := 4, pos := "law.go:92", after := #[{ on := 64, ground := Go.Ground.data }, { on := 61, ground := Go.Ground.guard }], guard := some (61, true) }) (v := ?v65_2) rfl (by kernel_rfl) (by kernel_rfl) (by kernel_rfl) (fun _ _ _ h => h) (Or.inl ⟨by rfl, ?y65_2⟩) hHeld ?r65_2
        case y65_2 => intro w hSw; (try dsimp only at hSw); go_simp; try with_reducible rfl
        try simp only [Act.put, List.setIfInBounds_toArray, List.set_cons_zero, List.set_cons_succ]
        refine wpAnyH_take (i := 66) (oi := { dst := some 142, op := Go.Op.move (Go.Operand.tmp 141), type := 4, pos := "law.go:92", after := #[{ on := 65, ground := Go.Ground.data }, { on := 61, ground := Go.Ground.chain }, { on := 61, ground := Go.Ground.guard }], guard := some (61, true) }) (v := ?v66_2) rfl (by kernel_rfl) (by kernel_rfl) (by kernel_rfl) (fun _ _ _ h => h) (Or.inl ⟨by rfl, ?y66_2⟩) hHeld ?r66_2
        case y66_2 => intro w hSw; (try dsimp only at hSw); go_simp; try with_reducible rfl
        try simp only [Act.put, List.setIfInBounds_toArray, List.set_cons_zero, List.set_cons_succ]
        refine wpAnyH_take (i := 67) (oi := { dst := some 143, op := Go.Op.load 73 (Go.Operand.tmp 11), type := 73, pos := "law.go:92", after := #[{ on := 66, ground := Go.Ground.guard }], guard := some (66, false) }) (v := ?v67_2) rfl (by kernel_rfl) (by kernel_rfl) (by kernel_rfl) (fun _ _ _ h => h) (Or.inl ⟨by rfl, ?y67_2⟩) hHeld ?r67_2
        case y67_2 => intro w hSw; (try dsimp only at hSw); go_simp; try with_reducible rfl
        try simp only [Act.put, List.setIfInBounds_toArray, List.set_cons_zero, List.set_cons_succ]
        refine wpAnyH_take (i := 68) (oi := { dst := some 144, op := Go.Op.load 73 (Go.Operand.tmp 4), type := 73, pos := "law.go:92", after := #[{ on := 66, ground := Go.Ground.guard }], guard := some (66, false) }) (v := ?v68_2) rfl (by kernel_rfl) (by kernel_rfl) (by kernel_rfl) (fun _ _ _ h => h) (Or.inl ⟨by rfl, ?y68_2⟩) hHeld ?r68_2
        case y68_2 => intro w hSw; (try dsimp only at hSw); go_simp; try with_reducible rfl
        try simp only [Act.put, List.setIfInBounds_toArray, List.set_cons_zero, List.set_cons_succ]
        refine wpAnyH_ready (rs := [69]) (by kernel_rfl) (by simp) ?_
        refine AllReadyH.cons (o := { dst := some 145, op := Go.Op.call { callee := Go.Callee.value (Go.Operand.func 59), args := #[Go.Operand.tmp 143, Go.Operand.tmp 144], argTypes := #[73, 73] }, type := 4, pos := "law.go:92", after := #[{ on := 67, ground := Go.Ground.data }, { on := 68, ground := Go.Ground.data }, { on := 66, ground := Go.Ground.chain }, { on := 66, ground := Go.Ground.guard }], guard := some (66, false) }) rfl (fun K hK => ?_) AllReadyH.nil
        go_simp
        refine (HSC.out _ (KS.get hHeld)).mono ?_; rintro e wy ⟨rfl, hb⟩
        go_wp2_with fail
        refine hK.out _ _ (KS.next hb hHeld) (fun hHeld2 => ?_)
        clear hK K hHeld
        have hHeld := hHeld2
        clear hHeld2
        try simp only [Act.put, List.setIfInBounds_toArray, List.set_cons_zero, List.set_cons_succ]
        refine wpAnyH_take (i := 70) (oi := { dst := some 146, op := Go.Op.unOp Go.UnOp.not 4 (Go.Operand.tmp 145), type := 4, pos := "law.go:92", after := #[{ on := 69, ground := Go.Ground.data }, { on := 66, ground := Go.Ground.guard }], guard := some (66, false) }) (v := ?v70_2) rfl (by kernel_rfl) (by kernel_rfl) (by kernel_rfl) (fun _ _ _ h => h) (Or.inl ⟨by rfl, ?y70_2⟩) hHeld ?r70_2
        case y70_2 => intro w hSw; (try dsimp only at hSw); go_simp; try with_reducible rfl
        try simp only [Act.put, List.setIfInBounds_toArray, List.set_cons_zero, List.set_cons_succ]
        refine wpAnyH_take (i := 71) (oi := { dst := some 147, op := Go.Op.pick (Go.Operand.tmp 142) (Go.Operand.const (Go.Value.bool true)) (Go.Operand.tmp 146), type := 4, pos := "law.go:92", after := #[{ on := 66, ground := Go.Ground.data }, { on := 70, ground := Go.Ground.data }, { on := 61, ground := Go.Ground.guard }], guard := some (61, true) }) (v := ?v71_2) rfl (by kernel_rfl) (by kernel_rfl) (by kernel_rfl) (fun _ _ _ h => h) (Or.inl ⟨by rfl, ?y71_2⟩) hHeld ?r71_2
        case y71_2 => intro w hSw; (try dsimp only at hSw); go_simp; try with_reducible rfl
        try simp only [Act.put, List.setIfInBounds_toArray, List.set_cons_zero, List.set_cons_succ]
        refine wpAnyH_take (i := 72) (oi := { dst := some 148, op := Go.Op.pick (Go.Operand.tmp 137) (Go.Operand.tmp 147) (Go.Operand.const (Go.Value.bool false)), type := 4, pos := "law.go:92", after := #[{ on := 61, ground := Go.Ground.data }, { on := 71, ground := Go.Ground.data }], guard := none }) (v := ?v72_2) rfl (by kernel_rfl) (by kernel_rfl) (by kernel_rfl) (fun _ _ _ h => h) (Or.inl ⟨by rfl, ?y72_2⟩) hHeld ?r72_2
        case y72_2 => intro w hSw; (try dsimp only at hSw); go_simp; try with_reducible rfl
        try simp only [Act.put, List.setIfInBounds_toArray, List.set_cons_zero, List.set_cons_succ]
        refine wpAnyH_take (i := 73) (oi := { dst := some 149, op := Go.Op.move (Go.Operand.tmp 148), type := 4, pos := "law.go:92", after := #[{ on := 72, ground := Go.Ground.data }, { on := 69, ground := Go.Ground.chain }], guard := none }) (v := ?v73_2) rfl (by kernel_rfl) (by kernel_rfl) (by kernel_rfl) (fun _ _ _ h => h) (Or.inl ⟨by rfl, ?y73_2⟩) hHeld ?r73_2
        case y73_2 => intro w hSw; (try dsimp only at hSw); go_simp; try with_reducible rfl
        try simp only [Act.put, List.setIfInBounds_toArray, List.set_cons_zero, List.set_cons_succ]
        refine wpAnyH_take (i := 74) (oi := { dst := some 150, op := Go.Op.load 73 (Go.Operand.tmp 4), type := 73, pos := "law.go:92", after := #[{ on := 73, ground := Go.Ground.guard }], guard := some (73, true) }) (v := ?v74_2) rfl (by kernel_rfl) (by kernel_rfl) (by kernel_rfl) (fun _ _ _ h => h) (Or.inl ⟨by rfl, ?y74_2⟩) hHeld ?r74_2
        case y74_2 => intro w hSw; (try dsimp only at hSw); go_simp; try with_reducible rfl
        try simp only [Act.put, List.setIfInBounds_toArray, List.set_cons_zero, List.set_cons_succ]
        refine wpAnyH_take (i := 75) (oi := { dst := some 151, op := Go.Op.move (Go.Operand.tmp 3), type := 9, pos := "law.go:92", after := #[{ on := 73, ground := Go.Ground.guard }], guard := some (73, true) }) (v := ?v75_2) rfl (by kernel_rfl) (by kernel_rfl) (by kernel_rfl) (fun _ _ _ h => h) (Or.inl ⟨by rfl, ?y75_2⟩) hHeld ?r75_2
        case y75_2 => intro w hSw; (try dsimp only at hSw); go_simp; try with_reducible rfl
        try simp only [Act.put, List.setIfInBounds_toArray, List.set_cons_zero, List.set_cons_succ]
        refine wpAnyH_take (i := 77) (oi := { dst := some 153, op := Go.Op.fieldAddr 73 (Go.Operand.tmp 4) 2, type := 0, pos := "law.go:92", after := #[{ on := 73, ground := Go.Ground.guard }], guard := some (73, true) }) (v := ?v77_2) rfl (by kernel_rfl) (by kernel_rfl) (by kernel_rfl) (fun _ _ _ h => h) (Or.inl ⟨by rfl, ?y77_2⟩) hHeld ?r77_2
        case y77_2 => intro w hSw; (try dsimp only at hSw); go_simp; try with_reducible rfl
        try simp only [Act.put, List.setIfInBounds_toArray, List.set_cons_zero, List.set_cons_succ]
        refine wpAnyH_take (i := 78) (oi := { dst := some 154, op := Go.Op.load 45 (Go.Operand.tmp 153), type := 45, pos := "law.go:92", after := #[{ on := 77, ground := Go.Ground.data }, { on := 73, ground := Go.Ground.guard }], guard := some (73, true) }) (v := ?v78_2) rfl (by kernel_rfl) (by kernel_rfl) (by kernel_rfl) (fun _ _ _ h => h) (Or.inl ⟨by rfl, ?y78_2⟩) hHeld ?r78_2
        case y78_2 => intro w hSw; (try dsimp only at hSw); go_simp; try with_reducible rfl
        try simp only [Act.put, List.setIfInBounds_toArray, List.set_cons_zero, List.set_cons_succ]
        refine wpAnyH_take (i := 79) (oi := { dst := some 155, op := Go.Op.move (Go.Operand.tmp 3), type := 9, pos := "law.go:92", after := #[{ on := 73, ground := Go.Ground.guard }], guard := some (73, true) }) (v := ?v79_2) rfl (by kernel_rfl) (by kernel_rfl) (by kernel_rfl) (fun _ _ _ h => h) (Or.inl ⟨by rfl, ?y79_2⟩) hHeld ?r79_2
        case y79_2 => intro w hSw; (try dsimp only at hSw); go_simp; try with_reducible rfl
        try simp only [Act.put, List.setIfInBounds_toArray, List.set_cons_zero, List.set_cons_succ]
        refine wpAnyH_ready (rs := [76]) (by kernel_rfl) (by simp) ?_
        refine AllReadyH.cons (o := { dst := some 152, op := Go.Op.call { callee := Go.Callee.value (Go.Operand.func 65), args := #[Go.Operand.tmp 150, Go.Operand.tmp 151], argTypes := #[73, 9] }, type := 4, pos := "law.go:92", after := #[{ on := 74, ground := Go.Ground.data }, { on := 75, ground := Go.Ground.data }, { on := 73, ground := Go.Ground.chain }, { on := 73, ground := Go.Ground.guard }], guard := some (73, true) }) rfl (fun K hK => ?_) AllReadyH.nil
        go_simp
        refine (HHA.out _ (KS.get hHeld).2).mono ?_; rintro e wy ⟨rfl, hb⟩
        go_wp2_with fail
        refine hK.out _ _ (KS.next hb hHeld) (fun hHeld2 => ?_)
        clear hK K hHeld
        have hHeld := hHeld2
        clear hHeld2
        try simp only [Act.put, List.setIfInBounds_toArray, List.set_cons_zero, List.set_cons_succ]
        refine wpAnyH_ready (rs := [80]) (by kernel_rfl) (by simp) ?_
        refine AllReadyH.cons (o := { dst := some 156, op := Go.Op.call { callee := Go.Callee.value (Go.Operand.func 66), args := #[Go.Operand.tmp 154, Go.Operand.tmp 155], argTypes := #[45, 9] }, type := 4, pos := "law.go:92", after := #[{ on := 78, ground := Go.Ground.data }, { on := 79, ground := Go.Ground.data }, { on := 76, ground := Go.Ground.chain }, { on := 73, ground := Go.Ground.guard }], guard := some (73, true) }) rfl (fun K hK => ?_) AllReadyH.nil
        go_simp
        refine (HRH.out _ (KS.get hHeld).2).mono ?_; rintro e wy ⟨rfl, hb⟩
        go_wp2_with fail
        refine hK.out _ _ (KS.next hb hHeld) (fun hHeld2 => ?_)
        clear hK K hHeld
        have hHeld := hHeld2
        clear hHeld2
        try simp only [Act.put, List.setIfInBounds_toArray, List.set_cons_zero, List.set_cons_succ]
        refine wpAnyH_take (i := 81) (oi := { dst := some 157, op := Go.Op.binOp Go.BinOp.eql 4 (Go.Operand.tmp 152) (Go.Operand.tmp 156) 4, type := 4, pos := "law.go:92", after := #[{ on := 76, ground := Go.Ground.data }, { on := 80, ground := Go.Ground.data }, { on := 73, ground := Go.Ground.guard }], guard := some (73, true) }) (v := ?v81_2) rfl (by kernel_rfl) (by kernel_rfl) (by kernel_rfl) (fun _ _ _ h => h) (Or.inl ⟨by rfl, ?y81_2⟩) hHeld ?r81_2
        case y81_2 => intro w hSw; (try dsimp only at hSw); go_simp; try with_reducible rfl
        try simp only [Act.put, List.setIfInBounds_toArray, List.set_cons_zero, List.set_cons_succ]
        refine wpAnyH_take (i := 82) (oi := { dst := some 158, op := Go.Op.pick (Go.Operand.tmp 149) (Go.Operand.tmp 157) (Go.Operand.const (Go.Value.bool false)), type := 4, pos := "law.go:92", after := #[{ on := 73, ground := Go.Ground.data }, { on := 81, ground := Go.Ground.data }], guard := none }) (v := ?v82_2) rfl (by kernel_rfl) (by kernel_rfl) (by kernel_rfl) (fun _ _ _ h => h) (Or.inl ⟨by rfl, ?y82_2⟩) hHeld ?r82_2
        case y82_2 => intro w hSw; (try dsimp only at hSw); go_simp; try with_reducible rfl
        try simp only [Act.put, List.setIfInBounds_toArray, List.set_cons_zero, List.set_cons_succ]
        refine wpAnyH_take (i := 83) (oi := { dst := some 159, op := Go.Op.move (Go.Operand.tmp 158), type := 4, pos := "law.go:92", after := #[{ on := 82, ground := Go.Ground.data }, { on := 80, ground := Go.Ground.chain }], guard := none }) (v := ?v83_2) rfl (by kernel_rfl) (by kernel_rfl) (by kernel_rfl) (fun _ _ _ h => h) (Or.inl ⟨by rfl, ?y83_2⟩) hHeld ?r83_2
        case y83_2 => intro w hSw; (try dsimp only at hSw); go_simp; try with_reducible rfl
        try simp only [Act.put, List.setIfInBounds_toArray, List.set_cons_zero, List.set_cons_succ]
        refine wpAnyH_take (i := 84) (oi := { dst := some 160, op := Go.Op.load 23 (Go.Operand.tmp 13), type := 23, pos := "law.go:92", after := #[{ on := 83, ground := Go.Ground.guard }], guard := some (83, true) }) (v := ?v84_2) rfl (by kernel_rfl) (by kernel_rfl) (by kernel_rfl) (fun _ _ _ h => h) (Or.inl ⟨by rfl, ?y84_2⟩) hHeld ?r84_2
        case y84_2 => intro w hSw; (try dsimp only at hSw); go_simp; try with_reducible rfl
        try simp only [Act.put, List.setIfInBounds_toArray, List.set_cons_zero, List.set_cons_succ]
        refine wpAnyH_take (i := 86) (oi := { dst := some 162, op := Go.Op.fieldAddr 73 (Go.Operand.tmp 4) 0, type := 0, pos := "law.go:92", after := #[{ on := 83, ground := Go.Ground.guard }], guard := some (83, true) }) (v := ?v86_2) rfl (by kernel_rfl) (by kernel_rfl) (by kernel_rfl) (fun _ _ _ h => h) (Or.inl ⟨by rfl, ?y86_2⟩) hHeld ?r86_2
        case y86_2 => intro w hSw; (try dsimp only at hSw); go_simp; try with_reducible rfl
        try simp only [Act.put, List.setIfInBounds_toArray, List.set_cons_zero, List.set_cons_succ]
        refine wpAnyH_take (i := 87) (oi := { dst := some 163, op := Go.Op.load 68 (Go.Operand.tmp 162), type := 68, pos := "law.go:92", after := #[{ on := 86, ground := Go.Ground.data }, { on := 83, ground := Go.Ground.guard }], guard := some (83, true) }) (v := ?v87_2) rfl (by kernel_rfl) (by kernel_rfl) (by kernel_rfl) (fun _ _ _ h => h) (Or.inl ⟨by rfl, ?y87_2⟩) hHeld ?r87_2
        case y87_2 => intro w hSw; (try dsimp only at hSw); go_simp; try with_reducible rfl
        try simp only [Act.put, List.setIfInBounds_toArray, List.set_cons_zero, List.set_cons_succ]
        refine wpAnyH_ready (rs := [85]) (by kernel_rfl) (by simp) ?_
        refine AllReadyH.cons (o := { dst := some 161, op := Go.Op.call { callee := Go.Callee.value (Go.Operand.func 67), args := #[Go.Operand.tmp 160], argTypes := #[23] }, type := 68, pos := "law.go:92", after := #[{ on := 84, ground := Go.Ground.data }, { on := 83, ground := Go.Ground.chain }, { on := 83, ground := Go.Ground.guard }], guard := some (83, true) }) rfl (fun K hK => ?_) AllReadyH.nil
        go_simp
        refine (HKO.out _).mono ?_; rintro e wy ⟨rfl, hb⟩
        go_wp2_with fail
        refine hK.out _ _ (KS.next hb hHeld) (fun hHeld2 => ?_)
        clear hK K hHeld
        have hHeld := hHeld2
        clear hHeld2
        try simp only [Act.put, List.setIfInBounds_toArray, List.set_cons_zero, List.set_cons_succ]
        refine wpAnyH_take (i := 88) (oi := { dst := some 164, op := Go.Op.binOp Go.BinOp.eql 68 (Go.Operand.tmp 161) (Go.Operand.tmp 163) 68, type := 4, pos := "law.go:92", after := #[{ on := 85, ground := Go.Ground.data }, { on := 87, ground := Go.Ground.data }, { on := 83, ground := Go.Ground.guard }], guard := some (83, true) }) (v := ?v88_2) rfl (by kernel_rfl) (by kernel_rfl) (by kernel_rfl) (fun _ _ _ h => h) (Or.inl ⟨by rfl, ?y88_2⟩) hHeld ?r88_2
        case y88_2 => intro w hSw; (try dsimp only at hSw); go_simp; try with_reducible rfl
        try simp only [Act.put, List.setIfInBounds_toArray, List.set_cons_zero, List.set_cons_succ]
        refine wpAnyH_take (i := 89) (oi := { dst := some 165, op := Go.Op.pick (Go.Operand.tmp 159) (Go.Operand.tmp 164) (Go.Operand.const (Go.Value.bool false)), type := 4, pos := "law.go:92", after := #[{ on := 83, ground := Go.Ground.data }, { on := 88, ground := Go.Ground.data }], guard := none }) (v := ?v89_2) rfl (by kernel_rfl) (by kernel_rfl) (by kernel_rfl) (fun _ _ _ h => h) (Or.inl ⟨by rfl, ?y89_2⟩) hHeld ?r89_2
        case y89_2 => intro w hSw; (try dsimp only at hSw); go_simp; try with_reducible rfl
        try simp only [Act.put, List.setIfInBounds_toArray, List.set_cons_zero, List.set_cons_succ]
        refine wpAnyH_take (i := 90) (oi := { dst := some 8, op := Go.Op.assign (Go.Operand.tmp 165), type := 4, pos := "law.go:92", after := ([{ on := 89, ground := Go.Ground.data }, { on := 85, ground := Go.Ground.chain }, { on := 0, ground := Go.Ground.phase }, { on := 1, ground := Go.Ground.phase }, { on := 2, ground := Go.Ground.phase }, { on := 3, ground := Go.Ground.phase }, { on := 4, ground := Go.Ground.phase }, { on := 5, ground := Go.Ground.phase }, { on := 6, ground := Go.Ground.phase }, { on := 7, ground := Go.Ground.phase }, { on := 8, ground := Go.Ground.phase }, { on := 9, ground := Go.Ground.phase }, { on := 10, ground := Go.Ground.phase }, { on := 11, ground := Go.Ground.phase }, { on := 12, ground := Go.Ground.phase }, { on := 13, ground := Go.Ground.phase }, { on := 14, ground := Go.Ground.phase }, { on := 15, ground := Go.Ground.phase }, { on := 16, ground := Go.Ground.phase }, { on := 17, ground := Go.Ground.phase }, { on := 18, ground := Go.Ground.phase }, { on := 19, ground := Go.Ground.phase }, { on := 20, ground := Go.Ground.phase }, { on := 21, ground := Go.Ground.phase }, { on := 22, ground := Go.Ground.phase }, { on := 23, ground := Go.Ground.phase }, { on := 24, ground := Go.Ground.phase }, { on := 25, ground := Go.Ground.phase }, { on := 26, ground := Go.Ground.phase }, { on := 27, ground := Go.Ground.phase }, { on := 28, ground := Go.Ground.phase }, { on := 29, ground := Go.Ground.phase }, { on := 30, ground := Go.Ground.phase }, { on := 31, ground := Go.Ground.phase }, { on := 32, ground := Go.Ground.phase }, { on := 33, ground := Go.Ground.phase }, { on := 34, ground := Go.Ground.phase }, { on := 35, ground := Go.Ground.phase }, { on := 36, ground := Go.Ground.phase }, { on := 37, ground := Go.Ground.phase }, { on := 38, ground := Go.Ground.phase }, { on := 39, ground := Go.Ground.phase }, { on := 40, ground := Go.Ground.phase }, { on := 41, ground := Go.Ground.phase }, { on := 42, ground := Go.Ground.phase }, { on := 43, ground := Go.Ground.phase }].append [{ on := 44, ground := Go.Ground.phase }, { on := 45, ground := Go.Ground.phase }, { on := 46, ground := Go.Ground.phase }, { on := 47, ground := Go.Ground.phase }, { on := 48, ground := Go.Ground.phase }, { on := 49, ground := Go.Ground.phase }, { on := 50, ground := Go.Ground.phase }, { on := 51, ground := Go.Ground.phase }, { on := 52, ground := Go.Ground.phase }, { on := 53, ground := Go.Ground.phase }, { on := 54, ground := Go.Ground.phase }, { on := 55, ground := Go.Ground.phase }, { on := 56, ground := Go.Ground.phase }, { on := 57, ground := Go.Ground.phase }, { on := 58, ground := Go.Ground.phase }, { on := 59, ground := Go.Ground.phase }, { on := 60, ground := Go.Ground.phase }, { on := 61, ground := Go.Ground.phase }, { on := 62, ground := Go.Ground.phase }, { on := 63, ground := Go.Ground.phase }, { on := 64, ground := Go.Ground.phase }, { on := 65, ground := Go.Ground.phase }, { on := 66, ground := Go.Ground.phase }, { on := 67, ground := Go.Ground.phase }, { on := 68, ground := Go.Ground.phase }, { on := 69, ground := Go.Ground.phase }, { on := 70, ground := Go.Ground.phase }, { on := 71, ground := Go.Ground.phase }, { on := 72, ground := Go.Ground.phase }, { on := 73, ground := Go.Ground.phase }, { on := 74, ground := Go.Ground.phase }, { on := 75, ground := Go.Ground.phase }, { on := 76, ground := Go.Ground.phase }, { on := 77, ground := Go.Ground.phase }, { on := 78, ground := Go.Ground.phase }, { on := 79, ground := Go.Ground.phase }, { on := 80, ground := Go.Ground.phase }, { on := 81, ground := Go.Ground.phase }, { on := 82, ground := Go.Ground.phase }, { on := 83, ground := Go.Ground.phase }, { on := 84, ground := Go.Ground.phase }, { on := 85, ground := Go.Ground.phase }, { on := 86, ground := Go.Ground.phase }, { on := 87, ground := Go.Ground.phase }, { on := 88, ground := Go.Ground.phase }, { on := 89, ground := Go.Ground.phase }]).toArray, guard := none }) (v := ?v90_2) rfl (by kernel_rfl) (by kernel_rfl) (by kernel_rfl) (fun _ _ _ h => h) (Or.inl ⟨by rfl, ?y90_2⟩) hHeld ?r90_2
        case y90_2 => intro w hSw; (try dsimp only at hSw); go_simp; try with_reducible rfl
        try simp only [Act.put, List.setIfInBounds_toArray, List.set_cons_zero, List.set_cons_succ]
        refine wpAnyH_done (by kernel_rfl) ?_ _
        go_wp2
        go_ret
        exact ⟨rfl, (KS.get hHeld).2⟩
end Go.Proofs.Ytgdbbdbfaglkdaa
