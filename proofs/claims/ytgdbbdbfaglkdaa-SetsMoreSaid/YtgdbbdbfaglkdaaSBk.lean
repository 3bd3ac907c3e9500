/- Sets as records, grouped again, are the sets: the walk. -/
import Derived.Test.YtgdbbdbfaglkdaaSBa
import Derived.Test.YtgdbbdbfaglkdaaFix
namespace Go.Proofs.Ytgdbbdbfaglkdaa
open Go.RowKit

theorem ix_ss (b o n cap k : Nat) (h : k < n) (W : World) : (Instr.indexAt 66 (.slice (some ⟨b, o, none⟩) n cap) (.int .i64 (k : Int))).run Try.prog W = .ok (.pointer (some ⟨b, o + k * 5, none⟩)) W := by
  go_simp
theorem ix_st (b o n cap k : Nat) (h : k < n) (W : World) : (Instr.indexAt 45 (.slice (some ⟨b, o, none⟩) n cap) (.int .i64 (k : Int))).run Try.prog W = .ok (.pointer (some ⟨b, o + k, none⟩)) W := by
  go_simp

set_option maxRecDepth 100000 in
set_option maxHeartbeats 3200000 in
theorem walkSBack (a : Option Addr) (n c : Nat) (l : List R5) (w : World) (h : RowR w a n l) (hn : a = none → n = 0 ∧ c = 0) (hlen : n ≤ 9223372036854775807) (hsz : ∀ r ∈ l, SzR r) :
    Calls Try.prog 10 #[.slice a n c] w fun e w' => e = .returned (.bool true) ∧ Below w.heap.size w w' := by
  have HR := Lib.hid h
  have HN := Lib.hid hn
  have HSZ := Lib.hid hsz
  have HLN := Lib.hid h.1
  clear h hn hsz
  go_enter Try.func10, Try.ntmps10
  go_wp2_with fail
  refine (first4 _).mono ?_; rintro e w1 ⟨rfl, hb⟩
  have HB1 := Lib.hid hb
  clear hb
  go_wp2_with fail
  refine (few4 a n c l _ (HR.out.below HB1.out) hlen HSZ.out).mono ?_; rintro e w2 ⟨hres, m0, rfl⟩
  have HB2 := Lib.hid (below_drewN HB1.out m0)
  obtain ⟨w2, hw2⟩ : ∃ x, w1.drewN m0 = x := ⟨_, rfl⟩
  rw [hw2] at HB2 ⊢
  clear hw2 HB1
  rcases hres with rfl | ⟨rfl, hn4, hsm⟩
  · go_wp2_with fail
    refine (first4 _).mono ?_; rintro e w3 ⟨rfl, hb⟩
    have HB3 := Lib.hid (HB2.out.trans (hb.mono HB2.out.size))
    clear hb
    go_wp2
    go_ret
    exact ⟨rfl, HB3.out⟩
  have HSM := Lib.hid hsm
  clear hsm hlen
  go_wp2_with fail
  refine (group_any a n c l w2 (HR.out.below HB2.out) HN.out (by omega) (fun r hr => by have := (HSM.out r hr).1; omega)).mono ?_
  rintro e w3 ⟨a1, c1, S, rfl, hcan, hsum, hslen, hsa, hb⟩
  rw [HLN.out] at hsum hslen
  have HCAN := Lib.hid hcan
  have HSUM := Lib.hid hsum
  have HB3 := Lib.hid (HB2.out.trans (hb.mono HB2.out.size))
  obtain ⟨m, hm⟩ : ∃ m, S.length = m := ⟨_, rfl⟩
  rw [hm] at hsa hslen ⊢
  have HM := Lib.hid hm
  have HSA3 := Lib.hid hsa
  obtain ⟨f, hf⟩ : ∃ f, (flatP S).length = f := ⟨_, rfl⟩
  have hfn : f ≤ n := by rw [flatP_length] at hf; omega
  have HF := Lib.hid hf
  have HDS := Lib.hid (show ∀ s ∈ S, s.data.length ≤ 400 from fun s hs => by have := data_le_sum hs; omega)
  have HSS := Lib.hid (fun (s : SetP) (hs : s ∈ S) => hcan.size (b1 := 60000) (b2 := 60000) (fun r hr => (HSM.out r hr).1) (fun r hr => (HSM.out r hr).2) hs)
  clear hb hcan hsum hm hsa hf HB2
  go_wp2_with fail
  refine (flat_any a1 m c1 S w3 HSA3.out (by omega) (by rw [HF.out]; omega)).mono ?_
  rintro e w4 ⟨v2, rfl, hown, hb⟩
  rw [HF.out] at hown
  obtain ⟨a2, c2, rfl, hrr, hnn⟩ := rowR_own hown
  have HRR := Lib.hid hrr
  have HNN := Lib.hid hnn
  have HB4 := Lib.hid (HB3.out.trans (hb.mono HB3.out.size))
  have HSA4 := Lib.hid (HSA3.out.below hb)
  clear hb hown hrr hnn HB3 HSA3
  go_wp2_with fail
  refine (group_any a2 f c2 (flatP S) w4 HRR.out HNN.out (by omega) (fun r hr => by
    obtain ⟨s, hs, h1, _⟩ := mem_flatP.1 hr
    have := (HSS.out s hs).1
    rw [h1]; omega)).mono ?_
  rintro e w5 ⟨a3, c3, S3, rfl, hcan3, -, -, hsa3, hb⟩
  have e3 : S3 = S := canon_eq hcan3 HCAN.out.flat (fun _ _ => Iff.rfl) (fun _ _ => Iff.rfl)
  rw [e3, HM.out] at hsa3
  rw [e3, HM.out]
  have HSA5 := Lib.hid hsa3
  have HB5 := Lib.hid (HB4.out.trans (hb.mono HB4.out.size))
  have HSB5 := Lib.hid (HSA4.out.below hb)
  clear hb hcan3 hsa3 e3 HRR HNN HB4 HSA4
  have d1 : decide (n < f) = false := dF (by omega)
  go_wp2_with fail
  refine (plains_any a3 m c3 S w5 HSA5.out (by omega)).mono ?_
  rintro e w6 ⟨⟨a4, c4, rfl, hsa4⟩, hb⟩
  have HSA6 := Lib.hid hsa4
  have HB6 := Lib.hid (HB5.out.trans (hb.mono HB5.out.size))
  have HSB6 := Lib.hid (HSB5.out.below hb)
  clear hb hsa4 HSA5 HB5 HSB5
  go_wp2_with fail
  refine (plains_any a1 m c1 S w6 HSB6.out (by omega)).mono ?_
  rintro e w7 ⟨⟨a5, c5, rfl, hsa5⟩, hb⟩
  have HSA7 := Lib.hid hsa5
  have HSA8 := Lib.hid (HSA6.out.below hb)
  have HB7 := Lib.hid (HB6.out.trans (hb.mono HB6.out.size))
  have HSB7 := Lib.hid (HSB6.out.below hb)
  clear hb hsa5 HSA6 HB6 HSB6
  go_wp2_with fail
  refine (sameSets_any a4 a5 m m c4 c5 S S w7 HSA8.out HSA7.out (by omega) (by omega) (fun s hs => by have := HDS.out s hs; omega)).mono ?_
  rintro e w8 ⟨⟨x, rfl, hx⟩, hb⟩
  obtain rfl : x = true := hx.2 rfl
  have HB8 := Lib.hid (HB7.out.trans (hb.mono HB7.out.size))
  have HSA := Lib.hid (HSB7.out.below hb)
  clear hb hx HB7 HSB7 HSA7 HSA8
  go_wp2_with fail
  go_loopw [6] (fun i wr => ∃ k : Nat, k ≤ m ∧ i = .int .i64 k ∧ Hid (Below w8.heap.size w8 wr)) (fun i _ => m - (intOf i).toNat)
  case atStart => exact ⟨0, Nat.zero_le _, rfl, Below.refl _ _⟩
  case round =>
    obtain ⟨k, hk, rfl, hbw⟩ := hrel
    by_cases hlt : k < m
    · rcases HSA.out.2 with h9 | ⟨b, o, rfl, hbl, hc⟩
      · omega
      obtain ⟨p, c9, hs⟩ := hc k hlt
      have hmem : S.getD k ssD ∈ S := by
        rw [List.getD_eq_getElem?_getD, List.getElem?_eq_getElem (by have := HM.out; omega)]
        exact List.getElem_mem _
      have hdl0 : (S.getD k ssD).data ≠ [] := HCAN.out.non _ hmem
      have hdl4 := HDS.out _ hmem
      have hris := HCAN.out.rise _ hmem
      obtain ⟨s, hss⟩ : ∃ s, S.getD k ssD = s := ⟨_, rfl⟩
      rw [hss] at hs hdl0 hdl4 hris
      have HSK := Lib.hid hss
      have HSX := Lib.hid hs
      obtain ⟨⟨sn, st, sc1⟩, su, sd⟩ := s
      replace hris : sd.Pairwise (fun x y => cmpB x y < 0) := hris
      replace hdl0 : sd ≠ [] := hdl0
      replace hdl4 : sd.length ≤ 400 := hdl4
      have HRIS := Lib.hid hris
      obtain ⟨dl, hdl⟩ : ∃ x, sd.length = x := ⟨_, rfl⟩
      have hpos : 0 < dl := by rw [← hdl]; exact List.length_pos_iff.2 hdl0
      rw [hdl] at hdl4
      have HDL := Lib.hid hdl
      have HW := Lib.hid hbw.out
      have e4 : ((dl : Int) == 0) = false := eF (by omega)
      have i0 : (0 : Int) ≤ (k : Int) := by omega
      have i2 : (k : Int) < (m : Int) := by omega
      clear hc hmem hdl0 hris hss hs hdl
      obtain ⟨z0, z1, z2, z3, z4, zr, -⟩ := HSX.out.below hbl hbw.out
      replace z0 : wr.cell? ⟨b, o + k * 5, none⟩ = some (.string sn) := z0
      replace z1 : wr.cell? ⟨b, o + k * 5 + 1, none⟩ = some (.int .i64 st) := z1
      replace z2 : wr.cell? ⟨b, o + k * 5 + 2, none⟩ = some (.int .i64 sc1) := z2
      replace z3 : wr.cell? ⟨b, o + k * 5 + 3, none⟩ = some (.int .i64 su) := z3
      replace z4 : wr.cell? ⟨b, o + k * 5 + 4, none⟩ = some (.slice p sd.length c9) := z4
      rw [HDL.out] at z4
      go_upto_region 13 with fail
      go_cut [67] (fun t wx => t = .bool false ∧ Hid (Below w8.heap.size w8 wx))
      case first =>
        by_cases hk0 : k = 0
        · subst hk0
          go_quiet (fail)
          rename_i nq
          have HBQ := Lib.hid (below_drewN hbw.out nq)
          go_wp2
          go_meet
          exact ⟨rfl, HBQ⟩
        · obtain ⟨k0, hk1⟩ : ∃ k0, k = k0 + 1 := ⟨k - 1, by omega⟩
          rcases HSA.out.2 with h9 | ⟨b', o', hbo, _, hc⟩
          · omega
          obtain ⟨rfl, rfl⟩ : b = b' ∧ o = o' := by simpa using hbo
          obtain ⟨p0, c0, hs0⟩ := hc k0 (by omega)
          have hmem0 : S.getD k0 ssD ∈ S := by
            rw [List.getD_eq_getElem?_getD, List.getElem?_eq_getElem (by have := HM.out; omega)]
            exact List.getElem_mem _
          have hcm : kcmp (S.getD k0 ssD).k (S.getD (k0 + 1) ssD).k < 0 := rise_at (f := fun s t : SetP => kcmp s.k t.k) HCAN.out.keys (d := ssD) (k := k0) (by have := HM.out; omega)
          rw [← hk1, HSK.out] at hcm
          have hz0 := (HSS.out _ hmem0).1
          have hz1 : sn.size ≤ 60000 := (HSS.out ⟨⟨sn, st, sc1⟩, su, sd⟩ (by
            rw [← HSK.out, List.getD_eq_getElem?_getD, List.getElem?_eq_getElem (by have := HM.out; omega)]
            exact List.getElem_mem _)).1
          obtain ⟨s0, hs00⟩ : ∃ s, S.getD k0 ssD = s := ⟨_, rfl⟩
          rw [hs00] at hs0 hcm hz0
          obtain ⟨⟨pn, pt, pc⟩, pu, pd⟩ := s0
          replace hz0 : pn.size ≤ 60000 := hz0
          have HCM := Lib.hid (fun wx => (kcompare' pn pt pc sn st sc1 wx (by omega) (by omega)).mono (fun _ _ (h : _ ∧ _) => (⟨h.1, h.2.b⟩ : _ ∧ Below wx.heap.size wx _)))
          obtain ⟨x, hx⟩ : ∃ x, kcmp ⟨pn, pt, pc⟩ ⟨sn, st, sc1⟩ = x := ⟨_, rfl⟩
          rw [hx] at HCM
          replace hcm : x < 0 := by rw [← hx]; exact hcm
          have hs0w : SetAt wr b (o + k0 * 5) ⟨⟨pn, pt, pc⟩, pu, pd⟩ p0 c0 := hs0.below hbl hbw.out
          have hfix : Fix wr [(⟨b, o + k0 * 5, none⟩, .string pn), (⟨b, o + k0 * 5 + 1, none⟩, .int .i64 pt), (⟨b, o + k0 * 5 + 2, none⟩, .int .i64 pc), (⟨b, o + k * 5, none⟩, .string sn), (⟨b, o + k * 5 + 1, none⟩, .int .i64 st), (⟨b, o + k * 5 + 2, none⟩, .int .i64 sc1), (⟨b, o + k * 5 + 4, none⟩, .slice p dl c9)] wr := Fix.start (by
            have hbl2 : b < wr.heap.size := Nat.lt_of_lt_of_le hbl hbw.out.size
            obtain ⟨q0, q1, q2, _⟩ := hs0w
            intro c hc
            simp only [List.mem_cons, List.not_mem_nil, or_false] at hc
            rcases hc with rfl | rfl | rfl | rfl | rfl | rfl | rfl
            · exact ⟨hbl2, q0⟩
            · exact ⟨hbl2, q1⟩
            · exact ⟨hbl2, q2⟩
            · exact ⟨hbl2, z0⟩
            · exact ⟨hbl2, z1⟩
            · exact ⟨hbl2, z2⟩
            · exact ⟨hbl2, z4⟩)
          have HFX := Lib.hid hfix.drew.all7
          have d2 : decide ((0 : Int) ≤ x) = false := dF (by omega)
          have d3 : decide (0 < k) = true := dT (by omega)
          have d4 : decide ((0 : Int) < (k : Int)) = true := dT (by omega)
          have i6 : k0 < m := by omega
          have i1 : (k0 : Int) < (m : Int) := by omega
          have i3 : (k : Int) - 1 = (k0 : Int) := by omega
          have i5 : IntKind.i64.wrap ((k : Int) - 1) = (k0 : Int) := by rw [IntKind.wrap_i64]; omega
          have i7 : IntKind.i64.wrap (k0 : Int) = (k0 : Int) := by rw [IntKind.wrap_i64]; omega
          have hix := ix_ss b o m c1 k0 i6
          have HK0 := Lib.hid hk1
          clear hx hk1 hc hbo hmem0 hs0 hs00 hs0w hfix hk0 z0 z1 z2 z3 z4 zr
          go_region_held3 (fun wx => Hid (Fix wr [(⟨b, o + k0 * 5, none⟩, .string pn), (⟨b, o + k0 * 5 + 1, none⟩, .int .i64 pt), (⟨b, o + k0 * 5 + 2, none⟩, .int .i64 pc), (⟨b, o + k * 5, none⟩, .string sn), (⟨b, o + k * 5 + 1, none⟩, .int .i64 st), (⟨b, o + k * 5 + 2, none⟩, .int .i64 sc1), (⟨b, o + k * 5 + 4, none⟩, .slice p dl c9)] wx) ∧ wx.cell? ⟨b, o + k0 * 5, none⟩ = some (.string pn) ∧ wx.cell? ⟨b, o + k0 * 5 + 1, none⟩ = some (.int .i64 pt) ∧ wx.cell? ⟨b, o + k0 * 5 + 2, none⟩ = some (.int .i64 pc) ∧ wx.cell? ⟨b, o + k * 5, none⟩ = some (.string sn) ∧ wx.cell? ⟨b, o + k * 5 + 1, none⟩ = some (.int .i64 st) ∧ wx.cell? ⟨b, o + k * 5 + 2, none⟩ = some (.int .i64 sc1) ∧ wx.cell? ⟨b, o + k * 5 + 4, none⟩ = some (.slice p dl c9)) (first | (exact HFX.out) | assumption | (refine Fix.next7 hb ?_; assumption))
            ((go_at_call 60; refine (HCM.out _).mono ?_; rintro e wy ⟨rfl, hb⟩))
          all_goals
            go_wp2
            go_meet
            refine ⟨rfl, Lib.hid (HW.out.trans (Below.mono (Fix.get7 (a1 := ⟨b, o + k0 * 5, none⟩) (v1 := .string pn) (a2 := ⟨b, o + k0 * 5 + 1, none⟩) (v2 := .int .i64 pt) (a3 := ⟨b, o + k0 * 5 + 2, none⟩) (v3 := .int .i64 pc) (a4 := ⟨b, o + k * 5, none⟩) (v4 := .string sn) (a5 := ⟨b, o + k * 5 + 1, none⟩) (v5 := .int .i64 st) (a6 := ⟨b, o + k * 5 + 2, none⟩) (v6 := .int .i64 sc1) (a7 := ⟨b, o + k * 5 + 4, none⟩) (v7 := .slice p dl c9) ?_) HW.out.size))⟩
            assumption
      case rest =>
        obtain ⟨rfl, hb2⟩ := hcut
        clear z0 z1 z2 z3 z4 zr hbw HW
        go_wp2_with fail
        go_loopw [7] (fun j wr => ∃ q : Nat, 1 ≤ q ∧ q ≤ dl ∧ j = .int .i64 q ∧ Hid (Below w8.heap.size w8 wr)) (fun j _ => dl - (intOf j).toNat)
        case atStart => exact ⟨1, Nat.le_refl _, by omega, by first | rfl | go_num, hb2⟩
        case round =>
          obtain ⟨q, hq1, hq2, rfl, hbw⟩ := hrel
          obtain ⟨-, -, -, -, z4, zr, -⟩ := HSX.out.below hbl hbw.out
          replace z4 : wr.cell? ⟨b, o + k * 5 + 4, none⟩ = some (.slice p sd.length c9) := z4
          replace zr : RowS wr p sd.length sd := zr
          rw [HDL.out] at z4 zr
          by_cases hlt2 : q < dl
          · rcases zr.2 with h9 | ⟨b2, o2, rfl, hbl2, hc⟩
            · omega
            obtain ⟨q0, hq0⟩ : ∃ q0, q = q0 + 1 := ⟨q - 1, by omega⟩
            have y0 := hc q0 (by omega)
            have y1 := hc q (by omega)
            have hr1 : cmpB (sd.getD q0 ByteArray.empty) (sd.getD (q0 + 1) ByteArray.empty) < 0 := rise_at HRIS.out (by have := HDL.out; omega)
            rw [← hq0] at hr1
            obtain ⟨x0, hx0⟩ : ∃ x, sd.getD q0 ByteArray.empty = x := ⟨_, rfl⟩
            obtain ⟨x1, hx1⟩ : ∃ x, sd.getD q ByteArray.empty = x := ⟨_, rfl⟩
            rw [hx0] at y0 hr1
            rw [hx1] at y1 hr1
            obtain ⟨-, g1, g2, -⟩ := less_of_cmp hr1
            have i6 : q0 < dl := by omega
            have i1 : (q0 : Int) < (dl : Int) := by omega
            have i8 : (q : Int) < (dl : Int) := by omega
            have i3 : (q : Int) - 1 = (q0 : Int) := by omega
            have i5 : IntKind.i64.wrap ((q : Int) - 1) = (q0 : Int) := by rw [IntKind.wrap_i64]; omega
            have i7 : IntKind.i64.wrap (q0 : Int) = (q0 : Int) := by rw [IntKind.wrap_i64]; omega
            have hix := ix_st b2 o2 dl c9 q0 i6
            have HQ0 := Lib.hid hq0
            clear hc hr1 hx0 hx1 zr hq0
            go_wp2_with fail
            go_quiet (fail)
            rename_i nq
            have HBQ := Lib.hid (below_drewN hbw.out nq)
            go_wp2
            go_roundw
            case rel => exact ⟨q + 1, by omega, by omega, by go_num, HBQ⟩
            case measure => simp [intOf]; omega
          · have hqd : q = dl := by omega
            subst hqd
            clear zr
            go_wp2
            go_roundw
            case rel => exact ⟨k + 1, by omega, by go_num, hbw⟩
            case measure => simp [intOf]; omega
    · obtain rfl : m = k := by omega
      obtain ⟨wo, hwo⟩ : ∃ wo : World, wr = wo := ⟨_, rfl⟩
      rw [hwo] at hbw ⊢
      clear hwo
      go_wp2_with fail
      go_loopw [8] (fun i wr => ∃ k : Nat, k ≤ n ∧ i = .int .i64 k ∧ Hid (Below w8.heap.size w8 wr)) (fun i _ => n - (intOf i).toNat)
      case atStart => exact ⟨0, Nat.zero_le _, rfl, hbw⟩
      case round =>
        clear hbw
        obtain ⟨k, hk2, rfl, hbw⟩ := hrel
        by_cases hlt2 : k < n
        · obtain ⟨b, o, r, rfl, hbl, hr, e0, e1, e2, e3, e4⟩ := (HR.out.below HB8.out).at k hlt2
          obtain ⟨⟨rn, rt, rc⟩, ru, rd⟩ := r
          obtain ⟨s, hf, hs, hsk, hsd, hst⟩ := HCAN.out.found (List.mem_of_getElem? hr)
          have hdl4 := HDS.out s hs
          replace e0 : wr.cell? ⟨b, o + k * 5, none⟩ = some (.string rn) := (hbw.out.cell (p := ⟨b, _, none⟩) hbl).trans e0
          replace e1 : wr.cell? ⟨b, o + k * 5 + 1, none⟩ = some (.int .i64 rt) := (hbw.out.cell (p := ⟨b, _, none⟩) hbl).trans e1
          replace e2 : wr.cell? ⟨b, o + k * 5 + 2, none⟩ = some (.int .i64 rc) := (hbw.out.cell (p := ⟨b, _, none⟩) hbl).trans e2
          replace e3 : wr.cell? ⟨b, o + k * 5 + 3, none⟩ = some (.int .i64 ru) := (hbw.out.cell (p := ⟨b, _, none⟩) hbl).trans e3
          replace e4 : wr.cell? ⟨b, o + k * 5 + 4, none⟩ = some (.string rd) := (hbw.out.cell (p := ⟨b, _, none⟩) hbl).trans e4
          have HFK := Lib.hid (show findK S ⟨rn, rt, rc⟩ = some s from hf)
          obtain ⟨⟨sn, st, sc1⟩, su, sd⟩ := s
          replace hsd : rd ∈ sd := hsd
          replace hst : su ≤ ru := hst
          replace hdl4 : sd.length ≤ 400 := hdl4
          have HSD := Lib.hid hsd
          obtain ⟨dl, hdl⟩ : ∃ x, sd.length = x := ⟨_, rfl⟩
          rw [hdl] at hdl4
          have HDL := Lib.hid hdl
          have d3 : decide (ru < su) = false := dF (by omega)
          have hblr : b < wr.heap.size := Nat.lt_of_lt_of_le hbl hbw.out.size
          have HE3 := Lib.hid e3
          have HE4 := Lib.hid e4
          clear hr hf hs hsk hsd hdl
          go_wp2_with fail
          refine (keyOf' rn rt rc ru rd _).mono ?_; rintro e w9 ⟨rfl, hb⟩
          have HB9 := Lib.hid hb.b
          clear hb e0 e1 e2 e3 e4
          go_wp2_with fail
          refine (find_any a1 m c1 S rn rt rc w9 (HSA.out.below (hbw.out.trans (HB9.out.mono hbw.out.size))) (by omega) (fun s hs => by have := HDS.out s hs; omega)).mono ?_
          rintro e w10 ⟨hfd, hb10⟩
          obtain ⟨dv, rfl, hown⟩ : ∃ dv, e = .returned (.tuple #[.agg #[.string sn, .int .i64 st, .int .i64 sc1, .int .i64 su, dv], .bool true]) ∧ w10.ownsRow w9.heap.size 9 1 dv sd.length (sc sd) := by
            rcases hfd with ⟨s', dv, h1, h2, h3⟩ | ⟨h1, _⟩
            · rw [HFK.out] at h1
              obtain rfl := Option.some.inj h1
              exact ⟨dv, h2, h3⟩
            · rw [HFK.out] at h1; cases h1
          rw [HDL.out] at hown
          obtain ⟨pa, pc, rfl, hrow, _⟩ := rowS_of_own hown
          have HB10 := Lib.hid (HB9.out.trans (hb10.mono HB9.out.size))
          have hal := (Below.refl w10.heap.size w10).alloc (Nat.le_refl _) (.cells #[.string sn, .int .i64 st, .int .i64 sc1, .int .i64 su, .slice pa dl pc] 73)
          have HAL := Lib.hid hal
          have HC5 := Lib.hid (c5_new w10 (.string sn) (.int .i64 st) (.int .i64 sc1) (.int .i64 su) (.slice pa dl pc) 73)
          have HROW := Lib.hid (hrow.below hal)
          clear hfd hb10 hown hrow hal HB9
          go_upto_region 24 with fail
          obtain ⟨w11, hw11⟩ : ∃ x, (w10.alloc (.cells #[.string sn, .int .i64 st, .int .i64 sc1, .int .i64 su, .slice pa dl pc] 73)) = x := ⟨_, rfl⟩
          rw [hw11] at HAL HC5 HROW ⊢
          obtain ⟨q, hq⟩ : ∃ x, w10.heap.size = x := ⟨_, rfl⟩
          have HB11 := Lib.hid (hbw.out.trans ((HB10.out.trans (HAL.out.mono HB10.out.size)).mono hbw.out.size))
          have hb11 : Below wr.heap.size wr w11 := HB10.out.trans (HAL.out.mono HB10.out.size)
          rw [hq] at HC5 ⊢
          have hfix : Fix w11 [(⟨q, 0, none⟩, .string sn), (⟨q, 1, none⟩, .int .i64 st), (⟨q, 2, none⟩, .int .i64 sc1), (⟨q, 3, none⟩, .int .i64 su), (⟨q, 4, none⟩, .slice pa dl pc), (⟨b, o + k * 5 + 3, none⟩, .int .i64 ru), (⟨b, o + k * 5 + 4, none⟩, .string rd)] w11 := Fix.start (by
            have hbl2 : b < w11.heap.size := Nat.lt_of_lt_of_le hblr hb11.size
            obtain ⟨x, y0, y1, y2, y3, y4, _⟩ := HC5.out
            intro c hc
            simp only [List.mem_cons, List.not_mem_nil, or_false] at hc
            rcases hc with rfl | rfl | rfl | rfl | rfl | rfl | rfl
            · exact ⟨x, y0⟩
            · exact ⟨x, y1⟩
            · exact ⟨x, y2⟩
            · exact ⟨x, y3⟩
            · exact ⟨x, y4⟩
            · exact ⟨hbl2, (hb11.cell (p := ⟨b, _, none⟩) hblr).trans HE3.out⟩
            · exact ⟨hbl2, (hb11.cell (p := ⟨b, _, none⟩) hblr).trans HE4.out⟩)
          have HFX := Lib.hid hfix.drew.all7
          have HHA := Lib.hid (fun wx (hx : Below w11.heap.size w11 wx) => has_any sn st sc1 su sd pa dl pc rd wx (HROW.out.below hx) (by omega))
          rw [memS_t HSD.out] at HHA
          have i0 : (0 : Int) ≤ (k : Int) := by omega
          have i2 : (k : Int) < (n : Int) := by omega
          clear hw11 hq hb11 hfix
          go_region_held3 (fun wx => Hid (Fix w11 [(⟨q, 0, none⟩, .string sn), (⟨q, 1, none⟩, .int .i64 st), (⟨q, 2, none⟩, .int .i64 sc1), (⟨q, 3, none⟩, .int .i64 su), (⟨q, 4, none⟩, .slice pa dl pc), (⟨b, o + k * 5 + 3, none⟩, .int .i64 ru), (⟨b, o + k * 5 + 4, none⟩, .string rd)] wx) ∧ wx.cell? ⟨q, 0, none⟩ = some (.string sn) ∧ wx.cell? ⟨q, 1, none⟩ = some (.int .i64 st) ∧ wx.cell? ⟨q, 2, none⟩ = some (.int .i64 sc1) ∧ wx.cell? ⟨q, 3, none⟩ = some (.int .i64 su) ∧ wx.cell? ⟨q, 4, none⟩ = some (.slice pa dl pc) ∧ wx.cell? ⟨b, o + k * 5 + 3, none⟩ = some (.int .i64 ru) ∧ wx.cell? ⟨b, o + k * 5 + 4, none⟩ = some (.string rd)) (first | (exact HFX.out) | assumption | (refine Fix.next7 hb ?_; assumption))
            ((go_at_call 65; refine (HHA.out _ (Fix.get7 (a1 := ⟨q, 0, none⟩) (v1 := .string sn) (a2 := ⟨q, 1, none⟩) (v2 := .int .i64 st) (a3 := ⟨q, 2, none⟩) (v3 := .int .i64 sc1) (a4 := ⟨q, 3, none⟩) (v4 := .int .i64 su) (a5 := ⟨q, 4, none⟩) (v5 := .slice pa dl pc) (a6 := ⟨b, o + k * 5 + 3, none⟩) (v6 := .int .i64 ru) (a7 := ⟨b, o + k * 5 + 4, none⟩) (v7 := .string rd) (by assumption))).mono ?_; rintro e wy ⟨rfl, hb⟩))
          all_goals
            go_wp2
            go_roundw
            case rel =>
              refine ⟨k + 1, by omega, by go_num, Lib.hid (HB11.out.trans (Below.mono (Fix.get7 (a1 := ⟨q, 0, none⟩) (v1 := .string sn) (a2 := ⟨q, 1, none⟩) (v2 := .int .i64 st) (a3 := ⟨q, 2, none⟩) (v3 := .int .i64 sc1) (a4 := ⟨q, 3, none⟩) (v4 := .int .i64 su) (a5 := ⟨q, 4, none⟩) (v5 := .slice pa dl pc) (a6 := ⟨b, o + k * 5 + 3, none⟩) (v6 := .int .i64 ru) (a7 := ⟨b, o + k * 5 + 4, none⟩) (v7 := .string rd) ?_) HB11.out.size))⟩
              assumption
            case measure => simp [intOf]; omega
        · have hkn : k = n := by omega
          go_wp2_with fail
          refine (first4 _).mono ?_; rintro e w12 ⟨rfl, hb⟩
          have HB12 := Lib.hid (HB8.out.trans ((hbw.out.trans (hb.mono hbw.out.size)).mono HB8.out.size))
          clear hb
          go_wp2
          go_ret
          exact ⟨rfl, HB12.out⟩
end Go.Proofs.Ytgdbbdbfaglkdaa
