/- The document's NewZone, SoaSet. -/
import Derived.Test.YthfnphcefkdgbaaGreatRZa
import Derived.Test.YthfnphcefkdgbaaGreatMgT
namespace Go.Proofs.YthfnphcefkdgbaaGreat
open Go.RowKit
def RNew (apex : ByteArray) (l : List R5) (w : World) (e : Ending) (w' : World) : Prop :=
 (mayN apex = false ∧ e = .returned (.tuple #[.pointer none, .int .i64 10]) ∨ mayN apex = true ∧
  ((∃ r ∈ l, mayR5 r = false) ∧ e = .returned (.tuple #[.pointer none, .int .i64 4]) ∨ (∀ r ∈ l, mayR5 r = true) ∧
   (300 < l.length ∧ e = .returned (.tuple #[.pointer none, .int .i64 13]) ∨ l.length ≤ 300 ∧ ∃ S, Canon l S ∧
    (¬ RWhole apex S ∧ e = .returned (.tuple #[.pointer none, .int .i64 11]) ∨ RWhole apex S ∧ ∃ z, e = .returned (.tuple #[.pointer (some ⟨z, 0, none⟩), .int .i64 0]) ∧ RZnAt w' z apex S)))) ∧ Below w.heap.size w w'
theorem all_nextZ {l : List R5} {k : Nat} {r : R5} (h : ∀ x ∈ l.take k, mayR5 x = true) (hk : l[k]? = some r) (hr : mayR5 r = true) : ∀ x ∈ l.take (k + 1), mayR5 x = true := by
 rw [List.take_add_one, hk]
 intro x hx
 rcases List.mem_append.1 hx with hx | hx
 · exact h x hx
 · obtain rfl : x = r := by simpa using hx
   exact hr
theorem canon_sumZ {l : List R5} {S : List SetP} (h : Canon l S) (hn : l.length ≤ 300) : sumD S ≤ 300 ∧ S.length ≤ 300 ∧ ∀ s ∈ S, s.data.length ≤ 300 := by
 obtain ⟨l', hp, hs⟩ : ∃ l' : List R5, l'.Perm l ∧ SortedR l' := ⟨srtR l, srtR_perm l, srtR_sorted l⟩
 have h2 : Canon l (grpK l' l.length) := canon_group hp hs rfl
 have e : S = grpK l' l.length := canon_eq h h2 (fun _ _ => Iff.rfl) (fun _ _ => Iff.rfl)
 have h3 : sumD S ≤ 300 := by rw [e]; exact Nat.le_trans (grpK_sum _ _) hn
 refine ⟨h3, by rw [e]; exact Nat.le_trans (grpK_len _ _) hn, fun s hs => Nat.le_trans (data_le_sum hs) h3⟩
set_option maxRecDepth 100000 in
set_option maxHeartbeats 20000000 in
theorem rznew_any (apex : ByteArray) (a : Option Addr) (n c : Nat) (l : List R5) (w : World) (h : RowR w a n l) (hlen : n ≤ 100000) (hk : ∀ r ∈ l, r.k.n.size ≤ 1000000) (hd : ∀ r ∈ l, r.d.size ≤ 1000000) (ha : apex.size ≤ 1000000) : Calls Tryz.prog 11 #[.string apex, .slice a n c] w fun e w' => RNew apex l w e w' := by
 have HR := Lib.hid h
 have HLN := Lib.hid h.1
 have HKS := Lib.hid hk
 have HDS := Lib.hid hd
 have HA := Lib.hid ha
 have HLEN := Lib.hid hlen
 clear h hk hd ha
 go_enter Tryz.func11, Tryz.ntmps11
 go_wp2_with fail
 refine (rmay_any apex w HA.out).mono ?_; rintro e w99 ⟨rfl, rfl⟩
 obtain ⟨vm, hvm⟩ : ∃ x, mayN apex = x := ⟨_, rfl⟩
 rw [hvm]
 have HVM := Lib.hid hvm
 clear hvm
 cases vm
 · skip
   go_wp2
   go_ret2
   exact ⟨Or.inl ⟨HVM.out, rfl⟩, Below.refl _ _⟩
 go_wp2_with fail
 go_loopw [6] (fun i wr => ∃ (k : Nat), k ≤ n ∧ i = .int .i64 k ∧ Hid (∀ x ∈ l.take k, mayR5 x = true) ∧ Hid (Below w.heap.size w wr)) (fun i _ => n - (intOf i).toNat)
 case atStart => exact ⟨0, Nat.zero_le _, rfl, Lib.hid (fun x hx => by simp at hx), Lib.hid (Below.refl _ _)⟩
 case round =>
   obtain ⟨k, hk, rfl, hall, hbw⟩ := hrel
   by_cases hlt : k < n
   · obtain ⟨b, o, ⟨⟨rn, rt, rc⟩, ru, rd⟩, rfl, hbl0, hr, x0, x1, x2, x3, x4⟩ := HR.out.at k hlt
     have HRK := Lib.hid hr
     have HRN := Lib.hid (HKS.out _ (List.mem_of_getElem? hr))
     have HRD := Lib.hid (HDS.out _ (List.mem_of_getElem? hr))
     replace x0 : wr.cell? ⟨b, o + k * 5, none⟩ = some (.string rn) := (hbw.out.cell (p := ⟨b, _, none⟩) hbl0).trans x0
     replace x1 : wr.cell? ⟨b, o + k * 5 + 1, none⟩ = some (.int .i64 rt) := (hbw.out.cell (p := ⟨b, _, none⟩) hbl0).trans x1
     replace x2 : wr.cell? ⟨b, o + k * 5 + 2, none⟩ = some (.int .i64 rc) := (hbw.out.cell (p := ⟨b, _, none⟩) hbl0).trans x2
     replace x3 : wr.cell? ⟨b, o + k * 5 + 3, none⟩ = some (.int .i64 ru) := (hbw.out.cell (p := ⟨b, _, none⟩) hbl0).trans x3
     replace x4 : wr.cell? ⟨b, o + k * 5 + 4, none⟩ = some (.string rd) := (hbw.out.cell (p := ⟨b, _, none⟩) hbl0).trans x4
     have i1 : (0 : Int) ≤ (k : Int) := by omega
     have i2 : (k : Int) < (n : Int) := by omega
     have HLT := Lib.hid hlt
     clear hr hbl0 hlt hk
     go_wp2_with fail
     refine (rmayRR_any rn rt rc ru rd wr HRN.out HRD.out).mono ?_; rintro e w5 ⟨rfl, hb⟩
     clear x0 x1 x2 x3 x4
     obtain ⟨vr, hvr⟩ : ∃ x, mayR rn rt rc ru rd = x := ⟨_, rfl⟩
     rw [hvr]
     have HVR := Lib.hid (show mayR5 ⟨⟨rn, rt, rc⟩, ru, rd⟩ = vr from hvr)
     have HB5 := Lib.hid (hbw.out.trans (hb.mono hbw.out.size))
     clear hvr hb hbw
     cases vr
     · skip
       go_wp2
       go_ret2
       exact ⟨Or.inr ⟨HVM.out, Or.inl ⟨⟨_, List.mem_of_getElem? HRK.out, HVR.out⟩, rfl⟩⟩, HB5.out⟩
     have HNX := Lib.hid (all_nextZ hall.out HRK.out HVR.out)
     have hlen9 := HLEN.out
     go_wp2
     go_roundw
     case rel => exact ⟨k + 1, by have := HLT.out; omega, by have := HLT.out; go_num, HNX, HB5⟩
     case measure => have := HLT.out; simp [intOf]; omega
   · obtain rfl : k = n := by omega
     have HALL := Lib.hid (show ∀ r ∈ l, mayR5 r = true by have h := hall.out; rw [List.take_of_length_le (by rw [HLN.out]; exact Nat.le_refl _)] at h; exact h)
     clear hall hlt hk
     by_cases h3 : 300 < k
     · have d1 := dT h3
       have d2 : decide ((300 : Int) < (k : Int)) = true := dT (by omega)
       have H3 := Lib.hid h3
       clear h3
       skip
       go_wp2
       go_ret2
       exact ⟨Or.inr ⟨HVM.out, Or.inr ⟨HALL.out, Or.inl ⟨by rw [HLN.out]; exact H3.out, rfl⟩⟩⟩, hbw.out⟩
     have d1 := dF h3
     have d2 : decide ((300 : Int) < (k : Int)) = false := dF (by omega)
     have H3 := Lib.hid (show k ≤ 300 by omega)
     clear h3
     go_wp2_with fail
     refine (rgroup_any a k c l wr (HR.out.below hbw.out) (Nat.le_trans H3.out (by decide)) HKS.out).mono ?_; rintro e w6 ⟨sa, sc, S, rfl, hcn, hsa, hb⟩
     have HCN := Lib.hid hcn
     have HSM := Lib.hid (canon_sumZ hcn (by rw [HLN.out]; exact H3.out))
     obtain ⟨m, hm⟩ : ∃ x, S.length = x := ⟨_, rfl⟩
     rw [hm] at hsa ⊢
     have HM := Lib.hid hm
     have HSA := Lib.hid hsa
     have HB := Lib.hid (hbw.out.trans (hb.mono hbw.out.size))
     clear hcn hsa hb hm hbw d1 d2
     have hba := (Below.refl _ _ : Below w6.heap.size w6 w6).alloc (Nat.le_refl _) (.cells #[.string apex, .slice sa m sc] 52)
     have CZ := Lib.hid (CN.new w6 #[.string apex, .slice sa m sc] 52)
     replace HSA := Lib.hid (HSA.out.below hba)
     replace HB := Lib.hid (HB.out.trans (hba.mono HB.out.size))
     obtain ⟨w7, hw⟩ : ∃ x, w6.alloc (.cells #[.string apex, .slice sa m sc] 52) = x := ⟨_, rfl⟩
     obtain ⟨q7, hq⟩ : ∃ x, w6.heap.size = x := ⟨_, rfl⟩
     rw [hw, hq] at CZ
     rw [hw] at HSA HB
     have HW := Lib.hid hw
     have HQ_ := Lib.hid hq
     clear hba hw hq
     go_upto_region 11 with (fail)
     rw [HW.out, HQ_.out]
     clear HW HQ_
     have HMM := Lib.hid (show m ≤ 300 by rw [← HM.out]; exact HSM.out.2.1)
     have HSK := Lib.hid (fun (s : SetP) (hs : s ∈ S) => (show s.k.n.size ≤ 1000000 by obtain ⟨⟨r, hr, h1, -⟩, -⟩ := HCN.out.low s hs; rw [← h1]; exact HKS.out r hr))
     obtain ⟨z0, z1⟩ := CZ.out.w2
     go_wp2_with fail
     go_loopw [8, 9] (fun t i wr => ∃ (j t9 : Nat), j ≤ m ∧ t9 ≤ 300 ∧ i = .int .i64 j ∧ t = .int .i64 t9 ∧ Hid (t9 = soasN (S.take j)) ∧ Hid (AllZ apex (S.take j)) ∧ Hid (Below w7.heap.size w7 wr)) (fun _ i _ => m - (intOf i).toNat)
     case atStart => exact ⟨0, 0, Nat.zero_le _, Nat.zero_le _, rfl, rfl, Lib.hid rfl, Lib.hid (fun s hs => by simp at hs), Lib.hid (Below.refl _ _)⟩
     case round =>
       clear z0 z1
       obtain ⟨j, t9, hj, ht9, rfl, rfl, hts, hal, hbw⟩ := hrel
       have CZR := Lib.hid (CZ.out.below hbw.out)
       obtain ⟨z0, z1⟩ := CZR.out.w2
       have hmm := HMM.out
       by_cases hlt : j < m
       · rcases (HSA.out.below hbw.out).2 with h9 | ⟨b, o, rfl, hbl, hc⟩
         · omega
         obtain ⟨pa, ca, hs⟩ := hc j hlt
         have hSj : S[j]? = some (S.getD j ssD) := by rw [List.getD_eq_getElem?_getD, List.getElem?_eq_getElem (by have := HM.out; omega)]; rfl
         obtain ⟨s, hss⟩ : ∃ s, S.getD j ssD = s := ⟨_, rfl⟩
         rw [hss] at hs hSj
         obtain ⟨⟨sn, st, sk⟩, su, sd⟩ := s
         obtain ⟨x0, x1, x2, x3, x4, -, -⟩ := hs
         obtain ⟨dl, hdl⟩ : ∃ x, sd.length = x := ⟨_, rfl⟩
         replace x0 : wr.cell? ⟨b, o + j * 5, none⟩ = some (.string sn) := x0
         replace x1 : wr.cell? ⟨b, o + j * 5 + 1, none⟩ = some (.int .i64 st) := x1
         replace x2 : wr.cell? ⟨b, o + j * 5 + 2, none⟩ = some (.int .i64 sk) := x2
         replace x3 : wr.cell? ⟨b, o + j * 5 + 3, none⟩ = some (.int .i64 su) := x3
         replace x4 : wr.cell? ⟨b, o + j * 5 + 4, none⟩ = some (.slice pa sd.length ca) := x4
         rw [hdl] at x4
         have HDL := Lib.hid hdl
         have HSJ := Lib.hid hSj
         have HNZ := Lib.hid (HSK.out _ (List.mem_of_getElem? hSj))
         have HDN := Lib.hid (show dl ≤ 300 by rw [← hdl]; exact HSM.out.2.2 _ (List.mem_of_getElem? hSj))
         have i1 : (0 : Int) ≤ (j : Int) := by omega
         have i2 : (j : Int) < (m : Int) := by omega
         have HLT := Lib.hid hlt
         have HBW := Lib.hid hbw.out
         have HTS := Lib.hid hts.out
         have HAL := Lib.hid hal.out
         have HT9 := Lib.hid (show t9 + (if st = 6 then dl else 0) ≤ 300 by have h1 := soasN_next hSj; have h2 := Nat.le_trans (soasN_leZ (S.take (j + 1))) (sumD_takeZ S (j + 1)); have h3 := HSM.out.1; have h4 := hts.out; rw [h4, ← hdl]; have h5 : soasN (S.take (j + 1)) = soasN (S.take j) + if st = 6 then sd.length else 0 := h1; omega)
         have HTN := Lib.hid (show soasN (S.take (j + 1)) = t9 + if st = 6 then dl else 0 by rw [hts.out, ← hdl]; exact soasN_next hSj)
         clear hc hss hSj hdl hlt hbl hbw hts hal hj
         have hba := (Below.refl _ _ : Below wr.heap.size wr wr).alloc (Nat.le_refl _) (.cells #[.string sn, .int .i64 st, .int .i64 sk, .int .i64 su, .slice pa dl ca] 43)
         have D1 := Lib.hid (CN.new wr #[.string sn, .int .i64 st, .int .i64 sk, .int .i64 su, .slice pa dl ca] 43)
         replace CZR := Lib.hid (CZR.out.below hba)
         replace HBW := Lib.hid (HBW.out.trans (hba.mono HBW.out.size))
         obtain ⟨w31, hw⟩ : ∃ x, wr.alloc (.cells #[.string sn, .int .i64 st, .int .i64 sk, .int .i64 su, .slice pa dl ca] 43) = x := ⟨_, rfl⟩
         obtain ⟨q31, hq⟩ : ∃ x, wr.heap.size = x := ⟨_, rfl⟩
         rw [hw, hq] at D1
         rw [hw] at CZR HBW
         have HW := Lib.hid hw
         have HQ_ := Lib.hid hq
         clear hba hw hq
         go_upto_region 16 with (fail)
         rw [HW.out, HQ_.out]
         clear HW HQ_
         clear x0 x1 x2 x3 x4
         clear z0 z1
         obtain ⟨y0, y1, y2, y3, y4, _⟩ := D1.out.u5
         obtain ⟨vu, hvu⟩ : ∃ x, undS sn apex = x := ⟨_, rfl⟩
         have HU := Lib.hid (runder_any sn apex w31 HNZ.out HA.out)
         rw [hvu] at HU
         have HVU := Lib.hid hvu
         clear hvu
         go_wp2_with fail
         refine HU.out.mono ?_; rintro e w32 ⟨rfl, hb⟩
         clear HU
         clear y0 y1 y2 y3 y4
         replace CZR := Lib.hid (CZR.out.below hb)
         replace HBW := Lib.hid (HBW.out.trans (hb.mono HBW.out.size))
         replace D1 := Lib.hid (D1.out.below hb)
         clear hb
         cases vu
         · skip
           go_wp2
           go_ret2
           exact ⟨Or.inr ⟨HVM.out, Or.inr ⟨HALL.out, Or.inr ⟨by rw [HLN.out]; exact H3.out, S, HCN.out, Or.inl ⟨fun hw => (by have h := (hw.1 _ (List.mem_of_getElem? HSJ.out)).1; rw [HVU.out] at h; cases h), rfl⟩⟩⟩⟩, (HB.out.trans (HBW.out.mono HB.out.size))⟩
         · obtain ⟨y0, y1, y2, y3, y4, _⟩ := D1.out.u5
           by_cases hc1 : sk = 1
           · obtain rfl := hc1
             by_cases h6 : st = 6
             · obtain rfl := h6
               by_cases hna : sn = apex
               · have s1 : (sn.toList != apex.toList) = false := by rw [hna]; simp
                 have s2 : (sn.toList == apex.toList) = true := by rw [hna]; simp
                 have HNA := Lib.hid hna
                 clear hna
                 have HNX := Lib.hid (allZ_next HAL.out HSJ.out ⟨HVU.out, rfl, fun _ => HNA.out⟩)
                 have htb : t9 + dl ≤ 300 := by have h := HT9.out; rw [if_pos rfl] at h; exact h
                 have HTX := Lib.hid (show t9 + dl = soasN (S.take (j + 1)) by rw [HTN.out, if_pos rfl])
                 have hdn := HDN.out
                 have hlt9 := HLT.out
                 go_wp2
                 go_roundw
                 case rel => exact ⟨j + 1, t9 + dl, by omega, htb, by go_num, by first | rfl | go_num, HTX, HNX, HBW⟩
                 case measure => simp [intOf]; omega
               · have s1 : (sn.toList != apex.toList) = true := by rw [bne, strZ_ne hna]; rfl
                 have s2 := strZ_ne hna
                 have HNA := Lib.hid hna
                 clear hna
                 skip
                 go_wp2
                 go_ret2
                 exact ⟨Or.inr ⟨HVM.out, Or.inr ⟨HALL.out, Or.inr ⟨by rw [HLN.out]; exact H3.out, S, HCN.out, Or.inl ⟨fun hw => (HNA.out ((hw.1 _ (List.mem_of_getElem? HSJ.out)).2.2 rfl)), rfl⟩⟩⟩⟩, (HB.out.trans (HBW.out.mono HB.out.size))⟩
             · have f1 : (st == 6) = false := eF h6
               have H6 := Lib.hid h6
               clear h6
               have HNX := Lib.hid (allZ_next HAL.out HSJ.out ⟨HVU.out, rfl, fun h => absurd h H6.out⟩)
               have htb : t9 + 0 ≤ 300 := by have h := HT9.out; rw [if_neg H6.out] at h; exact h
               have HTX := Lib.hid (show t9 + 0 = soasN (S.take (j + 1)) by rw [HTN.out, if_neg H6.out])
               have hdn := HDN.out
               have hlt9 := HLT.out
               go_wp2
               go_roundw
               case rel => exact ⟨j + 1, t9 + 0, by omega, htb, by go_num, by first | rfl | go_num, HTX, HNX, HBW⟩
               case measure => simp [intOf]; omega
           · have f2 : (sk != 1) = true := nT hc1
             have HC1 := Lib.hid hc1
             clear hc1
             skip
             go_wp2
             go_ret2
             exact ⟨Or.inr ⟨HVM.out, Or.inr ⟨HALL.out, Or.inr ⟨by rw [HLN.out]; exact H3.out, S, HCN.out, Or.inl ⟨fun hw => (HC1.out (hw.1 _ (List.mem_of_getElem? HSJ.out)).2.1), rfl⟩⟩⟩⟩, (HB.out.trans (HBW.out.mono HB.out.size))⟩
       · obtain rfl : j = m := by omega
         have HAZ := Lib.hid (show AllZ apex S by have h := hal.out; rw [List.take_of_length_le (by rw [HM.out]; exact Nat.le_refl _)] at h; exact h)
         have HTS := Lib.hid (show t9 = soasN S by have h := hts.out; rw [List.take_of_length_le (by rw [HM.out]; exact Nat.le_refl _)] at h; exact h)
         replace HSA := Lib.hid (HSA.out.below hbw.out)
         replace HB := Lib.hid (HB.out.trans (hbw.out.mono HB.out.size))
         clear hal hts hbw hlt hj CZ
         have HZN := Lib.hid (show RZnAt wr q7 apex S from ⟨sa, sc, by rw [HM.out]; exact CZR.out, by rw [HM.out]; exact HSA.out⟩)
         go_wp2_with fail
         refine (rzget_any q7 apex S apex 2 1 wr HZN.out (by rw [HM.out]; exact Nat.le_trans HMM.out (by decide))).mono ?_; rintro e w61 ⟨⟨s, fp, fc, -, rfl⟩, hb⟩
         clear HZN
         clear z0 z1
         replace CZR := Lib.hid (CZR.out.below hb)
         replace HSA := Lib.hid (HSA.out.below hb)
         replace HB := Lib.hid (HB.out.trans (hb.mono HB.out.size))
         clear hb
         obtain ⟨⟨sn, st, sk⟩, su, sd⟩ := s
         dsimp only
         obtain ⟨dl, hdl⟩ : ∃ x, sd.length = x := ⟨_, rfl⟩
         rw [hdl]
         clear hdl
         obtain ⟨fb, hfb⟩ : ∃ x, (findK S ⟨apex, 2, 1⟩).isSome = x := ⟨_, rfl⟩
         rw [hfb]
         have HFB := Lib.hid hfb
         clear hfb
         have hba := (Below.refl _ _ : Below w61.heap.size w61 w61).alloc (Nat.le_refl _) (.cells #[.string sn, .int .i64 st, .int .i64 sk, .int .i64 su, .slice fp dl fc] 43)
         have D2 := Lib.hid (CN.new w61 #[.string sn, .int .i64 st, .int .i64 sk, .int .i64 su, .slice fp dl fc] 43)
         replace CZR := Lib.hid (CZR.out.below hba)
         replace HSA := Lib.hid (HSA.out.below hba)
         replace HB := Lib.hid (HB.out.trans (hba.mono HB.out.size))
         obtain ⟨w62, hw⟩ : ∃ x, w61.alloc (.cells #[.string sn, .int .i64 st, .int .i64 sk, .int .i64 su, .slice fp dl fc] 43) = x := ⟨_, rfl⟩
         obtain ⟨q62, hq⟩ : ∃ x, w61.heap.size = x := ⟨_, rfl⟩
         rw [hw, hq] at D2
         rw [hw] at CZR HSA HB
         have HW := Lib.hid hw
         have HQ_ := Lib.hid hq
         clear hba hw hq
         go_upto_region 21 with (fail)
         rw [HW.out, HQ_.out]
         clear HW HQ_
         obtain ⟨z0, z1⟩ := CZR.out.w2
         by_cases h1 : t9 = 1
         · obtain rfl := h1
           cases fb
           · skip
             go_wp2
             go_ret2
             exact ⟨Or.inr ⟨HVM.out, Or.inr ⟨HALL.out, Or.inr ⟨by rw [HLN.out]; exact H3.out, S, HCN.out, Or.inl ⟨fun hw => (by have h := hw.2.2.1; rw [HFB.out] at h; cases h), rfl⟩⟩⟩⟩, HB.out⟩
           · obtain ⟨vo, hvo⟩ : ∃ x, oneB S = x := ⟨_, rfl⟩
             have HO := Lib.hid (rone_any sa j sc S w62 HSA.out (Nat.le_trans HMM.out (by decide)))
             rw [hvo] at HO
             have HVO := Lib.hid hvo
             clear hvo
             go_wp2_with fail
             refine HO.out.mono ?_; rintro e w63 ⟨rfl, hb⟩
             clear HO
             clear z0 z1
             replace CZR := Lib.hid (CZR.out.below hb)
             replace HSA := Lib.hid (HSA.out.below hb)
             replace HB := Lib.hid (HB.out.trans (hb.mono HB.out.size))
             replace D2 := Lib.hid (D2.out.below hb)
             clear hb
             cases vo
             · skip
               go_wp2
               go_ret2
               exact ⟨Or.inr ⟨HVM.out, Or.inr ⟨HALL.out, Or.inr ⟨by rw [HLN.out]; exact H3.out, S, HCN.out, Or.inl ⟨fun hw => (by have h := hw.2.2.2; rw [HVO.out] at h; cases h), rfl⟩⟩⟩⟩, HB.out⟩
             · have HV := Lib.hid (show RZnAt w63 q7 apex S from ⟨sa, sc, by rw [HM.out]; exact CZR.out, by rw [HM.out]; exact HSA.out⟩)
               go_wp2
               go_ret2
               exact ⟨Or.inr ⟨HVM.out, Or.inr ⟨HALL.out, Or.inr ⟨by rw [HLN.out]; exact H3.out, S, HCN.out, Or.inr ⟨⟨HAZ.out, HTS.out.symm, HFB.out, HVO.out⟩, q7, rfl, HV.out⟩⟩⟩⟩, HB.out⟩
         · have f1 : ((t9 : Int) != 1) = true := nT (by omega)
           have H1 := Lib.hid h1
           clear h1
           skip
           go_wp2
           go_ret2
           exact ⟨Or.inr ⟨HVM.out, Or.inr ⟨HALL.out, Or.inr ⟨by rw [HLN.out]; exact H3.out, S, HCN.out, Or.inl ⟨fun hw => (H1.out (HTS.out.trans hw.2.1)), rfl⟩⟩⟩⟩, HB.out⟩
end Go.Proofs.YthfnphcefkdgbaaGreat
