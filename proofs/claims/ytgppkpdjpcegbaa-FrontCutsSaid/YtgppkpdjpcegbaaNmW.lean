/- The writer's name: it writes the labels up to what was told ahead. -/
import Derived.Test.YtgppkpdjpcegbaaKpW
import Derived.Test.YtgppkpdjpcegbaaLst
namespace Go.Proofs.Ytgppkpdjpcegbaa
open Go.RowKit
open Go.Maps

/-- The writer's state when k labels of L are written. -/
def WrI (w : World) (B q mb m : Nat) (f : Pls) (X : List UInt8) (L : List ByteArray) (k : Nat) (wx : World) : Prop :=
  ∃ (f1 : Pls) (X1 : List UInt8), WrS wx B q mb f1 X1 ∧ wNm f X L = wNm f1 X1 (L.drop k) ∧ X1.length ≤ m + off L k ∧ Below B w wx ∧ Kp w wx
theorem map_apart {w : World} {B n size mb n1 : Nat} {e K : TypeId} {v : Value} {xs : List Value} {R : Value → Option (DataW Unit × List MemPlace)} {D : DataW Unit} (ho : w.ownsRow B e size v n xs) (hm : w.ownsMap Try.prog K R mb n1 D) : some mb ≠ v.ownBlock := fun e => own_map_ne ho hm e.symm

set_option maxRecDepth 100000 in
set_option maxHeartbeats 4000000 in
theorem name_any (q mb B : Nat) (L : List ByteArray) (X : List UInt8) (f : Pls) (w : World) (hL : OkL L) (hz : off L L.length ≤ 254) (hs : WrS w B q mb f X) (hB : B ≤ q) (hBm : B ≤ mb) (hqm : q ≠ mb) (hm : X.length + 300 ≤ 1000000) :
    Calls Try.prog 37 #[.pointer (some ⟨q, 0, none⟩), .string (nameB L)] w fun e w' => e = .returned (.tuple #[]) ∧ WrN w B q mb (wNm f X L).2 (wNm f X L).1 w' := by
  obtain ⟨i0, hi, hz0, hz1, hz2⟩ := info_parts infoU8
  have HI := Lib.hid hi
  have HZ0 := Lib.hid hz0
  have HZ1 := Lib.hid hz1
  have HZ2 := Lib.hid hz2
  have HBS := Lib.hid (show B ≤ w.heap.size from by obtain ⟨_, _, _, hc, _⟩ := hs; exact Nat.le_trans hB (Nat.le_of_lt hc.1))
  have HQ := Lib.hid (show B ≤ q ∧ B ≤ mb ∧ q ≠ mb from ⟨hB, hBm, hqm⟩)
  obtain ⟨m, hmm⟩ : ∃ x, X.length = x := ⟨_, rfl⟩
  have HM := Lib.hid (show m + 300 ≤ 1000000 from by omega)
  have HL := Lib.hid (show OkL L ∧ off L L.length ≤ 254 from ⟨hL, hz⟩)
  have HW := Lib.hid (show WrI w B q mb m f X L 0 w from ⟨f, X, hs, rfl, by rw [off_zero]; omega, Below.refl B w, Kp.refl w⟩)
  clear hi hz0 hz1 hz2 hs hB hBm hqm hm hL hz hmm
  go_enter Try.func37, Try.ntmps37
  go_wp2_with fail
  go_loopw [1] (fun s wx => ∃ k : Nat, k ≤ L.length ∧ s = .string (nameB (L.drop k)) ∧ WrI w B q mb m f X L k wx) (fun s _ => strOf s)
  case atStart => exact ⟨0, Nat.zero_le _, rfl, HW.out⟩
  case round =>
  obtain ⟨k, hk, rfl, f1, X1, ⟨bv1, D1, n1, hc, ht, ho, hmp, hD, hf, hn1⟩, he, hX, hb, hfr⟩ := hrel
  have HC := Lib.hid hc
  have HT := Lib.hid ht
  have HO := Lib.hid ho
  have HP := Lib.hid hmp
  have HD := Lib.hid hD
  have HF := Lib.hid hf
  have HE := Lib.hid he
  have HX := Lib.hid hX
  have HN := Lib.hid hn1
  have HB := Lib.hid hb
  have HFR := Lib.hid hfr
  have HK := Lib.hid hk
  have HLD := Lib.hid (show OkL (L.drop k) ∧ off (L.drop k) (L.drop k).length ≤ 254 from ⟨okL_drop HL.out.1 k, Nat.le_trans (off_drop L k hk) HL.out.2⟩)
  clear hc ht ho hmp hD hf he hX hn1 hb hfr hk
  obtain ⟨M, hM⟩ : ∃ M, L.drop k = M := ⟨_, rfl⟩
  rw [hM] at HE HLD ⊢
  have HMK := Lib.hid hM
  clear hM
  have hr := root_toList M HLD.out.1
  have c0 := (HC.out.2 0 _ rfl).1
  have c1 := (HC.out.2 1 _ rfl).1
  have f0 := (HC.out.2 0 _ rfl).2
  cases M with
  | nil =>
    have hr' : ((nameB []).toList == [0]) = true := hr
    obtain ⟨s, hs⟩ : ∃ s, nameB [] = s := ⟨_, rfl⟩
    rw [hs] at hr' ⊢
    clear hr
    go_wp2_with (at_builtin; refine Lib.wpList_append_own_string _ rfl _ _ 22 9 rfl B 5 i0 Try.underlying22 Try.underlying9 HI.out HZ0.out HZ1.out HZ2.out _ X1.length _ rfl HO.out ⟨#[0]⟩ rfl ?c1 ?c2 ?c3 ?_)
    case c1 => show X1.length + 1 ≤ _; have := HX.out; have := HM.out; have := HL.out.2; have := off_mono L HK.out; unfold maxLen; omega
    case c2 => show X1.length + 1 ≤ _; have := HX.out; have := HM.out; have := HL.out.2; have := off_mono L HK.out; omega
    case c3 => exact Nat.le_trans HBS.out HB.out.size
    intro bv' w2 hown hgrow _
    rw [strCells_bc, ← bc_append] at hown
    obtain ⟨sa, sc, rfl, -⟩ := cellsK_own hown
    have hne := own_ne HO.out HT.out (by decide)
    have HC2 := Lib.hid (HC.out.grown hgrow (fun e => hne e.symm))
    have HT2 := Lib.hid (HT.out.grown hgrow hne)
    have HP2 := Lib.hid (HP.out.kept hgrow (map_apart HO.out HP.out))
    have HCZ := Lib.hid (HC2.out.set 0 (by simp) (.slice sa (X1.length + 1) sc))
    have HTZ := Lib.hid (HT2.out.set 0 (.slice sa (X1.length + 1) sc))
    have HOZ := Lib.hid (own_keeps hown HT2.out (by decide) (grown_cell w2 q 0 (.slice sa (X1.length + 1) sc)))
    have HPZ := Lib.hid (HP2.out.setCell (a := ⟨q, 0, none⟩) (fun e => HQ.out.2.2 e.symm) (.slice sa (X1.length + 1) sc))
    have hbg := HB.out.grown hgrow (Nat.le_trans HBS.out HB.out.size) (fun k hk => (HO.out.lt k hk).1)
    have HBZ := Lib.hid (hbg.setCell HQ.out.1 (.slice sa (X1.length + 1) sc) (p := ⟨q, 0, none⟩))
    have HKP := Lib.hid ((HFR.out.trans (Kp.grown HO.out hgrow)).trans (Kp.set HT2.out 0 (.slice sa (X1.length + 1) sc)))
    have c0' := (HC2.out.2 0 _ rfl).1
    have f0' := (HC2.out.2 0 _ rfl).2
    clear c0 f0 hown hgrow hne hbg
    go_wp2
    refine bodyPost_end (v := .tuple #[]) (by simp [results, Try.results37, go_sem]) rfl ⟨rfl, ?_⟩
    unfold WrN WrS
    rw [HE.out]
    refine ⟨⟨.slice sa (X1.length + 1) sc, D1, n1, HCZ.out, HTZ.out, ?_, HPZ.out, HD.out, HF.out, Nat.le_trans HN.out (by show _ ≤ (X1 ++ [0]).length; rw [List.length_append]; exact Nat.le_add_right _ _)⟩, HBZ.out, HKP.out⟩
    have h := HOZ.out
    show World.ownsRow _ B _ 1 _ (X1 ++ [0]).length (bc (X1 ++ [0]))
    rw [List.length_append]
    exact h
  | cons t M =>
    have hr' : ((nameB (t :: M)).toList == [0]) = false := hr
    have hkey := keyOf_name (L := t :: M) (by rw [nameB_size]; have := HLD.out.2; unfold maxLen; omega)
    obtain ⟨s, hs⟩ : ∃ s, nameB (t :: M) = s := ⟨_, rfl⟩
    rw [hs] at hr' hkey ⊢
    clear hr
    go_wp2_with (at_lookup; refine wpList_lookup_own_ok_int _ rfl _ _ 83 rfl 9 3 .i64 strKeys Try.underlying83 Try.underlying3 (zeroInt _) mb n1 D1 rfl HP.out _ (keyL (t :: M)) rfl hkey ?_)
    intro c hat hwc
    cases hf1 : f1 (t :: M) with
    | some p =>
      have hhas : has D1 (keyL (t :: M)) = true := (HD.out.2.1 _ HLD.out.1).trans (by rw [hf1]; rfl)
      have hc : c = (p : Int) := by
        have h := HD.out.2.2 _ p HLD.out.1 hf1
        rw [hat] at h
        injection h with h
        injection h
      subst hc
      have HF1 := Lib.hid hf1
      have HP1 := Lib.hid (HF.out _ _ hf1)
      have HE1 := Lib.hid (HE.out.trans (wNm_yes hf1))
      clear hf1 hat hwc
      obtain ⟨x, hx⟩ : ∃ x, bits BinOp.or IntKind.i64 49152 (p : Int) = x := ⟨_, rfl⟩
      have HXV := Lib.hid (show (49152 : Int) + p = x by
        have h := or_shift 14 3 p (by have := HP1.out; omega) (by have := HP1.out; omega)
        rw [← hx]
        have e : ((2 ^ 14 * 3 : Nat) : Int) = 49152 := by decide
        rw [e] at h
        rw [h]
        omega)
      have HCA := Lib.hid (CN.new wr #[.int .i64 x] 3)
      have hb0 := (Below.refl wr.heap.size wr).alloc (Nat.le_refl _) (.cells #[.int .i64 x] 3)
      have HB0 := Lib.hid hb0
      have HR := Lib.hid (show Row (wr.alloc (.cells #[.int .i64 x] 3)) (some ⟨wr.heap.size, 0, none⟩) 1 [x] from rowI_lit wr [x] _)
      have HC1 := Lib.hid (HC.out.below hb0)
      have HT1 := Lib.hid (HT.out.below hb0)
      have HO1 := Lib.hid (own_below' HO.out hb0)
      have HPA := Lib.hid (HP.out.alloc (.cells #[.int .i64 x] 3))
      have HK1 := Lib.hid (HFR.out.trans (Kp.below hb0))
      clear hb0 c0 c1 f0
      go_wp2_with fail
      refine (numbers_any q 2 _ 1 1 [x] bv1 (.map (some mb)) X1 X1.length B _ HR.out (by decide) HC1.out HT1.out HO1.out HQ.out.1 (by rw [← HXV.out, place_len HP1.out]; have := HX.out; have := HM.out; have := HL.out.2; have := off_mono L HK.out; omega)).mono ?_
      rintro e w2 ⟨rfl, bv', hc2, ht2, ho2, hb2, hk2⟩
      have HPZ := Lib.hid (show w2.ownsMap Try.prog 9 (plainElem Try.prog 3) mb n1 D1 by
        have hlt := HPA.out.lt
        have hne := own_map_ne HO1.out HPA.out
        obtain ⟨es, ck, hmb, rest⟩ := HPA.out
        exact ⟨es, ck, (hk2 mb hlt (fun e => HQ.out.2.2 e.symm) hne).trans hmb, rest⟩)
      have HBZ := Lib.hid ((HB.out.trans (HB0.out.mono (Nat.le_trans HBS.out HB.out.size))).trans hb2)
      have HKP := Lib.hid (HK1.out.trans (Kp.num HO1.out HT1.out hk2))
      have HCZ := Lib.hid hc2
      have HTZ := Lib.hid ht2
      have HOZ := Lib.hid ho2
      clear hc2 ht2 ho2 hb2 hk2
      go_wp2
      refine bodyPost_ret (v := .tuple #[]) (by simp [results, Try.results37, go_sem]) rfl ⟨rfl, ?_⟩
      unfold WrN WrS
      rw [HE1.out]
      refine ⟨⟨bv', D1, n1, HCZ.out, HTZ.out, ?_, HPZ.out, HD.out, HF.out, Nat.le_trans HN.out (by show _ ≤ (X1 ++ joinL 2 [(49152 : Int) + p]).length; rw [List.length_append]; exact Nat.le_add_right _ _)⟩, HBZ.out, HKP.out⟩
      have h := HOZ.out
      show World.ownsRow _ B _ 1 _ (X1 ++ joinL 2 [(49152 : Int) + p]).length (bc (X1 ++ joinL 2 [(49152 : Int) + p]))
      rw [List.length_append, HXV.out]
      exact h
    | none =>
      have hhas : has D1 (keyL (t :: M)) = false := (HD.out.2.1 _ HLD.out.1).trans (by rw [hf1]; rfl)
      have HE1 := Lib.hid (HE.out.trans (wNm_no hf1))
      clear hf1 hat hwc
      obtain ⟨sa, sc, rfl, -⟩ := cellsK_own HO.out
      obtain ⟨xl, hxl⟩ : ∃ xl, X1.length = xl := ⟨_, rfl⟩
      rw [hxl] at c0 HC HO HE1
      have HXL := Lib.hid hxl
      clear hxl
      have hxs : xl ≤ 999954 := by rw [← HXL.out]; have := HX.out; have := HM.out; have := HL.out.2; have := off_mono L HK.out; omega
      have hn1 : n1 < maxLen := by have := HN.out; have := HXL.out; unfold maxLen; omega
      have HXS := Lib.hid hxs
      by_cases hlt : xl < 16384
      · have d1 := dT (p := (xl : Int) < 16384) (by omega)
        have HLT := Lib.hid hlt
        clear hlt
        go_upto_region 5 with (fail)
        refine wp_region_held_drew (S := (fun wx => CN wx q [.slice sa xl sc, .map (some mb)])) (by kernel_rfl) (HC.out) (fun hHeld => ?_)
        refine wpAnyH_take (i := 0) (oi := { dst := some 31, op := Go.Op.move (Go.Operand.tmp 0), type := 111, pos := "encode.go:56", after := #[], guard := none }) (v := ?v0_210101) rfl (by kernel_rfl) (by kernel_rfl) (by kernel_rfl) (fun _ _ _ h => h) (Or.inl ⟨by rfl, ?y0_210101⟩) hHeld ?r0_210101
        case y0_210101 => intro w hSw; (try dsimp only at hSw); have y0 := (hSw.2 0 _ rfl).1; have y1 := (hSw.2 1 _ rfl).1; go_simp; try with_reducible rfl
        try simp only [Act.put, List.setIfInBounds_toArray, List.set_cons_zero, List.set_cons_succ]
        refine wpAnyH_take (i := 4) (oi := { dst := some 35, op := Go.Op.move (Go.Operand.tmp 1), type := 9, pos := "encode.go:56", after := #[], guard := none }) (v := ?v4_210101) rfl (by kernel_rfl) (by kernel_rfl) (by kernel_rfl) (fun _ _ _ h => h) (Or.inl ⟨by rfl, ?y4_210101⟩) hHeld ?r4_210101
        case y4_210101 => intro w hSw; (try dsimp only at hSw); have y0 := (hSw.2 0 _ rfl).1; have y1 := (hSw.2 1 _ rfl).1; go_simp; try with_reducible rfl
        try simp only [Act.put, List.setIfInBounds_toArray, List.set_cons_zero, List.set_cons_succ]
        refine wpAnyH_take (i := 5) (oi := { dst := some 36, op := Go.Op.move (Go.Operand.tmp 0), type := 111, pos := "encode.go:56", after := #[], guard := none }) (v := ?v5_210101) rfl (by kernel_rfl) (by kernel_rfl) (by kernel_rfl) (fun _ _ _ h => h) (Or.inl ⟨by rfl, ?y5_210101⟩) hHeld ?r5_210101
        case y5_210101 => intro w hSw; (try dsimp only at hSw); have y0 := (hSw.2 0 _ rfl).1; have y1 := (hSw.2 1 _ rfl).1; go_simp; try with_reducible rfl
        try simp only [Act.put, List.setIfInBounds_toArray, List.set_cons_zero, List.set_cons_succ]
        refine wpAnyH_ready (rs := [1, 6]) (by kernel_rfl) (by simp) ?_
        refine AllReadyH.cons (o := { dst := some 32, op := Go.Op.nilCheck (Go.Operand.tmp 31), type := 0, pos := "encode.go:56", after := #[{ on := 0, ground := Go.Ground.data }], guard := none }) rfl (fun K hK => ?_) (AllReadyH.cons (o := { dst := some 37, op := Go.Op.nilCheck (Go.Operand.tmp 36), type := 0, pos := "encode.go:56", after := #[{ on := 5, ground := Go.Ground.data }], guard := none }) rfl (fun K hK => ?_) AllReadyH.nil)
        · go_simp
          refine hK.out _ _ (hHeld) (fun hHeld2 => ?_)
          clear hK K hHeld
          have hHeld := hHeld2
          clear hHeld2
          try simp only [Act.put, List.setIfInBounds_toArray, List.set_cons_zero, List.set_cons_succ]
          refine wpAnyH_take (i := 2) (oi := { dst := some 33, op := Go.Op.fieldAddr 85 (Go.Operand.tmp 32) 1, type := 0, pos := "encode.go:56", after := #[{ on := 1, ground := Go.Ground.data }], guard := none }) (v := ?v2_210102) rfl (by kernel_rfl) (by kernel_rfl) (by kernel_rfl) (fun _ _ _ h => h) (Or.inl ⟨by rfl, ?y2_210102⟩) hHeld ?r2_210102
          case y2_210102 => intro w hSw; (try dsimp only at hSw); have y0 := (hSw.2 0 _ rfl).1; have y1 := (hSw.2 1 _ rfl).1; go_simp; try with_reducible rfl
          try simp only [Act.put, List.setIfInBounds_toArray, List.set_cons_zero, List.set_cons_succ]
          refine wpAnyH_take (i := 3) (oi := { dst := some 34, op := Go.Op.load 83 (Go.Operand.tmp 33), type := 83, pos := "encode.go:56", after := #[{ on := 2, ground := Go.Ground.data }], guard := none }) (v := ?v3_210102) rfl (by kernel_rfl) (by kernel_rfl) (by kernel_rfl) (fun _ _ _ h => h) (Or.inl ⟨by rfl, ?y3_210102⟩) hHeld ?r3_210102
          case y3_210102 => intro w hSw; (try dsimp only at hSw); have y0 := (hSw.2 0 _ rfl).1; have y1 := (hSw.2 1 _ rfl).1; go_simp; try with_reducible rfl
          try simp only [Act.put, List.setIfInBounds_toArray, List.set_cons_zero, List.set_cons_succ]
          refine wpAnyH_ready (rs := [6]) (by kernel_rfl) (by simp) ?_
          refine AllReadyH.cons (o := { dst := some 37, op := Go.Op.nilCheck (Go.Operand.tmp 36), type := 0, pos := "encode.go:56", after := #[{ on := 5, ground := Go.Ground.data }], guard := none }) rfl (fun K hK => ?_) AllReadyH.nil
          go_simp
          refine hK.out _ _ (hHeld) (fun hHeld2 => ?_)
          clear hK K hHeld
          have hHeld := hHeld2
          clear hHeld2
          try simp only [Act.put, List.setIfInBounds_toArray, List.set_cons_zero, List.set_cons_succ]
          refine wpAnyH_take (i := 7) (oi := { dst := some 38, op := Go.Op.fieldAddr 85 (Go.Operand.tmp 37) 0, type := 0, pos := "encode.go:56", after := #[{ on := 6, ground := Go.Ground.data }], guard := none }) (v := ?v7_210103) rfl (by kernel_rfl) (by kernel_rfl) (by kernel_rfl) (fun _ _ _ h => h) (Or.inl ⟨by rfl, ?y7_210103⟩) hHeld ?r7_210103
          case y7_210103 => intro w hSw; (try dsimp only at hSw); have y0 := (hSw.2 0 _ rfl).1; have y1 := (hSw.2 1 _ rfl).1; go_simp; try with_reducible rfl
          try simp only [Act.put, List.setIfInBounds_toArray, List.set_cons_zero, List.set_cons_succ]
          refine wpAnyH_take (i := 8) (oi := { dst := some 39, op := Go.Op.load 22 (Go.Operand.tmp 38), type := 22, pos := "encode.go:56", after := #[{ on := 7, ground := Go.Ground.data }], guard := none }) (v := ?v8_210103) rfl (by kernel_rfl) (by kernel_rfl) (by kernel_rfl) (fun _ _ _ h => h) (Or.inl ⟨by rfl, ?y8_210103⟩) hHeld ?r8_210103
          case y8_210103 => intro w hSw; (try dsimp only at hSw); have y0 := (hSw.2 0 _ rfl).1; have y1 := (hSw.2 1 _ rfl).1; go_simp; try with_reducible rfl
          try simp only [Act.put, List.setIfInBounds_toArray, List.set_cons_zero, List.set_cons_succ]
          refine wpAnyH_take (i := 9) (oi := { dst := some 40, op := Go.Op.call { callee := Go.Callee.builtin Go.Builtin.len, args := #[Go.Operand.tmp 39], argTypes := #[22] }, type := 3, pos := "encode.go:56", after := #[{ on := 8, ground := Go.Ground.data }], guard := none }) (v := ?v9_210103) rfl (by kernel_rfl) (by kernel_rfl) (by kernel_rfl) (fun _ _ _ h => h) (Or.inl ⟨by rfl, ?y9_210103⟩) hHeld ?r9_210103
          case y9_210103 => intro w hSw; (try dsimp only at hSw); have y0 := (hSw.2 0 _ rfl).1; have y1 := (hSw.2 1 _ rfl).1; go_simp; try with_reducible rfl
          try simp only [Act.put, List.setIfInBounds_toArray, List.set_cons_zero, List.set_cons_succ]
          refine wpAnyH_ready (rs := [10]) (by kernel_rfl) (by simp) ?_
          refine AllReadyH.cons (o := { dst := none, op := Go.Op.mapUpdate 83 (Go.Operand.tmp 34) (Go.Operand.tmp 35) (Go.Operand.tmp 40), type := 0, pos := "encode.go:56", after := #[{ on := 3, ground := Go.Ground.data }, { on := 4, ground := Go.Ground.data }, { on := 9, ground := Go.Ground.data }, { on := 0, ground := Go.Ground.phase }, { on := 1, ground := Go.Ground.phase }, { on := 2, ground := Go.Ground.phase }, { on := 3, ground := Go.Ground.phase }, { on := 4, ground := Go.Ground.phase }, { on := 5, ground := Go.Ground.phase }, { on := 6, ground := Go.Ground.phase }, { on := 7, ground := Go.Ground.phase }, { on := 8, ground := Go.Ground.phase }, { on := 9, ground := Go.Ground.phase }], guard := none }) rfl (fun K hK => ?_) AllReadyH.nil
          have HPd : (World.ownsMap wr.drew Try.prog 9 (plainElem Try.prog 3) mb n1 D1) := HP.out
          obtain ⟨w5, hrun, hm5, hg5⟩ := World.ownsMap.update HPd strKeys Try.underlying83 hn1 hkey (plainElem_int Try.underlying3 (WalkArith.wf_i64 (by omega)) : plainElem Try.prog 3 (.int .i64 (xl : Int)) = _)
          have HC5 := Lib.hid ((show CN wr.drew q [.slice sa xl sc, .map (some mb)] from HC.out).grown hg5 (fun e => by injection e with e; exact HQ.out.2.2 e))
          go_simp
          refine hK.out _ _ (HC5.out) (fun hHeld2 => ?_)
          clear hK K hHeld
          have hHeld := hHeld2
          clear hHeld2
          try simp only [Act.put, List.setIfInBounds_toArray, List.set_cons_zero, List.set_cons_succ]
          refine wpAnyH_done (by kernel_rfl) ?_ _
          clear hrun
          have HSR := Lib.hid hs
          obtain ⟨r, hr2⟩ : ∃ r, nameB M = r := ⟨_, rfl⟩
          have hpar := parent_yes (t :: M) w5 HLD.out.1 HLD.out.2
          rw [show parS (t :: M) = r from hr2, hs] at hpar
          have HRR := Lib.hid hr2
          have HCW := Lib.hid (show CN w5 q [.slice sa xl sc, .map (some mb)] from HC5.out)
          have HTW := Lib.hid ((show TB wr.drew q 85 from HT.out).grown hg5 (fun e => HQ.out.2.2 (by injection e with e; exact e.symm)))
          have HOW := Lib.hid (own_apart7 (show World.ownsRow wr.drew B 5 1 (.slice sa xl sc) xl (bc X1) from HO.out) hg5 (fun k hk e => own_map_ne HO.out HP.out (by rw [hk]; exact e.symm)))
          have HBW := Lib.hid (Nat.le_trans (Nat.le_trans HBS.out HB.out.size) hg5.size)
          have HMW := Lib.hid (show w5.ownsMap Try.prog 9 (plainElem Try.prog 3) mb (n1 + 1) _ from hm5)
          have HBLW := Lib.hid (HB.out.drew.grown hg5 (Nat.le_trans HBS.out HB.out.size) (fun k hk => by injection hk with hk; rw [← hk]; exact HQ.out.2.1))
          have HFW := Lib.hid (show Kp w w5 by obtain ⟨es, ck, hmb, _⟩ := HP.out; exact HFR.out.drew.trans (Kp.map (show wr.drew.heap[mb]? = _ from hmb) hg5))
          have HPD := Lib.hid (show PlsD _ (putPl f1 (t :: M) xl) by unfold putPl; rw [if_pos HLT.out]; exact HD.out.put HLD.out.1 xl)
          have HPF := Lib.hid (show ∀ M2 p, putPl f1 (t :: M) xl M2 = some p → p < 16384 by unfold putPl; rw [if_pos HLT.out]; intro M2 p hp; unfold setPl at hp; split at hp; (injection hp with hp; have := HLT.out; omega); exact HF.out _ _ hp)
          have HNW := Lib.hid (show n1 + 1 ≤ xl + 1 by have := HN.out; have := HXL.out; omega)
          clear hg5 hm5 HC5
          clear hs hr2 hr' c0 c1 f0
          go_wp2_with fail
          refine hpar.mono ?_; rintro e w6 ⟨rfl, rfl⟩
          clear hpar
          go_upto_region 7 with (fail)
          have hsz := nameB_size (t :: M)
          have hsz2 := nameB_size M
          have hof := off_cons t M
          have hex := name_head t M
          rw [HSR.out] at hsz hex
          rw [HRR.out] at hsz2
          obtain ⟨ls, hls⟩ : ∃ ls, s.size = ls := ⟨_, rfl⟩
          obtain ⟨lr, hlr⟩ : ∃ lr, r.size = lr := ⟨_, rfl⟩
          obtain ⟨d, hd⟩ : ∃ d, 1 + t.size = d := ⟨_, rfl⟩
          rw [hls] at hsz
          rw [hlr] at hsz2
          rw [hd] at hex
          have HDS := Lib.hid (show ls = d + lr ∧ ls ≤ 300 ∧ 1 ≤ d by have := HLD.out.2; omega)
          have hsub : (ls : Int) - (lr : Int) = (d : Int) := by have := HDS.out.1; omega
          have hwr : IntKind.i64.wrap (d : Int) = (d : Int) := by rw [IntKind.wrap_i64]; have := HDS.out; omega
          have hdl : d ≤ ls := by have := HDS.out; omega
          obtain ⟨Y, hY⟩ : ∃ Y, UInt8.ofNat t.size :: t.data.toList = Y := ⟨_, rfl⟩
          rw [hY] at hex HE1
          have HYL := Lib.hid (show Y.length = d by rw [← hY, List.length_cons, size_data]; omega)
          have HEX := Lib.hid hex
          have HLSR := Lib.hid (show s.size = ls ∧ r.size = lr from ⟨hls, hlr⟩)
          have HOF := Lib.hid (show off L (k + 1) = off L k + d by rw [off_succ]; have e := HMK.out; have hkl : k < L.length := by { rcases Nat.lt_or_ge k L.length with h | h; exact h; rw [List.drop_eq_nil_of_le h] at e; cases e }; rw [drop_cons_tx L k hkl] at e; injection e with e1 _; rw [e1]; omega)
          clear hsz hsz2 hof hd hY hex
          refine wp_region_last_drew (S := (fun wx => CN wx q [.slice sa xl sc, .map (some mb)])) (L := 15) (by kernel_rfl) (HCW.out) (fun hHeld => ?_)
          refine wpAnyL_take (i := 0) (oi := { dst := some 46, op := Go.Op.move (Go.Operand.tmp 0), type := 111, pos := "encode.go:59", after := #[], guard := none }) (v := ?v0_220201) rfl (by kernel_rfl) (by kernel_rfl) (by kernel_rfl) (by kernel_rfl) (by kernel_rfl) (fun _ _ _ h => h) (Or.inl ⟨by rfl, ?y0_220201⟩) hHeld ?r0_220201
          case y0_220201 => intro w hSw; (try dsimp only at hSw); have y0 := (hSw.2 0 _ rfl).1; go_simp; try with_reducible rfl
          try simp only [Act.put, List.setIfInBounds_toArray, List.set_cons_zero, List.set_cons_succ]
          refine wpAnyL_take (i := 1) (oi := { dst := some 47, op := Go.Op.move (Go.Operand.tmp 0), type := 111, pos := "encode.go:59", after := #[], guard := none }) (v := ?v1_220201) rfl (by kernel_rfl) (by kernel_rfl) (by kernel_rfl) (by kernel_rfl) (by kernel_rfl) (fun _ _ _ h => h) (Or.inl ⟨by rfl, ?y1_220201⟩) hHeld ?r1_220201
          case y1_220201 => intro w hSw; (try dsimp only at hSw); have y0 := (hSw.2 0 _ rfl).1; go_simp; try with_reducible rfl
          try simp only [Act.put, List.setIfInBounds_toArray, List.set_cons_zero, List.set_cons_succ]
          refine wpAnyL_take (i := 5) (oi := { dst := some 51, op := Go.Op.move (Go.Operand.tmp 1), type := 9, pos := "encode.go:59", after := #[], guard := none }) (v := ?v5_220201) rfl (by kernel_rfl) (by kernel_rfl) (by kernel_rfl) (by kernel_rfl) (by kernel_rfl) (fun _ _ _ h => h) (Or.inl ⟨by rfl, ?y5_220201⟩) hHeld ?r5_220201
          case y5_220201 => intro w hSw; (try dsimp only at hSw); have y0 := (hSw.2 0 _ rfl).1; go_simp; try with_reducible rfl
          try simp only [Act.put, List.setIfInBounds_toArray, List.set_cons_zero, List.set_cons_succ]
          refine wpAnyL_take (i := 6) (oi := { dst := some 52, op := Go.Op.move (Go.Operand.tmp 1), type := 9, pos := "encode.go:59", after := #[], guard := none }) (v := ?v6_220201) rfl (by kernel_rfl) (by kernel_rfl) (by kernel_rfl) (by kernel_rfl) (by kernel_rfl) (fun _ _ _ h => h) (Or.inl ⟨by rfl, ?y6_220201⟩) hHeld ?r6_220201
          case y6_220201 => intro w hSw; (try dsimp only at hSw); have y0 := (hSw.2 0 _ rfl).1; go_simp; try with_reducible rfl
          try simp only [Act.put, List.setIfInBounds_toArray, List.set_cons_zero, List.set_cons_succ]
          refine wpAnyL_take (i := 7) (oi := { dst := some 53, op := Go.Op.call { callee := Go.Callee.builtin Go.Builtin.len, args := #[Go.Operand.tmp 52], argTypes := #[9] }, type := 3, pos := "encode.go:59", after := #[{ on := 6, ground := Go.Ground.data }], guard := none }) (v := ?v7_220201) rfl (by kernel_rfl) (by kernel_rfl) (by kernel_rfl) (by kernel_rfl) (by kernel_rfl) (fun _ _ _ h => h) (Or.inl ⟨by rfl, ?y7_220201⟩) hHeld ?r7_220201
          case y7_220201 => intro w hSw; (try dsimp only at hSw); have y0 := (hSw.2 0 _ rfl).1; go_simp; try with_reducible rfl
          try simp only [Act.put, List.setIfInBounds_toArray, List.set_cons_zero, List.set_cons_succ]
          refine wpAnyL_take (i := 8) (oi := { dst := some 54, op := Go.Op.move (Go.Operand.tmp 6), type := 9, pos := "encode.go:59", after := #[], guard := none }) (v := ?v8_220201) rfl (by kernel_rfl) (by kernel_rfl) (by kernel_rfl) (by kernel_rfl) (by kernel_rfl) (fun _ _ _ h => h) (Or.inl ⟨by rfl, ?y8_220201⟩) hHeld ?r8_220201
          case y8_220201 => intro w hSw; (try dsimp only at hSw); have y0 := (hSw.2 0 _ rfl).1; go_simp; try with_reducible rfl
          try simp only [Act.put, List.setIfInBounds_toArray, List.set_cons_zero, List.set_cons_succ]
          refine wpAnyL_take (i := 9) (oi := { dst := some 55, op := Go.Op.call { callee := Go.Callee.builtin Go.Builtin.len, args := #[Go.Operand.tmp 54], argTypes := #[9] }, type := 3, pos := "encode.go:59", after := #[{ on := 8, ground := Go.Ground.data }], guard := none }) (v := ?v9_220201) rfl (by kernel_rfl) (by kernel_rfl) (by kernel_rfl) (by kernel_rfl) (by kernel_rfl) (fun _ _ _ h => h) (Or.inl ⟨by rfl, ?y9_220201⟩) hHeld ?r9_220201
          case y9_220201 => intro w hSw; (try dsimp only at hSw); have y0 := (hSw.2 0 _ rfl).1; go_simp; try with_reducible rfl
          try simp only [Act.put, List.setIfInBounds_toArray, List.set_cons_zero, List.set_cons_succ]
          refine wpAnyL_take (i := 10) (oi := { dst := some 56, op := Go.Op.binOp Go.BinOp.sub 3 (Go.Operand.tmp 53) (Go.Operand.tmp 55) 3, type := 3, pos := "encode.go:59", after := #[{ on := 7, ground := Go.Ground.data }, { on := 9, ground := Go.Ground.data }], guard := none }) (v := ?v10_220201) rfl (by kernel_rfl) (by kernel_rfl) (by kernel_rfl) (by kernel_rfl) (by kernel_rfl) (fun _ _ _ h => h) (Or.inl ⟨by rfl, ?y10_220201⟩) hHeld ?r10_220201
          case y10_220201 => intro w hSw; (try dsimp only at hSw); have y0 := (hSw.2 0 _ rfl).1; go_simp; try with_reducible rfl
          try simp only [Act.put, List.setIfInBounds_toArray, List.set_cons_zero, List.set_cons_succ]
          refine wpAnyL_take (i := 11) (oi := { dst := some 57, op := Go.Op.slice 9 (Go.Operand.tmp 51) none (some (Go.Operand.tmp 56)) none, type := 9, pos := "encode.go:59", after := #[{ on := 5, ground := Go.Ground.data }, { on := 10, ground := Go.Ground.data }], guard := none }) (v := ?v11_220201) rfl (by kernel_rfl) (by kernel_rfl) (by kernel_rfl) (by kernel_rfl) (by kernel_rfl) (fun _ _ _ h => h) (Or.inl ⟨by rfl, ?y11_220201⟩) hHeld ?r11_220201
          case y11_220201 => intro w hSw; (try dsimp only at hSw); have y0 := (hSw.2 0 _ rfl).1; go_simp; try with_reducible rfl
          try simp only [Act.put, List.setIfInBounds_toArray, List.set_cons_zero, List.set_cons_succ]
          refine wpAnyL_ready (rs := [2]) (by kernel_rfl) (by simp) ?_
          refine AllReadyL.cons (o := { dst := some 48, op := Go.Op.nilCheck (Go.Operand.tmp 47), type := 0, pos := "encode.go:59", after := #[{ on := 1, ground := Go.Ground.data }], guard := none }) rfl (by decide) (fun K hK => ?_) AllReadyL.nil
          go_simp
          refine hK.out _ _ (hHeld) (fun hHeld2 => ?_)
          clear hK K hHeld
          have hHeld := hHeld2
          clear hHeld2
          try simp only [Act.put, List.setIfInBounds_toArray, List.set_cons_zero, List.set_cons_succ]
          refine wpAnyL_take (i := 3) (oi := { dst := some 49, op := Go.Op.fieldAddr 85 (Go.Operand.tmp 48) 0, type := 0, pos := "encode.go:59", after := #[{ on := 2, ground := Go.Ground.data }], guard := none }) (v := ?v3_220202) rfl (by kernel_rfl) (by kernel_rfl) (by kernel_rfl) (by kernel_rfl) (by kernel_rfl) (fun _ _ _ h => h) (Or.inl ⟨by rfl, ?y3_220202⟩) hHeld ?r3_220202
          case y3_220202 => intro w hSw; (try dsimp only at hSw); have y0 := (hSw.2 0 _ rfl).1; go_simp; try with_reducible rfl
          try simp only [Act.put, List.setIfInBounds_toArray, List.set_cons_zero, List.set_cons_succ]
          refine wpAnyL_take (i := 4) (oi := { dst := some 50, op := Go.Op.load 22 (Go.Operand.tmp 49), type := 22, pos := "encode.go:59", after := #[{ on := 3, ground := Go.Ground.data }], guard := none }) (v := ?v4_220202) rfl (by kernel_rfl) (by kernel_rfl) (by kernel_rfl) (by kernel_rfl) (by kernel_rfl) (fun _ _ _ h => h) (Or.inl ⟨by rfl, ?y4_220202⟩) hHeld ?r4_220202
          case y4_220202 => intro w hSw; (try dsimp only at hSw); have y0 := (hSw.2 0 _ rfl).1; go_simp; try with_reducible rfl
          try simp only [Act.put, List.setIfInBounds_toArray, List.set_cons_zero, List.set_cons_succ]
          refine wpAnyL_ready (rs := [12]) (by kernel_rfl) (by simp) ?_
          refine AllReadyL.cons (o := { dst := some 58, op := Go.Op.call { callee := Go.Callee.builtin Go.Builtin.append, args := #[Go.Operand.tmp 50, Go.Operand.tmp 57], argTypes := #[22, 9] }, type := 22, pos := "encode.go:59", after := #[{ on := 4, ground := Go.Ground.data }, { on := 11, ground := Go.Ground.data }], guard := none }) rfl (by decide) (fun K hK => ?_) AllReadyL.nil
          refine step_append_str5 (by rfl) _ _ 22 9 (by rfl) B 5 i0 Try.underlying22 Try.underlying9 HI.out HZ0.out HZ1.out HZ2.out (.slice sa xl sc) xl (bc X1) (by rfl) (show World.ownsRow w5.drew B _ 1 (.slice sa xl sc) xl (bc X1) from HOW.out) (s.extract 0 d) (by rfl) (by rw [HEX.out, bs_size, HYL.out]; have := HDS.out; have := HXS.out; unfold maxLen; omega) (by rw [HEX.out, bs_size, HYL.out]; have := HDS.out; have := HXS.out; omega) HBW.out ?_
          intro v7 w7 ho7 hg7
          rw [HEX.out, bs_size, HYL.out, strCells_bs, ← bc_append] at ho7
          obtain ⟨sa7, sc7, rfl, -⟩ := cellsK_own ho7
          have hne7 := own_ne HOW.out HTW.out (by decide)
          have HC7 := Lib.hid ((show CN w5.drew q [.slice sa xl sc, .map (some mb)] from HCW.out).grown hg7 (fun e => hne7 e.symm))
          have HT7 := Lib.hid ((show TB w5.drew q 85 from HTW.out).grown hg7 hne7)
          have HO7 := Lib.hid ho7
          have HG7 := Lib.hid hg7
          clear ho7 hg7 hne7
          refine hK.out _ _ (HC7.out) (fun hHeld2 => ?_)
          clear hK K hHeld
          have hHeld := hHeld2
          clear hHeld2
          try simp only [Act.put, List.setIfInBounds_toArray, List.set_cons_zero, List.set_cons_succ]
          refine wpAnyL_ready (rs := [13]) (by kernel_rfl) (by simp) ?_
          refine AllReadyL.cons (o := { dst := some 59, op := Go.Op.nilCheck (Go.Operand.tmp 46), type := 0, pos := "encode.go:59", after := #[{ on := 0, ground := Go.Ground.data }, { on := 0, ground := Go.Ground.phase }, { on := 1, ground := Go.Ground.phase }, { on := 2, ground := Go.Ground.phase }, { on := 3, ground := Go.Ground.phase }, { on := 4, ground := Go.Ground.phase }, { on := 5, ground := Go.Ground.phase }, { on := 6, ground := Go.Ground.phase }, { on := 7, ground := Go.Ground.phase }, { on := 8, ground := Go.Ground.phase }, { on := 9, ground := Go.Ground.phase }, { on := 10, ground := Go.Ground.phase }, { on := 11, ground := Go.Ground.phase }, { on := 12, ground := Go.Ground.phase }], guard := none }) rfl (by decide) (fun K hK => ?_) AllReadyL.nil
          go_simp
          refine hK.out _ _ (hHeld) (fun hHeld2 => ?_)
          clear hK K hHeld
          have hHeld := hHeld2
          clear hHeld2
          try simp only [Act.put, List.setIfInBounds_toArray, List.set_cons_zero, List.set_cons_succ]
          refine wpAnyL_take (i := 14) (oi := { dst := some 60, op := Go.Op.fieldAddr 85 (Go.Operand.tmp 59) 0, type := 0, pos := "encode.go:59", after := #[{ on := 13, ground := Go.Ground.data }, { on := 0, ground := Go.Ground.phase }, { on := 1, ground := Go.Ground.phase }, { on := 2, ground := Go.Ground.phase }, { on := 3, ground := Go.Ground.phase }, { on := 4, ground := Go.Ground.phase }, { on := 5, ground := Go.Ground.phase }, { on := 6, ground := Go.Ground.phase }, { on := 7, ground := Go.Ground.phase }, { on := 8, ground := Go.Ground.phase }, { on := 9, ground := Go.Ground.phase }, { on := 10, ground := Go.Ground.phase }, { on := 11, ground := Go.Ground.phase }, { on := 12, ground := Go.Ground.phase }], guard := none }) (v := ?v14_220204) rfl (by kernel_rfl) (by kernel_rfl) (by kernel_rfl) (by kernel_rfl) (by kernel_rfl) (fun _ _ _ h => h) (Or.inl ⟨by rfl, ?y14_220204⟩) hHeld ?r14_220204
          case y14_220204 => intro w hSw; (try dsimp only at hSw); have y0 := (hSw.2 0 _ rfl).1; go_simp; try with_reducible rfl
          try simp only [Act.put, List.setIfInBounds_toArray, List.set_cons_zero, List.set_cons_succ]
          refine wpAnyL_ready (rs := [15]) (by kernel_rfl) (by simp) ?_
          refine AllReadyL.last (o := { dst := none, op := Go.Op.store 22 (Go.Operand.tmp 60) (Go.Operand.tmp 58), type := 0, pos := "encode.go:59", after := #[{ on := 14, ground := Go.Ground.data }, { on := 12, ground := Go.Ground.data }, { on := 12, ground := Go.Ground.chain }, { on := 0, ground := Go.Ground.phase }, { on := 1, ground := Go.Ground.phase }, { on := 2, ground := Go.Ground.phase }, { on := 3, ground := Go.Ground.phase }, { on := 4, ground := Go.Ground.phase }, { on := 5, ground := Go.Ground.phase }, { on := 6, ground := Go.Ground.phase }, { on := 7, ground := Go.Ground.phase }, { on := 8, ground := Go.Ground.phase }, { on := 9, ground := Go.Ground.phase }, { on := 10, ground := Go.Ground.phase }, { on := 11, ground := Go.Ground.phase }, { on := 12, ground := Go.Ground.phase }], guard := none }) rfl (by decide) (fun K hK => ?_) AllReadyL.nil
          have y0 := (HC7.out.2 0 _ rfl).1
          have g0 := (HC7.out.2 0 _ rfl).2
          go_simp
          refine hK.out _ _ trivial (fun _ => ?_)
          clear hK K
          try simp only [Act.put, List.setIfInBounds_toArray, List.set_cons_zero, List.set_cons_succ]
          refine wpAnyL_done (by kernel_rfl) ?_ _
          have HC8 := Lib.hid (HC7.out.set 0 (by simp) (.slice sa7 (xl + d) sc7))
          have HT8 := Lib.hid (HT7.out.set 0 (.slice sa7 (xl + d) sc7))
          have HO8 := Lib.hid (own_keeps HO7.out HT7.out (by decide) (grown_cell w7 q 0 (.slice sa7 (xl + d) sc7)))
          have HM8 := Lib.hid (((show World.ownsMap w5.drew Try.prog 9 (plainElem Try.prog 3) mb _ _ from HMW.out).kept HG7.out (map_apart HOW.out HMW.out)).setCell (a := ⟨q, 0, none⟩) (fun e => HQ.out.2.2 e.symm) (.slice sa7 (xl + d) sc7))
          have HB8 := Lib.hid ((HBLW.out.drew.grown HG7.out HBW.out (fun k hk => (HOW.out.lt k hk).1)).setCell HQ.out.1 (.slice sa7 (xl + d) sc7) (p := ⟨q, 0, none⟩))
          have HF8 := Lib.hid ((HFW.out.drew.trans (Kp.grown (show World.ownsRow w5.drew B _ 1 (.slice sa xl sc) xl (bc X1) from HOW.out) HG7.out)).trans (Kp.set HT7.out 0 (.slice sa7 (xl + d) sc7)))
          go_wp2
          go_roundw
          case rel =>
            refine ⟨k + 1, ?_, ?_, putPl f1 (t :: M) xl, X1 ++ Y, ⟨.slice sa7 (xl + d) sc7, _, _, HC8.out, HT8.out, ?_, HM8.out, HPD.out, HPF.out, ?_⟩, ?_, ?_, HB8.out, HF8.out⟩
            · rcases Nat.lt_or_ge k L.length with h | h
              · exact h
              · have e := HMK.out; rw [List.drop_eq_nil_of_le h] at e; cases e
            · rw [← HRR.out]; have e := HMK.out; rw [show L.drop (k + 1) = M by rw [← List.drop_drop, e]; rfl]
            · rw [List.length_append, HXL.out, HYL.out]; exact HO8.out
            · rw [List.length_append, HXL.out, HYL.out]; have := HNW.out; have := HDS.out; omega
            · rw [show L.drop (k + 1) = M by rw [← List.drop_drop, HMK.out]; rfl]; exact HE1.out
            · rw [List.length_append, HXL.out, HYL.out, HOF.out]; have := HX.out; have := HXL.out; omega
          case measure => show r.size < s.size; rw [HLSR.out.1, HLSR.out.2]; have := HDS.out; omega
        · go_simp
          refine hK.out _ _ (hHeld) (fun hHeld2 => ?_)
          clear hK K hHeld
          have hHeld := hHeld2
          clear hHeld2
          try simp only [Act.put, List.setIfInBounds_toArray, List.set_cons_zero, List.set_cons_succ]
          refine wpAnyH_take (i := 7) (oi := { dst := some 38, op := Go.Op.fieldAddr 85 (Go.Operand.tmp 37) 0, type := 0, pos := "encode.go:56", after := #[{ on := 6, ground := Go.Ground.data }], guard := none }) (v := ?v7_210105) rfl (by kernel_rfl) (by kernel_rfl) (by kernel_rfl) (fun _ _ _ h => h) (Or.inl ⟨by rfl, ?y7_210105⟩) hHeld ?r7_210105
          case y7_210105 => intro w hSw; (try dsimp only at hSw); have y0 := (hSw.2 0 _ rfl).1; have y1 := (hSw.2 1 _ rfl).1; go_simp; try with_reducible rfl
          try simp only [Act.put, List.setIfInBounds_toArray, List.set_cons_zero, List.set_cons_succ]
          refine wpAnyH_take (i := 8) (oi := { dst := some 39, op := Go.Op.load 22 (Go.Operand.tmp 38), type := 22, pos := "encode.go:56", after := #[{ on := 7, ground := Go.Ground.data }], guard := none }) (v := ?v8_210105) rfl (by kernel_rfl) (by kernel_rfl) (by kernel_rfl) (fun _ _ _ h => h) (Or.inl ⟨by rfl, ?y8_210105⟩) hHeld ?r8_210105
          case y8_210105 => intro w hSw; (try dsimp only at hSw); have y0 := (hSw.2 0 _ rfl).1; have y1 := (hSw.2 1 _ rfl).1; go_simp; try with_reducible rfl
          try simp only [Act.put, List.setIfInBounds_toArray, List.set_cons_zero, List.set_cons_succ]
          refine wpAnyH_take (i := 9) (oi := { dst := some 40, op := Go.Op.call { callee := Go.Callee.builtin Go.Builtin.len, args := #[Go.Operand.tmp 39], argTypes := #[22] }, type := 3, pos := "encode.go:56", after := #[{ on := 8, ground := Go.Ground.data }], guard := none }) (v := ?v9_210105) rfl (by kernel_rfl) (by kernel_rfl) (by kernel_rfl) (fun _ _ _ h => h) (Or.inl ⟨by rfl, ?y9_210105⟩) hHeld ?r9_210105
          case y9_210105 => intro w hSw; (try dsimp only at hSw); have y0 := (hSw.2 0 _ rfl).1; have y1 := (hSw.2 1 _ rfl).1; go_simp; try with_reducible rfl
          try simp only [Act.put, List.setIfInBounds_toArray, List.set_cons_zero, List.set_cons_succ]
          refine wpAnyH_ready (rs := [1]) (by kernel_rfl) (by simp) ?_
          refine AllReadyH.cons (o := { dst := some 32, op := Go.Op.nilCheck (Go.Operand.tmp 31), type := 0, pos := "encode.go:56", after := #[{ on := 0, ground := Go.Ground.data }], guard := none }) rfl (fun K hK => ?_) AllReadyH.nil
          go_simp
          refine hK.out _ _ (hHeld) (fun hHeld2 => ?_)
          clear hK K hHeld
          have hHeld := hHeld2
          clear hHeld2
          try simp only [Act.put, List.setIfInBounds_toArray, List.set_cons_zero, List.set_cons_succ]
          refine wpAnyH_take (i := 2) (oi := { dst := some 33, op := Go.Op.fieldAddr 85 (Go.Operand.tmp 32) 1, type := 0, pos := "encode.go:56", after := #[{ on := 1, ground := Go.Ground.data }], guard := none }) (v := ?v2_210106) rfl (by kernel_rfl) (by kernel_rfl) (by kernel_rfl) (fun _ _ _ h => h) (Or.inl ⟨by rfl, ?y2_210106⟩) hHeld ?r2_210106
          case y2_210106 => intro w hSw; (try dsimp only at hSw); have y0 := (hSw.2 0 _ rfl).1; have y1 := (hSw.2 1 _ rfl).1; go_simp; try with_reducible rfl
          try simp only [Act.put, List.setIfInBounds_toArray, List.set_cons_zero, List.set_cons_succ]
          refine wpAnyH_take (i := 3) (oi := { dst := some 34, op := Go.Op.load 83 (Go.Operand.tmp 33), type := 83, pos := "encode.go:56", after := #[{ on := 2, ground := Go.Ground.data }], guard := none }) (v := ?v3_210106) rfl (by kernel_rfl) (by kernel_rfl) (by kernel_rfl) (fun _ _ _ h => h) (Or.inl ⟨by rfl, ?y3_210106⟩) hHeld ?r3_210106
          case y3_210106 => intro w hSw; (try dsimp only at hSw); have y0 := (hSw.2 0 _ rfl).1; have y1 := (hSw.2 1 _ rfl).1; go_simp; try with_reducible rfl
          try simp only [Act.put, List.setIfInBounds_toArray, List.set_cons_zero, List.set_cons_succ]
          refine wpAnyH_ready (rs := [10]) (by kernel_rfl) (by simp) ?_
          refine AllReadyH.cons (o := { dst := none, op := Go.Op.mapUpdate 83 (Go.Operand.tmp 34) (Go.Operand.tmp 35) (Go.Operand.tmp 40), type := 0, pos := "encode.go:56", after := #[{ on := 3, ground := Go.Ground.data }, { on := 4, ground := Go.Ground.data }, { on := 9, ground := Go.Ground.data }, { on := 0, ground := Go.Ground.phase }, { on := 1, ground := Go.Ground.phase }, { on := 2, ground := Go.Ground.phase }, { on := 3, ground := Go.Ground.phase }, { on := 4, ground := Go.Ground.phase }, { on := 5, ground := Go.Ground.phase }, { on := 6, ground := Go.Ground.phase }, { on := 7, ground := Go.Ground.phase }, { on := 8, ground := Go.Ground.phase }, { on := 9, ground := Go.Ground.phase }], guard := none }) rfl (fun K hK => ?_) AllReadyH.nil
          have HPd : (World.ownsMap wr.drew Try.prog 9 (plainElem Try.prog 3) mb n1 D1) := HP.out
          obtain ⟨w5, hrun, hm5, hg5⟩ := World.ownsMap.update HPd strKeys Try.underlying83 hn1 hkey (plainElem_int Try.underlying3 (WalkArith.wf_i64 (by omega)) : plainElem Try.prog 3 (.int .i64 (xl : Int)) = _)
          have HC5 := Lib.hid ((show CN wr.drew q [.slice sa xl sc, .map (some mb)] from HC.out).grown hg5 (fun e => by injection e with e; exact HQ.out.2.2 e))
          go_simp
          refine hK.out _ _ (HC5.out) (fun hHeld2 => ?_)
          clear hK K hHeld
          have hHeld := hHeld2
          clear hHeld2
          try simp only [Act.put, List.setIfInBounds_toArray, List.set_cons_zero, List.set_cons_succ]
          refine wpAnyH_done (by kernel_rfl) ?_ _
          clear hrun
          have HSR := Lib.hid hs
          obtain ⟨r, hr2⟩ : ∃ r, nameB M = r := ⟨_, rfl⟩
          have hpar := parent_yes (t :: M) w5 HLD.out.1 HLD.out.2
          rw [show parS (t :: M) = r from hr2, hs] at hpar
          have HRR := Lib.hid hr2
          have HCW := Lib.hid (show CN w5 q [.slice sa xl sc, .map (some mb)] from HC5.out)
          have HTW := Lib.hid ((show TB wr.drew q 85 from HT.out).grown hg5 (fun e => HQ.out.2.2 (by injection e with e; exact e.symm)))
          have HOW := Lib.hid (own_apart7 (show World.ownsRow wr.drew B 5 1 (.slice sa xl sc) xl (bc X1) from HO.out) hg5 (fun k hk e => own_map_ne HO.out HP.out (by rw [hk]; exact e.symm)))
          have HBW := Lib.hid (Nat.le_trans (Nat.le_trans HBS.out HB.out.size) hg5.size)
          have HMW := Lib.hid (show w5.ownsMap Try.prog 9 (plainElem Try.prog 3) mb (n1 + 1) _ from hm5)
          have HBLW := Lib.hid (HB.out.drew.grown hg5 (Nat.le_trans HBS.out HB.out.size) (fun k hk => by injection hk with hk; rw [← hk]; exact HQ.out.2.1))
          have HFW := Lib.hid (show Kp w w5 by obtain ⟨es, ck, hmb, _⟩ := HP.out; exact HFR.out.drew.trans (Kp.map (show wr.drew.heap[mb]? = _ from hmb) hg5))
          have HPD := Lib.hid (show PlsD _ (putPl f1 (t :: M) xl) by unfold putPl; rw [if_pos HLT.out]; exact HD.out.put HLD.out.1 xl)
          have HPF := Lib.hid (show ∀ M2 p, putPl f1 (t :: M) xl M2 = some p → p < 16384 by unfold putPl; rw [if_pos HLT.out]; intro M2 p hp; unfold setPl at hp; split at hp; (injection hp with hp; have := HLT.out; omega); exact HF.out _ _ hp)
          have HNW := Lib.hid (show n1 + 1 ≤ xl + 1 by have := HN.out; have := HXL.out; omega)
          clear hg5 hm5 HC5
          clear hs hr2 hr' c0 c1 f0
          go_wp2_with fail
          refine hpar.mono ?_; rintro e w6 ⟨rfl, rfl⟩
          clear hpar
          go_upto_region 7 with (fail)
          have hsz := nameB_size (t :: M)
          have hsz2 := nameB_size M
          have hof := off_cons t M
          have hex := name_head t M
          rw [HSR.out] at hsz hex
          rw [HRR.out] at hsz2
          obtain ⟨ls, hls⟩ : ∃ ls, s.size = ls := ⟨_, rfl⟩
          obtain ⟨lr, hlr⟩ : ∃ lr, r.size = lr := ⟨_, rfl⟩
          obtain ⟨d, hd⟩ : ∃ d, 1 + t.size = d := ⟨_, rfl⟩
          rw [hls] at hsz
          rw [hlr] at hsz2
          rw [hd] at hex
          have HDS := Lib.hid (show ls = d + lr ∧ ls ≤ 300 ∧ 1 ≤ d by have := HLD.out.2; omega)
          have hsub : (ls : Int) - (lr : Int) = (d : Int) := by have := HDS.out.1; omega
          have hwr : IntKind.i64.wrap (d : Int) = (d : Int) := by rw [IntKind.wrap_i64]; have := HDS.out; omega
          have hdl : d ≤ ls := by have := HDS.out; omega
          obtain ⟨Y, hY⟩ : ∃ Y, UInt8.ofNat t.size :: t.data.toList = Y := ⟨_, rfl⟩
          rw [hY] at hex HE1
          have HYL := Lib.hid (show Y.length = d by rw [← hY, List.length_cons, size_data]; omega)
          have HEX := Lib.hid hex
          have HLSR := Lib.hid (show s.size = ls ∧ r.size = lr from ⟨hls, hlr⟩)
          have HOF := Lib.hid (show off L (k + 1) = off L k + d by rw [off_succ]; have e := HMK.out; have hkl : k < L.length := by { rcases Nat.lt_or_ge k L.length with h | h; exact h; rw [List.drop_eq_nil_of_le h] at e; cases e }; rw [drop_cons_tx L k hkl] at e; injection e with e1 _; rw [e1]; omega)
          clear hsz hsz2 hof hd hY hex
          refine wp_region_last_drew (S := (fun wx => CN wx q [.slice sa xl sc, .map (some mb)])) (L := 15) (by kernel_rfl) (HCW.out) (fun hHeld => ?_)
          refine wpAnyL_take (i := 0) (oi := { dst := some 46, op := Go.Op.move (Go.Operand.tmp 0), type := 111, pos := "encode.go:59", after := #[], guard := none }) (v := ?v0_220301) rfl (by kernel_rfl) (by kernel_rfl) (by kernel_rfl) (by kernel_rfl) (by kernel_rfl) (fun _ _ _ h => h) (Or.inl ⟨by rfl, ?y0_220301⟩) hHeld ?r0_220301
          case y0_220301 => intro w hSw; (try dsimp only at hSw); have y0 := (hSw.2 0 _ rfl).1; go_simp; try with_reducible rfl
          try simp only [Act.put, List.setIfInBounds_toArray, List.set_cons_zero, List.set_cons_succ]
          refine wpAnyL_take (i := 1) (oi := { dst := some 47, op := Go.Op.move (Go.Operand.tmp 0), type := 111, pos := "encode.go:59", after := #[], guard := none }) (v := ?v1_220301) rfl (by kernel_rfl) (by kernel_rfl) (by kernel_rfl) (by kernel_rfl) (by kernel_rfl) (fun _ _ _ h => h) (Or.inl ⟨by rfl, ?y1_220301⟩) hHeld ?r1_220301
          case y1_220301 => intro w hSw; (try dsimp only at hSw); have y0 := (hSw.2 0 _ rfl).1; go_simp; try with_reducible rfl
          try simp only [Act.put, List.setIfInBounds_toArray, List.set_cons_zero, List.set_cons_succ]
          refine wpAnyL_take (i := 5) (oi := { dst := some 51, op := Go.Op.move (Go.Operand.tmp 1), type := 9, pos := "encode.go:59", after := #[], guard := none }) (v := ?v5_220301) rfl (by kernel_rfl) (by kernel_rfl) (by kernel_rfl) (by kernel_rfl) (by kernel_rfl) (fun _ _ _ h => h) (Or.inl ⟨by rfl, ?y5_220301⟩) hHeld ?r5_220301
          case y5_220301 => intro w hSw; (try dsimp only at hSw); have y0 := (hSw.2 0 _ rfl).1; go_simp; try with_reducible rfl
          try simp only [Act.put, List.setIfInBounds_toArray, List.set_cons_zero, List.set_cons_succ]
          refine wpAnyL_take (i := 6) (oi := { dst := some 52, op := Go.Op.move (Go.Operand.tmp 1), type := 9, pos := "encode.go:59", after := #[], guard := none }) (v := ?v6_220301) rfl (by kernel_rfl) (by kernel_rfl) (by kernel_rfl) (by kernel_rfl) (by kernel_rfl) (fun _ _ _ h => h) (Or.inl ⟨by rfl, ?y6_220301⟩) hHeld ?r6_220301
          case y6_220301 => intro w hSw; (try dsimp only at hSw); have y0 := (hSw.2 0 _ rfl).1; go_simp; try with_reducible rfl
          try simp only [Act.put, List.setIfInBounds_toArray, List.set_cons_zero, List.set_cons_succ]
          refine wpAnyL_take (i := 7) (oi := { dst := some 53, op := Go.Op.call { callee := Go.Callee.builtin Go.Builtin.len, args := #[Go.Operand.tmp 52], argTypes := #[9] }, type := 3, pos := "encode.go:59", after := #[{ on := 6, ground := Go.Ground.data }], guard := none }) (v := ?v7_220301) rfl (by kernel_rfl) (by kernel_rfl) (by kernel_rfl) (by kernel_rfl) (by kernel_rfl) (fun _ _ _ h => h) (Or.inl ⟨by rfl, ?y7_220301⟩) hHeld ?r7_220301
          case y7_220301 => intro w hSw; (try dsimp only at hSw); have y0 := (hSw.2 0 _ rfl).1; go_simp; try with_reducible rfl
          try simp only [Act.put, List.setIfInBounds_toArray, List.set_cons_zero, List.set_cons_succ]
          refine wpAnyL_take (i := 8) (oi := { dst := some 54, op := Go.Op.move (Go.Operand.tmp 6), type := 9, pos := "encode.go:59", after := #[], guard := none }) (v := ?v8_220301) rfl (by kernel_rfl) (by kernel_rfl) (by kernel_rfl) (by kernel_rfl) (by kernel_rfl) (fun _ _ _ h => h) (Or.inl ⟨by rfl, ?y8_220301⟩) hHeld ?r8_220301
          case y8_220301 => intro w hSw; (try dsimp only at hSw); have y0 := (hSw.2 0 _ rfl).1; go_simp; try with_reducible rfl
          try simp only [Act.put, List.setIfInBounds_toArray, List.set_cons_zero, List.set_cons_succ]
          refine wpAnyL_take (i := 9) (oi := { dst := some 55, op := Go.Op.call { callee := Go.Callee.builtin Go.Builtin.len, args := #[Go.Operand.tmp 54], argTypes := #[9] }, type := 3, pos := "encode.go:59", after := #[{ on := 8, ground := Go.Ground.data }], guard := none }) (v := ?v9_220301) rfl (by kernel_rfl) (by kernel_rfl) (by kernel_rfl) (by kernel_rfl) (by kernel_rfl) (fun _ _ _ h => h) (Or.inl ⟨by rfl, ?y9_220301⟩) hHeld ?r9_220301
          case y9_220301 => intro w hSw; (try dsimp only at hSw); have y0 := (hSw.2 0 _ rfl).1; go_simp; try with_reducible rfl
          try simp only [Act.put, List.setIfInBounds_toArray, List.set_cons_zero, List.set_cons_succ]
          refine wpAnyL_take (i := 10) (oi := { dst := some 56, op := Go.Op.binOp Go.BinOp.sub 3 (Go.Operand.tmp 53) (Go.Operand.tmp 55) 3, type := 3, pos := "encode.go:59", after := #[{ on := 7, ground := Go.Ground.data }, { on := 9, ground := Go.Ground.data }], guard := none }) (v := ?v10_220301) rfl (by kernel_rfl) (by kernel_rfl) (by kernel_rfl) (by kernel_rfl) (by kernel_rfl) (fun _ _ _ h => h) (Or.inl ⟨by rfl, ?y10_220301⟩) hHeld ?r10_220301
          case y10_220301 => intro w hSw; (try dsimp only at hSw); have y0 := (hSw.2 0 _ rfl).1; go_simp; try with_reducible rfl
          try simp only [Act.put, List.setIfInBounds_toArray, List.set_cons_zero, List.set_cons_succ]
          refine wpAnyL_take (i := 11) (oi := { dst := some 57, op := Go.Op.slice 9 (Go.Operand.tmp 51) none (some (Go.Operand.tmp 56)) none, type := 9, pos := "encode.go:59", after := #[{ on := 5, ground := Go.Ground.data }, { on := 10, ground := Go.Ground.data }], guard := none }) (v := ?v11_220301) rfl (by kernel_rfl) (by kernel_rfl) (by kernel_rfl) (by kernel_rfl) (by kernel_rfl) (fun _ _ _ h => h) (Or.inl ⟨by rfl, ?y11_220301⟩) hHeld ?r11_220301
          case y11_220301 => intro w hSw; (try dsimp only at hSw); have y0 := (hSw.2 0 _ rfl).1; go_simp; try with_reducible rfl
          try simp only [Act.put, List.setIfInBounds_toArray, List.set_cons_zero, List.set_cons_succ]
          refine wpAnyL_ready (rs := [2]) (by kernel_rfl) (by simp) ?_
          refine AllReadyL.cons (o := { dst := some 48, op := Go.Op.nilCheck (Go.Operand.tmp 47), type := 0, pos := "encode.go:59", after := #[{ on := 1, ground := Go.Ground.data }], guard := none }) rfl (by decide) (fun K hK => ?_) AllReadyL.nil
          go_simp
          refine hK.out _ _ (hHeld) (fun hHeld2 => ?_)
          clear hK K hHeld
          have hHeld := hHeld2
          clear hHeld2
          try simp only [Act.put, List.setIfInBounds_toArray, List.set_cons_zero, List.set_cons_succ]
          refine wpAnyL_take (i := 3) (oi := { dst := some 49, op := Go.Op.fieldAddr 85 (Go.Operand.tmp 48) 0, type := 0, pos := "encode.go:59", after := #[{ on := 2, ground := Go.Ground.data }], guard := none }) (v := ?v3_220302) rfl (by kernel_rfl) (by kernel_rfl) (by kernel_rfl) (by kernel_rfl) (by kernel_rfl) (fun _ _ _ h => h) (Or.inl ⟨by rfl, ?y3_220302⟩) hHeld ?r3_220302
          case y3_220302 => intro w hSw; (try dsimp only at hSw); have y0 := (hSw.2 0 _ rfl).1; go_simp; try with_reducible rfl
          try simp only [Act.put, List.setIfInBounds_toArray, List.set_cons_zero, List.set_cons_succ]
          refine wpAnyL_take (i := 4) (oi := { dst := some 50, op := Go.Op.load 22 (Go.Operand.tmp 49), type := 22, pos := "encode.go:59", after := #[{ on := 3, ground := Go.Ground.data }], guard := none }) (v := ?v4_220302) rfl (by kernel_rfl) (by kernel_rfl) (by kernel_rfl) (by kernel_rfl) (by kernel_rfl) (fun _ _ _ h => h) (Or.inl ⟨by rfl, ?y4_220302⟩) hHeld ?r4_220302
          case y4_220302 => intro w hSw; (try dsimp only at hSw); have y0 := (hSw.2 0 _ rfl).1; go_simp; try with_reducible rfl
          try simp only [Act.put, List.setIfInBounds_toArray, List.set_cons_zero, List.set_cons_succ]
          refine wpAnyL_ready (rs := [12]) (by kernel_rfl) (by simp) ?_
          refine AllReadyL.cons (o := { dst := some 58, op := Go.Op.call { callee := Go.Callee.builtin Go.Builtin.append, args := #[Go.Operand.tmp 50, Go.Operand.tmp 57], argTypes := #[22, 9] }, type := 22, pos := "encode.go:59", after := #[{ on := 4, ground := Go.Ground.data }, { on := 11, ground := Go.Ground.data }], guard := none }) rfl (by decide) (fun K hK => ?_) AllReadyL.nil
          refine step_append_str5 (by rfl) _ _ 22 9 (by rfl) B 5 i0 Try.underlying22 Try.underlying9 HI.out HZ0.out HZ1.out HZ2.out (.slice sa xl sc) xl (bc X1) (by rfl) (show World.ownsRow w5.drew B _ 1 (.slice sa xl sc) xl (bc X1) from HOW.out) (s.extract 0 d) (by rfl) (by rw [HEX.out, bs_size, HYL.out]; have := HDS.out; have := HXS.out; unfold maxLen; omega) (by rw [HEX.out, bs_size, HYL.out]; have := HDS.out; have := HXS.out; omega) HBW.out ?_
          intro v7 w7 ho7 hg7
          rw [HEX.out, bs_size, HYL.out, strCells_bs, ← bc_append] at ho7
          obtain ⟨sa7, sc7, rfl, -⟩ := cellsK_own ho7
          have hne7 := own_ne HOW.out HTW.out (by decide)
          have HC7 := Lib.hid ((show CN w5.drew q [.slice sa xl sc, .map (some mb)] from HCW.out).grown hg7 (fun e => hne7 e.symm))
          have HT7 := Lib.hid ((show TB w5.drew q 85 from HTW.out).grown hg7 hne7)
          have HO7 := Lib.hid ho7
          have HG7 := Lib.hid hg7
          clear ho7 hg7 hne7
          refine hK.out _ _ (HC7.out) (fun hHeld2 => ?_)
          clear hK K hHeld
          have hHeld := hHeld2
          clear hHeld2
          try simp only [Act.put, List.setIfInBounds_toArray, List.set_cons_zero, List.set_cons_succ]
          refine wpAnyL_ready (rs := [13]) (by kernel_rfl) (by simp) ?_
          refine AllReadyL.cons (o := { dst := some 59, op := Go.Op.nilCheck (Go.Operand.tmp 46), type := 0, pos := "encode.go:59", after := #[{ on := 0, ground := Go.Ground.data }, { on := 0, ground := Go.Ground.phase }, { on := 1, ground := Go.Ground.phase }, { on := 2, ground := Go.Ground.phase }, { on := 3, ground := Go.Ground.phase }, { on := 4, ground := Go.Ground.phase }, { on := 5, ground := Go.Ground.phase }, { on := 6, ground := Go.Ground.phase }, { on := 7, ground := Go.Ground.phase }, { on := 8, ground := Go.Ground.phase }, { on := 9, ground := Go.Ground.phase }, { on := 10, ground := Go.Ground.phase }, { on := 11, ground := Go.Ground.phase }, { on := 12, ground := Go.Ground.phase }], guard := none }) rfl (by decide) (fun K hK => ?_) AllReadyL.nil
          go_simp
          refine hK.out _ _ (hHeld) (fun hHeld2 => ?_)
          clear hK K hHeld
          have hHeld := hHeld2
          clear hHeld2
          try simp only [Act.put, List.setIfInBounds_toArray, List.set_cons_zero, List.set_cons_succ]
          refine wpAnyL_take (i := 14) (oi := { dst := some 60, op := Go.Op.fieldAddr 85 (Go.Operand.tmp 59) 0, type := 0, pos := "encode.go:59", after := #[{ on := 13, ground := Go.Ground.data }, { on := 0, ground := Go.Ground.phase }, { on := 1, ground := Go.Ground.phase }, { on := 2, ground := Go.Ground.phase }, { on := 3, ground := Go.Ground.phase }, { on := 4, ground := Go.Ground.phase }, { on := 5, ground := Go.Ground.phase }, { on := 6, ground := Go.Ground.phase }, { on := 7, ground := Go.Ground.phase }, { on := 8, ground := Go.Ground.phase }, { on := 9, ground := Go.Ground.phase }, { on := 10, ground := Go.Ground.phase }, { on := 11, ground := Go.Ground.phase }, { on := 12, ground := Go.Ground.phase }], guard := none }) (v := ?v14_220304) rfl (by kernel_rfl) (by kernel_rfl) (by kernel_rfl) (by kernel_rfl) (by kernel_rfl) (fun _ _ _ h => h) (Or.inl ⟨by rfl, ?y14_220304⟩) hHeld ?r14_220304
          case y14_220304 => intro w hSw; (try dsimp only at hSw); have y0 := (hSw.2 0 _ rfl).1; go_simp; try with_reducible rfl
          try simp only [Act.put, List.setIfInBounds_toArray, List.set_cons_zero, List.set_cons_succ]
          refine wpAnyL_ready (rs := [15]) (by kernel_rfl) (by simp) ?_
          refine AllReadyL.last (o := { dst := none, op := Go.Op.store 22 (Go.Operand.tmp 60) (Go.Operand.tmp 58), type := 0, pos := "encode.go:59", after := #[{ on := 14, ground := Go.Ground.data }, { on := 12, ground := Go.Ground.data }, { on := 12, ground := Go.Ground.chain }, { on := 0, ground := Go.Ground.phase }, { on := 1, ground := Go.Ground.phase }, { on := 2, ground := Go.Ground.phase }, { on := 3, ground := Go.Ground.phase }, { on := 4, ground := Go.Ground.phase }, { on := 5, ground := Go.Ground.phase }, { on := 6, ground := Go.Ground.phase }, { on := 7, ground := Go.Ground.phase }, { on := 8, ground := Go.Ground.phase }, { on := 9, ground := Go.Ground.phase }, { on := 10, ground := Go.Ground.phase }, { on := 11, ground := Go.Ground.phase }, { on := 12, ground := Go.Ground.phase }], guard := none }) rfl (by decide) (fun K hK => ?_) AllReadyL.nil
          have y0 := (HC7.out.2 0 _ rfl).1
          have g0 := (HC7.out.2 0 _ rfl).2
          go_simp
          refine hK.out _ _ trivial (fun _ => ?_)
          clear hK K
          try simp only [Act.put, List.setIfInBounds_toArray, List.set_cons_zero, List.set_cons_succ]
          refine wpAnyL_done (by kernel_rfl) ?_ _
          have HC8 := Lib.hid (HC7.out.set 0 (by simp) (.slice sa7 (xl + d) sc7))
          have HT8 := Lib.hid (HT7.out.set 0 (.slice sa7 (xl + d) sc7))
          have HO8 := Lib.hid (own_keeps HO7.out HT7.out (by decide) (grown_cell w7 q 0 (.slice sa7 (xl + d) sc7)))
          have HM8 := Lib.hid (((show World.ownsMap w5.drew Try.prog 9 (plainElem Try.prog 3) mb _ _ from HMW.out).kept HG7.out (map_apart HOW.out HMW.out)).setCell (a := ⟨q, 0, none⟩) (fun e => HQ.out.2.2 e.symm) (.slice sa7 (xl + d) sc7))
          have HB8 := Lib.hid ((HBLW.out.drew.grown HG7.out HBW.out (fun k hk => (HOW.out.lt k hk).1)).setCell HQ.out.1 (.slice sa7 (xl + d) sc7) (p := ⟨q, 0, none⟩))
          have HF8 := Lib.hid ((HFW.out.drew.trans (Kp.grown (show World.ownsRow w5.drew B _ 1 (.slice sa xl sc) xl (bc X1) from HOW.out) HG7.out)).trans (Kp.set HT7.out 0 (.slice sa7 (xl + d) sc7)))
          go_wp2
          go_roundw
          case rel =>
            refine ⟨k + 1, ?_, ?_, putPl f1 (t :: M) xl, X1 ++ Y, ⟨.slice sa7 (xl + d) sc7, _, _, HC8.out, HT8.out, ?_, HM8.out, HPD.out, HPF.out, ?_⟩, ?_, ?_, HB8.out, HF8.out⟩
            · rcases Nat.lt_or_ge k L.length with h | h
              · exact h
              · have e := HMK.out; rw [List.drop_eq_nil_of_le h] at e; cases e
            · rw [← HRR.out]; have e := HMK.out; rw [show L.drop (k + 1) = M by rw [← List.drop_drop, e]; rfl]
            · rw [List.length_append, HXL.out, HYL.out]; exact HO8.out
            · rw [List.length_append, HXL.out, HYL.out]; have := HNW.out; have := HDS.out; omega
            · rw [show L.drop (k + 1) = M by rw [← List.drop_drop, HMK.out]; rfl]; exact HE1.out
            · rw [List.length_append, HXL.out, HYL.out, HOF.out]; have := HX.out; have := HXL.out; omega
          case measure => show r.size < s.size; rw [HLSR.out.1, HLSR.out.2]; have := HDS.out; omega
      · have d1 := dF (p := (xl : Int) < 16384) (by omega)
        have HLT := Lib.hid hlt
        clear hlt
        have HSR := Lib.hid hs
        obtain ⟨r, hr2⟩ : ∃ r, nameB M = r := ⟨_, rfl⟩
        have hpar := parent_yes (t :: M) wr HLD.out.1 HLD.out.2
        rw [show parS (t :: M) = r from hr2, hs] at hpar
        have HRR := Lib.hid hr2
        have HCW := Lib.hid (show CN wr q [.slice sa xl sc, .map (some mb)] from HC.out)
        have HTW := Lib.hid HT.out
        have HOW := Lib.hid HO.out
        have HBW := Lib.hid (Nat.le_trans HBS.out HB.out.size)
        have HMW := Lib.hid HP.out
        have HBLW := Lib.hid HB.out
        have HFW := Lib.hid HFR.out
        have HPD := Lib.hid (show PlsD _ (putPl f1 (t :: M) xl) by unfold putPl; rw [if_neg HLT.out]; exact HD.out)
        have HPF := Lib.hid (show ∀ M2 p, putPl f1 (t :: M) xl M2 = some p → p < 16384 by unfold putPl; rw [if_neg HLT.out]; exact HF.out)
        have HNW := Lib.hid (show n1 ≤ xl + 1 by have := HN.out; have := HXL.out; omega)
        clear hs hr2 hr'
        go_wp2_with fail
        refine hpar.mono ?_; rintro e w6 ⟨rfl, rfl⟩
        clear hpar c0 c1 f0
        go_upto_region 7 with (fail)
        have hsz := nameB_size (t :: M)
        have hsz2 := nameB_size M
        have hof := off_cons t M
        have hex := name_head t M
        rw [HSR.out] at hsz hex
        rw [HRR.out] at hsz2
        obtain ⟨ls, hls⟩ : ∃ ls, s.size = ls := ⟨_, rfl⟩
        obtain ⟨lr, hlr⟩ : ∃ lr, r.size = lr := ⟨_, rfl⟩
        obtain ⟨d, hd⟩ : ∃ d, 1 + t.size = d := ⟨_, rfl⟩
        rw [hls] at hsz
        rw [hlr] at hsz2
        rw [hd] at hex
        have HDS := Lib.hid (show ls = d + lr ∧ ls ≤ 300 ∧ 1 ≤ d by have := HLD.out.2; omega)
        have hsub : (ls : Int) - (lr : Int) = (d : Int) := by have := HDS.out.1; omega
        have hwr : IntKind.i64.wrap (d : Int) = (d : Int) := by rw [IntKind.wrap_i64]; have := HDS.out; omega
        have hdl : d ≤ ls := by have := HDS.out; omega
        obtain ⟨Y, hY⟩ : ∃ Y, UInt8.ofNat t.size :: t.data.toList = Y := ⟨_, rfl⟩
        rw [hY] at hex HE1
        have HYL := Lib.hid (show Y.length = d by rw [← hY, List.length_cons, size_data]; omega)
        have HEX := Lib.hid hex
        have HLSR := Lib.hid (show s.size = ls ∧ r.size = lr from ⟨hls, hlr⟩)
        have HOF := Lib.hid (show off L (k + 1) = off L k + d by rw [off_succ]; have e := HMK.out; have hkl : k < L.length := by { rcases Nat.lt_or_ge k L.length with h | h; exact h; rw [List.drop_eq_nil_of_le h] at e; cases e }; rw [drop_cons_tx L k hkl] at e; injection e with e1 _; rw [e1]; omega)
        clear hsz hsz2 hof hd hY hex
        refine wp_region_last_drew (S := (fun wx => CN wx q [.slice sa xl sc, .map (some mb)])) (L := 15) (by kernel_rfl) (HCW.out) (fun hHeld => ?_)
        refine wpAnyL_take (i := 0) (oi := { dst := some 46, op := Go.Op.move (Go.Operand.tmp 0), type := 111, pos := "encode.go:59", after := #[], guard := none }) (v := ?v0_220401) rfl (by kernel_rfl) (by kernel_rfl) (by kernel_rfl) (by kernel_rfl) (by kernel_rfl) (fun _ _ _ h => h) (Or.inl ⟨by rfl, ?y0_220401⟩) hHeld ?r0_220401
        case y0_220401 => intro w hSw; (try dsimp only at hSw); have y0 := (hSw.2 0 _ rfl).1; go_simp; try with_reducible rfl
        try simp only [Act.put, List.setIfInBounds_toArray, List.set_cons_zero, List.set_cons_succ]
        refine wpAnyL_take (i := 1) (oi := { dst := some 47, op := Go.Op.move (Go.Operand.tmp 0), type := 111, pos := "encode.go:59", after := #[], guard := none }) (v := ?v1_220401) rfl (by kernel_rfl) (by kernel_rfl) (by kernel_rfl) (by kernel_rfl) (by kernel_rfl) (fun _ _ _ h => h) (Or.inl ⟨by rfl, ?y1_220401⟩) hHeld ?r1_220401
        case y1_220401 => intro w hSw; (try dsimp only at hSw); have y0 := (hSw.2 0 _ rfl).1; go_simp; try with_reducible rfl
        try simp only [Act.put, List.setIfInBounds_toArray, List.set_cons_zero, List.set_cons_succ]
        refine wpAnyL_take (i := 5) (oi := { dst := some 51, op := Go.Op.move (Go.Operand.tmp 1), type := 9, pos := "encode.go:59", after := #[], guard := none }) (v := ?v5_220401) rfl (by kernel_rfl) (by kernel_rfl) (by kernel_rfl) (by kernel_rfl) (by kernel_rfl) (fun _ _ _ h => h) (Or.inl ⟨by rfl, ?y5_220401⟩) hHeld ?r5_220401
        case y5_220401 => intro w hSw; (try dsimp only at hSw); have y0 := (hSw.2 0 _ rfl).1; go_simp; try with_reducible rfl
        try simp only [Act.put, List.setIfInBounds_toArray, List.set_cons_zero, List.set_cons_succ]
        refine wpAnyL_take (i := 6) (oi := { dst := some 52, op := Go.Op.move (Go.Operand.tmp 1), type := 9, pos := "encode.go:59", after := #[], guard := none }) (v := ?v6_220401) rfl (by kernel_rfl) (by kernel_rfl) (by kernel_rfl) (by kernel_rfl) (by kernel_rfl) (fun _ _ _ h => h) (Or.inl ⟨by rfl, ?y6_220401⟩) hHeld ?r6_220401
        case y6_220401 => intro w hSw; (try dsimp only at hSw); have y0 := (hSw.2 0 _ rfl).1; go_simp; try with_reducible rfl
        try simp only [Act.put, List.setIfInBounds_toArray, List.set_cons_zero, List.set_cons_succ]
        refine wpAnyL_take (i := 7) (oi := { dst := some 53, op := Go.Op.call { callee := Go.Callee.builtin Go.Builtin.len, args := #[Go.Operand.tmp 52], argTypes := #[9] }, type := 3, pos := "encode.go:59", after := #[{ on := 6, ground := Go.Ground.data }], guard := none }) (v := ?v7_220401) rfl (by kernel_rfl) (by kernel_rfl) (by kernel_rfl) (by kernel_rfl) (by kernel_rfl) (fun _ _ _ h => h) (Or.inl ⟨by rfl, ?y7_220401⟩) hHeld ?r7_220401
        case y7_220401 => intro w hSw; (try dsimp only at hSw); have y0 := (hSw.2 0 _ rfl).1; go_simp; try with_reducible rfl
        try simp only [Act.put, List.setIfInBounds_toArray, List.set_cons_zero, List.set_cons_succ]
        refine wpAnyL_take (i := 8) (oi := { dst := some 54, op := Go.Op.move (Go.Operand.tmp 6), type := 9, pos := "encode.go:59", after := #[], guard := none }) (v := ?v8_220401) rfl (by kernel_rfl) (by kernel_rfl) (by kernel_rfl) (by kernel_rfl) (by kernel_rfl) (fun _ _ _ h => h) (Or.inl ⟨by rfl, ?y8_220401⟩) hHeld ?r8_220401
        case y8_220401 => intro w hSw; (try dsimp only at hSw); have y0 := (hSw.2 0 _ rfl).1; go_simp; try with_reducible rfl
        try simp only [Act.put, List.setIfInBounds_toArray, List.set_cons_zero, List.set_cons_succ]
        refine wpAnyL_take (i := 9) (oi := { dst := some 55, op := Go.Op.call { callee := Go.Callee.builtin Go.Builtin.len, args := #[Go.Operand.tmp 54], argTypes := #[9] }, type := 3, pos := "encode.go:59", after := #[{ on := 8, ground := Go.Ground.data }], guard := none }) (v := ?v9_220401) rfl (by kernel_rfl) (by kernel_rfl) (by kernel_rfl) (by kernel_rfl) (by kernel_rfl) (fun _ _ _ h => h) (Or.inl ⟨by rfl, ?y9_220401⟩) hHeld ?r9_220401
        case y9_220401 => intro w hSw; (try dsimp only at hSw); have y0 := (hSw.2 0 _ rfl).1; go_simp; try with_reducible rfl
        try simp only [Act.put, List.setIfInBounds_toArray, List.set_cons_zero, List.set_cons_succ]
        refine wpAnyL_take (i := 10) (oi := { dst := some 56, op := Go.Op.binOp Go.BinOp.sub 3 (Go.Operand.tmp 53) (Go.Operand.tmp 55) 3, type := 3, pos := "encode.go:59", after := #[{ on := 7, ground := Go.Ground.data }, { on := 9, ground := Go.Ground.data }], guard := none }) (v := ?v10_220401) rfl (by kernel_rfl) (by kernel_rfl) (by kernel_rfl) (by kernel_rfl) (by kernel_rfl) (fun _ _ _ h => h) (Or.inl ⟨by rfl, ?y10_220401⟩) hHeld ?r10_220401
        case y10_220401 => intro w hSw; (try dsimp only at hSw); have y0 := (hSw.2 0 _ rfl).1; go_simp; try with_reducible rfl
        try simp only [Act.put, List.setIfInBounds_toArray, List.set_cons_zero, List.set_cons_succ]
        refine wpAnyL_take (i := 11) (oi := { dst := some 57, op := Go.Op.slice 9 (Go.Operand.tmp 51) none (some (Go.Operand.tmp 56)) none, type := 9, pos := "encode.go:59", after := #[{ on := 5, ground := Go.Ground.data }, { on := 10, ground := Go.Ground.data }], guard := none }) (v := ?v11_220401) rfl (by kernel_rfl) (by kernel_rfl) (by kernel_rfl) (by kernel_rfl) (by kernel_rfl) (fun _ _ _ h => h) (Or.inl ⟨by rfl, ?y11_220401⟩) hHeld ?r11_220401
        case y11_220401 => intro w hSw; (try dsimp only at hSw); have y0 := (hSw.2 0 _ rfl).1; go_simp; try with_reducible rfl
        try simp only [Act.put, List.setIfInBounds_toArray, List.set_cons_zero, List.set_cons_succ]
        refine wpAnyL_ready (rs := [2]) (by kernel_rfl) (by simp) ?_
        refine AllReadyL.cons (o := { dst := some 48, op := Go.Op.nilCheck (Go.Operand.tmp 47), type := 0, pos := "encode.go:59", after := #[{ on := 1, ground := Go.Ground.data }], guard := none }) rfl (by decide) (fun K hK => ?_) AllReadyL.nil
        go_simp
        refine hK.out _ _ (hHeld) (fun hHeld2 => ?_)
        clear hK K hHeld
        have hHeld := hHeld2
        clear hHeld2
        try simp only [Act.put, List.setIfInBounds_toArray, List.set_cons_zero, List.set_cons_succ]
        refine wpAnyL_take (i := 3) (oi := { dst := some 49, op := Go.Op.fieldAddr 85 (Go.Operand.tmp 48) 0, type := 0, pos := "encode.go:59", after := #[{ on := 2, ground := Go.Ground.data }], guard := none }) (v := ?v3_220402) rfl (by kernel_rfl) (by kernel_rfl) (by kernel_rfl) (by kernel_rfl) (by kernel_rfl) (fun _ _ _ h => h) (Or.inl ⟨by rfl, ?y3_220402⟩) hHeld ?r3_220402
        case y3_220402 => intro w hSw; (try dsimp only at hSw); have y0 := (hSw.2 0 _ rfl).1; go_simp; try with_reducible rfl
        try simp only [Act.put, List.setIfInBounds_toArray, List.set_cons_zero, List.set_cons_succ]
        refine wpAnyL_take (i := 4) (oi := { dst := some 50, op := Go.Op.load 22 (Go.Operand.tmp 49), type := 22, pos := "encode.go:59", after := #[{ on := 3, ground := Go.Ground.data }], guard := none }) (v := ?v4_220402) rfl (by kernel_rfl) (by kernel_rfl) (by kernel_rfl) (by kernel_rfl) (by kernel_rfl) (fun _ _ _ h => h) (Or.inl ⟨by rfl, ?y4_220402⟩) hHeld ?r4_220402
        case y4_220402 => intro w hSw; (try dsimp only at hSw); have y0 := (hSw.2 0 _ rfl).1; go_simp; try with_reducible rfl
        try simp only [Act.put, List.setIfInBounds_toArray, List.set_cons_zero, List.set_cons_succ]
        refine wpAnyL_ready (rs := [12]) (by kernel_rfl) (by simp) ?_
        refine AllReadyL.cons (o := { dst := some 58, op := Go.Op.call { callee := Go.Callee.builtin Go.Builtin.append, args := #[Go.Operand.tmp 50, Go.Operand.tmp 57], argTypes := #[22, 9] }, type := 22, pos := "encode.go:59", after := #[{ on := 4, ground := Go.Ground.data }, { on := 11, ground := Go.Ground.data }], guard := none }) rfl (by decide) (fun K hK => ?_) AllReadyL.nil
        refine step_append_str5 (by rfl) _ _ 22 9 (by rfl) B 5 i0 Try.underlying22 Try.underlying9 HI.out HZ0.out HZ1.out HZ2.out (.slice sa xl sc) xl (bc X1) (by rfl) (show World.ownsRow wr.drew B _ 1 (.slice sa xl sc) xl (bc X1) from HOW.out) (s.extract 0 d) (by rfl) (by rw [HEX.out, bs_size, HYL.out]; have := HDS.out; have := HXS.out; unfold maxLen; omega) (by rw [HEX.out, bs_size, HYL.out]; have := HDS.out; have := HXS.out; omega) HBW.out ?_
        intro v7 w7 ho7 hg7
        rw [HEX.out, bs_size, HYL.out, strCells_bs, ← bc_append] at ho7
        obtain ⟨sa7, sc7, rfl, -⟩ := cellsK_own ho7
        have hne7 := own_ne HOW.out HTW.out (by decide)
        have HC7 := Lib.hid ((show CN wr.drew q [.slice sa xl sc, .map (some mb)] from HCW.out).grown hg7 (fun e => hne7 e.symm))
        have HT7 := Lib.hid ((show TB wr.drew q 85 from HTW.out).grown hg7 hne7)
        have HO7 := Lib.hid ho7
        have HG7 := Lib.hid hg7
        clear ho7 hg7 hne7
        refine hK.out _ _ (HC7.out) (fun hHeld2 => ?_)
        clear hK K hHeld
        have hHeld := hHeld2
        clear hHeld2
        try simp only [Act.put, List.setIfInBounds_toArray, List.set_cons_zero, List.set_cons_succ]
        refine wpAnyL_ready (rs := [13]) (by kernel_rfl) (by simp) ?_
        refine AllReadyL.cons (o := { dst := some 59, op := Go.Op.nilCheck (Go.Operand.tmp 46), type := 0, pos := "encode.go:59", after := #[{ on := 0, ground := Go.Ground.data }, { on := 0, ground := Go.Ground.phase }, { on := 1, ground := Go.Ground.phase }, { on := 2, ground := Go.Ground.phase }, { on := 3, ground := Go.Ground.phase }, { on := 4, ground := Go.Ground.phase }, { on := 5, ground := Go.Ground.phase }, { on := 6, ground := Go.Ground.phase }, { on := 7, ground := Go.Ground.phase }, { on := 8, ground := Go.Ground.phase }, { on := 9, ground := Go.Ground.phase }, { on := 10, ground := Go.Ground.phase }, { on := 11, ground := Go.Ground.phase }, { on := 12, ground := Go.Ground.phase }], guard := none }) rfl (by decide) (fun K hK => ?_) AllReadyL.nil
        go_simp
        refine hK.out _ _ (hHeld) (fun hHeld2 => ?_)
        clear hK K hHeld
        have hHeld := hHeld2
        clear hHeld2
        try simp only [Act.put, List.setIfInBounds_toArray, List.set_cons_zero, List.set_cons_succ]
        refine wpAnyL_take (i := 14) (oi := { dst := some 60, op := Go.Op.fieldAddr 85 (Go.Operand.tmp 59) 0, type := 0, pos := "encode.go:59", after := #[{ on := 13, ground := Go.Ground.data }, { on := 0, ground := Go.Ground.phase }, { on := 1, ground := Go.Ground.phase }, { on := 2, ground := Go.Ground.phase }, { on := 3, ground := Go.Ground.phase }, { on := 4, ground := Go.Ground.phase }, { on := 5, ground := Go.Ground.phase }, { on := 6, ground := Go.Ground.phase }, { on := 7, ground := Go.Ground.phase }, { on := 8, ground := Go.Ground.phase }, { on := 9, ground := Go.Ground.phase }, { on := 10, ground := Go.Ground.phase }, { on := 11, ground := Go.Ground.phase }, { on := 12, ground := Go.Ground.phase }], guard := none }) (v := ?v14_220404) rfl (by kernel_rfl) (by kernel_rfl) (by kernel_rfl) (by kernel_rfl) (by kernel_rfl) (fun _ _ _ h => h) (Or.inl ⟨by rfl, ?y14_220404⟩) hHeld ?r14_220404
        case y14_220404 => intro w hSw; (try dsimp only at hSw); have y0 := (hSw.2 0 _ rfl).1; go_simp; try with_reducible rfl
        try simp only [Act.put, List.setIfInBounds_toArray, List.set_cons_zero, List.set_cons_succ]
        refine wpAnyL_ready (rs := [15]) (by kernel_rfl) (by simp) ?_
        refine AllReadyL.last (o := { dst := none, op := Go.Op.store 22 (Go.Operand.tmp 60) (Go.Operand.tmp 58), type := 0, pos := "encode.go:59", after := #[{ on := 14, ground := Go.Ground.data }, { on := 12, ground := Go.Ground.data }, { on := 12, ground := Go.Ground.chain }, { on := 0, ground := Go.Ground.phase }, { on := 1, ground := Go.Ground.phase }, { on := 2, ground := Go.Ground.phase }, { on := 3, ground := Go.Ground.phase }, { on := 4, ground := Go.Ground.phase }, { on := 5, ground := Go.Ground.phase }, { on := 6, ground := Go.Ground.phase }, { on := 7, ground := Go.Ground.phase }, { on := 8, ground := Go.Ground.phase }, { on := 9, ground := Go.Ground.phase }, { on := 10, ground := Go.Ground.phase }, { on := 11, ground := Go.Ground.phase }, { on := 12, ground := Go.Ground.phase }], guard := none }) rfl (by decide) (fun K hK => ?_) AllReadyL.nil
        have y0 := (HC7.out.2 0 _ rfl).1
        have g0 := (HC7.out.2 0 _ rfl).2
        go_simp
        refine hK.out _ _ trivial (fun _ => ?_)
        clear hK K
        try simp only [Act.put, List.setIfInBounds_toArray, List.set_cons_zero, List.set_cons_succ]
        refine wpAnyL_done (by kernel_rfl) ?_ _
        have HC8 := Lib.hid (HC7.out.set 0 (by simp) (.slice sa7 (xl + d) sc7))
        have HT8 := Lib.hid (HT7.out.set 0 (.slice sa7 (xl + d) sc7))
        have HO8 := Lib.hid (own_keeps HO7.out HT7.out (by decide) (grown_cell w7 q 0 (.slice sa7 (xl + d) sc7)))
        have HM8 := Lib.hid (((show World.ownsMap wr.drew Try.prog 9 (plainElem Try.prog 3) mb _ _ from HMW.out).kept HG7.out (map_apart HOW.out HMW.out)).setCell (a := ⟨q, 0, none⟩) (fun e => HQ.out.2.2 e.symm) (.slice sa7 (xl + d) sc7))
        have HB8 := Lib.hid ((HBLW.out.drew.grown HG7.out HBW.out (fun k hk => (HOW.out.lt k hk).1)).setCell HQ.out.1 (.slice sa7 (xl + d) sc7) (p := ⟨q, 0, none⟩))
        have HF8 := Lib.hid ((HFW.out.drew.trans (Kp.grown (show World.ownsRow wr.drew B _ 1 (.slice sa xl sc) xl (bc X1) from HOW.out) HG7.out)).trans (Kp.set HT7.out 0 (.slice sa7 (xl + d) sc7)))
        go_wp2
        go_roundw
        case rel =>
          refine ⟨k + 1, ?_, ?_, putPl f1 (t :: M) xl, X1 ++ Y, ⟨.slice sa7 (xl + d) sc7, _, _, HC8.out, HT8.out, ?_, HM8.out, HPD.out, HPF.out, ?_⟩, ?_, ?_, HB8.out, HF8.out⟩
          · rcases Nat.lt_or_ge k L.length with h | h
            · exact h
            · have e := HMK.out; rw [List.drop_eq_nil_of_le h] at e; cases e
          · rw [← HRR.out]; have e := HMK.out; rw [show L.drop (k + 1) = M by rw [← List.drop_drop, e]; rfl]
          · rw [List.length_append, HXL.out, HYL.out]; exact HO8.out
          · rw [List.length_append, HXL.out, HYL.out]; have := HNW.out; have := HDS.out; omega
          · rw [show L.drop (k + 1) = M by rw [← List.drop_drop, HMK.out]; rfl]; exact HE1.out
          · rw [List.length_append, HXL.out, HYL.out, HOF.out]; have := HX.out; have := HXL.out; omega
        case measure => show r.size < s.size; rw [HLSR.out.1, HLSR.out.2]; have := HDS.out; omega
end Go.Proofs.Ytgppkpdjpcegbaa
