/- SetsGroups: the walk. -/
import Derived.Test.YtfopfplpfhncfaaRGw
import Derived.Test.YtfopfplpfhncfaaOld
import Derived.Test.YtfopfplpfhncfaaMyS
import Derived.Test.YtfopfplpfhncfaaMyR
import Derived.Test.YtfopfplpfhncfaaSBa
import Derived.Test.YtfopfplpfhncfaaFs4
import Derived.Test.YtfopfplpfhncfaaCNg
namespace Go.Proofs.Ytfopfplpfhncfaa
open Go.RowKit

def sZg : SetP := ⟨⟨⟨#[]⟩, 0, 0⟩, 0, []⟩
theorem found_getG {L : List SetP} {k : Ky} {B : Nat} {e : Ending} {w' : World} (h : Found L k B e w') : ∃ s da dc, (findK L k).getD sZg = s ∧ e = .returned (.tuple #[.agg #[.string s.k.n, .int .i64 s.k.t, .int .i64 s.k.c, .int .i64 s.ttl, .slice da s.data.length dc], .bool (findK L k).isSome]) ∧ RowS w' da s.data.length s.data := by
  rcases h with ⟨s, dv, h1, h2, h3⟩ | ⟨h1, h2⟩
  · obtain ⟨a, c, rfl, hr, -⟩ := rowS_of_own h3
    exact ⟨s, a, c, by rw [h1]; rfl, by rw [h1]; exact h2, hr⟩
  · exact ⟨sZg, none, 0, by rw [h1]; rfl, by rw [h1]; exact h2, ⟨rfl, Or.inl rfl⟩⟩
theorem rfound_getG {L : List SetP} {k : Ky} {w : World} {e : Ending} (h : RFound L k w e) : ∃ s da dc, (findK L k).getD sZg = s ∧ e = .returned (.tuple #[.agg #[.string s.k.n, .int .i64 s.k.t, .int .i64 s.k.c, .int .i64 s.ttl, .slice da s.data.length dc], .bool (findK L k).isSome]) ∧ RowS w da s.data.length s.data := by
  rcases h with ⟨s, p, c, h1, h2, h3⟩ | ⟨h1, h2⟩
  · exact ⟨s, p, c, by rw [h1]; rfl, by rw [h1]; exact h2, h3⟩
  · exact ⟨sZg, none, 0, by rw [h1]; rfl, by rw [h1]; exact h2, ⟨rfl, Or.inl rfl⟩⟩
theorem getD_lenG {L : List SetP} {k : Ky} {s : SetP} {b : Nat} (h : (findK L k).getD sZg = s) (hb : ∀ s ∈ L, s.data.length ≤ b) : s.data.length ≤ b := by
  cases hf : findK L k with
  | none => rw [hf] at h; rw [← h]; exact Nat.zero_le _
  | some t =>
    rw [hf] at h
    obtain rfl : t = s := h
    refine hb t ?_
    rw [findK] at hf
    exact List.mem_of_find?_eq_some hf
theorem sumD_leG {M : List SetP} {b : Nat} (h : ∀ s ∈ M, s.data.length ≤ b) : sumD M ≤ M.length * b := by
  induction M with
  | nil => exact Nat.zero_le _
  | cons x M ih =>
    have h1 := h x List.mem_cons_self
    have h2 := ih (fun s hs => h s (List.mem_cons_of_mem _ hs))
    rw [sumD, List.length_cons, Nat.succ_mul]; omega
theorem data_leG {S : List SetP} {s : SetP} (h : s ∈ S) : s.data.length ≤ sumD S := by
  induction S with
  | nil => cases h
  | cons x S ih =>
    rw [sumD]
    rcases List.mem_cons.1 h with rfl | h
    · omega
    · have := ih h; omega
theorem canon_same {l : List R5} {S T : List SetP} (h : Canon l S) (h' : Canon l T) : S = T := canon_eq h h' (fun _ _ => Iff.rfl) (fun _ _ => Iff.rfl)
theorem small_mem {M : List SetP} {n : Nat} (hl : M.length = n) (h : ∀ j, j < n → SmS (M.getD j ssD)) : ∀ s ∈ M, SmS s := fun s hs => by
  obtain ⟨i, hi⟩ := List.getElem?_of_mem hs
  obtain ⟨h1, -⟩ := List.getElem?_eq_some_iff.1 hi
  have h2 := h i (by omega)
  rw [List.getD_eq_getElem?_getD, hi] at h2
  exact h2
theorem dataG {d : List ByteArray} (h : ∀ j, j < d.length → (d.getD j ByteArray.empty).size ≤ 60000) {n : Nat} (hn : d.length = n) : ∀ j, j < n → (d.getD j ByteArray.empty).size ≤ 1000000 := fun j hj => Nat.le_trans (h j (by omega)) (by decide)
theorem bool_iff {x y : Bool} {P : Prop} (hx : x = true ↔ P) (hy : y = true ↔ P) : x = y := Bool.eq_iff_iff.2 (hx.trans hy.symm)
theorem sameP_self (s : SetP) : sameP s s = true := (sameP_iff s s).2 rfl
theorem cell_latG {w wx : World} {b o : Nat} {v : Value} (hb : Below w.heap.size w wx) (hl : b < w.heap.size) (h : w.cell? ⟨b, o, none⟩ = some v) : wx.cell? ⟨b, o, none⟩ = some v := (hb.cell (p := ⟨b, o, none⟩) hl).trans h
set_option maxRecDepth 100000 in
set_option maxHeartbeats 20000000 in
theorem walkGroups (la : Option Addr) (ln lc : Nat) (L : List R5) (ma : Option Addr) (mn mc : Nat) (M : List SetP) (kn : ByteArray) (kt kc : Int) (w : World) (hL : RowR w la ln L) (hLn : la = none → ln = 0 ∧ lc = 0) (hLl : ln ≤ 9223372036854775807) (hLz : ∀ r ∈ L, SzR r) (hM : SetsAt w ma mn M) (hMl : mn ≤ 9223372036854775807) (hMz : ∀ k, k < mn → SzS (M.getD k ssD)) (hk : kn.size ≤ 9223372036854775807) : Calls Try.prog 3 #[.slice la ln lc, .slice ma mn mc, .agg #[.string kn, .int .i64 kt, .int .i64 kc]] w fun e w' => e = .returned (.bool true) ∧ Below w.heap.size w w' := by
  have HRL := Lib.hid hL
  have HLn := Lib.hid hLn
  have HLZ := Lib.hid hLz
  have HMA := Lib.hid hM
  have HMZ := Lib.hid hMz
  have HB := Lib.hid (Below.refl w.heap.size w)
  have HLL := Lib.hid hL.1
  have HML := Lib.hid hM.1
  clear hL hLn hLz hM hMz
  go_enter Try.func3, Try.ntmps3
  have hba := (Below.refl _ _ : Below w.heap.size w w).alloc (Nat.le_refl _) (.cells #[.string kn, .int .i64 kt, .int .i64 kc] 25)
  have C1 := Lib.hid (CN.new w #[.string kn, .int .i64 kt, .int .i64 kc] 25)
  replace HRL := Lib.hid (HRL.out.below hba)
  replace HMA := Lib.hid (HMA.out.below hba)
  replace HB := Lib.hid (HB.out.trans (hba.mono HB.out.size))
  obtain ⟨w2, hw⟩ : ∃ x, w.alloc (.cells #[.string kn, .int .i64 kt, .int .i64 kc] 25) = x := ⟨_, rfl⟩
  obtain ⟨q2, hq⟩ : ∃ x, w.heap.size = x := ⟨_, rfl⟩
  rw [hw, hq] at C1
  rw [hw] at HRL HMA HB
  have HWw2 := Lib.hid hw
  have HQq2 := Lib.hid hq
  clear hba hw hq
  go_upto_region 1 with (fail)
  rw [HWw2.out]
  rw [show (Value.pointer (some { block := w.heap.size, off := 0 })) = Value.pointer (some { block := q2, off := 0 }) by rw [HQq2.out]]
  go_wp2_with fail
  refine (first4 _).mono ?_; rintro e w3 ⟨rfl, hb⟩
  replace HRL := Lib.hid (HRL.out.below hb)
  replace HMA := Lib.hid (HMA.out.below hb)
  replace HB := Lib.hid (HB.out.trans (hb.mono HB.out.size))
  replace C1 := Lib.hid (C1.out.below hb)
  clear hb
  obtain ⟨p0, p1, p2, _⟩ := C1.out.v3
  go_wp2_with fail
  refine (few4 la ln lc L w3 HRL.out hLl HLZ.out).mono ?_; rintro e w4 ⟨hres, md, hm9⟩
  have hb := below_drewN (Below.refl w3.heap.size w3) md
  rw [← hm9] at hb
  clear p0 p1 p2
  replace HRL := Lib.hid (HRL.out.below hb)
  replace HMA := Lib.hid (HMA.out.below hb)
  replace HB := Lib.hid (HB.out.trans (hb.mono HB.out.size))
  replace C1 := Lib.hid (C1.out.below hb)
  clear hb hm9
  rcases hres with rfl | ⟨rfl, hn4, hsm⟩
  · obtain ⟨p0, p1, p2, _⟩ := C1.out.v3
    go_wp2_with fail
    refine (first4 _).mono ?_; rintro e w9 ⟨rfl, hb⟩
    have HB9 := Lib.hid (HB.out.trans (hb.mono HB.out.size))
    clear hb
    go_wp2
    go_ret
    exact ⟨rfl, HB9.out⟩
  have HN4 := Lib.hid hn4
  have HSM := Lib.hid hsm
  clear hn4 hsm hLl
  obtain ⟨p0, p1, p2, _⟩ := C1.out.v3
  go_wp2_with fail
  refine (fewSets_any ma mn mc M w4 HMA.out hMl HMZ.out).mono ?_; rintro e w99 ⟨hres, rfl⟩
  rcases hres with rfl | ⟨rfl, hn1, hss⟩
  · go_wp2_with fail
    refine (first4 _).mono ?_; rintro e w9 ⟨rfl, hb⟩
    have HB9 := Lib.hid (HB.out.trans (hb.mono HB.out.size))
    clear hb
    go_wp2
    go_ret
    exact ⟨rfl, HB9.out⟩
  have HN1 := Lib.hid hn1
  have HSS := Lib.hid (small_mem HML.out hss)
  clear hn1 hss hMl
  by_cases h1 : 2000 < kn.size
  · have d1 : decide (2000 < kn.size) = true := dT (by omega)
    have d2 : decide ((2000 : Int) < (kn.size : Int)) = true := dT (by omega)
    clear h1
    go_wp2_with fail
    refine (first4 _).mono ?_; rintro e w9 ⟨rfl, hb⟩
    have HB9 := Lib.hid (HB.out.trans (hb.mono HB.out.size))
    clear hb
    go_wp2
    go_ret
    exact ⟨rfl, HB9.out⟩
  have d1 : decide (2000 < kn.size) = false := dF (by omega)
  have d2 : decide ((2000 : Int) < (kn.size : Int)) = false := dF (by omega)
  have N1 := Lib.hid h1
  clear h1
  go_wp2_with fail
  refine (copyRRs_any la ln lc L _ HRL.out HLn.out (Nat.le_trans HN4.out (by decide))).mono ?_; rintro e w5 ⟨v, rfl, ho, hb⟩
  clear p0 p1 p2
  replace HRL := Lib.hid (HRL.out.below hb)
  replace HMA := Lib.hid (HMA.out.below hb)
  replace HB := Lib.hid (HB.out.trans (hb.mono HB.out.size))
  replace C1 := Lib.hid (C1.out.below hb)
  clear hb
  clear d1 d2
  obtain ⟨ia, ic, rfl, hin, hin2⟩ := rowR_own ho
  have HIN := Lib.hid hin
  have HIN2 := Lib.hid hin2
  clear ho hin hin2
  obtain ⟨p0, p1, p2, _⟩ := C1.out.v3
  go_wp2_with fail
  refine (find_any ma mn mc M kn kt kc _ HMA.out (Nat.le_trans HN1.out (by decide)) (fun s hs => Nat.le_trans (HSS.out s hs).2.1 (by decide))).mono ?_; rintro e w6 ⟨hf, hb⟩
  clear p0 p1 p2
  replace HRL := Lib.hid (HRL.out.below hb)
  replace HMA := Lib.hid (HMA.out.below hb)
  replace HB := Lib.hid (HB.out.trans (hb.mono HB.out.size))
  replace C1 := Lib.hid (C1.out.below hb)
  replace HIN := Lib.hid (HIN.out.below hb)
  clear hb
  obtain ⟨⟨⟨sn, st, sk⟩, su, sd⟩, da, dc, hgd, rfl, hrw⟩ := found_getG hf
  dsimp only at hrw ⊢
  have HDD := Lib.hid (show sd.length ≤ 200 from getD_lenG hgd (fun s hs => (HSS.out s hs).2.1))
  obtain ⟨dl, hdl⟩ : ∃ x, sd.length = x := ⟨_, rfl⟩
  rw [hdl] at hrw HDD ⊢
  have HDL := Lib.hid hdl
  have HRW := Lib.hid hrw
  have HGD := Lib.hid hgd
  obtain ⟨fb, hfb⟩ : ∃ x, (findK M ⟨kn, kt, kc⟩).isSome = x := ⟨_, rfl⟩
  rw [hfb]
  have HFB := Lib.hid hfb
  clear hf hrw hgd hdl hfb
  have hba := (Below.refl _ _ : Below w6.heap.size w6 w6).alloc (Nat.le_refl _) (.cells #[.string sn, .int .i64 st, .int .i64 sk, .int .i64 su, .slice da dl dc] 32)
  have C8 := Lib.hid (CN.new w6 #[.string sn, .int .i64 st, .int .i64 sk, .int .i64 su, .slice da dl dc] 32)
  replace HRL := Lib.hid (HRL.out.below hba)
  replace HMA := Lib.hid (HMA.out.below hba)
  replace HB := Lib.hid (HB.out.trans (hba.mono HB.out.size))
  replace C1 := Lib.hid (C1.out.below hba)
  replace HIN := Lib.hid (HIN.out.below hba)
  replace HRW := Lib.hid (HRW.out.below hba)
  obtain ⟨w7, hw⟩ : ∃ x, w6.alloc (.cells #[.string sn, .int .i64 st, .int .i64 sk, .int .i64 su, .slice da dl dc] 32) = x := ⟨_, rfl⟩
  obtain ⟨q7, hq⟩ : ∃ x, w6.heap.size = x := ⟨_, rfl⟩
  rw [hw, hq] at C8
  rw [hw] at HRL HMA HB C1 HIN HRW
  have HW := Lib.hid hw
  have HQ_ := Lib.hid hq
  clear hba hw hq
  go_upto_region 7 with (fail)
  rw [HW.out, HQ_.out]
  clear HW HQ_
  go_cut [10, 11] (fun p t wx => ∃ (q10 : Nat) (fp : Option Addr) (fc : Nat), p = .pointer (some ⟨q10, 0, none⟩) ∧ t = .bool fb ∧ Hid (CN wx q10 [.string sn, .int .i64 st, .int .i64 sk, .int .i64 su, .slice fp dl fc]) ∧ Hid (RowS wx fp dl sd) ∧ Hid (Below w7.heap.size w7 wx))
  case first =>
    have HMO := Lib.hid HMA.out.old
    obtain ⟨wd, hwd⟩ : ∃ x, w7.drew = x := ⟨_, rfl⟩
    have HBD := Lib.hid (show Below w7.heap.size w7 wd by rw [← hwd]; exact (Below.refl _ _).drew)
    refine wp_region_held_drew (S := (fun wx => Hid (Below w7.heap.size w7 wx))) (by kernel_rfl) (by rw [hwd]; exact HBD) (fun hHeld => ?_)
    rw [hwd] at hHeld ⊢
    clear hwd
    refine Plan.of [0, 2] ?_
    iterate 2 (refine Plan.w (v := ?_) rfl hHeld (by rfl) ?_ ?_; rotate_left; (focus (intro w hSw; (try dsimp only at hSw); obtain ⟨p0, p1, p2, _⟩ := (C1.out.below hSw.out).v3; go_simp; try with_reducible rfl)); try simp only [Act.put, List.setIfInBounds_toArray, List.set_cons_zero, List.set_cons_succ])
    refine Plan.fin ?_
    refine wpAnyH_ready (rs := [1, 8]) (by kernel_rfl) (by simp) ?_
    refine AllReadyH.cons (o := { dst := some 40, op := Go.Op.call { callee := Go.Callee.value (Go.Operand.func 15), args := #[Go.Operand.tmp 39], argTypes := #[23] }, type := 40, pos := "law.go:65", after := #[{ on := 0, ground := Go.Ground.data }], guard := none }) rfl (fun K hK => ?_) (AllReadyH.cons (o := { dst := some 10, op := Go.Op.alloc 37, type := 0, pos := "law.go:65", after := #[], guard := none }) rfl (fun K hK => ?_) AllReadyH.nil)
    · go_simp
      refine (plains_old ma mn mc M wd w7 (HMO.out.below hHeld.out) (Nat.le_trans HN1.out (by decide))).mono ?_; rintro e wx1 ⟨⟨pa, pc, rfl, hps⟩, hb⟩
      have HPS := Lib.hid hps
      clear hps
      go_wp2_with fail
      refine hK.out _ _ (Lib.hid (hHeld.out.trans (hb.mono hHeld.out.size))) (fun hHeld2 => ?_)
      clear hK K hHeld
      have hHeld := hHeld2
      clear hHeld2
      try simp only [Act.put, List.setIfInBounds_toArray, List.set_cons_zero, List.set_cons_succ]
      refine wpAnyH_ready (rs := [3, 8]) (by kernel_rfl) (by simp) ?_
      refine AllReadyH.cons (o := { dst := some 42, op := Go.Op.call { callee := Go.Callee.value (Go.Operand.func 16), args := #[Go.Operand.tmp 41], argTypes := #[25] }, type := 35, pos := "law.go:65", after := #[{ on := 2, ground := Go.Ground.data }, { on := 1, ground := Go.Ground.chain }], guard := none }) rfl (fun K hK => ?_) (AllReadyH.cons (o := { dst := some 10, op := Go.Op.alloc 37, type := 0, pos := "law.go:65", after := #[], guard := none }) rfl (fun K hK => ?_) AllReadyH.nil)
      · go_simp
        refine (keyConv kn kt kc wx1).mono ?_; rintro e wx2 ⟨rfl, hb⟩
        replace HPS := Lib.hid (HPS.out.below hb)
        go_wp2_with fail
        refine hK.out _ _ (Lib.hid (hHeld.out.trans (hb.mono hHeld.out.size))) (fun hHeld2 => ?_)
        clear hK K hHeld
        have hHeld := hHeld2
        clear hHeld2
        try simp only [Act.put, List.setIfInBounds_toArray, List.set_cons_zero, List.set_cons_succ]
        refine wpAnyH_ready (rs := [4, 8]) (by kernel_rfl) (by simp) ?_
        refine AllReadyH.cons (o := { dst := some 43, op := Go.Op.call { callee := Go.Callee.value (Go.Operand.func 14), args := #[Go.Operand.tmp 40, Go.Operand.tmp 42], argTypes := #[40, 35] }, type := 38, pos := "law.go:65", after := #[{ on := 1, ground := Go.Ground.data }, { on := 3, ground := Go.Ground.data }, { on := 3, ground := Go.Ground.chain }], guard := none }) rfl (fun K hK => ?_) (AllReadyH.cons (o := { dst := some 10, op := Go.Op.alloc 37, type := 0, pos := "law.go:65", after := #[], guard := none }) rfl (fun K hK => ?_) AllReadyH.nil)
        · go_simp
          refine (rfind_old pa mn pc M kn kt kc wx2 _ HPS.out (Nat.le_trans HN1.out (by decide))).mono ?_; rintro e wx3 ⟨hf, hb⟩
          obtain ⟨s, fp, fc, hgs, rfl, hrow⟩ := rfound_getG hf
          obtain rfl : (⟨⟨sn, st, sk⟩, su, sd⟩ : SetP) = s := HGD.out.symm.trans hgs
          dsimp only
          rw [HDL.out] at hrow ⊢
          rw [HFB.out]
          have HFR := Lib.hid hrow
          clear hf hgs hrow
          replace HPS := Lib.hid (HPS.out.below hb)
          go_wp2_with fail
          refine hK.out _ _ (Lib.hid (hHeld.out.trans (hb.mono hHeld.out.size))) (fun hHeld2 => ?_)
          clear hK K hHeld
          have hHeld := hHeld2
          clear hHeld2
          try simp only [Act.put, List.setIfInBounds_toArray, List.set_cons_zero, List.set_cons_succ]
          refine Plan.of [5, 6, 7] ?_
          iterate 3 (refine Plan.w (v := ?_) rfl hHeld (by rfl) ?_ ?_; rotate_left; (focus (intro w hSw; (try dsimp only at hSw); obtain ⟨p0, p1, p2, _⟩ := (C1.out.below hSw.out).v3; go_simp; try with_reducible rfl)); try simp only [Act.put, List.setIfInBounds_toArray, List.set_cons_zero, List.set_cons_succ])
          refine Plan.fin ?_
          refine wpAnyH_ready (rs := [8]) (by kernel_rfl) (by simp) ?_
          refine AllReadyH.cons (o := { dst := some 10, op := Go.Op.alloc 37, type := 0, pos := "law.go:65", after := #[], guard := none }) rfl (fun K hK => ?_) AllReadyH.nil
          go_simp
          have hb := (Below.refl _ _ : Below wx3.heap.size wx3 wx3).alloc (Nat.le_refl _) (.cells #[.string ⟨#[]⟩, .int .i64 0, .int .i64 0, .int .i64 0, .slice none 0 0] 37)
          have HX := Lib.hid (CN.new wx3 #[.string ⟨#[]⟩, .int .i64 0, .int .i64 0, .int .i64 0, .slice none 0 0] 37)
          have HQX := Lib.hid hHeld.out.size
          obtain ⟨wx4, hwe⟩ : ∃ x, wx3.alloc (.cells #[.string ⟨#[]⟩, .int .i64 0, .int .i64 0, .int .i64 0, .slice none 0 0] 37) = x := ⟨_, rfl⟩
          obtain ⟨q10, hge⟩ : ∃ x, wx3.heap.size = x := ⟨_, rfl⟩
          replace HPS := Lib.hid (HPS.out.below hb)
          rw [hwe] at hb HX HPS ⊢
          rw [hge] at HX HQX ⊢
          clear hwe hge
          refine hK.out _ _ (Lib.hid (hHeld.out.trans (hb.mono hHeld.out.size))) (fun hHeld2 => ?_)
          clear hK K hHeld
          have hHeld := hHeld2
          clear hHeld2
          try simp only [Act.put, List.setIfInBounds_toArray, List.set_cons_zero, List.set_cons_succ]
          refine wpAnyH_ready (rs := [9]) (by kernel_rfl) (by simp) ?_
          refine AllReadyH.cons (o := { dst := none, op := Go.Op.store 37 (Go.Operand.tmp 10) (Go.Operand.tmp 44), type := 0, pos := "law.go:65", after := #[{ on := 8, ground := Go.Ground.data }, { on := 6, ground := Go.Ground.data }, { on := 4, ground := Go.Ground.chain }, { on := 0, ground := Go.Ground.phase }, { on := 1, ground := Go.Ground.phase }, { on := 2, ground := Go.Ground.phase }, { on := 3, ground := Go.Ground.phase }, { on := 4, ground := Go.Ground.phase }, { on := 5, ground := Go.Ground.phase }, { on := 6, ground := Go.Ground.phase }, { on := 7, ground := Go.Ground.textOnly Go.Departure.lateStores }, { on := 8, ground := Go.Ground.phase }], guard := none }) rfl (fun K hK => ?_) AllReadyH.nil
          obtain ⟨y0, y1, y2, y3, y4, f0, f1, f2, f3, f4⟩ := HX.out.u5
          have KZ := Lib.hid (HX.out.s5 (.string sn) (.int .i64 st) (.int .i64 sk) (.int .i64 su) (.slice fp dl fc))
          have HGZ := Lib.hid (grown_s5 wx4 q10 (.string sn) (.int .i64 st) (.int .i64 sk) (.int .i64 su) (.slice fp dl fc))
          have hbz := hHeld.out.grown HGZ.out hHeld.out.size (fun k hk => by injection hk with hk; rw [← hk]; exact HQX.out)
          skip
          go_wp2_with fail
          clear y0 y1 y2 y3 y4 f0 f1 f2 f3 f4
          obtain ⟨wx5, hwe⟩ : ∃ x, (((((wx4.setCell ⟨q10, 0, none⟩ (.string sn)).setCell ⟨q10, 1, none⟩ (.int .i64 st)).setCell ⟨q10, 2, none⟩ (.int .i64 sk)).setCell ⟨q10, 3, none⟩ (.int .i64 su)).setCell ⟨q10, 4, none⟩ (.slice fp dl fc)) = x := ⟨_, rfl⟩
          rw [hwe] at KZ HGZ hbz ⊢
          clear hwe
          have HBZ := Lib.hid hbz
          clear hbz
          refine hK.out _ _ (HBZ) (fun hHeld2 => ?_)
          clear hK K hHeld
          have hHeld := hHeld2
          clear hHeld2
          try simp only [Act.put, List.setIfInBounds_toArray, List.set_cons_zero, List.set_cons_succ]
          refine Plan.of [10] ?_
          refine Plan.w (v := ?_) rfl hHeld (by rfl) ?_ ?_; rotate_left; (focus (intro w hSw; (try dsimp only at hSw); obtain ⟨p0, p1, p2, _⟩ := (C1.out.below hSw.out).v3; go_simp; try with_reducible rfl)); try simp only [Act.put, List.setIfInBounds_toArray, List.set_cons_zero, List.set_cons_succ]
          refine Plan.fin ?_
          refine wpAnyH_done (by kernel_rfl) ?_ _
          clear hHeld
          have HFZ := Lib.hid (HFR.out.below HBZ.out)
          go_wp2_with fail
          go_meet
          exact ⟨q10, fp, fc, rfl, rfl, KZ, HFZ, HBZ⟩
        · go_simp
          have hb := (Below.refl _ _ : Below wx2.heap.size wx2 wx2).alloc (Nat.le_refl _) (.cells #[.string ⟨#[]⟩, .int .i64 0, .int .i64 0, .int .i64 0, .slice none 0 0] 37)
          have HX := Lib.hid (CN.new wx2 #[.string ⟨#[]⟩, .int .i64 0, .int .i64 0, .int .i64 0, .slice none 0 0] 37)
          have HQX := Lib.hid hHeld.out.size
          obtain ⟨wx3, hwe⟩ : ∃ x, wx2.alloc (.cells #[.string ⟨#[]⟩, .int .i64 0, .int .i64 0, .int .i64 0, .slice none 0 0] 37) = x := ⟨_, rfl⟩
          obtain ⟨q10, hge⟩ : ∃ x, wx2.heap.size = x := ⟨_, rfl⟩
          replace HPS := Lib.hid (HPS.out.below hb)
          rw [hwe] at hb HX HPS ⊢
          rw [hge] at HX HQX ⊢
          clear hwe hge
          refine hK.out _ _ (Lib.hid (hHeld.out.trans (hb.mono hHeld.out.size))) (fun hHeld2 => ?_)
          clear hK K hHeld
          have hHeld := hHeld2
          clear hHeld2
          try simp only [Act.put, List.setIfInBounds_toArray, List.set_cons_zero, List.set_cons_succ]
          refine wpAnyH_ready (rs := [4]) (by kernel_rfl) (by simp) ?_
          refine AllReadyH.cons (o := { dst := some 43, op := Go.Op.call { callee := Go.Callee.value (Go.Operand.func 14), args := #[Go.Operand.tmp 40, Go.Operand.tmp 42], argTypes := #[40, 35] }, type := 38, pos := "law.go:65", after := #[{ on := 1, ground := Go.Ground.data }, { on := 3, ground := Go.Ground.data }, { on := 3, ground := Go.Ground.chain }], guard := none }) rfl (fun K hK => ?_) AllReadyH.nil
          go_simp
          refine (rfind_old pa mn pc M kn kt kc wx3 _ HPS.out (Nat.le_trans HN1.out (by decide))).mono ?_; rintro e wx4 ⟨hf, hb⟩
          obtain ⟨s, fp, fc, hgs, rfl, hrow⟩ := rfound_getG hf
          obtain rfl : (⟨⟨sn, st, sk⟩, su, sd⟩ : SetP) = s := HGD.out.symm.trans hgs
          dsimp only
          rw [HDL.out] at hrow ⊢
          rw [HFB.out]
          have HFR := Lib.hid hrow
          clear hf hgs hrow
          replace HPS := Lib.hid (HPS.out.below hb)
          replace HX := Lib.hid (HX.out.below hb)
          go_wp2_with fail
          refine hK.out _ _ (Lib.hid (hHeld.out.trans (hb.mono hHeld.out.size))) (fun hHeld2 => ?_)
          clear hK K hHeld
          have hHeld := hHeld2
          clear hHeld2
          try simp only [Act.put, List.setIfInBounds_toArray, List.set_cons_zero, List.set_cons_succ]
          refine Plan.of [5, 6, 7] ?_
          iterate 3 (refine Plan.w (v := ?_) rfl hHeld (by rfl) ?_ ?_; rotate_left; (focus (intro w hSw; (try dsimp only at hSw); obtain ⟨p0, p1, p2, _⟩ := (C1.out.below hSw.out).v3; go_simp; try with_reducible rfl)); try simp only [Act.put, List.setIfInBounds_toArray, List.set_cons_zero, List.set_cons_succ])
          refine Plan.fin ?_
          refine wpAnyH_ready (rs := [9]) (by kernel_rfl) (by simp) ?_
          refine AllReadyH.cons (o := { dst := none, op := Go.Op.store 37 (Go.Operand.tmp 10) (Go.Operand.tmp 44), type := 0, pos := "law.go:65", after := #[{ on := 8, ground := Go.Ground.data }, { on := 6, ground := Go.Ground.data }, { on := 4, ground := Go.Ground.chain }, { on := 0, ground := Go.Ground.phase }, { on := 1, ground := Go.Ground.phase }, { on := 2, ground := Go.Ground.phase }, { on := 3, ground := Go.Ground.phase }, { on := 4, ground := Go.Ground.phase }, { on := 5, ground := Go.Ground.phase }, { on := 6, ground := Go.Ground.phase }, { on := 7, ground := Go.Ground.textOnly Go.Departure.lateStores }, { on := 8, ground := Go.Ground.phase }], guard := none }) rfl (fun K hK => ?_) AllReadyH.nil
          obtain ⟨y0, y1, y2, y3, y4, f0, f1, f2, f3, f4⟩ := HX.out.u5
          have KZ := Lib.hid (HX.out.s5 (.string sn) (.int .i64 st) (.int .i64 sk) (.int .i64 su) (.slice fp dl fc))
          have HGZ := Lib.hid (grown_s5 wx4 q10 (.string sn) (.int .i64 st) (.int .i64 sk) (.int .i64 su) (.slice fp dl fc))
          have hbz := hHeld.out.grown HGZ.out hHeld.out.size (fun k hk => by injection hk with hk; rw [← hk]; exact HQX.out)
          skip
          go_wp2_with fail
          clear y0 y1 y2 y3 y4 f0 f1 f2 f3 f4
          obtain ⟨wx5, hwe⟩ : ∃ x, (((((wx4.setCell ⟨q10, 0, none⟩ (.string sn)).setCell ⟨q10, 1, none⟩ (.int .i64 st)).setCell ⟨q10, 2, none⟩ (.int .i64 sk)).setCell ⟨q10, 3, none⟩ (.int .i64 su)).setCell ⟨q10, 4, none⟩ (.slice fp dl fc)) = x := ⟨_, rfl⟩
          rw [hwe] at KZ HGZ hbz ⊢
          clear hwe
          have HBZ := Lib.hid hbz
          clear hbz
          refine hK.out _ _ (HBZ) (fun hHeld2 => ?_)
          clear hK K hHeld
          have hHeld := hHeld2
          clear hHeld2
          try simp only [Act.put, List.setIfInBounds_toArray, List.set_cons_zero, List.set_cons_succ]
          refine Plan.of [10] ?_
          refine Plan.w (v := ?_) rfl hHeld (by rfl) ?_ ?_; rotate_left; (focus (intro w hSw; (try dsimp only at hSw); obtain ⟨p0, p1, p2, _⟩ := (C1.out.below hSw.out).v3; go_simp; try with_reducible rfl)); try simp only [Act.put, List.setIfInBounds_toArray, List.set_cons_zero, List.set_cons_succ]
          refine Plan.fin ?_
          refine wpAnyH_done (by kernel_rfl) ?_ _
          clear hHeld
          have HFZ := Lib.hid (HFR.out.below HBZ.out)
          go_wp2_with fail
          go_meet
          exact ⟨q10, fp, fc, rfl, rfl, KZ, HFZ, HBZ⟩
      · go_simp
        have hb := (Below.refl _ _ : Below wx1.heap.size wx1 wx1).alloc (Nat.le_refl _) (.cells #[.string ⟨#[]⟩, .int .i64 0, .int .i64 0, .int .i64 0, .slice none 0 0] 37)
        have HX := Lib.hid (CN.new wx1 #[.string ⟨#[]⟩, .int .i64 0, .int .i64 0, .int .i64 0, .slice none 0 0] 37)
        have HQX := Lib.hid hHeld.out.size
        obtain ⟨wx2, hwe⟩ : ∃ x, wx1.alloc (.cells #[.string ⟨#[]⟩, .int .i64 0, .int .i64 0, .int .i64 0, .slice none 0 0] 37) = x := ⟨_, rfl⟩
        obtain ⟨q10, hge⟩ : ∃ x, wx1.heap.size = x := ⟨_, rfl⟩
        replace HPS := Lib.hid (HPS.out.below hb)
        rw [hwe] at hb HX HPS ⊢
        rw [hge] at HX HQX ⊢
        clear hwe hge
        refine hK.out _ _ (Lib.hid (hHeld.out.trans (hb.mono hHeld.out.size))) (fun hHeld2 => ?_)
        clear hK K hHeld
        have hHeld := hHeld2
        clear hHeld2
        try simp only [Act.put, List.setIfInBounds_toArray, List.set_cons_zero, List.set_cons_succ]
        refine wpAnyH_ready (rs := [3]) (by kernel_rfl) (by simp) ?_
        refine AllReadyH.cons (o := { dst := some 42, op := Go.Op.call { callee := Go.Callee.value (Go.Operand.func 16), args := #[Go.Operand.tmp 41], argTypes := #[25] }, type := 35, pos := "law.go:65", after := #[{ on := 2, ground := Go.Ground.data }, { on := 1, ground := Go.Ground.chain }], guard := none }) rfl (fun K hK => ?_) AllReadyH.nil
        go_simp
        refine (keyConv kn kt kc wx2).mono ?_; rintro e wx3 ⟨rfl, hb⟩
        replace HPS := Lib.hid (HPS.out.below hb)
        replace HX := Lib.hid (HX.out.below hb)
        go_wp2_with fail
        refine hK.out _ _ (Lib.hid (hHeld.out.trans (hb.mono hHeld.out.size))) (fun hHeld2 => ?_)
        clear hK K hHeld
        have hHeld := hHeld2
        clear hHeld2
        try simp only [Act.put, List.setIfInBounds_toArray, List.set_cons_zero, List.set_cons_succ]
        refine wpAnyH_ready (rs := [4]) (by kernel_rfl) (by simp) ?_
        refine AllReadyH.cons (o := { dst := some 43, op := Go.Op.call { callee := Go.Callee.value (Go.Operand.func 14), args := #[Go.Operand.tmp 40, Go.Operand.tmp 42], argTypes := #[40, 35] }, type := 38, pos := "law.go:65", after := #[{ on := 1, ground := Go.Ground.data }, { on := 3, ground := Go.Ground.data }, { on := 3, ground := Go.Ground.chain }], guard := none }) rfl (fun K hK => ?_) AllReadyH.nil
        go_simp
        refine (rfind_old pa mn pc M kn kt kc wx3 _ HPS.out (Nat.le_trans HN1.out (by decide))).mono ?_; rintro e wx4 ⟨hf, hb⟩
        obtain ⟨s, fp, fc, hgs, rfl, hrow⟩ := rfound_getG hf
        obtain rfl : (⟨⟨sn, st, sk⟩, su, sd⟩ : SetP) = s := HGD.out.symm.trans hgs
        dsimp only
        rw [HDL.out] at hrow ⊢
        rw [HFB.out]
        have HFR := Lib.hid hrow
        clear hf hgs hrow
        replace HPS := Lib.hid (HPS.out.below hb)
        replace HX := Lib.hid (HX.out.below hb)
        go_wp2_with fail
        refine hK.out _ _ (Lib.hid (hHeld.out.trans (hb.mono hHeld.out.size))) (fun hHeld2 => ?_)
        clear hK K hHeld
        have hHeld := hHeld2
        clear hHeld2
        try simp only [Act.put, List.setIfInBounds_toArray, List.set_cons_zero, List.set_cons_succ]
        refine Plan.of [5, 6, 7] ?_
        iterate 3 (refine Plan.w (v := ?_) rfl hHeld (by rfl) ?_ ?_; rotate_left; (focus (intro w hSw; (try dsimp only at hSw); obtain ⟨p0, p1, p2, _⟩ := (C1.out.below hSw.out).v3; go_simp; try with_reducible rfl)); try simp only [Act.put, List.setIfInBounds_toArray, List.set_cons_zero, List.set_cons_succ])
        refine Plan.fin ?_
        refine wpAnyH_ready (rs := [9]) (by kernel_rfl) (by simp) ?_
        refine AllReadyH.cons (o := { dst := none, op := Go.Op.store 37 (Go.Operand.tmp 10) (Go.Operand.tmp 44), type := 0, pos := "law.go:65", after := #[{ on := 8, ground := Go.Ground.data }, { on := 6, ground := Go.Ground.data }, { on := 4, ground := Go.Ground.chain }, { on := 0, ground := Go.Ground.phase }, { on := 1, ground := Go.Ground.phase }, { on := 2, ground := Go.Ground.phase }, { on := 3, ground := Go.Ground.phase }, { on := 4, ground := Go.Ground.phase }, { on := 5, ground := Go.Ground.phase }, { on := 6, ground := Go.Ground.phase }, { on := 7, ground := Go.Ground.textOnly Go.Departure.lateStores }, { on := 8, ground := Go.Ground.phase }], guard := none }) rfl (fun K hK => ?_) AllReadyH.nil
        obtain ⟨y0, y1, y2, y3, y4, f0, f1, f2, f3, f4⟩ := HX.out.u5
        have KZ := Lib.hid (HX.out.s5 (.string sn) (.int .i64 st) (.int .i64 sk) (.int .i64 su) (.slice fp dl fc))
        have HGZ := Lib.hid (grown_s5 wx4 q10 (.string sn) (.int .i64 st) (.int .i64 sk) (.int .i64 su) (.slice fp dl fc))
        have hbz := hHeld.out.grown HGZ.out hHeld.out.size (fun k hk => by injection hk with hk; rw [← hk]; exact HQX.out)
        skip
        go_wp2_with fail
        clear y0 y1 y2 y3 y4 f0 f1 f2 f3 f4
        obtain ⟨wx5, hwe⟩ : ∃ x, (((((wx4.setCell ⟨q10, 0, none⟩ (.string sn)).setCell ⟨q10, 1, none⟩ (.int .i64 st)).setCell ⟨q10, 2, none⟩ (.int .i64 sk)).setCell ⟨q10, 3, none⟩ (.int .i64 su)).setCell ⟨q10, 4, none⟩ (.slice fp dl fc)) = x := ⟨_, rfl⟩
        rw [hwe] at KZ HGZ hbz ⊢
        clear hwe
        have HBZ := Lib.hid hbz
        clear hbz
        refine hK.out _ _ (HBZ) (fun hHeld2 => ?_)
        clear hK K hHeld
        have hHeld := hHeld2
        clear hHeld2
        try simp only [Act.put, List.setIfInBounds_toArray, List.set_cons_zero, List.set_cons_succ]
        refine Plan.of [10] ?_
        refine Plan.w (v := ?_) rfl hHeld (by rfl) ?_ ?_; rotate_left; (focus (intro w hSw; (try dsimp only at hSw); obtain ⟨p0, p1, p2, _⟩ := (C1.out.below hSw.out).v3; go_simp; try with_reducible rfl)); try simp only [Act.put, List.setIfInBounds_toArray, List.set_cons_zero, List.set_cons_succ]
        refine Plan.fin ?_
        refine wpAnyH_done (by kernel_rfl) ?_ _
        clear hHeld
        have HFZ := Lib.hid (HFR.out.below HBZ.out)
        go_wp2_with fail
        go_meet
        exact ⟨q10, fp, fc, rfl, rfl, KZ, HFZ, HBZ⟩
    · go_simp
      have hb := (Below.refl _ _ : Below wd.heap.size wd wd).alloc (Nat.le_refl _) (.cells #[.string ⟨#[]⟩, .int .i64 0, .int .i64 0, .int .i64 0, .slice none 0 0] 37)
      have HX := Lib.hid (CN.new wd #[.string ⟨#[]⟩, .int .i64 0, .int .i64 0, .int .i64 0, .slice none 0 0] 37)
      have HQX := Lib.hid hHeld.out.size
      obtain ⟨wx1, hwe⟩ : ∃ x, wd.alloc (.cells #[.string ⟨#[]⟩, .int .i64 0, .int .i64 0, .int .i64 0, .slice none 0 0] 37) = x := ⟨_, rfl⟩
      obtain ⟨q10, hge⟩ : ∃ x, wd.heap.size = x := ⟨_, rfl⟩
      rw [hwe] at hb HX ⊢
      rw [hge] at HX HQX ⊢
      clear hwe hge
      refine hK.out _ _ (Lib.hid (hHeld.out.trans (hb.mono hHeld.out.size))) (fun hHeld2 => ?_)
      clear hK K hHeld
      have hHeld := hHeld2
      clear hHeld2
      try simp only [Act.put, List.setIfInBounds_toArray, List.set_cons_zero, List.set_cons_succ]
      refine wpAnyH_ready (rs := [1]) (by kernel_rfl) (by simp) ?_
      refine AllReadyH.cons (o := { dst := some 40, op := Go.Op.call { callee := Go.Callee.value (Go.Operand.func 15), args := #[Go.Operand.tmp 39], argTypes := #[23] }, type := 40, pos := "law.go:65", after := #[{ on := 0, ground := Go.Ground.data }], guard := none }) rfl (fun K hK => ?_) AllReadyH.nil
      go_simp
      refine (plains_old ma mn mc M wx1 w7 (HMO.out.below hHeld.out) (Nat.le_trans HN1.out (by decide))).mono ?_; rintro e wx2 ⟨⟨pa, pc, rfl, hps⟩, hb⟩
      have HPS := Lib.hid hps
      clear hps
      replace HX := Lib.hid (HX.out.below hb)
      go_wp2_with fail
      refine hK.out _ _ (Lib.hid (hHeld.out.trans (hb.mono hHeld.out.size))) (fun hHeld2 => ?_)
      clear hK K hHeld
      have hHeld := hHeld2
      clear hHeld2
      try simp only [Act.put, List.setIfInBounds_toArray, List.set_cons_zero, List.set_cons_succ]
      refine wpAnyH_ready (rs := [3]) (by kernel_rfl) (by simp) ?_
      refine AllReadyH.cons (o := { dst := some 42, op := Go.Op.call { callee := Go.Callee.value (Go.Operand.func 16), args := #[Go.Operand.tmp 41], argTypes := #[25] }, type := 35, pos := "law.go:65", after := #[{ on := 2, ground := Go.Ground.data }, { on := 1, ground := Go.Ground.chain }], guard := none }) rfl (fun K hK => ?_) AllReadyH.nil
      go_simp
      refine (keyConv kn kt kc wx2).mono ?_; rintro e wx3 ⟨rfl, hb⟩
      replace HPS := Lib.hid (HPS.out.below hb)
      replace HX := Lib.hid (HX.out.below hb)
      go_wp2_with fail
      refine hK.out _ _ (Lib.hid (hHeld.out.trans (hb.mono hHeld.out.size))) (fun hHeld2 => ?_)
      clear hK K hHeld
      have hHeld := hHeld2
      clear hHeld2
      try simp only [Act.put, List.setIfInBounds_toArray, List.set_cons_zero, List.set_cons_succ]
      refine wpAnyH_ready (rs := [4]) (by kernel_rfl) (by simp) ?_
      refine AllReadyH.cons (o := { dst := some 43, op := Go.Op.call { callee := Go.Callee.value (Go.Operand.func 14), args := #[Go.Operand.tmp 40, Go.Operand.tmp 42], argTypes := #[40, 35] }, type := 38, pos := "law.go:65", after := #[{ on := 1, ground := Go.Ground.data }, { on := 3, ground := Go.Ground.data }, { on := 3, ground := Go.Ground.chain }], guard := none }) rfl (fun K hK => ?_) AllReadyH.nil
      go_simp
      refine (rfind_old pa mn pc M kn kt kc wx3 _ HPS.out (Nat.le_trans HN1.out (by decide))).mono ?_; rintro e wx4 ⟨hf, hb⟩
      obtain ⟨s, fp, fc, hgs, rfl, hrow⟩ := rfound_getG hf
      obtain rfl : (⟨⟨sn, st, sk⟩, su, sd⟩ : SetP) = s := HGD.out.symm.trans hgs
      dsimp only
      rw [HDL.out] at hrow ⊢
      rw [HFB.out]
      have HFR := Lib.hid hrow
      clear hf hgs hrow
      replace HPS := Lib.hid (HPS.out.below hb)
      replace HX := Lib.hid (HX.out.below hb)
      go_wp2_with fail
      refine hK.out _ _ (Lib.hid (hHeld.out.trans (hb.mono hHeld.out.size))) (fun hHeld2 => ?_)
      clear hK K hHeld
      have hHeld := hHeld2
      clear hHeld2
      try simp only [Act.put, List.setIfInBounds_toArray, List.set_cons_zero, List.set_cons_succ]
      refine Plan.of [5, 6, 7] ?_
      iterate 3 (refine Plan.w (v := ?_) rfl hHeld (by rfl) ?_ ?_; rotate_left; (focus (intro w hSw; (try dsimp only at hSw); obtain ⟨p0, p1, p2, _⟩ := (C1.out.below hSw.out).v3; go_simp; try with_reducible rfl)); try simp only [Act.put, List.setIfInBounds_toArray, List.set_cons_zero, List.set_cons_succ])
      refine Plan.fin ?_
      refine wpAnyH_ready (rs := [9]) (by kernel_rfl) (by simp) ?_
      refine AllReadyH.cons (o := { dst := none, op := Go.Op.store 37 (Go.Operand.tmp 10) (Go.Operand.tmp 44), type := 0, pos := "law.go:65", after := #[{ on := 8, ground := Go.Ground.data }, { on := 6, ground := Go.Ground.data }, { on := 4, ground := Go.Ground.chain }, { on := 0, ground := Go.Ground.phase }, { on := 1, ground := Go.Ground.phase }, { on := 2, ground := Go.Ground.phase }, { on := 3, ground := Go.Ground.phase }, { on := 4, ground := Go.Ground.phase }, { on := 5, ground := Go.Ground.phase }, { on := 6, ground := Go.Ground.phase }, { on := 7, ground := Go.Ground.textOnly Go.Departure.lateStores }, { on := 8, ground := Go.Ground.phase }], guard := none }) rfl (fun K hK => ?_) AllReadyH.nil
      obtain ⟨y0, y1, y2, y3, y4, f0, f1, f2, f3, f4⟩ := HX.out.u5
      have KZ := Lib.hid (HX.out.s5 (.string sn) (.int .i64 st) (.int .i64 sk) (.int .i64 su) (.slice fp dl fc))
      have HGZ := Lib.hid (grown_s5 wx4 q10 (.string sn) (.int .i64 st) (.int .i64 sk) (.int .i64 su) (.slice fp dl fc))
      have hbz := hHeld.out.grown HGZ.out hHeld.out.size (fun k hk => by injection hk with hk; rw [← hk]; exact HQX.out)
      skip
      go_wp2_with fail
      clear y0 y1 y2 y3 y4 f0 f1 f2 f3 f4
      obtain ⟨wx5, hwe⟩ : ∃ x, (((((wx4.setCell ⟨q10, 0, none⟩ (.string sn)).setCell ⟨q10, 1, none⟩ (.int .i64 st)).setCell ⟨q10, 2, none⟩ (.int .i64 sk)).setCell ⟨q10, 3, none⟩ (.int .i64 su)).setCell ⟨q10, 4, none⟩ (.slice fp dl fc)) = x := ⟨_, rfl⟩
      rw [hwe] at KZ HGZ hbz ⊢
      clear hwe
      have HBZ := Lib.hid hbz
      clear hbz
      refine hK.out _ _ (HBZ) (fun hHeld2 => ?_)
      clear hK K hHeld
      have hHeld := hHeld2
      clear hHeld2
      try simp only [Act.put, List.setIfInBounds_toArray, List.set_cons_zero, List.set_cons_succ]
      refine Plan.of [10] ?_
      refine Plan.w (v := ?_) rfl hHeld (by rfl) ?_ ?_; rotate_left; (focus (intro w hSw; (try dsimp only at hSw); obtain ⟨p0, p1, p2, _⟩ := (C1.out.below hSw.out).v3; go_simp; try with_reducible rfl)); try simp only [Act.put, List.setIfInBounds_toArray, List.set_cons_zero, List.set_cons_succ]
      refine Plan.fin ?_
      refine wpAnyH_done (by kernel_rfl) ?_ _
      clear hHeld
      have HFZ := Lib.hid (HFR.out.below HBZ.out)
      go_wp2_with fail
      go_meet
      exact ⟨q10, fp, fc, rfl, rfl, KZ, HFZ, HBZ⟩
  case rest =>
  obtain ⟨q10, fp, fc, rfl, rfl, C10, HFR, HB10⟩ := hcut
  replace HRL := Lib.hid (HRL.out.below HB10.out)
  replace HMA := Lib.hid (HMA.out.below HB10.out)
  replace HB := Lib.hid (HB.out.trans (HB10.out.mono HB.out.size))
  replace C1 := Lib.hid (C1.out.below HB10.out)
  replace HIN := Lib.hid (HIN.out.below HB10.out)
  replace HRW := Lib.hid (HRW.out.below HB10.out)
  replace C8 := Lib.hid (C8.out.below HB10.out)
  clear HB10
  obtain ⟨w8, hw8⟩ : ∃ x, wc = x := ⟨_, rfl⟩
  rw [hw8] at HRL HMA HB C1 HIN HRW C8 C10 HFR ⊢
  clear hw8
  go_wp2_with fail
  go_loopw [12] (fun i wr => ∃ (j : Nat), j ≤ mn ∧ i = .int .i64 j ∧ Hid (Below w8.heap.size w8 wr)) (fun i _ => mn - (intOf i).toNat)
  case atStart => exact ⟨0, Nat.zero_le _, rfl, Lib.hid (Below.refl _ _)⟩
  case round =>
    obtain ⟨j, hj, rfl, hbw⟩ := hrel
    have hmn := HN1.out
    by_cases hlt : j < mn
    · have HMR := HMA.out.below hbw.out
      rcases HMR.2 with h9 | ⟨b, o, hma, hbl, hc⟩
      · omega
      obtain ⟨pa, ca, hs2⟩ := hc j hlt
      have hmem : M.getD j ssD ∈ M := by rw [List.getD_eq_getElem?_getD, List.getElem?_eq_getElem (by have := HML.out; omega)]; exact List.getElem_mem _
      obtain ⟨s, hss⟩ : ∃ s, M.getD j ssD = s := ⟨_, rfl⟩
      rw [hss] at hs2 hmem
      have hsm := HSS.out _ hmem
      obtain ⟨⟨gn, gt, gk⟩, gu, gd⟩ := s
      obtain rfl := hma
      obtain ⟨x0, x1, x2, x3, x4, hsr, -⟩ := hs2
      replace hsr : RowS wr pa gd.length gd := hsr
      obtain ⟨gl, hgl⟩ : ∃ x, gd.length = x := ⟨_, rfl⟩
      obtain ⟨hz1, hz2, hz3⟩ := hsm
      replace hz1 : gn.size ≤ 60000 := hz1
      replace hz2 : gd.length ≤ 200 := hz2
      have HZ3 := Lib.hid (dataG (d := gd) hz3 hgl)
      rw [hgl] at hsr hz2
      have HSR := Lib.hid hsr
      have HZ1 := Lib.hid (show gn.size ≤ 1000000 by omega)
      have HZ2 := Lib.hid (show gl ≤ 100000 by omega)
      have HGLL := Lib.hid hgl
      have X0 := Lib.hid (show wr.cell? ⟨b, o + j * 5, none⟩ = some (.string gn) from x0)
      have X1 := Lib.hid (show wr.cell? ⟨b, o + j * 5 + 1, none⟩ = some (.int .i64 gt) from x1)
      have X2 := Lib.hid (show wr.cell? ⟨b, o + j * 5 + 2, none⟩ = some (.int .i64 gk) from x2)
      have X3 := Lib.hid (show wr.cell? ⟨b, o + j * 5 + 3, none⟩ = some (.int .i64 gu) from x3)
      have X4 := Lib.hid (show wr.cell? ⟨b, o + j * 5 + 4, none⟩ = some (.slice pa gl ca) by rw [← hgl]; exact x4)
      have i1 : (0 : Int) ≤ (j : Int) := by omega
      have i2 : (j : Int) < (mn : Int) := by omega
      have HLT := Lib.hid hlt
      have HBW := Lib.hid hbw.out
      have HBL := Lib.hid hbl
      clear x0 x1 x2 x3 x4 hsr hz1 hz2 hz3 hgl hmem hss hlt hc hbl hbw HMR hj
      go_upto_region 11 with (fail)
      obtain ⟨wd, hwd⟩ : ∃ x, wr.drew = x := ⟨_, rfl⟩
      have HBD := Lib.hid (show Below wr.heap.size wr wd by rw [← hwd]; exact (Below.refl _ _).drew)
      refine wp_region_held_drew (S := (fun wx => Hid (Below wr.heap.size wr wx))) (by kernel_rfl) (by rw [hwd]; exact HBD) (fun hHeld => ?_)
      rw [hwd] at hHeld ⊢
      clear hwd
      refine Plan.of [0, 1, 2, 3, 5, 6, 7, 8] ?_
      iterate 8 (refine Plan.w (v := ?_) rfl hHeld (by rfl) ?_ ?_; rotate_left; (focus (intro w hSw; (try dsimp only at hSw); have x0 := cell_latG hSw.out HBL.out X0.out; have x1 := cell_latG hSw.out HBL.out X1.out; have x2 := cell_latG hSw.out HBL.out X2.out; have x3 := cell_latG hSw.out HBL.out X3.out; have x4 := cell_latG hSw.out HBL.out X4.out; go_simp; try with_reducible rfl)); try simp only [Act.put, List.setIfInBounds_toArray, List.set_cons_zero, List.set_cons_succ])
      refine Plan.fin ?_
      refine wpAnyH_ready (rs := [4]) (by kernel_rfl) (by simp) ?_
      refine AllReadyH.cons (o := { dst := some 56, op := Go.Op.call { callee := Go.Callee.value (Go.Operand.func 18), args := #[Go.Operand.tmp 55], argTypes := #[32] }, type := 22, pos := "law.go:67", after := #[{ on := 3, ground := Go.Ground.data }], guard := none }) rfl (fun K hK => ?_) AllReadyH.nil
      go_simp
      refine (records_any gn gt gk gu gd pa gl ca wd (HSR.out.below hHeld.out) HZ2.out).mono ?_; rintro e wx1 ⟨v, rfl, ho, hb⟩
      obtain ⟨va, vc, rfl, hr, -⟩ := rowR_own ho
      have HV1 := Lib.hid hr
      clear ho hr
      go_wp2_with fail
      refine hK.out _ _ (Lib.hid (hHeld.out.trans (hb.mono hHeld.out.size))) (fun hHeld2 => ?_)
      clear hK K hHeld
      have hHeld := hHeld2
      clear hHeld2
      try simp only [Act.put, List.setIfInBounds_toArray, List.set_cons_zero, List.set_cons_succ]
      refine wpAnyH_ready (rs := [9]) (by kernel_rfl) (by simp) ?_
      refine AllReadyH.cons (o := { dst := some 61, op := Go.Op.call { callee := Go.Callee.value (Go.Operand.func 20), args := #[Go.Operand.tmp 60], argTypes := #[32] }, type := 37, pos := "law.go:67", after := #[{ on := 8, ground := Go.Ground.data }, { on := 4, ground := Go.Ground.chain }], guard := none }) rfl (fun K hK => ?_) AllReadyH.nil
      go_simp
      refine (plain_any gn gt gk gu pa gl ca wx1).mono ?_; rintro e wx2 ⟨rfl, hb⟩
      replace HV1 := Lib.hid (HV1.out.below hb)
      go_wp2_with fail
      refine hK.out _ _ (Lib.hid (hHeld.out.trans (hb.mono hHeld.out.size))) (fun hHeld2 => ?_)
      clear hK K hHeld
      have hHeld := hHeld2
      clear hHeld2
      try simp only [Act.put, List.setIfInBounds_toArray, List.set_cons_zero, List.set_cons_succ]
      refine wpAnyH_ready (rs := [10]) (by kernel_rfl) (by simp) ?_
      refine AllReadyH.cons (o := { dst := some 62, op := Go.Op.call { callee := Go.Callee.value (Go.Operand.func 19), args := #[Go.Operand.tmp 61], argTypes := #[37] }, type := 22, pos := "law.go:67", after := #[{ on := 9, ground := Go.Ground.data }, { on := 9, ground := Go.Ground.chain }], guard := none }) rfl (fun K hK => ?_) AllReadyH.nil
      go_simp
      refine (rrecords_any gn gt gk gu gd pa gl ca wx2 (HSR.out.below hHeld.out) HZ2.out).mono ?_; rintro e wx3 ⟨v, rfl, ho, hb⟩
      obtain ⟨ua, uc, rfl, hr, -⟩ := rowR_own ho
      have HV2 := Lib.hid hr
      clear ho hr
      replace HV1 := Lib.hid (HV1.out.below hb)
      go_wp2_with fail
      refine hK.out _ _ (Lib.hid (hHeld.out.trans (hb.mono hHeld.out.size))) (fun hHeld2 => ?_)
      clear hK K hHeld
      have hHeld := hHeld2
      clear hHeld2
      try simp only [Act.put, List.setIfInBounds_toArray, List.set_cons_zero, List.set_cons_succ]
      refine wpAnyH_ready (rs := [11]) (by kernel_rfl) (by simp) ?_
      refine AllReadyH.cons (o := { dst := some 63, op := Go.Op.call { callee := Go.Callee.value (Go.Operand.func 17), args := #[Go.Operand.tmp 56, Go.Operand.tmp 62], argTypes := #[22, 22] }, type := 4, pos := "law.go:67", after := #[{ on := 4, ground := Go.Ground.data }, { on := 10, ground := Go.Ground.data }, { on := 10, ground := Go.Ground.chain }], guard := none }) rfl (fun K hK => ?_) AllReadyH.nil
      go_simp
      refine (rrs_any va ua gl gl vc uc _ _ wx3 HV1.out HV2.out HZ2.out HZ2.out).mono ?_; rintro e wx4 ⟨⟨x, rfl, hx⟩, hb⟩
      obtain rfl : x = true := hx.2 rfl
      clear hx HV1 HV2
      go_wp2_with fail
      refine hK.out _ _ (Lib.hid (hHeld.out.trans (hb.mono hHeld.out.size))) (fun hHeld2 => ?_)
      clear hK K hHeld
      have hHeld := hHeld2
      clear hHeld2
      try simp only [Act.put, List.setIfInBounds_toArray, List.set_cons_zero, List.set_cons_succ]
      refine Plan.of [12, 13, 14, 15, 16, 17, 19, 20, 21, 22] ?_
      iterate 10 (refine Plan.w (v := ?_) rfl hHeld (by rfl) ?_ ?_; rotate_left; (focus (intro w hSw; (try dsimp only at hSw); have x0 := cell_latG hSw.out HBL.out X0.out; have x1 := cell_latG hSw.out HBL.out X1.out; have x2 := cell_latG hSw.out HBL.out X2.out; have x3 := cell_latG hSw.out HBL.out X3.out; have x4 := cell_latG hSw.out HBL.out X4.out; go_simp; try with_reducible rfl)); try simp only [Act.put, List.setIfInBounds_toArray, List.set_cons_zero, List.set_cons_succ])
      refine Plan.fin ?_
      refine wpAnyH_ready (rs := [18]) (by kernel_rfl) (by simp) ?_
      refine AllReadyH.cons (o := { dst := some 70, op := Go.Op.call { callee := Go.Callee.value (Go.Operand.func 21), args := #[Go.Operand.tmp 69], argTypes := #[32] }, type := 4, pos := "law.go:67", after := #[{ on := 17, ground := Go.Ground.data }, { on := 13, ground := Go.Ground.chain }, { on := 13, ground := Go.Ground.guard }], guard := some (13, false) }) rfl (fun K hK => ?_) AllReadyH.nil
      go_simp
      refine (maySet_any gn gt gk gu gd pa gl ca wx4 (HSR.out.below hHeld.out) HZ2.out HZ1.out HZ3.out).mono ?_; rintro e wx5 ⟨⟨x, rfl, hx⟩, hb⟩
      have HXM := Lib.hid hx
      clear hx
      go_wp2_with fail
      refine hK.out _ _ (Lib.hid (hHeld.out.trans (hb.mono hHeld.out.size))) (fun hHeld2 => ?_)
      clear hK K hHeld
      have hHeld := hHeld2
      clear hHeld2
      try simp only [Act.put, List.setIfInBounds_toArray, List.set_cons_zero, List.set_cons_succ]
      refine wpAnyH_ready (rs := [23]) (by kernel_rfl) (by simp) ?_
      refine AllReadyH.cons (o := { dst := some 75, op := Go.Op.call { callee := Go.Callee.value (Go.Operand.func 20), args := #[Go.Operand.tmp 74], argTypes := #[32] }, type := 37, pos := "law.go:67", after := #[{ on := 22, ground := Go.Ground.data }, { on := 18, ground := Go.Ground.chain }, { on := 13, ground := Go.Ground.guard }], guard := some (13, false) }) rfl (fun K hK => ?_) AllReadyH.nil
      go_simp
      refine (plain_any gn gt gk gu pa gl ca wx5).mono ?_; rintro e wx6 ⟨rfl, hb⟩
      go_wp2_with fail
      refine hK.out _ _ (Lib.hid (hHeld.out.trans (hb.mono hHeld.out.size))) (fun hHeld2 => ?_)
      clear hK K hHeld
      have hHeld := hHeld2
      clear hHeld2
      try simp only [Act.put, List.setIfInBounds_toArray, List.set_cons_zero, List.set_cons_succ]
      refine wpAnyH_ready (rs := [24]) (by kernel_rfl) (by simp) ?_
      refine AllReadyH.cons (o := { dst := some 76, op := Go.Op.call { callee := Go.Callee.value (Go.Operand.func 22), args := #[Go.Operand.tmp 75], argTypes := #[37] }, type := 4, pos := "law.go:67", after := #[{ on := 23, ground := Go.Ground.data }, { on := 23, ground := Go.Ground.chain }, { on := 13, ground := Go.Ground.guard }], guard := some (13, false) }) rfl (fun K hK => ?_) AllReadyH.nil
      go_simp
      refine (rmaySet_any gn gt gk gu gd pa gl ca wx6 (HSR.out.below hHeld.out) HZ2.out HZ1.out HZ3.out).mono ?_; rintro e wx7 ⟨⟨y, rfl, hy⟩, hb⟩
      obtain rfl : y = x := bool_iff hy HXM.out
      clear hy
      have hxx : (y != y) = false := by simp
      have hxe : (y == y) = true := by simp
      go_wp2_with fail
      refine hK.out _ _ (Lib.hid (hHeld.out.trans (hb.mono hHeld.out.size))) (fun hHeld2 => ?_)
      clear hK K hHeld
      have hHeld := hHeld2
      clear hHeld2
      try simp only [Act.put, List.setIfInBounds_toArray, List.set_cons_zero, List.set_cons_succ]
      refine Plan.of [25, 26] ?_
      iterate 2 (refine Plan.w (v := ?_) rfl hHeld (by rfl) ?_ ?_; rotate_left; (focus (intro w hSw; (try dsimp only at hSw); have x0 := cell_latG hSw.out HBL.out X0.out; have x1 := cell_latG hSw.out HBL.out X1.out; have x2 := cell_latG hSw.out HBL.out X2.out; have x3 := cell_latG hSw.out HBL.out X3.out; have x4 := cell_latG hSw.out HBL.out X4.out; go_simp; try with_reducible rfl)); try simp only [Act.put, List.setIfInBounds_toArray, List.set_cons_zero, List.set_cons_succ])
      refine Plan.fin ?_
      refine wpAnyH_done (by kernel_rfl) ?_ _
      have HBE := Lib.hid hHeld.out
      clear hHeld
      have HBN := Lib.hid (HBW.out.trans (HBE.out.mono HBW.out.size))
      clear HBE
      go_wp2
      go_roundw
      case rel => exact ⟨j + 1, by have := HLT.out; omega, by have := HLT.out; go_num, HBN⟩
      case measure => have := HLT.out; simp [intOf]; omega
    · obtain rfl : j = mn := by omega
      replace HRL := Lib.hid (HRL.out.below hbw.out)
      replace HMA := Lib.hid (HMA.out.below hbw.out)
      replace HB := Lib.hid (HB.out.trans (hbw.out.mono HB.out.size))
      replace C1 := Lib.hid (C1.out.below hbw.out)
      replace HIN := Lib.hid (HIN.out.below hbw.out)
      replace HRW := Lib.hid (HRW.out.below hbw.out)
      replace C8 := Lib.hid (C8.out.below hbw.out)
      replace C10 := Lib.hid (C10.out.below hbw.out)
      replace HFR := Lib.hid (HFR.out.below hbw.out)
      clear hbw hlt hj
      go_upto_region 13 with (fail)
      obtain ⟨wd, hwd⟩ : ∃ x, wr.drew = x := ⟨_, rfl⟩
      have HBD := Lib.hid (show Below wr.heap.size wr wd by rw [← hwd]; exact (Below.refl _ _).drew)
      have HSD := Lib.hid (show (flatP M).length ≤ 100000 by have h1 := sumD_leG (M := M) (b := 200) (fun s hs => (HSS.out s hs).2.1); have h2 := HML.out; have h3 := HN1.out; rw [flatP_length]; rw [h2] at h1; omega)
      refine wp_region_held_drew (S := (fun wx => Hid (Below wr.heap.size wr wx))) (by kernel_rfl) (by rw [hwd]; exact HBD) (fun hHeld => ?_)
      rw [hwd] at hHeld ⊢
      clear hwd
      refine wpAnyH_ready (rs := [0]) (by kernel_rfl) (by simp) ?_
      refine AllReadyH.cons (o := { dst := some 79, op := Go.Op.call { callee := Go.Callee.value (Go.Operand.func 9), args := #[], argTypes := #[] }, type := 4, pos := "law.go:71", after := #[], guard := none }) rfl (fun K hK => ?_) AllReadyH.nil
      go_simp
      refine (first4 wd).mono ?_; rintro e wx1 ⟨rfl, hb⟩
      go_wp2_with fail
      refine hK.out _ _ (Lib.hid (hHeld.out.trans (hb.mono hHeld.out.size))) (fun hHeld2 => ?_)
      clear hK K hHeld
      have hHeld := hHeld2
      clear hHeld2
      try simp only [Act.put, List.setIfInBounds_toArray, List.set_cons_zero, List.set_cons_succ]
      refine Plan.of [1, 2, 5] ?_
      iterate 3 (refine Plan.w (v := ?_) rfl hHeld (by rfl) ?_ ?_; rotate_left; (focus (intro w hSw; (try dsimp only at hSw); obtain ⟨y0, y1, y2, y3, y4, _⟩ := (C8.out.below hSw.out).u5; obtain ⟨z0, z1, z2, z3, z4, _⟩ := (C10.out.below hSw.out).u5; go_simp; try with_reducible rfl)); try simp only [Act.put, List.setIfInBounds_toArray, List.set_cons_zero, List.set_cons_succ])
      refine Plan.fin ?_
      refine wpAnyH_ready (rs := [3]) (by kernel_rfl) (by simp) ?_
      refine AllReadyH.cons (o := { dst := some 82, op := Go.Op.call { callee := Go.Callee.value (Go.Operand.func 24), args := #[Go.Operand.tmp 81], argTypes := #[22] }, type := 23, pos := "law.go:71", after := #[{ on := 2, ground := Go.Ground.data }, { on := 1, ground := Go.Ground.chain }, { on := 1, ground := Go.Ground.guard }], guard := some (1, true) }) rfl (fun K hK => ?_) AllReadyH.nil
      go_simp
      refine (group_any ia ln ic L wx1 (HIN.out.below hHeld.out) HIN2.out (Nat.le_trans HN4.out (by decide)) (fun r hr => Nat.le_trans (HSM.out r hr).1 (by decide))).mono ?_; rintro e wx2 ⟨ga, gc, S1, rfl, hc1, hsd, hsl, hs1, hb⟩
      have HCA := Lib.hid hc1
      have HSL := Lib.hid (show S1.length ≤ 100000 ∧ ∀ s ∈ S1, s.data.length ≤ 1000000 from ⟨by have := HLL.out; have := HN4.out; omega, fun s hs => by have h1 := data_leG hs; have := HLL.out; have := HN4.out; omega⟩)
      have HG1 := Lib.hid hs1
      clear hc1 hsd hsl hs1
      go_wp2_with fail
      refine hK.out _ _ (Lib.hid (hHeld.out.trans (hb.mono hHeld.out.size))) (fun hHeld2 => ?_)
      clear hK K hHeld
      have hHeld := hHeld2
      clear hHeld2
      try simp only [Act.put, List.setIfInBounds_toArray, List.set_cons_zero, List.set_cons_succ]
      refine wpAnyH_ready (rs := [4]) (by kernel_rfl) (by simp) ?_
      refine AllReadyH.cons (o := { dst := some 83, op := Go.Op.call { callee := Go.Callee.value (Go.Operand.func 15), args := #[Go.Operand.tmp 82], argTypes := #[23] }, type := 40, pos := "law.go:71", after := #[{ on := 3, ground := Go.Ground.data }, { on := 3, ground := Go.Ground.chain }, { on := 1, ground := Go.Ground.guard }], guard := some (1, true) }) rfl (fun K hK => ?_) AllReadyH.nil
      go_simp
      refine (plains_any ga S1.length gc S1 wx2 HG1.out HSL.out.1).mono ?_; rintro e wx3 ⟨⟨pa, pc, rfl, hps⟩, hb⟩
      have HP1 := Lib.hid hps
      clear hps HG1
      go_wp2_with fail
      refine hK.out _ _ (Lib.hid (hHeld.out.trans (hb.mono hHeld.out.size))) (fun hHeld2 => ?_)
      clear hK K hHeld
      have hHeld := hHeld2
      clear hHeld2
      try simp only [Act.put, List.setIfInBounds_toArray, List.set_cons_zero, List.set_cons_succ]
      refine wpAnyH_ready (rs := [6]) (by kernel_rfl) (by simp) ?_
      refine AllReadyH.cons (o := { dst := some 85, op := Go.Op.call { callee := Go.Callee.value (Go.Operand.func 25), args := #[Go.Operand.tmp 84], argTypes := #[22] }, type := 40, pos := "law.go:71", after := #[{ on := 5, ground := Go.Ground.data }, { on := 4, ground := Go.Ground.chain }, { on := 1, ground := Go.Ground.guard }], guard := some (1, true) }) rfl (fun K hK => ?_) AllReadyH.nil
      go_simp
      refine (rgroup_any la ln lc L wx3 (HRL.out.below hHeld.out) (Nat.le_trans HN4.out (by decide)) (fun r hr => Nat.le_trans (HSM.out r hr).1 (by decide))).mono ?_; rintro e wx4 ⟨ha, hc, S2, rfl, hc2, hs2, hb⟩
      obtain rfl : S1 = S2 := canon_same HCA.out hc2
      have HG2 := Lib.hid hs2
      clear hc2 hs2
      replace HP1 := Lib.hid (HP1.out.below hb)
      go_wp2_with fail
      refine hK.out _ _ (Lib.hid (hHeld.out.trans (hb.mono hHeld.out.size))) (fun hHeld2 => ?_)
      clear hK K hHeld
      have hHeld := hHeld2
      clear hHeld2
      try simp only [Act.put, List.setIfInBounds_toArray, List.set_cons_zero, List.set_cons_succ]
      refine wpAnyH_ready (rs := [7]) (by kernel_rfl) (by simp) ?_
      refine AllReadyH.cons (o := { dst := some 86, op := Go.Op.call { callee := Go.Callee.value (Go.Operand.func 23), args := #[Go.Operand.tmp 83, Go.Operand.tmp 85], argTypes := #[40, 40] }, type := 4, pos := "law.go:71", after := #[{ on := 4, ground := Go.Ground.data }, { on := 6, ground := Go.Ground.data }, { on := 6, ground := Go.Ground.chain }, { on := 1, ground := Go.Ground.guard }], guard := some (1, true) }) rfl (fun K hK => ?_) AllReadyH.nil
      go_simp
      refine (sameSets_any pa ha S1.length S1.length pc hc S1 S1 wx4 HP1.out HG2.out HSL.out.1 HSL.out.1 HSL.out.2).mono ?_; rintro e wx5 ⟨⟨x, rfl, hx⟩, hb⟩
      obtain rfl : x = true := hx.2 rfl
      clear hx HP1 HG2
      go_wp2_with fail
      refine hK.out _ _ (Lib.hid (hHeld.out.trans (hb.mono hHeld.out.size))) (fun hHeld2 => ?_)
      clear hK K hHeld
      have hHeld := hHeld2
      clear hHeld2
      try simp only [Act.put, List.setIfInBounds_toArray, List.set_cons_zero, List.set_cons_succ]
      refine Plan.of [8, 9, 10, 12] ?_
      iterate 4 (refine Plan.w (v := ?_) rfl hHeld (by rfl) ?_ ?_; rotate_left; (focus (intro w hSw; (try dsimp only at hSw); obtain ⟨y0, y1, y2, y3, y4, _⟩ := (C8.out.below hSw.out).u5; obtain ⟨z0, z1, z2, z3, z4, _⟩ := (C10.out.below hSw.out).u5; go_simp; try with_reducible rfl)); try simp only [Act.put, List.setIfInBounds_toArray, List.set_cons_zero, List.set_cons_succ])
      refine Plan.fin ?_
      refine wpAnyH_ready (rs := [11]) (by kernel_rfl) (by simp) ?_
      refine AllReadyH.cons (o := { dst := some 90, op := Go.Op.call { callee := Go.Callee.value (Go.Operand.func 26), args := #[Go.Operand.tmp 89], argTypes := #[23] }, type := 22, pos := "law.go:71", after := #[{ on := 10, ground := Go.Ground.data }, { on := 9, ground := Go.Ground.chain }, { on := 9, ground := Go.Ground.guard }], guard := some (9, true) }) rfl (fun K hK => ?_) AllReadyH.nil
      go_simp
      refine (flat_any ma j mc M wx5 (HMA.out.below hHeld.out) (Nat.le_trans HN1.out (by decide)) HSD.out).mono ?_; rintro e wx6 ⟨v, rfl, ho, hb⟩
      obtain ⟨va, vc, rfl, hr, -⟩ := rowR_own ho
      have HF1 := Lib.hid hr
      clear ho hr
      go_wp2_with fail
      refine hK.out _ _ (Lib.hid (hHeld.out.trans (hb.mono hHeld.out.size))) (fun hHeld2 => ?_)
      clear hK K hHeld
      have hHeld := hHeld2
      clear hHeld2
      try simp only [Act.put, List.setIfInBounds_toArray, List.set_cons_zero, List.set_cons_succ]
      refine wpAnyH_ready (rs := [13]) (by kernel_rfl) (by simp) ?_
      refine AllReadyH.cons (o := { dst := some 92, op := Go.Op.call { callee := Go.Callee.value (Go.Operand.func 15), args := #[Go.Operand.tmp 91], argTypes := #[23] }, type := 40, pos := "law.go:71", after := #[{ on := 12, ground := Go.Ground.data }, { on := 11, ground := Go.Ground.chain }, { on := 9, ground := Go.Ground.guard }], guard := some (9, true) }) rfl (fun K hK => ?_) AllReadyH.nil
      go_simp
      refine (plains_any ma j mc M wx6 (HMA.out.below hHeld.out) (Nat.le_trans HN1.out (by decide))).mono ?_; rintro e wx7 ⟨⟨qa, qc, rfl, hps⟩, hb⟩
      have HP2 := Lib.hid hps
      clear hps
      replace HF1 := Lib.hid (HF1.out.below hb)
      go_wp2_with fail
      refine hK.out _ _ (Lib.hid (hHeld.out.trans (hb.mono hHeld.out.size))) (fun hHeld2 => ?_)
      clear hK K hHeld
      have hHeld := hHeld2
      clear hHeld2
      try simp only [Act.put, List.setIfInBounds_toArray, List.set_cons_zero, List.set_cons_succ]
      refine wpAnyH_ready (rs := [14]) (by kernel_rfl) (by simp) ?_
      refine AllReadyH.cons (o := { dst := some 93, op := Go.Op.call { callee := Go.Callee.value (Go.Operand.func 27), args := #[Go.Operand.tmp 92], argTypes := #[40] }, type := 22, pos := "law.go:71", after := #[{ on := 13, ground := Go.Ground.data }, { on := 13, ground := Go.Ground.chain }, { on := 9, ground := Go.Ground.guard }], guard := some (9, true) }) rfl (fun K hK => ?_) AllReadyH.nil
      go_simp
      refine (rflat_any qa j qc M wx7 HP2.out (Nat.le_trans HN1.out (by decide)) HSD.out).mono ?_; rintro e wx8 ⟨v, rfl, ho, hb⟩
      obtain ⟨ua, uc, rfl, hr, -⟩ := rowR_own ho
      have HF2 := Lib.hid hr
      clear ho hr
      replace HF1 := Lib.hid (HF1.out.below hb)
      replace HP2 := Lib.hid (HP2.out.below hb)
      go_wp2_with fail
      refine hK.out _ _ (Lib.hid (hHeld.out.trans (hb.mono hHeld.out.size))) (fun hHeld2 => ?_)
      clear hK K hHeld
      have hHeld := hHeld2
      clear hHeld2
      try simp only [Act.put, List.setIfInBounds_toArray, List.set_cons_zero, List.set_cons_succ]
      refine wpAnyH_ready (rs := [15]) (by kernel_rfl) (by simp) ?_
      refine AllReadyH.cons (o := { dst := some 94, op := Go.Op.call { callee := Go.Callee.value (Go.Operand.func 17), args := #[Go.Operand.tmp 90, Go.Operand.tmp 93], argTypes := #[22, 22] }, type := 4, pos := "law.go:71", after := #[{ on := 11, ground := Go.Ground.data }, { on := 14, ground := Go.Ground.data }, { on := 14, ground := Go.Ground.chain }, { on := 9, ground := Go.Ground.guard }], guard := some (9, true) }) rfl (fun K hK => ?_) AllReadyH.nil
      go_simp
      refine (rrs_any va ua _ _ vc uc _ _ wx8 HF1.out HF2.out HSD.out HSD.out).mono ?_; rintro e wx9 ⟨⟨x, rfl, hx⟩, hb⟩
      obtain rfl : x = true := hx.2 rfl
      clear hx HF1 HF2
      go_wp2_with fail
      refine hK.out _ _ (Lib.hid (hHeld.out.trans (hb.mono hHeld.out.size))) (fun hHeld2 => ?_)
      clear hK K hHeld
      have hHeld := hHeld2
      clear hHeld2
      try simp only [Act.put, List.setIfInBounds_toArray, List.set_cons_zero, List.set_cons_succ]
      refine Plan.of [16, 17, 18, 20] ?_
      iterate 4 (refine Plan.w (v := ?_) rfl hHeld (by rfl) ?_ ?_; rotate_left; (focus (intro w hSw; (try dsimp only at hSw); obtain ⟨y0, y1, y2, y3, y4, _⟩ := (C8.out.below hSw.out).u5; obtain ⟨z0, z1, z2, z3, z4, _⟩ := (C10.out.below hSw.out).u5; go_simp; try with_reducible rfl)); try simp only [Act.put, List.setIfInBounds_toArray, List.set_cons_zero, List.set_cons_succ])
      refine Plan.fin ?_
      refine wpAnyH_ready (rs := [19]) (by kernel_rfl) (by simp) ?_
      refine AllReadyH.cons (o := { dst := some 98, op := Go.Op.call { callee := Go.Callee.value (Go.Operand.func 20), args := #[Go.Operand.tmp 97], argTypes := #[32] }, type := 37, pos := "law.go:71", after := #[{ on := 18, ground := Go.Ground.data }, { on := 17, ground := Go.Ground.chain }, { on := 17, ground := Go.Ground.guard }], guard := some (17, true) }) rfl (fun K hK => ?_) AllReadyH.nil
      go_simp
      refine (plain_any sn st sk su da dl dc wx9).mono ?_; rintro e wx10 ⟨rfl, hb⟩
      go_wp2_with fail
      refine hK.out _ _ (Lib.hid (hHeld.out.trans (hb.mono hHeld.out.size))) (fun hHeld2 => ?_)
      clear hK K hHeld
      have hHeld := hHeld2
      clear hHeld2
      try simp only [Act.put, List.setIfInBounds_toArray, List.set_cons_zero, List.set_cons_succ]
      refine wpAnyH_ready (rs := [21]) (by kernel_rfl) (by simp) ?_
      refine AllReadyH.cons (o := { dst := some 100, op := Go.Op.call { callee := Go.Callee.value (Go.Operand.func 28), args := #[Go.Operand.tmp 98, Go.Operand.tmp 99], argTypes := #[37, 37] }, type := 4, pos := "law.go:71", after := #[{ on := 19, ground := Go.Ground.data }, { on := 20, ground := Go.Ground.data }, { on := 19, ground := Go.Ground.chain }, { on := 17, ground := Go.Ground.guard }], guard := some (17, true) }) rfl (fun K hK => ?_) AllReadyH.nil
      go_simp
      refine (rsame_at2 sn st sk su sd sn st sk su sd da fp dl dl dc fc wx10 (HRW.out.below hHeld.out) (HFR.out.below hHeld.out) (Nat.le_trans HDD.out (by decide))).mono ?_; rintro e wx11 ⟨rfl, hb⟩
      rw [sameP_self]
      have hff : (fb == fb) = true := by simp
      go_wp2_with fail
      refine hK.out _ _ (Lib.hid (hHeld.out.trans (hb.mono hHeld.out.size))) (fun hHeld2 => ?_)
      clear hK K hHeld
      have hHeld := hHeld2
      clear hHeld2
      try simp only [Act.put, List.setIfInBounds_toArray, List.set_cons_zero, List.set_cons_succ]
      refine Plan.of [22, 23, 24, 25, 26, 27, 28, 29, 30] ?_
      iterate 9 (refine Plan.w (v := ?_) rfl hHeld (by rfl) ?_ ?_; rotate_left; (focus (intro w hSw; (try dsimp only at hSw); obtain ⟨y0, y1, y2, y3, y4, _⟩ := (C8.out.below hSw.out).u5; obtain ⟨z0, z1, z2, z3, z4, _⟩ := (C10.out.below hSw.out).u5; go_simp; try with_reducible rfl)); try simp only [Act.put, List.setIfInBounds_toArray, List.set_cons_zero, List.set_cons_succ])
      refine Plan.fin ?_
      refine wpAnyH_ready (rs := [31]) (by kernel_rfl) (by simp) ?_
      refine AllReadyH.cons (o := { dst := some 110, op := Go.Op.call { callee := Go.Callee.value (Go.Operand.func 17), args := #[Go.Operand.tmp 108, Go.Operand.tmp 109], argTypes := #[22, 22] }, type := 4, pos := "law.go:71", after := #[{ on := 29, ground := Go.Ground.data }, { on := 30, ground := Go.Ground.data }, { on := 28, ground := Go.Ground.chain }, { on := 28, ground := Go.Ground.guard }], guard := some (28, true) }) rfl (fun K hK => ?_) AllReadyH.nil
      go_simp
      refine (rrs_any ia la ln ln ic lc L L wx11 (HIN.out.below hHeld.out) (HRL.out.below hHeld.out) (Nat.le_trans HN4.out (by decide)) (Nat.le_trans HN4.out (by decide))).mono ?_; rintro e wx12 ⟨⟨x, rfl, hx⟩, hb⟩
      obtain rfl : x = true := hx.2 rfl
      clear hx
      go_wp2_with fail
      refine hK.out _ _ (Lib.hid (hHeld.out.trans (hb.mono hHeld.out.size))) (fun hHeld2 => ?_)
      clear hK K hHeld
      have hHeld := hHeld2
      clear hHeld2
      try simp only [Act.put, List.setIfInBounds_toArray, List.set_cons_zero, List.set_cons_succ]
      refine Plan.of [32, 33] ?_
      iterate 2 (refine Plan.w (v := ?_) rfl hHeld (by rfl) ?_ ?_; rotate_left; (focus (intro w hSw; (try dsimp only at hSw); obtain ⟨y0, y1, y2, y3, y4, _⟩ := (C8.out.below hSw.out).u5; obtain ⟨z0, z1, z2, z3, z4, _⟩ := (C10.out.below hSw.out).u5; go_simp; try with_reducible rfl)); try simp only [Act.put, List.setIfInBounds_toArray, List.set_cons_zero, List.set_cons_succ])
      refine Plan.fin ?_
      refine wpAnyH_done (by kernel_rfl) ?_ _
      have HBE := Lib.hid (HB.out.trans (hHeld.out.mono HB.out.size))
      clear hHeld
      go_wp2
      go_ret
      exact ⟨rfl, HBE.out⟩
end Go.Proofs.Ytfopfplpfhncfaa
