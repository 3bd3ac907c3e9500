/- The statement's writes: contract (written by mkdky.py). -/
import Derived.Test.YtocfphijheidbaaDkX
namespace Go.Proofs.Ytocfphijheidbaa
open Go.RowKit

set_option maxRecDepth 100000 in
set_option maxHeartbeats 4000000 in
theorem writes_law (w0 : World) (q : Nat) (a : Option Addr) (n cp : Nat) (A : List OpP) (bs : List Nat) (s : DkP) (w : World) (h1 : One w0 w q bs s) (hA : RowOp w0 a n A) (hn : n ≤ 150) (hs : sumB A n ≤ 30000) (N : Nat) (D0 : Nat → List UInt8) (hi : WInv N D0 A 0 s) (hp : s.P.length ≤ 300) (hw : s.wr ≤ 1000) :
    Calls Try.prog 26 #[.pointer (some ⟨q, 0, none⟩), .slice a n cp] w fun e w' => e = .returned (.tuple #[]) ∧ ∃ cs, One w0 w' q cs (writesP s A n) ∧ (∀ g ∈ cs, g ∈ bs ∨ w.heap.size ≤ g) ∧ Frm w w' bs := by
  have HA := Lib.hid hA
  have H1 := Lib.hid h1
  have HINV := Lib.hid (writes_inv hi hp n hn hs)
  have HSB := Lib.hid (show ∀ i, i < n → (A.getD i opD).b.length + sumB A i ≤ 30000 from fun i h => Nat.le_trans (sumB_le A i n h) hs)
  have HPW := Lib.hid (show s.P.length ≤ 300 ∧ s.wr ≤ 1000 ∧ n ≤ 150 from ⟨hp, hw, hn⟩)
  clear hA h1 hi hp hw hs hn
  go_enter Try.func26, Try.ntmps26
  go_wp2_with fail
  go_loopw [4] (fun i wr => ∃ (k : Nat) (c : List Nat), k ≤ n ∧ i = .int .i64 k ∧ Hid (One w0 wr q c (writesP s A k) ∧ (∀ g ∈ c, g ∈ bs ∨ w.heap.size ≤ g) ∧ Frm w wr bs)) (fun i _ => n - (intOf i).toNat)
  case atStart => exact ⟨0, bs, Nat.zero_le _, rfl, Lib.hid ⟨H1.out, fun g hg => Or.inl hg, Frm.refl _ _⟩⟩
  case round =>
    obtain ⟨k, c, hk, rfl, HH⟩ := hrel
    have hn150 := HPW.out.2.2
    by_cases hlt : k < n
    · have dd : decide ((k : Int) < (n : Int)) = true := dT (by omega)
      have d0 : decide (k < n) = true := dT hlt
      have HO := Lib.hid HH.out.1
      have HC := Lib.hid HH.out.2.1
      have HF := Lib.hid HH.out.2.2
      have HLT := Lib.hid hlt
      obtain ⟨o, ho⟩ : ∃ z, A.getD k opD = z := ⟨_, rfl⟩
      have HOE := Lib.hid ho
      have hbl2 : ∀ b off, a = some ⟨b, off, none⟩ → n = 0 ∨ b < w0.heap.size := fun b off e => by
        rcases HA.out.2 with h0 | ⟨b', off', e', hl, _⟩
        · exact Or.inl h0
        · rw [e] at e'
          injection e' with e'
          injection e' with e1 _
          rw [e1]; exact Or.inr hl
      obtain ⟨b, off, rfl, ai, ci, c0, c1, -, c3, hv, hbm, hkm⟩ := (HA.out.below HO.out.bel).at k hlt
      have HNB := Lib.hid (show b ∉ c from fun e => by have := HO.out.g b e; rcases hbl2 b off rfl with h | h <;> omega)
      rw [ho] at c0 c1 c3 hv hbm hkm
      have HSZ := Lib.hid (show o.b.length + sumB A k ≤ 30000 ∧ s.P.length ≤ 300 ∧ s.wr ≤ 1000 ∧ k ≤ 150 from by have h2 := HSB.out k hlt; rw [ho] at h2; have := HPW.out; exact ⟨h2, this.1, this.2.1, by omega⟩)
      have HI := Lib.hid (HINV.out k hk)
      have HKM := Lib.hid hkm
      obtain ⟨kz, hkz⟩ : ∃ z, o.k = z := ⟨_, rfl⟩
      obtain ⟨ob, hob⟩ : ∃ z, o.b = z := ⟨_, rfl⟩
      obtain ⟨kd, hkd⟩ : ∃ z, o.kind = z := ⟨_, rfl⟩
      rw [hkd] at c0
      rw [hkz] at c1 HKM
      rw [hob] at c3 hv hbm HSZ
      obtain ⟨bl, hbl⟩ : ∃ z, ob.length = z := ⟨_, rfl⟩
      rw [hbl] at c3 hv hbm HSZ
      have HV := Lib.hid hv
      have HBL := Lib.hid hbl
      have i1 : (0 : Int) ≤ (k : Int) := by omega
      have i2 : (k : Int) < (n : Int) := by omega
      clear hbl2 hv hbm hkm ho hbl hk HH
      by_cases h1 : kd = 1
      · have HKD := Lib.hid (show o.kind = 1 from hkd.trans h1)
        have HKO := Lib.hid (show o.k = kz ∧ o.b = ob from ⟨hkz, hob⟩)
        subst h1
        clear hkd hkz hob
        go_upto_region 4 with (fail)
        refine wp_region_held_drew (S := (fun wx => wx.cell? ⟨b, off + k * 4 + 1, none⟩ = some (.int .i64 kz) ∧ wx.cell? ⟨b, off + k * 4 + 3, none⟩ = some (.slice ai bl ci))) (by kernel_rfl) (⟨c1, c3⟩) (fun hHeld => ?_)
        have hb := (Below.refl wr.heap.size wr).drew
        replace HO := Lib.hid (HO.out.below hb)
        replace HF := Lib.hid (HF.out.below hb HF.out.size)
        replace HV := Lib.hid (HV.out.below hb)
        obtain ⟨wd, hwd⟩ : ∃ x, wr.drew = x := ⟨_, rfl⟩
        rw [hwd] at HO HF HV hHeld ⊢
        clear hwd hb c1 c3
        refine wpAnyH_take (i := 0) (oi := { dst := some 17, op := Go.Op.move (Go.Operand.tmp 0), type := 39, pos := "law.go:180", after := #[], guard := none }) (v := ?v0_230101) rfl (by kernel_rfl) (by kernel_rfl) (by kernel_rfl) (fun _ _ _ h => h) (Or.inl ⟨by rfl, ?y0_230101⟩) hHeld ?r0_230101
        case y0_230101 => intro w hSw; (try dsimp only at hSw); go_simp; try with_reducible rfl
        try simp only [Act.put, List.setIfInBounds_toArray, List.set_cons_zero, List.set_cons_succ]
        refine wpAnyH_take (i := 1) (oi := { dst := some 18, op := Go.Op.move (Go.Operand.tmp 1), type := 37, pos := "law.go:180", after := #[], guard := none }) (v := ?v1_230101) rfl (by kernel_rfl) (by kernel_rfl) (by kernel_rfl) (fun _ _ _ h => h) (Or.inl ⟨by rfl, ?y1_230101⟩) hHeld ?r1_230101
        case y1_230101 => intro w hSw; (try dsimp only at hSw); go_simp; try with_reducible rfl
        try simp only [Act.put, List.setIfInBounds_toArray, List.set_cons_zero, List.set_cons_succ]
        refine wpAnyH_take (i := 2) (oi := { dst := some 19, op := Go.Op.move (Go.Operand.tmp 4), type := 3, pos := "law.go:180", after := #[], guard := none }) (v := ?v2_230101) rfl (by kernel_rfl) (by kernel_rfl) (by kernel_rfl) (fun _ _ _ h => h) (Or.inl ⟨by rfl, ?y2_230101⟩) hHeld ?r2_230101
        case y2_230101 => intro w hSw; (try dsimp only at hSw); go_simp; try with_reducible rfl
        try simp only [Act.put, List.setIfInBounds_toArray, List.set_cons_zero, List.set_cons_succ]
        refine wpAnyH_take (i := 3) (oi := { dst := some 20, op := Go.Op.indexAddr 37 (Go.Operand.tmp 18) (Go.Operand.tmp 19), type := 0, pos := "law.go:180", after := #[{ on := 1, ground := Go.Ground.data }, { on := 2, ground := Go.Ground.data }], guard := none }) (v := ?v3_230101) rfl (by kernel_rfl) (by kernel_rfl) (by kernel_rfl) (fun _ _ _ h => h) (Or.inl ⟨by rfl, ?y3_230101⟩) hHeld ?r3_230101
        case y3_230101 => intro w hSw; (try dsimp only at hSw); go_simp; try with_reducible rfl
        try simp only [Act.put, List.setIfInBounds_toArray, List.set_cons_zero, List.set_cons_succ]
        refine wpAnyH_take (i := 4) (oi := { dst := some 21, op := Go.Op.fieldAddr 49 (Go.Operand.tmp 20) 1, type := 0, pos := "law.go:180", after := #[{ on := 3, ground := Go.Ground.data }], guard := none }) (v := ?v4_230101) rfl (by kernel_rfl) (by kernel_rfl) (by kernel_rfl) (fun _ _ _ h => h) (Or.inl ⟨by rfl, ?y4_230101⟩) hHeld ?r4_230101
        case y4_230101 => intro w hSw; (try dsimp only at hSw); go_simp; try with_reducible rfl
        try simp only [Act.put, List.setIfInBounds_toArray, List.set_cons_zero, List.set_cons_succ]
        refine wpAnyH_take (i := 5) (oi := { dst := some 22, op := Go.Op.load 3 (Go.Operand.tmp 21), type := 3, pos := "law.go:180", after := #[{ on := 4, ground := Go.Ground.data }], guard := none }) (v := ?v5_230101) rfl (by kernel_rfl) (by kernel_rfl) (by kernel_rfl) (fun _ _ _ h => h) (Or.inl ⟨by rfl, ?y5_230101⟩) hHeld ?r5_230101
        case y5_230101 => intro w hSw; (try dsimp only at hSw); obtain ⟨s1, s3⟩ := hSw; go_simp; try with_reducible rfl
        try simp only [Act.put, List.setIfInBounds_toArray, List.set_cons_zero, List.set_cons_succ]
        refine wpAnyH_take (i := 6) (oi := { dst := some 23, op := Go.Op.move (Go.Operand.tmp 1), type := 37, pos := "law.go:180", after := #[], guard := none }) (v := ?v6_230101) rfl (by kernel_rfl) (by kernel_rfl) (by kernel_rfl) (fun _ _ _ h => h) (Or.inl ⟨by rfl, ?y6_230101⟩) hHeld ?r6_230101
        case y6_230101 => intro w hSw; (try dsimp only at hSw); go_simp; try with_reducible rfl
        try simp only [Act.put, List.setIfInBounds_toArray, List.set_cons_zero, List.set_cons_succ]
        refine wpAnyH_take (i := 7) (oi := { dst := some 24, op := Go.Op.move (Go.Operand.tmp 4), type := 3, pos := "law.go:180", after := #[], guard := none }) (v := ?v7_230101) rfl (by kernel_rfl) (by kernel_rfl) (by kernel_rfl) (fun _ _ _ h => h) (Or.inl ⟨by rfl, ?y7_230101⟩) hHeld ?r7_230101
        case y7_230101 => intro w hSw; (try dsimp only at hSw); go_simp; try with_reducible rfl
        try simp only [Act.put, List.setIfInBounds_toArray, List.set_cons_zero, List.set_cons_succ]
        refine wpAnyH_take (i := 8) (oi := { dst := some 25, op := Go.Op.indexAddr 37 (Go.Operand.tmp 23) (Go.Operand.tmp 24), type := 0, pos := "law.go:180", after := #[{ on := 6, ground := Go.Ground.data }, { on := 7, ground := Go.Ground.data }], guard := none }) (v := ?v8_230101) rfl (by kernel_rfl) (by kernel_rfl) (by kernel_rfl) (fun _ _ _ h => h) (Or.inl ⟨by rfl, ?y8_230101⟩) hHeld ?r8_230101
        case y8_230101 => intro w hSw; (try dsimp only at hSw); go_simp; try with_reducible rfl
        try simp only [Act.put, List.setIfInBounds_toArray, List.set_cons_zero, List.set_cons_succ]
        refine wpAnyH_take (i := 9) (oi := { dst := some 26, op := Go.Op.fieldAddr 49 (Go.Operand.tmp 25) 3, type := 0, pos := "law.go:180", after := #[{ on := 8, ground := Go.Ground.data }], guard := none }) (v := ?v9_230101) rfl (by kernel_rfl) (by kernel_rfl) (by kernel_rfl) (fun _ _ _ h => h) (Or.inl ⟨by rfl, ?y9_230101⟩) hHeld ?r9_230101
        case y9_230101 => intro w hSw; (try dsimp only at hSw); go_simp; try with_reducible rfl
        try simp only [Act.put, List.setIfInBounds_toArray, List.set_cons_zero, List.set_cons_succ]
        refine wpAnyH_take (i := 10) (oi := { dst := some 27, op := Go.Op.load 25 (Go.Operand.tmp 26), type := 25, pos := "law.go:180", after := #[{ on := 9, ground := Go.Ground.data }], guard := none }) (v := ?v10_230101) rfl (by kernel_rfl) (by kernel_rfl) (by kernel_rfl) (fun _ _ _ h => h) (Or.inl ⟨by rfl, ?y10_230101⟩) hHeld ?r10_230101
        case y10_230101 => intro w hSw; (try dsimp only at hSw); obtain ⟨s1, s3⟩ := hSw; go_simp; try with_reducible rfl
        try simp only [Act.put, List.setIfInBounds_toArray, List.set_cons_zero, List.set_cons_succ]
        refine wpAnyH_ready (rs := [11]) (by kernel_rfl) (by simp) ?_
        refine AllReadyH.cons (o := { dst := some 28, op := Go.Op.buildSlice 22 1 #[(0, Go.Operand.tmp 27)], type := 22, pos := "law.go:180", after := #[{ on := 10, ground := Go.Ground.data }], guard := none }) rfl (fun K hK => ?_) AllReadyH.nil
        go_simp
        have hba := (Below.refl wd.heap.size wd).alloc (Nat.le_refl _) (.cells #[.slice ai bl ci] 25)
        have hnext := And.intro (cell_later hba hHeld.1) (cell_later hba hHeld.2)
        have HL := Lib.hid (LitOne.new (u := .slice ai bl ci) (c1 := c) HO.out.dk.lt 25)
        replace HO := Lib.hid (HO.out.below hba)
        replace HF := Lib.hid (HF.out.below hba HF.out.size)
        replace HV := Lib.hid (HV.out.below hba)
        obtain ⟨we, hwe⟩ : ∃ x, wd.alloc (.cells #[.slice ai bl ci] 25) = x := ⟨_, rfl⟩
        obtain ⟨g, hg⟩ : ∃ x, wd.heap.size = x := ⟨_, rfl⟩
        rw [hwe] at HO HF HV HL hnext ⊢
        rw [hg] at HL ⊢
        clear hwe hg hba
        refine hK.out _ _ (hnext) (fun hHeld2 => ?_)
        clear hK K hHeld
        have hHeld := hHeld2
        clear hHeld2
        try simp only [Act.put, List.setIfInBounds_toArray, List.set_cons_zero, List.set_cons_succ]
        refine wpAnyH_ready (rs := [12]) (by kernel_rfl) (by simp) ?_
        refine AllReadyH.cons (o := { dst := some 29, op := Go.Op.call { callee := Go.Callee.value (Go.Operand.func 35), args := #[Go.Operand.tmp 17, Go.Operand.tmp 22, Go.Operand.tmp 28], argTypes := #[39, 3, 22] }, type := 40, pos := "law.go:180", after := #[{ on := 0, ground := Go.Ground.data }, { on := 5, ground := Go.Ground.data }, { on := 11, ground := Go.Ground.data }], guard := none }) rfl (fun K hK => ?_) AllReadyH.nil
        go_simp
        refine (write_up q kz (some ⟨g, 0, none⟩) 1 1 [ob] c _ we HO.out.dk HI.out.1.up (HL.out.row HV.out) (by decide) (by rw [flat1, HBL.out]; have := HSZ.out; omega) (by have := HI.out.2.1; have := HSZ.out; omega) (by rw [HI.out.1.mkl]; exact Nat.zero_le _) (by have := HI.out.2.2; have := HSZ.out; omega) (by rw [HI.out.1.fl]; decide) HKM.out).mono ?_; rintro e wf ⟨rfl, ⟨c2, hs2, hc2⟩, hf2⟩
        rw [flat1] at hs2 ⊢
        have hnext := And.intro (hf2.cell hHeld.1 HNB.out) (hf2.cell hHeld.2 HNB.out)
        have HO2 := Lib.hid (HO.out.put hs2 hc2 hf2)
        have HF2 := Lib.hid (HF.out.trans hf2 HC.out)
        have HC2 := Lib.hid (show ∀ x ∈ c2, x ∈ bs ∨ w.heap.size ≤ x from fun x hx => (hc2 x hx).elim (HC.out x) (fun h => Or.inr (Nat.le_trans HF.out.size h)))
        clear hs2 hc2 hf2 HO HF HC
        refine hK.out _ _ (hnext) (fun hHeld2 => ?_)
        clear hK K hHeld
        have hHeld := hHeld2
        clear hHeld2
        try simp only [Act.put, List.setIfInBounds_toArray, List.set_cons_zero, List.set_cons_succ]
        refine wpAnyH_done (by kernel_rfl) ?_ _
        clear hHeld
        go_wp2
        go_roundw
        case rel => exact ⟨k + 1, c2, HLT.out, by go_num, Lib.hid ⟨by rw [writesP, HOE.out, stepW, if_pos HKD.out, HKO.out.1, HKO.out.2]; exact HO2.out, HC2.out, HF2.out⟩⟩
        case measure =>
          simp only [intOf]
          have := HLT.out
          omega
      · have hne : (kd == 1) = false := eF h1
        have HKD := Lib.hid (show ¬ o.kind = 1 from fun e => h1 (hkd.symm.trans e))
        clear hkd hkz hob h1
        go_wp2
        go_roundw
        case rel => exact ⟨k + 1, c, HLT.out, by go_num, Lib.hid ⟨by rw [writesP, HOE.out, stepW, if_neg HKD.out]; exact HO.out, HC.out, HF.out⟩⟩
        case measure =>
          simp only [intOf]
          have := HLT.out
          omega
    · have dd : decide ((k : Int) < (n : Int)) = false := dF (by omega)
      have d0 : decide (k < n) = false := dF hlt
      obtain rfl : k = n := by omega
      clear hlt
      go_wp2
      refine bodyPost_end (v := .tuple #[]) (by simp [results, Try.results26, go_sem]) rfl ⟨rfl, c, HH.out.1, HH.out.2.1, HH.out.2.2⟩
end Go.Proofs.Ytocfphijheidbaa
