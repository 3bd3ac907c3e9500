/- The writer's data. -/
import Derived.Test.YtgppkpdjpcegbaaWdP
import Derived.Test.YtgppkpdjpcegbaaLsu
namespace Go.Proofs.Ytgppkpdjpcegbaa
open Go.RowKit
open Go.Maps

theorem datR_le {k : Int} {d : ByteArray} (h : d.size ≤ 1000) : (datR k d).size ≤ 1000 := by
  unfold datR
  split
  · rw [extract_size _ _ _ (Nat.le_refl _)]; omega
  · exact h
theorem datX_le {X : List UInt8} {k : Int} {d : ByteArray} (h15 : k = 15 → 2 ≤ d.size) : (datX X k d).length ≤ X.length + 2 := by
  unfold datX
  split
  · rename_i h
    have := h15 h
    rw [List.length_append, size_data, extract_size _ _ _ (by omega)]; omega
  · omega
theorem ty_kp {w w' : World} {a : Option Addr} {n : Nat} (h : n = 0 ∨ ∃ b, a = some ⟨b, 0, none⟩ ∧ TB w b 9) (hk : Kp w w') : n = 0 ∨ ∃ b, a = some ⟨b, 0, none⟩ ∧ TB w' b 9 := by
  rcases h with h | ⟨b, h1, h2⟩
  · exact Or.inl h
  · obtain ⟨c, h3⟩ := h2
    exact Or.inr ⟨b, h1, c, (hk.tb ⟨c, h3⟩ (by decide) (by decide)).trans h3⟩
theorem row_kp {w w' : World} {a : Option Addr} {n : Nat} {l : List ByteArray} (h : RowS w a n l) (ht : n = 0 ∨ ∃ b, a = some ⟨b, 0, none⟩ ∧ TB w b 9) (hk : Kp w w') : RowS w' a n l := by
  obtain ⟨h1, h2⟩ := h
  refine ⟨h1, ?_⟩
  rcases h2 with h2 | ⟨b, o, h2, h3, h4⟩
  · exact Or.inl h2
  rcases ht with ht | ⟨b', e, ht⟩
  · exact Or.inl ht
  rw [h2] at e
  injection e with e
  injection e with e1 e2
  subst e1
  have hb := hk.tb ht (by decide) (by decide)
  have hl : b < w'.heap.size := by
    obtain ⟨c, h5⟩ := ht
    rw [h5] at hb
    exact (Array.getElem?_eq_some_iff.1 hb).1
  exact Or.inr ⟨b, o, h2, hl, fun j hj => (World.cell?_of_block (a := ⟨b, o + j, none⟩) hb).trans (h4 j hj)⟩
theorem bs_data (s : ByteArray) : bs s.data.toList = s := by
  apply ba_eq; simp [bs]
set_option maxRecDepth 100000 in
set_option maxHeartbeats 8000000 in
theorem data_any (q mb B : Nat) (k : Int) (d : ByteArray) (f : Pls) (X : List UInt8) (w : World) (hd : d.size ≤ 1000) (hk : mayD k d = true ∨ k = 41) (h15 : k = 15 → 2 ≤ d.size) (hs : WrS w B q mb f X) (hB : B ≤ q) (hBm : B ≤ mb) (hqm : q ≠ mb) (hm : X.length + 3000 ≤ 1000000) :
    Calls Try.prog 60 #[.pointer (some ⟨q, 0, none⟩), .int .i64 k, .string d] w fun e w' => e = .returned (.tuple #[]) ∧ WrN w B q mb (wDat f X k d).2 (wDat f X k d).1 w' := by
  obtain ⟨i0, hi, hz0, hz1, hz2⟩ := info_parts infoU8
  have HI := Lib.hid hi
  have HZ0 := Lib.hid hz0
  have HZ1 := Lib.hid hz1
  have HZ2 := Lib.hid hz2
  have HBS := Lib.hid (show B ≤ w.heap.size from by obtain ⟨_, _, _, hc, _⟩ := hs; exact Nat.le_trans hB (Nat.le_of_lt hc.1))
  have HQ := Lib.hid (show B ≤ q ∧ B ≤ mb ∧ q ≠ mb from ⟨hB, hBm, hqm⟩)
  have HD := Lib.hid hd
  have HM := Lib.hid hm
  have HFT := Lib.hid (fitD hk)
  have HS := Lib.hid hs
  have HND := Lib.hid (nmL_len k d)
  clear hi hz0 hz1 hz2 hs hB hBm hqm hm hk
  go_enter Try.func60, Try.ntmps60
  go_wp2_with fail
  refine (names_any k d _ (by omega)).mono ?_; rintro e w1 ⟨a, rfl, hrow, hb, hty⟩
  replace HS := Lib.hid (HS.out.below hb)
  have HB := Lib.hid (Below.mono hb HBS.out)
  have HK := Lib.hid (Kp.below hb)
  have HRW := Lib.hid hrow
  have HTY := Lib.hid hty
  have HLE := Lib.hid (Nat.le_trans HBS.out hb.size)
  clear hb hrow hty hd
  obtain ⟨L, hL⟩ : ∃ x, nmL k d = x := ⟨_, rfl⟩
  rw [hL] at HRW HTY HFT HND ⊢
  obtain ⟨n, hn⟩ : ∃ x, L.length = x := ⟨_, rfl⟩
  rw [hn] at HRW HTY HND ⊢
  have HLN := Lib.hid hn
  have HWD := Lib.hid (show wDat f X k d = (((L.foldl wD1 (datX X k d, f, datR k d)).1 ++ (L.foldl wD1 (datX X k d, f, datR k d)).2.2.data.toList), (L.foldl wD1 (datX X k d, f, datR k d)).2.1) by unfold wDat; rw [hL])
  have HDR := Lib.hid (datR_le (k := k) HD.out)
  have HDX := Lib.hid (datX_le (X := X) h15)
  clear hL hn
  go_upto_if 13 with fail
  go_cut [2] (fun r wx => r = .string (datR k d) ∧ Hid (WrS wx B q mb f (datX X k d)) ∧ Hid (Below B w wx) ∧ Hid (Kp w wx) ∧ Hid (RowS wx a n L) ∧ Hid (n = 0 ∨ ∃ b, a = some ⟨b, 0, none⟩ ∧ TB wx b 9) ∧ Hid (B ≤ wx.heap.size))
  case first =>
    by_cases hk : k = 15
    · have e1 := eT hk
      have h2 := h15 hk
      have HX2 := Lib.hid (show datX X k d = X ++ (d.extract 0 2).data.toList by unfold datX; rw [if_pos hk])
      have HR2 := Lib.hid (show datR k d = d.extract 2 d.size by unfold datR; rw [if_pos hk])
      clear hk h15
      go_upto_region 2 with (fail)
      obtain ⟨bv, D1, n1, hc, ht, ho, hmp, hD, hf, hn1⟩ := HS.out
      obtain ⟨sa, sc, rfl, -⟩ := cellsK_own ho
      obtain ⟨xl, hxl⟩ : ∃ x, X.length = x := ⟨_, rfl⟩
      rw [hxl] at hc ho
      have HXL := Lib.hid hxl
      have HC := Lib.hid hc
      have HT := Lib.hid ht
      have HO := Lib.hid ho
      have HP := Lib.hid hmp
      have HPD := Lib.hid hD
      have HF := Lib.hid hf
      have HN1 := Lib.hid hn1
      have hxs : xl ≤ 1000000 := by have := HXL.out; have := HM.out; omega
      have HE2 := Lib.hid (show (d.extract 0 2).size = 2 by rw [extract_size _ _ _ h2])
      have hds : (2 : Int) ≤ (d.size : Int) := by omega
      clear hc ht ho hmp hD hf hn1 hxl
      refine wp_region_store_drew (S := (fun wx => CN wx q [.slice sa xl sc, .map (some mb)])) (L := 12) (by kernel_rfl) (HC.out) (fun hHeld => ?_)
      refine wpAnyU_take0 (i := 0) (oi := { dst := some 14, op := Go.Op.move (Go.Operand.tmp 0), type := 111, pos := "encode.go:80", after := #[], guard := none }) (v := ?v0_310101) rfl (by decide) (by kernel_rfl) (by kernel_rfl) (by kernel_rfl) (fun _ _ _ h => h) (Or.inl ⟨by rfl, ?y0_310101⟩) (fun _ => hHeld) ?r0_310101
      case y0_310101 => intro w hSw; clear hSw; go_simp; try with_reducible rfl
      try simp only [Act.put, List.setIfInBounds_toArray, List.set_cons_zero, List.set_cons_succ]
      refine wpAnyU_take0 (i := 1) (oi := { dst := some 15, op := Go.Op.move (Go.Operand.tmp 0), type := 111, pos := "encode.go:80", after := #[], guard := none }) (v := ?v1_310101) rfl (by decide) (by kernel_rfl) (by kernel_rfl) (by kernel_rfl) (fun _ _ _ h => h) (Or.inl ⟨by rfl, ?y1_310101⟩) (fun _ => hHeld) ?r1_310101
      case y1_310101 => intro w hSw; clear hSw; go_simp; try with_reducible rfl
      try simp only [Act.put, List.setIfInBounds_toArray, List.set_cons_zero, List.set_cons_succ]
      refine wpAnyU_take0 (i := 5) (oi := { dst := some 19, op := Go.Op.move (Go.Operand.tmp 2), type := 9, pos := "encode.go:80", after := #[], guard := none }) (v := ?v5_310101) rfl (by decide) (by kernel_rfl) (by kernel_rfl) (by kernel_rfl) (fun _ _ _ h => h) (Or.inl ⟨by rfl, ?y5_310101⟩) (fun _ => hHeld) ?r5_310101
      case y5_310101 => intro w hSw; clear hSw; go_simp; try with_reducible rfl
      try simp only [Act.put, List.setIfInBounds_toArray, List.set_cons_zero, List.set_cons_succ]
      refine wpAnyU_take0 (i := 6) (oi := { dst := some 20, op := Go.Op.slice 9 (Go.Operand.tmp 19) none (some (Go.Operand.const (Go.Value.int Go.IntKind.i64 2))) none, type := 9, pos := "encode.go:80", after := #[{ on := 5, ground := Go.Ground.data }], guard := none }) (v := ?v6_310101) rfl (by decide) (by kernel_rfl) (by kernel_rfl) (by kernel_rfl) (fun _ _ _ h => h) (Or.inl ⟨by rfl, ?y6_310101⟩) (fun _ => hHeld) ?r6_310101
      case y6_310101 => intro w hSw; clear hSw; go_simp; try with_reducible rfl
      try simp only [Act.put, List.setIfInBounds_toArray, List.set_cons_zero, List.set_cons_succ]
      refine wpAnyU_take0 (i := 8) (oi := { dst := some 22, op := Go.Op.move (Go.Operand.tmp 2), type := 9, pos := "encode.go:80", after := #[], guard := none }) (v := ?v8_310101) rfl (by decide) (by kernel_rfl) (by kernel_rfl) (by kernel_rfl) (fun _ _ _ h => h) (Or.inl ⟨by rfl, ?y8_310101⟩) (fun _ => hHeld) ?r8_310101
      case y8_310101 => intro w hSw; clear hSw; go_simp; try with_reducible rfl
      try simp only [Act.put, List.setIfInBounds_toArray, List.set_cons_zero, List.set_cons_succ]
      refine wpAnyU_take0 (i := 9) (oi := { dst := some 23, op := Go.Op.slice 9 (Go.Operand.tmp 22) (some (Go.Operand.const (Go.Value.int Go.IntKind.i64 2))) none none, type := 9, pos := "encode.go:80", after := #[{ on := 8, ground := Go.Ground.data }], guard := none }) (v := ?v9_310101) rfl (by decide) (by kernel_rfl) (by kernel_rfl) (by kernel_rfl) (fun _ _ _ h => h) (Or.inl ⟨by rfl, ?y9_310101⟩) (fun _ => hHeld) ?r9_310101
      case y9_310101 => intro w hSw; clear hSw; go_simp; try with_reducible rfl
      try simp only [Act.put, List.setIfInBounds_toArray, List.set_cons_zero, List.set_cons_succ]
      refine wpAnyU_ready (rs := [2]) (by kernel_rfl) (by simp) ?_
      refine AllReadyU.cons (o := { dst := some 16, op := Go.Op.nilCheck (Go.Operand.tmp 15), type := 0, pos := "encode.go:80", after := #[{ on := 1, ground := Go.Ground.data }], guard := none }) rfl (fun K hK => ?_) AllReadyU.nil
      go_simp
      refine hK.out _ _ (hHeld) (fun hHeld2 => ?_)
      clear hK K hHeld
      have hHeld := hHeld2
      clear hHeld2
      try simp only [Act.put, List.setIfInBounds_toArray, List.set_cons_zero, List.set_cons_succ]
      refine wpAnyU_take0 (i := 3) (oi := { dst := some 17, op := Go.Op.fieldAddr 85 (Go.Operand.tmp 16) 0, type := 0, pos := "encode.go:80", after := #[{ on := 2, ground := Go.Ground.data }], guard := none }) (v := ?v3_310102) rfl (by decide) (by kernel_rfl) (by kernel_rfl) (by kernel_rfl) (fun _ _ _ h => h) (Or.inl ⟨by rfl, ?y3_310102⟩) (fun _ => hHeld) ?r3_310102
      case y3_310102 => intro w hSw; clear hSw; go_simp; try with_reducible rfl
      try simp only [Act.put, List.setIfInBounds_toArray, List.set_cons_zero, List.set_cons_succ]
      refine wpAnyU_take (i := 4) (oi := { dst := some 18, op := Go.Op.load 22 (Go.Operand.tmp 17), type := 22, pos := "encode.go:80", after := #[{ on := 3, ground := Go.Ground.data }], guard := none }) (v := ?v4_310102) rfl (by kernel_rfl) (by decide) (by kernel_rfl) (by kernel_rfl) (by kernel_rfl) (by kernel_rfl) (by kernel_rfl) (fun _ _ _ h => h) (Or.inl ⟨by rfl, ?y4_310102⟩) hHeld ?r4_310102
      case y4_310102 => intro w hSw; (try dsimp only at hSw); have y0 := (hSw.2 0 _ rfl).1; go_simp; try with_reducible rfl
      try simp only [Act.put, List.setIfInBounds_toArray, List.set_cons_zero, List.set_cons_succ]
      refine wpAnyU_ready (rs := [7]) (by kernel_rfl) (by simp) ?_
      refine AllReadyU.cons (o := { dst := some 21, op := Go.Op.call { callee := Go.Callee.builtin Go.Builtin.append, args := #[Go.Operand.tmp 18, Go.Operand.tmp 20], argTypes := #[22, 9] }, type := 22, pos := "encode.go:80", after := #[{ on := 4, ground := Go.Ground.data }, { on := 6, ground := Go.Ground.data }], guard := none }) rfl (fun K hK => ?_) AllReadyU.nil
      refine step_append_str5 (by rfl) _ _ 22 9 (by rfl) B 5 i0 Try.underlying22 Try.underlying9 HI.out HZ0.out HZ1.out HZ2.out (.slice sa xl sc) xl (bc X) (by rfl) (show World.ownsRow w1.drew B _ 1 (.slice sa xl sc) xl (bc X) from HO.out) (d.extract 0 2) (by rfl) (by rw [HE2.out]; unfold maxLen; omega) (by rw [HE2.out]; omega) HLE.out ?_
      intro v7 w7 ho7 hg7
      rw [HE2.out, strCells_bc, ← bc_append] at ho7
      obtain ⟨sa7, sc7, rfl, -⟩ := cellsK_own ho7
      have hne7 := own_ne HO.out HT.out (by decide)
      have HC7 := Lib.hid ((show CN w1.drew q [.slice sa xl sc, .map (some mb)] from HC.out).grown hg7 (fun e => hne7 e.symm))
      have HT7 := Lib.hid ((show TB w1.drew q 85 from HT.out).grown hg7 hne7)
      have HO7 := Lib.hid ho7
      have HG7 := Lib.hid hg7
      clear ho7 hg7 hne7
      refine hK.out _ _ (HC7.out) (fun hHeld2 => ?_)
      clear hK K hHeld
      have hHeld := hHeld2
      clear hHeld2
      try simp only [Act.put, List.setIfInBounds_toArray, List.set_cons_zero, List.set_cons_succ]
      refine wpAnyU_ready (rs := [10]) (by kernel_rfl) (by simp) ?_
      refine AllReadyU.cons (o := { dst := some 24, op := Go.Op.nilCheck (Go.Operand.tmp 14), type := 0, pos := "encode.go:80", after := #[{ on := 0, ground := Go.Ground.data }, { on := 0, ground := Go.Ground.phase }, { on := 1, ground := Go.Ground.phase }, { on := 2, ground := Go.Ground.phase }, { on := 3, ground := Go.Ground.phase }, { on := 4, ground := Go.Ground.phase }, { on := 5, ground := Go.Ground.phase }, { on := 6, ground := Go.Ground.phase }, { on := 7, ground := Go.Ground.phase }, { on := 8, ground := Go.Ground.textOnly Go.Departure.lateStores }, { on := 9, ground := Go.Ground.textOnly Go.Departure.lateStoresUnsure }], guard := none }) rfl (fun K hK => ?_) AllReadyU.nil
      go_simp
      refine hK.out _ _ (hHeld) (fun hHeld2 => ?_)
      clear hK K hHeld
      have hHeld := hHeld2
      clear hHeld2
      try simp only [Act.put, List.setIfInBounds_toArray, List.set_cons_zero, List.set_cons_succ]
      refine wpAnyU_take0 (i := 11) (oi := { dst := some 25, op := Go.Op.fieldAddr 85 (Go.Operand.tmp 24) 0, type := 0, pos := "encode.go:80", after := #[{ on := 10, ground := Go.Ground.data }, { on := 0, ground := Go.Ground.phase }, { on := 1, ground := Go.Ground.phase }, { on := 2, ground := Go.Ground.phase }, { on := 3, ground := Go.Ground.phase }, { on := 4, ground := Go.Ground.phase }, { on := 5, ground := Go.Ground.phase }, { on := 6, ground := Go.Ground.phase }, { on := 7, ground := Go.Ground.phase }, { on := 8, ground := Go.Ground.textOnly Go.Departure.lateStores }, { on := 9, ground := Go.Ground.textOnly Go.Departure.lateStoresUnsure }], guard := none }) (v := ?v11_310104) rfl (by decide) (by kernel_rfl) (by kernel_rfl) (by kernel_rfl) (fun _ _ _ h => h) (Or.inl ⟨by rfl, ?y11_310104⟩) (fun _ => hHeld) ?r11_310104
      case y11_310104 => intro w hSw; clear hSw; go_simp; try with_reducible rfl
      try simp only [Act.put, List.setIfInBounds_toArray, List.set_cons_zero, List.set_cons_succ]
      refine wpAnyU_ready (rs := [12]) (by kernel_rfl) (by simp) ?_
      refine AllReadyU.last (o := { dst := none, op := Go.Op.store 22 (Go.Operand.tmp 25) (Go.Operand.tmp 21), type := 0, pos := "encode.go:80", after := #[{ on := 11, ground := Go.Ground.data }, { on := 7, ground := Go.Ground.data }, { on := 7, ground := Go.Ground.chain }, { on := 0, ground := Go.Ground.phase }, { on := 1, ground := Go.Ground.phase }, { on := 2, ground := Go.Ground.phase }, { on := 3, ground := Go.Ground.phase }, { on := 4, ground := Go.Ground.phase }, { on := 5, ground := Go.Ground.phase }, { on := 6, ground := Go.Ground.phase }, { on := 7, ground := Go.Ground.phase }, { on := 8, ground := Go.Ground.textOnly Go.Departure.lateStores }, { on := 9, ground := Go.Ground.textOnly Go.Departure.lateStoresUnsure }], guard := none }) rfl (by kernel_rfl) (fun K hK => ?_) AllReadyU.nil
      have y0 := (HC7.out.2 0 _ rfl).1
      have g0 := (HC7.out.2 0 _ rfl).2
      go_simp
      refine hK.out _ _ trivial (fun _ => ?_)
      clear hK K
      try simp only [Act.put, List.setIfInBounds_toArray, List.set_cons_zero, List.set_cons_succ]
      refine wpAnyU_take0 (i := 13) (oi := { dst := some 2, op := Go.Op.assign (Go.Operand.tmp 23), type := 9, pos := "encode.go:80", after := #[{ on := 9, ground := Go.Ground.data }, { on := 12, ground := Go.Ground.chain }, { on := 0, ground := Go.Ground.phase }, { on := 1, ground := Go.Ground.phase }, { on := 2, ground := Go.Ground.phase }, { on := 3, ground := Go.Ground.phase }, { on := 4, ground := Go.Ground.phase }, { on := 5, ground := Go.Ground.phase }, { on := 6, ground := Go.Ground.phase }, { on := 7, ground := Go.Ground.phase }, { on := 8, ground := Go.Ground.phase }, { on := 9, ground := Go.Ground.phase }, { on := 10, ground := Go.Ground.phase }, { on := 11, ground := Go.Ground.phase }, { on := 12, ground := Go.Ground.phase }], guard := none }) (v := ?v13_310105) rfl (by decide) (by kernel_rfl) (by kernel_rfl) (by kernel_rfl) (fun _ _ _ h => h) (Or.inl ⟨by rfl, ?y13_310105⟩) (fun h => absurd (h.symm.trans (by kernel_rfl)) Bool.false_ne_true) ?r13_310105
      case y13_310105 => intro w hSw; clear hSw; go_simp; try with_reducible rfl
      try simp only [Act.put, List.setIfInBounds_toArray, List.set_cons_zero, List.set_cons_succ]
      refine wpAnyU_done (by kernel_rfl) ?_ _
      have HK8 := Lib.hid ((HK.out.drew.trans (Kp.grown (show World.ownsRow w1.drew B _ 1 (.slice sa xl sc) xl (bc X) from HO.out) HG7.out)).trans (Kp.set HT7.out 0 (.slice sa7 (xl + 2) sc7)))
      have HB8 := Lib.hid ((HB.out.drew.grown HG7.out HLE.out (fun k hk => (HO.out.lt k hk).1)).setCell HQ.out.1 (.slice sa7 (xl + 2) sc7) (p := ⟨q, 0, none⟩))
      have HS8 := Lib.hid (show WrS _ B q mb f (X ++ (d.extract 0 2).data.toList) from ⟨(.slice sa7 (xl + 2) sc7), D1, n1, HC7.out.set 0 (by simp) (.slice sa7 (xl + 2) sc7), HT7.out.set 0 (.slice sa7 (xl + 2) sc7), by rw [List.length_append, HXL.out, size_data, HE2.out]; exact own_keeps HO7.out HT7.out (by decide) (grown_cell w7 q 0 (.slice sa7 (xl + 2) sc7)), ((show World.ownsMap w1.drew Try.prog 9 (plainElem Try.prog 3) mb _ _ from HP.out).kept HG7.out (map_apart HO.out HP.out)).setCell (a := ⟨q, 0, none⟩) (fun e => HQ.out.2.2 e.symm) (.slice sa7 (xl + 2) sc7), HPD.out, HF.out, by rw [List.length_append]; have := HN1.out; omega⟩)
      have HKW := Lib.hid ((Kp.grown (show World.ownsRow w1.drew B _ 1 (.slice sa xl sc) xl (bc X) from HO.out) HG7.out).trans (Kp.set HT7.out 0 (.slice sa7 (xl + 2) sc7)))
      have HTY8 := Lib.hid (ty_kp (w := w1.drew) HTY.out HKW.out)
      have HRW8 := Lib.hid (row_kp (w := w1.drew) HRW.out HTY.out HKW.out)
      have HLE8 := Lib.hid (show B ≤ (w7.setCell ⟨q, 0, none⟩ (.slice sa7 (xl + 2) sc7)).heap.size by simpa using Nat.le_trans HLE.out HG7.out.size)
      go_wp2
      go_meet
      exact ⟨by rw [HR2.out], by rw [HX2.out]; exact HS8, HB8, HK8, HRW8, HTY8, HLE8⟩
    · have e1 := eF hk
      have HX2 := Lib.hid (show datX X k d = X by unfold datX; rw [if_neg hk])
      have HR2 := Lib.hid (show datR k d = d by unfold datR; rw [if_neg hk])
      clear hk h15
      go_wp2
      go_meet
      exact ⟨by rw [HR2.out], by rw [HX2.out]; exact HS, HB, HK, HRW, HTY, HLE⟩
  case rest =>
  obtain ⟨rfl, HS, HB, HK, HRW, HTY, HLE⟩ := hcut
  obtain ⟨R0, hR0⟩ : ∃ x, datR k d = x := ⟨_, rfl⟩
  obtain ⟨X0, hX0⟩ : ∃ x, datX X k d = x := ⟨_, rfl⟩
  rw [hR0, hX0] at HWD
  rw [hR0] at HFT HDR ⊢
  rw [hX0] at HS HDX
  clear hR0 hX0
  go_wp2_with fail
  go_loopw [2, 28] (fun r i wx => ∃ j : Nat, j ≤ n ∧ i = .int .i64 j ∧ r = .string ((L.take j).foldl wD1 (X0, f, R0)).2.2 ∧ Hid (WrS wx B q mb ((L.take j).foldl wD1 (X0, f, R0)).2.1 ((L.take j).foldl wD1 (X0, f, R0)).1) ∧ Hid (Below B w wx) ∧ Hid (Kp w wx) ∧ Hid (RowS wx a n L) ∧ Hid (n = 0 ∨ ∃ b, a = some ⟨b, 0, none⟩ ∧ TB wx b 9) ∧ Hid (B ≤ wx.heap.size)) (fun _ i _ => n - (intOf i).toNat)
  case atStart => exact ⟨0, Nat.zero_le _, rfl, rfl, HS, HB, HK, HRW, HTY, HLE⟩
  case round =>
  clear HS HB HK HRW HTY HLE
  obtain ⟨j, hj, rfl, rfl, HS, HB, HK, HRW, HTY, HLE⟩ := hrel
  have HFJ := Lib.hid (fitD_drop L (X0, f, R0) j HFT.out)
  have HXJ := Lib.hid (show ((L.take j).foldl wD1 (X0, f, R0)).1.length ≤ X0.length + 256 * j from fold_le L (X0, f, R0) j HFT.out)
  have HRJ := Lib.hid (show ((L.take j).foldl wD1 (X0, f, R0)).2.2.size ≤ R0.size from fold_rest L (X0, f, R0) j)
  by_cases hlt : j < n
  · have hnx : (L.take (j + 1)).foldl wD1 (X0, f, R0) = wD1 ((L.take j).foldl wD1 (X0, f, R0)) (L.getD j ByteArray.empty) := by
      have hjl : j < L.length := by rw [HLN.out]; exact hlt
      rw [List.take_succ_eq_append_getElem hjl, List.foldl_append, List.getD_eq_getElem?_getD, List.getElem?_eq_getElem hjl]; rfl
    have hdr : L.drop j = L.getD j ByteArray.empty :: L.drop (j + 1) := by
      have hjl : j < L.length := by rw [HLN.out]; exact hlt
      rw [List.getD_eq_getElem?_getD, List.getElem?_eq_getElem hjl]
      exact List.drop_eq_getElem_cons hjl
    rw [hdr] at HFJ
    obtain ⟨m1, m2, -⟩ := HFJ.out
    rcases HRW.out.2 with h0 | ⟨b, o, rfl, hbl, hcell⟩
    · omega
    have c0 := hcell j hlt
    obtain ⟨nm, hnm⟩ : ∃ x, L.getD j ByteArray.empty = x := ⟨_, rfl⟩
    rw [hnm] at m1 m2 c0 hnx
    have HNX := Lib.hid hnx
    obtain ⟨⟨X1, f1, R1⟩, hst⟩ : ∃ x, (L.take j).foldl wD1 (X0, f, R0) = x := ⟨_, rfl⟩
    rw [hst] at HS HXJ HRJ HNX m2 ⊢
    replace HS : Hid (WrS wr B q mb f1 X1) := HS
    replace HXJ : Hid (X1.length ≤ X0.length + 256 * j) := HXJ
    replace HRJ : Hid (R1.size ≤ R0.size) := HRJ
    replace m2 : nm.size ≤ R1.size := m2
    have HM2 := Lib.hid m2
    obtain ⟨l1, l2, l3⟩ := labs_spec m1
    obtain ⟨M, hM⟩ : ∃ x, labs nm = x := ⟨_, rfl⟩
    have HNX2 := Lib.hid (show (L.take (j + 1)).foldl wD1 (X0, f, R0) = ((wNm f1 X1 M).1, (wNm f1 X1 M).2, R1.extract nm.size R1.size) by rw [HNX.out, ← hM]; rfl)
    rw [hM] at l1 l2 l3
    have HL1 := Lib.hid (show OkL M ∧ off M M.length ≤ 254 ∧ nm = nameB M from ⟨l1, l2, l3⟩)
    have HBL := Lib.hid hbl
    have HHC := Lib.hid hcell
    clear hnx hdr hnm hst l1 l2 l3 hM m1 hbl hcell m2
    go_wp2_with fail
    clear c0
    rw [HL1.out.2.2]
    refine (name_any q mb B M X1 f1 _ HL1.out.1 HL1.out.2.1 HS.out HQ.out.1 HQ.out.2.1 HQ.out.2.2 (by have := HXJ.out; have := HDX.out; have := HM.out; have := HND.out; omega)).mono ?_; rintro e w8 ⟨rfl, hs8, hb8, hk8⟩
    rw [← HL1.out.2.2]
    have HS2 := Lib.hid (show WrS w8 B q mb ((L.take (j + 1)).foldl wD1 (X0, f, R0)).2.1 ((L.take (j + 1)).foldl wD1 (X0, f, R0)).1 by rw [HNX2.out]; exact hs8)
    have HRW2 := Lib.hid (row_kp HRW.out HTY.out hk8)
    have HTY2 := Lib.hid (ty_kp HTY.out hk8)
    have HB2 := Lib.hid (HB.out.trans hb8)
    have HK2 := Lib.hid (HK.out.trans hk8)
    have HLE2 := Lib.hid (Nat.le_trans HLE.out hb8.size)
    have HR2 := Lib.hid (show R1.extract nm.size R1.size = ((L.take (j + 1)).foldl wD1 (X0, f, R0)).2.2 by rw [HNX2.out])
    have hm2 := HM2.out
    have hj2 : j < 2 := by have := HND.out; omega
    clear hs8 hb8 hk8
    go_wp2
    go_roundw
    case rel => exact ⟨j + 1, by omega, by go_num, by rw [← HR2.out], HS2, HB2, HK2, HRW2, HTY2, HLE2⟩
    case measure => simp [intOf]; omega
  · obtain rfl : j = n := by omega
    have htk : L.take j = L := by rw [← HLN.out]; exact List.take_length
    rw [htk] at HS HXJ HRJ ⊢
    obtain ⟨⟨X1, f1, R1⟩, hst⟩ : ∃ x, L.foldl wD1 (X0, f, R0) = x := ⟨_, rfl⟩
    rw [hst] at HS HXJ HRJ HWD ⊢
    replace HS : Hid (WrS wr B q mb f1 X1) := HS
    replace HXJ : Hid (X1.length ≤ X0.length + 256 * j) := HXJ
    replace HRJ : Hid (R1.size ≤ R0.size) := HRJ
    have HWD2 := Lib.hid (show wDat f X k d = (X1 ++ R1.data.toList, f1) from HWD.out)
    obtain ⟨bv, D1, n1, hc, ht, ho, hmp, hD, hf, hn1⟩ := HS.out
    have c0 := (hc.2 0 _ rfl).1
    have HC := Lib.hid hc
    have HT := Lib.hid ht
    have HO := Lib.hid ho
    have HP := Lib.hid hmp
    have HPD := Lib.hid hD
    have HF := Lib.hid hf
    have HN1 := Lib.hid hn1
    show Code.wp _ _ _ _ _
    clear hc ht ho hmp hD hf hn1 hst htk hlt hj
    go_wp2_with (at_builtin; refine Lib.wpList_append_own_string _ rfl _ _ 22 9 rfl B 5 i0 Try.underlying22 Try.underlying9 HI.out HZ0.out HZ1.out HZ2.out _ X1.length _ rfl HO.out R1 rfl ?c1 ?c2 ?c3 ?_)
    case c1 => have := HXJ.out; have := HDX.out; have := HM.out; have := HND.out; have := HRJ.out; have := HDR.out; unfold maxLen; omega
    case c2 => have := HXJ.out; have := HDX.out; have := HM.out; have := HND.out; have := HRJ.out; have := HDR.out; omega
    case c3 => exact HLE.out
    intro bv' w2 hown hgrow _
    rw [strCells_bc, ← bc_append] at hown
    obtain ⟨sa, sc, rfl, -⟩ := cellsK_own hown
    have hne := own_ne HO.out HT.out (by decide)
    have HC2 := Lib.hid (HC.out.grown hgrow (fun e => hne e.symm))
    have HT2 := Lib.hid (HT.out.grown hgrow hne)
    have HP2 := Lib.hid (HP.out.kept hgrow (map_apart HO.out HP.out))
    have HCZ := Lib.hid (HC2.out.set 0 (by simp) (.slice sa (X1.length + R1.size) sc))
    have HTZ := Lib.hid (HT2.out.set 0 (.slice sa (X1.length + R1.size) sc))
    have HOZ := Lib.hid (own_keeps hown HT2.out (by decide) (grown_cell w2 q 0 (.slice sa (X1.length + R1.size) sc)))
    have HPZ := Lib.hid (HP2.out.setCell (a := ⟨q, 0, none⟩) (fun e => HQ.out.2.2 e.symm) (.slice sa (X1.length + R1.size) sc))
    have hbg := HB.out.grown hgrow HLE.out (fun k hk => (HO.out.lt k hk).1)
    have HBZ := Lib.hid (hbg.setCell HQ.out.1 (.slice sa (X1.length + R1.size) sc) (p := ⟨q, 0, none⟩))
    have HKP := Lib.hid ((HK.out.trans (Kp.grown HO.out hgrow)).trans (Kp.set HT2.out 0 (.slice sa (X1.length + R1.size) sc)))
    have c0' := (HC2.out.2 0 _ rfl).1
    have f0' := (HC2.out.2 0 _ rfl).2
    clear c0 hown hgrow hne hbg
    go_wp2
    refine bodyPost_end (v := .tuple #[]) (by simp [results, Try.results60, go_sem]) rfl ⟨rfl, ?_⟩
    unfold WrN WrS
    rw [HWD2.out]
    refine ⟨⟨.slice sa (X1.length + R1.size) sc, D1, n1, HCZ.out, HTZ.out, ?_, HPZ.out, HPD.out, HF.out, Nat.le_trans HN1.out (by show _ ≤ (X1 ++ R1.data.toList).length; rw [List.length_append]; exact Nat.le_add_right _ _)⟩, HBZ.out, HKP.out⟩
    have h := HOZ.out
    show World.ownsRow _ B _ 1 _ (X1 ++ R1.data.toList).length (bc (X1 ++ R1.data.toList))
    rw [List.length_append, size_data]
    exact h
end Go.Proofs.Ytgppkpdjpcegbaa
