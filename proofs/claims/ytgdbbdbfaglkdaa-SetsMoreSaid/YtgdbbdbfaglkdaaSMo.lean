/- A record more: the walk. -/
import Derived.Test.YtgdbbdbfaglkdaaCmo
import Derived.Test.YtgdbbdbfaglkdaaCpR
import Derived.Test.YtgdbbdbfaglkdaaSBk
namespace Go.Proofs.Ytgdbbdbfaglkdaa
open Go.RowKit

/-- Sets that a call has made. -/
def GotB (l : List R5) (w0 : World) (v : Value) (wx : World) : Prop := ∃ (a : Option Addr) (c m : Nat) (B : List SetP), v = .slice a m c ∧ Hid (Canon l B) ∧ Hid (B.length = m) ∧ Hid (m ≤ 402 ∧ sumD B ≤ 402) ∧ Hid (SetsAt wx a m B) ∧ Hid (Below w0.heap.size w0 wx)

set_option maxRecDepth 100000 in
set_option maxHeartbeats 3200000 in
theorem walkSMore (a : Option Addr) (n c : Nat) (l : List R5) (rn : ByteArray) (rt rc ru : Int) (rd : ByteArray) (turn : Int) (w : World) (h : RowR w a n l) (hn : a = none → n = 0 ∧ c = 0) (hlen : n ≤ 9223372036854775807) (hsz : ∀ r ∈ l, SzR r) (hszr : SzR ⟨⟨rn, rt, rc⟩, ru, rd⟩) :
    Calls Try.prog 12 #[.slice a n c, .agg #[.string rn, .int .i64 rt, .int .i64 rc, .int .i64 ru, .string rd], .int .i64 turn] w fun e w' => e = .returned (.bool true) ∧ Below w.heap.size w w' := by
  obtain ⟨i0', hi, hz0, hz1, hz2⟩ := info_parts infoRR
  have HI := Lib.hid hi
  have HZ0 := Lib.hid hz0
  have HZ1 := Lib.hid hz1
  have HZ2 := Lib.hid hz2
  clear hi hz0 hz1 hz2
  have HR := Lib.hid h
  have HN := Lib.hid hn
  have HSZ := Lib.hid hsz
  have HSZR := Lib.hid hszr
  have HLN := Lib.hid h.1
  have HQ0 := Lib.hid (rrAt5_new w ⟨⟨rn, rt, rc⟩, ru, rd⟩ 23)
  have HB0 := Lib.hid ((Below.refl w.heap.size w).alloc (Nat.le_refl _) (.cells #[.string rn, .int .i64 rt, .int .i64 rc, .int .i64 ru, .string rd] 23))
  clear h hn hsz hszr
  go_enter Try.func12, Try.ntmps12
  go_wp2_with fail
  refine (first4 _).mono ?_; rintro e w1 ⟨rfl, hb⟩
  have HB1 := Lib.hid (HB0.out.trans (hb.mono HB0.out.size))
  have HQ1 := Lib.hid (HQ0.out.below hb)
  obtain ⟨q, hq⟩ : ∃ x, w.heap.size = x := ⟨_, rfl⟩
  rw [show (Value.pointer (some { block := w.heap.size, off := 0 })) = Value.pointer (some { block := q, off := 0 }) by rw [hq]]
  replace HQ1 : Hid (RRAt5 w1 q ⟨⟨rn, rt, rc⟩, ru, rd⟩) := by rw [← hq]; exact HQ1
  have HQW := Lib.hid hq
  clear hb HB0 HQ0 hq
  go_wp2_with fail
  refine (few4 a n c l _ (HR.out.below HB1.out) hlen HSZ.out).mono ?_; rintro e w2 ⟨hres, m0, rfl⟩
  have HB2 := Lib.hid (below_drewN HB1.out m0)
  have HQ2 := Lib.hid (HQ1.out.below (below_drewN (Below.refl _ w1) m0))
  obtain ⟨w2, hw2⟩ : ∃ x, w1.drewN m0 = x := ⟨_, rfl⟩
  rw [hw2] at HB2 HQ2 ⊢
  clear hw2 HB1 HQ1
  rcases hres with rfl | ⟨rfl, hn4, hsm⟩
  · go_wp2_with fail
    refine (first4 _).mono ?_; rintro e w3 ⟨rfl, hb⟩
    have HB3 := Lib.hid (HB2.out.trans (hb.mono HB2.out.size))
    clear hb
    go_wp2
    go_ret
    exact ⟨rfl, HB3.out⟩
  have HSM := Lib.hid hsm
  clear hsm hlen
  obtain ⟨_, r0, r1, r2, r3, r4⟩ := HQ2.out
  go_wp2_with fail
  have hlit : RowR (w2.alloc (.cells #[.string rn, .int .i64 rt, .int .i64 rc, .int .i64 ru, .string rd] 23)) (some ⟨w2.heap.size, 0, none⟩) 1 [⟨⟨rn, rt, rc⟩, ru, rd⟩] := ⟨rfl, cells_lit w2 #[.string rn, .int .i64 rt, .int .i64 rc, .int .i64 ru, .string rd] _⟩
  have hal := (Below.refl w2.heap.size w2).alloc (Nat.le_refl _) (.cells #[.string rn, .int .i64 rt, .int .i64 rc, .int .i64 ru, .string rd] 23)
  refine (few4 _ 1 1 _ _ hlit (by omega) (fun r hr => by obtain rfl := List.mem_singleton.1 hr; exact HSZR.out)).mono ?_; rintro e w3 ⟨hres, m1, rfl⟩
  have HB3 := Lib.hid (HB2.out.trans ((below_drewN hal m1).mono HB2.out.size))
  have HQ3 := Lib.hid (HQ2.out.below (below_drewN hal m1))
  obtain ⟨w3, hw3⟩ : ∃ x, (w2.alloc (.cells #[.string rn, .int .i64 rt, .int .i64 rc, .int .i64 ru, .string rd] 23)).drewN m1 = x := ⟨_, rfl⟩
  rw [hw3] at HB3 HQ3 ⊢
  clear hw3 HB2 HQ2 hlit hal r0 r1 r2 r3 r4
  rcases hres with rfl | ⟨rfl, -, hsmr⟩
  · go_wp2_with fail
    refine (first4 _).mono ?_; rintro e w4 ⟨rfl, hb⟩
    have HB4 := Lib.hid (HB3.out.trans (hb.mono HB3.out.size))
    clear hb
    go_wp2
    go_ret
    exact ⟨rfl, HB4.out⟩
  have HSMR := Lib.hid (hsmr _ (List.mem_singleton_self _))
  clear hsmr
  by_cases h0 : turn < 0
  · have d0 := dT h0
    go_wp2_with fail
    refine (first4 _).mono ?_; rintro e w4 ⟨rfl, hb⟩
    have HB4 := Lib.hid (HB3.out.trans (hb.mono HB3.out.size))
    clear hb
    go_wp2
    go_ret
    exact ⟨rfl, HB4.out⟩
  have d0 := dF h0
  obtain ⟨tn, htn⟩ := Int.eq_ofNat_of_zero_le (show 0 ≤ turn by omega)
  subst htn
  clear h0
  go_wp2_with fail
  refine (group_any a n c l w3 (HR.out.below HB3.out) HN.out (by omega) (fun r hr => by have := (HSM.out r hr).1; omega)).mono ?_
  rintro e w4 ⟨a1, c1, A, rfl, hcan, hsum, hslen, hsa, hb⟩
  rw [HLN.out] at hsum hslen
  have HCA := Lib.hid hcan
  have HB4 := Lib.hid (HB3.out.trans (hb.mono HB3.out.size))
  have HQ4 := Lib.hid (HQ3.out.below hb)
  obtain ⟨m, hm⟩ : ∃ m, A.length = m := ⟨_, rfl⟩
  rw [hm] at hsa hslen ⊢
  have HMA := Lib.hid hm
  have HSA := Lib.hid hsa
  have HDA := Lib.hid (show ∀ s ∈ A, s.data.length ≤ 400 from fun s hs => by have := data_le_sum hs; omega)
  clear hb hcan hsum hm hsa HB3 HQ3
  go_upto_region 6 with fail
  go_cut [8] (fun v wx => GotB (l ++ [⟨⟨rn, rt, rc⟩, ru, rd⟩]) w4 v wx)
  case first =>
    have hfix : Fix w4 [(⟨q, 0, none⟩, .string rn), (⟨q, 1, none⟩, .int .i64 rt), (⟨q, 2, none⟩, .int .i64 rc), (⟨q, 3, none⟩, .int .i64 ru), (⟨q, 4, none⟩, .string rd)] w4 := Fix.start (by
      obtain ⟨x, y0, y1, y2, y3, y4⟩ := HQ4.out
      intro c hc
      simp only [List.mem_cons, List.not_mem_nil, or_false] at hc
      rcases hc with rfl | rfl | rfl | rfl | rfl
      · exact ⟨x, y0⟩
      · exact ⟨x, y1⟩
      · exact ⟨x, y2⟩
      · exact ⟨x, y3⟩
      · exact ⟨x, y4⟩)
    have HFX := Lib.hid hfix.drew.all5
    clear hfix
    have HR4 := Lib.hid (HR.out.below HB4.out)
    have hn5 : n ≤ 100000 := by omega
    have HSZ1 := Lib.hid (show ∀ x ∈ l ++ [(⟨⟨rn, rt, rc⟩, ru, rd⟩ : R5)], x.k.n.size ≤ 1000000 from fun x hx => by
      rcases List.mem_append.1 hx with hx | hx
      · have := (HSM.out x hx).1; omega
      · obtain rfl := List.mem_singleton.1 hx
        have := HSMR.out.1; omega)
    refine wp_region_held_drew (S := (fun wx => Hid (Fix w4 [(⟨q, 0, none⟩, .string rn), (⟨q, 1, none⟩, .int .i64 rt), (⟨q, 2, none⟩, .int .i64 rc), (⟨q, 3, none⟩, .int .i64 ru), (⟨q, 4, none⟩, .string rd)] wx) ∧ wx.cell? ⟨q, 0, none⟩ = some (.string rn) ∧ wx.cell? ⟨q, 1, none⟩ = some (.int .i64 rt) ∧ wx.cell? ⟨q, 2, none⟩ = some (.int .i64 rc) ∧ wx.cell? ⟨q, 3, none⟩ = some (.int .i64 ru) ∧ wx.cell? ⟨q, 4, none⟩ = some (.string rd))) (by kernel_rfl) (HFX.out) (fun hHeld => ?_)
    refine wpAnyH_take (i := 0) (oi := { dst := some 36, op := Go.Op.move (Go.Operand.tmp 0), type := 65, pos := "extra.go:31", after := #[], guard := none }) (v := ?v0_101) rfl (by kernel_rfl) (by kernel_rfl) (by kernel_rfl) (fun _ _ _ h => h) (Or.inl ⟨by rfl, ?y0_101⟩) hHeld ?r0_101
    case y0_101 => intro w hSw; (try dsimp only at hSw); go_simp; try with_reducible rfl
    try simp only [Act.put, List.setIfInBounds_toArray, List.set_cons_zero, List.set_cons_succ]
    refine wpAnyH_take (i := 2) (oi := { dst := some 38, op := Go.Op.load 23 (Go.Operand.tmp 4), type := 23, pos := "extra.go:31", after := #[], guard := none }) (v := ?v2_101) rfl (by kernel_rfl) (by kernel_rfl) (by kernel_rfl) (fun _ _ _ h => h) (Or.inl ⟨by rfl, ?y2_101⟩) hHeld ?r2_101
    case y2_101 => intro w hSw; (try dsimp only at hSw); go_simp; try with_reducible rfl
    try simp only [Act.put, List.setIfInBounds_toArray, List.set_cons_zero, List.set_cons_succ]
    refine wpAnyH_ready (rs := [1, 3]) (by kernel_rfl) (by simp) ?_
    refine AllReadyH.cons (o := { dst := some 37, op := Go.Op.call { callee := Go.Callee.value (Go.Operand.func 41), args := #[Go.Operand.tmp 36], argTypes := #[65] }, type := 65, pos := "extra.go:31", after := #[{ on := 0, ground := Go.Ground.data }], guard := none }) rfl (fun K hK => ?_) (AllReadyH.cons (o := { dst := some 39, op := Go.Op.buildSlice 65 1 #[(0, Go.Operand.tmp 38)], type := 65, pos := "extra.go:31", after := #[{ on := 2, ground := Go.Ground.data }], guard := none }) rfl (fun K hK => ?_) AllReadyH.nil)
    · go_simp
      refine (copyRRs_any a n c l _ (HR4.out.below (Fix.get5 hHeld)) HN.out hn5).mono ?_; rintro e wy ⟨v1, rfl, hown, hb1⟩
      go_wp2_with fail
      have HO1 := Lib.hid (own_mono4 (base' := w4.heap.size) hown (Fix.get5 hHeld).size)
      clear hown
      refine hK.out _ _ (Fix.next5 hb1 hHeld) (fun hHeld2 => ?_)
      clear hK K hHeld
      have hHeld := hHeld2
      clear hHeld2
      try simp only [Act.put, List.setIfInBounds_toArray, List.set_cons_zero, List.set_cons_succ]
      refine wpAnyH_ready (rs := [3]) (by kernel_rfl) (by simp) ?_
      refine AllReadyH.cons (o := { dst := some 39, op := Go.Op.buildSlice 65 1 #[(0, Go.Operand.tmp 38)], type := 65, pos := "extra.go:31", after := #[{ on := 2, ground := Go.Ground.data }], guard := none }) rfl (fun K hK => ?_) AllReadyH.nil
      go_simp
      have HC2 := Lib.hid (cells_lit wy #[.string rn, .int .i64 rt, .int .i64 rc, .int .i64 ru, .string rd] 23)
      replace HO1 := Lib.hid (HO1.out.alloc (.cells #[.string rn, .int .i64 rt, .int .i64 rc, .int .i64 ru, .string rd] 23))
      refine hK.out _ _ (Fix.next5 ((Below.refl _ _).alloc (Nat.le_refl _) _) hHeld) (fun hHeld2 => ?_)
      clear hK K hHeld
      have hHeld := hHeld2
      clear hHeld2
      try simp only [Act.put, List.setIfInBounds_toArray, List.set_cons_zero, List.set_cons_succ]
      refine wpAnyH_ready (rs := [4]) (by kernel_rfl) (by simp) ?_
      refine AllReadyH.cons (o := { dst := some 40, op := Go.Op.call { callee := Go.Callee.builtin Go.Builtin.append, args := #[Go.Operand.tmp 37, Go.Operand.tmp 39], argTypes := #[65, 65] }, type := 65, pos := "extra.go:31", after := #[{ on := 1, ground := Go.Ground.data }, { on := 3, ground := Go.Ground.data }, { on := 1, ground := Go.Ground.chain }], guard := none }) rfl (fun K hK => ?_) AllReadyH.nil
      refine step_append_cellsK (by rfl) _ _ 65 23 (by rfl) i0' _ 5 56 Try.underlying65 HI.out HZ0.out HZ1.out HZ2.out rfl (by decide) w4.heap.size _ n _ (by rfl) HO1.out (some ⟨wy.heap.size, 0, none⟩) 1 1 (encR ⟨⟨rn, rt, rc⟩, ru, rd⟩) (by rfl) (fun h => by cases h) HC2.out (fun u hu => flatR_one [⟨⟨rn, rt, rc⟩, ru, rd⟩] u (by simpa [flatR] using hu)) (by omega) (by decide) (Fix.get5 hHeld).size ?_
      intro v' w6 hown' hgrow'
      have HO2 := Lib.hid hown'
      refine hK.out _ _ ((Fix.grown hHeld.1.out hgrow' (fun k hk => (HO1.out.lt k hk).1)).all5) (fun hHeld2 => ?_)
      clear hK K hHeld
      have hHeld := hHeld2
      clear hHeld2
      try simp only [Act.put, List.setIfInBounds_toArray, List.set_cons_zero, List.set_cons_succ]
      refine wpAnyH_ready (rs := [5]) (by kernel_rfl) (by simp) ?_
      refine AllReadyH.cons (o := { dst := some 41, op := Go.Op.call { callee := Go.Callee.value (Go.Operand.func 53), args := #[Go.Operand.tmp 40], argTypes := #[65] }, type := 66, pos := "extra.go:31", after := #[{ on := 4, ground := Go.Ground.data }, { on := 4, ground := Go.Ground.chain }], guard := none }) rfl (fun K hK => ?_) AllReadyH.nil
      obtain ⟨a6, c6, rfl, hrr, hnn⟩ := rowR_own (l := l ++ [⟨⟨rn, rt, rc⟩, ru, rd⟩]) (by rw [flatR_append]; simpa [flatR] using HO2.out)
      go_simp
      refine (group_any a6 (n + 1) c6 (l ++ [⟨⟨rn, rt, rc⟩, ru, rd⟩]) _ hrr hnn (by omega) HSZ1.out).mono ?_; rintro e w7 ⟨a7, c7, B, rfl, hcan, hsum, hslen, hsa, hb7⟩
      go_wp2_with fail
      refine hK.out _ _ (Fix.next5 hb7 hHeld) (fun hHeld2 => ?_)
      clear hK K hHeld
      have hHeld := hHeld2
      clear hHeld2
      try simp only [Act.put, List.setIfInBounds_toArray, List.set_cons_zero, List.set_cons_succ]
      refine wpAnyH_take (i := 6) (oi := { dst := some 8, op := Go.Op.assign (Go.Operand.tmp 41), type := 66, pos := "extra.go:31", after := #[{ on := 5, ground := Go.Ground.data }, { on := 5, ground := Go.Ground.chain }, { on := 0, ground := Go.Ground.phase }, { on := 1, ground := Go.Ground.phase }, { on := 2, ground := Go.Ground.phase }, { on := 3, ground := Go.Ground.phase }, { on := 4, ground := Go.Ground.phase }, { on := 5, ground := Go.Ground.phase }], guard := none }) (v := ?v6_105) rfl (by kernel_rfl) (by kernel_rfl) (by kernel_rfl) (fun _ _ _ h => h) (Or.inl ⟨by rfl, ?y6_105⟩) hHeld ?r6_105
      case y6_105 => intro w hSw; (try dsimp only at hSw); go_simp; try with_reducible rfl
      try simp only [Act.put, List.setIfInBounds_toArray, List.set_cons_zero, List.set_cons_succ]
      refine wpAnyH_done (by kernel_rfl) ?_ _
      go_wp2
      go_meet
      refine ⟨a7, c7, B.length, B, rfl, Lib.hid hcan, Lib.hid rfl, Lib.hid ?_, Lib.hid hsa, Lib.hid (Fix.get5 hHeld)⟩
      rw [List.length_append, List.length_singleton, HLN.out] at hsum hslen
      exact ⟨by omega, by omega⟩
    · go_simp
      have HC2 := Lib.hid (cells_lit w4.drew #[.string rn, .int .i64 rt, .int .i64 rc, .int .i64 ru, .string rd] 23)
      refine hK.out _ _ (Fix.next5 ((Below.refl _ _).alloc (Nat.le_refl _) _) hHeld) (fun hHeld2 => ?_)
      clear hK K hHeld
      have hHeld := hHeld2
      clear hHeld2
      try simp only [Act.put, List.setIfInBounds_toArray, List.set_cons_zero, List.set_cons_succ]
      refine wpAnyH_ready (rs := [1]) (by kernel_rfl) (by simp) ?_
      refine AllReadyH.cons (o := { dst := some 37, op := Go.Op.call { callee := Go.Callee.value (Go.Operand.func 41), args := #[Go.Operand.tmp 36], argTypes := #[65] }, type := 65, pos := "extra.go:31", after := #[{ on := 0, ground := Go.Ground.data }], guard := none }) rfl (fun K hK => ?_) AllReadyH.nil
      go_simp
      refine (copyRRs_any a n c l _ (HR4.out.below (Fix.get5 hHeld)) HN.out hn5).mono ?_; rintro e wy ⟨v1, rfl, hown, hb1⟩
      go_wp2_with fail
      have HO1 := Lib.hid (own_mono4 (base' := w4.heap.size) hown (Fix.get5 hHeld).size)
      clear hown
      replace HC2 := Lib.hid (HC2.out.below hb1)
      refine hK.out _ _ (Fix.next5 hb1 hHeld) (fun hHeld2 => ?_)
      clear hK K hHeld
      have hHeld := hHeld2
      clear hHeld2
      try simp only [Act.put, List.setIfInBounds_toArray, List.set_cons_zero, List.set_cons_succ]
      refine wpAnyH_ready (rs := [4]) (by kernel_rfl) (by simp) ?_
      refine AllReadyH.cons (o := { dst := some 40, op := Go.Op.call { callee := Go.Callee.builtin Go.Builtin.append, args := #[Go.Operand.tmp 37, Go.Operand.tmp 39], argTypes := #[65, 65] }, type := 65, pos := "extra.go:31", after := #[{ on := 1, ground := Go.Ground.data }, { on := 3, ground := Go.Ground.data }, { on := 1, ground := Go.Ground.chain }], guard := none }) rfl (fun K hK => ?_) AllReadyH.nil
      refine step_append_cellsK (by rfl) _ _ 65 23 (by rfl) i0' _ 5 56 Try.underlying65 HI.out HZ0.out HZ1.out HZ2.out rfl (by decide) w4.heap.size _ n _ (by rfl) HO1.out (some ⟨w4.heap.size, 0, none⟩) 1 1 (encR ⟨⟨rn, rt, rc⟩, ru, rd⟩) (by rfl) (fun h => by cases h) HC2.out (fun u hu => flatR_one [⟨⟨rn, rt, rc⟩, ru, rd⟩] u (by simpa [flatR] using hu)) (by omega) (by decide) (Fix.get5 hHeld).size ?_
      intro v' w6 hown' hgrow'
      have HO2 := Lib.hid hown'
      refine hK.out _ _ ((Fix.grown hHeld.1.out hgrow' (fun k hk => (HO1.out.lt k hk).1)).all5) (fun hHeld2 => ?_)
      clear hK K hHeld
      have hHeld := hHeld2
      clear hHeld2
      try simp only [Act.put, List.setIfInBounds_toArray, List.set_cons_zero, List.set_cons_succ]
      refine wpAnyH_ready (rs := [5]) (by kernel_rfl) (by simp) ?_
      refine AllReadyH.cons (o := { dst := some 41, op := Go.Op.call { callee := Go.Callee.value (Go.Operand.func 53), args := #[Go.Operand.tmp 40], argTypes := #[65] }, type := 66, pos := "extra.go:31", after := #[{ on := 4, ground := Go.Ground.data }, { on := 4, ground := Go.Ground.chain }], guard := none }) rfl (fun K hK => ?_) AllReadyH.nil
      obtain ⟨a6, c6, rfl, hrr, hnn⟩ := rowR_own (l := l ++ [⟨⟨rn, rt, rc⟩, ru, rd⟩]) (by rw [flatR_append]; simpa [flatR] using HO2.out)
      go_simp
      refine (group_any a6 (n + 1) c6 (l ++ [⟨⟨rn, rt, rc⟩, ru, rd⟩]) _ hrr hnn (by omega) HSZ1.out).mono ?_; rintro e w7 ⟨a7, c7, B, rfl, hcan, hsum, hslen, hsa, hb7⟩
      go_wp2_with fail
      refine hK.out _ _ (Fix.next5 hb7 hHeld) (fun hHeld2 => ?_)
      clear hK K hHeld
      have hHeld := hHeld2
      clear hHeld2
      try simp only [Act.put, List.setIfInBounds_toArray, List.set_cons_zero, List.set_cons_succ]
      refine wpAnyH_take (i := 6) (oi := { dst := some 8, op := Go.Op.assign (Go.Operand.tmp 41), type := 66, pos := "extra.go:31", after := #[{ on := 5, ground := Go.Ground.data }, { on := 5, ground := Go.Ground.chain }, { on := 0, ground := Go.Ground.phase }, { on := 1, ground := Go.Ground.phase }, { on := 2, ground := Go.Ground.phase }, { on := 3, ground := Go.Ground.phase }, { on := 4, ground := Go.Ground.phase }, { on := 5, ground := Go.Ground.phase }], guard := none }) (v := ?v6_109) rfl (by kernel_rfl) (by kernel_rfl) (by kernel_rfl) (fun _ _ _ h => h) (Or.inl ⟨by rfl, ?y6_109⟩) hHeld ?r6_109
      case y6_109 => intro w hSw; (try dsimp only at hSw); go_simp; try with_reducible rfl
      try simp only [Act.put, List.setIfInBounds_toArray, List.set_cons_zero, List.set_cons_succ]
      refine wpAnyH_done (by kernel_rfl) ?_ _
      go_wp2
      go_meet
      refine ⟨a7, c7, B.length, B, rfl, Lib.hid hcan, Lib.hid rfl, Lib.hid ?_, Lib.hid hsa, Lib.hid (Fix.get5 hHeld)⟩
      rw [List.length_append, List.length_singleton, HLN.out] at hsum hslen
      exact ⟨by omega, by omega⟩
  case rest =>
  obtain ⟨a8, c8, mb, B, rfl, HCB, HMB, HBS, HSB, HB5⟩ := hcut
  obtain ⟨w5, hw5⟩ : ∃ x, wc = x := ⟨_, rfl⟩
  rw [hw5] at HSB HB5 ⊢
  clear hw5
  have HSA5 := Lib.hid (HSA.out.below HB5.out)
  have HQ5 := Lib.hid (HQ4.out.below HB5.out)
  have HB6 := Lib.hid (HB4.out.trans (HB5.out.mono HB4.out.size))
  clear HSA HQ4 HB5 HB4
  go_wp2_with fail
  go_loopw [9, 10] (fun v i wr => ∃ k : Nat, k ≤ n ∧ i = .int .i64 k ∧ Hid (wr.ownsRow w5.heap.size 23 5 v k (flatR (turned l (tn % n) k))) ∧ Hid (Below w5.heap.size w5 wr)) (fun _ i _ => n - (intOf i).toNat)
  case atStart => exact ⟨0, Nat.zero_le _, rfl, World.ownsRow_nil _ _ _ _, Below.refl _ _⟩
  case round =>
    obtain ⟨k, hk, rfl, ho, hbw⟩ := hrel
    by_cases hlt : k < n
    · obtain ⟨m9, hm9⟩ : ∃ x, tn % n = x := ⟨_, rfl⟩
      have hm9n : m9 < n := by rw [← hm9]; exact Nat.mod_lt _ (by omega)
      obtain ⟨j, hj⟩ : ∃ x, (k + m9) % n = x := ⟨_, rfl⟩
      have hjn : j < n := by rw [← hj]; exact Nat.mod_lt _ (by omega)
      obtain ⟨b, o, r, rfl, hbl, hr, e0, e1, e2, e3, e4⟩ := (HR.out.below (HB6.out.trans (hbw.out.mono HB6.out.size))).at j hjn
      obtain ⟨⟨xn, xt, xc⟩, xu, xd⟩ := r
      have HT := Lib.hid (show turned l m9 (k + 1) = turned l m9 k ++ [⟨⟨xn, xt, xc⟩, xu, xd⟩] by
        rw [turned_next, HLN.out, hj, List.getD_eq_getElem?_getD, hr]; rfl)
      rw [hm9] at ho
      replace e0 : wr.cell? ⟨b, o + j * 5, none⟩ = some (.string xn) := e0
      replace e1 : wr.cell? ⟨b, o + j * 5 + 1, none⟩ = some (.int .i64 xt) := e1
      replace e2 : wr.cell? ⟨b, o + j * 5 + 2, none⟩ = some (.int .i64 xc) := e2
      replace e3 : wr.cell? ⟨b, o + j * 5 + 3, none⟩ = some (.int .i64 xu) := e3
      replace e4 : wr.cell? ⟨b, o + j * 5 + 4, none⟩ = some (.string xd) := e4
      have f1 : (tn : Int) % (n : Int) = (m9 : Int) := by rw [← hm9]; exact (Int.natCast_emod tn n).symm
      have f2 : ((k : Int) + (m9 : Int)) % (n : Int) = (j : Int) := by rw [← hj]; exact (Int.natCast_emod (k + m9) n).symm
      have i0 : (0 : Int) ≤ (j : Int) := by omega
      have i2 : (j : Int) < (n : Int) := by omega
      have i3 : (0 : Int) < (n : Int) := by omega
      have i4 : (0 : Int) ≤ (tn : Int) := by omega
      have HJ := Lib.hid hj
      have HM9 := Lib.hid hm9
      clear hr hj hm9
      have hal := (Below.refl wr.heap.size wr).alloc (Nat.le_refl _) (.cells #[.string xn, .int .i64 xt, .int .i64 xc, .int .i64 xu, .string xd] 23)
      have HAL := Lib.hid hal
      clear hal
      go_wp2_with (at_builtin; refine append_cellsK rfl _ _ 65 23 rfl i0' _ 5 56 Try.underlying65 HI.out HZ0.out HZ1.out HZ2.out rfl (by decide) w5.heap.size _ k _ rfl (own_below' ho.out HAL.out) (some ⟨wr.heap.size, 0, none⟩) 1 1 (encR ⟨⟨xn, xt, xc⟩, xu, xd⟩) rfl (fun h => by cases h) (cells_lit wr #[.string xn, .int .i64 xt, .int .i64 xc, .int .i64 xu, .string xd] _) (fun u hu => flatR_one [⟨⟨xn, xt, xc⟩, xu, xd⟩] u (by simpa [flatR] using hu)) (by omega) (by decide) (by have := hbw.out.size; simp; omega) ?_)
      intro v' w6 hown' hgrow'
      have HO3 := Lib.hid hown'
      have HB3 := Lib.hid ((hbw.out.trans (HAL.out.mono hbw.out.size)).grown hgrow' (by have := hbw.out.size; simp; omega) (fun k hk => (ho.out.lt k hk).1))
      clear hown' hgrow' f1 f2
      go_wp2
      go_roundw
      case rel => exact ⟨k + 1, by omega, by go_num, Lib.hid (by rw [HM9.out, HT.out, flatR_append]; simpa [flatR] using HO3.out), HB3⟩
      case measure => simp [intOf]; omega
    · have hkn : n = k := by omega
      subst hkn
      have hmem := turned_mem l (tn % n) (by
        rw [HLN.out]
        by_cases hz : n = 0
        · exact Or.inr hz
        · exact Or.inl (Nat.mod_lt _ (by omega)))
      rw [HLN.out] at hmem
      obtain ⟨T, hT⟩ : ∃ x, turned l (tn % n) n = x := ⟨_, rfl⟩
      rw [hT] at hmem ho
      obtain ⟨a9, c9, rfl, hrr, hnn⟩ := rowR_own ho.out
      have HTM := Lib.hid (fun x => (hmem x))
      have HRT := Lib.hid hrr
      have HNT := Lib.hid hnn
      obtain ⟨w6, hw6⟩ : ∃ x, wr = x := ⟨_, rfl⟩
      rw [hw6] at hbw HRT ⊢
      have HSA6 := Lib.hid (HSA5.out.below hbw.out)
      have HSB6 := Lib.hid (HSB.out.below hbw.out)
      have HQ6 := Lib.hid (HQ5.out.below hbw.out)
      have HB7 := Lib.hid (HB6.out.trans (hbw.out.mono HB6.out.size))
      clear hmem hT ho hrr hnn hw6 hbw HSA5 HSB HQ5 HB6
      obtain ⟨_, r0, r1, r2, r3, r4⟩ := HQ6.out
      go_upto_region 12 with fail
      go_cut [11] (fun v wx => GotB (⟨⟨rn, rt, rc⟩, ru, rd⟩ :: (T ++ [⟨⟨rn, rt, rc⟩, ru, rd⟩])) w6 v wx)
      case first =>
        have hfix : Fix w6 [(⟨q, 0, none⟩, .string rn), (⟨q, 1, none⟩, .int .i64 rt), (⟨q, 2, none⟩, .int .i64 rc), (⟨q, 3, none⟩, .int .i64 ru), (⟨q, 4, none⟩, .string rd)] w6 := Fix.start (by
          obtain ⟨x, y0, y1, y2, y3, y4⟩ := HQ6.out
          intro c hc
          simp only [List.mem_cons, List.not_mem_nil, or_false] at hc
          rcases hc with rfl | rfl | rfl | rfl | rfl
          · exact ⟨x, y0⟩
          · exact ⟨x, y1⟩
          · exact ⟨x, y2⟩
          · exact ⟨x, y3⟩
          · exact ⟨x, y4⟩)
        have HFX := Lib.hid hfix.drew.all5
        clear hfix
        have HSZ2 := Lib.hid (show ∀ x ∈ (⟨⟨rn, rt, rc⟩, ru, rd⟩ : R5) :: (T ++ [(⟨⟨rn, rt, rc⟩, ru, rd⟩ : R5)]), x.k.n.size ≤ 1000000 from fun x hx => by
          rcases List.mem_cons.1 hx with rfl | hx
          · have := HSMR.out.1; omega
          rcases List.mem_append.1 hx with hx | hx
          · have := (HSM.out x ((HTM.out x).1 hx)).1; omega
          · obtain rfl := List.mem_singleton.1 hx
            have := HSMR.out.1; omega)
        refine wp_region_held_drew (S := (fun wx => Hid (Fix w6 [(⟨q, 0, none⟩, .string rn), (⟨q, 1, none⟩, .int .i64 rt), (⟨q, 2, none⟩, .int .i64 rc), (⟨q, 3, none⟩, .int .i64 ru), (⟨q, 4, none⟩, .string rd)] wx) ∧ wx.cell? ⟨q, 0, none⟩ = some (.string rn) ∧ wx.cell? ⟨q, 1, none⟩ = some (.int .i64 rt) ∧ wx.cell? ⟨q, 2, none⟩ = some (.int .i64 rc) ∧ wx.cell? ⟨q, 3, none⟩ = some (.int .i64 ru) ∧ wx.cell? ⟨q, 4, none⟩ = some (.string rd))) (by kernel_rfl) (HFX.out) (fun hHeld => ?_)
        refine wpAnyH_take (i := 0) (oi := { dst := some 63, op := Go.Op.load 23 (Go.Operand.tmp 4), type := 23, pos := "extra.go:36", after := #[], guard := none }) (v := ?v0_201) rfl (by kernel_rfl) (by kernel_rfl) (by kernel_rfl) (fun _ _ _ h => h) (Or.inl ⟨by rfl, ?y0_201⟩) hHeld ?r0_201
        case y0_201 => intro w hSw; (try dsimp only at hSw); go_simp; try with_reducible rfl
        try simp only [Act.put, List.setIfInBounds_toArray, List.set_cons_zero, List.set_cons_succ]
        refine wpAnyH_take (i := 2) (oi := { dst := some 65, op := Go.Op.move (Go.Operand.tmp 9), type := 65, pos := "extra.go:36", after := #[], guard := none }) (v := ?v2_201) rfl (by kernel_rfl) (by kernel_rfl) (by kernel_rfl) (fun _ _ _ h => h) (Or.inl ⟨by rfl, ?y2_201⟩) hHeld ?r2_201
        case y2_201 => intro w hSw; (try dsimp only at hSw); go_simp; try with_reducible rfl
        try simp only [Act.put, List.setIfInBounds_toArray, List.set_cons_zero, List.set_cons_succ]
        refine wpAnyH_take (i := 4) (oi := { dst := some 67, op := Go.Op.load 23 (Go.Operand.tmp 4), type := 23, pos := "extra.go:36", after := #[], guard := none }) (v := ?v4_201) rfl (by kernel_rfl) (by kernel_rfl) (by kernel_rfl) (fun _ _ _ h => h) (Or.inl ⟨by rfl, ?y4_201⟩) hHeld ?r4_201
        case y4_201 => intro w hSw; (try dsimp only at hSw); go_simp; try with_reducible rfl
        try simp only [Act.put, List.setIfInBounds_toArray, List.set_cons_zero, List.set_cons_succ]
        refine wpAnyH_ready (rs := [1, 5]) (by kernel_rfl) (by simp) ?_
        refine AllReadyH.cons (o := { dst := some 64, op := Go.Op.buildSlice 65 1 #[(0, Go.Operand.tmp 63)], type := 65, pos := "extra.go:36", after := #[{ on := 0, ground := Go.Ground.data }], guard := none }) rfl (fun K hK => ?_) (AllReadyH.cons (o := { dst := some 68, op := Go.Op.buildSlice 65 1 #[(0, Go.Operand.tmp 67)], type := 65, pos := "extra.go:36", after := #[{ on := 4, ground := Go.Ground.data }], guard := none }) rfl (fun K hK => ?_) AllReadyH.nil)
        · go_simp
          have ho1 := World.ownsRow_lit (base := w6.heap.size) (e := 23) (size := 5) w6.drew #[.string rn, .int .i64 rt, .int .i64 rc, .int .i64 ru, .string rd] 1 (Fix.get5 hHeld).size (by decide) rfl
          have HO1 := Lib.hid ho1
          clear ho1
          refine hK.out _ _ (Fix.next5 ((Below.refl _ _).alloc (Nat.le_refl _) _) hHeld) (fun hHeld2 => ?_)
          clear hK K hHeld
          have hHeld := hHeld2
          clear hHeld2
          try simp only [Act.put, List.setIfInBounds_toArray, List.set_cons_zero, List.set_cons_succ]
          refine wpAnyH_ready (rs := [3, 5]) (by kernel_rfl) (by simp) ?_
          refine AllReadyH.cons (o := { dst := some 66, op := Go.Op.call { callee := Go.Callee.builtin Go.Builtin.append, args := #[Go.Operand.tmp 64, Go.Operand.tmp 65], argTypes := #[65, 65] }, type := 65, pos := "extra.go:36", after := #[{ on := 1, ground := Go.Ground.data }, { on := 2, ground := Go.Ground.data }], guard := none }) rfl (fun K hK => ?_) (AllReadyH.cons (o := { dst := some 68, op := Go.Op.buildSlice 65 1 #[(0, Go.Operand.tmp 67)], type := 65, pos := "extra.go:36", after := #[{ on := 4, ground := Go.Ground.data }], guard := none }) rfl (fun K hK => ?_) AllReadyH.nil)
          · refine step_append_cellsK (by rfl) _ _ 65 23 (by rfl) i0' _ 5 56 Try.underlying65 HI.out HZ0.out HZ1.out HZ2.out rfl (by decide) w6.heap.size _ 1 _ (by rfl) HO1.out a9 n c9 (flatR T) (by rfl) HNT.out (HRT.out.below (Fix.get5 hHeld)).2 (flatR_one T) (by omega) (by decide) (Fix.get5 hHeld).size ?_
            intro v' w8 hown' hgrow'
            have HO3 := Lib.hid hown'
            refine hK.out _ _ ((Fix.grown hHeld.1.out hgrow' (fun k hk => (HO1.out.lt k hk).1)).all5) (fun hHeld2 => ?_)
            clear hK K hHeld
            have hHeld := hHeld2
            clear hHeld2
            try simp only [Act.put, List.setIfInBounds_toArray, List.set_cons_zero, List.set_cons_succ]
            refine wpAnyH_ready (rs := [5]) (by kernel_rfl) (by simp) ?_
            refine AllReadyH.cons (o := { dst := some 68, op := Go.Op.buildSlice 65 1 #[(0, Go.Operand.tmp 67)], type := 65, pos := "extra.go:36", after := #[{ on := 4, ground := Go.Ground.data }], guard := none }) rfl (fun K hK => ?_) AllReadyH.nil
            go_simp
            have hc2 := cells_lit w8 #[.string rn, .int .i64 rt, .int .i64 rc, .int .i64 ru, .string rd] 23
            have HC2 := Lib.hid hc2
            clear hc2
            replace HO3 := Lib.hid (HO3.out.alloc (.cells #[.string rn, .int .i64 rt, .int .i64 rc, .int .i64 ru, .string rd] 23))
            refine hK.out _ _ (Fix.next5 ((Below.refl _ _).alloc (Nat.le_refl _) _) hHeld) (fun hHeld2 => ?_)
            clear hK K hHeld
            have hHeld := hHeld2
            clear hHeld2
            try simp only [Act.put, List.setIfInBounds_toArray, List.set_cons_zero, List.set_cons_succ]
            refine wpAnyH_ready (rs := [6]) (by kernel_rfl) (by simp) ?_
            refine AllReadyH.cons (o := { dst := some 69, op := Go.Op.call { callee := Go.Callee.builtin Go.Builtin.append, args := #[Go.Operand.tmp 66, Go.Operand.tmp 68], argTypes := #[65, 65] }, type := 65, pos := "extra.go:36", after := #[{ on := 3, ground := Go.Ground.data }, { on := 5, ground := Go.Ground.data }, { on := 3, ground := Go.Ground.chain }], guard := none }) rfl (fun K hK => ?_) AllReadyH.nil
            refine step_append_cellsK (by rfl) _ _ 65 23 (by rfl) i0' _ 5 56 Try.underlying65 HI.out HZ0.out HZ1.out HZ2.out rfl (by decide) w6.heap.size _ (1 + n) _ (by rfl) HO3.out (some ⟨w8.heap.size, 0, none⟩) 1 1 (encR ⟨⟨rn, rt, rc⟩, ru, rd⟩) (by rfl) (fun h => by cases h) HC2.out (fun u hu => flatR_one [⟨⟨rn, rt, rc⟩, ru, rd⟩] u (by simpa [flatR] using hu)) (by omega) (by decide) (Fix.get5 hHeld).size ?_
            intro v2' w9 hown2' hgrow2'
            have HO4 := Lib.hid hown2'
            refine hK.out _ _ ((Fix.grown hHeld.1.out hgrow2' (fun k hk => (HO3.out.lt k hk).1)).all5) (fun hHeld2 => ?_)
            clear hK K hHeld
            have hHeld := hHeld2
            clear hHeld2
            try simp only [Act.put, List.setIfInBounds_toArray, List.set_cons_zero, List.set_cons_succ]
            refine wpAnyH_ready (rs := [7]) (by kernel_rfl) (by simp) ?_
            refine AllReadyH.cons (o := { dst := some 70, op := Go.Op.call { callee := Go.Callee.value (Go.Operand.func 53), args := #[Go.Operand.tmp 69], argTypes := #[65] }, type := 66, pos := "extra.go:36", after := #[{ on := 6, ground := Go.Ground.data }, { on := 6, ground := Go.Ground.chain }], guard := none }) rfl (fun K hK => ?_) AllReadyH.nil
            obtain ⟨a6, c6, rfl, hrr, hnn⟩ := rowR_own (l := (⟨⟨rn, rt, rc⟩, ru, rd⟩ : R5) :: (T ++ [⟨⟨rn, rt, rc⟩, ru, rd⟩])) (by simpa [flatR, encR] using HO4.out)
            go_simp
            refine (group_any a6 (1 + n + 1) c6 (⟨⟨rn, rt, rc⟩, ru, rd⟩ :: (T ++ [⟨⟨rn, rt, rc⟩, ru, rd⟩])) _ hrr hnn (by omega) HSZ2.out).mono ?_; rintro e w10 ⟨a7, c7, B2, rfl, hcan, hsum, hslen, hsa, hb7⟩
            go_wp2_with fail
            refine hK.out _ _ (Fix.next5 hb7 hHeld) (fun hHeld2 => ?_)
            clear hK K hHeld
            have hHeld := hHeld2
            clear hHeld2
            try simp only [Act.put, List.setIfInBounds_toArray, List.set_cons_zero, List.set_cons_succ]
            refine wpAnyH_take (i := 8) (oi := { dst := some 11, op := Go.Op.assign (Go.Operand.tmp 70), type := 66, pos := "extra.go:36", after := #[{ on := 7, ground := Go.Ground.data }, { on := 7, ground := Go.Ground.chain }, { on := 0, ground := Go.Ground.phase }, { on := 1, ground := Go.Ground.phase }, { on := 2, ground := Go.Ground.phase }, { on := 3, ground := Go.Ground.phase }, { on := 4, ground := Go.Ground.phase }, { on := 5, ground := Go.Ground.phase }, { on := 6, ground := Go.Ground.phase }, { on := 7, ground := Go.Ground.phase }], guard := none }) (v := ?v8_206) rfl (by kernel_rfl) (by kernel_rfl) (by kernel_rfl) (fun _ _ _ h => h) (Or.inl ⟨by rfl, ?y8_206⟩) hHeld ?r8_206
            case y8_206 => intro w hSw; (try dsimp only at hSw); go_simp; try with_reducible rfl
            try simp only [Act.put, List.setIfInBounds_toArray, List.set_cons_zero, List.set_cons_succ]
            refine wpAnyH_done (by kernel_rfl) ?_ _
            go_wp2
            go_meet
            refine ⟨a7, c7, B2.length, B2, rfl, Lib.hid hcan, Lib.hid rfl, Lib.hid ?_, Lib.hid hsa, Lib.hid (Fix.get5 hHeld)⟩
            rw [List.length_cons, List.length_append, List.length_singleton, HRT.out.1] at hsum hslen
            exact ⟨by omega, by omega⟩
          · go_simp
            have hc2 := cells_lit (w6.drew.alloc (.cells #[.string rn, .int .i64 rt, .int .i64 rc, .int .i64 ru, .string rd] 23)) #[.string rn, .int .i64 rt, .int .i64 rc, .int .i64 ru, .string rd] 23
            rw [World.size_alloc] at hc2
            have HC2 := Lib.hid hc2
            clear hc2
            replace HO1 := Lib.hid (HO1.out.alloc (.cells #[.string rn, .int .i64 rt, .int .i64 rc, .int .i64 ru, .string rd] 23))
            refine hK.out _ _ (Fix.next5 ((Below.refl _ _).alloc (Nat.le_refl _) _) hHeld) (fun hHeld2 => ?_)
            clear hK K hHeld
            have hHeld := hHeld2
            clear hHeld2
            try simp only [Act.put, List.setIfInBounds_toArray, List.set_cons_zero, List.set_cons_succ]
            refine wpAnyH_ready (rs := [3]) (by kernel_rfl) (by simp) ?_
            refine AllReadyH.cons (o := { dst := some 66, op := Go.Op.call { callee := Go.Callee.builtin Go.Builtin.append, args := #[Go.Operand.tmp 64, Go.Operand.tmp 65], argTypes := #[65, 65] }, type := 65, pos := "extra.go:36", after := #[{ on := 1, ground := Go.Ground.data }, { on := 2, ground := Go.Ground.data }], guard := none }) rfl (fun K hK => ?_) AllReadyH.nil
            refine step_append_cellsK (by rfl) _ _ 65 23 (by rfl) i0' _ 5 56 Try.underlying65 HI.out HZ0.out HZ1.out HZ2.out rfl (by decide) w6.heap.size _ 1 _ (by rfl) HO1.out a9 n c9 (flatR T) (by rfl) HNT.out (HRT.out.below (Fix.get5 hHeld)).2 (flatR_one T) (by omega) (by decide) (Fix.get5 hHeld).size ?_
            intro v' w8 hown' hgrow'
            have HO3 := Lib.hid hown'
            replace HC2 := Lib.hid (cellsAt_grown HC2.out hgrow' (by simp [Value.ownBlock]))
            refine hK.out _ _ ((Fix.grown hHeld.1.out hgrow' (fun k hk => (HO1.out.lt k hk).1)).all5) (fun hHeld2 => ?_)
            clear hK K hHeld
            have hHeld := hHeld2
            clear hHeld2
            try simp only [Act.put, List.setIfInBounds_toArray, List.set_cons_zero, List.set_cons_succ]
            refine wpAnyH_ready (rs := [6]) (by kernel_rfl) (by simp) ?_
            refine AllReadyH.cons (o := { dst := some 69, op := Go.Op.call { callee := Go.Callee.builtin Go.Builtin.append, args := #[Go.Operand.tmp 66, Go.Operand.tmp 68], argTypes := #[65, 65] }, type := 65, pos := "extra.go:36", after := #[{ on := 3, ground := Go.Ground.data }, { on := 5, ground := Go.Ground.data }, { on := 3, ground := Go.Ground.chain }], guard := none }) rfl (fun K hK => ?_) AllReadyH.nil
            refine step_append_cellsK (by rfl) _ _ 65 23 (by rfl) i0' _ 5 56 Try.underlying65 HI.out HZ0.out HZ1.out HZ2.out rfl (by decide) w6.heap.size _ (1 + n) _ (by rfl) HO3.out (some ⟨w6.heap.size + 1, 0, none⟩) 1 1 (encR ⟨⟨rn, rt, rc⟩, ru, rd⟩) (by rfl) (fun h => by cases h) HC2.out (fun u hu => flatR_one [⟨⟨rn, rt, rc⟩, ru, rd⟩] u (by simpa [flatR] using hu)) (by omega) (by decide) (Fix.get5 hHeld).size ?_
            intro v2' w9 hown2' hgrow2'
            have HO4 := Lib.hid hown2'
            refine hK.out _ _ ((Fix.grown hHeld.1.out hgrow2' (fun k hk => (HO3.out.lt k hk).1)).all5) (fun hHeld2 => ?_)
            clear hK K hHeld
            have hHeld := hHeld2
            clear hHeld2
            try simp only [Act.put, List.setIfInBounds_toArray, List.set_cons_zero, List.set_cons_succ]
            refine wpAnyH_ready (rs := [7]) (by kernel_rfl) (by simp) ?_
            refine AllReadyH.cons (o := { dst := some 70, op := Go.Op.call { callee := Go.Callee.value (Go.Operand.func 53), args := #[Go.Operand.tmp 69], argTypes := #[65] }, type := 66, pos := "extra.go:36", after := #[{ on := 6, ground := Go.Ground.data }, { on := 6, ground := Go.Ground.chain }], guard := none }) rfl (fun K hK => ?_) AllReadyH.nil
            obtain ⟨a6, c6, rfl, hrr, hnn⟩ := rowR_own (l := (⟨⟨rn, rt, rc⟩, ru, rd⟩ : R5) :: (T ++ [⟨⟨rn, rt, rc⟩, ru, rd⟩])) (by simpa [flatR, encR] using HO4.out)
            go_simp
            refine (group_any a6 (1 + n + 1) c6 (⟨⟨rn, rt, rc⟩, ru, rd⟩ :: (T ++ [⟨⟨rn, rt, rc⟩, ru, rd⟩])) _ hrr hnn (by omega) HSZ2.out).mono ?_; rintro e w10 ⟨a7, c7, B2, rfl, hcan, hsum, hslen, hsa, hb7⟩
            go_wp2_with fail
            refine hK.out _ _ (Fix.next5 hb7 hHeld) (fun hHeld2 => ?_)
            clear hK K hHeld
            have hHeld := hHeld2
            clear hHeld2
            try simp only [Act.put, List.setIfInBounds_toArray, List.set_cons_zero, List.set_cons_succ]
            refine wpAnyH_take (i := 8) (oi := { dst := some 11, op := Go.Op.assign (Go.Operand.tmp 70), type := 66, pos := "extra.go:36", after := #[{ on := 7, ground := Go.Ground.data }, { on := 7, ground := Go.Ground.chain }, { on := 0, ground := Go.Ground.phase }, { on := 1, ground := Go.Ground.phase }, { on := 2, ground := Go.Ground.phase }, { on := 3, ground := Go.Ground.phase }, { on := 4, ground := Go.Ground.phase }, { on := 5, ground := Go.Ground.phase }, { on := 6, ground := Go.Ground.phase }, { on := 7, ground := Go.Ground.phase }], guard := none }) (v := ?v8_210) rfl (by kernel_rfl) (by kernel_rfl) (by kernel_rfl) (fun _ _ _ h => h) (Or.inl ⟨by rfl, ?y8_210⟩) hHeld ?r8_210
            case y8_210 => intro w hSw; (try dsimp only at hSw); go_simp; try with_reducible rfl
            try simp only [Act.put, List.setIfInBounds_toArray, List.set_cons_zero, List.set_cons_succ]
            refine wpAnyH_done (by kernel_rfl) ?_ _
            go_wp2
            go_meet
            refine ⟨a7, c7, B2.length, B2, rfl, Lib.hid hcan, Lib.hid rfl, Lib.hid ?_, Lib.hid hsa, Lib.hid (Fix.get5 hHeld)⟩
            rw [List.length_cons, List.length_append, List.length_singleton, HRT.out.1] at hsum hslen
            exact ⟨by omega, by omega⟩
        · go_simp
          have hc2 := cells_lit w6.drew #[.string rn, .int .i64 rt, .int .i64 rc, .int .i64 ru, .string rd] 23
          have HC2 := Lib.hid hc2
          clear hc2
          refine hK.out _ _ (Fix.next5 ((Below.refl _ _).alloc (Nat.le_refl _) _) hHeld) (fun hHeld2 => ?_)
          clear hK K hHeld
          have hHeld := hHeld2
          clear hHeld2
          try simp only [Act.put, List.setIfInBounds_toArray, List.set_cons_zero, List.set_cons_succ]
          refine wpAnyH_ready (rs := [1]) (by kernel_rfl) (by simp) ?_
          refine AllReadyH.cons (o := { dst := some 64, op := Go.Op.buildSlice 65 1 #[(0, Go.Operand.tmp 63)], type := 65, pos := "extra.go:36", after := #[{ on := 0, ground := Go.Ground.data }], guard := none }) rfl (fun K hK => ?_) AllReadyH.nil
          go_simp
          have ho1 := World.ownsRow_lit (base := w6.heap.size) (e := 23) (size := 5) (w6.drew.alloc (.cells #[.string rn, .int .i64 rt, .int .i64 rc, .int .i64 ru, .string rd] 23)) #[.string rn, .int .i64 rt, .int .i64 rc, .int .i64 ru, .string rd] 1 (Fix.get5 hHeld).size (by decide) rfl
          rw [World.size_alloc] at ho1
          have HO1 := Lib.hid ho1
          clear ho1
          replace HC2 := Lib.hid (HC2.out.below ((Below.refl _ _).alloc (Nat.le_refl _) (.cells #[.string rn, .int .i64 rt, .int .i64 rc, .int .i64 ru, .string rd] 23)))
          refine hK.out _ _ (Fix.next5 ((Below.refl _ _).alloc (Nat.le_refl _) _) hHeld) (fun hHeld2 => ?_)
          clear hK K hHeld
          have hHeld := hHeld2
          clear hHeld2
          try simp only [Act.put, List.setIfInBounds_toArray, List.set_cons_zero, List.set_cons_succ]
          refine wpAnyH_ready (rs := [3]) (by kernel_rfl) (by simp) ?_
          refine AllReadyH.cons (o := { dst := some 66, op := Go.Op.call { callee := Go.Callee.builtin Go.Builtin.append, args := #[Go.Operand.tmp 64, Go.Operand.tmp 65], argTypes := #[65, 65] }, type := 65, pos := "extra.go:36", after := #[{ on := 1, ground := Go.Ground.data }, { on := 2, ground := Go.Ground.data }], guard := none }) rfl (fun K hK => ?_) AllReadyH.nil
          refine step_append_cellsK (by rfl) _ _ 65 23 (by rfl) i0' _ 5 56 Try.underlying65 HI.out HZ0.out HZ1.out HZ2.out rfl (by decide) w6.heap.size _ 1 _ (by rfl) HO1.out a9 n c9 (flatR T) (by rfl) HNT.out (HRT.out.below (Fix.get5 hHeld)).2 (flatR_one T) (by omega) (by decide) (Fix.get5 hHeld).size ?_
          intro v' w8 hown' hgrow'
          have HO3 := Lib.hid hown'
          replace HC2 := Lib.hid (cellsAt_grown HC2.out hgrow' (by simp [Value.ownBlock]))
          refine hK.out _ _ ((Fix.grown hHeld.1.out hgrow' (fun k hk => (HO1.out.lt k hk).1)).all5) (fun hHeld2 => ?_)
          clear hK K hHeld
          have hHeld := hHeld2
          clear hHeld2
          try simp only [Act.put, List.setIfInBounds_toArray, List.set_cons_zero, List.set_cons_succ]
          refine wpAnyH_ready (rs := [6]) (by kernel_rfl) (by simp) ?_
          refine AllReadyH.cons (o := { dst := some 69, op := Go.Op.call { callee := Go.Callee.builtin Go.Builtin.append, args := #[Go.Operand.tmp 66, Go.Operand.tmp 68], argTypes := #[65, 65] }, type := 65, pos := "extra.go:36", after := #[{ on := 3, ground := Go.Ground.data }, { on := 5, ground := Go.Ground.data }, { on := 3, ground := Go.Ground.chain }], guard := none }) rfl (fun K hK => ?_) AllReadyH.nil
          refine step_append_cellsK (by rfl) _ _ 65 23 (by rfl) i0' _ 5 56 Try.underlying65 HI.out HZ0.out HZ1.out HZ2.out rfl (by decide) w6.heap.size _ (1 + n) _ (by rfl) HO3.out (some ⟨w6.heap.size, 0, none⟩) 1 1 (encR ⟨⟨rn, rt, rc⟩, ru, rd⟩) (by rfl) (fun h => by cases h) HC2.out (fun u hu => flatR_one [⟨⟨rn, rt, rc⟩, ru, rd⟩] u (by simpa [flatR] using hu)) (by omega) (by decide) (Fix.get5 hHeld).size ?_
          intro v2' w9 hown2' hgrow2'
          have HO4 := Lib.hid hown2'
          refine hK.out _ _ ((Fix.grown hHeld.1.out hgrow2' (fun k hk => (HO3.out.lt k hk).1)).all5) (fun hHeld2 => ?_)
          clear hK K hHeld
          have hHeld := hHeld2
          clear hHeld2
          try simp only [Act.put, List.setIfInBounds_toArray, List.set_cons_zero, List.set_cons_succ]
          refine wpAnyH_ready (rs := [7]) (by kernel_rfl) (by simp) ?_
          refine AllReadyH.cons (o := { dst := some 70, op := Go.Op.call { callee := Go.Callee.value (Go.Operand.func 53), args := #[Go.Operand.tmp 69], argTypes := #[65] }, type := 66, pos := "extra.go:36", after := #[{ on := 6, ground := Go.Ground.data }, { on := 6, ground := Go.Ground.chain }], guard := none }) rfl (fun K hK => ?_) AllReadyH.nil
          obtain ⟨a6, c6, rfl, hrr, hnn⟩ := rowR_own (l := (⟨⟨rn, rt, rc⟩, ru, rd⟩ : R5) :: (T ++ [⟨⟨rn, rt, rc⟩, ru, rd⟩])) (by simpa [flatR, encR] using HO4.out)
          go_simp
          refine (group_any a6 (1 + n + 1) c6 (⟨⟨rn, rt, rc⟩, ru, rd⟩ :: (T ++ [⟨⟨rn, rt, rc⟩, ru, rd⟩])) _ hrr hnn (by omega) HSZ2.out).mono ?_; rintro e w10 ⟨a7, c7, B2, rfl, hcan, hsum, hslen, hsa, hb7⟩
          go_wp2_with fail
          refine hK.out _ _ (Fix.next5 hb7 hHeld) (fun hHeld2 => ?_)
          clear hK K hHeld
          have hHeld := hHeld2
          clear hHeld2
          try simp only [Act.put, List.setIfInBounds_toArray, List.set_cons_zero, List.set_cons_succ]
          refine wpAnyH_take (i := 8) (oi := { dst := some 11, op := Go.Op.assign (Go.Operand.tmp 70), type := 66, pos := "extra.go:36", after := #[{ on := 7, ground := Go.Ground.data }, { on := 7, ground := Go.Ground.chain }, { on := 0, ground := Go.Ground.phase }, { on := 1, ground := Go.Ground.phase }, { on := 2, ground := Go.Ground.phase }, { on := 3, ground := Go.Ground.phase }, { on := 4, ground := Go.Ground.phase }, { on := 5, ground := Go.Ground.phase }, { on := 6, ground := Go.Ground.phase }, { on := 7, ground := Go.Ground.phase }], guard := none }) (v := ?v8_215) rfl (by kernel_rfl) (by kernel_rfl) (by kernel_rfl) (fun _ _ _ h => h) (Or.inl ⟨by rfl, ?y8_215⟩) hHeld ?r8_215
          case y8_215 => intro w hSw; (try dsimp only at hSw); go_simp; try with_reducible rfl
          try simp only [Act.put, List.setIfInBounds_toArray, List.set_cons_zero, List.set_cons_succ]
          refine wpAnyH_done (by kernel_rfl) ?_ _
          go_wp2
          go_meet
          refine ⟨a7, c7, B2.length, B2, rfl, Lib.hid hcan, Lib.hid rfl, Lib.hid ?_, Lib.hid hsa, Lib.hid (Fix.get5 hHeld)⟩
          rw [List.length_cons, List.length_append, List.length_singleton, HRT.out.1] at hsum hslen
          exact ⟨by omega, by omega⟩
      case rest =>
      clear r0 r1 r2 r3 r4
      -- BEHIND
      obtain ⟨a11, c11, mc, C, rfl, HCC, HMC, HCS, HSC, HB8⟩ := hcut
      obtain ⟨w7, hw7⟩ : ∃ x, wc = x := ⟨_, rfl⟩
      rw [hw7] at HSC HB8 ⊢
      have hBC : B = C := canon_eq HCB.out (HCC.out.of_mem (l' := l ++ [⟨⟨rn, rt, rc⟩, ru, rd⟩]) (fun x => by
        rw [List.mem_cons, List.mem_append, List.mem_append, HTM.out x, List.mem_singleton]
        exact ⟨fun h => h.elim Or.inr id, Or.inr⟩)) (fun _ _ => Iff.rfl) (fun _ _ => Iff.rfl)
      have hmc : mc = mb := by rw [← HMC.out, ← HMB.out, hBC]
      subst hmc
      rw [← hBC] at HSC
      have HSA7 := Lib.hid (HSA6.out.below HB8.out)
      have HSB7 := Lib.hid (HSB6.out.below HB8.out)
      have HQ7 := Lib.hid (HQ6.out.below HB8.out)
      have HB9 := Lib.hid (HB7.out.trans (HB8.out.mono HB7.out.size))
      have hmb := HBS.out.1
      have HDB2 := Lib.hid (show ∀ s ∈ B, s.data.length ≤ 402 from fun s hs => by have := data_le_sum hs; have := HBS.out.2; omega)
      clear hw7 hBC HCC HMC HCS HSA6 HSB6 HQ6 HB7 HB8 HRT HNT HTM
      go_wp2_with fail
      refine (plains_any a8 mc c8 B w7 HSB7.out (by omega)).mono ?_
      rintro e w8 ⟨⟨a12, c12, rfl, hs1⟩, hb⟩
      have HS1 := Lib.hid hs1
      have HSC8 := Lib.hid (HSC.out.below hb)
      have HSA8 := Lib.hid (HSA7.out.below hb)
      have HSB8 := Lib.hid (HSB7.out.below hb)
      have HQ8 := Lib.hid (HQ7.out.below hb)
      have HB10 := Lib.hid (HB9.out.trans (hb.mono HB9.out.size))
      clear hs1 hb HSC HSA7 HSB7 HQ7 HB9
      go_wp2_with fail
      refine (plains_any a11 mc c11 B w8 HSC8.out (by omega)).mono ?_
      rintro e w9 ⟨⟨a13, c13, rfl, hs1⟩, hb⟩
      have HS2 := Lib.hid hs1
      have HS19 := Lib.hid (HS1.out.below hb)
      have HSA9 := Lib.hid (HSA8.out.below hb)
      have HSB9 := Lib.hid (HSB8.out.below hb)
      have HQ9 := Lib.hid (HQ8.out.below hb)
      have HB11' := Lib.hid (HB10.out.trans (hb.mono HB10.out.size))
      clear hs1 hb HS1 HSC8 HSA8 HSB8 HQ8 HB10
      go_wp2_with fail
      refine (sameSets_any a12 a13 mc mc c12 c13 B B w9 HS19.out HS2.out (by omega) (by omega) (fun s hs => by have := HDB2.out s hs; omega)).mono ?_
      rintro e w10 ⟨⟨x, rfl, hx⟩, hb⟩
      obtain rfl : x = true := hx.2 rfl
      have HSA10 := Lib.hid (HSA9.out.below hb)
      have HSB10 := Lib.hid (HSB9.out.below hb)
      have HQ10 := Lib.hid (HQ9.out.below hb)
      have HBT := Lib.hid (HB11'.out.trans (hb.mono HB11'.out.size))
      clear hb hx HS19 HS2 HSA9 HSB9 HQ9 HB11'
      go_wp2_with fail
      go_loopw [12] (fun i wr => ∃ k : Nat, k ≤ mc ∧ i = .int .i64 k ∧ Hid (Below w10.heap.size w10 wr)) (fun i _ => mc - (intOf i).toNat)
      case atStart => exact ⟨0, Nat.zero_le _, rfl, Below.refl _ _⟩
      case round =>
        obtain ⟨k, hk, rfl, HBW0⟩ := hrel
        by_cases hlt : k < mc
        · rcases HSB10.out.2 with h9 | ⟨b, o, rfl, hbl, hc⟩
          · omega
          obtain ⟨p, c9, hs⟩ := hc k hlt
          have hmem : B.getD k ssD ∈ B := by
            rw [List.getD_eq_getElem?_getD, List.getElem?_eq_getElem (by have := HMB.out; omega)]
            exact List.getElem_mem _
          have hdl4 := HDB2.out _ hmem
          obtain ⟨s, hss⟩ : ∃ s, B.getD k ssD = s := ⟨_, rfl⟩
          rw [hss] at hs hdl4 hmem
          have HSX := Lib.hid hs
          have hcase := fun (hk : s.k = (⟨rn, rt, rc⟩ : Ky)) => more_own HCA.out HCB.out hmem hk
          have hcase2 := fun (hk : ¬ s.k = (⟨rn, rt, rc⟩ : Ky)) => more_other HCA.out HCB.out hmem hk
          obtain ⟨⟨sn, st, sc1⟩, su, sd⟩ := s
          replace hdl4 : sd.length ≤ 402 := hdl4
          have hpr : RowS w10 p sd.length sd := hs.2.2.2.2.2.1
          obtain ⟨dl, hdl⟩ : ∃ x, sd.length = x := ⟨_, rfl⟩
          rw [hdl] at hdl4 hpr
          have HDL := Lib.hid hdl
          have HPR := Lib.hid hpr
          have HC1 := Lib.hid hcase
          have HC2 := Lib.hid hcase2
          clear hc hmem hss hs hdl hpr hcase hcase2
          obtain ⟨z0, z1, z2, z3, z4, -⟩ := HSX.out.below hbl HBW0.out
          replace z0 : wr.cell? ⟨b, o + k * 5, none⟩ = some (.string sn) := z0
          replace z1 : wr.cell? ⟨b, o + k * 5 + 1, none⟩ = some (.int .i64 st) := z1
          replace z2 : wr.cell? ⟨b, o + k * 5 + 2, none⟩ = some (.int .i64 sc1) := z2
          go_wp2_with fail
          refine (find_any a1 m c1 A sn st sc1 wr (HSA10.out.below HBW0.out) (by omega) (fun s hs => by have := HDA.out s hs; omega)).mono ?_
          rintro e w11 ⟨hfd, hb11⟩
          have HB11 := Lib.hid hb11
          have HBW := Lib.hid HBW0.out
          clear z0 z1 z2 z3 z4 hb11
          by_cases hkey : (⟨sn, st, sc1⟩ : Ky) = ⟨rn, rt, rc⟩
          · have hke : ∀ W, (binOp .eql 68 (.agg #[.string sn, .int .i64 st, .int .i64 sc1]) (.agg #[.string rn, .int .i64 rt, .int .i64 rc])).run Try.prog W = .ok (.bool true) W := fun W => by
              rw [key_eql, (key_same ⟨sn, st, sc1⟩ ⟨rn, rt, rc⟩).2 hkey]
            obtain ⟨hrd, hsu, hq9⟩ := HC1.out hkey
            replace hrd : rd ∈ sd := hrd
            replace hsu : su ≤ ru := hsu
            have HRD := Lib.hid hrd
            have g1 : decide (ru < su) = false := dF (by omega)
            clear hkey hrd
            rcases hfd with ⟨s', dv, h1, rfl, hown⟩ | ⟨h1, rfl⟩
            · obtain ⟨hqu, hqd⟩ := hq9 s' h1
              obtain ⟨⟨qn, qt, qc⟩, qu, qd⟩ := s'
              replace hqu : su ≤ qu := hqu
              replace hqd : sd.length ≤ qd.length + 1 := hqd
              rw [HDL.out] at hqd
              replace hown : w11.ownsRow wr.heap.size 9 1 dv qd.length (sc qd) := hown
              have hqa : qd.length ≤ 400 := HDA.out _ ((findK_iff HCA.out _ _).1 h1).1
              obtain ⟨ql, hql⟩ : ∃ x, qd.length = x := ⟨_, rfl⟩
              rw [hql] at hqd hown hqa
              obtain ⟨pa, pc, rfl, hrow, _⟩ := rowS_of_own hown
              have g2 : decide (qu < su) = false := dF (by omega)
              have g3 : decide ((ql : Int) + 1 < (dl : Int)) = false := dF (by omega)
              clear hown hql h1 hq9
              have hal := (Below.refl w11.heap.size w11).alloc (Nat.le_refl _) (.cells #[.string qn, .int .i64 qt, .int .i64 qc, .int .i64 qu, .slice pa ql pc] 73)
              have hc5 := c5_new w11 (.string qn) (.int .i64 qt) (.int .i64 qc) (.int .i64 qu) (.slice pa ql pc) 73
              have HROW := Lib.hid (hrow.below hal)
              have HB12 := Lib.hid (HB11.out.trans (hal.mono HB11.out.size))
              clear hal
              go_upto_region 19 with fail
              obtain ⟨w12, hw12⟩ : ∃ x, (w11.alloc (.cells #[.string qn, .int .i64 qt, .int .i64 qc, .int .i64 qu, .slice pa ql pc] 73)) = x := ⟨_, rfl⟩
              rw [hw12] at hc5 HB12 ⊢
              rw [hw12] at HROW
              obtain ⟨x, hx⟩ : ∃ y, w11.heap.size = y := ⟨_, rfl⟩
              rw [hx] at hc5 ⊢
              have hbX : Below w10.heap.size w10 w12 := HBW.out.trans (HB12.out.mono HBW.out.size)
              have hfix : Fix w12 [(⟨b, o + k * 5, none⟩, .string sn), (⟨b, o + k * 5 + 1, none⟩, .int .i64 st), (⟨b, o + k * 5 + 2, none⟩, .int .i64 sc1), (⟨b, o + k * 5 + 3, none⟩, .int .i64 su), (⟨b, o + k * 5 + 4, none⟩, .slice p dl c9), (⟨q, 0, none⟩, .string rn), (⟨q, 1, none⟩, .int .i64 rt), (⟨q, 2, none⟩, .int .i64 rc), (⟨q, 3, none⟩, .int .i64 ru), (⟨q, 4, none⟩, .string rd), (⟨x, 0, none⟩, .string qn), (⟨x, 1, none⟩, .int .i64 qt), (⟨x, 2, none⟩, .int .i64 qc), (⟨x, 3, none⟩, .int .i64 qu), (⟨x, 4, none⟩, .slice pa ql pc)] w12 := Fix.start (by
                have hbl2 : b < w12.heap.size := Nat.lt_of_lt_of_le hbl hbX.size
                obtain ⟨z0, z1, z2, z3, z4, _⟩ := HSX.out.below hbl hbX
                replace z4 : w12.cell? ⟨b, o + k * 5 + 4, none⟩ = some (.slice p sd.length c9) := z4
                rw [HDL.out] at z4
                obtain ⟨hqs, r0, r1, r2, r3, r4⟩ := HQ10.out.below hbX
                obtain ⟨hxs, y0, y1, y2, y3, y4, _⟩ := hc5
                intro c hc
                simp only [List.mem_cons, List.not_mem_nil, or_false] at hc
                rcases hc with rfl | rfl | rfl | rfl | rfl | rfl | rfl | rfl | rfl | rfl | rfl | rfl | rfl | rfl | rfl
                · exact ⟨hbl2, z0⟩
                · exact ⟨hbl2, z1⟩
                · exact ⟨hbl2, z2⟩
                · exact ⟨hbl2, z3⟩
                · exact ⟨hbl2, z4⟩
                · exact ⟨hqs, r0⟩
                · exact ⟨hqs, r1⟩
                · exact ⟨hqs, r2⟩
                · exact ⟨hqs, r3⟩
                · exact ⟨hqs, r4⟩
                · exact ⟨hxs, y0⟩
                · exact ⟨hxs, y1⟩
                · exact ⟨hxs, y2⟩
                · exact ⟨hxs, y3⟩
                · exact ⟨hxs, y4⟩)
              have HFX := Lib.hid hfix.drew.all15
              have HDB := Lib.hid hbX
              clear hw12 hx hbX hfix hc5
              have HKO := Lib.hid (fun wx => (keyOf' rn rt rc ru rd wx).mono (fun e9 w9 (h : _ ∧ _) => (⟨h.1, h.2.b⟩ : _ ∧ Below wx.heap.size wx w9)))
              have i0 : (0 : Int) ≤ (k : Int) := by omega
              have i2 : (k : Int) < (mc : Int) := by omega
              refine wp_region_held_drew (S := (fun wx => Hid (Fix w12 [(⟨b, o + k * 5, none⟩, .string sn), (⟨b, o + k * 5 + 1, none⟩, .int .i64 st), (⟨b, o + k * 5 + 2, none⟩, .int .i64 sc1), (⟨b, o + k * 5 + 3, none⟩, .int .i64 su), (⟨b, o + k * 5 + 4, none⟩, .slice p dl c9), (⟨q, 0, none⟩, .string rn), (⟨q, 1, none⟩, .int .i64 rt), (⟨q, 2, none⟩, .int .i64 rc), (⟨q, 3, none⟩, .int .i64 ru), (⟨q, 4, none⟩, .string rd), (⟨x, 0, none⟩, .string qn), (⟨x, 1, none⟩, .int .i64 qt), (⟨x, 2, none⟩, .int .i64 qc), (⟨x, 3, none⟩, .int .i64 qu), (⟨x, 4, none⟩, .slice pa ql pc)] wx) ∧ wx.cell? ⟨b, o + k * 5, none⟩ = some (.string sn) ∧ wx.cell? ⟨b, o + k * 5 + 1, none⟩ = some (.int .i64 st) ∧ wx.cell? ⟨b, o + k * 5 + 2, none⟩ = some (.int .i64 sc1) ∧ wx.cell? ⟨b, o + k * 5 + 3, none⟩ = some (.int .i64 su) ∧ wx.cell? ⟨b, o + k * 5 + 4, none⟩ = some (.slice p dl c9) ∧ wx.cell? ⟨q, 0, none⟩ = some (.string rn) ∧ wx.cell? ⟨q, 1, none⟩ = some (.int .i64 rt) ∧ wx.cell? ⟨q, 2, none⟩ = some (.int .i64 rc) ∧ wx.cell? ⟨q, 3, none⟩ = some (.int .i64 ru) ∧ wx.cell? ⟨q, 4, none⟩ = some (.string rd) ∧ wx.cell? ⟨x, 0, none⟩ = some (.string qn) ∧ wx.cell? ⟨x, 1, none⟩ = some (.int .i64 qt) ∧ wx.cell? ⟨x, 2, none⟩ = some (.int .i64 qc) ∧ wx.cell? ⟨x, 3, none⟩ = some (.int .i64 qu) ∧ wx.cell? ⟨x, 4, none⟩ = some (.slice pa ql pc))) (by kernel_rfl) (HFX.out) (fun hHeld => ?_)
              refine wpAnyH_take (i := 0) (oi := { dst := some 93, op := Go.Op.move (Go.Operand.tmp 8), type := 66, pos := "extra.go:42", after := #[], guard := none }) (v := ?v0_5101) rfl (by kernel_rfl) (by kernel_rfl) (by kernel_rfl) (fun _ _ _ h => h) (Or.inl ⟨by rfl, ?y0_5101⟩) hHeld ?r0_5101
              case y0_5101 => intro w hSw; (try dsimp only at hSw); go_simp; try with_reducible rfl
              try simp only [Act.put, List.setIfInBounds_toArray, List.set_cons_zero, List.set_cons_succ]
              refine wpAnyH_take (i := 1) (oi := { dst := some 94, op := Go.Op.move (Go.Operand.tmp 12), type := 3, pos := "extra.go:42", after := #[], guard := none }) (v := ?v1_5101) rfl (by kernel_rfl) (by kernel_rfl) (by kernel_rfl) (fun _ _ _ h => h) (Or.inl ⟨by rfl, ?y1_5101⟩) hHeld ?r1_5101
              case y1_5101 => intro w hSw; (try dsimp only at hSw); go_simp; try with_reducible rfl
              try simp only [Act.put, List.setIfInBounds_toArray, List.set_cons_zero, List.set_cons_succ]
              refine wpAnyH_take (i := 2) (oi := { dst := some 95, op := Go.Op.indexAddr 66 (Go.Operand.tmp 93) (Go.Operand.tmp 94), type := 0, pos := "extra.go:42", after := #[{ on := 0, ground := Go.Ground.data }, { on := 1, ground := Go.Ground.data }], guard := none }) (v := ?v2_5101) rfl (by kernel_rfl) (by kernel_rfl) (by kernel_rfl) (fun _ _ _ h => h) (Or.inl ⟨by rfl, ?y2_5101⟩) hHeld ?r2_5101
              case y2_5101 => intro w hSw; (try dsimp only at hSw); go_simp; try with_reducible rfl
              try simp only [Act.put, List.setIfInBounds_toArray, List.set_cons_zero, List.set_cons_succ]
              refine wpAnyH_take (i := 3) (oi := { dst := some 96, op := Go.Op.fieldAddr 73 (Go.Operand.tmp 95) 0, type := 0, pos := "extra.go:42", after := #[{ on := 2, ground := Go.Ground.data }], guard := none }) (v := ?v3_5101) rfl (by kernel_rfl) (by kernel_rfl) (by kernel_rfl) (fun _ _ _ h => h) (Or.inl ⟨by rfl, ?y3_5101⟩) hHeld ?r3_5101
              case y3_5101 => intro w hSw; (try dsimp only at hSw); go_simp; try with_reducible rfl
              try simp only [Act.put, List.setIfInBounds_toArray, List.set_cons_zero, List.set_cons_succ]
              refine wpAnyH_take (i := 4) (oi := { dst := some 97, op := Go.Op.load 68 (Go.Operand.tmp 96), type := 68, pos := "extra.go:42", after := #[{ on := 3, ground := Go.Ground.data }], guard := none }) (v := ?v4_5101) rfl (by kernel_rfl) (by kernel_rfl) (by kernel_rfl) (fun _ _ _ h => h) (Or.inl ⟨by rfl, ?y4_5101⟩) hHeld ?r4_5101
              case y4_5101 => intro w hSw; (try dsimp only at hSw); go_simp; try with_reducible rfl
              try simp only [Act.put, List.setIfInBounds_toArray, List.set_cons_zero, List.set_cons_succ]
              refine wpAnyH_take (i := 5) (oi := { dst := some 98, op := Go.Op.load 23 (Go.Operand.tmp 4), type := 23, pos := "extra.go:42", after := #[], guard := none }) (v := ?v5_5101) rfl (by kernel_rfl) (by kernel_rfl) (by kernel_rfl) (fun _ _ _ h => h) (Or.inl ⟨by rfl, ?y5_5101⟩) hHeld ?r5_5101
              case y5_5101 => intro w hSw; (try dsimp only at hSw); go_simp; try with_reducible rfl
              try simp only [Act.put, List.setIfInBounds_toArray, List.set_cons_zero, List.set_cons_succ]
              refine wpAnyH_ready (rs := [6]) (by kernel_rfl) (by simp) ?_
              refine AllReadyH.cons (o := { dst := some 99, op := Go.Op.call { callee := Go.Callee.value (Go.Operand.func 67), args := #[Go.Operand.tmp 98], argTypes := #[23] }, type := 68, pos := "extra.go:42", after := #[{ on := 5, ground := Go.Ground.data }], guard := none }) rfl (fun K hK => ?_) AllReadyH.nil
              go_simp
              refine (HKO.out _).mono ?_; rintro e wy ⟨rfl, hb⟩
              go_wp2_with fail
              refine hK.out _ _ (Fix.next15 hb hHeld) (fun hHeld2 => ?_)
              clear hK K hHeld
              have hHeld := hHeld2
              clear hHeld2
              try simp only [Act.put, List.setIfInBounds_toArray, List.set_cons_zero, List.set_cons_succ]
              refine wpAnyH_take (i := 7) (oi := { dst := some 100, op := Go.Op.binOp Go.BinOp.eql 68 (Go.Operand.tmp 97) (Go.Operand.tmp 99) 68, type := 4, pos := "extra.go:42", after := #[{ on := 4, ground := Go.Ground.data }, { on := 6, ground := Go.Ground.data }], guard := none }) (v := ?v7_5102) rfl (by kernel_rfl) (by kernel_rfl) (by kernel_rfl) (fun _ _ _ h => h) (Or.inl ⟨by rfl, ?y7_5102⟩) hHeld ?r7_5102
              case y7_5102 => intro w hSw; (try dsimp only at hSw); go_simp; try with_reducible rfl
              try simp only [Act.put, List.setIfInBounds_toArray, List.set_cons_zero, List.set_cons_succ]
              refine wpAnyH_done (by kernel_rfl) ?_ _
              clear hke
              have HFX2 := Lib.hid (Fix.all15 (Fix.drew hHeld.1.out))
              clear hHeld HFX
              have HHA := Lib.hid (fun wx (hx : Below w12.heap.size w12 wx) => has_any sn st sc1 su sd p dl c9 rd wx (HPR.out.below (HDB.out.trans (hx.mono HDB.out.size))) (by omega))
              rw [memS_t HRD.out] at HHA
              have i5 : IntKind.i64.wrap ((ql : Int) + 1) = (ql : Int) + 1 := by rw [IntKind.wrap_i64]; omega
              go_upto_region 20 with fail
              refine wp_region_held_drew (S := (fun wx => Hid (Fix w12 [(⟨b, o + k * 5, none⟩, .string sn), (⟨b, o + k * 5 + 1, none⟩, .int .i64 st), (⟨b, o + k * 5 + 2, none⟩, .int .i64 sc1), (⟨b, o + k * 5 + 3, none⟩, .int .i64 su), (⟨b, o + k * 5 + 4, none⟩, .slice p dl c9), (⟨q, 0, none⟩, .string rn), (⟨q, 1, none⟩, .int .i64 rt), (⟨q, 2, none⟩, .int .i64 rc), (⟨q, 3, none⟩, .int .i64 ru), (⟨q, 4, none⟩, .string rd), (⟨x, 0, none⟩, .string qn), (⟨x, 1, none⟩, .int .i64 qt), (⟨x, 2, none⟩, .int .i64 qc), (⟨x, 3, none⟩, .int .i64 qu), (⟨x, 4, none⟩, .slice pa ql pc)] wx) ∧ wx.cell? ⟨b, o + k * 5, none⟩ = some (.string sn) ∧ wx.cell? ⟨b, o + k * 5 + 1, none⟩ = some (.int .i64 st) ∧ wx.cell? ⟨b, o + k * 5 + 2, none⟩ = some (.int .i64 sc1) ∧ wx.cell? ⟨b, o + k * 5 + 3, none⟩ = some (.int .i64 su) ∧ wx.cell? ⟨b, o + k * 5 + 4, none⟩ = some (.slice p dl c9) ∧ wx.cell? ⟨q, 0, none⟩ = some (.string rn) ∧ wx.cell? ⟨q, 1, none⟩ = some (.int .i64 rt) ∧ wx.cell? ⟨q, 2, none⟩ = some (.int .i64 rc) ∧ wx.cell? ⟨q, 3, none⟩ = some (.int .i64 ru) ∧ wx.cell? ⟨q, 4, none⟩ = some (.string rd) ∧ wx.cell? ⟨x, 0, none⟩ = some (.string qn) ∧ wx.cell? ⟨x, 1, none⟩ = some (.int .i64 qt) ∧ wx.cell? ⟨x, 2, none⟩ = some (.int .i64 qc) ∧ wx.cell? ⟨x, 3, none⟩ = some (.int .i64 qu) ∧ wx.cell? ⟨x, 4, none⟩ = some (.slice pa ql pc))) (by kernel_rfl) (HFX2.out) (fun hHeld => ?_)
              refine wpAnyH_take (i := 0) (oi := { dst := some 101, op := Go.Op.move (Go.Operand.tmp 8), type := 66, pos := "extra.go:43", after := #[], guard := none }) (v := ?v0_5201) rfl (by kernel_rfl) (by kernel_rfl) (by kernel_rfl) (fun _ _ _ h => h) (Or.inl ⟨by rfl, ?y0_5201⟩) hHeld ?r0_5201
              case y0_5201 => intro w hSw; (try dsimp only at hSw); go_simp; try with_reducible rfl
              try simp only [Act.put, List.setIfInBounds_toArray, List.set_cons_zero, List.set_cons_succ]
              refine wpAnyH_take (i := 1) (oi := { dst := some 102, op := Go.Op.move (Go.Operand.tmp 12), type := 3, pos := "extra.go:43", after := #[], guard := none }) (v := ?v1_5201) rfl (by kernel_rfl) (by kernel_rfl) (by kernel_rfl) (fun _ _ _ h => h) (Or.inl ⟨by rfl, ?y1_5201⟩) hHeld ?r1_5201
              case y1_5201 => intro w hSw; (try dsimp only at hSw); go_simp; try with_reducible rfl
              try simp only [Act.put, List.setIfInBounds_toArray, List.set_cons_zero, List.set_cons_succ]
              refine wpAnyH_take (i := 2) (oi := { dst := some 103, op := Go.Op.indexAddr 66 (Go.Operand.tmp 101) (Go.Operand.tmp 102), type := 0, pos := "extra.go:43", after := #[{ on := 0, ground := Go.Ground.data }, { on := 1, ground := Go.Ground.data }], guard := none }) (v := ?v2_5201) rfl (by kernel_rfl) (by kernel_rfl) (by kernel_rfl) (fun _ _ _ h => h) (Or.inl ⟨by rfl, ?y2_5201⟩) hHeld ?r2_5201
              case y2_5201 => intro w hSw; (try dsimp only at hSw); go_simp; try with_reducible rfl
              try simp only [Act.put, List.setIfInBounds_toArray, List.set_cons_zero, List.set_cons_succ]
              refine wpAnyH_take (i := 3) (oi := { dst := some 104, op := Go.Op.load 73 (Go.Operand.tmp 103), type := 73, pos := "extra.go:43", after := #[{ on := 2, ground := Go.Ground.data }], guard := none }) (v := ?v3_5201) rfl (by kernel_rfl) (by kernel_rfl) (by kernel_rfl) (fun _ _ _ h => h) (Or.inl ⟨by rfl, ?y3_5201⟩) hHeld ?r3_5201
              case y3_5201 => intro w hSw; (try dsimp only at hSw); go_simp; try with_reducible rfl
              try simp only [Act.put, List.setIfInBounds_toArray, List.set_cons_zero, List.set_cons_succ]
              refine wpAnyH_take (i := 4) (oi := { dst := some 105, op := Go.Op.fieldAddr 23 (Go.Operand.tmp 4) 4, type := 0, pos := "extra.go:43", after := #[], guard := none }) (v := ?v4_5201) rfl (by kernel_rfl) (by kernel_rfl) (by kernel_rfl) (fun _ _ _ h => h) (Or.inl ⟨by rfl, ?y4_5201⟩) hHeld ?r4_5201
              case y4_5201 => intro w hSw; (try dsimp only at hSw); go_simp; try with_reducible rfl
              try simp only [Act.put, List.setIfInBounds_toArray, List.set_cons_zero, List.set_cons_succ]
              refine wpAnyH_take (i := 5) (oi := { dst := some 106, op := Go.Op.load 9 (Go.Operand.tmp 105), type := 9, pos := "extra.go:43", after := #[{ on := 4, ground := Go.Ground.data }], guard := none }) (v := ?v5_5201) rfl (by kernel_rfl) (by kernel_rfl) (by kernel_rfl) (fun _ _ _ h => h) (Or.inl ⟨by rfl, ?y5_5201⟩) hHeld ?r5_5201
              case y5_5201 => intro w hSw; (try dsimp only at hSw); go_simp; try with_reducible rfl
              try simp only [Act.put, List.setIfInBounds_toArray, List.set_cons_zero, List.set_cons_succ]
              refine wpAnyH_ready (rs := [6]) (by kernel_rfl) (by simp) ?_
              refine AllReadyH.cons (o := { dst := some 107, op := Go.Op.call { callee := Go.Callee.value (Go.Operand.func 65), args := #[Go.Operand.tmp 104, Go.Operand.tmp 106], argTypes := #[73, 9] }, type := 4, pos := "extra.go:43", after := #[{ on := 3, ground := Go.Ground.data }, { on := 5, ground := Go.Ground.data }], guard := none }) rfl (fun K hK => ?_) AllReadyH.nil
              go_simp
              refine (HHA.out _ (Fix.get15 hHeld)).mono ?_; rintro e wy ⟨rfl, hb⟩
              go_wp2_with fail
              refine hK.out _ _ (Fix.next15 hb hHeld) (fun hHeld2 => ?_)
              clear hK K hHeld
              have hHeld := hHeld2
              clear hHeld2
              try simp only [Act.put, List.setIfInBounds_toArray, List.set_cons_zero, List.set_cons_succ]
              refine wpAnyH_take (i := 7) (oi := { dst := some 108, op := Go.Op.unOp Go.UnOp.not 4 (Go.Operand.tmp 107), type := 4, pos := "extra.go:43", after := #[{ on := 6, ground := Go.Ground.data }], guard := none }) (v := ?v7_5202) rfl (by kernel_rfl) (by kernel_rfl) (by kernel_rfl) (fun _ _ _ h => h) (Or.inl ⟨by rfl, ?y7_5202⟩) hHeld ?r7_5202
              case y7_5202 => intro w hSw; (try dsimp only at hSw); go_simp; try with_reducible rfl
              try simp only [Act.put, List.setIfInBounds_toArray, List.set_cons_zero, List.set_cons_succ]
              refine wpAnyH_take (i := 8) (oi := { dst := some 109, op := Go.Op.move (Go.Operand.tmp 108), type := 4, pos := "extra.go:43", after := #[{ on := 7, ground := Go.Ground.data }, { on := 6, ground := Go.Ground.chain }], guard := none }) (v := ?v8_5202) rfl (by kernel_rfl) (by kernel_rfl) (by kernel_rfl) (fun _ _ _ h => h) (Or.inl ⟨by rfl, ?y8_5202⟩) hHeld ?r8_5202
              case y8_5202 => intro w hSw; (try dsimp only at hSw); go_simp; try with_reducible rfl
              try simp only [Act.put, List.setIfInBounds_toArray, List.set_cons_zero, List.set_cons_succ]
              refine wpAnyH_take (i := 9) (oi := { dst := some 110, op := Go.Op.move (Go.Operand.tmp 8), type := 66, pos := "extra.go:43", after := #[{ on := 8, ground := Go.Ground.guard }], guard := some (8, false) }) (v := ?v9_5202) rfl (by kernel_rfl) (by kernel_rfl) (by kernel_rfl) (fun _ _ _ h => h) (Or.inl ⟨by rfl, ?y9_5202⟩) hHeld ?r9_5202
              case y9_5202 => intro w hSw; (try dsimp only at hSw); go_simp; try with_reducible rfl
              try simp only [Act.put, List.setIfInBounds_toArray, List.set_cons_zero, List.set_cons_succ]
              refine wpAnyH_take (i := 10) (oi := { dst := some 111, op := Go.Op.move (Go.Operand.tmp 12), type := 3, pos := "extra.go:43", after := #[{ on := 8, ground := Go.Ground.guard }], guard := some (8, false) }) (v := ?v10_5202) rfl (by kernel_rfl) (by kernel_rfl) (by kernel_rfl) (fun _ _ _ h => h) (Or.inl ⟨by rfl, ?y10_5202⟩) hHeld ?r10_5202
              case y10_5202 => intro w hSw; (try dsimp only at hSw); go_simp; try with_reducible rfl
              try simp only [Act.put, List.setIfInBounds_toArray, List.set_cons_zero, List.set_cons_succ]
              refine wpAnyH_take (i := 11) (oi := { dst := some 112, op := Go.Op.indexAddr 66 (Go.Operand.tmp 110) (Go.Operand.tmp 111), type := 0, pos := "extra.go:43", after := #[{ on := 9, ground := Go.Ground.data }, { on := 10, ground := Go.Ground.data }, { on := 8, ground := Go.Ground.guard }], guard := some (8, false) }) (v := ?v11_5202) rfl (by kernel_rfl) (by kernel_rfl) (by kernel_rfl) (fun _ _ _ h => h) (Or.inl ⟨by rfl, ?y11_5202⟩) hHeld ?r11_5202
              case y11_5202 => intro w hSw; (try dsimp only at hSw); go_simp; try with_reducible rfl
              try simp only [Act.put, List.setIfInBounds_toArray, List.set_cons_zero, List.set_cons_succ]
              refine wpAnyH_take (i := 12) (oi := { dst := some 113, op := Go.Op.fieldAddr 73 (Go.Operand.tmp 112) 1, type := 0, pos := "extra.go:43", after := #[{ on := 11, ground := Go.Ground.data }, { on := 8, ground := Go.Ground.guard }], guard := some (8, false) }) (v := ?v12_5202) rfl (by kernel_rfl) (by kernel_rfl) (by kernel_rfl) (fun _ _ _ h => h) (Or.inl ⟨by rfl, ?y12_5202⟩) hHeld ?r12_5202
              case y12_5202 => intro w hSw; (try dsimp only at hSw); go_simp; try with_reducible rfl
              try simp only [Act.put, List.setIfInBounds_toArray, List.set_cons_zero, List.set_cons_succ]
              refine wpAnyH_take (i := 13) (oi := { dst := some 114, op := Go.Op.load 3 (Go.Operand.tmp 113), type := 3, pos := "extra.go:43", after := #[{ on := 12, ground := Go.Ground.data }, { on := 8, ground := Go.Ground.guard }], guard := some (8, false) }) (v := ?v13_5202) rfl (by kernel_rfl) (by kernel_rfl) (by kernel_rfl) (fun _ _ _ h => h) (Or.inl ⟨by rfl, ?y13_5202⟩) hHeld ?r13_5202
              case y13_5202 => intro w hSw; (try dsimp only at hSw); go_simp; try with_reducible rfl
              try simp only [Act.put, List.setIfInBounds_toArray, List.set_cons_zero, List.set_cons_succ]
              refine wpAnyH_take (i := 14) (oi := { dst := some 115, op := Go.Op.fieldAddr 23 (Go.Operand.tmp 4) 3, type := 0, pos := "extra.go:43", after := #[{ on := 8, ground := Go.Ground.guard }], guard := some (8, false) }) (v := ?v14_5202) rfl (by kernel_rfl) (by kernel_rfl) (by kernel_rfl) (fun _ _ _ h => h) (Or.inl ⟨by rfl, ?y14_5202⟩) hHeld ?r14_5202
              case y14_5202 => intro w hSw; (try dsimp only at hSw); go_simp; try with_reducible rfl
              try simp only [Act.put, List.setIfInBounds_toArray, List.set_cons_zero, List.set_cons_succ]
              refine wpAnyH_take (i := 15) (oi := { dst := some 116, op := Go.Op.load 3 (Go.Operand.tmp 115), type := 3, pos := "extra.go:43", after := #[{ on := 14, ground := Go.Ground.data }, { on := 8, ground := Go.Ground.guard }], guard := some (8, false) }) (v := ?v15_5202) rfl (by kernel_rfl) (by kernel_rfl) (by kernel_rfl) (fun _ _ _ h => h) (Or.inl ⟨by rfl, ?y15_5202⟩) hHeld ?r15_5202
              case y15_5202 => intro w hSw; (try dsimp only at hSw); go_simp; try with_reducible rfl
              try simp only [Act.put, List.setIfInBounds_toArray, List.set_cons_zero, List.set_cons_succ]
              refine wpAnyH_take (i := 16) (oi := { dst := some 117, op := Go.Op.binOp Go.BinOp.gtr 3 (Go.Operand.tmp 114) (Go.Operand.tmp 116) 3, type := 4, pos := "extra.go:43", after := #[{ on := 13, ground := Go.Ground.data }, { on := 15, ground := Go.Ground.data }, { on := 8, ground := Go.Ground.guard }], guard := some (8, false) }) (v := ?v16_5202) rfl (by kernel_rfl) (by kernel_rfl) (by kernel_rfl) (fun _ _ _ h => h) (Or.inl ⟨by rfl, ?y16_5202⟩) hHeld ?r16_5202
              case y16_5202 => intro w hSw; (try dsimp only at hSw); go_simp; try with_reducible rfl
              try simp only [Act.put, List.setIfInBounds_toArray, List.set_cons_zero, List.set_cons_succ]
              refine wpAnyH_take (i := 17) (oi := { dst := some 118, op := Go.Op.pick (Go.Operand.tmp 109) (Go.Operand.const (Go.Value.bool true)) (Go.Operand.tmp 117), type := 4, pos := "extra.go:43", after := #[{ on := 8, ground := Go.Ground.data }, { on := 16, ground := Go.Ground.data }], guard := none }) (v := ?v17_5202) rfl (by kernel_rfl) (by kernel_rfl) (by kernel_rfl) (fun _ _ _ h => h) (Or.inl ⟨by rfl, ?y17_5202⟩) hHeld ?r17_5202
              case y17_5202 => intro w hSw; (try dsimp only at hSw); go_simp; try with_reducible rfl
              try simp only [Act.put, List.setIfInBounds_toArray, List.set_cons_zero, List.set_cons_succ]
              refine wpAnyH_take (i := 18) (oi := { dst := some 119, op := Go.Op.move (Go.Operand.tmp 118), type := 4, pos := "extra.go:43", after := #[{ on := 17, ground := Go.Ground.data }, { on := 8, ground := Go.Ground.chain }], guard := none }) (v := ?v18_5202) rfl (by kernel_rfl) (by kernel_rfl) (by kernel_rfl) (fun _ _ _ h => h) (Or.inl ⟨by rfl, ?y18_5202⟩) hHeld ?r18_5202
              case y18_5202 => intro w hSw; (try dsimp only at hSw); go_simp; try with_reducible rfl
              try simp only [Act.put, List.setIfInBounds_toArray, List.set_cons_zero, List.set_cons_succ]
              refine wpAnyH_take (i := 19) (oi := { dst := some 120, op := Go.Op.move (Go.Operand.tmp 14), type := 4, pos := "extra.go:43", after := #[{ on := 18, ground := Go.Ground.guard }], guard := some (18, false) }) (v := ?v19_5202) rfl (by kernel_rfl) (by kernel_rfl) (by kernel_rfl) (fun _ _ _ h => h) (Or.inl ⟨by rfl, ?y19_5202⟩) hHeld ?r19_5202
              case y19_5202 => intro w hSw; (try dsimp only at hSw); go_simp; try with_reducible rfl
              try simp only [Act.put, List.setIfInBounds_toArray, List.set_cons_zero, List.set_cons_succ]
              refine wpAnyH_take (i := 20) (oi := { dst := some 121, op := Go.Op.move (Go.Operand.tmp 120), type := 4, pos := "extra.go:43", after := #[{ on := 19, ground := Go.Ground.data }, { on := 18, ground := Go.Ground.chain }, { on := 18, ground := Go.Ground.guard }], guard := some (18, false) }) (v := ?v20_5202) rfl (by kernel_rfl) (by kernel_rfl) (by kernel_rfl) (fun _ _ _ h => h) (Or.inl ⟨by rfl, ?y20_5202⟩) hHeld ?r20_5202
              case y20_5202 => intro w hSw; (try dsimp only at hSw); go_simp; try with_reducible rfl
              try simp only [Act.put, List.setIfInBounds_toArray, List.set_cons_zero, List.set_cons_succ]
              refine wpAnyH_take (i := 21) (oi := { dst := some 122, op := Go.Op.move (Go.Operand.tmp 8), type := 66, pos := "extra.go:43", after := #[{ on := 20, ground := Go.Ground.guard }], guard := some (20, true) }) (v := ?v21_5202) rfl (by kernel_rfl) (by kernel_rfl) (by kernel_rfl) (fun _ _ _ h => h) (Or.inl ⟨by rfl, ?y21_5202⟩) hHeld ?r21_5202
              case y21_5202 => intro w hSw; (try dsimp only at hSw); go_simp; try with_reducible rfl
              try simp only [Act.put, List.setIfInBounds_toArray, List.set_cons_zero, List.set_cons_succ]
              refine wpAnyH_take (i := 22) (oi := { dst := some 123, op := Go.Op.move (Go.Operand.tmp 12), type := 3, pos := "extra.go:43", after := #[{ on := 20, ground := Go.Ground.guard }], guard := some (20, true) }) (v := ?v22_5202) rfl (by kernel_rfl) (by kernel_rfl) (by kernel_rfl) (fun _ _ _ h => h) (Or.inl ⟨by rfl, ?y22_5202⟩) hHeld ?r22_5202
              case y22_5202 => intro w hSw; (try dsimp only at hSw); go_simp; try with_reducible rfl
              try simp only [Act.put, List.setIfInBounds_toArray, List.set_cons_zero, List.set_cons_succ]
              refine wpAnyH_take (i := 23) (oi := { dst := some 124, op := Go.Op.indexAddr 66 (Go.Operand.tmp 122) (Go.Operand.tmp 123), type := 0, pos := "extra.go:43", after := #[{ on := 21, ground := Go.Ground.data }, { on := 22, ground := Go.Ground.data }, { on := 20, ground := Go.Ground.guard }], guard := some (20, true) }) (v := ?v23_5202) rfl (by kernel_rfl) (by kernel_rfl) (by kernel_rfl) (fun _ _ _ h => h) (Or.inl ⟨by rfl, ?y23_5202⟩) hHeld ?r23_5202
              case y23_5202 => intro w hSw; (try dsimp only at hSw); go_simp; try with_reducible rfl
              try simp only [Act.put, List.setIfInBounds_toArray, List.set_cons_zero, List.set_cons_succ]
              refine wpAnyH_take (i := 24) (oi := { dst := some 125, op := Go.Op.fieldAddr 73 (Go.Operand.tmp 124) 1, type := 0, pos := "extra.go:43", after := #[{ on := 23, ground := Go.Ground.data }, { on := 20, ground := Go.Ground.guard }], guard := some (20, true) }) (v := ?v24_5202) rfl (by kernel_rfl) (by kernel_rfl) (by kernel_rfl) (fun _ _ _ h => h) (Or.inl ⟨by rfl, ?y24_5202⟩) hHeld ?r24_5202
              case y24_5202 => intro w hSw; (try dsimp only at hSw); go_simp; try with_reducible rfl
              try simp only [Act.put, List.setIfInBounds_toArray, List.set_cons_zero, List.set_cons_succ]
              refine wpAnyH_take (i := 25) (oi := { dst := some 126, op := Go.Op.load 3 (Go.Operand.tmp 125), type := 3, pos := "extra.go:43", after := #[{ on := 24, ground := Go.Ground.data }, { on := 20, ground := Go.Ground.guard }], guard := some (20, true) }) (v := ?v25_5202) rfl (by kernel_rfl) (by kernel_rfl) (by kernel_rfl) (fun _ _ _ h => h) (Or.inl ⟨by rfl, ?y25_5202⟩) hHeld ?r25_5202
              case y25_5202 => intro w hSw; (try dsimp only at hSw); go_simp; try with_reducible rfl
              try simp only [Act.put, List.setIfInBounds_toArray, List.set_cons_zero, List.set_cons_succ]
              refine wpAnyH_take (i := 26) (oi := { dst := some 127, op := Go.Op.fieldAddr 73 (Go.Operand.tmp 13) 1, type := 0, pos := "extra.go:43", after := #[{ on := 20, ground := Go.Ground.guard }], guard := some (20, true) }) (v := ?v26_5202) rfl (by kernel_rfl) (by kernel_rfl) (by kernel_rfl) (fun _ _ _ h => h) (Or.inl ⟨by rfl, ?y26_5202⟩) hHeld ?r26_5202
              case y26_5202 => intro w hSw; (try dsimp only at hSw); go_simp; try with_reducible rfl
              try simp only [Act.put, List.setIfInBounds_toArray, List.set_cons_zero, List.set_cons_succ]
              refine wpAnyH_take (i := 27) (oi := { dst := some 128, op := Go.Op.load 3 (Go.Operand.tmp 127), type := 3, pos := "extra.go:43", after := #[{ on := 26, ground := Go.Ground.data }, { on := 20, ground := Go.Ground.guard }], guard := some (20, true) }) (v := ?v27_5202) rfl (by kernel_rfl) (by kernel_rfl) (by kernel_rfl) (fun _ _ _ h => h) (Or.inl ⟨by rfl, ?y27_5202⟩) hHeld ?r27_5202
              case y27_5202 => intro w hSw; (try dsimp only at hSw); go_simp; try with_reducible rfl
              try simp only [Act.put, List.setIfInBounds_toArray, List.set_cons_zero, List.set_cons_succ]
              refine wpAnyH_take (i := 28) (oi := { dst := some 129, op := Go.Op.binOp Go.BinOp.gtr 3 (Go.Operand.tmp 126) (Go.Operand.tmp 128) 3, type := 4, pos := "extra.go:43", after := #[{ on := 25, ground := Go.Ground.data }, { on := 27, ground := Go.Ground.data }, { on := 20, ground := Go.Ground.guard }], guard := some (20, true) }) (v := ?v28_5202) rfl (by kernel_rfl) (by kernel_rfl) (by kernel_rfl) (fun _ _ _ h => h) (Or.inl ⟨by rfl, ?y28_5202⟩) hHeld ?r28_5202
              case y28_5202 => intro w hSw; (try dsimp only at hSw); go_simp; try with_reducible rfl
              try simp only [Act.put, List.setIfInBounds_toArray, List.set_cons_zero, List.set_cons_succ]
              refine wpAnyH_take (i := 29) (oi := { dst := some 130, op := Go.Op.move (Go.Operand.tmp 129), type := 4, pos := "extra.go:43", after := #[{ on := 28, ground := Go.Ground.data }, { on := 20, ground := Go.Ground.chain }, { on := 20, ground := Go.Ground.guard }], guard := some (20, true) }) (v := ?v29_5202) rfl (by kernel_rfl) (by kernel_rfl) (by kernel_rfl) (fun _ _ _ h => h) (Or.inl ⟨by rfl, ?y29_5202⟩) hHeld ?r29_5202
              case y29_5202 => intro w hSw; (try dsimp only at hSw); go_simp; try with_reducible rfl
              try simp only [Act.put, List.setIfInBounds_toArray, List.set_cons_zero, List.set_cons_succ]
              refine wpAnyH_take (i := 30) (oi := { dst := some 131, op := Go.Op.move (Go.Operand.tmp 8), type := 66, pos := "extra.go:43", after := #[{ on := 29, ground := Go.Ground.guard }], guard := some (29, false) }) (v := ?v30_5202) rfl (by kernel_rfl) (by kernel_rfl) (by kernel_rfl) (fun _ _ _ h => h) (Or.inl ⟨by rfl, ?y30_5202⟩) hHeld ?r30_5202
              case y30_5202 => intro w hSw; (try dsimp only at hSw); go_simp; try with_reducible rfl
              try simp only [Act.put, List.setIfInBounds_toArray, List.set_cons_zero, List.set_cons_succ]
              refine wpAnyH_take (i := 31) (oi := { dst := some 132, op := Go.Op.move (Go.Operand.tmp 12), type := 3, pos := "extra.go:43", after := #[{ on := 29, ground := Go.Ground.guard }], guard := some (29, false) }) (v := ?v31_5202) rfl (by kernel_rfl) (by kernel_rfl) (by kernel_rfl) (fun _ _ _ h => h) (Or.inl ⟨by rfl, ?y31_5202⟩) hHeld ?r31_5202
              case y31_5202 => intro w hSw; (try dsimp only at hSw); go_simp; try with_reducible rfl
              try simp only [Act.put, List.setIfInBounds_toArray, List.set_cons_zero, List.set_cons_succ]
              refine wpAnyH_take (i := 32) (oi := { dst := some 133, op := Go.Op.indexAddr 66 (Go.Operand.tmp 131) (Go.Operand.tmp 132), type := 0, pos := "extra.go:43", after := #[{ on := 30, ground := Go.Ground.data }, { on := 31, ground := Go.Ground.data }, { on := 29, ground := Go.Ground.guard }], guard := some (29, false) }) (v := ?v32_5202) rfl (by kernel_rfl) (by kernel_rfl) (by kernel_rfl) (fun _ _ _ h => h) (Or.inl ⟨by rfl, ?y32_5202⟩) hHeld ?r32_5202
              case y32_5202 => intro w hSw; (try dsimp only at hSw); go_simp; try with_reducible rfl
              try simp only [Act.put, List.setIfInBounds_toArray, List.set_cons_zero, List.set_cons_succ]
              refine wpAnyH_take (i := 33) (oi := { dst := some 134, op := Go.Op.fieldAddr 73 (Go.Operand.tmp 133) 2, type := 0, pos := "extra.go:43", after := #[{ on := 32, ground := Go.Ground.data }, { on := 29, ground := Go.Ground.guard }], guard := some (29, false) }) (v := ?v33_5202) rfl (by kernel_rfl) (by kernel_rfl) (by kernel_rfl) (fun _ _ _ h => h) (Or.inl ⟨by rfl, ?y33_5202⟩) hHeld ?r33_5202
              case y33_5202 => intro w hSw; (try dsimp only at hSw); go_simp; try with_reducible rfl
              try simp only [Act.put, List.setIfInBounds_toArray, List.set_cons_zero, List.set_cons_succ]
              refine wpAnyH_take (i := 34) (oi := { dst := some 135, op := Go.Op.load 45 (Go.Operand.tmp 134), type := 45, pos := "extra.go:43", after := #[{ on := 33, ground := Go.Ground.data }, { on := 29, ground := Go.Ground.guard }], guard := some (29, false) }) (v := ?v34_5202) rfl (by kernel_rfl) (by kernel_rfl) (by kernel_rfl) (fun _ _ _ h => h) (Or.inl ⟨by rfl, ?y34_5202⟩) hHeld ?r34_5202
              case y34_5202 => intro w hSw; (try dsimp only at hSw); go_simp; try with_reducible rfl
              try simp only [Act.put, List.setIfInBounds_toArray, List.set_cons_zero, List.set_cons_succ]
              refine wpAnyH_take (i := 35) (oi := { dst := some 136, op := Go.Op.call { callee := Go.Callee.builtin Go.Builtin.len, args := #[Go.Operand.tmp 135], argTypes := #[45] }, type := 3, pos := "extra.go:43", after := #[{ on := 34, ground := Go.Ground.data }, { on := 29, ground := Go.Ground.guard }], guard := some (29, false) }) (v := ?v35_5202) rfl (by kernel_rfl) (by kernel_rfl) (by kernel_rfl) (fun _ _ _ h => h) (Or.inl ⟨by rfl, ?y35_5202⟩) hHeld ?r35_5202
              case y35_5202 => intro w hSw; (try dsimp only at hSw); go_simp; try with_reducible rfl
              try simp only [Act.put, List.setIfInBounds_toArray, List.set_cons_zero, List.set_cons_succ]
              refine wpAnyH_take (i := 36) (oi := { dst := some 137, op := Go.Op.fieldAddr 73 (Go.Operand.tmp 13) 2, type := 0, pos := "extra.go:43", after := #[{ on := 29, ground := Go.Ground.guard }], guard := some (29, false) }) (v := ?v36_5202) rfl (by kernel_rfl) (by kernel_rfl) (by kernel_rfl) (fun _ _ _ h => h) (Or.inl ⟨by rfl, ?y36_5202⟩) hHeld ?r36_5202
              case y36_5202 => intro w hSw; (try dsimp only at hSw); go_simp; try with_reducible rfl
              try simp only [Act.put, List.setIfInBounds_toArray, List.set_cons_zero, List.set_cons_succ]
              refine wpAnyH_take (i := 37) (oi := { dst := some 138, op := Go.Op.load 45 (Go.Operand.tmp 137), type := 45, pos := "extra.go:43", after := #[{ on := 36, ground := Go.Ground.data }, { on := 29, ground := Go.Ground.guard }], guard := some (29, false) }) (v := ?v37_5202) rfl (by kernel_rfl) (by kernel_rfl) (by kernel_rfl) (fun _ _ _ h => h) (Or.inl ⟨by rfl, ?y37_5202⟩) hHeld ?r37_5202
              case y37_5202 => intro w hSw; (try dsimp only at hSw); go_simp; try with_reducible rfl
              try simp only [Act.put, List.setIfInBounds_toArray, List.set_cons_zero, List.set_cons_succ]
              refine wpAnyH_take (i := 38) (oi := { dst := some 139, op := Go.Op.call { callee := Go.Callee.builtin Go.Builtin.len, args := #[Go.Operand.tmp 138], argTypes := #[45] }, type := 3, pos := "extra.go:43", after := #[{ on := 37, ground := Go.Ground.data }, { on := 29, ground := Go.Ground.guard }], guard := some (29, false) }) (v := ?v38_5202) rfl (by kernel_rfl) (by kernel_rfl) (by kernel_rfl) (fun _ _ _ h => h) (Or.inl ⟨by rfl, ?y38_5202⟩) hHeld ?r38_5202
              case y38_5202 => intro w hSw; (try dsimp only at hSw); go_simp; try with_reducible rfl
              try simp only [Act.put, List.setIfInBounds_toArray, List.set_cons_zero, List.set_cons_succ]
              refine wpAnyH_take (i := 39) (oi := { dst := some 140, op := Go.Op.binOp Go.BinOp.add 3 (Go.Operand.tmp 139) (Go.Operand.const (Go.Value.int Go.IntKind.i64 1)) 3, type := 3, pos := "extra.go:43", after := #[{ on := 38, ground := Go.Ground.data }, { on := 29, ground := Go.Ground.guard }], guard := some (29, false) }) (v := ?v39_5202) rfl (by kernel_rfl) (by kernel_rfl) (by kernel_rfl) (fun _ _ _ h => h) (Or.inl ⟨by rfl, ?y39_5202⟩) hHeld ?r39_5202
              case y39_5202 => intro w hSw; (try dsimp only at hSw); go_simp; try with_reducible rfl
              try simp only [Act.put, List.setIfInBounds_toArray, List.set_cons_zero, List.set_cons_succ]
              refine wpAnyH_take (i := 40) (oi := { dst := some 141, op := Go.Op.binOp Go.BinOp.gtr 3 (Go.Operand.tmp 136) (Go.Operand.tmp 140) 3, type := 4, pos := "extra.go:43", after := #[{ on := 35, ground := Go.Ground.data }, { on := 39, ground := Go.Ground.data }, { on := 29, ground := Go.Ground.guard }], guard := some (29, false) }) (v := ?v40_5202) rfl (by kernel_rfl) (by kernel_rfl) (by kernel_rfl) (fun _ _ _ h => h) (Or.inl ⟨by rfl, ?y40_5202⟩) hHeld ?r40_5202
              case y40_5202 => intro w hSw; (try dsimp only at hSw); go_simp; try with_reducible rfl
              try simp only [Act.put, List.setIfInBounds_toArray, List.set_cons_zero, List.set_cons_succ]
              refine wpAnyH_take (i := 41) (oi := { dst := some 142, op := Go.Op.pick (Go.Operand.tmp 130) (Go.Operand.const (Go.Value.bool true)) (Go.Operand.tmp 141), type := 4, pos := "extra.go:43", after := #[{ on := 29, ground := Go.Ground.data }, { on := 40, ground := Go.Ground.data }, { on := 20, ground := Go.Ground.guard }], guard := some (20, true) }) (v := ?v41_5202) rfl (by kernel_rfl) (by kernel_rfl) (by kernel_rfl) (fun _ _ _ h => h) (Or.inl ⟨by rfl, ?y41_5202⟩) hHeld ?r41_5202
              case y41_5202 => intro w hSw; (try dsimp only at hSw); go_simp; try with_reducible rfl
              try simp only [Act.put, List.setIfInBounds_toArray, List.set_cons_zero, List.set_cons_succ]
              refine wpAnyH_take (i := 42) (oi := { dst := some 143, op := Go.Op.pick (Go.Operand.tmp 121) (Go.Operand.tmp 142) (Go.Operand.const (Go.Value.bool false)), type := 4, pos := "extra.go:43", after := #[{ on := 20, ground := Go.Ground.data }, { on := 41, ground := Go.Ground.data }, { on := 18, ground := Go.Ground.guard }], guard := some (18, false) }) (v := ?v42_5202) rfl (by kernel_rfl) (by kernel_rfl) (by kernel_rfl) (fun _ _ _ h => h) (Or.inl ⟨by rfl, ?y42_5202⟩) hHeld ?r42_5202
              case y42_5202 => intro w hSw; (try dsimp only at hSw); go_simp; try with_reducible rfl
              try simp only [Act.put, List.setIfInBounds_toArray, List.set_cons_zero, List.set_cons_succ]
              refine wpAnyH_take (i := 43) (oi := { dst := some 144, op := Go.Op.pick (Go.Operand.tmp 119) (Go.Operand.const (Go.Value.bool true)) (Go.Operand.tmp 143), type := 4, pos := "extra.go:43", after := #[{ on := 18, ground := Go.Ground.data }, { on := 42, ground := Go.Ground.data }], guard := none }) (v := ?v43_5202) rfl (by kernel_rfl) (by kernel_rfl) (by kernel_rfl) (fun _ _ _ h => h) (Or.inl ⟨by rfl, ?y43_5202⟩) hHeld ?r43_5202
              case y43_5202 => intro w hSw; (try dsimp only at hSw); go_simp; try with_reducible rfl
              try simp only [Act.put, List.setIfInBounds_toArray, List.set_cons_zero, List.set_cons_succ]
              refine wpAnyH_done (by kernel_rfl) ?_ _
              go_wp2
              go_roundw
              case rel => exact ⟨k + 1, by omega, by go_num, Lib.hid (HDB.out.trans ((Fix.get15 hHeld).mono HDB.out.size))⟩
              case measure => simp [intOf]; omega
            · clear hq9 h1
              have hal := (Below.refl w11.heap.size w11).alloc (Nat.le_refl _) (.cells #[.string ⟨#[]⟩, .int .i64 0, .int .i64 0, .int .i64 0, .slice none 0 0] 73)
              have hc5 := c5_new w11 (.string ⟨#[]⟩) (.int .i64 0) (.int .i64 0) (.int .i64 0) (.slice none 0 0) 73
              have HB12 := Lib.hid (HB11.out.trans (hal.mono HB11.out.size))
              clear hal
              go_upto_region 19 with fail
              obtain ⟨w12, hw12⟩ : ∃ x, (w11.alloc (.cells #[.string ⟨#[]⟩, .int .i64 0, .int .i64 0, .int .i64 0, .slice none 0 0] 73)) = x := ⟨_, rfl⟩
              rw [hw12] at hc5 HB12 ⊢
              obtain ⟨x, hx⟩ : ∃ y, w11.heap.size = y := ⟨_, rfl⟩
              rw [hx] at hc5 ⊢
              have hbX : Below w10.heap.size w10 w12 := HBW.out.trans (HB12.out.mono HBW.out.size)
              have hfix : Fix w12 [(⟨b, o + k * 5, none⟩, .string sn), (⟨b, o + k * 5 + 1, none⟩, .int .i64 st), (⟨b, o + k * 5 + 2, none⟩, .int .i64 sc1), (⟨b, o + k * 5 + 3, none⟩, .int .i64 su), (⟨b, o + k * 5 + 4, none⟩, .slice p dl c9), (⟨q, 0, none⟩, .string rn), (⟨q, 1, none⟩, .int .i64 rt), (⟨q, 2, none⟩, .int .i64 rc), (⟨q, 3, none⟩, .int .i64 ru), (⟨q, 4, none⟩, .string rd), (⟨x, 0, none⟩, .string ⟨#[]⟩), (⟨x, 1, none⟩, .int .i64 0), (⟨x, 2, none⟩, .int .i64 0), (⟨x, 3, none⟩, .int .i64 0), (⟨x, 4, none⟩, .slice none 0 0)] w12 := Fix.start (by
                have hbl2 : b < w12.heap.size := Nat.lt_of_lt_of_le hbl hbX.size
                obtain ⟨z0, z1, z2, z3, z4, _⟩ := HSX.out.below hbl hbX
                replace z4 : w12.cell? ⟨b, o + k * 5 + 4, none⟩ = some (.slice p sd.length c9) := z4
                rw [HDL.out] at z4
                obtain ⟨hqs, r0, r1, r2, r3, r4⟩ := HQ10.out.below hbX
                obtain ⟨hxs, y0, y1, y2, y3, y4, _⟩ := hc5
                intro c hc
                simp only [List.mem_cons, List.not_mem_nil, or_false] at hc
                rcases hc with rfl | rfl | rfl | rfl | rfl | rfl | rfl | rfl | rfl | rfl | rfl | rfl | rfl | rfl | rfl
                · exact ⟨hbl2, z0⟩
                · exact ⟨hbl2, z1⟩
                · exact ⟨hbl2, z2⟩
                · exact ⟨hbl2, z3⟩
                · exact ⟨hbl2, z4⟩
                · exact ⟨hqs, r0⟩
                · exact ⟨hqs, r1⟩
                · exact ⟨hqs, r2⟩
                · exact ⟨hqs, r3⟩
                · exact ⟨hqs, r4⟩
                · exact ⟨hxs, y0⟩
                · exact ⟨hxs, y1⟩
                · exact ⟨hxs, y2⟩
                · exact ⟨hxs, y3⟩
                · exact ⟨hxs, y4⟩)
              have HFX := Lib.hid hfix.drew.all15
              have HDB := Lib.hid hbX
              clear hw12 hx hbX hfix hc5
              have HKO := Lib.hid (fun wx => (keyOf' rn rt rc ru rd wx).mono (fun e9 w9 (h : _ ∧ _) => (⟨h.1, h.2.b⟩ : _ ∧ Below wx.heap.size wx w9)))
              have i0 : (0 : Int) ≤ (k : Int) := by omega
              have i2 : (k : Int) < (mc : Int) := by omega
              refine wp_region_held_drew (S := (fun wx => Hid (Fix w12 [(⟨b, o + k * 5, none⟩, .string sn), (⟨b, o + k * 5 + 1, none⟩, .int .i64 st), (⟨b, o + k * 5 + 2, none⟩, .int .i64 sc1), (⟨b, o + k * 5 + 3, none⟩, .int .i64 su), (⟨b, o + k * 5 + 4, none⟩, .slice p dl c9), (⟨q, 0, none⟩, .string rn), (⟨q, 1, none⟩, .int .i64 rt), (⟨q, 2, none⟩, .int .i64 rc), (⟨q, 3, none⟩, .int .i64 ru), (⟨q, 4, none⟩, .string rd), (⟨x, 0, none⟩, .string ⟨#[]⟩), (⟨x, 1, none⟩, .int .i64 0), (⟨x, 2, none⟩, .int .i64 0), (⟨x, 3, none⟩, .int .i64 0), (⟨x, 4, none⟩, .slice none 0 0)] wx) ∧ wx.cell? ⟨b, o + k * 5, none⟩ = some (.string sn) ∧ wx.cell? ⟨b, o + k * 5 + 1, none⟩ = some (.int .i64 st) ∧ wx.cell? ⟨b, o + k * 5 + 2, none⟩ = some (.int .i64 sc1) ∧ wx.cell? ⟨b, o + k * 5 + 3, none⟩ = some (.int .i64 su) ∧ wx.cell? ⟨b, o + k * 5 + 4, none⟩ = some (.slice p dl c9) ∧ wx.cell? ⟨q, 0, none⟩ = some (.string rn) ∧ wx.cell? ⟨q, 1, none⟩ = some (.int .i64 rt) ∧ wx.cell? ⟨q, 2, none⟩ = some (.int .i64 rc) ∧ wx.cell? ⟨q, 3, none⟩ = some (.int .i64 ru) ∧ wx.cell? ⟨q, 4, none⟩ = some (.string rd) ∧ wx.cell? ⟨x, 0, none⟩ = some (.string ⟨#[]⟩) ∧ wx.cell? ⟨x, 1, none⟩ = some (.int .i64 0) ∧ wx.cell? ⟨x, 2, none⟩ = some (.int .i64 0) ∧ wx.cell? ⟨x, 3, none⟩ = some (.int .i64 0) ∧ wx.cell? ⟨x, 4, none⟩ = some (.slice none 0 0))) (by kernel_rfl) (HFX.out) (fun hHeld => ?_)
              refine wpAnyH_take (i := 0) (oi := { dst := some 93, op := Go.Op.move (Go.Operand.tmp 8), type := 66, pos := "extra.go:42", after := #[], guard := none }) (v := ?v0_5301) rfl (by kernel_rfl) (by kernel_rfl) (by kernel_rfl) (fun _ _ _ h => h) (Or.inl ⟨by rfl, ?y0_5301⟩) hHeld ?r0_5301
              case y0_5301 => intro w hSw; (try dsimp only at hSw); go_simp; try with_reducible rfl
              try simp only [Act.put, List.setIfInBounds_toArray, List.set_cons_zero, List.set_cons_succ]
              refine wpAnyH_take (i := 1) (oi := { dst := some 94, op := Go.Op.move (Go.Operand.tmp 12), type := 3, pos := "extra.go:42", after := #[], guard := none }) (v := ?v1_5301) rfl (by kernel_rfl) (by kernel_rfl) (by kernel_rfl) (fun _ _ _ h => h) (Or.inl ⟨by rfl, ?y1_5301⟩) hHeld ?r1_5301
              case y1_5301 => intro w hSw; (try dsimp only at hSw); go_simp; try with_reducible rfl
              try simp only [Act.put, List.setIfInBounds_toArray, List.set_cons_zero, List.set_cons_succ]
              refine wpAnyH_take (i := 2) (oi := { dst := some 95, op := Go.Op.indexAddr 66 (Go.Operand.tmp 93) (Go.Operand.tmp 94), type := 0, pos := "extra.go:42", after := #[{ on := 0, ground := Go.Ground.data }, { on := 1, ground := Go.Ground.data }], guard := none }) (v := ?v2_5301) rfl (by kernel_rfl) (by kernel_rfl) (by kernel_rfl) (fun _ _ _ h => h) (Or.inl ⟨by rfl, ?y2_5301⟩) hHeld ?r2_5301
              case y2_5301 => intro w hSw; (try dsimp only at hSw); go_simp; try with_reducible rfl
              try simp only [Act.put, List.setIfInBounds_toArray, List.set_cons_zero, List.set_cons_succ]
              refine wpAnyH_take (i := 3) (oi := { dst := some 96, op := Go.Op.fieldAddr 73 (Go.Operand.tmp 95) 0, type := 0, pos := "extra.go:42", after := #[{ on := 2, ground := Go.Ground.data }], guard := none }) (v := ?v3_5301) rfl (by kernel_rfl) (by kernel_rfl) (by kernel_rfl) (fun _ _ _ h => h) (Or.inl ⟨by rfl, ?y3_5301⟩) hHeld ?r3_5301
              case y3_5301 => intro w hSw; (try dsimp only at hSw); go_simp; try with_reducible rfl
              try simp only [Act.put, List.setIfInBounds_toArray, List.set_cons_zero, List.set_cons_succ]
              refine wpAnyH_take (i := 4) (oi := { dst := some 97, op := Go.Op.load 68 (Go.Operand.tmp 96), type := 68, pos := "extra.go:42", after := #[{ on := 3, ground := Go.Ground.data }], guard := none }) (v := ?v4_5301) rfl (by kernel_rfl) (by kernel_rfl) (by kernel_rfl) (fun _ _ _ h => h) (Or.inl ⟨by rfl, ?y4_5301⟩) hHeld ?r4_5301
              case y4_5301 => intro w hSw; (try dsimp only at hSw); go_simp; try with_reducible rfl
              try simp only [Act.put, List.setIfInBounds_toArray, List.set_cons_zero, List.set_cons_succ]
              refine wpAnyH_take (i := 5) (oi := { dst := some 98, op := Go.Op.load 23 (Go.Operand.tmp 4), type := 23, pos := "extra.go:42", after := #[], guard := none }) (v := ?v5_5301) rfl (by kernel_rfl) (by kernel_rfl) (by kernel_rfl) (fun _ _ _ h => h) (Or.inl ⟨by rfl, ?y5_5301⟩) hHeld ?r5_5301
              case y5_5301 => intro w hSw; (try dsimp only at hSw); go_simp; try with_reducible rfl
              try simp only [Act.put, List.setIfInBounds_toArray, List.set_cons_zero, List.set_cons_succ]
              refine wpAnyH_ready (rs := [6]) (by kernel_rfl) (by simp) ?_
              refine AllReadyH.cons (o := { dst := some 99, op := Go.Op.call { callee := Go.Callee.value (Go.Operand.func 67), args := #[Go.Operand.tmp 98], argTypes := #[23] }, type := 68, pos := "extra.go:42", after := #[{ on := 5, ground := Go.Ground.data }], guard := none }) rfl (fun K hK => ?_) AllReadyH.nil
              go_simp
              refine (HKO.out _).mono ?_; rintro e wy ⟨rfl, hb⟩
              go_wp2_with fail
              refine hK.out _ _ (Fix.next15 hb hHeld) (fun hHeld2 => ?_)
              clear hK K hHeld
              have hHeld := hHeld2
              clear hHeld2
              try simp only [Act.put, List.setIfInBounds_toArray, List.set_cons_zero, List.set_cons_succ]
              refine wpAnyH_take (i := 7) (oi := { dst := some 100, op := Go.Op.binOp Go.BinOp.eql 68 (Go.Operand.tmp 97) (Go.Operand.tmp 99) 68, type := 4, pos := "extra.go:42", after := #[{ on := 4, ground := Go.Ground.data }, { on := 6, ground := Go.Ground.data }], guard := none }) (v := ?v7_5302) rfl (by kernel_rfl) (by kernel_rfl) (by kernel_rfl) (fun _ _ _ h => h) (Or.inl ⟨by rfl, ?y7_5302⟩) hHeld ?r7_5302
              case y7_5302 => intro w hSw; (try dsimp only at hSw); go_simp; try with_reducible rfl
              try simp only [Act.put, List.setIfInBounds_toArray, List.set_cons_zero, List.set_cons_succ]
              refine wpAnyH_done (by kernel_rfl) ?_ _
              clear hke
              have HFX2 := Lib.hid (Fix.all15 (Fix.drew hHeld.1.out))
              clear hHeld HFX
              have HHA := Lib.hid (fun wx (hx : Below w12.heap.size w12 wx) => has_any sn st sc1 su sd p dl c9 rd wx (HPR.out.below (HDB.out.trans (hx.mono HDB.out.size))) (by omega))
              rw [memS_t HRD.out] at HHA
              go_upto_region 20 with fail
              refine wp_region_held_drew (S := (fun wx => Hid (Fix w12 [(⟨b, o + k * 5, none⟩, .string sn), (⟨b, o + k * 5 + 1, none⟩, .int .i64 st), (⟨b, o + k * 5 + 2, none⟩, .int .i64 sc1), (⟨b, o + k * 5 + 3, none⟩, .int .i64 su), (⟨b, o + k * 5 + 4, none⟩, .slice p dl c9), (⟨q, 0, none⟩, .string rn), (⟨q, 1, none⟩, .int .i64 rt), (⟨q, 2, none⟩, .int .i64 rc), (⟨q, 3, none⟩, .int .i64 ru), (⟨q, 4, none⟩, .string rd), (⟨x, 0, none⟩, .string ⟨#[]⟩), (⟨x, 1, none⟩, .int .i64 0), (⟨x, 2, none⟩, .int .i64 0), (⟨x, 3, none⟩, .int .i64 0), (⟨x, 4, none⟩, .slice none 0 0)] wx) ∧ wx.cell? ⟨b, o + k * 5, none⟩ = some (.string sn) ∧ wx.cell? ⟨b, o + k * 5 + 1, none⟩ = some (.int .i64 st) ∧ wx.cell? ⟨b, o + k * 5 + 2, none⟩ = some (.int .i64 sc1) ∧ wx.cell? ⟨b, o + k * 5 + 3, none⟩ = some (.int .i64 su) ∧ wx.cell? ⟨b, o + k * 5 + 4, none⟩ = some (.slice p dl c9) ∧ wx.cell? ⟨q, 0, none⟩ = some (.string rn) ∧ wx.cell? ⟨q, 1, none⟩ = some (.int .i64 rt) ∧ wx.cell? ⟨q, 2, none⟩ = some (.int .i64 rc) ∧ wx.cell? ⟨q, 3, none⟩ = some (.int .i64 ru) ∧ wx.cell? ⟨q, 4, none⟩ = some (.string rd) ∧ wx.cell? ⟨x, 0, none⟩ = some (.string ⟨#[]⟩) ∧ wx.cell? ⟨x, 1, none⟩ = some (.int .i64 0) ∧ wx.cell? ⟨x, 2, none⟩ = some (.int .i64 0) ∧ wx.cell? ⟨x, 3, none⟩ = some (.int .i64 0) ∧ wx.cell? ⟨x, 4, none⟩ = some (.slice none 0 0))) (by kernel_rfl) (HFX2.out) (fun hHeld => ?_)
              refine wpAnyH_take (i := 0) (oi := { dst := some 101, op := Go.Op.move (Go.Operand.tmp 8), type := 66, pos := "extra.go:43", after := #[], guard := none }) (v := ?v0_5401) rfl (by kernel_rfl) (by kernel_rfl) (by kernel_rfl) (fun _ _ _ h => h) (Or.inl ⟨by rfl, ?y0_5401⟩) hHeld ?r0_5401
              case y0_5401 => intro w hSw; (try dsimp only at hSw); go_simp; try with_reducible rfl
              try simp only [Act.put, List.setIfInBounds_toArray, List.set_cons_zero, List.set_cons_succ]
              refine wpAnyH_take (i := 1) (oi := { dst := some 102, op := Go.Op.move (Go.Operand.tmp 12), type := 3, pos := "extra.go:43", after := #[], guard := none }) (v := ?v1_5401) rfl (by kernel_rfl) (by kernel_rfl) (by kernel_rfl) (fun _ _ _ h => h) (Or.inl ⟨by rfl, ?y1_5401⟩) hHeld ?r1_5401
              case y1_5401 => intro w hSw; (try dsimp only at hSw); go_simp; try with_reducible rfl
              try simp only [Act.put, List.setIfInBounds_toArray, List.set_cons_zero, List.set_cons_succ]
              refine wpAnyH_take (i := 2) (oi := { dst := some 103, op := Go.Op.indexAddr 66 (Go.Operand.tmp 101) (Go.Operand.tmp 102), type := 0, pos := "extra.go:43", after := #[{ on := 0, ground := Go.Ground.data }, { on := 1, ground := Go.Ground.data }], guard := none }) (v := ?v2_5401) rfl (by kernel_rfl) (by kernel_rfl) (by kernel_rfl) (fun _ _ _ h => h) (Or.inl ⟨by rfl, ?y2_5401⟩) hHeld ?r2_5401
              case y2_5401 => intro w hSw; (try dsimp only at hSw); go_simp; try with_reducible rfl
              try simp only [Act.put, List.setIfInBounds_toArray, List.set_cons_zero, List.set_cons_succ]
              refine wpAnyH_take (i := 3) (oi := { dst := some 104, op := Go.Op.load 73 (Go.Operand.tmp 103), type := 73, pos := "extra.go:43", after := #[{ on := 2, ground := Go.Ground.data }], guard := none }) (v := ?v3_5401) rfl (by kernel_rfl) (by kernel_rfl) (by kernel_rfl) (fun _ _ _ h => h) (Or.inl ⟨by rfl, ?y3_5401⟩) hHeld ?r3_5401
              case y3_5401 => intro w hSw; (try dsimp only at hSw); go_simp; try with_reducible rfl
              try simp only [Act.put, List.setIfInBounds_toArray, List.set_cons_zero, List.set_cons_succ]
              refine wpAnyH_take (i := 4) (oi := { dst := some 105, op := Go.Op.fieldAddr 23 (Go.Operand.tmp 4) 4, type := 0, pos := "extra.go:43", after := #[], guard := none }) (v := ?v4_5401) rfl (by kernel_rfl) (by kernel_rfl) (by kernel_rfl) (fun _ _ _ h => h) (Or.inl ⟨by rfl, ?y4_5401⟩) hHeld ?r4_5401
              case y4_5401 => intro w hSw; (try dsimp only at hSw); go_simp; try with_reducible rfl
              try simp only [Act.put, List.setIfInBounds_toArray, List.set_cons_zero, List.set_cons_succ]
              refine wpAnyH_take (i := 5) (oi := { dst := some 106, op := Go.Op.load 9 (Go.Operand.tmp 105), type := 9, pos := "extra.go:43", after := #[{ on := 4, ground := Go.Ground.data }], guard := none }) (v := ?v5_5401) rfl (by kernel_rfl) (by kernel_rfl) (by kernel_rfl) (fun _ _ _ h => h) (Or.inl ⟨by rfl, ?y5_5401⟩) hHeld ?r5_5401
              case y5_5401 => intro w hSw; (try dsimp only at hSw); go_simp; try with_reducible rfl
              try simp only [Act.put, List.setIfInBounds_toArray, List.set_cons_zero, List.set_cons_succ]
              refine wpAnyH_ready (rs := [6]) (by kernel_rfl) (by simp) ?_
              refine AllReadyH.cons (o := { dst := some 107, op := Go.Op.call { callee := Go.Callee.value (Go.Operand.func 65), args := #[Go.Operand.tmp 104, Go.Operand.tmp 106], argTypes := #[73, 9] }, type := 4, pos := "extra.go:43", after := #[{ on := 3, ground := Go.Ground.data }, { on := 5, ground := Go.Ground.data }], guard := none }) rfl (fun K hK => ?_) AllReadyH.nil
              go_simp
              refine (HHA.out _ (Fix.get15 hHeld)).mono ?_; rintro e wy ⟨rfl, hb⟩
              go_wp2_with fail
              refine hK.out _ _ (Fix.next15 hb hHeld) (fun hHeld2 => ?_)
              clear hK K hHeld
              have hHeld := hHeld2
              clear hHeld2
              try simp only [Act.put, List.setIfInBounds_toArray, List.set_cons_zero, List.set_cons_succ]
              refine wpAnyH_take (i := 7) (oi := { dst := some 108, op := Go.Op.unOp Go.UnOp.not 4 (Go.Operand.tmp 107), type := 4, pos := "extra.go:43", after := #[{ on := 6, ground := Go.Ground.data }], guard := none }) (v := ?v7_5402) rfl (by kernel_rfl) (by kernel_rfl) (by kernel_rfl) (fun _ _ _ h => h) (Or.inl ⟨by rfl, ?y7_5402⟩) hHeld ?r7_5402
              case y7_5402 => intro w hSw; (try dsimp only at hSw); go_simp; try with_reducible rfl
              try simp only [Act.put, List.setIfInBounds_toArray, List.set_cons_zero, List.set_cons_succ]
              refine wpAnyH_take (i := 8) (oi := { dst := some 109, op := Go.Op.move (Go.Operand.tmp 108), type := 4, pos := "extra.go:43", after := #[{ on := 7, ground := Go.Ground.data }, { on := 6, ground := Go.Ground.chain }], guard := none }) (v := ?v8_5402) rfl (by kernel_rfl) (by kernel_rfl) (by kernel_rfl) (fun _ _ _ h => h) (Or.inl ⟨by rfl, ?y8_5402⟩) hHeld ?r8_5402
              case y8_5402 => intro w hSw; (try dsimp only at hSw); go_simp; try with_reducible rfl
              try simp only [Act.put, List.setIfInBounds_toArray, List.set_cons_zero, List.set_cons_succ]
              refine wpAnyH_take (i := 9) (oi := { dst := some 110, op := Go.Op.move (Go.Operand.tmp 8), type := 66, pos := "extra.go:43", after := #[{ on := 8, ground := Go.Ground.guard }], guard := some (8, false) }) (v := ?v9_5402) rfl (by kernel_rfl) (by kernel_rfl) (by kernel_rfl) (fun _ _ _ h => h) (Or.inl ⟨by rfl, ?y9_5402⟩) hHeld ?r9_5402
              case y9_5402 => intro w hSw; (try dsimp only at hSw); go_simp; try with_reducible rfl
              try simp only [Act.put, List.setIfInBounds_toArray, List.set_cons_zero, List.set_cons_succ]
              refine wpAnyH_take (i := 10) (oi := { dst := some 111, op := Go.Op.move (Go.Operand.tmp 12), type := 3, pos := "extra.go:43", after := #[{ on := 8, ground := Go.Ground.guard }], guard := some (8, false) }) (v := ?v10_5402) rfl (by kernel_rfl) (by kernel_rfl) (by kernel_rfl) (fun _ _ _ h => h) (Or.inl ⟨by rfl, ?y10_5402⟩) hHeld ?r10_5402
              case y10_5402 => intro w hSw; (try dsimp only at hSw); go_simp; try with_reducible rfl
              try simp only [Act.put, List.setIfInBounds_toArray, List.set_cons_zero, List.set_cons_succ]
              refine wpAnyH_take (i := 11) (oi := { dst := some 112, op := Go.Op.indexAddr 66 (Go.Operand.tmp 110) (Go.Operand.tmp 111), type := 0, pos := "extra.go:43", after := #[{ on := 9, ground := Go.Ground.data }, { on := 10, ground := Go.Ground.data }, { on := 8, ground := Go.Ground.guard }], guard := some (8, false) }) (v := ?v11_5402) rfl (by kernel_rfl) (by kernel_rfl) (by kernel_rfl) (fun _ _ _ h => h) (Or.inl ⟨by rfl, ?y11_5402⟩) hHeld ?r11_5402
              case y11_5402 => intro w hSw; (try dsimp only at hSw); go_simp; try with_reducible rfl
              try simp only [Act.put, List.setIfInBounds_toArray, List.set_cons_zero, List.set_cons_succ]
              refine wpAnyH_take (i := 12) (oi := { dst := some 113, op := Go.Op.fieldAddr 73 (Go.Operand.tmp 112) 1, type := 0, pos := "extra.go:43", after := #[{ on := 11, ground := Go.Ground.data }, { on := 8, ground := Go.Ground.guard }], guard := some (8, false) }) (v := ?v12_5402) rfl (by kernel_rfl) (by kernel_rfl) (by kernel_rfl) (fun _ _ _ h => h) (Or.inl ⟨by rfl, ?y12_5402⟩) hHeld ?r12_5402
              case y12_5402 => intro w hSw; (try dsimp only at hSw); go_simp; try with_reducible rfl
              try simp only [Act.put, List.setIfInBounds_toArray, List.set_cons_zero, List.set_cons_succ]
              refine wpAnyH_take (i := 13) (oi := { dst := some 114, op := Go.Op.load 3 (Go.Operand.tmp 113), type := 3, pos := "extra.go:43", after := #[{ on := 12, ground := Go.Ground.data }, { on := 8, ground := Go.Ground.guard }], guard := some (8, false) }) (v := ?v13_5402) rfl (by kernel_rfl) (by kernel_rfl) (by kernel_rfl) (fun _ _ _ h => h) (Or.inl ⟨by rfl, ?y13_5402⟩) hHeld ?r13_5402
              case y13_5402 => intro w hSw; (try dsimp only at hSw); go_simp; try with_reducible rfl
              try simp only [Act.put, List.setIfInBounds_toArray, List.set_cons_zero, List.set_cons_succ]
              refine wpAnyH_take (i := 14) (oi := { dst := some 115, op := Go.Op.fieldAddr 23 (Go.Operand.tmp 4) 3, type := 0, pos := "extra.go:43", after := #[{ on := 8, ground := Go.Ground.guard }], guard := some (8, false) }) (v := ?v14_5402) rfl (by kernel_rfl) (by kernel_rfl) (by kernel_rfl) (fun _ _ _ h => h) (Or.inl ⟨by rfl, ?y14_5402⟩) hHeld ?r14_5402
              case y14_5402 => intro w hSw; (try dsimp only at hSw); go_simp; try with_reducible rfl
              try simp only [Act.put, List.setIfInBounds_toArray, List.set_cons_zero, List.set_cons_succ]
              refine wpAnyH_take (i := 15) (oi := { dst := some 116, op := Go.Op.load 3 (Go.Operand.tmp 115), type := 3, pos := "extra.go:43", after := #[{ on := 14, ground := Go.Ground.data }, { on := 8, ground := Go.Ground.guard }], guard := some (8, false) }) (v := ?v15_5402) rfl (by kernel_rfl) (by kernel_rfl) (by kernel_rfl) (fun _ _ _ h => h) (Or.inl ⟨by rfl, ?y15_5402⟩) hHeld ?r15_5402
              case y15_5402 => intro w hSw; (try dsimp only at hSw); go_simp; try with_reducible rfl
              try simp only [Act.put, List.setIfInBounds_toArray, List.set_cons_zero, List.set_cons_succ]
              refine wpAnyH_take (i := 16) (oi := { dst := some 117, op := Go.Op.binOp Go.BinOp.gtr 3 (Go.Operand.tmp 114) (Go.Operand.tmp 116) 3, type := 4, pos := "extra.go:43", after := #[{ on := 13, ground := Go.Ground.data }, { on := 15, ground := Go.Ground.data }, { on := 8, ground := Go.Ground.guard }], guard := some (8, false) }) (v := ?v16_5402) rfl (by kernel_rfl) (by kernel_rfl) (by kernel_rfl) (fun _ _ _ h => h) (Or.inl ⟨by rfl, ?y16_5402⟩) hHeld ?r16_5402
              case y16_5402 => intro w hSw; (try dsimp only at hSw); go_simp; try with_reducible rfl
              try simp only [Act.put, List.setIfInBounds_toArray, List.set_cons_zero, List.set_cons_succ]
              refine wpAnyH_take (i := 17) (oi := { dst := some 118, op := Go.Op.pick (Go.Operand.tmp 109) (Go.Operand.const (Go.Value.bool true)) (Go.Operand.tmp 117), type := 4, pos := "extra.go:43", after := #[{ on := 8, ground := Go.Ground.data }, { on := 16, ground := Go.Ground.data }], guard := none }) (v := ?v17_5402) rfl (by kernel_rfl) (by kernel_rfl) (by kernel_rfl) (fun _ _ _ h => h) (Or.inl ⟨by rfl, ?y17_5402⟩) hHeld ?r17_5402
              case y17_5402 => intro w hSw; (try dsimp only at hSw); go_simp; try with_reducible rfl
              try simp only [Act.put, List.setIfInBounds_toArray, List.set_cons_zero, List.set_cons_succ]
              refine wpAnyH_take (i := 18) (oi := { dst := some 119, op := Go.Op.move (Go.Operand.tmp 118), type := 4, pos := "extra.go:43", after := #[{ on := 17, ground := Go.Ground.data }, { on := 8, ground := Go.Ground.chain }], guard := none }) (v := ?v18_5402) rfl (by kernel_rfl) (by kernel_rfl) (by kernel_rfl) (fun _ _ _ h => h) (Or.inl ⟨by rfl, ?y18_5402⟩) hHeld ?r18_5402
              case y18_5402 => intro w hSw; (try dsimp only at hSw); go_simp; try with_reducible rfl
              try simp only [Act.put, List.setIfInBounds_toArray, List.set_cons_zero, List.set_cons_succ]
              refine wpAnyH_take (i := 19) (oi := { dst := some 120, op := Go.Op.move (Go.Operand.tmp 14), type := 4, pos := "extra.go:43", after := #[{ on := 18, ground := Go.Ground.guard }], guard := some (18, false) }) (v := ?v19_5402) rfl (by kernel_rfl) (by kernel_rfl) (by kernel_rfl) (fun _ _ _ h => h) (Or.inl ⟨by rfl, ?y19_5402⟩) hHeld ?r19_5402
              case y19_5402 => intro w hSw; (try dsimp only at hSw); go_simp; try with_reducible rfl
              try simp only [Act.put, List.setIfInBounds_toArray, List.set_cons_zero, List.set_cons_succ]
              refine wpAnyH_take (i := 20) (oi := { dst := some 121, op := Go.Op.move (Go.Operand.tmp 120), type := 4, pos := "extra.go:43", after := #[{ on := 19, ground := Go.Ground.data }, { on := 18, ground := Go.Ground.chain }, { on := 18, ground := Go.Ground.guard }], guard := some (18, false) }) (v := ?v20_5402) rfl (by kernel_rfl) (by kernel_rfl) (by kernel_rfl) (fun _ _ _ h => h) (Or.inl ⟨by rfl, ?y20_5402⟩) hHeld ?r20_5402
              case y20_5402 => intro w hSw; (try dsimp only at hSw); go_simp; try with_reducible rfl
              try simp only [Act.put, List.setIfInBounds_toArray, List.set_cons_zero, List.set_cons_succ]
              refine wpAnyH_take (i := 21) (oi := { dst := some 122, op := Go.Op.move (Go.Operand.tmp 8), type := 66, pos := "extra.go:43", after := #[{ on := 20, ground := Go.Ground.guard }], guard := some (20, true) }) (v := undef) rfl (by kernel_rfl) (by kernel_rfl) (by kernel_rfl) (fun _ _ _ h => h) (Or.inr ⟨by rfl, rfl⟩) hHeld ?_
              try simp only [Act.put, List.setIfInBounds_toArray, List.set_cons_zero, List.set_cons_succ]
              refine wpAnyH_take (i := 22) (oi := { dst := some 123, op := Go.Op.move (Go.Operand.tmp 12), type := 3, pos := "extra.go:43", after := #[{ on := 20, ground := Go.Ground.guard }], guard := some (20, true) }) (v := undef) rfl (by kernel_rfl) (by kernel_rfl) (by kernel_rfl) (fun _ _ _ h => h) (Or.inr ⟨by rfl, rfl⟩) hHeld ?_
              try simp only [Act.put, List.setIfInBounds_toArray, List.set_cons_zero, List.set_cons_succ]
              refine wpAnyH_take (i := 23) (oi := { dst := some 124, op := Go.Op.indexAddr 66 (Go.Operand.tmp 122) (Go.Operand.tmp 123), type := 0, pos := "extra.go:43", after := #[{ on := 21, ground := Go.Ground.data }, { on := 22, ground := Go.Ground.data }, { on := 20, ground := Go.Ground.guard }], guard := some (20, true) }) (v := undef) rfl (by kernel_rfl) (by kernel_rfl) (by kernel_rfl) (fun _ _ _ h => h) (Or.inr ⟨by rfl, rfl⟩) hHeld ?_
              try simp only [Act.put, List.setIfInBounds_toArray, List.set_cons_zero, List.set_cons_succ]
              refine wpAnyH_take (i := 24) (oi := { dst := some 125, op := Go.Op.fieldAddr 73 (Go.Operand.tmp 124) 1, type := 0, pos := "extra.go:43", after := #[{ on := 23, ground := Go.Ground.data }, { on := 20, ground := Go.Ground.guard }], guard := some (20, true) }) (v := undef) rfl (by kernel_rfl) (by kernel_rfl) (by kernel_rfl) (fun _ _ _ h => h) (Or.inr ⟨by rfl, rfl⟩) hHeld ?_
              try simp only [Act.put, List.setIfInBounds_toArray, List.set_cons_zero, List.set_cons_succ]
              refine wpAnyH_take (i := 25) (oi := { dst := some 126, op := Go.Op.load 3 (Go.Operand.tmp 125), type := 3, pos := "extra.go:43", after := #[{ on := 24, ground := Go.Ground.data }, { on := 20, ground := Go.Ground.guard }], guard := some (20, true) }) (v := undef) rfl (by kernel_rfl) (by kernel_rfl) (by kernel_rfl) (fun _ _ _ h => h) (Or.inr ⟨by rfl, rfl⟩) hHeld ?_
              try simp only [Act.put, List.setIfInBounds_toArray, List.set_cons_zero, List.set_cons_succ]
              refine wpAnyH_take (i := 26) (oi := { dst := some 127, op := Go.Op.fieldAddr 73 (Go.Operand.tmp 13) 1, type := 0, pos := "extra.go:43", after := #[{ on := 20, ground := Go.Ground.guard }], guard := some (20, true) }) (v := undef) rfl (by kernel_rfl) (by kernel_rfl) (by kernel_rfl) (fun _ _ _ h => h) (Or.inr ⟨by rfl, rfl⟩) hHeld ?_
              try simp only [Act.put, List.setIfInBounds_toArray, List.set_cons_zero, List.set_cons_succ]
              refine wpAnyH_take (i := 27) (oi := { dst := some 128, op := Go.Op.load 3 (Go.Operand.tmp 127), type := 3, pos := "extra.go:43", after := #[{ on := 26, ground := Go.Ground.data }, { on := 20, ground := Go.Ground.guard }], guard := some (20, true) }) (v := undef) rfl (by kernel_rfl) (by kernel_rfl) (by kernel_rfl) (fun _ _ _ h => h) (Or.inr ⟨by rfl, rfl⟩) hHeld ?_
              try simp only [Act.put, List.setIfInBounds_toArray, List.set_cons_zero, List.set_cons_succ]
              refine wpAnyH_take (i := 28) (oi := { dst := some 129, op := Go.Op.binOp Go.BinOp.gtr 3 (Go.Operand.tmp 126) (Go.Operand.tmp 128) 3, type := 4, pos := "extra.go:43", after := #[{ on := 25, ground := Go.Ground.data }, { on := 27, ground := Go.Ground.data }, { on := 20, ground := Go.Ground.guard }], guard := some (20, true) }) (v := undef) rfl (by kernel_rfl) (by kernel_rfl) (by kernel_rfl) (fun _ _ _ h => h) (Or.inr ⟨by rfl, rfl⟩) hHeld ?_
              try simp only [Act.put, List.setIfInBounds_toArray, List.set_cons_zero, List.set_cons_succ]
              refine wpAnyH_take (i := 29) (oi := { dst := some 130, op := Go.Op.move (Go.Operand.tmp 129), type := 4, pos := "extra.go:43", after := #[{ on := 28, ground := Go.Ground.data }, { on := 20, ground := Go.Ground.chain }, { on := 20, ground := Go.Ground.guard }], guard := some (20, true) }) (v := undef) rfl (by kernel_rfl) (by kernel_rfl) (by kernel_rfl) (fun _ _ _ h => h) (Or.inr ⟨by rfl, rfl⟩) hHeld ?_
              try simp only [Act.put, List.setIfInBounds_toArray, List.set_cons_zero, List.set_cons_succ]
              refine wpAnyH_take (i := 30) (oi := { dst := some 131, op := Go.Op.move (Go.Operand.tmp 8), type := 66, pos := "extra.go:43", after := #[{ on := 29, ground := Go.Ground.guard }], guard := some (29, false) }) (v := undef) rfl (by kernel_rfl) (by kernel_rfl) (by kernel_rfl) (fun _ _ _ h => h) (Or.inr ⟨by rfl, rfl⟩) hHeld ?_
              try simp only [Act.put, List.setIfInBounds_toArray, List.set_cons_zero, List.set_cons_succ]
              refine wpAnyH_take (i := 31) (oi := { dst := some 132, op := Go.Op.move (Go.Operand.tmp 12), type := 3, pos := "extra.go:43", after := #[{ on := 29, ground := Go.Ground.guard }], guard := some (29, false) }) (v := undef) rfl (by kernel_rfl) (by kernel_rfl) (by kernel_rfl) (fun _ _ _ h => h) (Or.inr ⟨by rfl, rfl⟩) hHeld ?_
              try simp only [Act.put, List.setIfInBounds_toArray, List.set_cons_zero, List.set_cons_succ]
              refine wpAnyH_take (i := 32) (oi := { dst := some 133, op := Go.Op.indexAddr 66 (Go.Operand.tmp 131) (Go.Operand.tmp 132), type := 0, pos := "extra.go:43", after := #[{ on := 30, ground := Go.Ground.data }, { on := 31, ground := Go.Ground.data }, { on := 29, ground := Go.Ground.guard }], guard := some (29, false) }) (v := undef) rfl (by kernel_rfl) (by kernel_rfl) (by kernel_rfl) (fun _ _ _ h => h) (Or.inr ⟨by rfl, rfl⟩) hHeld ?_
              try simp only [Act.put, List.setIfInBounds_toArray, List.set_cons_zero, List.set_cons_succ]
              refine wpAnyH_take (i := 33) (oi := { dst := some 134, op := Go.Op.fieldAddr 73 (Go.Operand.tmp 133) 2, type := 0, pos := "extra.go:43", after := #[{ on := 32, ground := Go.Ground.data }, { on := 29, ground := Go.Ground.guard }], guard := some (29, false) }) (v := undef) rfl (by kernel_rfl) (by kernel_rfl) (by kernel_rfl) (fun _ _ _ h => h) (Or.inr ⟨by rfl, rfl⟩) hHeld ?_
              try simp only [Act.put, List.setIfInBounds_toArray, List.set_cons_zero, List.set_cons_succ]
              refine wpAnyH_take (i := 34) (oi := { dst := some 135, op := Go.Op.load 45 (Go.Operand.tmp 134), type := 45, pos := "extra.go:43", after := #[{ on := 33, ground := Go.Ground.data }, { on := 29, ground := Go.Ground.guard }], guard := some (29, false) }) (v := undef) rfl (by kernel_rfl) (by kernel_rfl) (by kernel_rfl) (fun _ _ _ h => h) (Or.inr ⟨by rfl, rfl⟩) hHeld ?_
              try simp only [Act.put, List.setIfInBounds_toArray, List.set_cons_zero, List.set_cons_succ]
              refine wpAnyH_take (i := 35) (oi := { dst := some 136, op := Go.Op.call { callee := Go.Callee.builtin Go.Builtin.len, args := #[Go.Operand.tmp 135], argTypes := #[45] }, type := 3, pos := "extra.go:43", after := #[{ on := 34, ground := Go.Ground.data }, { on := 29, ground := Go.Ground.guard }], guard := some (29, false) }) (v := undef) rfl (by kernel_rfl) (by kernel_rfl) (by kernel_rfl) (fun _ _ _ h => h) (Or.inr ⟨by rfl, rfl⟩) hHeld ?_
              try simp only [Act.put, List.setIfInBounds_toArray, List.set_cons_zero, List.set_cons_succ]
              refine wpAnyH_take (i := 36) (oi := { dst := some 137, op := Go.Op.fieldAddr 73 (Go.Operand.tmp 13) 2, type := 0, pos := "extra.go:43", after := #[{ on := 29, ground := Go.Ground.guard }], guard := some (29, false) }) (v := undef) rfl (by kernel_rfl) (by kernel_rfl) (by kernel_rfl) (fun _ _ _ h => h) (Or.inr ⟨by rfl, rfl⟩) hHeld ?_
              try simp only [Act.put, List.setIfInBounds_toArray, List.set_cons_zero, List.set_cons_succ]
              refine wpAnyH_take (i := 37) (oi := { dst := some 138, op := Go.Op.load 45 (Go.Operand.tmp 137), type := 45, pos := "extra.go:43", after := #[{ on := 36, ground := Go.Ground.data }, { on := 29, ground := Go.Ground.guard }], guard := some (29, false) }) (v := undef) rfl (by kernel_rfl) (by kernel_rfl) (by kernel_rfl) (fun _ _ _ h => h) (Or.inr ⟨by rfl, rfl⟩) hHeld ?_
              try simp only [Act.put, List.setIfInBounds_toArray, List.set_cons_zero, List.set_cons_succ]
              refine wpAnyH_take (i := 38) (oi := { dst := some 139, op := Go.Op.call { callee := Go.Callee.builtin Go.Builtin.len, args := #[Go.Operand.tmp 138], argTypes := #[45] }, type := 3, pos := "extra.go:43", after := #[{ on := 37, ground := Go.Ground.data }, { on := 29, ground := Go.Ground.guard }], guard := some (29, false) }) (v := undef) rfl (by kernel_rfl) (by kernel_rfl) (by kernel_rfl) (fun _ _ _ h => h) (Or.inr ⟨by rfl, rfl⟩) hHeld ?_
              try simp only [Act.put, List.setIfInBounds_toArray, List.set_cons_zero, List.set_cons_succ]
              refine wpAnyH_take (i := 39) (oi := { dst := some 140, op := Go.Op.binOp Go.BinOp.add 3 (Go.Operand.tmp 139) (Go.Operand.const (Go.Value.int Go.IntKind.i64 1)) 3, type := 3, pos := "extra.go:43", after := #[{ on := 38, ground := Go.Ground.data }, { on := 29, ground := Go.Ground.guard }], guard := some (29, false) }) (v := undef) rfl (by kernel_rfl) (by kernel_rfl) (by kernel_rfl) (fun _ _ _ h => h) (Or.inr ⟨by rfl, rfl⟩) hHeld ?_
              try simp only [Act.put, List.setIfInBounds_toArray, List.set_cons_zero, List.set_cons_succ]
              refine wpAnyH_take (i := 40) (oi := { dst := some 141, op := Go.Op.binOp Go.BinOp.gtr 3 (Go.Operand.tmp 136) (Go.Operand.tmp 140) 3, type := 4, pos := "extra.go:43", after := #[{ on := 35, ground := Go.Ground.data }, { on := 39, ground := Go.Ground.data }, { on := 29, ground := Go.Ground.guard }], guard := some (29, false) }) (v := undef) rfl (by kernel_rfl) (by kernel_rfl) (by kernel_rfl) (fun _ _ _ h => h) (Or.inr ⟨by rfl, rfl⟩) hHeld ?_
              try simp only [Act.put, List.setIfInBounds_toArray, List.set_cons_zero, List.set_cons_succ]
              refine wpAnyH_take (i := 41) (oi := { dst := some 142, op := Go.Op.pick (Go.Operand.tmp 130) (Go.Operand.const (Go.Value.bool true)) (Go.Operand.tmp 141), type := 4, pos := "extra.go:43", after := #[{ on := 29, ground := Go.Ground.data }, { on := 40, ground := Go.Ground.data }, { on := 20, ground := Go.Ground.guard }], guard := some (20, true) }) (v := undef) rfl (by kernel_rfl) (by kernel_rfl) (by kernel_rfl) (fun _ _ _ h => h) (Or.inr ⟨by rfl, rfl⟩) hHeld ?_
              try simp only [Act.put, List.setIfInBounds_toArray, List.set_cons_zero, List.set_cons_succ]
              refine wpAnyH_take (i := 42) (oi := { dst := some 143, op := Go.Op.pick (Go.Operand.tmp 121) (Go.Operand.tmp 142) (Go.Operand.const (Go.Value.bool false)), type := 4, pos := "extra.go:43", after := #[{ on := 20, ground := Go.Ground.data }, { on := 41, ground := Go.Ground.data }, { on := 18, ground := Go.Ground.guard }], guard := some (18, false) }) (v := ?v42_5402) rfl (by kernel_rfl) (by kernel_rfl) (by kernel_rfl) (fun _ _ _ h => h) (Or.inl ⟨by rfl, ?y42_5402⟩) hHeld ?r42_5402
              case y42_5402 => intro w hSw; (try dsimp only at hSw); go_simp; try with_reducible rfl
              try simp only [Act.put, List.setIfInBounds_toArray, List.set_cons_zero, List.set_cons_succ]
              refine wpAnyH_take (i := 43) (oi := { dst := some 144, op := Go.Op.pick (Go.Operand.tmp 119) (Go.Operand.const (Go.Value.bool true)) (Go.Operand.tmp 143), type := 4, pos := "extra.go:43", after := #[{ on := 18, ground := Go.Ground.data }, { on := 42, ground := Go.Ground.data }], guard := none }) (v := ?v43_5402) rfl (by kernel_rfl) (by kernel_rfl) (by kernel_rfl) (fun _ _ _ h => h) (Or.inl ⟨by rfl, ?y43_5402⟩) hHeld ?r43_5402
              case y43_5402 => intro w hSw; (try dsimp only at hSw); go_simp; try with_reducible rfl
              try simp only [Act.put, List.setIfInBounds_toArray, List.set_cons_zero, List.set_cons_succ]
              refine wpAnyH_done (by kernel_rfl) ?_ _
              go_wp2
              go_roundw
              case rel => exact ⟨k + 1, by omega, by go_num, Lib.hid (HDB.out.trans ((Fix.get15 hHeld).mono HDB.out.size))⟩
              case measure => simp [intOf]; omega
          · have hke : ∀ W, (binOp .eql 68 (.agg #[.string sn, .int .i64 st, .int .i64 sc1]) (.agg #[.string rn, .int .i64 rt, .int .i64 rc])).run Try.prog W = .ok (.bool false) W := fun W => by
              rw [key_eql, show (sn.toList == rn.toList && (st == rt && sc1 == rc)) = false from Bool.eq_false_iff.2 (fun h => hkey ((key_same ⟨sn, st, sc1⟩ ⟨rn, rt, rc⟩).1 h))]
            have hfs := HC2.out hkey
            obtain ⟨dv, rfl, hown⟩ : ∃ dv, e = .returned (.tuple #[.agg #[.string sn, .int .i64 st, .int .i64 sc1, .int .i64 su, dv], .bool true]) ∧ w11.ownsRow wr.heap.size 9 1 dv sd.length (sc sd) := by
              rcases hfd with ⟨s', dv, h1, h2, h3⟩ | ⟨h1, _⟩
              · have h4 := h1.symm.trans hfs
                obtain rfl := Option.some.inj h4
                exact ⟨dv, h2, h3⟩
              · rw [show findK A ⟨sn, st, sc1⟩ = _ from hfs] at h1; cases h1
            rw [HDL.out] at hown
            obtain ⟨pa, pc, rfl, hrow, _⟩ := rowS_of_own hown
            clear hown hfs hfd hkey
            have hal := (Below.refl w11.heap.size w11).alloc (Nat.le_refl _) (.cells #[.string sn, .int .i64 st, .int .i64 sc1, .int .i64 su, .slice pa dl pc] 73)
            have hc5 := c5_new w11 (.string sn) (.int .i64 st) (.int .i64 sc1) (.int .i64 su) (.slice pa dl pc) 73
            have HROW := Lib.hid (hrow.below hal)
            have HB12 := Lib.hid (HB11.out.trans (hal.mono HB11.out.size))
            clear hal
            go_upto_region 19 with fail
            obtain ⟨w12, hw12⟩ : ∃ x, (w11.alloc (.cells #[.string sn, .int .i64 st, .int .i64 sc1, .int .i64 su, .slice pa dl pc] 73)) = x := ⟨_, rfl⟩
            rw [hw12] at hc5 HB12 ⊢
            rw [hw12] at HROW
            obtain ⟨x, hx⟩ : ∃ y, w11.heap.size = y := ⟨_, rfl⟩
            rw [hx] at hc5 ⊢
            have hbX : Below w10.heap.size w10 w12 := HBW.out.trans (HB12.out.mono HBW.out.size)
            have hfix : Fix w12 [(⟨b, o + k * 5, none⟩, .string sn), (⟨b, o + k * 5 + 1, none⟩, .int .i64 st), (⟨b, o + k * 5 + 2, none⟩, .int .i64 sc1), (⟨b, o + k * 5 + 3, none⟩, .int .i64 su), (⟨b, o + k * 5 + 4, none⟩, .slice p dl c9), (⟨q, 0, none⟩, .string rn), (⟨q, 1, none⟩, .int .i64 rt), (⟨q, 2, none⟩, .int .i64 rc), (⟨q, 3, none⟩, .int .i64 ru), (⟨q, 4, none⟩, .string rd), (⟨x, 0, none⟩, .string sn), (⟨x, 1, none⟩, .int .i64 st), (⟨x, 2, none⟩, .int .i64 sc1), (⟨x, 3, none⟩, .int .i64 su), (⟨x, 4, none⟩, .slice pa dl pc)] w12 := Fix.start (by
              have hbl2 : b < w12.heap.size := Nat.lt_of_lt_of_le hbl hbX.size
              obtain ⟨z0, z1, z2, z3, z4, _⟩ := HSX.out.below hbl hbX
              replace z4 : w12.cell? ⟨b, o + k * 5 + 4, none⟩ = some (.slice p sd.length c9) := z4
              rw [HDL.out] at z4
              obtain ⟨hqs, r0, r1, r2, r3, r4⟩ := HQ10.out.below hbX
              obtain ⟨hxs, y0, y1, y2, y3, y4, _⟩ := hc5
              intro c hc
              simp only [List.mem_cons, List.not_mem_nil, or_false] at hc
              rcases hc with rfl | rfl | rfl | rfl | rfl | rfl | rfl | rfl | rfl | rfl | rfl | rfl | rfl | rfl | rfl
              · exact ⟨hbl2, z0⟩
              · exact ⟨hbl2, z1⟩
              · exact ⟨hbl2, z2⟩
              · exact ⟨hbl2, z3⟩
              · exact ⟨hbl2, z4⟩
              · exact ⟨hqs, r0⟩
              · exact ⟨hqs, r1⟩
              · exact ⟨hqs, r2⟩
              · exact ⟨hqs, r3⟩
              · exact ⟨hqs, r4⟩
              · exact ⟨hxs, y0⟩
              · exact ⟨hxs, y1⟩
              · exact ⟨hxs, y2⟩
              · exact ⟨hxs, y3⟩
              · exact ⟨hxs, y4⟩)
            have HFX := Lib.hid hfix.drew.all15
            have HDB := Lib.hid hbX
            clear hw12 hx hbX hfix hc5
            have HKO := Lib.hid (fun wx => (keyOf' rn rt rc ru rd wx).mono (fun e9 w9 (h : _ ∧ _) => (⟨h.1, h.2.b⟩ : _ ∧ Below wx.heap.size wx w9)))
            have i0 : (0 : Int) ≤ (k : Int) := by omega
            have i2 : (k : Int) < (mc : Int) := by omega
            refine wp_region_held_drew (S := (fun wx => Hid (Fix w12 [(⟨b, o + k * 5, none⟩, .string sn), (⟨b, o + k * 5 + 1, none⟩, .int .i64 st), (⟨b, o + k * 5 + 2, none⟩, .int .i64 sc1), (⟨b, o + k * 5 + 3, none⟩, .int .i64 su), (⟨b, o + k * 5 + 4, none⟩, .slice p dl c9), (⟨q, 0, none⟩, .string rn), (⟨q, 1, none⟩, .int .i64 rt), (⟨q, 2, none⟩, .int .i64 rc), (⟨q, 3, none⟩, .int .i64 ru), (⟨q, 4, none⟩, .string rd), (⟨x, 0, none⟩, .string sn), (⟨x, 1, none⟩, .int .i64 st), (⟨x, 2, none⟩, .int .i64 sc1), (⟨x, 3, none⟩, .int .i64 su), (⟨x, 4, none⟩, .slice pa dl pc)] wx) ∧ wx.cell? ⟨b, o + k * 5, none⟩ = some (.string sn) ∧ wx.cell? ⟨b, o + k * 5 + 1, none⟩ = some (.int .i64 st) ∧ wx.cell? ⟨b, o + k * 5 + 2, none⟩ = some (.int .i64 sc1) ∧ wx.cell? ⟨b, o + k * 5 + 3, none⟩ = some (.int .i64 su) ∧ wx.cell? ⟨b, o + k * 5 + 4, none⟩ = some (.slice p dl c9) ∧ wx.cell? ⟨q, 0, none⟩ = some (.string rn) ∧ wx.cell? ⟨q, 1, none⟩ = some (.int .i64 rt) ∧ wx.cell? ⟨q, 2, none⟩ = some (.int .i64 rc) ∧ wx.cell? ⟨q, 3, none⟩ = some (.int .i64 ru) ∧ wx.cell? ⟨q, 4, none⟩ = some (.string rd) ∧ wx.cell? ⟨x, 0, none⟩ = some (.string sn) ∧ wx.cell? ⟨x, 1, none⟩ = some (.int .i64 st) ∧ wx.cell? ⟨x, 2, none⟩ = some (.int .i64 sc1) ∧ wx.cell? ⟨x, 3, none⟩ = some (.int .i64 su) ∧ wx.cell? ⟨x, 4, none⟩ = some (.slice pa dl pc))) (by kernel_rfl) (HFX.out) (fun hHeld => ?_)
            refine wpAnyH_take (i := 0) (oi := { dst := some 93, op := Go.Op.move (Go.Operand.tmp 8), type := 66, pos := "extra.go:42", after := #[], guard := none }) (v := ?v0_5501) rfl (by kernel_rfl) (by kernel_rfl) (by kernel_rfl) (fun _ _ _ h => h) (Or.inl ⟨by rfl, ?y0_5501⟩) hHeld ?r0_5501
            case y0_5501 => intro w hSw; (try dsimp only at hSw); go_simp; try with_reducible rfl
            try simp only [Act.put, List.setIfInBounds_toArray, List.set_cons_zero, List.set_cons_succ]
            refine wpAnyH_take (i := 1) (oi := { dst := some 94, op := Go.Op.move (Go.Operand.tmp 12), type := 3, pos := "extra.go:42", after := #[], guard := none }) (v := ?v1_5501) rfl (by kernel_rfl) (by kernel_rfl) (by kernel_rfl) (fun _ _ _ h => h) (Or.inl ⟨by rfl, ?y1_5501⟩) hHeld ?r1_5501
            case y1_5501 => intro w hSw; (try dsimp only at hSw); go_simp; try with_reducible rfl
            try simp only [Act.put, List.setIfInBounds_toArray, List.set_cons_zero, List.set_cons_succ]
            refine wpAnyH_take (i := 2) (oi := { dst := some 95, op := Go.Op.indexAddr 66 (Go.Operand.tmp 93) (Go.Operand.tmp 94), type := 0, pos := "extra.go:42", after := #[{ on := 0, ground := Go.Ground.data }, { on := 1, ground := Go.Ground.data }], guard := none }) (v := ?v2_5501) rfl (by kernel_rfl) (by kernel_rfl) (by kernel_rfl) (fun _ _ _ h => h) (Or.inl ⟨by rfl, ?y2_5501⟩) hHeld ?r2_5501
            case y2_5501 => intro w hSw; (try dsimp only at hSw); go_simp; try with_reducible rfl
            try simp only [Act.put, List.setIfInBounds_toArray, List.set_cons_zero, List.set_cons_succ]
            refine wpAnyH_take (i := 3) (oi := { dst := some 96, op := Go.Op.fieldAddr 73 (Go.Operand.tmp 95) 0, type := 0, pos := "extra.go:42", after := #[{ on := 2, ground := Go.Ground.data }], guard := none }) (v := ?v3_5501) rfl (by kernel_rfl) (by kernel_rfl) (by kernel_rfl) (fun _ _ _ h => h) (Or.inl ⟨by rfl, ?y3_5501⟩) hHeld ?r3_5501
            case y3_5501 => intro w hSw; (try dsimp only at hSw); go_simp; try with_reducible rfl
            try simp only [Act.put, List.setIfInBounds_toArray, List.set_cons_zero, List.set_cons_succ]
            refine wpAnyH_take (i := 4) (oi := { dst := some 97, op := Go.Op.load 68 (Go.Operand.tmp 96), type := 68, pos := "extra.go:42", after := #[{ on := 3, ground := Go.Ground.data }], guard := none }) (v := ?v4_5501) rfl (by kernel_rfl) (by kernel_rfl) (by kernel_rfl) (fun _ _ _ h => h) (Or.inl ⟨by rfl, ?y4_5501⟩) hHeld ?r4_5501
            case y4_5501 => intro w hSw; (try dsimp only at hSw); go_simp; try with_reducible rfl
            try simp only [Act.put, List.setIfInBounds_toArray, List.set_cons_zero, List.set_cons_succ]
            refine wpAnyH_take (i := 5) (oi := { dst := some 98, op := Go.Op.load 23 (Go.Operand.tmp 4), type := 23, pos := "extra.go:42", after := #[], guard := none }) (v := ?v5_5501) rfl (by kernel_rfl) (by kernel_rfl) (by kernel_rfl) (fun _ _ _ h => h) (Or.inl ⟨by rfl, ?y5_5501⟩) hHeld ?r5_5501
            case y5_5501 => intro w hSw; (try dsimp only at hSw); go_simp; try with_reducible rfl
            try simp only [Act.put, List.setIfInBounds_toArray, List.set_cons_zero, List.set_cons_succ]
            refine wpAnyH_ready (rs := [6]) (by kernel_rfl) (by simp) ?_
            refine AllReadyH.cons (o := { dst := some 99, op := Go.Op.call { callee := Go.Callee.value (Go.Operand.func 67), args := #[Go.Operand.tmp 98], argTypes := #[23] }, type := 68, pos := "extra.go:42", after := #[{ on := 5, ground := Go.Ground.data }], guard := none }) rfl (fun K hK => ?_) AllReadyH.nil
            go_simp
            refine (HKO.out _).mono ?_; rintro e wy ⟨rfl, hb⟩
            go_wp2_with fail
            refine hK.out _ _ (Fix.next15 hb hHeld) (fun hHeld2 => ?_)
            clear hK K hHeld
            have hHeld := hHeld2
            clear hHeld2
            try simp only [Act.put, List.setIfInBounds_toArray, List.set_cons_zero, List.set_cons_succ]
            refine wpAnyH_take (i := 7) (oi := { dst := some 100, op := Go.Op.binOp Go.BinOp.eql 68 (Go.Operand.tmp 97) (Go.Operand.tmp 99) 68, type := 4, pos := "extra.go:42", after := #[{ on := 4, ground := Go.Ground.data }, { on := 6, ground := Go.Ground.data }], guard := none }) (v := ?v7_5502) rfl (by kernel_rfl) (by kernel_rfl) (by kernel_rfl) (fun _ _ _ h => h) (Or.inl ⟨by rfl, ?y7_5502⟩) hHeld ?r7_5502
            case y7_5502 => intro w hSw; (try dsimp only at hSw); go_simp; try with_reducible rfl
            try simp only [Act.put, List.setIfInBounds_toArray, List.set_cons_zero, List.set_cons_succ]
            refine wpAnyH_done (by kernel_rfl) ?_ _
            clear hke
            have HFX2 := Lib.hid (Fix.all15 (Fix.drew hHeld.1.out))
            clear hHeld HFX
            have HSAM := Lib.hid (fun wx (hx : Below w12.heap.size w12 wx) => same_at2 sn st sc1 su sd sn st sc1 su sd pa p dl dl pc c9 wx (HROW.out.below hx) (HPR.out.below (HDB.out.trans (hx.mono HDB.out.size))) (by omega))
            rw [show sameP ⟨⟨sn, st, sc1⟩, su, sd⟩ ⟨⟨sn, st, sc1⟩, su, sd⟩ = true from (sameP_iff _ _).2 rfl] at HSAM
            go_upto_region 22 with fail
            refine wp_region_held_drew (S := (fun wx => Hid (Fix w12 [(⟨b, o + k * 5, none⟩, .string sn), (⟨b, o + k * 5 + 1, none⟩, .int .i64 st), (⟨b, o + k * 5 + 2, none⟩, .int .i64 sc1), (⟨b, o + k * 5 + 3, none⟩, .int .i64 su), (⟨b, o + k * 5 + 4, none⟩, .slice p dl c9), (⟨q, 0, none⟩, .string rn), (⟨q, 1, none⟩, .int .i64 rt), (⟨q, 2, none⟩, .int .i64 rc), (⟨q, 3, none⟩, .int .i64 ru), (⟨q, 4, none⟩, .string rd), (⟨x, 0, none⟩, .string sn), (⟨x, 1, none⟩, .int .i64 st), (⟨x, 2, none⟩, .int .i64 sc1), (⟨x, 3, none⟩, .int .i64 su), (⟨x, 4, none⟩, .slice pa dl pc)] wx) ∧ wx.cell? ⟨b, o + k * 5, none⟩ = some (.string sn) ∧ wx.cell? ⟨b, o + k * 5 + 1, none⟩ = some (.int .i64 st) ∧ wx.cell? ⟨b, o + k * 5 + 2, none⟩ = some (.int .i64 sc1) ∧ wx.cell? ⟨b, o + k * 5 + 3, none⟩ = some (.int .i64 su) ∧ wx.cell? ⟨b, o + k * 5 + 4, none⟩ = some (.slice p dl c9) ∧ wx.cell? ⟨q, 0, none⟩ = some (.string rn) ∧ wx.cell? ⟨q, 1, none⟩ = some (.int .i64 rt) ∧ wx.cell? ⟨q, 2, none⟩ = some (.int .i64 rc) ∧ wx.cell? ⟨q, 3, none⟩ = some (.int .i64 ru) ∧ wx.cell? ⟨q, 4, none⟩ = some (.string rd) ∧ wx.cell? ⟨x, 0, none⟩ = some (.string sn) ∧ wx.cell? ⟨x, 1, none⟩ = some (.int .i64 st) ∧ wx.cell? ⟨x, 2, none⟩ = some (.int .i64 sc1) ∧ wx.cell? ⟨x, 3, none⟩ = some (.int .i64 su) ∧ wx.cell? ⟨x, 4, none⟩ = some (.slice pa dl pc))) (by kernel_rfl) (HFX2.out) (fun hHeld => ?_)
            refine wpAnyH_take (i := 0) (oi := { dst := some 145, op := Go.Op.move (Go.Operand.tmp 14), type := 4, pos := "extra.go:46", after := #[], guard := none }) (v := ?v0_5601) rfl (by kernel_rfl) (by kernel_rfl) (by kernel_rfl) (fun _ _ _ h => h) (Or.inl ⟨by rfl, ?y0_5601⟩) hHeld ?r0_5601
            case y0_5601 => intro w hSw; (try dsimp only at hSw); go_simp; try with_reducible rfl
            try simp only [Act.put, List.setIfInBounds_toArray, List.set_cons_zero, List.set_cons_succ]
            refine wpAnyH_take (i := 1) (oi := { dst := some 146, op := Go.Op.unOp Go.UnOp.not 4 (Go.Operand.tmp 145), type := 4, pos := "extra.go:46", after := #[{ on := 0, ground := Go.Ground.data }], guard := none }) (v := ?v1_5601) rfl (by kernel_rfl) (by kernel_rfl) (by kernel_rfl) (fun _ _ _ h => h) (Or.inl ⟨by rfl, ?y1_5601⟩) hHeld ?r1_5601
            case y1_5601 => intro w hSw; (try dsimp only at hSw); go_simp; try with_reducible rfl
            try simp only [Act.put, List.setIfInBounds_toArray, List.set_cons_zero, List.set_cons_succ]
            refine wpAnyH_take (i := 2) (oi := { dst := some 147, op := Go.Op.move (Go.Operand.tmp 146), type := 4, pos := "extra.go:46", after := #[{ on := 1, ground := Go.Ground.data }], guard := none }) (v := ?v2_5601) rfl (by kernel_rfl) (by kernel_rfl) (by kernel_rfl) (fun _ _ _ h => h) (Or.inl ⟨by rfl, ?y2_5601⟩) hHeld ?r2_5601
            case y2_5601 => intro w hSw; (try dsimp only at hSw); go_simp; try with_reducible rfl
            try simp only [Act.put, List.setIfInBounds_toArray, List.set_cons_zero, List.set_cons_succ]
            refine wpAnyH_take (i := 3) (oi := { dst := some 148, op := Go.Op.load 73 (Go.Operand.tmp 13), type := 73, pos := "extra.go:46", after := #[{ on := 2, ground := Go.Ground.guard }], guard := some (2, false) }) (v := ?v3_5601) rfl (by kernel_rfl) (by kernel_rfl) (by kernel_rfl) (fun _ _ _ h => h) (Or.inl ⟨by rfl, ?y3_5601⟩) hHeld ?r3_5601
            case y3_5601 => intro w hSw; (try dsimp only at hSw); go_simp; try with_reducible rfl
            try simp only [Act.put, List.setIfInBounds_toArray, List.set_cons_zero, List.set_cons_succ]
            refine wpAnyH_take (i := 4) (oi := { dst := some 149, op := Go.Op.move (Go.Operand.tmp 8), type := 66, pos := "extra.go:46", after := #[{ on := 2, ground := Go.Ground.guard }], guard := some (2, false) }) (v := ?v4_5601) rfl (by kernel_rfl) (by kernel_rfl) (by kernel_rfl) (fun _ _ _ h => h) (Or.inl ⟨by rfl, ?y4_5601⟩) hHeld ?r4_5601
            case y4_5601 => intro w hSw; (try dsimp only at hSw); go_simp; try with_reducible rfl
            try simp only [Act.put, List.setIfInBounds_toArray, List.set_cons_zero, List.set_cons_succ]
            refine wpAnyH_take (i := 5) (oi := { dst := some 150, op := Go.Op.move (Go.Operand.tmp 12), type := 3, pos := "extra.go:46", after := #[{ on := 2, ground := Go.Ground.guard }], guard := some (2, false) }) (v := ?v5_5601) rfl (by kernel_rfl) (by kernel_rfl) (by kernel_rfl) (fun _ _ _ h => h) (Or.inl ⟨by rfl, ?y5_5601⟩) hHeld ?r5_5601
            case y5_5601 => intro w hSw; (try dsimp only at hSw); go_simp; try with_reducible rfl
            try simp only [Act.put, List.setIfInBounds_toArray, List.set_cons_zero, List.set_cons_succ]
            refine wpAnyH_take (i := 6) (oi := { dst := some 151, op := Go.Op.indexAddr 66 (Go.Operand.tmp 149) (Go.Operand.tmp 150), type := 0, pos := "extra.go:46", after := #[{ on := 4, ground := Go.Ground.data }, { on := 5, ground := Go.Ground.data }, { on := 2, ground := Go.Ground.guard }], guard := some (2, false) }) (v := ?v6_5601) rfl (by kernel_rfl) (by kernel_rfl) (by kernel_rfl) (fun _ _ _ h => h) (Or.inl ⟨by rfl, ?y6_5601⟩) hHeld ?r6_5601
            case y6_5601 => intro w hSw; (try dsimp only at hSw); go_simp; try with_reducible rfl
            try simp only [Act.put, List.setIfInBounds_toArray, List.set_cons_zero, List.set_cons_succ]
            refine wpAnyH_take (i := 7) (oi := { dst := some 152, op := Go.Op.load 73 (Go.Operand.tmp 151), type := 73, pos := "extra.go:46", after := #[{ on := 6, ground := Go.Ground.data }, { on := 2, ground := Go.Ground.guard }], guard := some (2, false) }) (v := ?v7_5601) rfl (by kernel_rfl) (by kernel_rfl) (by kernel_rfl) (fun _ _ _ h => h) (Or.inl ⟨by rfl, ?y7_5601⟩) hHeld ?r7_5601
            case y7_5601 => intro w hSw; (try dsimp only at hSw); go_simp; try with_reducible rfl
            try simp only [Act.put, List.setIfInBounds_toArray, List.set_cons_zero, List.set_cons_succ]
            refine wpAnyH_ready (rs := [8]) (by kernel_rfl) (by simp) ?_
            refine AllReadyH.cons (o := { dst := some 153, op := Go.Op.call { callee := Go.Callee.value (Go.Operand.func 59), args := #[Go.Operand.tmp 148, Go.Operand.tmp 152], argTypes := #[73, 73] }, type := 4, pos := "extra.go:46", after := #[{ on := 3, ground := Go.Ground.data }, { on := 7, ground := Go.Ground.data }, { on := 2, ground := Go.Ground.chain }, { on := 2, ground := Go.Ground.guard }], guard := some (2, false) }) rfl (fun K hK => ?_) AllReadyH.nil
            go_simp
            refine (HSAM.out _ (Fix.get15 hHeld)).mono ?_; rintro e wy ⟨rfl, hb⟩
            go_wp2_with fail
            refine hK.out _ _ (Fix.next15 hb hHeld) (fun hHeld2 => ?_)
            clear hK K hHeld
            have hHeld := hHeld2
            clear hHeld2
            try simp only [Act.put, List.setIfInBounds_toArray, List.set_cons_zero, List.set_cons_succ]
            refine wpAnyH_take (i := 9) (oi := { dst := some 154, op := Go.Op.unOp Go.UnOp.not 4 (Go.Operand.tmp 153), type := 4, pos := "extra.go:46", after := #[{ on := 8, ground := Go.Ground.data }, { on := 2, ground := Go.Ground.guard }], guard := some (2, false) }) (v := ?v9_5602) rfl (by kernel_rfl) (by kernel_rfl) (by kernel_rfl) (fun _ _ _ h => h) (Or.inl ⟨by rfl, ?y9_5602⟩) hHeld ?r9_5602
            case y9_5602 => intro w hSw; (try dsimp only at hSw); go_simp; try with_reducible rfl
            try simp only [Act.put, List.setIfInBounds_toArray, List.set_cons_zero, List.set_cons_succ]
            refine wpAnyH_take (i := 10) (oi := { dst := some 155, op := Go.Op.pick (Go.Operand.tmp 147) (Go.Operand.const (Go.Value.bool true)) (Go.Operand.tmp 154), type := 4, pos := "extra.go:46", after := #[{ on := 2, ground := Go.Ground.data }, { on := 9, ground := Go.Ground.data }], guard := none }) (v := ?v10_5602) rfl (by kernel_rfl) (by kernel_rfl) (by kernel_rfl) (fun _ _ _ h => h) (Or.inl ⟨by rfl, ?y10_5602⟩) hHeld ?r10_5602
            case y10_5602 => intro w hSw; (try dsimp only at hSw); go_simp; try with_reducible rfl
            try simp only [Act.put, List.setIfInBounds_toArray, List.set_cons_zero, List.set_cons_succ]
            refine wpAnyH_done (by kernel_rfl) ?_ _
            go_wp2
            go_roundw
            case rel => exact ⟨k + 1, by omega, by go_num, Lib.hid (HDB.out.trans ((Fix.get15 hHeld).mono HDB.out.size))⟩
            case measure => simp [intOf]; omega
        · have hkn : k = mc := by omega
          subst hkn
          have HCN := Lib.hid (more_count HCA.out HCB.out)
          rw [HMA.out, HMB.out] at HCN
          obtain ⟨hqs, r0, r1, r2, r3, r4⟩ := HQ10.out.below HBW0.out
          go_wp2_with fail
          refine (keyOf' rn rt rc ru rd _).mono ?_; rintro e w11 ⟨rfl, hb⟩
          have HB11 := Lib.hid (HBW0.out.trans (hb.b.mono HBW0.out.size))
          clear hb r0 r1 r2 r3 r4
          go_wp2_with fail
          refine (find_any a1 m c1 A rn rt rc w11 (HSA10.out.below HB11.out) (by omega) (fun s hs => by have := HDA.out s hs; omega)).mono ?_
          rintro e w12 ⟨hfd, hb12⟩
          have HB12 := Lib.hid (HBT.out.trans ((HB11.out.trans (hb12.mono HB11.out.size)).mono HBT.out.size))
          clear hb12
          rcases hfd with ⟨s', dv, h1, rfl, hown⟩ | ⟨h1, rfl⟩
          · obtain ⟨pa, pc, rfl, hrow, _⟩ := rowS_of_own hown
            have hcn := HCN.out
            rw [show findK A (⟨⟨rn, rt, rc⟩, ru, rd⟩ : R5).k = some s' from h1] at hcn
            simp only [Option.isSome_some, if_true] at hcn
            have e5 : ((k : Int) == (m : Int)) = true := eT (by omega)
            have e6 : (k == m) = true := by simpa using hcn
            obtain ⟨⟨qn, qt, qc⟩, qu, qd⟩ := s'
            have hal := (Below.refl w12.heap.size w12).alloc (Nat.le_refl _) (.cells #[.string qn, .int .i64 qt, .int .i64 qc, .int .i64 qu, .slice pa qd.length pc] 73)
            have HB13 := Lib.hid (HB12.out.trans (hal.mono HB12.out.size))
            clear hown hrow h1 hcn hal
            go_wp2_with fail
            refine (first4 _).mono ?_; rintro e w13 ⟨rfl, hb⟩
            have HB14 := Lib.hid (HB13.out.trans (hb.mono HB13.out.size))
            clear hb
            go_wp2
            go_ret
            exact ⟨rfl, HB14.out⟩
          · have hcn := HCN.out
            rw [show findK A (⟨⟨rn, rt, rc⟩, ru, rd⟩ : R5).k = none from h1] at hcn
            simp only [Option.isSome_none, Bool.false_eq_true, if_false] at hcn
            have e5 : ((k : Int) == (m : Int) + 1) = true := eT (by omega)
            have hal := (Below.refl w12.heap.size w12).alloc (Nat.le_refl _) (.cells #[.string ⟨#[]⟩, .int .i64 0, .int .i64 0, .int .i64 0, .slice none 0 0] 73)
            have HB13 := Lib.hid (HB12.out.trans (hal.mono HB12.out.size))
            clear h1 hcn hal
            go_wp2_with fail
            refine (first4 _).mono ?_; rintro e w13 ⟨rfl, hb⟩
            have HB14 := Lib.hid (HB13.out.trans (hb.mono HB13.out.size))
            clear hb
            go_wp2
            go_ret
            exact ⟨rfl, HB14.out⟩
end Go.Proofs.Ytgdbbdbfaglkdaa
