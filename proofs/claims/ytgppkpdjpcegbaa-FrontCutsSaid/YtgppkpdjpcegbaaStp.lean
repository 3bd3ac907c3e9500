/- A message without its OPTs. -/
import Derived.Test.YtgppkpdjpcegbaaMgA
import Derived.Test.YtgppkpdjpcegbaaFix
namespace Go.Proofs.Ytgppkpdjpcegbaa
open Go.RowKit

theorem own_past {w w' : World} {e : TypeId} {size n B : Nat} {v : Value} {xs : List Value} (h : w.ownsRow (B + 2) e size v n xs) (hg : w.grownBy w' (some (B + 1))) : w'.ownsRow (B + 2) e size v n xs :=
  h.kept hg (by
    cases hv : v.ownBlock with
    | none => exact Or.inl rfl
    | some k => exact Or.inr (fun e => by have := (h.lt k hv).1; injection e with e; omega))
set_option maxRecDepth 100000 in
set_option maxHeartbeats 8000000 in
theorem strip_ex (mi mo mr : Int) (b1 b2 b3 b4 b5 : Bool) (qa na sa xa : Option Addr) (ql qc nl nc sl sc xl xc : Nat) (Q : List Ky) (A N X : List R5) (w : World) (hq : RowQ w qa ql Q) (hqn : qa = none → ql = 0 ∧ qc = 0) (ha : RowR w na nl A) (han : na = none → nl = 0 ∧ nc = 0) (hn : RowR w sa sl N) (hnn : sa = none → sl = 0 ∧ sc = 0) (hx : RowR w xa xl X) (hxn : xa = none → xl = 0 ∧ xc = 0) (hql : ql ≤ 100000) (hnl : nl ≤ 100000) (hsl : sl ≤ 100000) (hxl : xl ≤ 100000) (m : Nat) (hm : (keepR optB X).length = m) :
    Calls Try.prog 41 #[.agg #[.int .i64 mi, .int .i64 mo, .int .i64 mr, .bool b1, .bool b2, .bool b3, .bool b4, .bool b5, .slice qa ql qc, .slice na nl nc, .slice sa sl sc, .slice xa xl xc]] w fun e w' => ∃ (qa2 na2 sa2 xa2 : Option Addr) (qc2 nc2 sc2 xc2 : Nat), e = .returned (.agg #[.int .i64 mi, .int .i64 mo, .int .i64 mr, .bool b1, .bool b2, .bool b3, .bool b4, .bool b5, .slice qa2 ql qc2, .slice na2 nl nc2, .slice sa2 sl sc2, .slice xa2 m xc2]) ∧ w'.ownsRow w.heap.size 27 3 (.slice qa2 ql qc2) ql (flatQ Q) ∧ w'.ownsRow w.heap.size 77 5 (.slice na2 nl nc2) nl (flatR A) ∧ w'.ownsRow w.heap.size 77 5 (.slice sa2 sl sc2) sl (flatR N) ∧ w'.ownsRow w.heap.size 77 5 (.slice xa2 m xc2) m (flatR (keepR optB X)) ∧ Below w.heap.size w w' := by
  have hb1 := (Below.refl w.heap.size w).alloc (Nat.le_refl _) (.cells #[.int .i64 mi, .int .i64 mo, .int .i64 mr, .bool b1, .bool b2, .bool b3, .bool b4, .bool b5, .slice qa ql qc, .slice na nl nc, .slice sa sl sc, .slice xa xl xc] 37)
  have hc0 := CN.new (w.alloc (.cells #[.int .i64 mi, .int .i64 mo, .int .i64 mr, .bool b1, .bool b2, .bool b3, .bool b4, .bool b5, .slice qa ql qc, .slice na nl nc, .slice sa sl sc, .slice xa xl xc] 37)) #[.int .i64 0, .int .i64 0, .int .i64 0, .bool false, .bool false, .bool false, .bool false, .bool false, .slice none 0 0, .slice none 0 0, .slice none 0 0, .slice none 0 0] 37
  rw [World.size_alloc] at hc0
  have hc1 := CN.new w #[.int .i64 mi, .int .i64 mo, .int .i64 mr, .bool b1, .bool b2, .bool b3, .bool b4, .bool b5, .slice qa ql qc, .slice na nl nc, .slice sa sl sc, .slice xa xl xc] 37
  obtain ⟨w1, hw1⟩ : ∃ x, w.alloc (.cells #[.int .i64 mi, .int .i64 mo, .int .i64 mr, .bool b1, .bool b2, .bool b3, .bool b4, .bool b5, .slice qa ql qc, .slice na nl nc, .slice sa sl sc, .slice xa xl xc] 37) = x := ⟨_, rfl⟩
  have hs1 : w1.heap.size = w.heap.size + 1 := by rw [← hw1, World.size_alloc]
  rw [hw1] at hb1 hc0 hc1
  have HQ := Lib.hid (hq.below hb1)
  have HA := Lib.hid (ha.below hb1)
  have HN := Lib.hid (hn.below hb1)
  have HX := Lib.hid (hx.below hb1)
  have HQN := Lib.hid hqn
  have HAN := Lib.hid han
  have HNN := Lib.hid hnn
  have HXN := Lib.hid hxn
  have HM := Lib.hid hm
  have HW1 := Lib.hid hs1
  have HBW := Lib.hid hb1
  have HC0 := Lib.hid (hc0.below (Below.refl _ _).drew)
  have hfix : Fix w1 [(⟨w.heap.size, 0, none⟩, .int .i64 mi), (⟨w.heap.size, 1, none⟩, .int .i64 mo), (⟨w.heap.size, 2, none⟩, .int .i64 mr), (⟨w.heap.size, 3, none⟩, .bool b1), (⟨w.heap.size, 4, none⟩, .bool b2), (⟨w.heap.size, 5, none⟩, .bool b3), (⟨w.heap.size, 6, none⟩, .bool b4), (⟨w.heap.size, 7, none⟩, .bool b5), (⟨w.heap.size, 8, none⟩, .slice qa ql qc), (⟨w.heap.size, 9, none⟩, .slice na nl nc), (⟨w.heap.size, 10, none⟩, .slice sa sl sc), (⟨w.heap.size, 11, none⟩, .slice xa xl xc)] (w1.alloc (.cells #[.int .i64 0, .int .i64 0, .int .i64 0, .bool false, .bool false, .bool false, .bool false, .bool false, .slice none 0 0, .slice none 0 0, .slice none 0 0, .slice none 0 0] 37)) := ⟨(Below.refl _ _).alloc (Nat.le_refl _) _, by
    obtain ⟨p0, p1, p2, p3, p4, p5, p6, p7, p8, p9, p10, p11, _⟩ := hc1.u12
    have hlt := hc1.1
    intro c hc
    simp only [List.mem_cons, List.not_mem_nil, or_false] at hc
    rcases hc with rfl | rfl | rfl | rfl | rfl | rfl | rfl | rfl | rfl | rfl | rfl | rfl
    · exact ⟨hlt, p0⟩
    · exact ⟨hlt, p1⟩
    · exact ⟨hlt, p2⟩
    · exact ⟨hlt, p3⟩
    · exact ⟨hlt, p4⟩
    · exact ⟨hlt, p5⟩
    · exact ⟨hlt, p6⟩
    · exact ⟨hlt, p7⟩
    · exact ⟨hlt, p8⟩
    · exact ⟨hlt, p9⟩
    · exact ⟨hlt, p10⟩
    · exact ⟨hlt, p11⟩⟩
  have HFX := Lib.hid hfix.drew.all12
  have HW := Lib.hid hw1
  clear hq hqn ha han hn hnn hx hxn hm hs1 hb1 hc0 hc1 hfix hw1
  go_enter Try.func41, Try.ntmps41
  go_wp2_with fail
  rw [HW.out]
  refine wp_region_held_drew (S := (fun wx => Hid (Fix w1 [(⟨w.heap.size, 0, none⟩, .int .i64 mi), (⟨w.heap.size, 1, none⟩, .int .i64 mo), (⟨w.heap.size, 2, none⟩, .int .i64 mr), (⟨w.heap.size, 3, none⟩, .bool b1), (⟨w.heap.size, 4, none⟩, .bool b2), (⟨w.heap.size, 5, none⟩, .bool b3), (⟨w.heap.size, 6, none⟩, .bool b4), (⟨w.heap.size, 7, none⟩, .bool b5), (⟨w.heap.size, 8, none⟩, .slice qa ql qc), (⟨w.heap.size, 9, none⟩, .slice na nl nc), (⟨w.heap.size, 10, none⟩, .slice sa sl sc), (⟨w.heap.size, 11, none⟩, .slice xa xl xc)] wx) ∧ wx.cell? ⟨w.heap.size, 0, none⟩ = some (.int .i64 mi) ∧ wx.cell? ⟨w.heap.size, 1, none⟩ = some (.int .i64 mo) ∧ wx.cell? ⟨w.heap.size, 2, none⟩ = some (.int .i64 mr) ∧ wx.cell? ⟨w.heap.size, 3, none⟩ = some (.bool b1) ∧ wx.cell? ⟨w.heap.size, 4, none⟩ = some (.bool b2) ∧ wx.cell? ⟨w.heap.size, 5, none⟩ = some (.bool b3) ∧ wx.cell? ⟨w.heap.size, 6, none⟩ = some (.bool b4) ∧ wx.cell? ⟨w.heap.size, 7, none⟩ = some (.bool b5) ∧ wx.cell? ⟨w.heap.size, 8, none⟩ = some (.slice qa ql qc) ∧ wx.cell? ⟨w.heap.size, 9, none⟩ = some (.slice na nl nc) ∧ wx.cell? ⟨w.heap.size, 10, none⟩ = some (.slice sa sl sc) ∧ wx.cell? ⟨w.heap.size, 11, none⟩ = some (.slice xa xl xc))) (by kernel_rfl) (HFX.out) (fun hHeld => ?_)
  refine wpAnyH_take (i := 0) (oi := { dst := some 3, op := Go.Op.fieldAddr 37 (Go.Operand.tmp 1) 0, type := 0, pos := "edns.go:70", after := #[], guard := none }) (v := ?v0_4101) rfl (by kernel_rfl) (by kernel_rfl) (by kernel_rfl) (fun _ _ _ h => h) (Or.inl ⟨by rfl, ?y0_4101⟩) hHeld ?r0_4101
  case y0_4101 => intro w hSw; (try dsimp only at hSw); go_simp; try with_reducible rfl
  try simp only [Act.put, List.setIfInBounds_toArray, List.set_cons_zero, List.set_cons_succ]
  refine wpAnyH_take (i := 1) (oi := { dst := some 4, op := Go.Op.load 33 (Go.Operand.tmp 3), type := 33, pos := "edns.go:70", after := #[{ on := 0, ground := Go.Ground.data }], guard := none }) (v := ?v1_4101) rfl (by kernel_rfl) (by kernel_rfl) (by kernel_rfl) (fun _ _ _ h => h) (Or.inl ⟨by rfl, ?y1_4101⟩) hHeld ?r1_4101
  case y1_4101 => intro w hSw; (try dsimp only at hSw); go_simp; try with_reducible rfl
  try simp only [Act.put, List.setIfInBounds_toArray, List.set_cons_zero, List.set_cons_succ]
  refine wpAnyH_take (i := 2) (oi := { dst := some 5, op := Go.Op.fieldAddr 37 (Go.Operand.tmp 1) 1, type := 0, pos := "edns.go:70", after := #[], guard := none }) (v := ?v2_4101) rfl (by kernel_rfl) (by kernel_rfl) (by kernel_rfl) (fun _ _ _ h => h) (Or.inl ⟨by rfl, ?y2_4101⟩) hHeld ?r2_4101
  case y2_4101 => intro w hSw; (try dsimp only at hSw); go_simp; try with_reducible rfl
  try simp only [Act.put, List.setIfInBounds_toArray, List.set_cons_zero, List.set_cons_succ]
  refine wpAnyH_take (i := 3) (oi := { dst := some 6, op := Go.Op.load 34 (Go.Operand.tmp 5), type := 34, pos := "edns.go:70", after := #[{ on := 2, ground := Go.Ground.data }], guard := none }) (v := ?v3_4101) rfl (by kernel_rfl) (by kernel_rfl) (by kernel_rfl) (fun _ _ _ h => h) (Or.inl ⟨by rfl, ?y3_4101⟩) hHeld ?r3_4101
  case y3_4101 => intro w hSw; (try dsimp only at hSw); go_simp; try with_reducible rfl
  try simp only [Act.put, List.setIfInBounds_toArray, List.set_cons_zero, List.set_cons_succ]
  refine wpAnyH_take (i := 5) (oi := { dst := some 8, op := Go.Op.fieldAddr 37 (Go.Operand.tmp 1) 2, type := 0, pos := "edns.go:70", after := #[], guard := none }) (v := ?v5_4101) rfl (by kernel_rfl) (by kernel_rfl) (by kernel_rfl) (fun _ _ _ h => h) (Or.inl ⟨by rfl, ?y5_4101⟩) hHeld ?r5_4101
  case y5_4101 => intro w hSw; (try dsimp only at hSw); go_simp; try with_reducible rfl
  try simp only [Act.put, List.setIfInBounds_toArray, List.set_cons_zero, List.set_cons_succ]
  refine wpAnyH_take (i := 6) (oi := { dst := some 9, op := Go.Op.load 35 (Go.Operand.tmp 8), type := 35, pos := "edns.go:70", after := #[{ on := 5, ground := Go.Ground.data }], guard := none }) (v := ?v6_4101) rfl (by kernel_rfl) (by kernel_rfl) (by kernel_rfl) (fun _ _ _ h => h) (Or.inl ⟨by rfl, ?y6_4101⟩) hHeld ?r6_4101
  case y6_4101 => intro w hSw; (try dsimp only at hSw); go_simp; try with_reducible rfl
  try simp only [Act.put, List.setIfInBounds_toArray, List.set_cons_zero, List.set_cons_succ]
  refine wpAnyH_take (i := 8) (oi := { dst := some 11, op := Go.Op.fieldAddr 37 (Go.Operand.tmp 1) 3, type := 0, pos := "edns.go:70", after := #[], guard := none }) (v := ?v8_4101) rfl (by kernel_rfl) (by kernel_rfl) (by kernel_rfl) (fun _ _ _ h => h) (Or.inl ⟨by rfl, ?y8_4101⟩) hHeld ?r8_4101
  case y8_4101 => intro w hSw; (try dsimp only at hSw); go_simp; try with_reducible rfl
  try simp only [Act.put, List.setIfInBounds_toArray, List.set_cons_zero, List.set_cons_succ]
  refine wpAnyH_take (i := 9) (oi := { dst := some 12, op := Go.Op.load 35 (Go.Operand.tmp 11), type := 35, pos := "edns.go:70", after := #[{ on := 8, ground := Go.Ground.data }], guard := none }) (v := ?v9_4101) rfl (by kernel_rfl) (by kernel_rfl) (by kernel_rfl) (fun _ _ _ h => h) (Or.inl ⟨by rfl, ?y9_4101⟩) hHeld ?r9_4101
  case y9_4101 => intro w hSw; (try dsimp only at hSw); go_simp; try with_reducible rfl
  try simp only [Act.put, List.setIfInBounds_toArray, List.set_cons_zero, List.set_cons_succ]
  refine wpAnyH_take (i := 11) (oi := { dst := some 14, op := Go.Op.fieldAddr 37 (Go.Operand.tmp 1) 4, type := 0, pos := "edns.go:70", after := #[], guard := none }) (v := ?v11_4101) rfl (by kernel_rfl) (by kernel_rfl) (by kernel_rfl) (fun _ _ _ h => h) (Or.inl ⟨by rfl, ?y11_4101⟩) hHeld ?r11_4101
  case y11_4101 => intro w hSw; (try dsimp only at hSw); go_simp; try with_reducible rfl
  try simp only [Act.put, List.setIfInBounds_toArray, List.set_cons_zero, List.set_cons_succ]
  refine wpAnyH_take (i := 12) (oi := { dst := some 15, op := Go.Op.load 35 (Go.Operand.tmp 14), type := 35, pos := "edns.go:70", after := #[{ on := 11, ground := Go.Ground.data }], guard := none }) (v := ?v12_4101) rfl (by kernel_rfl) (by kernel_rfl) (by kernel_rfl) (fun _ _ _ h => h) (Or.inl ⟨by rfl, ?y12_4101⟩) hHeld ?r12_4101
  case y12_4101 => intro w hSw; (try dsimp only at hSw); go_simp; try with_reducible rfl
  try simp only [Act.put, List.setIfInBounds_toArray, List.set_cons_zero, List.set_cons_succ]
  refine wpAnyH_ready (rs := [4]) (by kernel_rfl) (by simp) ?_
  refine AllReadyH.cons (o := { dst := some 7, op := Go.Op.call { callee := Go.Callee.value (Go.Operand.func 33), args := #[Go.Operand.tmp 6], argTypes := #[34] }, type := 34, pos := "edns.go:71", after := #[{ on := 3, ground := Go.Ground.data }], guard := none }) rfl (fun K hK => ?_) AllReadyH.nil
  go_simp
  refine (cloneQ qa ql qc Q _ (HQ.out.below hHeld.1.out.1) HQN.out hql).mono ?_; rintro e w3 ⟨v3, rfl, ho, hb⟩
  obtain ⟨qa2, qc2, rfl, _⟩ := rowQ_own ho
  replace ho := own_mono4 ho (show w.heap.size + 2 ≤ _ from HC0.out.1)
  have HQ3 := Lib.hid ho
  have HC3 := Lib.hid (HC0.out.below hb)
  clear ho HC0 
  go_wp2_with fail
  refine hK.out _ _ (Fix.next12 hb hHeld) (fun hHeld2 => ?_)
  clear hK K hHeld
  have hHeld := hHeld2
  clear hHeld2
  try simp only [Act.put, List.setIfInBounds_toArray, List.set_cons_zero, List.set_cons_succ]
  refine wpAnyH_ready (rs := [7]) (by kernel_rfl) (by simp) ?_
  refine AllReadyH.cons (o := { dst := some 10, op := Go.Op.call { callee := Go.Callee.value (Go.Operand.func 29), args := #[Go.Operand.tmp 9], argTypes := #[35] }, type := 35, pos := "edns.go:71", after := #[{ on := 6, ground := Go.Ground.data }, { on := 4, ground := Go.Ground.chain }], guard := none }) rfl (fun K hK => ?_) AllReadyH.nil
  go_simp
  refine (cloneRR na nl nc A _ (HA.out.below hHeld.1.out.1) HAN.out hnl).mono ?_; rintro e w4 ⟨v4, rfl, ho, hb⟩
  obtain ⟨na2, nc2, rfl, _⟩ := rowR_own ho
  replace ho := own_mono4 ho (show w.heap.size + 2 ≤ _ from HC3.out.1)
  have HA4 := Lib.hid ho
  have HC4 := Lib.hid (HC3.out.below hb)
  have HQ4 := Lib.hid (own_below' HQ3.out hb)
  clear ho HC3 HQ3
  go_wp2_with fail
  refine hK.out _ _ (Fix.next12 hb hHeld) (fun hHeld2 => ?_)
  clear hK K hHeld
  have hHeld := hHeld2
  clear hHeld2
  try simp only [Act.put, List.setIfInBounds_toArray, List.set_cons_zero, List.set_cons_succ]
  refine wpAnyH_ready (rs := [10]) (by kernel_rfl) (by simp) ?_
  refine AllReadyH.cons (o := { dst := some 13, op := Go.Op.call { callee := Go.Callee.value (Go.Operand.func 29), args := #[Go.Operand.tmp 12], argTypes := #[35] }, type := 35, pos := "edns.go:71", after := #[{ on := 9, ground := Go.Ground.data }, { on := 7, ground := Go.Ground.chain }], guard := none }) rfl (fun K hK => ?_) AllReadyH.nil
  go_simp
  refine (cloneRR sa sl sc N _ (HN.out.below hHeld.1.out.1) HNN.out hsl).mono ?_; rintro e w5 ⟨v5, rfl, ho, hb⟩
  obtain ⟨sa2, sc2, rfl, _⟩ := rowR_own ho
  replace ho := own_mono4 ho (show w.heap.size + 2 ≤ _ from HC4.out.1)
  have HN5 := Lib.hid ho
  have HC5 := Lib.hid (HC4.out.below hb)
  have HQ5 := Lib.hid (own_below' HQ4.out hb)
  have HA5 := Lib.hid (own_below' HA4.out hb)
  clear ho HC4 HQ4 HA4
  go_wp2_with fail
  refine hK.out _ _ (Fix.next12 hb hHeld) (fun hHeld2 => ?_)
  clear hK K hHeld
  have hHeld := hHeld2
  clear hHeld2
  try simp only [Act.put, List.setIfInBounds_toArray, List.set_cons_zero, List.set_cons_succ]
  refine wpAnyH_ready (rs := [13]) (by kernel_rfl) (by simp) ?_
  refine AllReadyH.cons (o := { dst := some 16, op := Go.Op.call { callee := Go.Callee.value (Go.Operand.func 29), args := #[Go.Operand.tmp 15], argTypes := #[35] }, type := 35, pos := "edns.go:72", after := #[{ on := 12, ground := Go.Ground.data }, { on := 10, ground := Go.Ground.chain }], guard := none }) rfl (fun K hK => ?_) AllReadyH.nil
  go_simp
  have HF5 := hHeld.1
  refine (cloneRR xa xl xc X _ (HX.out.below hHeld.1.out.1) HXN.out hxl).mono ?_; rintro e w6 ⟨v6, rfl, ho6, hb⟩
  have HO6 := Lib.hid ho6
  have HB6 := Lib.hid hb
  clear ho6
  go_wp2_with fail
  refine hK.out _ _ (Fix.next12 hb hHeld) (fun hHeld2 => ?_)
  clear hK K hHeld
  have hHeld := hHeld2
  clear hHeld2
  try simp only [Act.put, List.setIfInBounds_toArray, List.set_cons_zero, List.set_cons_succ]
  refine wpAnyH_ready (rs := [14]) (by kernel_rfl) (by simp) ?_
  refine AllReadyH.cons (o := { dst := some 17, op := Go.Op.call { callee := Go.Callee.value (Go.Operand.func 28), args := #[Go.Operand.tmp 16, Go.Operand.func 31], argTypes := #[35, 79] }, type := 35, pos := "edns.go:72", after := #[{ on := 13, ground := Go.Ground.data }, { on := 13, ground := Go.Ground.chain }], guard := none }) rfl (fun K hK => ?_) AllReadyH.nil
  go_simp
  refine (deleteRR _ _ isOpt_any _ _ _ _ _ HO6.out hxl).mono ?_; rintro e w7 ⟨v7, rfl, ho7, hg7⟩
  have hb := HB6.out.grown hg7 HB6.out.size (fun k hk => (HO6.out.lt k hk).1)
  replace ho7 := own_mono4 ho7 (show w.heap.size + 2 ≤ _ from HC5.out.1)
  obtain ⟨xa2, xc2, rfl, _⟩ := rowR_own ho7
  rw [HM.out] at ho7
  have HX7 := Lib.hid ho7
  have HN7 := Lib.hid (own_below' HN5.out hb)
  have HA7 := Lib.hid (own_below' HA5.out hb)
  have HQ7 := Lib.hid (own_below' HQ5.out hb)
  have HC7 := Lib.hid (HC5.out.below hb)
  rw [HM.out]
  clear ho7 hg7 HQ5 HC5 HA5 HN5 HO6 HB6
  go_wp2_with fail
  refine hK.out _ _ ((HF5.out.go hb).all12) (fun hHeld2 => ?_)
  clear hK K hHeld
  have hHeld := hHeld2
  clear hHeld2
  try simp only [Act.put, List.setIfInBounds_toArray, List.set_cons_zero, List.set_cons_succ]
  refine wpAnyH_take (i := 15) (oi := { dst := some 18, op := Go.Op.build 37 #[(0, Go.Operand.tmp 4), (1, Go.Operand.tmp 7), (2, Go.Operand.tmp 10), (3, Go.Operand.tmp 13), (4, Go.Operand.tmp 17)], type := 37, pos := "edns.go:70", after := #[{ on := 1, ground := Go.Ground.data }, { on := 4, ground := Go.Ground.data }, { on := 7, ground := Go.Ground.data }, { on := 10, ground := Go.Ground.data }, { on := 14, ground := Go.Ground.data }], guard := none }) (v := ?v15_4106) rfl (by kernel_rfl) (by kernel_rfl) (by kernel_rfl) (fun _ _ _ h => h) (Or.inl ⟨by rfl, ?y15_4106⟩) hHeld ?r15_4106
  case y15_4106 => intro w hSw; (try dsimp only at hSw); go_simp; try with_reducible rfl
  try simp only [Act.put, List.setIfInBounds_toArray, List.set_cons_zero, List.set_cons_succ]
  refine wpAnyH_ready (rs := [16]) (by kernel_rfl) (by simp) ?_
  refine AllReadyH.cons (o := { dst := none, op := Go.Op.store 37 (Go.Operand.tmp 2) (Go.Operand.tmp 18), type := 0, pos := "edns.go:70", after := #[{ on := 15, ground := Go.Ground.data }, { on := 14, ground := Go.Ground.chain }, { on := 0, ground := Go.Ground.phase }, { on := 1, ground := Go.Ground.phase }, { on := 2, ground := Go.Ground.phase }, { on := 3, ground := Go.Ground.phase }, { on := 4, ground := Go.Ground.phase }, { on := 5, ground := Go.Ground.phase }, { on := 6, ground := Go.Ground.phase }, { on := 7, ground := Go.Ground.phase }, { on := 8, ground := Go.Ground.phase }, { on := 9, ground := Go.Ground.phase }, { on := 10, ground := Go.Ground.phase }, { on := 11, ground := Go.Ground.phase }, { on := 12, ground := Go.Ground.phase }, { on := 13, ground := Go.Ground.phase }, { on := 14, ground := Go.Ground.phase }, { on := 15, ground := Go.Ground.phase }], guard := none }) rfl (fun K hK => ?_) AllReadyH.nil
  obtain ⟨y0, y1, y2, y3, y4, y5, y6, y7, y8, y9, y10, y11, g0, g1, g2, g3, g4, g5, g6, g7, g8, g9, g10, g11⟩ := HC7.out.u12
  have HS12 := Lib.hid (grown_s12 w7 (w.heap.size + 1) (.int .i64 mi) (.int .i64 mo) (.int .i64 mr) (.bool b1) (.bool b2) (.bool b3) (.bool b4) (.bool b5) (.slice qa2 ql qc2) (.slice na2 nl nc2) (.slice sa2 sl sc2) (.slice xa2 m xc2))
  go_simp
  refine hK.out _ _ ((hHeld.1.out.grown HS12.out (fun k hk => by injection hk with hk; have := HW1.out; omega)).all12) (fun hHeld2 => ?_)
  clear hK K hHeld
  have hHeld := hHeld2
  clear hHeld2
  try simp only [Act.put, List.setIfInBounds_toArray, List.set_cons_zero, List.set_cons_succ]
  refine wpAnyH_done (by kernel_rfl) ?_ _
  have KZ := Lib.hid (HC7.out.s12 (.int .i64 mi) (.int .i64 mo) (.int .i64 mr) (.bool b1) (.bool b2) (.bool b3) (.bool b4) (.bool b5) (.slice qa2 ql qc2) (.slice na2 nl nc2) (.slice sa2 sl sc2) (.slice xa2 m xc2))
  have HQZ := Lib.hid (own_past HQ7.out HS12.out)
  have HAZ := Lib.hid (own_past HA7.out HS12.out)
  have HNZ := Lib.hid (own_past HN7.out HS12.out)
  have HXZ := Lib.hid (own_past HX7.out HS12.out)
  have HBZ := Lib.hid (HBW.out.trans (hHeld.1.out.1.mono HBW.out.size))
  go_wp2
  obtain ⟨wz, hwz⟩ : ∃ x, ((((((((((((w7.setCell ⟨w.heap.size + 1, 0, none⟩ (.int .i64 mi)).setCell ⟨w.heap.size + 1, 1, none⟩ (.int .i64 mo)).setCell ⟨w.heap.size + 1, 2, none⟩ (.int .i64 mr)).setCell ⟨w.heap.size + 1, 3, none⟩ (.bool b1)).setCell ⟨w.heap.size + 1, 4, none⟩ (.bool b2)).setCell ⟨w.heap.size + 1, 5, none⟩ (.bool b3)).setCell ⟨w.heap.size + 1, 6, none⟩ (.bool b4)).setCell ⟨w.heap.size + 1, 7, none⟩ (.bool b5)).setCell ⟨w.heap.size + 1, 8, none⟩ (.slice qa2 ql qc2)).setCell ⟨w.heap.size + 1, 9, none⟩ (.slice na2 nl nc2)).setCell ⟨w.heap.size + 1, 10, none⟩ (.slice sa2 sl sc2)).setCell ⟨w.heap.size + 1, 11, none⟩ (.slice xa2 m xc2)) = x := ⟨_, rfl⟩
  rw [hwz] at KZ HBZ HQZ HAZ HNZ HXZ ⊢
  obtain ⟨z0, z1, z2, z3, z4, z5, z6, z7, z8, z9, z10, z11, _⟩ := KZ.out.u12
  clear hwz HW y0 g0 y1 g1 y2 g2 y3 g3 y4 g4 y5 g5 y6 g6 y7 g7 y8 g8 y9 g9 y10 g10 y11 g11
  refine bodyPost_ret (v := .agg #[.int .i64 mi, .int .i64 mo, .int .i64 mr, .bool b1, .bool b2, .bool b3, .bool b4, .bool b5, .slice qa2 ql qc2, .slice na2 nl nc2, .slice sa2 sl sc2, .slice xa2 m xc2]) (by simp [results, Try.results41, go_sem, z0, z1, z2, z3, z4, z5, z6, z7, z8, z9, z10, z11]) rfl ⟨qa2, na2, sa2, xa2, qc2, nc2, sc2, xc2, rfl, own_mono4 HQZ.out (by omega), own_mono4 HAZ.out (by omega), own_mono4 HNZ.out (by omega), own_mono4 HXZ.out (by omega), HBZ.out⟩
end Go.Proofs.Ytgppkpdjpcegbaa
