/- WireReads: the walk. -/
import Derived.Test.YtkoafkajmfodkaaCpB
import Derived.Test.YtkoafkajmfodkaaDcS
import Derived.Test.YtkoafkajmfodkaaPln5
import Derived.Test.YtkoafkajmfodkaaEc5
namespace Go.Proofs.Ytkoafkajmfodkaa
open Go.RowKit

set_option maxRecDepth 100000 in
set_option maxHeartbeats 32000000 in
theorem walkReads5 (a0 : Option Addr) (n0 c0 : Nat) (l : List UInt8) (w : World) (hr : RowB w a0 n0 l) (hn : a0 = none → n0 = 0 ∧ c0 = 0) :
    Calls Try.prog 4 #[.slice a0 n0 c0] w fun e w' => e = .returned (.bool true) ∧ Below w.heap.size w w' := by
  have HRB := Lib.hid hr
  have HN0 := Lib.hid hn
  have HB := Lib.hid (Below.refl w.heap.size w)
  clear hr hn
  by_cases g1 : 16100 < n0
  · have d1 := dT (p := (16100 : Int) < (n0 : Int)) (by omega)
    clear g1
    go_enter Try.func4, Try.ntmps4
    go_wp2_with fail
    refine (first5 _).mono ?_; rintro e w2 ⟨rfl, hb⟩
    replace HRB := Lib.hid (HRB.out.below hb)
    replace HB := Lib.hid (HB.out.trans (hb.mono HB.out.size))
    clear hb
    go_wp2_with fail
    refine (first5 _).mono ?_; rintro e w3 ⟨rfl, hb⟩
    replace HRB := Lib.hid (HRB.out.below hb)
    replace HB := Lib.hid (HB.out.trans (hb.mono HB.out.size))
    clear hb
    go_wp2
    go_ret
    exact ⟨rfl, HB.out⟩
  have d1 := dF (p := (16100 : Int) < (n0 : Int)) (by omega)
  have HL := Lib.hid (show n0 ≤ 20000 by omega)
  clear g1
  go_enter Try.func4, Try.ntmps4
  go_wp2_with fail
  refine (first5 _).mono ?_; rintro e w2 ⟨rfl, hb⟩
  replace HRB := Lib.hid (HRB.out.below hb)
  replace HB := Lib.hid (HB.out.trans (hb.mono HB.out.size))
  clear hb
  go_wp2_with fail
  refine (copyBytes_any a0 n0 c0 l _ HRB.out HN0.out (by have := HL.out; omega)).mono ?_; rintro e w3 ⟨v, rfl, ho, hb⟩
  replace HRB := Lib.hid (HRB.out.below hb)
  replace HB := Lib.hid (HB.out.trans (hb.mono HB.out.size))
  clear hb
  obtain ⟨a2, c2, rfl, -⟩ := cellsK_own ho
  have HO := Lib.hid ho
  clear ho
  obtain ⟨⟨mi, mo, mr, b1, b2, b3, b4, b5, Q, A, N, X⟩, hm⟩ : ∃ x, toP (decM (bs l)) = x := ⟨_, rfl⟩
  have HM := Lib.hid hm
  obtain ⟨k, hk⟩ : ∃ x, (decP (bs l)).isSome = x := ⟨_, rfl⟩
  have HK := Lib.hid hk
  clear hm hk
  go_wp2_with fail
  refine (decode_y l a2 n0 c2 _ (rowB_own HO.out).1 (rowB_own HO.out).2 HL.out).mono ?_; rintro e w4 ⟨v, er, rfl, ho, hsm, he, hb⟩
  replace HRB := Lib.hid (HRB.out.below hb)
  replace HB := Lib.hid (HB.out.trans (hb.mono HB.out.size))
  replace HO := Lib.hid (own_below' HO.out hb)
  clear hb
  rw [HM.out] at ho hsm
  rw [HK.out] at he
  have HSM := Lib.hid hsm
  have HER := Lib.hid he
  clear hsm he
  obtain ⟨qa, ql, qc, na, nl, nc, sa, sl, sc, xa, xl, xc, rfl, hp⟩ := ho.at.parts
  have H1 := Lib.hid hp
  clear ho hp
  have hba := (Below.refl _ _ : Below w4.heap.size w4 w4).alloc (Nat.le_refl _) (.cells #[.int .i64 mi, .int .i64 mo, .int .i64 mr, .bool b1, .bool b2, .bool b3, .bool b4, .bool b5, .slice qa ql qc, .slice na nl nc, .slice sa sl sc, .slice xa xl xc] 27)
  have HC := Lib.hid (CN.new w4 #[.int .i64 mi, .int .i64 mo, .int .i64 mr, .bool b1, .bool b2, .bool b3, .bool b4, .bool b5, .slice qa ql qc, .slice na nl nc, .slice sa sl sc, .slice xa xl xc] 27)
  replace HRB := Lib.hid (HRB.out.below hba)
  replace HB := Lib.hid (HB.out.trans (hba.mono HB.out.size))
  replace HO := Lib.hid (own_below' HO.out hba)
  replace H1 := Lib.hid (H1.out.below hba)
  obtain ⟨w5, hw⟩ : ∃ x, w4.alloc (.cells #[.int .i64 mi, .int .i64 mo, .int .i64 mr, .bool b1, .bool b2, .bool b3, .bool b4, .bool b5, .slice qa ql qc, .slice na nl nc, .slice sa sl sc, .slice xa xl xc] 27) = x := ⟨_, rfl⟩
  obtain ⟨q5, hq⟩ : ∃ x, w4.heap.size = x := ⟨_, rfl⟩
  rw [hw, hq] at HC
  rw [hw] at HRB HB HO H1
  have HW := Lib.hid hw
  have HQ_ := Lib.hid hq
  clear hba hw hq
  go_upto_region 7 with (fail)
  rw [HW.out, HQ_.out]
  clear HW HQ_
  go_wp2_with fail
  refine (rdecode_y l a0 n0 c0 _ HRB.out HN0.out HL.out).mono ?_; rintro e w6 ⟨v, rfl, ho, hb⟩
  replace HRB := Lib.hid (HRB.out.below hb)
  replace HB := Lib.hid (HB.out.trans (hb.mono HB.out.size))
  replace HO := Lib.hid (own_below' HO.out hb)
  replace H1 := Lib.hid (H1.out.below hb)
  replace HC := Lib.hid (HC.out.below hb)
  clear hb
  rw [HM.out] at ho
  rw [HK.out]
  obtain ⟨qa3, ql3, qc3, na3, nl3, nc3, sa3, sl3, sc3, xa3, xl3, xc3, rfl, hp⟩ := ho.at.parts
  have H2 := Lib.hid hp
  clear ho hp
  have hba := (Below.refl _ _ : Below w6.heap.size w6 w6).alloc (Nat.le_refl _) (.cells #[.int .i64 mi, .int .i64 mo, .int .i64 mr, .bool b1, .bool b2, .bool b3, .bool b4, .bool b5, .slice qa3 ql3 qc3, .slice na3 nl3 nc3, .slice sa3 sl3 sc3, .slice xa3 xl3 xc3] 32)
  have HC3 := Lib.hid (CN.new w6 #[.int .i64 mi, .int .i64 mo, .int .i64 mr, .bool b1, .bool b2, .bool b3, .bool b4, .bool b5, .slice qa3 ql3 qc3, .slice na3 nl3 nc3, .slice sa3 sl3 sc3, .slice xa3 xl3 xc3] 32)
  replace HRB := Lib.hid (HRB.out.below hba)
  replace HB := Lib.hid (HB.out.trans (hba.mono HB.out.size))
  replace HO := Lib.hid (own_below' HO.out hba)
  replace H1 := Lib.hid (H1.out.below hba)
  replace HC := Lib.hid (HC.out.below hba)
  replace H2 := Lib.hid (H2.out.below hba)
  obtain ⟨w7, hw⟩ : ∃ x, w6.alloc (.cells #[.int .i64 mi, .int .i64 mo, .int .i64 mr, .bool b1, .bool b2, .bool b3, .bool b4, .bool b5, .slice qa3 ql3 qc3, .slice na3 nl3 nc3, .slice sa3 sl3 sc3, .slice xa3 xl3 xc3] 32) = x := ⟨_, rfl⟩
  obtain ⟨q7, hq⟩ : ∃ x, w6.heap.size = x := ⟨_, rfl⟩
  rw [hw, hq] at HC3
  rw [hw] at HRB HB HO H1 HC H2
  have HW := Lib.hid hw
  have HQ_ := Lib.hid hq
  clear hba hw hq
  go_upto_region 8 with (fail)
  rw [HW.out, HQ_.out]
  clear HW HQ_
  have eK : (k == k) = true := beq_self_eq_true k
  have eR := HER.out
  refine wp_region_held_drew (S := (fun wx => Below w7.heap.size w7 wx)) (by kernel_rfl) ((Below.refl w7.heap.size w7).drew) (fun hHeld => ?_)
  refine wpAnyH_ready (rs := [0]) (by kernel_rfl) (by simp) ?_
  refine AllReadyH.cons (o := { dst := some 26, op := Go.Op.call { callee := Go.Callee.value (Go.Operand.func 13), args := #[], argTypes := #[] }, type := 4, pos := "law.go:68", after := #[], guard := none }) rfl (fun K hK => ?_) AllReadyH.nil
  go_simp
  refine (first5 _).mono ?_; rintro e wt0 ⟨rfl, hb⟩
  go_wp2_with fail
  refine hK.out _ _ (hHeld.trans (hb.mono hHeld.size)) (fun hHeld2 => ?_)
  clear hK K hHeld
  have hHeld := hHeld2
  clear hHeld2
  try simp only [Act.put, List.setIfInBounds_toArray, List.set_cons_zero, List.set_cons_succ]
  refine wpAnyH_take (i := 1) (oi := { dst := some 27, op := Go.Op.move (Go.Operand.tmp 26), type := 4, pos := "law.go:68", after := #[{ on := 0, ground := Go.Ground.data }, { on := 0, ground := Go.Ground.chain }], guard := none }) (v := ?v1_410102) rfl (by kernel_rfl) (by kernel_rfl) (by kernel_rfl) (fun _ _ _ h => h) (Or.inl ⟨by rfl, ?y1_410102⟩) hHeld ?r1_410102
  case y1_410102 => intro w hSw; (try dsimp only at hSw); go_simp; try with_reducible rfl
  try simp only [Act.put, List.setIfInBounds_toArray, List.set_cons_zero, List.set_cons_succ]
  refine wpAnyH_take (i := 2) (oi := { dst := some 28, op := Go.Op.load 27 (Go.Operand.tmp 4), type := 27, pos := "law.go:68", after := #[{ on := 1, ground := Go.Ground.guard }], guard := some (1, true) }) (v := ?v2_410102) rfl (by kernel_rfl) (by kernel_rfl) (by kernel_rfl) (fun _ _ _ h => h) (Or.inl ⟨by rfl, ?y2_410102⟩) hHeld ?r2_410102
  case y2_410102 => intro w hSw; (try dsimp only at hSw); obtain ⟨y0, y1, y2, y3, y4, y5, y6, y7, y8, y9, y10, y11, _⟩ := (HC.out.below hSw).u12; go_simp; try with_reducible rfl
  try simp only [Act.put, List.setIfInBounds_toArray, List.set_cons_zero, List.set_cons_succ]
  refine wpAnyH_take (i := 4) (oi := { dst := some 30, op := Go.Op.load 32 (Go.Operand.tmp 6), type := 32, pos := "law.go:68", after := #[{ on := 1, ground := Go.Ground.guard }], guard := some (1, true) }) (v := ?v4_410102) rfl (by kernel_rfl) (by kernel_rfl) (by kernel_rfl) (fun _ _ _ h => h) (Or.inl ⟨by rfl, ?y4_410102⟩) hHeld ?r4_410102
  case y4_410102 => intro w hSw; (try dsimp only at hSw); obtain ⟨y0, y1, y2, y3, y4, y5, y6, y7, y8, y9, y10, y11, _⟩ := (HC3.out.below hSw).u12; go_simp; try with_reducible rfl
  try simp only [Act.put, List.setIfInBounds_toArray, List.set_cons_zero, List.set_cons_succ]
  refine wpAnyH_ready (rs := [3]) (by kernel_rfl) (by simp) ?_
  refine AllReadyH.cons (o := { dst := some 29, op := Go.Op.call { callee := Go.Callee.value (Go.Operand.func 15), args := #[Go.Operand.tmp 28], argTypes := #[27] }, type := 32, pos := "law.go:68", after := #[{ on := 2, ground := Go.Ground.data }, { on := 1, ground := Go.Ground.chain }, { on := 1, ground := Go.Ground.guard }], guard := some (1, true) }) rfl (fun K hK => ?_) AllReadyH.nil
  go_simp
  refine (plain_ex mi mo mr b1 b2 b3 b4 b5 qa na sa xa ql qc nl nc sl sc xl xc _).mono ?_; rintro e wt3 ⟨rfl, hb⟩
  go_wp2_with fail
  refine hK.out _ _ (hHeld.trans (hb.mono hHeld.size)) (fun hHeld2 => ?_)
  clear hK K hHeld
  have hHeld := hHeld2
  clear hHeld2
  try simp only [Act.put, List.setIfInBounds_toArray, List.set_cons_zero, List.set_cons_succ]
  refine wpAnyH_ready (rs := [5]) (by kernel_rfl) (by simp) ?_
  refine AllReadyH.cons (o := { dst := some 31, op := Go.Op.call { callee := Go.Callee.value (Go.Operand.func 30), args := #[Go.Operand.tmp 29, Go.Operand.tmp 30], argTypes := #[32, 32] }, type := 4, pos := "law.go:68", after := #[{ on := 3, ground := Go.Ground.data }, { on := 4, ground := Go.Ground.data }, { on := 3, ground := Go.Ground.chain }, { on := 1, ground := Go.Ground.guard }], guard := some (1, true) }) rfl (fun K hK => ?_) AllReadyH.nil
  go_simp
  refine (sameMD_any _ _ (⟨mi, mo, mr, b1, b2, b3, b4, b5, Q, A, N, X⟩ : MsgP) (⟨mi, mo, mr, b1, b2, b3, b4, b5, Q, A, N, X⟩ : MsgP) _ (H1.out.below hHeld) (H2.out.below hHeld) HSM.out HSM.out).mono ?_; rintro e wt5 ⟨rfl, hb⟩
  rw [(sameB_iff _ _).2 rfl]
  go_wp2_with fail
  refine hK.out _ _ (hHeld.trans (hb.mono hHeld.size)) (fun hHeld2 => ?_)
  clear hK K hHeld
  have hHeld := hHeld2
  clear hHeld2
  try simp only [Act.put, List.setIfInBounds_toArray, List.set_cons_zero, List.set_cons_succ]
  refine wpAnyH_take (i := 6) (oi := { dst := some 32, op := Go.Op.pick (Go.Operand.tmp 27) (Go.Operand.tmp 31) (Go.Operand.const (Go.Value.bool false)), type := 4, pos := "law.go:68", after := #[{ on := 1, ground := Go.Ground.data }, { on := 5, ground := Go.Ground.data }], guard := none }) (v := ?v6_410104) rfl (by kernel_rfl) (by kernel_rfl) (by kernel_rfl) (fun _ _ _ h => h) (Or.inl ⟨by rfl, ?y6_410104⟩) hHeld ?r6_410104
  case y6_410104 => intro w hSw; (try dsimp only at hSw); go_simp; try with_reducible rfl
  try simp only [Act.put, List.setIfInBounds_toArray, List.set_cons_zero, List.set_cons_succ]
  refine wpAnyH_take (i := 7) (oi := { dst := some 33, op := Go.Op.move (Go.Operand.tmp 32), type := 4, pos := "law.go:68", after := #[{ on := 6, ground := Go.Ground.data }, { on := 5, ground := Go.Ground.chain }], guard := none }) (v := ?v7_410104) rfl (by kernel_rfl) (by kernel_rfl) (by kernel_rfl) (fun _ _ _ h => h) (Or.inl ⟨by rfl, ?y7_410104⟩) hHeld ?r7_410104
  case y7_410104 => intro w hSw; (try dsimp only at hSw); go_simp; try with_reducible rfl
  try simp only [Act.put, List.setIfInBounds_toArray, List.set_cons_zero, List.set_cons_succ]
  refine wpAnyH_take (i := 8) (oi := { dst := some 34, op := Go.Op.move (Go.Operand.tmp 5), type := 36, pos := "law.go:68", after := #[{ on := 7, ground := Go.Ground.guard }], guard := some (7, true) }) (v := ?v8_410104) rfl (by kernel_rfl) (by kernel_rfl) (by kernel_rfl) (fun _ _ _ h => h) (Or.inl ⟨by rfl, ?y8_410104⟩) hHeld ?r8_410104
  case y8_410104 => intro w hSw; (try dsimp only at hSw); go_simp; try with_reducible rfl
  try simp only [Act.put, List.setIfInBounds_toArray, List.set_cons_zero, List.set_cons_succ]
  refine wpAnyH_take (i := 9) (oi := { dst := some 35, op := Go.Op.binOp Go.BinOp.eql 36 (Go.Operand.tmp 34) (Go.Operand.const (Go.Value.int Go.IntKind.i64 0)) 36, type := 4, pos := "law.go:68", after := #[{ on := 8, ground := Go.Ground.data }, { on := 7, ground := Go.Ground.guard }], guard := some (7, true) }) (v := ?v9_410104) rfl (by kernel_rfl) (by kernel_rfl) (by kernel_rfl) (fun _ _ _ h => h) (Or.inl ⟨by rfl, ?y9_410104⟩) hHeld ?r9_410104
  case y9_410104 => intro w hSw; (try dsimp only at hSw); go_simp; try with_reducible rfl
  try simp only [Act.put, List.setIfInBounds_toArray, List.set_cons_zero, List.set_cons_succ]
  refine wpAnyH_take (i := 10) (oi := { dst := some 36, op := Go.Op.move (Go.Operand.tmp 7), type := 4, pos := "law.go:68", after := #[{ on := 7, ground := Go.Ground.guard }], guard := some (7, true) }) (v := ?v10_410104) rfl (by kernel_rfl) (by kernel_rfl) (by kernel_rfl) (fun _ _ _ h => h) (Or.inl ⟨by rfl, ?y10_410104⟩) hHeld ?r10_410104
  case y10_410104 => intro w hSw; (try dsimp only at hSw); go_simp; try with_reducible rfl
  try simp only [Act.put, List.setIfInBounds_toArray, List.set_cons_zero, List.set_cons_succ]
  refine wpAnyH_take (i := 11) (oi := { dst := some 37, op := Go.Op.binOp Go.BinOp.eql 4 (Go.Operand.tmp 35) (Go.Operand.tmp 36) 4, type := 4, pos := "law.go:68", after := #[{ on := 9, ground := Go.Ground.data }, { on := 10, ground := Go.Ground.data }, { on := 7, ground := Go.Ground.guard }], guard := some (7, true) }) (v := ?v11_410104) rfl (by kernel_rfl) (by kernel_rfl) (by kernel_rfl) (fun _ _ _ h => h) (Or.inl ⟨by rfl, ?y11_410104⟩) hHeld ?r11_410104
  case y11_410104 => intro w hSw; (try dsimp only at hSw); go_simp; try with_reducible rfl
  try simp only [Act.put, List.setIfInBounds_toArray, List.set_cons_zero, List.set_cons_succ]
  refine wpAnyH_take (i := 12) (oi := { dst := some 38, op := Go.Op.pick (Go.Operand.tmp 33) (Go.Operand.tmp 37) (Go.Operand.const (Go.Value.bool false)), type := 4, pos := "law.go:68", after := #[{ on := 7, ground := Go.Ground.data }, { on := 11, ground := Go.Ground.data }], guard := none }) (v := ?v12_410104) rfl (by kernel_rfl) (by kernel_rfl) (by kernel_rfl) (fun _ _ _ h => h) (Or.inl ⟨by rfl, ?y12_410104⟩) hHeld ?r12_410104
  case y12_410104 => intro w hSw; (try dsimp only at hSw); go_simp; try with_reducible rfl
  try simp only [Act.put, List.setIfInBounds_toArray, List.set_cons_zero, List.set_cons_succ]
  refine wpAnyH_take (i := 13) (oi := { dst := some 39, op := Go.Op.move (Go.Operand.tmp 38), type := 4, pos := "law.go:68", after := #[{ on := 12, ground := Go.Ground.data }, { on := 7, ground := Go.Ground.chain }], guard := none }) (v := ?v13_410104) rfl (by kernel_rfl) (by kernel_rfl) (by kernel_rfl) (fun _ _ _ h => h) (Or.inl ⟨by rfl, ?y13_410104⟩) hHeld ?r13_410104
  case y13_410104 => intro w hSw; (try dsimp only at hSw); go_simp; try with_reducible rfl
  try simp only [Act.put, List.setIfInBounds_toArray, List.set_cons_zero, List.set_cons_succ]
  refine wpAnyH_take (i := 14) (oi := { dst := some 40, op := Go.Op.move (Go.Operand.tmp 3), type := 35, pos := "law.go:68", after := #[{ on := 13, ground := Go.Ground.guard }], guard := some (13, true) }) (v := ?v14_410104) rfl (by kernel_rfl) (by kernel_rfl) (by kernel_rfl) (fun _ _ _ h => h) (Or.inl ⟨by rfl, ?y14_410104⟩) hHeld ?r14_410104
  case y14_410104 => intro w hSw; (try dsimp only at hSw); go_simp; try with_reducible rfl
  try simp only [Act.put, List.setIfInBounds_toArray, List.set_cons_zero, List.set_cons_succ]
  refine wpAnyH_take (i := 15) (oi := { dst := some 41, op := Go.Op.move (Go.Operand.tmp 0), type := 35, pos := "law.go:68", after := #[{ on := 13, ground := Go.Ground.guard }], guard := some (13, true) }) (v := ?v15_410104) rfl (by kernel_rfl) (by kernel_rfl) (by kernel_rfl) (fun _ _ _ h => h) (Or.inl ⟨by rfl, ?y15_410104⟩) hHeld ?r15_410104
  case y15_410104 => intro w hSw; (try dsimp only at hSw); go_simp; try with_reducible rfl
  try simp only [Act.put, List.setIfInBounds_toArray, List.set_cons_zero, List.set_cons_succ]
  refine wpAnyH_ready (rs := [16]) (by kernel_rfl) (by simp) ?_
  refine AllReadyH.cons (o := { dst := some 42, op := Go.Op.call { callee := Go.Callee.value (Go.Operand.func 25), args := #[Go.Operand.tmp 40, Go.Operand.tmp 41], argTypes := #[35, 35] }, type := 4, pos := "law.go:68", after := #[{ on := 14, ground := Go.Ground.data }, { on := 15, ground := Go.Ground.data }, { on := 13, ground := Go.Ground.chain }, { on := 13, ground := Go.Ground.guard }], guard := some (13, true) }) rfl (fun K hK => ?_) AllReadyH.nil
  go_simp
  refine (bytes_row a2 a0 n0 c2 c0 l _ ((rowB_own HO.out).1.below hHeld) (HRB.out.below hHeld) (rowB_own HO.out).2 HN0.out).mono ?_; rintro e wt16 ⟨rfl, hb⟩
  go_wp2_with fail
  refine hK.out _ _ (hHeld.trans (hb.mono hHeld.size)) (fun hHeld2 => ?_)
  clear hK K hHeld
  have hHeld := hHeld2
  clear hHeld2
  try simp only [Act.put, List.setIfInBounds_toArray, List.set_cons_zero, List.set_cons_succ]
  refine wpAnyH_take (i := 17) (oi := { dst := some 43, op := Go.Op.pick (Go.Operand.tmp 39) (Go.Operand.tmp 42) (Go.Operand.const (Go.Value.bool false)), type := 4, pos := "law.go:68", after := #[{ on := 13, ground := Go.Ground.data }, { on := 16, ground := Go.Ground.data }], guard := none }) (v := ?v17_410105) rfl (by kernel_rfl) (by kernel_rfl) (by kernel_rfl) (fun _ _ _ h => h) (Or.inl ⟨by rfl, ?y17_410105⟩) hHeld ?r17_410105
  case y17_410105 => intro w hSw; (try dsimp only at hSw); go_simp; try with_reducible rfl
  try simp only [Act.put, List.setIfInBounds_toArray, List.set_cons_zero, List.set_cons_succ]
  refine wpAnyH_take (i := 18) (oi := { dst := some 2, op := Go.Op.assign (Go.Operand.tmp 43), type := 4, pos := "law.go:68", after := #[{ on := 17, ground := Go.Ground.data }, { on := 16, ground := Go.Ground.chain }, { on := 0, ground := Go.Ground.phase }, { on := 1, ground := Go.Ground.phase }, { on := 2, ground := Go.Ground.phase }, { on := 3, ground := Go.Ground.phase }, { on := 4, ground := Go.Ground.phase }, { on := 5, ground := Go.Ground.phase }, { on := 6, ground := Go.Ground.phase }, { on := 7, ground := Go.Ground.phase }, { on := 8, ground := Go.Ground.phase }, { on := 9, ground := Go.Ground.phase }, { on := 10, ground := Go.Ground.phase }, { on := 11, ground := Go.Ground.phase }, { on := 12, ground := Go.Ground.phase }, { on := 13, ground := Go.Ground.phase }, { on := 14, ground := Go.Ground.phase }, { on := 15, ground := Go.Ground.phase }, { on := 16, ground := Go.Ground.phase }, { on := 17, ground := Go.Ground.phase }], guard := none }) (v := ?v18_410105) rfl (by kernel_rfl) (by kernel_rfl) (by kernel_rfl) (fun _ _ _ h => h) (Or.inl ⟨by rfl, ?y18_410105⟩) hHeld ?r18_410105
  case y18_410105 => intro w hSw; (try dsimp only at hSw); go_simp; try with_reducible rfl
  try simp only [Act.put, List.setIfInBounds_toArray, List.set_cons_zero, List.set_cons_succ]
  refine wpAnyH_done (by kernel_rfl) ?_ _
  go_wp2
  go_ret
  exact ⟨rfl, HB.out.trans (hHeld.mono HB.out.size)⟩
end Go.Proofs.Ytkoafkajmfodkaa
