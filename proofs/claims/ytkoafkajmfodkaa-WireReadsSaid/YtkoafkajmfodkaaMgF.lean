/- Texts that others rest on, one behind the other: DrA, DrN, DrD, DrO. -/
import Derived.Test.YtkoafkajmfodkaaMgE
import Derived.Test.YtkoafkajmfodkaaRwU
import Derived.Test.YtkoafkajmfodkaaRwF
section
namespace Go.Proofs.Ytkoafkajmfodkaa
open Go.RowKit

@[reducible] def eB (b : Bool) : Int := bif b then 1 else 0
/-- The document's reader. -/
def RdB (w : World) (q : Nat) (s : ByteArray) (a : Nat) (b : Bool) : Prop := CN w q [.string s, .int .i64 (a : Int), .bool b] ∧ TB w q 127
theorem RdB.below {w w' : World} {q : Nat} {s : ByteArray} {a : Nat} {b : Bool} (h : RdB w q s a b) (hb : Below w.heap.size w w') : RdB w' q s a b := ⟨h.1.below hb, h.2.below hb⟩
theorem RdB.drew {w : World} {q : Nat} {s : ByteArray} {a : Nat} {b : Bool} (h : RdB w q s a b) : RdB w.drew q s a b := h.below (Below.refl _ _).drew
theorem RdB.at {w : World} {q : Nat} {s : ByteArray} {a : Nat} {b : Bool} (h : RdB w q s a b) (c : Nat) : RdB (w.setCell ⟨q, 1, none⟩ (.int .i64 (c : Int))) q s c b := ⟨h.1.set 1 (by simp) _, h.2.set 1 _⟩
theorem RdB.bad {w : World} {q : Nat} {s : ByteArray} {a : Nat} {b : Bool} (h : RdB w q s a b) : RdB (w.setCell ⟨q, 2, none⟩ (.bool true)) q s a true := ⟨h.1.set 2 (by simp) _, h.2.set 2 _⟩
theorem RdB.cells {w : World} {q : Nat} {s : ByteArray} {a : Nat} {b : Bool} (h : RdB w q s a b) : w.cell? ⟨q, 0, none⟩ = some (.string s) ∧ w.cell? ⟨q, 1, none⟩ = some (.int .i64 (a : Int)) ∧ w.cell? ⟨q, 2, none⟩ = some (.bool b) ∧ w.frozen? ⟨q, 1, none⟩ = false ∧ w.frozen? ⟨q, 2, none⟩ = false := ⟨(h.1.2 0 _ rfl).1, (h.1.2 1 _ rfl).1, (h.1.2 2 _ rfl).1, (h.1.2 1 _ rfl).2, (h.1.2 2 _ rfl).2⟩
theorem Stp.bad {α : Type} {s : ByteArray} {p : Option (α × Nat)} {v : α} {a' : Nat} (ha : a' ≤ s.size) : Stp s p 1 v a' 1 := ⟨ha, fun h => h, fun h => absurd h (by decide)⟩
theorem Stp.lack {α : Type} {s : ByteArray} {p : Option (α × Nat)} {v : α} {a' : Nat} {e : Int} (h : e = 0 → p = none) (ha : a' ≤ s.size) : Stp s p e v a' 1 := ⟨ha, fun _ => by decide, fun h0 => ⟨fun y c hy => by (rw [h h0] at hy; cases hy), fun _ => by decide⟩⟩

set_option maxRecDepth 100000 in
set_option maxHeartbeats 4000000 in
theorem rnum_b (q : Nat) (s : ByteArray) (a wd : Nat) (b : Bool) (w : World) (h : RdB w q s a b) (ha : a ≤ s.size) (hs : s.size ≤ 20000) (hw : 1 ≤ wd ∧ wd ≤ 4) :
    Calls Try.prog 70 #[.pointer (some ⟨q, 0, none⟩), .int .i64 (wd : Int)] w fun en w' => ∃ v a' b', en = .returned (.int .i64 v) ∧ (0 ≤ v ∧ v < 256 ^ wd) ∧ RdB w' q s a' b' ∧ w.grownBy w' (some q) ∧ Stp s (numP s wd a) (eB b) v a' (eB b') := by
  have HR := Lib.hid h
  have HPW := Lib.hid (show (0 : Int) < 256 ^ wd from Int.pow_pos (by decide))
  clear h
  have HMN := Lib.hid (show min (a : Int) (s.size : Int) = (a : Int) by omega)
  by_cases g : a + wd ≤ s.size
  · have HP := Lib.hid (show numP s wd a = some (getTo s a wd, a + wd) from if_pos g)
    have HG := Lib.hid (fun wx => rget_yes s a wd wx hw.1 (by omega) g (by omega))
    have HLE := Lib.hid g
    have HA := Lib.hid ha
    have HBD := Lib.hid (getTo_bd s a wd)
    obtain ⟨G, hG⟩ : ∃ x, getTo s a wd = x := ⟨_, rfl⟩
    rw [hG] at HP HG HBD
    clear hG
    cases b with
    | false =>
      go_enter Try.func70, Try.ntmps70
      go_wp2_with fail
      refine wp_region_held_drew (S := (fun wx => RdB wx q s a false ∧ w.grownBy wx (some q))) (by kernel_rfl) (⟨HR.out.drew, grown_drew (World.grownBy.refl _ _)⟩) (fun hHeld => ?_)
      obtain ⟨wz, hwd⟩ : ∃ x, w.drew = x := ⟨_, rfl⟩
      rw [hwd] at hHeld ⊢
      clear hwd
      refine wpAnyH_take (i := 0) (oi := { dst := some 8, op := Go.Op.move (Go.Operand.tmp 0), type := 125, pos := "ref.go:192", after := #[], guard := none }) (v := ?v0_260101) rfl (by kernel_rfl) (by kernel_rfl) (by kernel_rfl) (fun _ _ _ h => h) (Or.inl ⟨by rfl, ?y0_260101⟩) hHeld ?r0_260101
      case y0_260101 => intro w hSw; (try dsimp only at hSw); go_simp; try with_reducible rfl
      try simp only [Act.put, List.setIfInBounds_toArray, List.set_cons_zero, List.set_cons_succ]
      refine wpAnyH_take (i := 1) (oi := { dst := some 9, op := Go.Op.nilCheck (Go.Operand.tmp 8), type := 0, pos := "ref.go:192", after := #[{ on := 0, ground := Go.Ground.data }], guard := none }) (v := ?v1_260101) rfl (by kernel_rfl) (by kernel_rfl) (by kernel_rfl) (fun _ _ _ h => h) (Or.inl ⟨by rfl, ?y1_260101⟩) hHeld ?r1_260101
      case y1_260101 => intro w hSw; (try dsimp only at hSw); go_simp; try with_reducible rfl
      try simp only [Act.put, List.setIfInBounds_toArray, List.set_cons_zero, List.set_cons_succ]
      refine wpAnyH_take (i := 2) (oi := { dst := some 10, op := Go.Op.fieldAddr 127 (Go.Operand.tmp 9) 0, type := 0, pos := "ref.go:192", after := #[{ on := 1, ground := Go.Ground.data }], guard := none }) (v := ?v2_260101) rfl (by kernel_rfl) (by kernel_rfl) (by kernel_rfl) (fun _ _ _ h => h) (Or.inl ⟨by rfl, ?y2_260101⟩) hHeld ?r2_260101
      case y2_260101 => intro w hSw; (try dsimp only at hSw); go_simp; try with_reducible rfl
      try simp only [Act.put, List.setIfInBounds_toArray, List.set_cons_zero, List.set_cons_succ]
      refine wpAnyH_take (i := 3) (oi := { dst := some 11, op := Go.Op.load 9 (Go.Operand.tmp 10), type := 9, pos := "ref.go:192", after := #[{ on := 2, ground := Go.Ground.data }], guard := none }) (v := ?v3_260101) rfl (by kernel_rfl) (by kernel_rfl) (by kernel_rfl) (fun _ _ _ h => h) (Or.inl ⟨by rfl, ?y3_260101⟩) hHeld ?r3_260101
      case y3_260101 => intro w hSw; (try dsimp only at hSw); obtain ⟨c0, c1, c2, f1, f2⟩ := hSw.1.cells; go_simp; try with_reducible rfl
      try simp only [Act.put, List.setIfInBounds_toArray, List.set_cons_zero, List.set_cons_succ]
      refine wpAnyH_take (i := 4) (oi := { dst := some 12, op := Go.Op.move (Go.Operand.tmp 0), type := 125, pos := "ref.go:192", after := #[], guard := none }) (v := ?v4_260101) rfl (by kernel_rfl) (by kernel_rfl) (by kernel_rfl) (fun _ _ _ h => h) (Or.inl ⟨by rfl, ?y4_260101⟩) hHeld ?r4_260101
      case y4_260101 => intro w hSw; (try dsimp only at hSw); go_simp; try with_reducible rfl
      try simp only [Act.put, List.setIfInBounds_toArray, List.set_cons_zero, List.set_cons_succ]
      refine wpAnyH_take (i := 5) (oi := { dst := some 13, op := Go.Op.nilCheck (Go.Operand.tmp 12), type := 0, pos := "ref.go:192", after := #[{ on := 4, ground := Go.Ground.data }], guard := none }) (v := ?v5_260101) rfl (by kernel_rfl) (by kernel_rfl) (by kernel_rfl) (fun _ _ _ h => h) (Or.inl ⟨by rfl, ?y5_260101⟩) hHeld ?r5_260101
      case y5_260101 => intro w hSw; (try dsimp only at hSw); go_simp; try with_reducible rfl
      try simp only [Act.put, List.setIfInBounds_toArray, List.set_cons_zero, List.set_cons_succ]
      refine wpAnyH_take (i := 6) (oi := { dst := some 14, op := Go.Op.fieldAddr 127 (Go.Operand.tmp 13) 1, type := 0, pos := "ref.go:192", after := #[{ on := 5, ground := Go.Ground.data }], guard := none }) (v := ?v6_260101) rfl (by kernel_rfl) (by kernel_rfl) (by kernel_rfl) (fun _ _ _ h => h) (Or.inl ⟨by rfl, ?y6_260101⟩) hHeld ?r6_260101
      case y6_260101 => intro w hSw; (try dsimp only at hSw); go_simp; try with_reducible rfl
      try simp only [Act.put, List.setIfInBounds_toArray, List.set_cons_zero, List.set_cons_succ]
      refine wpAnyH_take (i := 7) (oi := { dst := some 15, op := Go.Op.load 3 (Go.Operand.tmp 14), type := 3, pos := "ref.go:192", after := #[{ on := 6, ground := Go.Ground.data }], guard := none }) (v := ?v7_260101) rfl (by kernel_rfl) (by kernel_rfl) (by kernel_rfl) (fun _ _ _ h => h) (Or.inl ⟨by rfl, ?y7_260101⟩) hHeld ?r7_260101
      case y7_260101 => intro w hSw; (try dsimp only at hSw); obtain ⟨c0, c1, c2, f1, f2⟩ := hSw.1.cells; go_simp; try with_reducible rfl
      try simp only [Act.put, List.setIfInBounds_toArray, List.set_cons_zero, List.set_cons_succ]
      refine wpAnyH_take (i := 8) (oi := { dst := some 16, op := Go.Op.move (Go.Operand.tmp 0), type := 125, pos := "ref.go:192", after := #[], guard := none }) (v := ?v8_260101) rfl (by kernel_rfl) (by kernel_rfl) (by kernel_rfl) (fun _ _ _ h => h) (Or.inl ⟨by rfl, ?y8_260101⟩) hHeld ?r8_260101
      case y8_260101 => intro w hSw; (try dsimp only at hSw); go_simp; try with_reducible rfl
      try simp only [Act.put, List.setIfInBounds_toArray, List.set_cons_zero, List.set_cons_succ]
      refine wpAnyH_take (i := 9) (oi := { dst := some 17, op := Go.Op.nilCheck (Go.Operand.tmp 16), type := 0, pos := "ref.go:192", after := #[{ on := 8, ground := Go.Ground.data }], guard := none }) (v := ?v9_260101) rfl (by kernel_rfl) (by kernel_rfl) (by kernel_rfl) (fun _ _ _ h => h) (Or.inl ⟨by rfl, ?y9_260101⟩) hHeld ?r9_260101
      case y9_260101 => intro w hSw; (try dsimp only at hSw); go_simp; try with_reducible rfl
      try simp only [Act.put, List.setIfInBounds_toArray, List.set_cons_zero, List.set_cons_succ]
      refine wpAnyH_take (i := 10) (oi := { dst := some 18, op := Go.Op.fieldAddr 127 (Go.Operand.tmp 17) 0, type := 0, pos := "ref.go:192", after := #[{ on := 9, ground := Go.Ground.data }], guard := none }) (v := ?v10_260101) rfl (by kernel_rfl) (by kernel_rfl) (by kernel_rfl) (fun _ _ _ h => h) (Or.inl ⟨by rfl, ?y10_260101⟩) hHeld ?r10_260101
      case y10_260101 => intro w hSw; (try dsimp only at hSw); go_simp; try with_reducible rfl
      try simp only [Act.put, List.setIfInBounds_toArray, List.set_cons_zero, List.set_cons_succ]
      refine wpAnyH_take (i := 11) (oi := { dst := some 19, op := Go.Op.load 9 (Go.Operand.tmp 18), type := 9, pos := "ref.go:192", after := #[{ on := 10, ground := Go.Ground.data }], guard := none }) (v := ?v11_260101) rfl (by kernel_rfl) (by kernel_rfl) (by kernel_rfl) (fun _ _ _ h => h) (Or.inl ⟨by rfl, ?y11_260101⟩) hHeld ?r11_260101
      case y11_260101 => intro w hSw; (try dsimp only at hSw); obtain ⟨c0, c1, c2, f1, f2⟩ := hSw.1.cells; go_simp; try with_reducible rfl
      try simp only [Act.put, List.setIfInBounds_toArray, List.set_cons_zero, List.set_cons_succ]
      refine wpAnyH_take (i := 12) (oi := { dst := some 20, op := Go.Op.call { callee := Go.Callee.builtin Go.Builtin.len, args := #[Go.Operand.tmp 19], argTypes := #[9] }, type := 3, pos := "ref.go:192", after := #[{ on := 11, ground := Go.Ground.data }], guard := none }) (v := ?v12_260101) rfl (by kernel_rfl) (by kernel_rfl) (by kernel_rfl) (fun _ _ _ h => h) (Or.inl ⟨by rfl, ?y12_260101⟩) hHeld ?r12_260101
      case y12_260101 => intro w hSw; (try dsimp only at hSw); go_simp; try with_reducible rfl
      try simp only [Act.put, List.setIfInBounds_toArray, List.set_cons_zero, List.set_cons_succ]
      refine wpAnyH_take (i := 13) (oi := { dst := some 21, op := Go.Op.call { callee := Go.Callee.builtin Go.Builtin.min, args := #[Go.Operand.tmp 15, Go.Operand.tmp 20], argTypes := #[3, 3] }, type := 3, pos := "ref.go:192", after := #[{ on := 7, ground := Go.Ground.data }, { on := 12, ground := Go.Ground.data }], guard := none }) (v := ?v13_260101) rfl (by kernel_rfl) (by kernel_rfl) (by kernel_rfl) (fun _ _ _ h => h) (Or.inl ⟨by rfl, ?y13_260101⟩) hHeld ?r13_260101
      case y13_260101 => intro w hSw; (try dsimp only at hSw); go_simp; try with_reducible rfl
      try simp only [Act.put, List.setIfInBounds_toArray, List.set_cons_zero, List.set_cons_succ]
      refine wpAnyH_take (i := 14) (oi := { dst := some 22, op := Go.Op.move (Go.Operand.tmp 1), type := 3, pos := "ref.go:192", after := #[], guard := none }) (v := ?v14_260101) rfl (by kernel_rfl) (by kernel_rfl) (by kernel_rfl) (fun _ _ _ h => h) (Or.inl ⟨by rfl, ?y14_260101⟩) hHeld ?r14_260101
      case y14_260101 => intro w hSw; (try dsimp only at hSw); go_simp; try with_reducible rfl
      try simp only [Act.put, List.setIfInBounds_toArray, List.set_cons_zero, List.set_cons_succ]
      refine wpAnyH_ready (rs := [15]) (by kernel_rfl) (by simp) ?_
      refine AllReadyH.cons (o := { dst := some 23, op := Go.Op.call { callee := Go.Callee.value (Go.Operand.func 99), args := #[Go.Operand.tmp 11, Go.Operand.tmp 21, Go.Operand.tmp 22], argTypes := #[9, 3, 3] }, type := 40, pos := "ref.go:192", after := #[{ on := 3, ground := Go.Ground.data }, { on := 13, ground := Go.Ground.data }, { on := 14, ground := Go.Ground.data }], guard := none }) rfl (fun K hK => ?_) AllReadyH.nil
      go_simp
      rw [HMN.out]
      refine (HG.out _).mono ?_; rintro en w3 ⟨rfl, rfl⟩
      go_wp2_with fail
      refine hK.out _ _ (hHeld) (fun hHeld2 => ?_)
      clear hK K hHeld
      have hHeld := hHeld2
      clear hHeld2
      try simp only [Act.put, List.setIfInBounds_toArray, List.set_cons_zero, List.set_cons_succ]
      refine wpAnyH_take (i := 16) (oi := { dst := some 7, op := Go.Op.move (Go.Operand.tmp 23), type := 40, pos := "ref.go:192", after := #[{ on := 15, ground := Go.Ground.data }], guard := none }) (v := ?v16_260102) rfl (by kernel_rfl) (by kernel_rfl) (by kernel_rfl) (fun _ _ _ h => h) (Or.inl ⟨by rfl, ?y16_260102⟩) hHeld ?r16_260102
      case y16_260102 => intro w hSw; (try dsimp only at hSw); go_simp; try with_reducible rfl
      try simp only [Act.put, List.setIfInBounds_toArray, List.set_cons_zero, List.set_cons_succ]
      refine wpAnyH_take (i := 17) (oi := { dst := some 24, op := Go.Op.extract (Go.Operand.tmp 7) 0, type := 3, pos := "ref.go:192", after := #[{ on := 16, ground := Go.Ground.data }], guard := none }) (v := ?v17_260102) rfl (by kernel_rfl) (by kernel_rfl) (by kernel_rfl) (fun _ _ _ h => h) (Or.inl ⟨by rfl, ?y17_260102⟩) hHeld ?r17_260102
      case y17_260102 => intro w hSw; (try dsimp only at hSw); go_simp; try with_reducible rfl
      try simp only [Act.put, List.setIfInBounds_toArray, List.set_cons_zero, List.set_cons_succ]
      refine wpAnyH_take (i := 18) (oi := { dst := some 25, op := Go.Op.extract (Go.Operand.tmp 7) 1, type := 36, pos := "ref.go:192", after := #[{ on := 16, ground := Go.Ground.data }, { on := 19, ground := Go.Ground.gcOnly Go.Departure.lateStores }], guard := none }) (v := ?v18_260102) rfl (by kernel_rfl) (by kernel_rfl) (by kernel_rfl) (fun _ _ _ h => h) (Or.inl ⟨by rfl, ?y18_260102⟩) hHeld ?r18_260102
      case y18_260102 => intro w hSw; (try dsimp only at hSw); go_simp; try with_reducible rfl
      try simp only [Act.put, List.setIfInBounds_toArray, List.set_cons_zero, List.set_cons_succ]
      refine wpAnyH_take (i := 19) (oi := { dst := some 5, op := Go.Op.assign (Go.Operand.tmp 24), type := 3, pos := "ref.go:192", after := #[{ on := 17, ground := Go.Ground.data }, { on := 15, ground := Go.Ground.chain }, { on := 0, ground := Go.Ground.phase }, { on := 1, ground := Go.Ground.phase }, { on := 2, ground := Go.Ground.phase }, { on := 3, ground := Go.Ground.phase }, { on := 4, ground := Go.Ground.phase }, { on := 5, ground := Go.Ground.phase }, { on := 6, ground := Go.Ground.phase }, { on := 7, ground := Go.Ground.phase }, { on := 8, ground := Go.Ground.phase }, { on := 9, ground := Go.Ground.phase }, { on := 10, ground := Go.Ground.phase }, { on := 11, ground := Go.Ground.phase }, { on := 12, ground := Go.Ground.phase }, { on := 13, ground := Go.Ground.phase }, { on := 14, ground := Go.Ground.phase }, { on := 15, ground := Go.Ground.phase }, { on := 16, ground := Go.Ground.phase }, { on := 17, ground := Go.Ground.phase }, { on := 18, ground := Go.Ground.textOnly Go.Departure.lateStores }], guard := none }) (v := ?v19_260102) rfl (by kernel_rfl) (by kernel_rfl) (by kernel_rfl) (fun _ _ _ h => h) (Or.inl ⟨by rfl, ?y19_260102⟩) hHeld ?r19_260102
      case y19_260102 => intro w hSw; (try dsimp only at hSw); go_simp; try with_reducible rfl
      try simp only [Act.put, List.setIfInBounds_toArray, List.set_cons_zero, List.set_cons_succ]
      refine wpAnyH_take (i := 20) (oi := { dst := some 6, op := Go.Op.assign (Go.Operand.tmp 25), type := 36, pos := "ref.go:192", after := #[{ on := 18, ground := Go.Ground.data }, { on := 19, ground := Go.Ground.chain }, { on := 0, ground := Go.Ground.phase }, { on := 1, ground := Go.Ground.phase }, { on := 2, ground := Go.Ground.phase }, { on := 3, ground := Go.Ground.phase }, { on := 4, ground := Go.Ground.phase }, { on := 5, ground := Go.Ground.phase }, { on := 6, ground := Go.Ground.phase }, { on := 7, ground := Go.Ground.phase }, { on := 8, ground := Go.Ground.phase }, { on := 9, ground := Go.Ground.phase }, { on := 10, ground := Go.Ground.phase }, { on := 11, ground := Go.Ground.phase }, { on := 12, ground := Go.Ground.phase }, { on := 13, ground := Go.Ground.phase }, { on := 14, ground := Go.Ground.phase }, { on := 15, ground := Go.Ground.phase }, { on := 16, ground := Go.Ground.phase }, { on := 17, ground := Go.Ground.phase }, { on := 18, ground := Go.Ground.phase }, { on := 19, ground := Go.Ground.phase }], guard := none }) (v := ?v20_260102) rfl (by kernel_rfl) (by kernel_rfl) (by kernel_rfl) (fun _ _ _ h => h) (Or.inl ⟨by rfl, ?y20_260102⟩) hHeld ?r20_260102
      case y20_260102 => intro w hSw; (try dsimp only at hSw); go_simp; try with_reducible rfl
      try simp only [Act.put, List.setIfInBounds_toArray, List.set_cons_zero, List.set_cons_succ]
      refine wpAnyH_done (by kernel_rfl) ?_ _
      obtain ⟨c0, c1, c2, f1, f2⟩ := hHeld.1.cells
      go_wp2
      go_ret
      rw [show (a : Int) + (wd : Int) = ((a + wd : Nat) : Int) from (Int.natCast_add _ _).symm]
      exact ⟨G, a + wd, false, rfl, HBD.out, hHeld.1.at (a + wd), hHeld.2.trans (grown_cell _ _ _ _), Stp.yes HP.out HLE.out⟩
    | true =>
      go_enter Try.func70, Try.ntmps70
      go_wp2_with fail
      refine wp_region_held_drew (S := (fun wx => RdB wx q s a true ∧ w.grownBy wx (some q))) (by kernel_rfl) (⟨HR.out.drew, grown_drew (World.grownBy.refl _ _)⟩) (fun hHeld => ?_)
      obtain ⟨wz, hwd⟩ : ∃ x, w.drew = x := ⟨_, rfl⟩
      rw [hwd] at hHeld ⊢
      clear hwd
      refine wpAnyH_take (i := 0) (oi := { dst := some 8, op := Go.Op.move (Go.Operand.tmp 0), type := 125, pos := "ref.go:192", after := #[], guard := none }) (v := ?v0_261101) rfl (by kernel_rfl) (by kernel_rfl) (by kernel_rfl) (fun _ _ _ h => h) (Or.inl ⟨by rfl, ?y0_261101⟩) hHeld ?r0_261101
      case y0_261101 => intro w hSw; (try dsimp only at hSw); go_simp; try with_reducible rfl
      try simp only [Act.put, List.setIfInBounds_toArray, List.set_cons_zero, List.set_cons_succ]
      refine wpAnyH_take (i := 1) (oi := { dst := some 9, op := Go.Op.nilCheck (Go.Operand.tmp 8), type := 0, pos := "ref.go:192", after := #[{ on := 0, ground := Go.Ground.data }], guard := none }) (v := ?v1_261101) rfl (by kernel_rfl) (by kernel_rfl) (by kernel_rfl) (fun _ _ _ h => h) (Or.inl ⟨by rfl, ?y1_261101⟩) hHeld ?r1_261101
      case y1_261101 => intro w hSw; (try dsimp only at hSw); go_simp; try with_reducible rfl
      try simp only [Act.put, List.setIfInBounds_toArray, List.set_cons_zero, List.set_cons_succ]
      refine wpAnyH_take (i := 2) (oi := { dst := some 10, op := Go.Op.fieldAddr 127 (Go.Operand.tmp 9) 0, type := 0, pos := "ref.go:192", after := #[{ on := 1, ground := Go.Ground.data }], guard := none }) (v := ?v2_261101) rfl (by kernel_rfl) (by kernel_rfl) (by kernel_rfl) (fun _ _ _ h => h) (Or.inl ⟨by rfl, ?y2_261101⟩) hHeld ?r2_261101
      case y2_261101 => intro w hSw; (try dsimp only at hSw); go_simp; try with_reducible rfl
      try simp only [Act.put, List.setIfInBounds_toArray, List.set_cons_zero, List.set_cons_succ]
      refine wpAnyH_take (i := 3) (oi := { dst := some 11, op := Go.Op.load 9 (Go.Operand.tmp 10), type := 9, pos := "ref.go:192", after := #[{ on := 2, ground := Go.Ground.data }], guard := none }) (v := ?v3_261101) rfl (by kernel_rfl) (by kernel_rfl) (by kernel_rfl) (fun _ _ _ h => h) (Or.inl ⟨by rfl, ?y3_261101⟩) hHeld ?r3_261101
      case y3_261101 => intro w hSw; (try dsimp only at hSw); obtain ⟨c0, c1, c2, f1, f2⟩ := hSw.1.cells; go_simp; try with_reducible rfl
      try simp only [Act.put, List.setIfInBounds_toArray, List.set_cons_zero, List.set_cons_succ]
      refine wpAnyH_take (i := 4) (oi := { dst := some 12, op := Go.Op.move (Go.Operand.tmp 0), type := 125, pos := "ref.go:192", after := #[], guard := none }) (v := ?v4_261101) rfl (by kernel_rfl) (by kernel_rfl) (by kernel_rfl) (fun _ _ _ h => h) (Or.inl ⟨by rfl, ?y4_261101⟩) hHeld ?r4_261101
      case y4_261101 => intro w hSw; (try dsimp only at hSw); go_simp; try with_reducible rfl
      try simp only [Act.put, List.setIfInBounds_toArray, List.set_cons_zero, List.set_cons_succ]
      refine wpAnyH_take (i := 5) (oi := { dst := some 13, op := Go.Op.nilCheck (Go.Operand.tmp 12), type := 0, pos := "ref.go:192", after := #[{ on := 4, ground := Go.Ground.data }], guard := none }) (v := ?v5_261101) rfl (by kernel_rfl) (by kernel_rfl) (by kernel_rfl) (fun _ _ _ h => h) (Or.inl ⟨by rfl, ?y5_261101⟩) hHeld ?r5_261101
      case y5_261101 => intro w hSw; (try dsimp only at hSw); go_simp; try with_reducible rfl
      try simp only [Act.put, List.setIfInBounds_toArray, List.set_cons_zero, List.set_cons_succ]
      refine wpAnyH_take (i := 6) (oi := { dst := some 14, op := Go.Op.fieldAddr 127 (Go.Operand.tmp 13) 1, type := 0, pos := "ref.go:192", after := #[{ on := 5, ground := Go.Ground.data }], guard := none }) (v := ?v6_261101) rfl (by kernel_rfl) (by kernel_rfl) (by kernel_rfl) (fun _ _ _ h => h) (Or.inl ⟨by rfl, ?y6_261101⟩) hHeld ?r6_261101
      case y6_261101 => intro w hSw; (try dsimp only at hSw); go_simp; try with_reducible rfl
      try simp only [Act.put, List.setIfInBounds_toArray, List.set_cons_zero, List.set_cons_succ]
      refine wpAnyH_take (i := 7) (oi := { dst := some 15, op := Go.Op.load 3 (Go.Operand.tmp 14), type := 3, pos := "ref.go:192", after := #[{ on := 6, ground := Go.Ground.data }], guard := none }) (v := ?v7_261101) rfl (by kernel_rfl) (by kernel_rfl) (by kernel_rfl) (fun _ _ _ h => h) (Or.inl ⟨by rfl, ?y7_261101⟩) hHeld ?r7_261101
      case y7_261101 => intro w hSw; (try dsimp only at hSw); obtain ⟨c0, c1, c2, f1, f2⟩ := hSw.1.cells; go_simp; try with_reducible rfl
      try simp only [Act.put, List.setIfInBounds_toArray, List.set_cons_zero, List.set_cons_succ]
      refine wpAnyH_take (i := 8) (oi := { dst := some 16, op := Go.Op.move (Go.Operand.tmp 0), type := 125, pos := "ref.go:192", after := #[], guard := none }) (v := ?v8_261101) rfl (by kernel_rfl) (by kernel_rfl) (by kernel_rfl) (fun _ _ _ h => h) (Or.inl ⟨by rfl, ?y8_261101⟩) hHeld ?r8_261101
      case y8_261101 => intro w hSw; (try dsimp only at hSw); go_simp; try with_reducible rfl
      try simp only [Act.put, List.setIfInBounds_toArray, List.set_cons_zero, List.set_cons_succ]
      refine wpAnyH_take (i := 9) (oi := { dst := some 17, op := Go.Op.nilCheck (Go.Operand.tmp 16), type := 0, pos := "ref.go:192", after := #[{ on := 8, ground := Go.Ground.data }], guard := none }) (v := ?v9_261101) rfl (by kernel_rfl) (by kernel_rfl) (by kernel_rfl) (fun _ _ _ h => h) (Or.inl ⟨by rfl, ?y9_261101⟩) hHeld ?r9_261101
      case y9_261101 => intro w hSw; (try dsimp only at hSw); go_simp; try with_reducible rfl
      try simp only [Act.put, List.setIfInBounds_toArray, List.set_cons_zero, List.set_cons_succ]
      refine wpAnyH_take (i := 10) (oi := { dst := some 18, op := Go.Op.fieldAddr 127 (Go.Operand.tmp 17) 0, type := 0, pos := "ref.go:192", after := #[{ on := 9, ground := Go.Ground.data }], guard := none }) (v := ?v10_261101) rfl (by kernel_rfl) (by kernel_rfl) (by kernel_rfl) (fun _ _ _ h => h) (Or.inl ⟨by rfl, ?y10_261101⟩) hHeld ?r10_261101
      case y10_261101 => intro w hSw; (try dsimp only at hSw); go_simp; try with_reducible rfl
      try simp only [Act.put, List.setIfInBounds_toArray, List.set_cons_zero, List.set_cons_succ]
      refine wpAnyH_take (i := 11) (oi := { dst := some 19, op := Go.Op.load 9 (Go.Operand.tmp 18), type := 9, pos := "ref.go:192", after := #[{ on := 10, ground := Go.Ground.data }], guard := none }) (v := ?v11_261101) rfl (by kernel_rfl) (by kernel_rfl) (by kernel_rfl) (fun _ _ _ h => h) (Or.inl ⟨by rfl, ?y11_261101⟩) hHeld ?r11_261101
      case y11_261101 => intro w hSw; (try dsimp only at hSw); obtain ⟨c0, c1, c2, f1, f2⟩ := hSw.1.cells; go_simp; try with_reducible rfl
      try simp only [Act.put, List.setIfInBounds_toArray, List.set_cons_zero, List.set_cons_succ]
      refine wpAnyH_take (i := 12) (oi := { dst := some 20, op := Go.Op.call { callee := Go.Callee.builtin Go.Builtin.len, args := #[Go.Operand.tmp 19], argTypes := #[9] }, type := 3, pos := "ref.go:192", after := #[{ on := 11, ground := Go.Ground.data }], guard := none }) (v := ?v12_261101) rfl (by kernel_rfl) (by kernel_rfl) (by kernel_rfl) (fun _ _ _ h => h) (Or.inl ⟨by rfl, ?y12_261101⟩) hHeld ?r12_261101
      case y12_261101 => intro w hSw; (try dsimp only at hSw); go_simp; try with_reducible rfl
      try simp only [Act.put, List.setIfInBounds_toArray, List.set_cons_zero, List.set_cons_succ]
      refine wpAnyH_take (i := 13) (oi := { dst := some 21, op := Go.Op.call { callee := Go.Callee.builtin Go.Builtin.min, args := #[Go.Operand.tmp 15, Go.Operand.tmp 20], argTypes := #[3, 3] }, type := 3, pos := "ref.go:192", after := #[{ on := 7, ground := Go.Ground.data }, { on := 12, ground := Go.Ground.data }], guard := none }) (v := ?v13_261101) rfl (by kernel_rfl) (by kernel_rfl) (by kernel_rfl) (fun _ _ _ h => h) (Or.inl ⟨by rfl, ?y13_261101⟩) hHeld ?r13_261101
      case y13_261101 => intro w hSw; (try dsimp only at hSw); go_simp; try with_reducible rfl
      try simp only [Act.put, List.setIfInBounds_toArray, List.set_cons_zero, List.set_cons_succ]
      refine wpAnyH_take (i := 14) (oi := { dst := some 22, op := Go.Op.move (Go.Operand.tmp 1), type := 3, pos := "ref.go:192", after := #[], guard := none }) (v := ?v14_261101) rfl (by kernel_rfl) (by kernel_rfl) (by kernel_rfl) (fun _ _ _ h => h) (Or.inl ⟨by rfl, ?y14_261101⟩) hHeld ?r14_261101
      case y14_261101 => intro w hSw; (try dsimp only at hSw); go_simp; try with_reducible rfl
      try simp only [Act.put, List.setIfInBounds_toArray, List.set_cons_zero, List.set_cons_succ]
      refine wpAnyH_ready (rs := [15]) (by kernel_rfl) (by simp) ?_
      refine AllReadyH.cons (o := { dst := some 23, op := Go.Op.call { callee := Go.Callee.value (Go.Operand.func 99), args := #[Go.Operand.tmp 11, Go.Operand.tmp 21, Go.Operand.tmp 22], argTypes := #[9, 3, 3] }, type := 40, pos := "ref.go:192", after := #[{ on := 3, ground := Go.Ground.data }, { on := 13, ground := Go.Ground.data }, { on := 14, ground := Go.Ground.data }], guard := none }) rfl (fun K hK => ?_) AllReadyH.nil
      go_simp
      rw [HMN.out]
      refine (HG.out _).mono ?_; rintro en w3 ⟨rfl, rfl⟩
      go_wp2_with fail
      refine hK.out _ _ (hHeld) (fun hHeld2 => ?_)
      clear hK K hHeld
      have hHeld := hHeld2
      clear hHeld2
      try simp only [Act.put, List.setIfInBounds_toArray, List.set_cons_zero, List.set_cons_succ]
      refine wpAnyH_take (i := 16) (oi := { dst := some 7, op := Go.Op.move (Go.Operand.tmp 23), type := 40, pos := "ref.go:192", after := #[{ on := 15, ground := Go.Ground.data }], guard := none }) (v := ?v16_261102) rfl (by kernel_rfl) (by kernel_rfl) (by kernel_rfl) (fun _ _ _ h => h) (Or.inl ⟨by rfl, ?y16_261102⟩) hHeld ?r16_261102
      case y16_261102 => intro w hSw; (try dsimp only at hSw); go_simp; try with_reducible rfl
      try simp only [Act.put, List.setIfInBounds_toArray, List.set_cons_zero, List.set_cons_succ]
      refine wpAnyH_take (i := 17) (oi := { dst := some 24, op := Go.Op.extract (Go.Operand.tmp 7) 0, type := 3, pos := "ref.go:192", after := #[{ on := 16, ground := Go.Ground.data }], guard := none }) (v := ?v17_261102) rfl (by kernel_rfl) (by kernel_rfl) (by kernel_rfl) (fun _ _ _ h => h) (Or.inl ⟨by rfl, ?y17_261102⟩) hHeld ?r17_261102
      case y17_261102 => intro w hSw; (try dsimp only at hSw); go_simp; try with_reducible rfl
      try simp only [Act.put, List.setIfInBounds_toArray, List.set_cons_zero, List.set_cons_succ]
      refine wpAnyH_take (i := 18) (oi := { dst := some 25, op := Go.Op.extract (Go.Operand.tmp 7) 1, type := 36, pos := "ref.go:192", after := #[{ on := 16, ground := Go.Ground.data }, { on := 19, ground := Go.Ground.gcOnly Go.Departure.lateStores }], guard := none }) (v := ?v18_261102) rfl (by kernel_rfl) (by kernel_rfl) (by kernel_rfl) (fun _ _ _ h => h) (Or.inl ⟨by rfl, ?y18_261102⟩) hHeld ?r18_261102
      case y18_261102 => intro w hSw; (try dsimp only at hSw); go_simp; try with_reducible rfl
      try simp only [Act.put, List.setIfInBounds_toArray, List.set_cons_zero, List.set_cons_succ]
      refine wpAnyH_take (i := 19) (oi := { dst := some 5, op := Go.Op.assign (Go.Operand.tmp 24), type := 3, pos := "ref.go:192", after := #[{ on := 17, ground := Go.Ground.data }, { on := 15, ground := Go.Ground.chain }, { on := 0, ground := Go.Ground.phase }, { on := 1, ground := Go.Ground.phase }, { on := 2, ground := Go.Ground.phase }, { on := 3, ground := Go.Ground.phase }, { on := 4, ground := Go.Ground.phase }, { on := 5, ground := Go.Ground.phase }, { on := 6, ground := Go.Ground.phase }, { on := 7, ground := Go.Ground.phase }, { on := 8, ground := Go.Ground.phase }, { on := 9, ground := Go.Ground.phase }, { on := 10, ground := Go.Ground.phase }, { on := 11, ground := Go.Ground.phase }, { on := 12, ground := Go.Ground.phase }, { on := 13, ground := Go.Ground.phase }, { on := 14, ground := Go.Ground.phase }, { on := 15, ground := Go.Ground.phase }, { on := 16, ground := Go.Ground.phase }, { on := 17, ground := Go.Ground.phase }, { on := 18, ground := Go.Ground.textOnly Go.Departure.lateStores }], guard := none }) (v := ?v19_261102) rfl (by kernel_rfl) (by kernel_rfl) (by kernel_rfl) (fun _ _ _ h => h) (Or.inl ⟨by rfl, ?y19_261102⟩) hHeld ?r19_261102
      case y19_261102 => intro w hSw; (try dsimp only at hSw); go_simp; try with_reducible rfl
      try simp only [Act.put, List.setIfInBounds_toArray, List.set_cons_zero, List.set_cons_succ]
      refine wpAnyH_take (i := 20) (oi := { dst := some 6, op := Go.Op.assign (Go.Operand.tmp 25), type := 36, pos := "ref.go:192", after := #[{ on := 18, ground := Go.Ground.data }, { on := 19, ground := Go.Ground.chain }, { on := 0, ground := Go.Ground.phase }, { on := 1, ground := Go.Ground.phase }, { on := 2, ground := Go.Ground.phase }, { on := 3, ground := Go.Ground.phase }, { on := 4, ground := Go.Ground.phase }, { on := 5, ground := Go.Ground.phase }, { on := 6, ground := Go.Ground.phase }, { on := 7, ground := Go.Ground.phase }, { on := 8, ground := Go.Ground.phase }, { on := 9, ground := Go.Ground.phase }, { on := 10, ground := Go.Ground.phase }, { on := 11, ground := Go.Ground.phase }, { on := 12, ground := Go.Ground.phase }, { on := 13, ground := Go.Ground.phase }, { on := 14, ground := Go.Ground.phase }, { on := 15, ground := Go.Ground.phase }, { on := 16, ground := Go.Ground.phase }, { on := 17, ground := Go.Ground.phase }, { on := 18, ground := Go.Ground.phase }, { on := 19, ground := Go.Ground.phase }], guard := none }) (v := ?v20_261102) rfl (by kernel_rfl) (by kernel_rfl) (by kernel_rfl) (fun _ _ _ h => h) (Or.inl ⟨by rfl, ?y20_261102⟩) hHeld ?r20_261102
      case y20_261102 => intro w hSw; (try dsimp only at hSw); go_simp; try with_reducible rfl
      try simp only [Act.put, List.setIfInBounds_toArray, List.set_cons_zero, List.set_cons_succ]
      refine wpAnyH_done (by kernel_rfl) ?_ _
      obtain ⟨c0, c1, c2, f1, f2⟩ := hHeld.1.cells
      go_wp2
      go_ret
      exact ⟨0, a, true, rfl, ⟨by decide, HPW.out⟩, hHeld.1.bad, hHeld.2.trans (grown_cell _ _ _ _), Stp.bad HA.out⟩
  · have HP := Lib.hid (show numP s wd a = none from if_neg g)
    have HG := Lib.hid (fun wx => rget_any s (a : Int) (wd : Int) wx (by omega))
    rw [show getE s (a : Int) (wd : Int) = 2 by simp only [getE]; rw [if_pos ⟨by omega, by omega, by omega, by omega⟩, if_neg (by omega)]] at HG
    obtain ⟨G, hG⟩ : ∃ x, getN s (a : Int) (wd : Int) = x := ⟨_, rfl⟩
    rw [hG] at HG
    have HA := Lib.hid ha
    clear hG g
    have hk : b = true ∨ b = false := by cases b; exact Or.inr rfl; exact Or.inl rfl
    go_enter Try.func70, Try.ntmps70
    go_wp2_with fail
    refine wp_region_held_drew (S := (fun wx => RdB wx q s a b ∧ w.grownBy wx (some q))) (by kernel_rfl) (⟨HR.out.drew, grown_drew (World.grownBy.refl _ _)⟩) (fun hHeld => ?_)
    obtain ⟨wz, hwd⟩ : ∃ x, w.drew = x := ⟨_, rfl⟩
    rw [hwd] at hHeld ⊢
    clear hwd
    refine wpAnyH_take (i := 0) (oi := { dst := some 8, op := Go.Op.move (Go.Operand.tmp 0), type := 125, pos := "ref.go:192", after := #[], guard := none }) (v := ?v0_262101) rfl (by kernel_rfl) (by kernel_rfl) (by kernel_rfl) (fun _ _ _ h => h) (Or.inl ⟨by rfl, ?y0_262101⟩) hHeld ?r0_262101
    case y0_262101 => intro w hSw; (try dsimp only at hSw); go_simp; try with_reducible rfl
    try simp only [Act.put, List.setIfInBounds_toArray, List.set_cons_zero, List.set_cons_succ]
    refine wpAnyH_take (i := 1) (oi := { dst := some 9, op := Go.Op.nilCheck (Go.Operand.tmp 8), type := 0, pos := "ref.go:192", after := #[{ on := 0, ground := Go.Ground.data }], guard := none }) (v := ?v1_262101) rfl (by kernel_rfl) (by kernel_rfl) (by kernel_rfl) (fun _ _ _ h => h) (Or.inl ⟨by rfl, ?y1_262101⟩) hHeld ?r1_262101
    case y1_262101 => intro w hSw; (try dsimp only at hSw); go_simp; try with_reducible rfl
    try simp only [Act.put, List.setIfInBounds_toArray, List.set_cons_zero, List.set_cons_succ]
    refine wpAnyH_take (i := 2) (oi := { dst := some 10, op := Go.Op.fieldAddr 127 (Go.Operand.tmp 9) 0, type := 0, pos := "ref.go:192", after := #[{ on := 1, ground := Go.Ground.data }], guard := none }) (v := ?v2_262101) rfl (by kernel_rfl) (by kernel_rfl) (by kernel_rfl) (fun _ _ _ h => h) (Or.inl ⟨by rfl, ?y2_262101⟩) hHeld ?r2_262101
    case y2_262101 => intro w hSw; (try dsimp only at hSw); go_simp; try with_reducible rfl
    try simp only [Act.put, List.setIfInBounds_toArray, List.set_cons_zero, List.set_cons_succ]
    refine wpAnyH_take (i := 3) (oi := { dst := some 11, op := Go.Op.load 9 (Go.Operand.tmp 10), type := 9, pos := "ref.go:192", after := #[{ on := 2, ground := Go.Ground.data }], guard := none }) (v := ?v3_262101) rfl (by kernel_rfl) (by kernel_rfl) (by kernel_rfl) (fun _ _ _ h => h) (Or.inl ⟨by rfl, ?y3_262101⟩) hHeld ?r3_262101
    case y3_262101 => intro w hSw; (try dsimp only at hSw); obtain ⟨c0, c1, c2, f1, f2⟩ := hSw.1.cells; go_simp; try with_reducible rfl
    try simp only [Act.put, List.setIfInBounds_toArray, List.set_cons_zero, List.set_cons_succ]
    refine wpAnyH_take (i := 4) (oi := { dst := some 12, op := Go.Op.move (Go.Operand.tmp 0), type := 125, pos := "ref.go:192", after := #[], guard := none }) (v := ?v4_262101) rfl (by kernel_rfl) (by kernel_rfl) (by kernel_rfl) (fun _ _ _ h => h) (Or.inl ⟨by rfl, ?y4_262101⟩) hHeld ?r4_262101
    case y4_262101 => intro w hSw; (try dsimp only at hSw); go_simp; try with_reducible rfl
    try simp only [Act.put, List.setIfInBounds_toArray, List.set_cons_zero, List.set_cons_succ]
    refine wpAnyH_take (i := 5) (oi := { dst := some 13, op := Go.Op.nilCheck (Go.Operand.tmp 12), type := 0, pos := "ref.go:192", after := #[{ on := 4, ground := Go.Ground.data }], guard := none }) (v := ?v5_262101) rfl (by kernel_rfl) (by kernel_rfl) (by kernel_rfl) (fun _ _ _ h => h) (Or.inl ⟨by rfl, ?y5_262101⟩) hHeld ?r5_262101
    case y5_262101 => intro w hSw; (try dsimp only at hSw); go_simp; try with_reducible rfl
    try simp only [Act.put, List.setIfInBounds_toArray, List.set_cons_zero, List.set_cons_succ]
    refine wpAnyH_take (i := 6) (oi := { dst := some 14, op := Go.Op.fieldAddr 127 (Go.Operand.tmp 13) 1, type := 0, pos := "ref.go:192", after := #[{ on := 5, ground := Go.Ground.data }], guard := none }) (v := ?v6_262101) rfl (by kernel_rfl) (by kernel_rfl) (by kernel_rfl) (fun _ _ _ h => h) (Or.inl ⟨by rfl, ?y6_262101⟩) hHeld ?r6_262101
    case y6_262101 => intro w hSw; (try dsimp only at hSw); go_simp; try with_reducible rfl
    try simp only [Act.put, List.setIfInBounds_toArray, List.set_cons_zero, List.set_cons_succ]
    refine wpAnyH_take (i := 7) (oi := { dst := some 15, op := Go.Op.load 3 (Go.Operand.tmp 14), type := 3, pos := "ref.go:192", after := #[{ on := 6, ground := Go.Ground.data }], guard := none }) (v := ?v7_262101) rfl (by kernel_rfl) (by kernel_rfl) (by kernel_rfl) (fun _ _ _ h => h) (Or.inl ⟨by rfl, ?y7_262101⟩) hHeld ?r7_262101
    case y7_262101 => intro w hSw; (try dsimp only at hSw); obtain ⟨c0, c1, c2, f1, f2⟩ := hSw.1.cells; go_simp; try with_reducible rfl
    try simp only [Act.put, List.setIfInBounds_toArray, List.set_cons_zero, List.set_cons_succ]
    refine wpAnyH_take (i := 8) (oi := { dst := some 16, op := Go.Op.move (Go.Operand.tmp 0), type := 125, pos := "ref.go:192", after := #[], guard := none }) (v := ?v8_262101) rfl (by kernel_rfl) (by kernel_rfl) (by kernel_rfl) (fun _ _ _ h => h) (Or.inl ⟨by rfl, ?y8_262101⟩) hHeld ?r8_262101
    case y8_262101 => intro w hSw; (try dsimp only at hSw); go_simp; try with_reducible rfl
    try simp only [Act.put, List.setIfInBounds_toArray, List.set_cons_zero, List.set_cons_succ]
    refine wpAnyH_take (i := 9) (oi := { dst := some 17, op := Go.Op.nilCheck (Go.Operand.tmp 16), type := 0, pos := "ref.go:192", after := #[{ on := 8, ground := Go.Ground.data }], guard := none }) (v := ?v9_262101) rfl (by kernel_rfl) (by kernel_rfl) (by kernel_rfl) (fun _ _ _ h => h) (Or.inl ⟨by rfl, ?y9_262101⟩) hHeld ?r9_262101
    case y9_262101 => intro w hSw; (try dsimp only at hSw); go_simp; try with_reducible rfl
    try simp only [Act.put, List.setIfInBounds_toArray, List.set_cons_zero, List.set_cons_succ]
    refine wpAnyH_take (i := 10) (oi := { dst := some 18, op := Go.Op.fieldAddr 127 (Go.Operand.tmp 17) 0, type := 0, pos := "ref.go:192", after := #[{ on := 9, ground := Go.Ground.data }], guard := none }) (v := ?v10_262101) rfl (by kernel_rfl) (by kernel_rfl) (by kernel_rfl) (fun _ _ _ h => h) (Or.inl ⟨by rfl, ?y10_262101⟩) hHeld ?r10_262101
    case y10_262101 => intro w hSw; (try dsimp only at hSw); go_simp; try with_reducible rfl
    try simp only [Act.put, List.setIfInBounds_toArray, List.set_cons_zero, List.set_cons_succ]
    refine wpAnyH_take (i := 11) (oi := { dst := some 19, op := Go.Op.load 9 (Go.Operand.tmp 18), type := 9, pos := "ref.go:192", after := #[{ on := 10, ground := Go.Ground.data }], guard := none }) (v := ?v11_262101) rfl (by kernel_rfl) (by kernel_rfl) (by kernel_rfl) (fun _ _ _ h => h) (Or.inl ⟨by rfl, ?y11_262101⟩) hHeld ?r11_262101
    case y11_262101 => intro w hSw; (try dsimp only at hSw); obtain ⟨c0, c1, c2, f1, f2⟩ := hSw.1.cells; go_simp; try with_reducible rfl
    try simp only [Act.put, List.setIfInBounds_toArray, List.set_cons_zero, List.set_cons_succ]
    refine wpAnyH_take (i := 12) (oi := { dst := some 20, op := Go.Op.call { callee := Go.Callee.builtin Go.Builtin.len, args := #[Go.Operand.tmp 19], argTypes := #[9] }, type := 3, pos := "ref.go:192", after := #[{ on := 11, ground := Go.Ground.data }], guard := none }) (v := ?v12_262101) rfl (by kernel_rfl) (by kernel_rfl) (by kernel_rfl) (fun _ _ _ h => h) (Or.inl ⟨by rfl, ?y12_262101⟩) hHeld ?r12_262101
    case y12_262101 => intro w hSw; (try dsimp only at hSw); go_simp; try with_reducible rfl
    try simp only [Act.put, List.setIfInBounds_toArray, List.set_cons_zero, List.set_cons_succ]
    refine wpAnyH_take (i := 13) (oi := { dst := some 21, op := Go.Op.call { callee := Go.Callee.builtin Go.Builtin.min, args := #[Go.Operand.tmp 15, Go.Operand.tmp 20], argTypes := #[3, 3] }, type := 3, pos := "ref.go:192", after := #[{ on := 7, ground := Go.Ground.data }, { on := 12, ground := Go.Ground.data }], guard := none }) (v := ?v13_262101) rfl (by kernel_rfl) (by kernel_rfl) (by kernel_rfl) (fun _ _ _ h => h) (Or.inl ⟨by rfl, ?y13_262101⟩) hHeld ?r13_262101
    case y13_262101 => intro w hSw; (try dsimp only at hSw); go_simp; try with_reducible rfl
    try simp only [Act.put, List.setIfInBounds_toArray, List.set_cons_zero, List.set_cons_succ]
    refine wpAnyH_take (i := 14) (oi := { dst := some 22, op := Go.Op.move (Go.Operand.tmp 1), type := 3, pos := "ref.go:192", after := #[], guard := none }) (v := ?v14_262101) rfl (by kernel_rfl) (by kernel_rfl) (by kernel_rfl) (fun _ _ _ h => h) (Or.inl ⟨by rfl, ?y14_262101⟩) hHeld ?r14_262101
    case y14_262101 => intro w hSw; (try dsimp only at hSw); go_simp; try with_reducible rfl
    try simp only [Act.put, List.setIfInBounds_toArray, List.set_cons_zero, List.set_cons_succ]
    refine wpAnyH_ready (rs := [15]) (by kernel_rfl) (by simp) ?_
    refine AllReadyH.cons (o := { dst := some 23, op := Go.Op.call { callee := Go.Callee.value (Go.Operand.func 99), args := #[Go.Operand.tmp 11, Go.Operand.tmp 21, Go.Operand.tmp 22], argTypes := #[9, 3, 3] }, type := 40, pos := "ref.go:192", after := #[{ on := 3, ground := Go.Ground.data }, { on := 13, ground := Go.Ground.data }, { on := 14, ground := Go.Ground.data }], guard := none }) rfl (fun K hK => ?_) AllReadyH.nil
    go_simp
    rw [HMN.out]
    refine (HG.out _).mono ?_; rintro en w3 ⟨rfl, rfl⟩
    go_wp2_with fail
    refine hK.out _ _ (hHeld) (fun hHeld2 => ?_)
    clear hK K hHeld
    have hHeld := hHeld2
    clear hHeld2
    try simp only [Act.put, List.setIfInBounds_toArray, List.set_cons_zero, List.set_cons_succ]
    refine wpAnyH_take (i := 16) (oi := { dst := some 7, op := Go.Op.move (Go.Operand.tmp 23), type := 40, pos := "ref.go:192", after := #[{ on := 15, ground := Go.Ground.data }], guard := none }) (v := ?v16_262102) rfl (by kernel_rfl) (by kernel_rfl) (by kernel_rfl) (fun _ _ _ h => h) (Or.inl ⟨by rfl, ?y16_262102⟩) hHeld ?r16_262102
    case y16_262102 => intro w hSw; (try dsimp only at hSw); go_simp; try with_reducible rfl
    try simp only [Act.put, List.setIfInBounds_toArray, List.set_cons_zero, List.set_cons_succ]
    refine wpAnyH_take (i := 17) (oi := { dst := some 24, op := Go.Op.extract (Go.Operand.tmp 7) 0, type := 3, pos := "ref.go:192", after := #[{ on := 16, ground := Go.Ground.data }], guard := none }) (v := ?v17_262102) rfl (by kernel_rfl) (by kernel_rfl) (by kernel_rfl) (fun _ _ _ h => h) (Or.inl ⟨by rfl, ?y17_262102⟩) hHeld ?r17_262102
    case y17_262102 => intro w hSw; (try dsimp only at hSw); go_simp; try with_reducible rfl
    try simp only [Act.put, List.setIfInBounds_toArray, List.set_cons_zero, List.set_cons_succ]
    refine wpAnyH_take (i := 18) (oi := { dst := some 25, op := Go.Op.extract (Go.Operand.tmp 7) 1, type := 36, pos := "ref.go:192", after := #[{ on := 16, ground := Go.Ground.data }, { on := 19, ground := Go.Ground.gcOnly Go.Departure.lateStores }], guard := none }) (v := ?v18_262102) rfl (by kernel_rfl) (by kernel_rfl) (by kernel_rfl) (fun _ _ _ h => h) (Or.inl ⟨by rfl, ?y18_262102⟩) hHeld ?r18_262102
    case y18_262102 => intro w hSw; (try dsimp only at hSw); go_simp; try with_reducible rfl
    try simp only [Act.put, List.setIfInBounds_toArray, List.set_cons_zero, List.set_cons_succ]
    refine wpAnyH_take (i := 19) (oi := { dst := some 5, op := Go.Op.assign (Go.Operand.tmp 24), type := 3, pos := "ref.go:192", after := #[{ on := 17, ground := Go.Ground.data }, { on := 15, ground := Go.Ground.chain }, { on := 0, ground := Go.Ground.phase }, { on := 1, ground := Go.Ground.phase }, { on := 2, ground := Go.Ground.phase }, { on := 3, ground := Go.Ground.phase }, { on := 4, ground := Go.Ground.phase }, { on := 5, ground := Go.Ground.phase }, { on := 6, ground := Go.Ground.phase }, { on := 7, ground := Go.Ground.phase }, { on := 8, ground := Go.Ground.phase }, { on := 9, ground := Go.Ground.phase }, { on := 10, ground := Go.Ground.phase }, { on := 11, ground := Go.Ground.phase }, { on := 12, ground := Go.Ground.phase }, { on := 13, ground := Go.Ground.phase }, { on := 14, ground := Go.Ground.phase }, { on := 15, ground := Go.Ground.phase }, { on := 16, ground := Go.Ground.phase }, { on := 17, ground := Go.Ground.phase }, { on := 18, ground := Go.Ground.textOnly Go.Departure.lateStores }], guard := none }) (v := ?v19_262102) rfl (by kernel_rfl) (by kernel_rfl) (by kernel_rfl) (fun _ _ _ h => h) (Or.inl ⟨by rfl, ?y19_262102⟩) hHeld ?r19_262102
    case y19_262102 => intro w hSw; (try dsimp only at hSw); go_simp; try with_reducible rfl
    try simp only [Act.put, List.setIfInBounds_toArray, List.set_cons_zero, List.set_cons_succ]
    refine wpAnyH_take (i := 20) (oi := { dst := some 6, op := Go.Op.assign (Go.Operand.tmp 25), type := 36, pos := "ref.go:192", after := #[{ on := 18, ground := Go.Ground.data }, { on := 19, ground := Go.Ground.chain }, { on := 0, ground := Go.Ground.phase }, { on := 1, ground := Go.Ground.phase }, { on := 2, ground := Go.Ground.phase }, { on := 3, ground := Go.Ground.phase }, { on := 4, ground := Go.Ground.phase }, { on := 5, ground := Go.Ground.phase }, { on := 6, ground := Go.Ground.phase }, { on := 7, ground := Go.Ground.phase }, { on := 8, ground := Go.Ground.phase }, { on := 9, ground := Go.Ground.phase }, { on := 10, ground := Go.Ground.phase }, { on := 11, ground := Go.Ground.phase }, { on := 12, ground := Go.Ground.phase }, { on := 13, ground := Go.Ground.phase }, { on := 14, ground := Go.Ground.phase }, { on := 15, ground := Go.Ground.phase }, { on := 16, ground := Go.Ground.phase }, { on := 17, ground := Go.Ground.phase }, { on := 18, ground := Go.Ground.phase }, { on := 19, ground := Go.Ground.phase }], guard := none }) (v := ?v20_262102) rfl (by kernel_rfl) (by kernel_rfl) (by kernel_rfl) (fun _ _ _ h => h) (Or.inl ⟨by rfl, ?y20_262102⟩) hHeld ?r20_262102
    case y20_262102 => intro w hSw; (try dsimp only at hSw); go_simp; try with_reducible rfl
    try simp only [Act.put, List.setIfInBounds_toArray, List.set_cons_zero, List.set_cons_succ]
    refine wpAnyH_done (by kernel_rfl) ?_ _
    obtain ⟨c0, c1, c2, f1, f2⟩ := hHeld.1.cells
    go_wp2
    go_ret
    exact ⟨0, a, true, rfl, ⟨by decide, HPW.out⟩, hHeld.1.bad, hHeld.2.trans (grown_cell _ _ _ _), Stp.lack (fun _ => HP.out) HA.out⟩

set_option maxRecDepth 100000 in
set_option maxHeartbeats 4000000 in
theorem rbytes_b (q : Nat) (s : ByteArray) (a n : Nat) (b : Bool) (w : World) (h : RdB w q s a b) (ha : a ≤ s.size) (hs : s.size ≤ 20000) (hn : n ≤ 70000) :
    Calls Try.prog 118 #[.pointer (some ⟨q, 0, none⟩), .int .i64 (n : Int)] w fun en w' => ∃ v a' b', en = .returned (.string v) ∧ v.size ≤ 20000 ∧ RdB w' q s a' b' ∧ w.grownBy w' (some q) ∧ Stp s (takeP s n a) (eB b) v a' (eB b') := by
  have HR := Lib.hid h
  have HA := Lib.hid ha
  clear h
  cases b with
  | true =>
    clear ha hs hn
    go_enter Try.func118, Try.ntmps118
    go_wp2_with fail
    refine wp_region_held_drew (S := (fun wx => RdB wx q s a true ∧ w.grownBy wx (some q))) (by kernel_rfl) (⟨HR.out.drew, grown_drew (World.grownBy.refl _ _)⟩) (fun hHeld => ?_)
    obtain ⟨wz, hwd⟩ : ∃ x, w.drew = x := ⟨_, rfl⟩
    rw [hwd] at hHeld ⊢
    clear hwd
    refine wpAnyH_take (i := 0) (oi := { dst := some 5, op := Go.Op.move (Go.Operand.tmp 0), type := 125, pos := "ref.go:247", after := #[], guard := none }) (v := ?v0_263101) rfl (by kernel_rfl) (by kernel_rfl) (by kernel_rfl) (fun _ _ _ h => h) (Or.inl ⟨by rfl, ?y0_263101⟩) hHeld ?r0_263101
    case y0_263101 => intro w hSw; (try dsimp only at hSw); go_simp; try with_reducible rfl
    try simp only [Act.put, List.setIfInBounds_toArray, List.set_cons_zero, List.set_cons_succ]
    refine wpAnyH_take (i := 1) (oi := { dst := some 6, op := Go.Op.nilCheck (Go.Operand.tmp 5), type := 0, pos := "ref.go:247", after := #[{ on := 0, ground := Go.Ground.data }], guard := none }) (v := ?v1_263101) rfl (by kernel_rfl) (by kernel_rfl) (by kernel_rfl) (fun _ _ _ h => h) (Or.inl ⟨by rfl, ?y1_263101⟩) hHeld ?r1_263101
    case y1_263101 => intro w hSw; (try dsimp only at hSw); go_simp; try with_reducible rfl
    try simp only [Act.put, List.setIfInBounds_toArray, List.set_cons_zero, List.set_cons_succ]
    refine wpAnyH_take (i := 2) (oi := { dst := some 7, op := Go.Op.fieldAddr 127 (Go.Operand.tmp 6) 2, type := 0, pos := "ref.go:247", after := #[{ on := 1, ground := Go.Ground.data }], guard := none }) (v := ?v2_263101) rfl (by kernel_rfl) (by kernel_rfl) (by kernel_rfl) (fun _ _ _ h => h) (Or.inl ⟨by rfl, ?y2_263101⟩) hHeld ?r2_263101
    case y2_263101 => intro w hSw; (try dsimp only at hSw); go_simp; try with_reducible rfl
    try simp only [Act.put, List.setIfInBounds_toArray, List.set_cons_zero, List.set_cons_succ]
    refine wpAnyH_take (i := 3) (oi := { dst := some 8, op := Go.Op.load 4 (Go.Operand.tmp 7), type := 4, pos := "ref.go:247", after := #[{ on := 2, ground := Go.Ground.data }], guard := none }) (v := ?v3_263101) rfl (by kernel_rfl) (by kernel_rfl) (by kernel_rfl) (fun _ _ _ h => h) (Or.inl ⟨by rfl, ?y3_263101⟩) hHeld ?r3_263101
    case y3_263101 => intro w hSw; (try dsimp only at hSw); obtain ⟨c0, c1, c2, f1, f2⟩ := hSw.1.cells; go_simp; try with_reducible rfl
    try simp only [Act.put, List.setIfInBounds_toArray, List.set_cons_zero, List.set_cons_succ]
    refine wpAnyH_take (i := 4) (oi := { dst := some 9, op := Go.Op.move (Go.Operand.tmp 8), type := 4, pos := "ref.go:247", after := #[{ on := 3, ground := Go.Ground.data }], guard := none }) (v := ?v4_263101) rfl (by kernel_rfl) (by kernel_rfl) (by kernel_rfl) (fun _ _ _ h => h) (Or.inl ⟨by rfl, ?y4_263101⟩) hHeld ?r4_263101
    case y4_263101 => intro w hSw; (try dsimp only at hSw); go_simp; try with_reducible rfl
    try simp only [Act.put, List.setIfInBounds_toArray, List.set_cons_zero, List.set_cons_succ]
    refine wpAnyH_take (i := 5) (oi := { dst := some 10, op := Go.Op.move (Go.Operand.tmp 1), type := 3, pos := "ref.go:247", after := #[{ on := 4, ground := Go.Ground.guard }], guard := some (4, false) }) (v := undef) rfl (by kernel_rfl) (by kernel_rfl) (by kernel_rfl) (fun _ _ _ h => h) (Or.inr ⟨by rfl, rfl⟩) hHeld ?_
    try simp only [Act.put, List.setIfInBounds_toArray, List.set_cons_zero, List.set_cons_succ]
    refine wpAnyH_take (i := 6) (oi := { dst := some 11, op := Go.Op.move (Go.Operand.tmp 0), type := 125, pos := "ref.go:247", after := #[{ on := 4, ground := Go.Ground.guard }], guard := some (4, false) }) (v := undef) rfl (by kernel_rfl) (by kernel_rfl) (by kernel_rfl) (fun _ _ _ h => h) (Or.inr ⟨by rfl, rfl⟩) hHeld ?_
    try simp only [Act.put, List.setIfInBounds_toArray, List.set_cons_zero, List.set_cons_succ]
    refine wpAnyH_take (i := 7) (oi := { dst := some 12, op := Go.Op.nilCheck (Go.Operand.tmp 11), type := 0, pos := "ref.go:247", after := #[{ on := 6, ground := Go.Ground.data }, { on := 4, ground := Go.Ground.guard }], guard := some (4, false) }) (v := undef) rfl (by kernel_rfl) (by kernel_rfl) (by kernel_rfl) (fun _ _ _ h => h) (Or.inr ⟨by rfl, rfl⟩) hHeld ?_
    try simp only [Act.put, List.setIfInBounds_toArray, List.set_cons_zero, List.set_cons_succ]
    refine wpAnyH_take (i := 8) (oi := { dst := some 13, op := Go.Op.fieldAddr 127 (Go.Operand.tmp 12) 0, type := 0, pos := "ref.go:247", after := #[{ on := 7, ground := Go.Ground.data }, { on := 4, ground := Go.Ground.guard }], guard := some (4, false) }) (v := undef) rfl (by kernel_rfl) (by kernel_rfl) (by kernel_rfl) (fun _ _ _ h => h) (Or.inr ⟨by rfl, rfl⟩) hHeld ?_
    try simp only [Act.put, List.setIfInBounds_toArray, List.set_cons_zero, List.set_cons_succ]
    refine wpAnyH_take (i := 9) (oi := { dst := some 14, op := Go.Op.load 9 (Go.Operand.tmp 13), type := 9, pos := "ref.go:247", after := #[{ on := 8, ground := Go.Ground.data }, { on := 4, ground := Go.Ground.guard }], guard := some (4, false) }) (v := undef) rfl (by kernel_rfl) (by kernel_rfl) (by kernel_rfl) (fun _ _ _ h => h) (Or.inr ⟨by rfl, rfl⟩) hHeld ?_
    try simp only [Act.put, List.setIfInBounds_toArray, List.set_cons_zero, List.set_cons_succ]
    refine wpAnyH_take (i := 10) (oi := { dst := some 15, op := Go.Op.call { callee := Go.Callee.builtin Go.Builtin.len, args := #[Go.Operand.tmp 14], argTypes := #[9] }, type := 3, pos := "ref.go:247", after := #[{ on := 9, ground := Go.Ground.data }, { on := 4, ground := Go.Ground.guard }], guard := some (4, false) }) (v := undef) rfl (by kernel_rfl) (by kernel_rfl) (by kernel_rfl) (fun _ _ _ h => h) (Or.inr ⟨by rfl, rfl⟩) hHeld ?_
    try simp only [Act.put, List.setIfInBounds_toArray, List.set_cons_zero, List.set_cons_succ]
    refine wpAnyH_take (i := 11) (oi := { dst := some 16, op := Go.Op.move (Go.Operand.tmp 0), type := 125, pos := "ref.go:247", after := #[{ on := 4, ground := Go.Ground.guard }], guard := some (4, false) }) (v := undef) rfl (by kernel_rfl) (by kernel_rfl) (by kernel_rfl) (fun _ _ _ h => h) (Or.inr ⟨by rfl, rfl⟩) hHeld ?_
    try simp only [Act.put, List.setIfInBounds_toArray, List.set_cons_zero, List.set_cons_succ]
    refine wpAnyH_take (i := 12) (oi := { dst := some 17, op := Go.Op.nilCheck (Go.Operand.tmp 16), type := 0, pos := "ref.go:247", after := #[{ on := 11, ground := Go.Ground.data }, { on := 4, ground := Go.Ground.guard }], guard := some (4, false) }) (v := undef) rfl (by kernel_rfl) (by kernel_rfl) (by kernel_rfl) (fun _ _ _ h => h) (Or.inr ⟨by rfl, rfl⟩) hHeld ?_
    try simp only [Act.put, List.setIfInBounds_toArray, List.set_cons_zero, List.set_cons_succ]
    refine wpAnyH_take (i := 13) (oi := { dst := some 18, op := Go.Op.fieldAddr 127 (Go.Operand.tmp 17) 1, type := 0, pos := "ref.go:247", after := #[{ on := 12, ground := Go.Ground.data }, { on := 4, ground := Go.Ground.guard }], guard := some (4, false) }) (v := undef) rfl (by kernel_rfl) (by kernel_rfl) (by kernel_rfl) (fun _ _ _ h => h) (Or.inr ⟨by rfl, rfl⟩) hHeld ?_
    try simp only [Act.put, List.setIfInBounds_toArray, List.set_cons_zero, List.set_cons_succ]
    refine wpAnyH_take (i := 14) (oi := { dst := some 19, op := Go.Op.load 3 (Go.Operand.tmp 18), type := 3, pos := "ref.go:247", after := #[{ on := 13, ground := Go.Ground.data }, { on := 4, ground := Go.Ground.guard }], guard := some (4, false) }) (v := undef) rfl (by kernel_rfl) (by kernel_rfl) (by kernel_rfl) (fun _ _ _ h => h) (Or.inr ⟨by rfl, rfl⟩) hHeld ?_
    try simp only [Act.put, List.setIfInBounds_toArray, List.set_cons_zero, List.set_cons_succ]
    refine wpAnyH_take (i := 15) (oi := { dst := some 20, op := Go.Op.binOp Go.BinOp.sub 3 (Go.Operand.tmp 15) (Go.Operand.tmp 19) 3, type := 3, pos := "ref.go:247", after := #[{ on := 10, ground := Go.Ground.data }, { on := 14, ground := Go.Ground.data }, { on := 4, ground := Go.Ground.guard }], guard := some (4, false) }) (v := undef) rfl (by kernel_rfl) (by kernel_rfl) (by kernel_rfl) (fun _ _ _ h => h) (Or.inr ⟨by rfl, rfl⟩) hHeld ?_
    try simp only [Act.put, List.setIfInBounds_toArray, List.set_cons_zero, List.set_cons_succ]
    refine wpAnyH_take (i := 16) (oi := { dst := some 21, op := Go.Op.binOp Go.BinOp.gtr 3 (Go.Operand.tmp 10) (Go.Operand.tmp 20) 3, type := 4, pos := "ref.go:247", after := #[{ on := 5, ground := Go.Ground.data }, { on := 15, ground := Go.Ground.data }, { on := 4, ground := Go.Ground.guard }], guard := some (4, false) }) (v := undef) rfl (by kernel_rfl) (by kernel_rfl) (by kernel_rfl) (fun _ _ _ h => h) (Or.inr ⟨by rfl, rfl⟩) hHeld ?_
    try simp only [Act.put, List.setIfInBounds_toArray, List.set_cons_zero, List.set_cons_succ]
    refine wpAnyH_take (i := 17) (oi := { dst := some 22, op := Go.Op.pick (Go.Operand.tmp 9) (Go.Operand.const (Go.Value.bool true)) (Go.Operand.tmp 21), type := 4, pos := "ref.go:247", after := #[{ on := 4, ground := Go.Ground.data }, { on := 16, ground := Go.Ground.data }], guard := none }) (v := ?v17_263101) rfl (by kernel_rfl) (by kernel_rfl) (by kernel_rfl) (fun _ _ _ h => h) (Or.inl ⟨by rfl, ?y17_263101⟩) hHeld ?r17_263101
    case y17_263101 => intro w hSw; (try dsimp only at hSw); go_simp; try with_reducible rfl
    try simp only [Act.put, List.setIfInBounds_toArray, List.set_cons_zero, List.set_cons_succ]
    refine wpAnyH_done (by kernel_rfl) ?_ _
    obtain ⟨c0, c1, c2, f1, f2⟩ := hHeld.1.cells
    go_wp2
    go_ret
    exact ⟨⟨#[]⟩, a, true, rfl, Nat.zero_le _, hHeld.1.bad, hHeld.2.trans (grown_cell _ _ _ _), Stp.bad HA.out⟩
  | false =>
    by_cases g : a + n ≤ s.size
    · have HP := Lib.hid (show takeP s n a = some (s.extract a (a + n), a + n) from if_pos g)
      obtain ⟨r, hr⟩ : ∃ r, s.size - a = r := ⟨_, rfl⟩
      have hws : IntKind.i64.wrap ((s.size : Int) - (a : Int)) = (r : Int) := by rw [IntKind.wrap_i64]; omega
      have d1 := dF (p := r < n) (by omega)
      clear hr
      have HLE := Lib.hid g
      have HEX := Lib.hid (show (s.extract a (a + n)).size ≤ 20000 by rw [extract_size _ _ _ g]; omega)
      go_enter Try.func118, Try.ntmps118
      go_wp2_with fail
      refine wp_region_held_drew (S := (fun wx => RdB wx q s a false ∧ w.grownBy wx (some q))) (by kernel_rfl) (⟨HR.out.drew, grown_drew (World.grownBy.refl _ _)⟩) (fun hHeld => ?_)
      obtain ⟨wz, hwd⟩ : ∃ x, w.drew = x := ⟨_, rfl⟩
      rw [hwd] at hHeld ⊢
      clear hwd
      refine wpAnyH_take (i := 0) (oi := { dst := some 5, op := Go.Op.move (Go.Operand.tmp 0), type := 125, pos := "ref.go:247", after := #[], guard := none }) (v := ?v0_264101) rfl (by kernel_rfl) (by kernel_rfl) (by kernel_rfl) (fun _ _ _ h => h) (Or.inl ⟨by rfl, ?y0_264101⟩) hHeld ?r0_264101
      case y0_264101 => intro w hSw; (try dsimp only at hSw); go_simp; try with_reducible rfl
      try simp only [Act.put, List.setIfInBounds_toArray, List.set_cons_zero, List.set_cons_succ]
      refine wpAnyH_take (i := 1) (oi := { dst := some 6, op := Go.Op.nilCheck (Go.Operand.tmp 5), type := 0, pos := "ref.go:247", after := #[{ on := 0, ground := Go.Ground.data }], guard := none }) (v := ?v1_264101) rfl (by kernel_rfl) (by kernel_rfl) (by kernel_rfl) (fun _ _ _ h => h) (Or.inl ⟨by rfl, ?y1_264101⟩) hHeld ?r1_264101
      case y1_264101 => intro w hSw; (try dsimp only at hSw); go_simp; try with_reducible rfl
      try simp only [Act.put, List.setIfInBounds_toArray, List.set_cons_zero, List.set_cons_succ]
      refine wpAnyH_take (i := 2) (oi := { dst := some 7, op := Go.Op.fieldAddr 127 (Go.Operand.tmp 6) 2, type := 0, pos := "ref.go:247", after := #[{ on := 1, ground := Go.Ground.data }], guard := none }) (v := ?v2_264101) rfl (by kernel_rfl) (by kernel_rfl) (by kernel_rfl) (fun _ _ _ h => h) (Or.inl ⟨by rfl, ?y2_264101⟩) hHeld ?r2_264101
      case y2_264101 => intro w hSw; (try dsimp only at hSw); go_simp; try with_reducible rfl
      try simp only [Act.put, List.setIfInBounds_toArray, List.set_cons_zero, List.set_cons_succ]
      refine wpAnyH_take (i := 3) (oi := { dst := some 8, op := Go.Op.load 4 (Go.Operand.tmp 7), type := 4, pos := "ref.go:247", after := #[{ on := 2, ground := Go.Ground.data }], guard := none }) (v := ?v3_264101) rfl (by kernel_rfl) (by kernel_rfl) (by kernel_rfl) (fun _ _ _ h => h) (Or.inl ⟨by rfl, ?y3_264101⟩) hHeld ?r3_264101
      case y3_264101 => intro w hSw; (try dsimp only at hSw); obtain ⟨c0, c1, c2, f1, f2⟩ := hSw.1.cells; go_simp; try with_reducible rfl
      try simp only [Act.put, List.setIfInBounds_toArray, List.set_cons_zero, List.set_cons_succ]
      refine wpAnyH_take (i := 4) (oi := { dst := some 9, op := Go.Op.move (Go.Operand.tmp 8), type := 4, pos := "ref.go:247", after := #[{ on := 3, ground := Go.Ground.data }], guard := none }) (v := ?v4_264101) rfl (by kernel_rfl) (by kernel_rfl) (by kernel_rfl) (fun _ _ _ h => h) (Or.inl ⟨by rfl, ?y4_264101⟩) hHeld ?r4_264101
      case y4_264101 => intro w hSw; (try dsimp only at hSw); go_simp; try with_reducible rfl
      try simp only [Act.put, List.setIfInBounds_toArray, List.set_cons_zero, List.set_cons_succ]
      refine wpAnyH_take (i := 5) (oi := { dst := some 10, op := Go.Op.move (Go.Operand.tmp 1), type := 3, pos := "ref.go:247", after := #[{ on := 4, ground := Go.Ground.guard }], guard := some (4, false) }) (v := ?v5_264101) rfl (by kernel_rfl) (by kernel_rfl) (by kernel_rfl) (fun _ _ _ h => h) (Or.inl ⟨by rfl, ?y5_264101⟩) hHeld ?r5_264101
      case y5_264101 => intro w hSw; (try dsimp only at hSw); go_simp; try with_reducible rfl
      try simp only [Act.put, List.setIfInBounds_toArray, List.set_cons_zero, List.set_cons_succ]
      refine wpAnyH_take (i := 6) (oi := { dst := some 11, op := Go.Op.move (Go.Operand.tmp 0), type := 125, pos := "ref.go:247", after := #[{ on := 4, ground := Go.Ground.guard }], guard := some (4, false) }) (v := ?v6_264101) rfl (by kernel_rfl) (by kernel_rfl) (by kernel_rfl) (fun _ _ _ h => h) (Or.inl ⟨by rfl, ?y6_264101⟩) hHeld ?r6_264101
      case y6_264101 => intro w hSw; (try dsimp only at hSw); go_simp; try with_reducible rfl
      try simp only [Act.put, List.setIfInBounds_toArray, List.set_cons_zero, List.set_cons_succ]
      refine wpAnyH_take (i := 7) (oi := { dst := some 12, op := Go.Op.nilCheck (Go.Operand.tmp 11), type := 0, pos := "ref.go:247", after := #[{ on := 6, ground := Go.Ground.data }, { on := 4, ground := Go.Ground.guard }], guard := some (4, false) }) (v := ?v7_264101) rfl (by kernel_rfl) (by kernel_rfl) (by kernel_rfl) (fun _ _ _ h => h) (Or.inl ⟨by rfl, ?y7_264101⟩) hHeld ?r7_264101
      case y7_264101 => intro w hSw; (try dsimp only at hSw); go_simp; try with_reducible rfl
      try simp only [Act.put, List.setIfInBounds_toArray, List.set_cons_zero, List.set_cons_succ]
      refine wpAnyH_take (i := 8) (oi := { dst := some 13, op := Go.Op.fieldAddr 127 (Go.Operand.tmp 12) 0, type := 0, pos := "ref.go:247", after := #[{ on := 7, ground := Go.Ground.data }, { on := 4, ground := Go.Ground.guard }], guard := some (4, false) }) (v := ?v8_264101) rfl (by kernel_rfl) (by kernel_rfl) (by kernel_rfl) (fun _ _ _ h => h) (Or.inl ⟨by rfl, ?y8_264101⟩) hHeld ?r8_264101
      case y8_264101 => intro w hSw; (try dsimp only at hSw); go_simp; try with_reducible rfl
      try simp only [Act.put, List.setIfInBounds_toArray, List.set_cons_zero, List.set_cons_succ]
      refine wpAnyH_take (i := 9) (oi := { dst := some 14, op := Go.Op.load 9 (Go.Operand.tmp 13), type := 9, pos := "ref.go:247", after := #[{ on := 8, ground := Go.Ground.data }, { on := 4, ground := Go.Ground.guard }], guard := some (4, false) }) (v := ?v9_264101) rfl (by kernel_rfl) (by kernel_rfl) (by kernel_rfl) (fun _ _ _ h => h) (Or.inl ⟨by rfl, ?y9_264101⟩) hHeld ?r9_264101
      case y9_264101 => intro w hSw; (try dsimp only at hSw); obtain ⟨c0, c1, c2, f1, f2⟩ := hSw.1.cells; go_simp; try with_reducible rfl
      try simp only [Act.put, List.setIfInBounds_toArray, List.set_cons_zero, List.set_cons_succ]
      refine wpAnyH_take (i := 10) (oi := { dst := some 15, op := Go.Op.call { callee := Go.Callee.builtin Go.Builtin.len, args := #[Go.Operand.tmp 14], argTypes := #[9] }, type := 3, pos := "ref.go:247", after := #[{ on := 9, ground := Go.Ground.data }, { on := 4, ground := Go.Ground.guard }], guard := some (4, false) }) (v := ?v10_264101) rfl (by kernel_rfl) (by kernel_rfl) (by kernel_rfl) (fun _ _ _ h => h) (Or.inl ⟨by rfl, ?y10_264101⟩) hHeld ?r10_264101
      case y10_264101 => intro w hSw; (try dsimp only at hSw); go_simp; try with_reducible rfl
      try simp only [Act.put, List.setIfInBounds_toArray, List.set_cons_zero, List.set_cons_succ]
      refine wpAnyH_take (i := 11) (oi := { dst := some 16, op := Go.Op.move (Go.Operand.tmp 0), type := 125, pos := "ref.go:247", after := #[{ on := 4, ground := Go.Ground.guard }], guard := some (4, false) }) (v := ?v11_264101) rfl (by kernel_rfl) (by kernel_rfl) (by kernel_rfl) (fun _ _ _ h => h) (Or.inl ⟨by rfl, ?y11_264101⟩) hHeld ?r11_264101
      case y11_264101 => intro w hSw; (try dsimp only at hSw); go_simp; try with_reducible rfl
      try simp only [Act.put, List.setIfInBounds_toArray, List.set_cons_zero, List.set_cons_succ]
      refine wpAnyH_take (i := 12) (oi := { dst := some 17, op := Go.Op.nilCheck (Go.Operand.tmp 16), type := 0, pos := "ref.go:247", after := #[{ on := 11, ground := Go.Ground.data }, { on := 4, ground := Go.Ground.guard }], guard := some (4, false) }) (v := ?v12_264101) rfl (by kernel_rfl) (by kernel_rfl) (by kernel_rfl) (fun _ _ _ h => h) (Or.inl ⟨by rfl, ?y12_264101⟩) hHeld ?r12_264101
      case y12_264101 => intro w hSw; (try dsimp only at hSw); go_simp; try with_reducible rfl
      try simp only [Act.put, List.setIfInBounds_toArray, List.set_cons_zero, List.set_cons_succ]
      refine wpAnyH_take (i := 13) (oi := { dst := some 18, op := Go.Op.fieldAddr 127 (Go.Operand.tmp 17) 1, type := 0, pos := "ref.go:247", after := #[{ on := 12, ground := Go.Ground.data }, { on := 4, ground := Go.Ground.guard }], guard := some (4, false) }) (v := ?v13_264101) rfl (by kernel_rfl) (by kernel_rfl) (by kernel_rfl) (fun _ _ _ h => h) (Or.inl ⟨by rfl, ?y13_264101⟩) hHeld ?r13_264101
      case y13_264101 => intro w hSw; (try dsimp only at hSw); go_simp; try with_reducible rfl
      try simp only [Act.put, List.setIfInBounds_toArray, List.set_cons_zero, List.set_cons_succ]
      refine wpAnyH_take (i := 14) (oi := { dst := some 19, op := Go.Op.load 3 (Go.Operand.tmp 18), type := 3, pos := "ref.go:247", after := #[{ on := 13, ground := Go.Ground.data }, { on := 4, ground := Go.Ground.guard }], guard := some (4, false) }) (v := ?v14_264101) rfl (by kernel_rfl) (by kernel_rfl) (by kernel_rfl) (fun _ _ _ h => h) (Or.inl ⟨by rfl, ?y14_264101⟩) hHeld ?r14_264101
      case y14_264101 => intro w hSw; (try dsimp only at hSw); obtain ⟨c0, c1, c2, f1, f2⟩ := hSw.1.cells; go_simp; try with_reducible rfl
      try simp only [Act.put, List.setIfInBounds_toArray, List.set_cons_zero, List.set_cons_succ]
      refine wpAnyH_take (i := 15) (oi := { dst := some 20, op := Go.Op.binOp Go.BinOp.sub 3 (Go.Operand.tmp 15) (Go.Operand.tmp 19) 3, type := 3, pos := "ref.go:247", after := #[{ on := 10, ground := Go.Ground.data }, { on := 14, ground := Go.Ground.data }, { on := 4, ground := Go.Ground.guard }], guard := some (4, false) }) (v := ?v15_264101) rfl (by kernel_rfl) (by kernel_rfl) (by kernel_rfl) (fun _ _ _ h => h) (Or.inl ⟨by rfl, ?y15_264101⟩) hHeld ?r15_264101
      case y15_264101 => intro w hSw; (try dsimp only at hSw); go_simp; try with_reducible rfl
      try simp only [Act.put, List.setIfInBounds_toArray, List.set_cons_zero, List.set_cons_succ]
      refine wpAnyH_take (i := 16) (oi := { dst := some 21, op := Go.Op.binOp Go.BinOp.gtr 3 (Go.Operand.tmp 10) (Go.Operand.tmp 20) 3, type := 4, pos := "ref.go:247", after := #[{ on := 5, ground := Go.Ground.data }, { on := 15, ground := Go.Ground.data }, { on := 4, ground := Go.Ground.guard }], guard := some (4, false) }) (v := ?v16_264101) rfl (by kernel_rfl) (by kernel_rfl) (by kernel_rfl) (fun _ _ _ h => h) (Or.inl ⟨by rfl, ?y16_264101⟩) hHeld ?r16_264101
      case y16_264101 => intro w hSw; (try dsimp only at hSw); go_simp; try with_reducible rfl
      try simp only [Act.put, List.setIfInBounds_toArray, List.set_cons_zero, List.set_cons_succ]
      refine wpAnyH_take (i := 17) (oi := { dst := some 22, op := Go.Op.pick (Go.Operand.tmp 9) (Go.Operand.const (Go.Value.bool true)) (Go.Operand.tmp 21), type := 4, pos := "ref.go:247", after := #[{ on := 4, ground := Go.Ground.data }, { on := 16, ground := Go.Ground.data }], guard := none }) (v := ?v17_264101) rfl (by kernel_rfl) (by kernel_rfl) (by kernel_rfl) (fun _ _ _ h => h) (Or.inl ⟨by rfl, ?y17_264101⟩) hHeld ?r17_264101
      case y17_264101 => intro w hSw; (try dsimp only at hSw); go_simp; try with_reducible rfl
      try simp only [Act.put, List.setIfInBounds_toArray, List.set_cons_zero, List.set_cons_succ]
      refine wpAnyH_done (by kernel_rfl) ?_ _
      have HH := Lib.hid hHeld
      obtain ⟨c0, c1, c2, f1, f2⟩ := hHeld.1.cells
      clear hHeld
      go_upto_region 5 with (fail)
      rw [show (a : Int) + (n : Int) = ((a + n : Nat) : Int) from (Int.natCast_add _ _).symm]
      have hr4 := HH.out.1.at (a + n)
      have hg4 := HH.out.2.trans (grown_cell wz q 1 (.int .i64 ((a + n : Nat) : Int)))
      obtain ⟨w4, hw4⟩ : ∃ x, wz.setCell ⟨q, 1, none⟩ (.int .i64 ((a + n : Nat) : Int)) = x := ⟨_, rfl⟩
      rw [hw4] at hr4 hg4 ⊢
      clear hw4 c0 c1 c2 f1 f2 d1 hws
      obtain ⟨b, hb⟩ : ∃ x, a + n = x := ⟨_, rfl⟩
      rw [hb] at hr4 HP HLE HEX ⊢
      have hbs : b ≤ s.size := HLE.out
      have hab : a ≤ b := by omega
      have hw5 : IntKind.i64.wrap ((b : Int) - (n : Int)) = (a : Int) := by rw [IntKind.wrap_i64]; omega
      clear hb
      have HG4 := Lib.hid hg4
      have HR4 := Lib.hid hr4
      clear hr4 hg4
      refine wp_region_held_drew (S := (fun wx => RdB wx q s b false ∧ w.grownBy wx (some q))) (by kernel_rfl) (⟨HR4.out.drew, grown_drew HG4.out⟩) (fun hHeld => ?_)
      refine wpAnyH_take (i := 0) (oi := { dst := some 34, op := Go.Op.move (Go.Operand.tmp 0), type := 125, pos := "ref.go:252", after := #[], guard := none }) (v := ?v0_265101) rfl (by kernel_rfl) (by kernel_rfl) (by kernel_rfl) (fun _ _ _ h => h) (Or.inl ⟨by rfl, ?y0_265101⟩) hHeld ?r0_265101
      case y0_265101 => intro w hSw; (try dsimp only at hSw); go_simp; try with_reducible rfl
      try simp only [Act.put, List.setIfInBounds_toArray, List.set_cons_zero, List.set_cons_succ]
      refine wpAnyH_take (i := 1) (oi := { dst := some 35, op := Go.Op.nilCheck (Go.Operand.tmp 34), type := 0, pos := "ref.go:252", after := #[{ on := 0, ground := Go.Ground.data }], guard := none }) (v := ?v1_265101) rfl (by kernel_rfl) (by kernel_rfl) (by kernel_rfl) (fun _ _ _ h => h) (Or.inl ⟨by rfl, ?y1_265101⟩) hHeld ?r1_265101
      case y1_265101 => intro w hSw; (try dsimp only at hSw); go_simp; try with_reducible rfl
      try simp only [Act.put, List.setIfInBounds_toArray, List.set_cons_zero, List.set_cons_succ]
      refine wpAnyH_take (i := 2) (oi := { dst := some 36, op := Go.Op.fieldAddr 127 (Go.Operand.tmp 35) 0, type := 0, pos := "ref.go:252", after := #[{ on := 1, ground := Go.Ground.data }], guard := none }) (v := ?v2_265101) rfl (by kernel_rfl) (by kernel_rfl) (by kernel_rfl) (fun _ _ _ h => h) (Or.inl ⟨by rfl, ?y2_265101⟩) hHeld ?r2_265101
      case y2_265101 => intro w hSw; (try dsimp only at hSw); go_simp; try with_reducible rfl
      try simp only [Act.put, List.setIfInBounds_toArray, List.set_cons_zero, List.set_cons_succ]
      refine wpAnyH_take (i := 3) (oi := { dst := some 37, op := Go.Op.load 9 (Go.Operand.tmp 36), type := 9, pos := "ref.go:252", after := #[{ on := 2, ground := Go.Ground.data }], guard := none }) (v := ?v3_265101) rfl (by kernel_rfl) (by kernel_rfl) (by kernel_rfl) (fun _ _ _ h => h) (Or.inl ⟨by rfl, ?y3_265101⟩) hHeld ?r3_265101
      case y3_265101 => intro w hSw; (try dsimp only at hSw); obtain ⟨c0, c1, c2, f1, f2⟩ := hSw.1.cells; go_simp; try with_reducible rfl
      try simp only [Act.put, List.setIfInBounds_toArray, List.set_cons_zero, List.set_cons_succ]
      refine wpAnyH_take (i := 4) (oi := { dst := some 38, op := Go.Op.move (Go.Operand.tmp 0), type := 125, pos := "ref.go:252", after := #[], guard := none }) (v := ?v4_265101) rfl (by kernel_rfl) (by kernel_rfl) (by kernel_rfl) (fun _ _ _ h => h) (Or.inl ⟨by rfl, ?y4_265101⟩) hHeld ?r4_265101
      case y4_265101 => intro w hSw; (try dsimp only at hSw); go_simp; try with_reducible rfl
      try simp only [Act.put, List.setIfInBounds_toArray, List.set_cons_zero, List.set_cons_succ]
      refine wpAnyH_take (i := 5) (oi := { dst := some 39, op := Go.Op.nilCheck (Go.Operand.tmp 38), type := 0, pos := "ref.go:252", after := #[{ on := 4, ground := Go.Ground.data }], guard := none }) (v := ?v5_265101) rfl (by kernel_rfl) (by kernel_rfl) (by kernel_rfl) (fun _ _ _ h => h) (Or.inl ⟨by rfl, ?y5_265101⟩) hHeld ?r5_265101
      case y5_265101 => intro w hSw; (try dsimp only at hSw); go_simp; try with_reducible rfl
      try simp only [Act.put, List.setIfInBounds_toArray, List.set_cons_zero, List.set_cons_succ]
      refine wpAnyH_take (i := 6) (oi := { dst := some 40, op := Go.Op.fieldAddr 127 (Go.Operand.tmp 39) 1, type := 0, pos := "ref.go:252", after := #[{ on := 5, ground := Go.Ground.data }], guard := none }) (v := ?v6_265101) rfl (by kernel_rfl) (by kernel_rfl) (by kernel_rfl) (fun _ _ _ h => h) (Or.inl ⟨by rfl, ?y6_265101⟩) hHeld ?r6_265101
      case y6_265101 => intro w hSw; (try dsimp only at hSw); go_simp; try with_reducible rfl
      try simp only [Act.put, List.setIfInBounds_toArray, List.set_cons_zero, List.set_cons_succ]
      refine wpAnyH_take (i := 7) (oi := { dst := some 41, op := Go.Op.load 3 (Go.Operand.tmp 40), type := 3, pos := "ref.go:252", after := #[{ on := 6, ground := Go.Ground.data }], guard := none }) (v := ?v7_265101) rfl (by kernel_rfl) (by kernel_rfl) (by kernel_rfl) (fun _ _ _ h => h) (Or.inl ⟨by rfl, ?y7_265101⟩) hHeld ?r7_265101
      case y7_265101 => intro w hSw; (try dsimp only at hSw); obtain ⟨c0, c1, c2, f1, f2⟩ := hSw.1.cells; go_simp; try with_reducible rfl
      try simp only [Act.put, List.setIfInBounds_toArray, List.set_cons_zero, List.set_cons_succ]
      refine wpAnyH_take (i := 8) (oi := { dst := some 42, op := Go.Op.move (Go.Operand.tmp 1), type := 3, pos := "ref.go:252", after := #[], guard := none }) (v := ?v8_265101) rfl (by kernel_rfl) (by kernel_rfl) (by kernel_rfl) (fun _ _ _ h => h) (Or.inl ⟨by rfl, ?y8_265101⟩) hHeld ?r8_265101
      case y8_265101 => intro w hSw; (try dsimp only at hSw); go_simp; try with_reducible rfl
      try simp only [Act.put, List.setIfInBounds_toArray, List.set_cons_zero, List.set_cons_succ]
      refine wpAnyH_take (i := 9) (oi := { dst := some 43, op := Go.Op.binOp Go.BinOp.sub 3 (Go.Operand.tmp 41) (Go.Operand.tmp 42) 3, type := 3, pos := "ref.go:252", after := #[{ on := 7, ground := Go.Ground.data }, { on := 8, ground := Go.Ground.data }], guard := none }) (v := ?v9_265101) rfl (by kernel_rfl) (by kernel_rfl) (by kernel_rfl) (fun _ _ _ h => h) (Or.inl ⟨by rfl, ?y9_265101⟩) hHeld ?r9_265101
      case y9_265101 => intro w hSw; (try dsimp only at hSw); go_simp; try with_reducible rfl
      try simp only [Act.put, List.setIfInBounds_toArray, List.set_cons_zero, List.set_cons_succ]
      refine wpAnyH_take (i := 10) (oi := { dst := some 44, op := Go.Op.move (Go.Operand.tmp 0), type := 125, pos := "ref.go:252", after := #[], guard := none }) (v := ?v10_265101) rfl (by kernel_rfl) (by kernel_rfl) (by kernel_rfl) (fun _ _ _ h => h) (Or.inl ⟨by rfl, ?y10_265101⟩) hHeld ?r10_265101
      case y10_265101 => intro w hSw; (try dsimp only at hSw); go_simp; try with_reducible rfl
      try simp only [Act.put, List.setIfInBounds_toArray, List.set_cons_zero, List.set_cons_succ]
      refine wpAnyH_take (i := 11) (oi := { dst := some 45, op := Go.Op.nilCheck (Go.Operand.tmp 44), type := 0, pos := "ref.go:252", after := #[{ on := 10, ground := Go.Ground.data }], guard := none }) (v := ?v11_265101) rfl (by kernel_rfl) (by kernel_rfl) (by kernel_rfl) (fun _ _ _ h => h) (Or.inl ⟨by rfl, ?y11_265101⟩) hHeld ?r11_265101
      case y11_265101 => intro w hSw; (try dsimp only at hSw); go_simp; try with_reducible rfl
      try simp only [Act.put, List.setIfInBounds_toArray, List.set_cons_zero, List.set_cons_succ]
      refine wpAnyH_take (i := 12) (oi := { dst := some 46, op := Go.Op.fieldAddr 127 (Go.Operand.tmp 45) 1, type := 0, pos := "ref.go:252", after := #[{ on := 11, ground := Go.Ground.data }], guard := none }) (v := ?v12_265101) rfl (by kernel_rfl) (by kernel_rfl) (by kernel_rfl) (fun _ _ _ h => h) (Or.inl ⟨by rfl, ?y12_265101⟩) hHeld ?r12_265101
      case y12_265101 => intro w hSw; (try dsimp only at hSw); go_simp; try with_reducible rfl
      try simp only [Act.put, List.setIfInBounds_toArray, List.set_cons_zero, List.set_cons_succ]
      refine wpAnyH_take (i := 13) (oi := { dst := some 47, op := Go.Op.load 3 (Go.Operand.tmp 46), type := 3, pos := "ref.go:252", after := #[{ on := 12, ground := Go.Ground.data }], guard := none }) (v := ?v13_265101) rfl (by kernel_rfl) (by kernel_rfl) (by kernel_rfl) (fun _ _ _ h => h) (Or.inl ⟨by rfl, ?y13_265101⟩) hHeld ?r13_265101
      case y13_265101 => intro w hSw; (try dsimp only at hSw); obtain ⟨c0, c1, c2, f1, f2⟩ := hSw.1.cells; go_simp; try with_reducible rfl
      try simp only [Act.put, List.setIfInBounds_toArray, List.set_cons_zero, List.set_cons_succ]
      refine wpAnyH_take (i := 14) (oi := { dst := some 48, op := Go.Op.slice 9 (Go.Operand.tmp 37) (some (Go.Operand.tmp 43)) (some (Go.Operand.tmp 47)) none, type := 9, pos := "ref.go:252", after := #[{ on := 3, ground := Go.Ground.data }, { on := 9, ground := Go.Ground.data }, { on := 13, ground := Go.Ground.data }], guard := none }) (v := ?v14_265101) rfl (by kernel_rfl) (by kernel_rfl) (by kernel_rfl) (fun _ _ _ h => h) (Or.inl ⟨by rfl, ?y14_265101⟩) hHeld ?r14_265101
      case y14_265101 => intro w hSw; (try dsimp only at hSw); go_simp; try with_reducible rfl
      try simp only [Act.put, List.setIfInBounds_toArray, List.set_cons_zero, List.set_cons_succ]
      refine wpAnyH_take (i := 15) (oi := { dst := some 4, op := Go.Op.assign (Go.Operand.tmp 48), type := 9, pos := "ref.go:252", after := #[{ on := 14, ground := Go.Ground.data }, { on := 0, ground := Go.Ground.phase }, { on := 1, ground := Go.Ground.phase }, { on := 2, ground := Go.Ground.phase }, { on := 3, ground := Go.Ground.phase }, { on := 4, ground := Go.Ground.phase }, { on := 5, ground := Go.Ground.phase }, { on := 6, ground := Go.Ground.phase }, { on := 7, ground := Go.Ground.phase }, { on := 8, ground := Go.Ground.phase }, { on := 9, ground := Go.Ground.phase }, { on := 10, ground := Go.Ground.phase }, { on := 11, ground := Go.Ground.phase }, { on := 12, ground := Go.Ground.phase }, { on := 13, ground := Go.Ground.phase }, { on := 14, ground := Go.Ground.phase }], guard := none }) (v := ?v15_265101) rfl (by kernel_rfl) (by kernel_rfl) (by kernel_rfl) (fun _ _ _ h => h) (Or.inl ⟨by rfl, ?y15_265101⟩) hHeld ?r15_265101
      case y15_265101 => intro w hSw; (try dsimp only at hSw); go_simp; try with_reducible rfl
      try simp only [Act.put, List.setIfInBounds_toArray, List.set_cons_zero, List.set_cons_succ]
      refine wpAnyH_done (by kernel_rfl) ?_ _
      go_wp2
      go_ret
      exact ⟨_, b, false, rfl, HEX.out, hHeld.1, hHeld.2, Stp.yes HP.out HLE.out⟩
    · have HP := Lib.hid (show takeP s n a = none from if_neg g)
      obtain ⟨r, hr⟩ : ∃ r, s.size - a = r := ⟨_, rfl⟩
      have hws : IntKind.i64.wrap ((s.size : Int) - (a : Int)) = (r : Int) := by rw [IntKind.wrap_i64]; omega
      have d1 := dT (p := r < n) (by omega)
      clear hr g
      go_enter Try.func118, Try.ntmps118
      go_wp2_with fail
      refine wp_region_held_drew (S := (fun wx => RdB wx q s a false ∧ w.grownBy wx (some q))) (by kernel_rfl) (⟨HR.out.drew, grown_drew (World.grownBy.refl _ _)⟩) (fun hHeld => ?_)
      obtain ⟨wz, hwd⟩ : ∃ x, w.drew = x := ⟨_, rfl⟩
      rw [hwd] at hHeld ⊢
      clear hwd
      refine wpAnyH_take (i := 0) (oi := { dst := some 5, op := Go.Op.move (Go.Operand.tmp 0), type := 125, pos := "ref.go:247", after := #[], guard := none }) (v := ?v0_266101) rfl (by kernel_rfl) (by kernel_rfl) (by kernel_rfl) (fun _ _ _ h => h) (Or.inl ⟨by rfl, ?y0_266101⟩) hHeld ?r0_266101
      case y0_266101 => intro w hSw; (try dsimp only at hSw); go_simp; try with_reducible rfl
      try simp only [Act.put, List.setIfInBounds_toArray, List.set_cons_zero, List.set_cons_succ]
      refine wpAnyH_take (i := 1) (oi := { dst := some 6, op := Go.Op.nilCheck (Go.Operand.tmp 5), type := 0, pos := "ref.go:247", after := #[{ on := 0, ground := Go.Ground.data }], guard := none }) (v := ?v1_266101) rfl (by kernel_rfl) (by kernel_rfl) (by kernel_rfl) (fun _ _ _ h => h) (Or.inl ⟨by rfl, ?y1_266101⟩) hHeld ?r1_266101
      case y1_266101 => intro w hSw; (try dsimp only at hSw); go_simp; try with_reducible rfl
      try simp only [Act.put, List.setIfInBounds_toArray, List.set_cons_zero, List.set_cons_succ]
      refine wpAnyH_take (i := 2) (oi := { dst := some 7, op := Go.Op.fieldAddr 127 (Go.Operand.tmp 6) 2, type := 0, pos := "ref.go:247", after := #[{ on := 1, ground := Go.Ground.data }], guard := none }) (v := ?v2_266101) rfl (by kernel_rfl) (by kernel_rfl) (by kernel_rfl) (fun _ _ _ h => h) (Or.inl ⟨by rfl, ?y2_266101⟩) hHeld ?r2_266101
      case y2_266101 => intro w hSw; (try dsimp only at hSw); go_simp; try with_reducible rfl
      try simp only [Act.put, List.setIfInBounds_toArray, List.set_cons_zero, List.set_cons_succ]
      refine wpAnyH_take (i := 3) (oi := { dst := some 8, op := Go.Op.load 4 (Go.Operand.tmp 7), type := 4, pos := "ref.go:247", after := #[{ on := 2, ground := Go.Ground.data }], guard := none }) (v := ?v3_266101) rfl (by kernel_rfl) (by kernel_rfl) (by kernel_rfl) (fun _ _ _ h => h) (Or.inl ⟨by rfl, ?y3_266101⟩) hHeld ?r3_266101
      case y3_266101 => intro w hSw; (try dsimp only at hSw); obtain ⟨c0, c1, c2, f1, f2⟩ := hSw.1.cells; go_simp; try with_reducible rfl
      try simp only [Act.put, List.setIfInBounds_toArray, List.set_cons_zero, List.set_cons_succ]
      refine wpAnyH_take (i := 4) (oi := { dst := some 9, op := Go.Op.move (Go.Operand.tmp 8), type := 4, pos := "ref.go:247", after := #[{ on := 3, ground := Go.Ground.data }], guard := none }) (v := ?v4_266101) rfl (by kernel_rfl) (by kernel_rfl) (by kernel_rfl) (fun _ _ _ h => h) (Or.inl ⟨by rfl, ?y4_266101⟩) hHeld ?r4_266101
      case y4_266101 => intro w hSw; (try dsimp only at hSw); go_simp; try with_reducible rfl
      try simp only [Act.put, List.setIfInBounds_toArray, List.set_cons_zero, List.set_cons_succ]
      refine wpAnyH_take (i := 5) (oi := { dst := some 10, op := Go.Op.move (Go.Operand.tmp 1), type := 3, pos := "ref.go:247", after := #[{ on := 4, ground := Go.Ground.guard }], guard := some (4, false) }) (v := ?v5_266101) rfl (by kernel_rfl) (by kernel_rfl) (by kernel_rfl) (fun _ _ _ h => h) (Or.inl ⟨by rfl, ?y5_266101⟩) hHeld ?r5_266101
      case y5_266101 => intro w hSw; (try dsimp only at hSw); go_simp; try with_reducible rfl
      try simp only [Act.put, List.setIfInBounds_toArray, List.set_cons_zero, List.set_cons_succ]
      refine wpAnyH_take (i := 6) (oi := { dst := some 11, op := Go.Op.move (Go.Operand.tmp 0), type := 125, pos := "ref.go:247", after := #[{ on := 4, ground := Go.Ground.guard }], guard := some (4, false) }) (v := ?v6_266101) rfl (by kernel_rfl) (by kernel_rfl) (by kernel_rfl) (fun _ _ _ h => h) (Or.inl ⟨by rfl, ?y6_266101⟩) hHeld ?r6_266101
      case y6_266101 => intro w hSw; (try dsimp only at hSw); go_simp; try with_reducible rfl
      try simp only [Act.put, List.setIfInBounds_toArray, List.set_cons_zero, List.set_cons_succ]
      refine wpAnyH_take (i := 7) (oi := { dst := some 12, op := Go.Op.nilCheck (Go.Operand.tmp 11), type := 0, pos := "ref.go:247", after := #[{ on := 6, ground := Go.Ground.data }, { on := 4, ground := Go.Ground.guard }], guard := some (4, false) }) (v := ?v7_266101) rfl (by kernel_rfl) (by kernel_rfl) (by kernel_rfl) (fun _ _ _ h => h) (Or.inl ⟨by rfl, ?y7_266101⟩) hHeld ?r7_266101
      case y7_266101 => intro w hSw; (try dsimp only at hSw); go_simp; try with_reducible rfl
      try simp only [Act.put, List.setIfInBounds_toArray, List.set_cons_zero, List.set_cons_succ]
      refine wpAnyH_take (i := 8) (oi := { dst := some 13, op := Go.Op.fieldAddr 127 (Go.Operand.tmp 12) 0, type := 0, pos := "ref.go:247", after := #[{ on := 7, ground := Go.Ground.data }, { on := 4, ground := Go.Ground.guard }], guard := some (4, false) }) (v := ?v8_266101) rfl (by kernel_rfl) (by kernel_rfl) (by kernel_rfl) (fun _ _ _ h => h) (Or.inl ⟨by rfl, ?y8_266101⟩) hHeld ?r8_266101
      case y8_266101 => intro w hSw; (try dsimp only at hSw); go_simp; try with_reducible rfl
      try simp only [Act.put, List.setIfInBounds_toArray, List.set_cons_zero, List.set_cons_succ]
      refine wpAnyH_take (i := 9) (oi := { dst := some 14, op := Go.Op.load 9 (Go.Operand.tmp 13), type := 9, pos := "ref.go:247", after := #[{ on := 8, ground := Go.Ground.data }, { on := 4, ground := Go.Ground.guard }], guard := some (4, false) }) (v := ?v9_266101) rfl (by kernel_rfl) (by kernel_rfl) (by kernel_rfl) (fun _ _ _ h => h) (Or.inl ⟨by rfl, ?y9_266101⟩) hHeld ?r9_266101
      case y9_266101 => intro w hSw; (try dsimp only at hSw); obtain ⟨c0, c1, c2, f1, f2⟩ := hSw.1.cells; go_simp; try with_reducible rfl
      try simp only [Act.put, List.setIfInBounds_toArray, List.set_cons_zero, List.set_cons_succ]
      refine wpAnyH_take (i := 10) (oi := { dst := some 15, op := Go.Op.call { callee := Go.Callee.builtin Go.Builtin.len, args := #[Go.Operand.tmp 14], argTypes := #[9] }, type := 3, pos := "ref.go:247", after := #[{ on := 9, ground := Go.Ground.data }, { on := 4, ground := Go.Ground.guard }], guard := some (4, false) }) (v := ?v10_266101) rfl (by kernel_rfl) (by kernel_rfl) (by kernel_rfl) (fun _ _ _ h => h) (Or.inl ⟨by rfl, ?y10_266101⟩) hHeld ?r10_266101
      case y10_266101 => intro w hSw; (try dsimp only at hSw); go_simp; try with_reducible rfl
      try simp only [Act.put, List.setIfInBounds_toArray, List.set_cons_zero, List.set_cons_succ]
      refine wpAnyH_take (i := 11) (oi := { dst := some 16, op := Go.Op.move (Go.Operand.tmp 0), type := 125, pos := "ref.go:247", after := #[{ on := 4, ground := Go.Ground.guard }], guard := some (4, false) }) (v := ?v11_266101) rfl (by kernel_rfl) (by kernel_rfl) (by kernel_rfl) (fun _ _ _ h => h) (Or.inl ⟨by rfl, ?y11_266101⟩) hHeld ?r11_266101
      case y11_266101 => intro w hSw; (try dsimp only at hSw); go_simp; try with_reducible rfl
      try simp only [Act.put, List.setIfInBounds_toArray, List.set_cons_zero, List.set_cons_succ]
      refine wpAnyH_take (i := 12) (oi := { dst := some 17, op := Go.Op.nilCheck (Go.Operand.tmp 16), type := 0, pos := "ref.go:247", after := #[{ on := 11, ground := Go.Ground.data }, { on := 4, ground := Go.Ground.guard }], guard := some (4, false) }) (v := ?v12_266101) rfl (by kernel_rfl) (by kernel_rfl) (by kernel_rfl) (fun _ _ _ h => h) (Or.inl ⟨by rfl, ?y12_266101⟩) hHeld ?r12_266101
      case y12_266101 => intro w hSw; (try dsimp only at hSw); go_simp; try with_reducible rfl
      try simp only [Act.put, List.setIfInBounds_toArray, List.set_cons_zero, List.set_cons_succ]
      refine wpAnyH_take (i := 13) (oi := { dst := some 18, op := Go.Op.fieldAddr 127 (Go.Operand.tmp 17) 1, type := 0, pos := "ref.go:247", after := #[{ on := 12, ground := Go.Ground.data }, { on := 4, ground := Go.Ground.guard }], guard := some (4, false) }) (v := ?v13_266101) rfl (by kernel_rfl) (by kernel_rfl) (by kernel_rfl) (fun _ _ _ h => h) (Or.inl ⟨by rfl, ?y13_266101⟩) hHeld ?r13_266101
      case y13_266101 => intro w hSw; (try dsimp only at hSw); go_simp; try with_reducible rfl
      try simp only [Act.put, List.setIfInBounds_toArray, List.set_cons_zero, List.set_cons_succ]
      refine wpAnyH_take (i := 14) (oi := { dst := some 19, op := Go.Op.load 3 (Go.Operand.tmp 18), type := 3, pos := "ref.go:247", after := #[{ on := 13, ground := Go.Ground.data }, { on := 4, ground := Go.Ground.guard }], guard := some (4, false) }) (v := ?v14_266101) rfl (by kernel_rfl) (by kernel_rfl) (by kernel_rfl) (fun _ _ _ h => h) (Or.inl ⟨by rfl, ?y14_266101⟩) hHeld ?r14_266101
      case y14_266101 => intro w hSw; (try dsimp only at hSw); obtain ⟨c0, c1, c2, f1, f2⟩ := hSw.1.cells; go_simp; try with_reducible rfl
      try simp only [Act.put, List.setIfInBounds_toArray, List.set_cons_zero, List.set_cons_succ]
      refine wpAnyH_take (i := 15) (oi := { dst := some 20, op := Go.Op.binOp Go.BinOp.sub 3 (Go.Operand.tmp 15) (Go.Operand.tmp 19) 3, type := 3, pos := "ref.go:247", after := #[{ on := 10, ground := Go.Ground.data }, { on := 14, ground := Go.Ground.data }, { on := 4, ground := Go.Ground.guard }], guard := some (4, false) }) (v := ?v15_266101) rfl (by kernel_rfl) (by kernel_rfl) (by kernel_rfl) (fun _ _ _ h => h) (Or.inl ⟨by rfl, ?y15_266101⟩) hHeld ?r15_266101
      case y15_266101 => intro w hSw; (try dsimp only at hSw); go_simp; try with_reducible rfl
      try simp only [Act.put, List.setIfInBounds_toArray, List.set_cons_zero, List.set_cons_succ]
      refine wpAnyH_take (i := 16) (oi := { dst := some 21, op := Go.Op.binOp Go.BinOp.gtr 3 (Go.Operand.tmp 10) (Go.Operand.tmp 20) 3, type := 4, pos := "ref.go:247", after := #[{ on := 5, ground := Go.Ground.data }, { on := 15, ground := Go.Ground.data }, { on := 4, ground := Go.Ground.guard }], guard := some (4, false) }) (v := ?v16_266101) rfl (by kernel_rfl) (by kernel_rfl) (by kernel_rfl) (fun _ _ _ h => h) (Or.inl ⟨by rfl, ?y16_266101⟩) hHeld ?r16_266101
      case y16_266101 => intro w hSw; (try dsimp only at hSw); go_simp; try with_reducible rfl
      try simp only [Act.put, List.setIfInBounds_toArray, List.set_cons_zero, List.set_cons_succ]
      refine wpAnyH_take (i := 17) (oi := { dst := some 22, op := Go.Op.pick (Go.Operand.tmp 9) (Go.Operand.const (Go.Value.bool true)) (Go.Operand.tmp 21), type := 4, pos := "ref.go:247", after := #[{ on := 4, ground := Go.Ground.data }, { on := 16, ground := Go.Ground.data }], guard := none }) (v := ?v17_266101) rfl (by kernel_rfl) (by kernel_rfl) (by kernel_rfl) (fun _ _ _ h => h) (Or.inl ⟨by rfl, ?y17_266101⟩) hHeld ?r17_266101
      case y17_266101 => intro w hSw; (try dsimp only at hSw); go_simp; try with_reducible rfl
      try simp only [Act.put, List.setIfInBounds_toArray, List.set_cons_zero, List.set_cons_succ]
      refine wpAnyH_done (by kernel_rfl) ?_ _
      obtain ⟨c0, c1, c2, f1, f2⟩ := hHeld.1.cells
      go_wp2
      go_ret
      exact ⟨⟨#[]⟩, a, true, rfl, Nat.zero_le _, hHeld.1.bad, hHeld.2.trans (grown_cell _ _ _ _), Stp.lack (fun _ => HP.out) HA.out⟩
end Go.Proofs.Ytkoafkajmfodkaa
end

section
namespace Go.Proofs.Ytkoafkajmfodkaa
open Go.RowKit

theorem nmG_over (s : ByteArray) (A H : Nat) (B : List UInt8) (nx : Nat) (hB : 255 < B.length) : nmG s A H B nx = none := by
  induction A, H, B, nx using nmG.induct s with
  | case1 A H B nx h h0 hb => exact nmG_long h h0 hb
  | case2 A H B nx h h0 hb => omega
  | case3 A H B nx h h0 h63 hb => exact nmG_brk h h0 h63 hb
  | case4 A H B nx h h0 h63 hb ih => omega
  | case5 A H B nx h h0 h63 hb => exact nmG_short h h63 hb
  | case6 A H B nx h h0 h63 hb hp ih => rw [nmG_go h h63 hb hp]; exact ih hB
  | case7 A H B nx h h0 h63 hb hp => exact nmG_far h h63 hb hp
  | case8 A H B nx h => exact nmG_out h
theorem and63 (x : Nat) (h : x < 65536) : bits .and .i64 (x : Int) 63 = ((x % 64 : Nat) : Int) := by
  have := andI x 63 h (by decide)
  rw [show ((63 : Nat) : Int) = 63 from rfl] at this
  rw [this, show (63 : Nat) = 2 ^ 6 - 1 from rfl, Nat.and_two_pow_sub_one_eq_mod]
theorem getTo2 (s : ByteArray) (A : Nat) : getTo s A 2 = (byteAt s A : Int) * 256 + (byteAt s (A + 1) : Int) := by simp [getTo]
/-- What the document's reader of a name tells. -/
def RnB (w : World) (q : Nat) (s : ByteArray) (a : Nat) (b : Bool) (en : Ending) (w' : World) : Prop := ∃ v a' b', en = .returned (.string v) ∧ v.size ≤ 400 ∧ RdB w' q s a' b' ∧ w.grownBy w' (some q) ∧ Stp s (nameP s a) (eB b) v a' (eB b')
set_option maxRecDepth 100000 in
set_option maxHeartbeats 16000000 in
theorem rname_b (q : Nat) (s : ByteArray) (a : Nat) (b : Bool) (w : World) (h : RdB w q s a b) (ha : a ≤ s.size) (hs : s.size ≤ 20000) :
    Calls Try.prog 71 #[.pointer (some ⟨q, 0, none⟩)] w fun en w' => RnB w q s a b en w' := by
  have HR := Lib.hid h
  have HA0 := Lib.hid ha
  have HS := Lib.hid hs
  obtain ⟨R, hR⟩ : ∃ x, nmG s a a [] 0 = x := ⟨_, rfl⟩
  have HP := Lib.hid (show nameP s a = R.map fun x => (lowS (bs (x.1 ++ [0])), x.2) by rw [nameP, hR])
  have HR0 := Lib.hid hR
  have HLE := Lib.hid (fun C n hn => nmG_le s a a [] 0 C n (Nat.zero_le _) hn)
  rw [hR] at HLE
  clear h ha hs hR
  go_enter Try.func71, Try.ntmps71
  go_wp2_with fail
  refine wp_region_held_drew (S := (fun wx => RdB wx q s a b ∧ w.grownBy wx (some q))) (by kernel_rfl) (⟨HR.out.drew, grown_drew (World.grownBy.refl _ _)⟩) (fun hHeld => ?_)
  obtain ⟨wz, hwd⟩ : ∃ x, w.drew = x := ⟨_, rfl⟩
  rw [hwd] at hHeld ⊢
  clear hwd
  refine wpAnyH_take (i := 0) (oi := { dst := some 10, op := Go.Op.move (Go.Operand.tmp 0), type := 125, pos := "ref.go:204", after := #[], guard := none }) (v := ?v0_270101) rfl (by kernel_rfl) (by kernel_rfl) (by kernel_rfl) (fun _ _ _ h => h) (Or.inl ⟨by rfl, ?y0_270101⟩) hHeld ?r0_270101
  case y0_270101 => intro w hSw; (try dsimp only at hSw); go_simp; try with_reducible rfl
  try simp only [Act.put, List.setIfInBounds_toArray, List.set_cons_zero, List.set_cons_succ]
  refine wpAnyH_take (i := 1) (oi := { dst := some 11, op := Go.Op.nilCheck (Go.Operand.tmp 10), type := 0, pos := "ref.go:204", after := #[{ on := 0, ground := Go.Ground.data }], guard := none }) (v := ?v1_270101) rfl (by kernel_rfl) (by kernel_rfl) (by kernel_rfl) (fun _ _ _ h => h) (Or.inl ⟨by rfl, ?y1_270101⟩) hHeld ?r1_270101
  case y1_270101 => intro w hSw; (try dsimp only at hSw); go_simp; try with_reducible rfl
  try simp only [Act.put, List.setIfInBounds_toArray, List.set_cons_zero, List.set_cons_succ]
  refine wpAnyH_take (i := 2) (oi := { dst := some 12, op := Go.Op.fieldAddr 127 (Go.Operand.tmp 11) 1, type := 0, pos := "ref.go:204", after := #[{ on := 1, ground := Go.Ground.data }], guard := none }) (v := ?v2_270101) rfl (by kernel_rfl) (by kernel_rfl) (by kernel_rfl) (fun _ _ _ h => h) (Or.inl ⟨by rfl, ?y2_270101⟩) hHeld ?r2_270101
  case y2_270101 => intro w hSw; (try dsimp only at hSw); go_simp; try with_reducible rfl
  try simp only [Act.put, List.setIfInBounds_toArray, List.set_cons_zero, List.set_cons_succ]
  refine wpAnyH_take (i := 3) (oi := { dst := some 13, op := Go.Op.load 3 (Go.Operand.tmp 12), type := 3, pos := "ref.go:204", after := #[{ on := 2, ground := Go.Ground.data }], guard := none }) (v := ?v3_270101) rfl (by kernel_rfl) (by kernel_rfl) (by kernel_rfl) (fun _ _ _ h => h) (Or.inl ⟨by rfl, ?y3_270101⟩) hHeld ?r3_270101
  case y3_270101 => intro w hSw; (try dsimp only at hSw); obtain ⟨c0, c1, c2, f1, f2⟩ := hSw.1.cells; go_simp; try with_reducible rfl
  try simp only [Act.put, List.setIfInBounds_toArray, List.set_cons_zero, List.set_cons_succ]
  refine wpAnyH_take (i := 4) (oi := { dst := some 14, op := Go.Op.move (Go.Operand.tmp 0), type := 125, pos := "ref.go:204", after := #[{ on := 8, ground := Go.Ground.gcOnly Go.Departure.lateStores }], guard := none }) (v := ?v4_270101) rfl (by kernel_rfl) (by kernel_rfl) (by kernel_rfl) (fun _ _ _ h => h) (Or.inl ⟨by rfl, ?y4_270101⟩) hHeld ?r4_270101
  case y4_270101 => intro w hSw; (try dsimp only at hSw); go_simp; try with_reducible rfl
  try simp only [Act.put, List.setIfInBounds_toArray, List.set_cons_zero, List.set_cons_succ]
  refine wpAnyH_take (i := 5) (oi := { dst := some 15, op := Go.Op.nilCheck (Go.Operand.tmp 14), type := 0, pos := "ref.go:204", after := #[{ on := 4, ground := Go.Ground.data }, { on := 8, ground := Go.Ground.gcOnly Go.Departure.lateStores }], guard := none }) (v := ?v5_270101) rfl (by kernel_rfl) (by kernel_rfl) (by kernel_rfl) (fun _ _ _ h => h) (Or.inl ⟨by rfl, ?y5_270101⟩) hHeld ?r5_270101
  case y5_270101 => intro w hSw; (try dsimp only at hSw); go_simp; try with_reducible rfl
  try simp only [Act.put, List.setIfInBounds_toArray, List.set_cons_zero, List.set_cons_succ]
  refine wpAnyH_take (i := 6) (oi := { dst := some 16, op := Go.Op.fieldAddr 127 (Go.Operand.tmp 15) 1, type := 0, pos := "ref.go:204", after := #[{ on := 5, ground := Go.Ground.data }, { on := 8, ground := Go.Ground.gcOnly Go.Departure.lateStores }], guard := none }) (v := ?v6_270101) rfl (by kernel_rfl) (by kernel_rfl) (by kernel_rfl) (fun _ _ _ h => h) (Or.inl ⟨by rfl, ?y6_270101⟩) hHeld ?r6_270101
  case y6_270101 => intro w hSw; (try dsimp only at hSw); go_simp; try with_reducible rfl
  try simp only [Act.put, List.setIfInBounds_toArray, List.set_cons_zero, List.set_cons_succ]
  refine wpAnyH_take (i := 7) (oi := { dst := some 17, op := Go.Op.load 3 (Go.Operand.tmp 16), type := 3, pos := "ref.go:204", after := #[{ on := 6, ground := Go.Ground.data }, { on := 8, ground := Go.Ground.gcOnly Go.Departure.lateStores }], guard := none }) (v := ?v7_270101) rfl (by kernel_rfl) (by kernel_rfl) (by kernel_rfl) (fun _ _ _ h => h) (Or.inl ⟨by rfl, ?y7_270101⟩) hHeld ?r7_270101
  case y7_270101 => intro w hSw; (try dsimp only at hSw); obtain ⟨c0, c1, c2, f1, f2⟩ := hSw.1.cells; go_simp; try with_reducible rfl
  try simp only [Act.put, List.setIfInBounds_toArray, List.set_cons_zero, List.set_cons_succ]
  refine wpAnyH_take (i := 8) (oi := { dst := some 4, op := Go.Op.assign (Go.Operand.tmp 13), type := 3, pos := "ref.go:204", after := #[{ on := 3, ground := Go.Ground.data }, { on := 0, ground := Go.Ground.phase }, { on := 1, ground := Go.Ground.phase }, { on := 2, ground := Go.Ground.phase }, { on := 3, ground := Go.Ground.phase }, { on := 4, ground := Go.Ground.textOnly Go.Departure.lateStores }, { on := 5, ground := Go.Ground.textOnly Go.Departure.lateStores }, { on := 6, ground := Go.Ground.textOnly Go.Departure.lateStores }, { on := 7, ground := Go.Ground.textOnly Go.Departure.lateStores }], guard := none }) (v := ?v8_270101) rfl (by kernel_rfl) (by kernel_rfl) (by kernel_rfl) (fun _ _ _ h => h) (Or.inl ⟨by rfl, ?y8_270101⟩) hHeld ?r8_270101
  case y8_270101 => intro w hSw; (try dsimp only at hSw); go_simp; try with_reducible rfl
  try simp only [Act.put, List.setIfInBounds_toArray, List.set_cons_zero, List.set_cons_succ]
  refine wpAnyH_take (i := 9) (oi := { dst := some 5, op := Go.Op.assign (Go.Operand.tmp 17), type := 3, pos := "ref.go:204", after := #[{ on := 7, ground := Go.Ground.data }, { on := 8, ground := Go.Ground.chain }, { on := 0, ground := Go.Ground.phase }, { on := 1, ground := Go.Ground.phase }, { on := 2, ground := Go.Ground.phase }, { on := 3, ground := Go.Ground.phase }, { on := 4, ground := Go.Ground.phase }, { on := 5, ground := Go.Ground.phase }, { on := 6, ground := Go.Ground.phase }, { on := 7, ground := Go.Ground.phase }, { on := 8, ground := Go.Ground.phase }], guard := none }) (v := ?v9_270101) rfl (by kernel_rfl) (by kernel_rfl) (by kernel_rfl) (fun _ _ _ h => h) (Or.inl ⟨by rfl, ?y9_270101⟩) hHeld ?r9_270101
  case y9_270101 => intro w hSw; (try dsimp only at hSw); go_simp; try with_reducible rfl
  try simp only [Act.put, List.setIfInBounds_toArray, List.set_cons_zero, List.set_cons_succ]
  refine wpAnyH_take (i := 10) (oi := { dst := some 6, op := Go.Op.assign (Go.Operand.const (Go.Value.bool false)), type := 4, pos := "ref.go:204", after := #[{ on := 9, ground := Go.Ground.chain }, { on := 0, ground := Go.Ground.phase }, { on := 1, ground := Go.Ground.phase }, { on := 2, ground := Go.Ground.phase }, { on := 3, ground := Go.Ground.phase }, { on := 4, ground := Go.Ground.phase }, { on := 5, ground := Go.Ground.phase }, { on := 6, ground := Go.Ground.phase }, { on := 7, ground := Go.Ground.phase }, { on := 8, ground := Go.Ground.phase }, { on := 9, ground := Go.Ground.phase }], guard := none }) (v := ?v10_270101) rfl (by kernel_rfl) (by kernel_rfl) (by kernel_rfl) (fun _ _ _ h => h) (Or.inl ⟨by rfl, ?y10_270101⟩) hHeld ?r10_270101
  case y10_270101 => intro w hSw; (try dsimp only at hSw); go_simp; try with_reducible rfl
  try simp only [Act.put, List.setIfInBounds_toArray, List.set_cons_zero, List.set_cons_succ]
  refine wpAnyH_done (by kernel_rfl) ?_ _
  have HW0 := Lib.hid hHeld
  clear hHeld HR
  go_wp2_with fail
  go_loopw [3, 4, 5, 6] (fun ov lv av gv wr => ∃ (A H nx p : Nat) (B : List UInt8) (bd gn : Bool) (o : ByteArray), A ≤ s.size ∧ H ≤ s.size ∧ nx ≤ s.size ∧ B.length ≤ 400 ∧ ov = .string o ∧ lv = .int .i64 H ∧ av = .int .i64 A ∧ gv = .bool gn ∧ Hid (o = bs B) ∧ Hid (gn = decide (nx ≠ 0)) ∧ Hid (p ≤ s.size ∧ (nx ≠ 0 → p = nx)) ∧ Hid (RdB wr q s p bd) ∧ Hid (w.grownBy wr (some q)) ∧ Hid (LabB B) ∧ Hid ((bd = false → b = false ∧ nmG s A H B nx = R) ∧ (bd = true → b = true ∨ R = none))) (fun _ lv av _ wr => (intOf lv).toNat * (s.size + 3) + ((s.size + 1 - (intOf av).toNat) + (match wr.cell? ⟨q, 2, none⟩ with | some (.bool true) => 0 | _ => 1)))
  case atStart =>
    cases b with
    | true => exact ⟨a, a, 0, a, [], true, false, ⟨#[]⟩, HA0.out, HA0.out, Nat.zero_le _, by simp, rfl, rfl, rfl, rfl, Lib.hid rfl, Lib.hid rfl, Lib.hid ⟨HA0.out, fun h => absurd rfl h⟩, Lib.hid HW0.out.1, Lib.hid HW0.out.2, Lib.hid LabB.nil, Lib.hid ⟨fun h => (by cases h), fun _ => Or.inl rfl⟩⟩
    | false => exact ⟨a, a, 0, a, [], false, false, ⟨#[]⟩, HA0.out, HA0.out, Nat.zero_le _, by simp, rfl, rfl, rfl, rfl, Lib.hid rfl, Lib.hid rfl, Lib.hid ⟨HA0.out, fun h => absurd rfl h⟩, Lib.hid HW0.out.1, Lib.hid HW0.out.2, Lib.hid LabB.nil, Lib.hid ⟨fun _ => ⟨rfl, HR0.out⟩, fun h => (by cases h)⟩⟩
  case round =>
    obtain ⟨A, H, nx, p, B, bd, gn, o, hA1, hH1, hnx, hBl, rfl, rfl, rfl, rfl, HO, HGN, HPP, HR, HG, HLB, HST⟩ := hrel
    have HOS := Lib.hid (show o.size = B.length by rw [HO.out, bs_size])
    have HEX := Lib.hid (show H ≤ s.size ∧ nx ≤ s.size ∧ s.size ≤ 20000 ∧ A ≤ s.size ∧ B.length ≤ 400 from ⟨hH1, hnx, HS.out, hA1, hBl⟩)
    clear HR0 HW0 hH1 hnx hBl
    have hs2 : s.size ≤ 20000 := HS.out
    obtain ⟨c0, c1, c2, f1, f2⟩ := HR.out.cells
    cases bd with
    | true =>
      have HBB := Lib.hid (HST.out.2 rfl)
      go_wp2
      go_ret
      exact ⟨⟨#[]⟩, p, true, rfl, Nat.zero_le _, HR.out.bad, HG.out.trans (grown_cell _ _ _ _), Stp.lack (fun he => by (rcases HBB.out with hb | hb; (subst hb; cases he); (rw [HP.out, hb]; rfl))) HPP.out.1⟩
    | false =>
      obtain ⟨hb0, hng⟩ := HST.out.1 rfl
      have HB0 := Lib.hid hb0
      have HNG := Lib.hid hng
      clear hb0 hng HST
      by_cases g1 : 255 < o.size
      · have d1 := dF (p := (o.size : Int) ≤ 255) (by omega)
        have HRN := Lib.hid (show R = none by rw [← HNG.out]; exact nmG_over _ _ _ _ _ (by rw [← HOS.out]; exact g1))
        clear g1
        go_wp2
        go_ret
        exact ⟨⟨#[]⟩, p, true, rfl, Nat.zero_le _, HR.out.bad, HG.out.trans (grown_cell _ _ _ _), Stp.lack (fun he => by rw [HP.out, HRN.out]; rfl) HPP.out.1⟩
      have d1 := dT (p := (o.size : Int) ≤ 255) (by omega)
      by_cases g0 : A < s.size
      rotate_left
      · have d0 := dT (p := (s.size : Int) ≤ (A : Int)) (by omega)
        have d0n := dT (p := s.size ≤ A) (by omega)
        have HRN := Lib.hid (show R = none by rw [← HNG.out]; exact nmG_out g0)
        clear g1 g0
        go_wp2
        go_ret
        exact ⟨⟨#[]⟩, p, true, rfl, Nat.zero_le _, HR.out.bad, HG.out.trans (grown_cell _ _ _ _), Stp.lack (fun he => by rw [HP.out, HRN.out]; rfl) HPP.out.1⟩
      have d0 := dF (p := (s.size : Int) ≤ (A : Int)) (by omega)
      have d0n := dF (p := s.size ≤ A) (by omega)
      have hbl := byteAt_lt s A
      have hg := byte_get g0
      obtain ⟨c, hc⟩ : ∃ x, byteAt s A = x := ⟨_, rfl⟩
      rw [hc] at hg hbl
      have HC := Lib.hid hc
      clear hc
      by_cases k0 : c = 0
      · have e0 := eT (a := (c : Int)) (b := 0) (by omega)
        have hcc : (9223372036854775807 < o.size + 1) = False := eq_false (by omega)
        have HSZ := Lib.hid (show (bs (B ++ [0])).size ≤ 1000000 by rw [bs_size, List.length_append]; have := HEX.out; simp; omega)
        have HCAT := Lib.hid (show o ++ (⟨#[0]⟩ : ByteArray) = bs (B ++ [0]) by rw [HO.out]; exact bs_append B [0])
        have HLS := Lib.hid (show (lowS (bs (B ++ [0]))).size = o.size + 1 by rw [lowS_size, bs_size, List.length_append, HOS.out]; rfl)
        obtain ⟨LW, hLW⟩ : ∃ x, lowS (bs (B ++ [0])) = x := ⟨_, rfl⟩
        have HLW := Lib.hid hLW
        rw [hLW] at HLS
        have HLL := Lib.hid (fun wx => rlower_any (bs (B ++ [0])) wx HSZ.out)
        rw [hLW] at HLL
        clear hLW
        have HLZ := Lib.hid (show LW.size ≤ 400 by rw [HLS.out]; omega)
        by_cases g2 : 255 ≤ B.length
        · have HRN := Lib.hid (show R = none by rw [← HNG.out]; exact nmG_long g0 (HC.out.trans k0) g2)
          have HMY := Lib.hid (show mayN LW = false from may_256 (by rw [HLS.out, HOS.out]; omega))
          clear g2 k0 g1
          have HA2 := Lib.hid (show A + 1 ≤ s.size by omega)
          by_cases g3 : nx = 0
          rotate_left
          · skip
            have dg : gn = true := by rw [HGN.out]; exact dT g3
            subst dg
            go_wp2_with fail
            rw [HCAT.out]
            refine (HLL.out _).mono ?_; rintro en w3 ⟨rfl, hb⟩
            have HR3 := Lib.hid (HR.out.below hb)
            have HG3 := Lib.hid (HG.out.trans (below_grown hb (some q)))
            clear hb c0 c1 c2 f1 f2
            go_wp2_with fail
            refine (rmay_any LW _ (by have := HLZ.out; omega)).mono ?_; rintro en w4 ⟨rfl, rfl⟩
            rw [HMY.out]
            obtain ⟨c0, c1, c2, f1, f2⟩ := HR3.out.cells
            go_wp2
            go_ret
            exact ⟨LW, p, true, rfl, HLZ.out, HR3.out.bad, HG3.out.trans (grown_cell _ _ _ _), Stp.lack (fun _ => by rw [HP.out, HRN.out]; rfl) HPP.out.1⟩
          skip
          have dg : gn = false := by rw [HGN.out]; exact dF (fun h => h g3)
          subst dg
          go_wp2_with fail
          rw [HCAT.out]
          refine (HLL.out _).mono ?_; rintro en w3 ⟨rfl, hb⟩
          have HR3 := Lib.hid ((HR.out.at (A + 1)).below hb)
          have HG3 := Lib.hid ((HG.out.trans (grown_cell _ _ _ _)).trans (below_grown hb (some q)))
          clear hb c0 c1 c2 f1 f2
          go_wp2_with fail
          refine (rmay_any LW _ (by have := HLZ.out; omega)).mono ?_; rintro en w4 ⟨rfl, rfl⟩
          rw [HMY.out]
          obtain ⟨c0, c1, c2, f1, f2⟩ := HR3.out.cells
          go_wp2
          go_ret
          exact ⟨LW, (A + 1), true, rfl, HLZ.out, HR3.out.bad, HG3.out.trans (grown_cell _ _ _ _), Stp.lack (fun _ => by rw [HP.out, HRN.out]; rfl) HA2.out⟩
        have HA2 := Lib.hid (show A + 1 ≤ s.size by omega)
        have HMY := Lib.hid (show mayN LW = true by rw [← HLW.out]; exact HLB.out.may (by omega))
        have HRN0 := Lib.hid (show R = some (B, if nx = 0 then A + 1 else nx) by rw [← HNG.out]; exact nmG_end g0 (HC.out.trans k0) g2)
        clear g2 k0 g1
        by_cases g3 : nx = 0
        rotate_left
        · have HRN := Lib.hid (show R = some (B, p) by rw [HRN0.out, if_neg g3, HPP.out.2 g3])
          have dg : gn = true := by rw [HGN.out]; exact dT g3
          subst dg
          go_wp2_with fail
          rw [HCAT.out]
          refine (HLL.out _).mono ?_; rintro en w3 ⟨rfl, hb⟩
          have HR3 := Lib.hid (HR.out.below hb)
          have HG3 := Lib.hid (HG.out.trans (below_grown hb (some q)))
          clear hb c0 c1 c2 f1 f2
          go_wp2_with fail
          refine (rmay_any LW _ (by have := HLZ.out; omega)).mono ?_; rintro en w4 ⟨rfl, rfl⟩
          rw [HMY.out]
          obtain ⟨c0, c1, c2, f1, f2⟩ := HR3.out.cells
          go_wp2
          go_ret
          exact ⟨LW, p, false, rfl, HLZ.out, HR3.out, HG3.out, by rw [HB0.out]; exact Stp.yes (by rw [HP.out, HRN.out, ← HLW.out]; rfl) HPP.out.1⟩
        have HRN := Lib.hid (show R = some (B, A + 1) by rw [HRN0.out, if_pos g3])
        have dg : gn = false := by rw [HGN.out]; exact dF (fun h => h g3)
        subst dg
        go_wp2_with fail
        rw [HCAT.out]
        refine (HLL.out _).mono ?_; rintro en w3 ⟨rfl, hb⟩
        have HR3 := Lib.hid ((HR.out.at (A + 1)).below hb)
        have HG3 := Lib.hid ((HG.out.trans (grown_cell _ _ _ _)).trans (below_grown hb (some q)))
        clear hb c0 c1 c2 f1 f2
        go_wp2_with fail
        refine (rmay_any LW _ (by have := HLZ.out; omega)).mono ?_; rintro en w4 ⟨rfl, rfl⟩
        rw [HMY.out]
        obtain ⟨c0, c1, c2, f1, f2⟩ := HR3.out.cells
        go_wp2
        go_ret
        exact ⟨LW, (A + 1), false, rfl, HLZ.out, HR3.out, HG3.out, by rw [HB0.out]; exact Stp.yes (by rw [HP.out, HRN.out, ← HLW.out]; rfl) HA2.out⟩
      have e0 := eF (a := (c : Int)) (b := 0) (by omega)
      by_cases k1 : 192 ≤ c
      · have e1 := dT (p := (192 : Int) ≤ (c : Int)) (by omega)
        have h63 : ¬ byteAt s A ≤ 63 := by rw [HC.out]; omega
        by_cases g4 : A + 1 < s.size
        rotate_left
        · have d4 := dT (p := (s.size : Int) ≤ (A : Int) + 1) (by omega)
          have d4n := dT (p := s.size ≤ A + 1) (by omega)
          have HRN := Lib.hid (show R = none by rw [← HNG.out]; exact nmG_short g0 h63 (by omega))
          clear g4 h63 k1 k0 g1
          go_wp2
          go_ret
          exact ⟨⟨#[]⟩, p, true, rfl, Nat.zero_le _, HR.out.bad, HG.out.trans (grown_cell _ _ _ _), Stp.lack (fun he => by rw [HP.out, HRN.out]; rfl) HPP.out.1⟩
        have d4 := dF (p := (s.size : Int) ≤ (A : Int) + 1) (by omega)
        have d4n := dF (p := s.size ≤ A + 1) (by omega)
        have hbm := byteAt_lt s (A + 1)
        have hgm := byte_get g4
        have HGT := Lib.hid (getTo2 s A)
        rw [HC.out] at HGT
        obtain ⟨m, hm⟩ : ∃ x, byteAt s (A + 1) = x := ⟨_, rfl⟩
        rw [hm] at hgm hbm HGT
        clear hm
        have ha63 : bits .and .i64 (c : Int) 63 = ((c - 192 : Nat) : Int) := by rw [and63 c (by omega)]; congr 1; omega
        obtain ⟨P, hP⟩ : ∃ P : Nat, (c - 192) * 256 + m = P := ⟨_, rfl⟩
        have hor : bits .or .i64 (((c - 192 : Nat) : Int) * 256) (m : Int) = (P : Int) := by rw [or_join _ _ (by omega) (by omega) (by omega) (by omega)]; omega
        have HGP := Lib.hid (show (getTo s A 2 - 49152).toNat = P ∧ 49152 ≤ getTo s A 2 by rw [HGT.out]; omega)
        obtain ⟨ct, hct⟩ : ∃ x : Nat, c - 192 = x := ⟨_, rfl⟩
        rw [hct] at ha63 hor
        have hctb : ct < 64 := by omega
        clear hct hP
        by_cases g6 : P < H
        rotate_left
        · have d6 := dT (p := H ≤ P) (by omega)
          have HRN := Lib.hid (show R = none by rw [← HNG.out]; exact nmG_far g0 h63 (by omega) (fun hp => g6 (by rw [← HGP.out.1]; exact hp.1)))
          clear g6 h63 k1 k0 g1
          go_wp2
          go_ret
          exact ⟨⟨#[]⟩, p, true, rfl, Nat.zero_le _, HR.out.bad, HG.out.trans (grown_cell _ _ _ _), Stp.lack (fun he => by rw [HP.out, HRN.out]; rfl) HPP.out.1⟩
        have d6 := dF (p := H ≤ P) (by omega)
        have HRN0 := Lib.hid (show nmG s P P B (if nx = 0 then A + 2 else nx) = R by rw [← HNG.out, nmG_go g0 h63 (by omega) ⟨by rw [HGP.out.1]; exact g6, HGP.out.2⟩, HGP.out.1])
        have HMS := Lib.hid (show ∀ z, P * (s.size + 3) + ((s.size + 1 - P) + 1) < H * (s.size + 3) + z from fun z => by
          have h1 : (P + 1) * (s.size + 3) ≤ H * (s.size + 3) := Nat.mul_le_mul_right _ g6
          rw [Nat.add_mul, Nat.one_mul] at h1
          omega)
        have HPH := Lib.hid (show P ≤ s.size ∧ A + 2 ≤ s.size by have := HEX.out; omega)
        clear g6 h63 k1 k0 g1
        by_cases g3 : nx = 0
        rotate_left
        · skip
          have dg : gn = true := by rw [HGN.out]; exact dT g3
          subst dg
          have HRN := Lib.hid (show false = false → b = false ∧ nmG s P P B nx = R from fun _ => ⟨HB0.out, by rw [← HRN0.out, if_neg g3]⟩)
          have HPN := Lib.hid (HPP.out.2 g3)
          have HNZ := Lib.hid g3
          clear g3
          have hc2 := c2
          go_wp2
          go_roundw
          case rel => exact ⟨P, P, nx, p, B, false, true, o, HPH.out.1, HPH.out.1, HEX.out.2.1, HEX.out.2.2.2.2, rfl, rfl, rfl, rfl, HO, HGN, HPP, HR, HG, HLB, Lib.hid ⟨HRN.out, fun h => by cases h⟩⟩
          case measure =>
            simp only [intOf, Int.toNat_natCast]
            refine Nat.lt_of_le_of_lt (Nat.add_le_add_left (Nat.add_le_add_left (by split <;> omega) _) _) (HMS.out _)
        skip
        have dg : gn = false := by rw [HGN.out]; exact dF (fun h => h g3)
        subst dg
        have HRN := Lib.hid (show false = false → b = false ∧ nmG s P P B (A + 2) = R from fun _ => ⟨HB0.out, by rw [← HRN0.out, if_pos g3]⟩)
        clear g3
        have HRA := Lib.hid (HR.out.at (A + 2))
        have HGA := Lib.hid (HG.out.trans (grown_cell wr q 1 (.int .i64 ((A + 2 : Nat) : Int))))
        have hc2 := HRA.out.cells.2.2.1
        go_wp2
        go_roundw
        case rel => exact ⟨P, P, A + 2, A + 2, B, false, true, o, HPH.out.1, HPH.out.1, HPH.out.2, HEX.out.2.2.2.2, rfl, rfl, rfl, rfl, HO, Lib.hid rfl, Lib.hid ⟨HPH.out.2, fun _ => rfl⟩, HRA, HGA, HLB, Lib.hid ⟨HRN.out, fun h => by cases h⟩⟩
        case measure =>
          simp only [intOf, Int.toNat_natCast]
          refine Nat.lt_of_le_of_lt (Nat.add_le_add_left (Nat.add_le_add_left (by split <;> omega) _) _) (HMS.out _)
      have e1 := dF (p := (192 : Int) ≤ (c : Int)) (by omega)
      by_cases k2 : c ≤ 63
      rotate_left
      · have e2 := dT (p := (63 : Int) < (c : Int)) (by omega)
        have HRN := Lib.hid (show R = none by rw [← HNG.out]; by_cases g5 : s.size < A + 2; exact nmG_short g0 (by rw [HC.out]; exact k2) g5; exact nmG_far g0 (by rw [HC.out]; exact k2) g5 (fun hp => by have h1 := hp.2; have h2 := byteAt_lt s (A + 1); rw [getTo2, HC.out] at h1; omega))
        clear k2 k1 k0 g1
        have HRA := Lib.hid HR.out.bad
        have HGA := Lib.hid (HG.out.trans (grown_cell wr q 2 (.bool true)))
        have hc2 := HRA.out.cells.2.2.1
        go_wp2
        go_roundw
        case rel => exact ⟨A, H, nx, p, B, true, gn, o, HEX.out.2.2.2.1, HEX.out.1, HEX.out.2.1, HEX.out.2.2.2.2, rfl, rfl, rfl, rfl, HO, HGN, HPP, HRA, HGA, HLB, Lib.hid ⟨fun h => (by cases h), fun _ => Or.inr HRN.out⟩⟩
        case measure =>
          simp only [intOf, Int.toNat_natCast]
          rw [hc2, c2]
          simp only
          omega
      have e2 := dF (p := (63 : Int) < (c : Int)) (by omega)
      by_cases g5 : s.size < A + 1 + c
      · have d5 := dT (p := (s.size : Int) < (A : Int) + 1 + (c : Int)) (by omega)
        have d5n := dT (p := s.size < A + 1 + c) g5
        have HRN := Lib.hid (show R = none by rw [← HNG.out]; exact nmG_brk g0 (by rw [HC.out]; exact k0) (by rw [HC.out]; exact k2) (by rw [HC.out]; exact Or.inl g5))
        clear k2 k1 k0 g1 g5
        have HRA := Lib.hid HR.out.bad
        have HGA := Lib.hid (HG.out.trans (grown_cell wr q 2 (.bool true)))
        have hc2 := HRA.out.cells.2.2.1
        go_wp2
        go_roundw
        case rel => exact ⟨A, H, nx, p, B, true, gn, o, HEX.out.2.2.2.1, HEX.out.1, HEX.out.2.1, HEX.out.2.2.2.2, rfl, rfl, rfl, rfl, HO, HGN, HPP, HRA, HGA, HLB, Lib.hid ⟨fun h => (by cases h), fun _ => Or.inr HRN.out⟩⟩
        case measure =>
          simp only [intOf, Int.toNat_natCast]
          rw [hc2, c2]
          simp only
          omega
      have d5 := dF (p := (s.size : Int) < (A : Int) + 1 + (c : Int)) (by omega)
      have d5n := dF (p := s.size < A + 1 + c) g5
      have hE : A + 1 + c ≤ s.size := by omega
      have hE2 : A ≤ A + 1 + c := by omega
      have HRN := Lib.hid (show nmG s (A + 1 + c) H (B ++ (s.extract A (A + 1 + c)).data.toList) nx = R by rw [← HNG.out, nmG_lab g0 (by rw [HC.out]; exact k0) (by rw [HC.out]; exact k2) (by rw [HC.out, ← HOS.out]; omega), HC.out])
      have HTS := Lib.hid (show (s.extract A (A + 1 + c)).size = 1 + c by rw [extract_size _ _ _ hE]; omega)
      have HLB2 := Lib.hid (HLB.out.step HC.out ⟨by omega, k2⟩ hE)
      have HBN := Lib.hid (show (B ++ (s.extract A (A + 1 + c)).data.toList).length ≤ 400 by rw [List.length_append, size_data, HTS.out, ← HOS.out]; omega)
      have HO2 := Lib.hid (show o ++ s.extract A (A + 1 + c) = bs (B ++ (s.extract A (A + 1 + c)).data.toList) by rw [HO.out]; exact bs_append B _)
      have hcc : (9223372036854775807 < o.size + (A + 1 + c - A)) = False := eq_false (by omega)
      have HE := Lib.hid hE
      clear k2 k1 k0 g1 g5
      go_wp2
      go_roundw
      case rel => exact ⟨A + 1 + c, H, nx, p, _, false, gn, _, HE.out, HEX.out.1, HEX.out.2.1, HBN.out, rfl, rfl, by go_num, rfl, HO2, HGN, HPP, HR, HG, HLB2, Lib.hid ⟨fun _ => ⟨HB0.out, HRN.out⟩, fun h => by cases h⟩⟩
      case measure =>
        simp only [intOf]
        generalize ((H : Int).toNat) * (s.size + 3) = z
        rw [c2]
        simp only
        have := HE.out
        omega
end Go.Proofs.Ytkoafkajmfodkaa
end

section
namespace Go.Proofs.Ytkoafkajmfodkaa
open Go.RowKit

theorem Stp.closeE {s : ByteArray} {p : Option (ByteArray × Nat)} {x : ByteArray} {a2 E : Nat} {e2 : Int} (h : Stp s p 0 x a2 e2) (hE : a2 = E) : Stp s (p.bind fun r => if r.2 = E then some r else none) 0 x a2 e2 := by
  obtain ⟨hy, hn⟩ := h.2.2 rfl
  refine ⟨h.1, fun h => absurd rfl h, fun _ => ?_⟩
  cases p with
  | none => exact ⟨fun y b hy => (by cases hy), fun _ => hn rfl⟩
  | some r =>
    obtain ⟨rfl, rfl, rfl⟩ := hy r.1 r.2 rfl
    simp only [Option.bind_some]
    rw [if_pos hE]
    exact ⟨fun y b hy => by (injection hy with hy; subst hy; simp), fun hn => (by cases hn)⟩
theorem Stp.closeN {s : ByteArray} {p : Option (ByteArray × Nat)} {x : ByteArray} {a2 E : Nat} {e2 : Int} (h : Stp s p 0 x a2 e2) (hE : ¬ a2 = E) : Stp s (p.bind fun r => if r.2 = E then some r else none) 0 x a2 1 := by
  obtain ⟨hy, hn⟩ := h.2.2 rfl
  refine ⟨h.1, fun h => absurd rfl h, fun _ => ?_⟩
  cases p with
  | none => exact ⟨fun y b hy => (by cases hy), fun _ => by decide⟩
  | some r =>
    obtain ⟨rfl, rfl, rfl⟩ := hy r.1 r.2 rfl
    simp only [Option.bind_some]
    rw [if_neg hE]
    exact ⟨fun y b hy => (by cases hy), fun _ => by decide⟩
theorem take_close (s : ByteArray) (n a : Nat) : ((takeP s n a).bind fun r => if r.2 = a + n then some r else none) = takeP s n a := by
  rw [takeP]
  split
  · simp
  · rfl
/-- Data of a type, so many bytes. -/
def datP (s : ByteArray) (k : Int) (n a : Nat) : Option (ByteArray × Nat) := if a + n ≤ s.size then dataP s k (a + n) a else none

set_option maxRecDepth 100000 in
set_option maxHeartbeats 8000000 in
theorem rdata_b (q : Nat) (s : ByteArray) (a n : Nat) (k : Int) (b : Bool) (w : World) (h : RdB w q s a b) (ha : a ≤ s.size) (hs : s.size ≤ 20000) (hn : n ≤ 70000) :
    Calls Try.prog 101 #[.pointer (some ⟨q, 0, none⟩), .int .i64 k, .int .i64 (n : Int)] w fun en w' => ∃ v a' b', en = .returned (.string v) ∧ v.size ≤ 40000 ∧ RdB w' q s a' b' ∧ w.grownBy w' (some q) ∧ Stp s (datP s k n a) (eB b) v a' (eB b') := by
  have HR := Lib.hid h
  have HA := Lib.hid ha
  have HS := Lib.hid hs
  clear h
  cases b with
  | true =>
    clear ha hs hn
    go_enter Try.func101, Try.ntmps101
    go_wp2_with fail
    refine wp_region_held_drew (S := (fun wx => RdB wx q s a true ∧ w.grownBy wx (some q))) (by kernel_rfl) (⟨HR.out.drew, grown_drew (World.grownBy.refl _ _)⟩) (fun hHeld => ?_)
    obtain ⟨wz, hwd⟩ : ∃ x, w.drew = x := ⟨_, rfl⟩
    rw [hwd] at hHeld ⊢
    clear hwd
    refine wpAnyH_take (i := 0) (oi := { dst := some 9, op := Go.Op.move (Go.Operand.tmp 0), type := 125, pos := "ref.go:257", after := #[], guard := none }) (v := ?v0_280601) rfl (by kernel_rfl) (by kernel_rfl) (by kernel_rfl) (fun _ _ _ h => h) (Or.inl ⟨by rfl, ?y0_280601⟩) hHeld ?r0_280601
    case y0_280601 => intro w hSw; (try dsimp only at hSw); go_simp; try with_reducible rfl
    try simp only [Act.put, List.setIfInBounds_toArray, List.set_cons_zero, List.set_cons_succ]
    refine wpAnyH_take (i := 1) (oi := { dst := some 10, op := Go.Op.nilCheck (Go.Operand.tmp 9), type := 0, pos := "ref.go:257", after := #[{ on := 0, ground := Go.Ground.data }], guard := none }) (v := ?v1_280601) rfl (by kernel_rfl) (by kernel_rfl) (by kernel_rfl) (fun _ _ _ h => h) (Or.inl ⟨by rfl, ?y1_280601⟩) hHeld ?r1_280601
    case y1_280601 => intro w hSw; (try dsimp only at hSw); go_simp; try with_reducible rfl
    try simp only [Act.put, List.setIfInBounds_toArray, List.set_cons_zero, List.set_cons_succ]
    refine wpAnyH_take (i := 2) (oi := { dst := some 11, op := Go.Op.fieldAddr 127 (Go.Operand.tmp 10) 2, type := 0, pos := "ref.go:257", after := #[{ on := 1, ground := Go.Ground.data }], guard := none }) (v := ?v2_280601) rfl (by kernel_rfl) (by kernel_rfl) (by kernel_rfl) (fun _ _ _ h => h) (Or.inl ⟨by rfl, ?y2_280601⟩) hHeld ?r2_280601
    case y2_280601 => intro w hSw; (try dsimp only at hSw); go_simp; try with_reducible rfl
    try simp only [Act.put, List.setIfInBounds_toArray, List.set_cons_zero, List.set_cons_succ]
    refine wpAnyH_take (i := 3) (oi := { dst := some 12, op := Go.Op.load 4 (Go.Operand.tmp 11), type := 4, pos := "ref.go:257", after := #[{ on := 2, ground := Go.Ground.data }], guard := none }) (v := ?v3_280601) rfl (by kernel_rfl) (by kernel_rfl) (by kernel_rfl) (fun _ _ _ h => h) (Or.inl ⟨by rfl, ?y3_280601⟩) hHeld ?r3_280601
    case y3_280601 => intro w hSw; (try dsimp only at hSw); obtain ⟨c0, c1, c2, f1, f2⟩ := hSw.1.cells; go_simp; try with_reducible rfl
    try simp only [Act.put, List.setIfInBounds_toArray, List.set_cons_zero, List.set_cons_succ]
    refine wpAnyH_take (i := 4) (oi := { dst := some 13, op := Go.Op.move (Go.Operand.tmp 12), type := 4, pos := "ref.go:257", after := #[{ on := 3, ground := Go.Ground.data }], guard := none }) (v := ?v4_280601) rfl (by kernel_rfl) (by kernel_rfl) (by kernel_rfl) (fun _ _ _ h => h) (Or.inl ⟨by rfl, ?y4_280601⟩) hHeld ?r4_280601
    case y4_280601 => intro w hSw; (try dsimp only at hSw); go_simp; try with_reducible rfl
    try simp only [Act.put, List.setIfInBounds_toArray, List.set_cons_zero, List.set_cons_succ]
    refine wpAnyH_take (i := 5) (oi := { dst := some 14, op := Go.Op.move (Go.Operand.tmp 2), type := 3, pos := "ref.go:257", after := #[{ on := 4, ground := Go.Ground.guard }], guard := some (4, false) }) (v := undef) rfl (by kernel_rfl) (by kernel_rfl) (by kernel_rfl) (fun _ _ _ h => h) (Or.inr ⟨by rfl, rfl⟩) hHeld ?_
    try simp only [Act.put, List.setIfInBounds_toArray, List.set_cons_zero, List.set_cons_succ]
    refine wpAnyH_take (i := 6) (oi := { dst := some 15, op := Go.Op.move (Go.Operand.tmp 0), type := 125, pos := "ref.go:257", after := #[{ on := 4, ground := Go.Ground.guard }], guard := some (4, false) }) (v := undef) rfl (by kernel_rfl) (by kernel_rfl) (by kernel_rfl) (fun _ _ _ h => h) (Or.inr ⟨by rfl, rfl⟩) hHeld ?_
    try simp only [Act.put, List.setIfInBounds_toArray, List.set_cons_zero, List.set_cons_succ]
    refine wpAnyH_take (i := 7) (oi := { dst := some 16, op := Go.Op.nilCheck (Go.Operand.tmp 15), type := 0, pos := "ref.go:257", after := #[{ on := 6, ground := Go.Ground.data }, { on := 4, ground := Go.Ground.guard }], guard := some (4, false) }) (v := undef) rfl (by kernel_rfl) (by kernel_rfl) (by kernel_rfl) (fun _ _ _ h => h) (Or.inr ⟨by rfl, rfl⟩) hHeld ?_
    try simp only [Act.put, List.setIfInBounds_toArray, List.set_cons_zero, List.set_cons_succ]
    refine wpAnyH_take (i := 8) (oi := { dst := some 17, op := Go.Op.fieldAddr 127 (Go.Operand.tmp 16) 0, type := 0, pos := "ref.go:257", after := #[{ on := 7, ground := Go.Ground.data }, { on := 4, ground := Go.Ground.guard }], guard := some (4, false) }) (v := undef) rfl (by kernel_rfl) (by kernel_rfl) (by kernel_rfl) (fun _ _ _ h => h) (Or.inr ⟨by rfl, rfl⟩) hHeld ?_
    try simp only [Act.put, List.setIfInBounds_toArray, List.set_cons_zero, List.set_cons_succ]
    refine wpAnyH_take (i := 9) (oi := { dst := some 18, op := Go.Op.load 9 (Go.Operand.tmp 17), type := 9, pos := "ref.go:257", after := #[{ on := 8, ground := Go.Ground.data }, { on := 4, ground := Go.Ground.guard }], guard := some (4, false) }) (v := undef) rfl (by kernel_rfl) (by kernel_rfl) (by kernel_rfl) (fun _ _ _ h => h) (Or.inr ⟨by rfl, rfl⟩) hHeld ?_
    try simp only [Act.put, List.setIfInBounds_toArray, List.set_cons_zero, List.set_cons_succ]
    refine wpAnyH_take (i := 10) (oi := { dst := some 19, op := Go.Op.call { callee := Go.Callee.builtin Go.Builtin.len, args := #[Go.Operand.tmp 18], argTypes := #[9] }, type := 3, pos := "ref.go:257", after := #[{ on := 9, ground := Go.Ground.data }, { on := 4, ground := Go.Ground.guard }], guard := some (4, false) }) (v := undef) rfl (by kernel_rfl) (by kernel_rfl) (by kernel_rfl) (fun _ _ _ h => h) (Or.inr ⟨by rfl, rfl⟩) hHeld ?_
    try simp only [Act.put, List.setIfInBounds_toArray, List.set_cons_zero, List.set_cons_succ]
    refine wpAnyH_take (i := 11) (oi := { dst := some 20, op := Go.Op.move (Go.Operand.tmp 0), type := 125, pos := "ref.go:257", after := #[{ on := 4, ground := Go.Ground.guard }], guard := some (4, false) }) (v := undef) rfl (by kernel_rfl) (by kernel_rfl) (by kernel_rfl) (fun _ _ _ h => h) (Or.inr ⟨by rfl, rfl⟩) hHeld ?_
    try simp only [Act.put, List.setIfInBounds_toArray, List.set_cons_zero, List.set_cons_succ]
    refine wpAnyH_take (i := 12) (oi := { dst := some 21, op := Go.Op.nilCheck (Go.Operand.tmp 20), type := 0, pos := "ref.go:257", after := #[{ on := 11, ground := Go.Ground.data }, { on := 4, ground := Go.Ground.guard }], guard := some (4, false) }) (v := undef) rfl (by kernel_rfl) (by kernel_rfl) (by kernel_rfl) (fun _ _ _ h => h) (Or.inr ⟨by rfl, rfl⟩) hHeld ?_
    try simp only [Act.put, List.setIfInBounds_toArray, List.set_cons_zero, List.set_cons_succ]
    refine wpAnyH_take (i := 13) (oi := { dst := some 22, op := Go.Op.fieldAddr 127 (Go.Operand.tmp 21) 1, type := 0, pos := "ref.go:257", after := #[{ on := 12, ground := Go.Ground.data }, { on := 4, ground := Go.Ground.guard }], guard := some (4, false) }) (v := undef) rfl (by kernel_rfl) (by kernel_rfl) (by kernel_rfl) (fun _ _ _ h => h) (Or.inr ⟨by rfl, rfl⟩) hHeld ?_
    try simp only [Act.put, List.setIfInBounds_toArray, List.set_cons_zero, List.set_cons_succ]
    refine wpAnyH_take (i := 14) (oi := { dst := some 23, op := Go.Op.load 3 (Go.Operand.tmp 22), type := 3, pos := "ref.go:257", after := #[{ on := 13, ground := Go.Ground.data }, { on := 4, ground := Go.Ground.guard }], guard := some (4, false) }) (v := undef) rfl (by kernel_rfl) (by kernel_rfl) (by kernel_rfl) (fun _ _ _ h => h) (Or.inr ⟨by rfl, rfl⟩) hHeld ?_
    try simp only [Act.put, List.setIfInBounds_toArray, List.set_cons_zero, List.set_cons_succ]
    refine wpAnyH_take (i := 15) (oi := { dst := some 24, op := Go.Op.binOp Go.BinOp.sub 3 (Go.Operand.tmp 19) (Go.Operand.tmp 23) 3, type := 3, pos := "ref.go:257", after := #[{ on := 10, ground := Go.Ground.data }, { on := 14, ground := Go.Ground.data }, { on := 4, ground := Go.Ground.guard }], guard := some (4, false) }) (v := undef) rfl (by kernel_rfl) (by kernel_rfl) (by kernel_rfl) (fun _ _ _ h => h) (Or.inr ⟨by rfl, rfl⟩) hHeld ?_
    try simp only [Act.put, List.setIfInBounds_toArray, List.set_cons_zero, List.set_cons_succ]
    refine wpAnyH_take (i := 16) (oi := { dst := some 25, op := Go.Op.binOp Go.BinOp.gtr 3 (Go.Operand.tmp 14) (Go.Operand.tmp 24) 3, type := 4, pos := "ref.go:257", after := #[{ on := 5, ground := Go.Ground.data }, { on := 15, ground := Go.Ground.data }, { on := 4, ground := Go.Ground.guard }], guard := some (4, false) }) (v := undef) rfl (by kernel_rfl) (by kernel_rfl) (by kernel_rfl) (fun _ _ _ h => h) (Or.inr ⟨by rfl, rfl⟩) hHeld ?_
    try simp only [Act.put, List.setIfInBounds_toArray, List.set_cons_zero, List.set_cons_succ]
    refine wpAnyH_take (i := 17) (oi := { dst := some 26, op := Go.Op.pick (Go.Operand.tmp 13) (Go.Operand.const (Go.Value.bool true)) (Go.Operand.tmp 25), type := 4, pos := "ref.go:257", after := #[{ on := 4, ground := Go.Ground.data }, { on := 16, ground := Go.Ground.data }], guard := none }) (v := ?v17_280601) rfl (by kernel_rfl) (by kernel_rfl) (by kernel_rfl) (fun _ _ _ h => h) (Or.inl ⟨by rfl, ?y17_280601⟩) hHeld ?r17_280601
    case y17_280601 => intro w hSw; (try dsimp only at hSw); go_simp; try with_reducible rfl
    try simp only [Act.put, List.setIfInBounds_toArray, List.set_cons_zero, List.set_cons_succ]
    refine wpAnyH_done (by kernel_rfl) ?_ _
    obtain ⟨c0, c1, c2, f1, f2⟩ := hHeld.1.cells
    go_wp2
    go_ret
    exact ⟨⟨#[]⟩, a, true, rfl, Nat.zero_le _, hHeld.1.bad, hHeld.2.trans (grown_cell _ _ _ _), Stp.bad HA.out⟩
  | false =>
    obtain ⟨r, hr⟩ : ∃ r, s.size - a = r := ⟨_, rfl⟩
    have hws : IntKind.i64.wrap ((s.size : Int) - (a : Int)) = (r : Int) := by rw [IntKind.wrap_i64]; omega
    by_cases g : a + n ≤ s.size
    rotate_left
    · have HP := Lib.hid (show datP s k n a = none from if_neg g)
      have d1 := dT (p := r < n) (by omega)
      clear hr g ha hs hn
      go_enter Try.func101, Try.ntmps101
      go_wp2_with fail
      refine wp_region_held_drew (S := (fun wx => RdB wx q s a false ∧ w.grownBy wx (some q))) (by kernel_rfl) (⟨HR.out.drew, grown_drew (World.grownBy.refl _ _)⟩) (fun hHeld => ?_)
      obtain ⟨wz, hwd⟩ : ∃ x, w.drew = x := ⟨_, rfl⟩
      rw [hwd] at hHeld ⊢
      clear hwd
      refine wpAnyH_take (i := 0) (oi := { dst := some 9, op := Go.Op.move (Go.Operand.tmp 0), type := 125, pos := "ref.go:257", after := #[], guard := none }) (v := ?v0_281101) rfl (by kernel_rfl) (by kernel_rfl) (by kernel_rfl) (fun _ _ _ h => h) (Or.inl ⟨by rfl, ?y0_281101⟩) hHeld ?r0_281101
      case y0_281101 => intro w hSw; (try dsimp only at hSw); go_simp; try with_reducible rfl
      try simp only [Act.put, List.setIfInBounds_toArray, List.set_cons_zero, List.set_cons_succ]
      refine wpAnyH_take (i := 1) (oi := { dst := some 10, op := Go.Op.nilCheck (Go.Operand.tmp 9), type := 0, pos := "ref.go:257", after := #[{ on := 0, ground := Go.Ground.data }], guard := none }) (v := ?v1_281101) rfl (by kernel_rfl) (by kernel_rfl) (by kernel_rfl) (fun _ _ _ h => h) (Or.inl ⟨by rfl, ?y1_281101⟩) hHeld ?r1_281101
      case y1_281101 => intro w hSw; (try dsimp only at hSw); go_simp; try with_reducible rfl
      try simp only [Act.put, List.setIfInBounds_toArray, List.set_cons_zero, List.set_cons_succ]
      refine wpAnyH_take (i := 2) (oi := { dst := some 11, op := Go.Op.fieldAddr 127 (Go.Operand.tmp 10) 2, type := 0, pos := "ref.go:257", after := #[{ on := 1, ground := Go.Ground.data }], guard := none }) (v := ?v2_281101) rfl (by kernel_rfl) (by kernel_rfl) (by kernel_rfl) (fun _ _ _ h => h) (Or.inl ⟨by rfl, ?y2_281101⟩) hHeld ?r2_281101
      case y2_281101 => intro w hSw; (try dsimp only at hSw); go_simp; try with_reducible rfl
      try simp only [Act.put, List.setIfInBounds_toArray, List.set_cons_zero, List.set_cons_succ]
      refine wpAnyH_take (i := 3) (oi := { dst := some 12, op := Go.Op.load 4 (Go.Operand.tmp 11), type := 4, pos := "ref.go:257", after := #[{ on := 2, ground := Go.Ground.data }], guard := none }) (v := ?v3_281101) rfl (by kernel_rfl) (by kernel_rfl) (by kernel_rfl) (fun _ _ _ h => h) (Or.inl ⟨by rfl, ?y3_281101⟩) hHeld ?r3_281101
      case y3_281101 => intro w hSw; (try dsimp only at hSw); obtain ⟨c0, c1, c2, f1, f2⟩ := hSw.1.cells; go_simp; try with_reducible rfl
      try simp only [Act.put, List.setIfInBounds_toArray, List.set_cons_zero, List.set_cons_succ]
      refine wpAnyH_take (i := 4) (oi := { dst := some 13, op := Go.Op.move (Go.Operand.tmp 12), type := 4, pos := "ref.go:257", after := #[{ on := 3, ground := Go.Ground.data }], guard := none }) (v := ?v4_281101) rfl (by kernel_rfl) (by kernel_rfl) (by kernel_rfl) (fun _ _ _ h => h) (Or.inl ⟨by rfl, ?y4_281101⟩) hHeld ?r4_281101
      case y4_281101 => intro w hSw; (try dsimp only at hSw); go_simp; try with_reducible rfl
      try simp only [Act.put, List.setIfInBounds_toArray, List.set_cons_zero, List.set_cons_succ]
      refine wpAnyH_take (i := 5) (oi := { dst := some 14, op := Go.Op.move (Go.Operand.tmp 2), type := 3, pos := "ref.go:257", after := #[{ on := 4, ground := Go.Ground.guard }], guard := some (4, false) }) (v := ?v5_281101) rfl (by kernel_rfl) (by kernel_rfl) (by kernel_rfl) (fun _ _ _ h => h) (Or.inl ⟨by rfl, ?y5_281101⟩) hHeld ?r5_281101
      case y5_281101 => intro w hSw; (try dsimp only at hSw); go_simp; try with_reducible rfl
      try simp only [Act.put, List.setIfInBounds_toArray, List.set_cons_zero, List.set_cons_succ]
      refine wpAnyH_take (i := 6) (oi := { dst := some 15, op := Go.Op.move (Go.Operand.tmp 0), type := 125, pos := "ref.go:257", after := #[{ on := 4, ground := Go.Ground.guard }], guard := some (4, false) }) (v := ?v6_281101) rfl (by kernel_rfl) (by kernel_rfl) (by kernel_rfl) (fun _ _ _ h => h) (Or.inl ⟨by rfl, ?y6_281101⟩) hHeld ?r6_281101
      case y6_281101 => intro w hSw; (try dsimp only at hSw); go_simp; try with_reducible rfl
      try simp only [Act.put, List.setIfInBounds_toArray, List.set_cons_zero, List.set_cons_succ]
      refine wpAnyH_take (i := 7) (oi := { dst := some 16, op := Go.Op.nilCheck (Go.Operand.tmp 15), type := 0, pos := "ref.go:257", after := #[{ on := 6, ground := Go.Ground.data }, { on := 4, ground := Go.Ground.guard }], guard := some (4, false) }) (v := ?v7_281101) rfl (by kernel_rfl) (by kernel_rfl) (by kernel_rfl) (fun _ _ _ h => h) (Or.inl ⟨by rfl, ?y7_281101⟩) hHeld ?r7_281101
      case y7_281101 => intro w hSw; (try dsimp only at hSw); go_simp; try with_reducible rfl
      try simp only [Act.put, List.setIfInBounds_toArray, List.set_cons_zero, List.set_cons_succ]
      refine wpAnyH_take (i := 8) (oi := { dst := some 17, op := Go.Op.fieldAddr 127 (Go.Operand.tmp 16) 0, type := 0, pos := "ref.go:257", after := #[{ on := 7, ground := Go.Ground.data }, { on := 4, ground := Go.Ground.guard }], guard := some (4, false) }) (v := ?v8_281101) rfl (by kernel_rfl) (by kernel_rfl) (by kernel_rfl) (fun _ _ _ h => h) (Or.inl ⟨by rfl, ?y8_281101⟩) hHeld ?r8_281101
      case y8_281101 => intro w hSw; (try dsimp only at hSw); go_simp; try with_reducible rfl
      try simp only [Act.put, List.setIfInBounds_toArray, List.set_cons_zero, List.set_cons_succ]
      refine wpAnyH_take (i := 9) (oi := { dst := some 18, op := Go.Op.load 9 (Go.Operand.tmp 17), type := 9, pos := "ref.go:257", after := #[{ on := 8, ground := Go.Ground.data }, { on := 4, ground := Go.Ground.guard }], guard := some (4, false) }) (v := ?v9_281101) rfl (by kernel_rfl) (by kernel_rfl) (by kernel_rfl) (fun _ _ _ h => h) (Or.inl ⟨by rfl, ?y9_281101⟩) hHeld ?r9_281101
      case y9_281101 => intro w hSw; (try dsimp only at hSw); obtain ⟨c0, c1, c2, f1, f2⟩ := hSw.1.cells; go_simp; try with_reducible rfl
      try simp only [Act.put, List.setIfInBounds_toArray, List.set_cons_zero, List.set_cons_succ]
      refine wpAnyH_take (i := 10) (oi := { dst := some 19, op := Go.Op.call { callee := Go.Callee.builtin Go.Builtin.len, args := #[Go.Operand.tmp 18], argTypes := #[9] }, type := 3, pos := "ref.go:257", after := #[{ on := 9, ground := Go.Ground.data }, { on := 4, ground := Go.Ground.guard }], guard := some (4, false) }) (v := ?v10_281101) rfl (by kernel_rfl) (by kernel_rfl) (by kernel_rfl) (fun _ _ _ h => h) (Or.inl ⟨by rfl, ?y10_281101⟩) hHeld ?r10_281101
      case y10_281101 => intro w hSw; (try dsimp only at hSw); go_simp; try with_reducible rfl
      try simp only [Act.put, List.setIfInBounds_toArray, List.set_cons_zero, List.set_cons_succ]
      refine wpAnyH_take (i := 11) (oi := { dst := some 20, op := Go.Op.move (Go.Operand.tmp 0), type := 125, pos := "ref.go:257", after := #[{ on := 4, ground := Go.Ground.guard }], guard := some (4, false) }) (v := ?v11_281101) rfl (by kernel_rfl) (by kernel_rfl) (by kernel_rfl) (fun _ _ _ h => h) (Or.inl ⟨by rfl, ?y11_281101⟩) hHeld ?r11_281101
      case y11_281101 => intro w hSw; (try dsimp only at hSw); go_simp; try with_reducible rfl
      try simp only [Act.put, List.setIfInBounds_toArray, List.set_cons_zero, List.set_cons_succ]
      refine wpAnyH_take (i := 12) (oi := { dst := some 21, op := Go.Op.nilCheck (Go.Operand.tmp 20), type := 0, pos := "ref.go:257", after := #[{ on := 11, ground := Go.Ground.data }, { on := 4, ground := Go.Ground.guard }], guard := some (4, false) }) (v := ?v12_281101) rfl (by kernel_rfl) (by kernel_rfl) (by kernel_rfl) (fun _ _ _ h => h) (Or.inl ⟨by rfl, ?y12_281101⟩) hHeld ?r12_281101
      case y12_281101 => intro w hSw; (try dsimp only at hSw); go_simp; try with_reducible rfl
      try simp only [Act.put, List.setIfInBounds_toArray, List.set_cons_zero, List.set_cons_succ]
      refine wpAnyH_take (i := 13) (oi := { dst := some 22, op := Go.Op.fieldAddr 127 (Go.Operand.tmp 21) 1, type := 0, pos := "ref.go:257", after := #[{ on := 12, ground := Go.Ground.data }, { on := 4, ground := Go.Ground.guard }], guard := some (4, false) }) (v := ?v13_281101) rfl (by kernel_rfl) (by kernel_rfl) (by kernel_rfl) (fun _ _ _ h => h) (Or.inl ⟨by rfl, ?y13_281101⟩) hHeld ?r13_281101
      case y13_281101 => intro w hSw; (try dsimp only at hSw); go_simp; try with_reducible rfl
      try simp only [Act.put, List.setIfInBounds_toArray, List.set_cons_zero, List.set_cons_succ]
      refine wpAnyH_take (i := 14) (oi := { dst := some 23, op := Go.Op.load 3 (Go.Operand.tmp 22), type := 3, pos := "ref.go:257", after := #[{ on := 13, ground := Go.Ground.data }, { on := 4, ground := Go.Ground.guard }], guard := some (4, false) }) (v := ?v14_281101) rfl (by kernel_rfl) (by kernel_rfl) (by kernel_rfl) (fun _ _ _ h => h) (Or.inl ⟨by rfl, ?y14_281101⟩) hHeld ?r14_281101
      case y14_281101 => intro w hSw; (try dsimp only at hSw); obtain ⟨c0, c1, c2, f1, f2⟩ := hSw.1.cells; go_simp; try with_reducible rfl
      try simp only [Act.put, List.setIfInBounds_toArray, List.set_cons_zero, List.set_cons_succ]
      refine wpAnyH_take (i := 15) (oi := { dst := some 24, op := Go.Op.binOp Go.BinOp.sub 3 (Go.Operand.tmp 19) (Go.Operand.tmp 23) 3, type := 3, pos := "ref.go:257", after := #[{ on := 10, ground := Go.Ground.data }, { on := 14, ground := Go.Ground.data }, { on := 4, ground := Go.Ground.guard }], guard := some (4, false) }) (v := ?v15_281101) rfl (by kernel_rfl) (by kernel_rfl) (by kernel_rfl) (fun _ _ _ h => h) (Or.inl ⟨by rfl, ?y15_281101⟩) hHeld ?r15_281101
      case y15_281101 => intro w hSw; (try dsimp only at hSw); go_simp; try with_reducible rfl
      try simp only [Act.put, List.setIfInBounds_toArray, List.set_cons_zero, List.set_cons_succ]
      refine wpAnyH_take (i := 16) (oi := { dst := some 25, op := Go.Op.binOp Go.BinOp.gtr 3 (Go.Operand.tmp 14) (Go.Operand.tmp 24) 3, type := 4, pos := "ref.go:257", after := #[{ on := 5, ground := Go.Ground.data }, { on := 15, ground := Go.Ground.data }, { on := 4, ground := Go.Ground.guard }], guard := some (4, false) }) (v := ?v16_281101) rfl (by kernel_rfl) (by kernel_rfl) (by kernel_rfl) (fun _ _ _ h => h) (Or.inl ⟨by rfl, ?y16_281101⟩) hHeld ?r16_281101
      case y16_281101 => intro w hSw; (try dsimp only at hSw); go_simp; try with_reducible rfl
      try simp only [Act.put, List.setIfInBounds_toArray, List.set_cons_zero, List.set_cons_succ]
      refine wpAnyH_take (i := 17) (oi := { dst := some 26, op := Go.Op.pick (Go.Operand.tmp 13) (Go.Operand.const (Go.Value.bool true)) (Go.Operand.tmp 25), type := 4, pos := "ref.go:257", after := #[{ on := 4, ground := Go.Ground.data }, { on := 16, ground := Go.Ground.data }], guard := none }) (v := ?v17_281101) rfl (by kernel_rfl) (by kernel_rfl) (by kernel_rfl) (fun _ _ _ h => h) (Or.inl ⟨by rfl, ?y17_281101⟩) hHeld ?r17_281101
      case y17_281101 => intro w hSw; (try dsimp only at hSw); go_simp; try with_reducible rfl
      try simp only [Act.put, List.setIfInBounds_toArray, List.set_cons_zero, List.set_cons_succ]
      refine wpAnyH_done (by kernel_rfl) ?_ _
      obtain ⟨c0, c1, c2, f1, f2⟩ := hHeld.1.cells
      go_wp2
      go_ret
      exact ⟨⟨#[]⟩, a, true, rfl, Nat.zero_le _, hHeld.1.bad, hHeld.2.trans (grown_cell _ _ _ _), Stp.lack (fun _ => HP.out) HA.out⟩
    have HP := Lib.hid (show datP s k n a = dataP s k (a + n) a from if_pos g)
    have d1 := dF (p := r < n) (by omega)
    have HN := Lib.hid hn
    have HE := Lib.hid g
    clear hr
    by_cases k2 : k = 2
    · skip
      have HIN := Lib.hid (show innP s k (a + n) a = nameP s a by rw [innP, if_pos (by omega)])
      have e2 := eT k2
      clear k2 
      clear ha hs hn g
      go_enter Try.func101, Try.ntmps101
      go_wp2_with fail
      refine wp_region_held_drew (S := (fun wx => RdB wx q s a false ∧ w.grownBy wx (some q))) (by kernel_rfl) (⟨HR.out.drew, grown_drew (World.grownBy.refl _ _)⟩) (fun hHeld => ?_)
      obtain ⟨wz, hwd⟩ : ∃ x, w.drew = x := ⟨_, rfl⟩
      rw [hwd] at hHeld ⊢
      clear hwd
      refine wpAnyH_take (i := 0) (oi := { dst := some 9, op := Go.Op.move (Go.Operand.tmp 0), type := 125, pos := "ref.go:257", after := #[], guard := none }) (v := ?v0_281601) rfl (by kernel_rfl) (by kernel_rfl) (by kernel_rfl) (fun _ _ _ h => h) (Or.inl ⟨by rfl, ?y0_281601⟩) hHeld ?r0_281601
      case y0_281601 => intro w hSw; (try dsimp only at hSw); go_simp; try with_reducible rfl
      try simp only [Act.put, List.setIfInBounds_toArray, List.set_cons_zero, List.set_cons_succ]
      refine wpAnyH_take (i := 1) (oi := { dst := some 10, op := Go.Op.nilCheck (Go.Operand.tmp 9), type := 0, pos := "ref.go:257", after := #[{ on := 0, ground := Go.Ground.data }], guard := none }) (v := ?v1_281601) rfl (by kernel_rfl) (by kernel_rfl) (by kernel_rfl) (fun _ _ _ h => h) (Or.inl ⟨by rfl, ?y1_281601⟩) hHeld ?r1_281601
      case y1_281601 => intro w hSw; (try dsimp only at hSw); go_simp; try with_reducible rfl
      try simp only [Act.put, List.setIfInBounds_toArray, List.set_cons_zero, List.set_cons_succ]
      refine wpAnyH_take (i := 2) (oi := { dst := some 11, op := Go.Op.fieldAddr 127 (Go.Operand.tmp 10) 2, type := 0, pos := "ref.go:257", after := #[{ on := 1, ground := Go.Ground.data }], guard := none }) (v := ?v2_281601) rfl (by kernel_rfl) (by kernel_rfl) (by kernel_rfl) (fun _ _ _ h => h) (Or.inl ⟨by rfl, ?y2_281601⟩) hHeld ?r2_281601
      case y2_281601 => intro w hSw; (try dsimp only at hSw); go_simp; try with_reducible rfl
      try simp only [Act.put, List.setIfInBounds_toArray, List.set_cons_zero, List.set_cons_succ]
      refine wpAnyH_take (i := 3) (oi := { dst := some 12, op := Go.Op.load 4 (Go.Operand.tmp 11), type := 4, pos := "ref.go:257", after := #[{ on := 2, ground := Go.Ground.data }], guard := none }) (v := ?v3_281601) rfl (by kernel_rfl) (by kernel_rfl) (by kernel_rfl) (fun _ _ _ h => h) (Or.inl ⟨by rfl, ?y3_281601⟩) hHeld ?r3_281601
      case y3_281601 => intro w hSw; (try dsimp only at hSw); obtain ⟨c0, c1, c2, f1, f2⟩ := hSw.1.cells; go_simp; try with_reducible rfl
      try simp only [Act.put, List.setIfInBounds_toArray, List.set_cons_zero, List.set_cons_succ]
      refine wpAnyH_take (i := 4) (oi := { dst := some 13, op := Go.Op.move (Go.Operand.tmp 12), type := 4, pos := "ref.go:257", after := #[{ on := 3, ground := Go.Ground.data }], guard := none }) (v := ?v4_281601) rfl (by kernel_rfl) (by kernel_rfl) (by kernel_rfl) (fun _ _ _ h => h) (Or.inl ⟨by rfl, ?y4_281601⟩) hHeld ?r4_281601
      case y4_281601 => intro w hSw; (try dsimp only at hSw); go_simp; try with_reducible rfl
      try simp only [Act.put, List.setIfInBounds_toArray, List.set_cons_zero, List.set_cons_succ]
      refine wpAnyH_take (i := 5) (oi := { dst := some 14, op := Go.Op.move (Go.Operand.tmp 2), type := 3, pos := "ref.go:257", after := #[{ on := 4, ground := Go.Ground.guard }], guard := some (4, false) }) (v := ?v5_281601) rfl (by kernel_rfl) (by kernel_rfl) (by kernel_rfl) (fun _ _ _ h => h) (Or.inl ⟨by rfl, ?y5_281601⟩) hHeld ?r5_281601
      case y5_281601 => intro w hSw; (try dsimp only at hSw); go_simp; try with_reducible rfl
      try simp only [Act.put, List.setIfInBounds_toArray, List.set_cons_zero, List.set_cons_succ]
      refine wpAnyH_take (i := 6) (oi := { dst := some 15, op := Go.Op.move (Go.Operand.tmp 0), type := 125, pos := "ref.go:257", after := #[{ on := 4, ground := Go.Ground.guard }], guard := some (4, false) }) (v := ?v6_281601) rfl (by kernel_rfl) (by kernel_rfl) (by kernel_rfl) (fun _ _ _ h => h) (Or.inl ⟨by rfl, ?y6_281601⟩) hHeld ?r6_281601
      case y6_281601 => intro w hSw; (try dsimp only at hSw); go_simp; try with_reducible rfl
      try simp only [Act.put, List.setIfInBounds_toArray, List.set_cons_zero, List.set_cons_succ]
      refine wpAnyH_take (i := 7) (oi := { dst := some 16, op := Go.Op.nilCheck (Go.Operand.tmp 15), type := 0, pos := "ref.go:257", after := #[{ on := 6, ground := Go.Ground.data }, { on := 4, ground := Go.Ground.guard }], guard := some (4, false) }) (v := ?v7_281601) rfl (by kernel_rfl) (by kernel_rfl) (by kernel_rfl) (fun _ _ _ h => h) (Or.inl ⟨by rfl, ?y7_281601⟩) hHeld ?r7_281601
      case y7_281601 => intro w hSw; (try dsimp only at hSw); go_simp; try with_reducible rfl
      try simp only [Act.put, List.setIfInBounds_toArray, List.set_cons_zero, List.set_cons_succ]
      refine wpAnyH_take (i := 8) (oi := { dst := some 17, op := Go.Op.fieldAddr 127 (Go.Operand.tmp 16) 0, type := 0, pos := "ref.go:257", after := #[{ on := 7, ground := Go.Ground.data }, { on := 4, ground := Go.Ground.guard }], guard := some (4, false) }) (v := ?v8_281601) rfl (by kernel_rfl) (by kernel_rfl) (by kernel_rfl) (fun _ _ _ h => h) (Or.inl ⟨by rfl, ?y8_281601⟩) hHeld ?r8_281601
      case y8_281601 => intro w hSw; (try dsimp only at hSw); go_simp; try with_reducible rfl
      try simp only [Act.put, List.setIfInBounds_toArray, List.set_cons_zero, List.set_cons_succ]
      refine wpAnyH_take (i := 9) (oi := { dst := some 18, op := Go.Op.load 9 (Go.Operand.tmp 17), type := 9, pos := "ref.go:257", after := #[{ on := 8, ground := Go.Ground.data }, { on := 4, ground := Go.Ground.guard }], guard := some (4, false) }) (v := ?v9_281601) rfl (by kernel_rfl) (by kernel_rfl) (by kernel_rfl) (fun _ _ _ h => h) (Or.inl ⟨by rfl, ?y9_281601⟩) hHeld ?r9_281601
      case y9_281601 => intro w hSw; (try dsimp only at hSw); obtain ⟨c0, c1, c2, f1, f2⟩ := hSw.1.cells; go_simp; try with_reducible rfl
      try simp only [Act.put, List.setIfInBounds_toArray, List.set_cons_zero, List.set_cons_succ]
      refine wpAnyH_take (i := 10) (oi := { dst := some 19, op := Go.Op.call { callee := Go.Callee.builtin Go.Builtin.len, args := #[Go.Operand.tmp 18], argTypes := #[9] }, type := 3, pos := "ref.go:257", after := #[{ on := 9, ground := Go.Ground.data }, { on := 4, ground := Go.Ground.guard }], guard := some (4, false) }) (v := ?v10_281601) rfl (by kernel_rfl) (by kernel_rfl) (by kernel_rfl) (fun _ _ _ h => h) (Or.inl ⟨by rfl, ?y10_281601⟩) hHeld ?r10_281601
      case y10_281601 => intro w hSw; (try dsimp only at hSw); go_simp; try with_reducible rfl
      try simp only [Act.put, List.setIfInBounds_toArray, List.set_cons_zero, List.set_cons_succ]
      refine wpAnyH_take (i := 11) (oi := { dst := some 20, op := Go.Op.move (Go.Operand.tmp 0), type := 125, pos := "ref.go:257", after := #[{ on := 4, ground := Go.Ground.guard }], guard := some (4, false) }) (v := ?v11_281601) rfl (by kernel_rfl) (by kernel_rfl) (by kernel_rfl) (fun _ _ _ h => h) (Or.inl ⟨by rfl, ?y11_281601⟩) hHeld ?r11_281601
      case y11_281601 => intro w hSw; (try dsimp only at hSw); go_simp; try with_reducible rfl
      try simp only [Act.put, List.setIfInBounds_toArray, List.set_cons_zero, List.set_cons_succ]
      refine wpAnyH_take (i := 12) (oi := { dst := some 21, op := Go.Op.nilCheck (Go.Operand.tmp 20), type := 0, pos := "ref.go:257", after := #[{ on := 11, ground := Go.Ground.data }, { on := 4, ground := Go.Ground.guard }], guard := some (4, false) }) (v := ?v12_281601) rfl (by kernel_rfl) (by kernel_rfl) (by kernel_rfl) (fun _ _ _ h => h) (Or.inl ⟨by rfl, ?y12_281601⟩) hHeld ?r12_281601
      case y12_281601 => intro w hSw; (try dsimp only at hSw); go_simp; try with_reducible rfl
      try simp only [Act.put, List.setIfInBounds_toArray, List.set_cons_zero, List.set_cons_succ]
      refine wpAnyH_take (i := 13) (oi := { dst := some 22, op := Go.Op.fieldAddr 127 (Go.Operand.tmp 21) 1, type := 0, pos := "ref.go:257", after := #[{ on := 12, ground := Go.Ground.data }, { on := 4, ground := Go.Ground.guard }], guard := some (4, false) }) (v := ?v13_281601) rfl (by kernel_rfl) (by kernel_rfl) (by kernel_rfl) (fun _ _ _ h => h) (Or.inl ⟨by rfl, ?y13_281601⟩) hHeld ?r13_281601
      case y13_281601 => intro w hSw; (try dsimp only at hSw); go_simp; try with_reducible rfl
      try simp only [Act.put, List.setIfInBounds_toArray, List.set_cons_zero, List.set_cons_succ]
      refine wpAnyH_take (i := 14) (oi := { dst := some 23, op := Go.Op.load 3 (Go.Operand.tmp 22), type := 3, pos := "ref.go:257", after := #[{ on := 13, ground := Go.Ground.data }, { on := 4, ground := Go.Ground.guard }], guard := some (4, false) }) (v := ?v14_281601) rfl (by kernel_rfl) (by kernel_rfl) (by kernel_rfl) (fun _ _ _ h => h) (Or.inl ⟨by rfl, ?y14_281601⟩) hHeld ?r14_281601
      case y14_281601 => intro w hSw; (try dsimp only at hSw); obtain ⟨c0, c1, c2, f1, f2⟩ := hSw.1.cells; go_simp; try with_reducible rfl
      try simp only [Act.put, List.setIfInBounds_toArray, List.set_cons_zero, List.set_cons_succ]
      refine wpAnyH_take (i := 15) (oi := { dst := some 24, op := Go.Op.binOp Go.BinOp.sub 3 (Go.Operand.tmp 19) (Go.Operand.tmp 23) 3, type := 3, pos := "ref.go:257", after := #[{ on := 10, ground := Go.Ground.data }, { on := 14, ground := Go.Ground.data }, { on := 4, ground := Go.Ground.guard }], guard := some (4, false) }) (v := ?v15_281601) rfl (by kernel_rfl) (by kernel_rfl) (by kernel_rfl) (fun _ _ _ h => h) (Or.inl ⟨by rfl, ?y15_281601⟩) hHeld ?r15_281601
      case y15_281601 => intro w hSw; (try dsimp only at hSw); go_simp; try with_reducible rfl
      try simp only [Act.put, List.setIfInBounds_toArray, List.set_cons_zero, List.set_cons_succ]
      refine wpAnyH_take (i := 16) (oi := { dst := some 25, op := Go.Op.binOp Go.BinOp.gtr 3 (Go.Operand.tmp 14) (Go.Operand.tmp 24) 3, type := 4, pos := "ref.go:257", after := #[{ on := 5, ground := Go.Ground.data }, { on := 15, ground := Go.Ground.data }, { on := 4, ground := Go.Ground.guard }], guard := some (4, false) }) (v := ?v16_281601) rfl (by kernel_rfl) (by kernel_rfl) (by kernel_rfl) (fun _ _ _ h => h) (Or.inl ⟨by rfl, ?y16_281601⟩) hHeld ?r16_281601
      case y16_281601 => intro w hSw; (try dsimp only at hSw); go_simp; try with_reducible rfl
      try simp only [Act.put, List.setIfInBounds_toArray, List.set_cons_zero, List.set_cons_succ]
      refine wpAnyH_take (i := 17) (oi := { dst := some 26, op := Go.Op.pick (Go.Operand.tmp 13) (Go.Operand.const (Go.Value.bool true)) (Go.Operand.tmp 25), type := 4, pos := "ref.go:257", after := #[{ on := 4, ground := Go.Ground.data }, { on := 16, ground := Go.Ground.data }], guard := none }) (v := ?v17_281601) rfl (by kernel_rfl) (by kernel_rfl) (by kernel_rfl) (fun _ _ _ h => h) (Or.inl ⟨by rfl, ?y17_281601⟩) hHeld ?r17_281601
      case y17_281601 => intro w hSw; (try dsimp only at hSw); go_simp; try with_reducible rfl
      try simp only [Act.put, List.setIfInBounds_toArray, List.set_cons_zero, List.set_cons_succ]
      refine wpAnyH_done (by kernel_rfl) ?_ _
      have HRH := Lib.hid hHeld.1
      have HGH := Lib.hid hHeld.2
      obtain ⟨c0, c1, c2, f1, f2⟩ := hHeld.1.cells
      clear hHeld
      obtain ⟨E, hE⟩ : ∃ x, a + n = x := ⟨_, rfl⟩
      have hEz : IntKind.i64.wrap ((a : Int) + (n : Int)) = (E : Int) := by rw [IntKind.wrap_i64]; have := HE.out; have := HS.out; omega
      rw [hE] at HP HE HIN
      have HEE := Lib.hid hE
      clear hE
      go_wp2_with fail
      refine (rname_b q s a false _ HRH.out HA.out HS.out).mono ?_; rintro en w_a1 ⟨v1, a1, b1, rfl, z1, r1, g1, s1⟩
      have Hr1 := Lib.hid r1
      have Hg1 := Lib.hid g1
      have Hs1 := Lib.hid s1
      have Hz1 := Lib.hid z1
      clear r1 g1 s1 z1
      have HST := Lib.hid (show Stp s (innP s k E a) 0 v1 a1 (eB b1) from by rw [HIN.out]; exact Hs1.out)
      have HZZ := Lib.hid (show (v1).size ≤ 40000 by have := Hz1.out; omega)
      obtain ⟨xx, hxx⟩ : ∃ y, v1 = y := ⟨_, rfl⟩
      rw [hxx] at HST HZZ
      have HXX := Lib.hid hxx
      clear hxx
      obtain ⟨c0, c1, c2, f1, f2⟩ := Hr1.out.cells
      by_cases t3 : a1 = E
      · subst t3
        have d8 : ((a1 : Int) != (a1 : Int)) = false := nF rfl
        go_wp2
        go_ret
        exact ⟨xx, a1, b1, by rw [HXX.out]; rfl, HZZ.out, Hr1.out, (HGH.out.trans Hg1.out), by rw [HP.out]; exact HST.out.closeE rfl⟩
      · have HT := Lib.hid t3
        have d8 : ((a1 : Int) != (E : Int)) = true := nT (by omega)
        clear t3
        go_wp2
        go_ret
        exact ⟨xx, a1, true, by rw [HXX.out]; rfl, HZZ.out, Hr1.out.bad, ((HGH.out.trans Hg1.out)).trans (grown_cell _ _ _ _), by rw [HP.out]; exact HST.out.closeN HT.out⟩
    by_cases k5 : k = 5
    · skip
      have HIN := Lib.hid (show innP s k (a + n) a = nameP s a by rw [innP, if_pos (by omega)])
      have e5 := eT k5
      have e2 := eF k2
      clear k5 k2
      clear ha hs hn g
      go_enter Try.func101, Try.ntmps101
      go_wp2_with fail
      refine wp_region_held_drew (S := (fun wx => RdB wx q s a false ∧ w.grownBy wx (some q))) (by kernel_rfl) (⟨HR.out.drew, grown_drew (World.grownBy.refl _ _)⟩) (fun hHeld => ?_)
      obtain ⟨wz, hwd⟩ : ∃ x, w.drew = x := ⟨_, rfl⟩
      rw [hwd] at hHeld ⊢
      clear hwd
      refine wpAnyH_take (i := 0) (oi := { dst := some 9, op := Go.Op.move (Go.Operand.tmp 0), type := 125, pos := "ref.go:257", after := #[], guard := none }) (v := ?v0_282101) rfl (by kernel_rfl) (by kernel_rfl) (by kernel_rfl) (fun _ _ _ h => h) (Or.inl ⟨by rfl, ?y0_282101⟩) hHeld ?r0_282101
      case y0_282101 => intro w hSw; (try dsimp only at hSw); go_simp; try with_reducible rfl
      try simp only [Act.put, List.setIfInBounds_toArray, List.set_cons_zero, List.set_cons_succ]
      refine wpAnyH_take (i := 1) (oi := { dst := some 10, op := Go.Op.nilCheck (Go.Operand.tmp 9), type := 0, pos := "ref.go:257", after := #[{ on := 0, ground := Go.Ground.data }], guard := none }) (v := ?v1_282101) rfl (by kernel_rfl) (by kernel_rfl) (by kernel_rfl) (fun _ _ _ h => h) (Or.inl ⟨by rfl, ?y1_282101⟩) hHeld ?r1_282101
      case y1_282101 => intro w hSw; (try dsimp only at hSw); go_simp; try with_reducible rfl
      try simp only [Act.put, List.setIfInBounds_toArray, List.set_cons_zero, List.set_cons_succ]
      refine wpAnyH_take (i := 2) (oi := { dst := some 11, op := Go.Op.fieldAddr 127 (Go.Operand.tmp 10) 2, type := 0, pos := "ref.go:257", after := #[{ on := 1, ground := Go.Ground.data }], guard := none }) (v := ?v2_282101) rfl (by kernel_rfl) (by kernel_rfl) (by kernel_rfl) (fun _ _ _ h => h) (Or.inl ⟨by rfl, ?y2_282101⟩) hHeld ?r2_282101
      case y2_282101 => intro w hSw; (try dsimp only at hSw); go_simp; try with_reducible rfl
      try simp only [Act.put, List.setIfInBounds_toArray, List.set_cons_zero, List.set_cons_succ]
      refine wpAnyH_take (i := 3) (oi := { dst := some 12, op := Go.Op.load 4 (Go.Operand.tmp 11), type := 4, pos := "ref.go:257", after := #[{ on := 2, ground := Go.Ground.data }], guard := none }) (v := ?v3_282101) rfl (by kernel_rfl) (by kernel_rfl) (by kernel_rfl) (fun _ _ _ h => h) (Or.inl ⟨by rfl, ?y3_282101⟩) hHeld ?r3_282101
      case y3_282101 => intro w hSw; (try dsimp only at hSw); obtain ⟨c0, c1, c2, f1, f2⟩ := hSw.1.cells; go_simp; try with_reducible rfl
      try simp only [Act.put, List.setIfInBounds_toArray, List.set_cons_zero, List.set_cons_succ]
      refine wpAnyH_take (i := 4) (oi := { dst := some 13, op := Go.Op.move (Go.Operand.tmp 12), type := 4, pos := "ref.go:257", after := #[{ on := 3, ground := Go.Ground.data }], guard := none }) (v := ?v4_282101) rfl (by kernel_rfl) (by kernel_rfl) (by kernel_rfl) (fun _ _ _ h => h) (Or.inl ⟨by rfl, ?y4_282101⟩) hHeld ?r4_282101
      case y4_282101 => intro w hSw; (try dsimp only at hSw); go_simp; try with_reducible rfl
      try simp only [Act.put, List.setIfInBounds_toArray, List.set_cons_zero, List.set_cons_succ]
      refine wpAnyH_take (i := 5) (oi := { dst := some 14, op := Go.Op.move (Go.Operand.tmp 2), type := 3, pos := "ref.go:257", after := #[{ on := 4, ground := Go.Ground.guard }], guard := some (4, false) }) (v := ?v5_282101) rfl (by kernel_rfl) (by kernel_rfl) (by kernel_rfl) (fun _ _ _ h => h) (Or.inl ⟨by rfl, ?y5_282101⟩) hHeld ?r5_282101
      case y5_282101 => intro w hSw; (try dsimp only at hSw); go_simp; try with_reducible rfl
      try simp only [Act.put, List.setIfInBounds_toArray, List.set_cons_zero, List.set_cons_succ]
      refine wpAnyH_take (i := 6) (oi := { dst := some 15, op := Go.Op.move (Go.Operand.tmp 0), type := 125, pos := "ref.go:257", after := #[{ on := 4, ground := Go.Ground.guard }], guard := some (4, false) }) (v := ?v6_282101) rfl (by kernel_rfl) (by kernel_rfl) (by kernel_rfl) (fun _ _ _ h => h) (Or.inl ⟨by rfl, ?y6_282101⟩) hHeld ?r6_282101
      case y6_282101 => intro w hSw; (try dsimp only at hSw); go_simp; try with_reducible rfl
      try simp only [Act.put, List.setIfInBounds_toArray, List.set_cons_zero, List.set_cons_succ]
      refine wpAnyH_take (i := 7) (oi := { dst := some 16, op := Go.Op.nilCheck (Go.Operand.tmp 15), type := 0, pos := "ref.go:257", after := #[{ on := 6, ground := Go.Ground.data }, { on := 4, ground := Go.Ground.guard }], guard := some (4, false) }) (v := ?v7_282101) rfl (by kernel_rfl) (by kernel_rfl) (by kernel_rfl) (fun _ _ _ h => h) (Or.inl ⟨by rfl, ?y7_282101⟩) hHeld ?r7_282101
      case y7_282101 => intro w hSw; (try dsimp only at hSw); go_simp; try with_reducible rfl
      try simp only [Act.put, List.setIfInBounds_toArray, List.set_cons_zero, List.set_cons_succ]
      refine wpAnyH_take (i := 8) (oi := { dst := some 17, op := Go.Op.fieldAddr 127 (Go.Operand.tmp 16) 0, type := 0, pos := "ref.go:257", after := #[{ on := 7, ground := Go.Ground.data }, { on := 4, ground := Go.Ground.guard }], guard := some (4, false) }) (v := ?v8_282101) rfl (by kernel_rfl) (by kernel_rfl) (by kernel_rfl) (fun _ _ _ h => h) (Or.inl ⟨by rfl, ?y8_282101⟩) hHeld ?r8_282101
      case y8_282101 => intro w hSw; (try dsimp only at hSw); go_simp; try with_reducible rfl
      try simp only [Act.put, List.setIfInBounds_toArray, List.set_cons_zero, List.set_cons_succ]
      refine wpAnyH_take (i := 9) (oi := { dst := some 18, op := Go.Op.load 9 (Go.Operand.tmp 17), type := 9, pos := "ref.go:257", after := #[{ on := 8, ground := Go.Ground.data }, { on := 4, ground := Go.Ground.guard }], guard := some (4, false) }) (v := ?v9_282101) rfl (by kernel_rfl) (by kernel_rfl) (by kernel_rfl) (fun _ _ _ h => h) (Or.inl ⟨by rfl, ?y9_282101⟩) hHeld ?r9_282101
      case y9_282101 => intro w hSw; (try dsimp only at hSw); obtain ⟨c0, c1, c2, f1, f2⟩ := hSw.1.cells; go_simp; try with_reducible rfl
      try simp only [Act.put, List.setIfInBounds_toArray, List.set_cons_zero, List.set_cons_succ]
      refine wpAnyH_take (i := 10) (oi := { dst := some 19, op := Go.Op.call { callee := Go.Callee.builtin Go.Builtin.len, args := #[Go.Operand.tmp 18], argTypes := #[9] }, type := 3, pos := "ref.go:257", after := #[{ on := 9, ground := Go.Ground.data }, { on := 4, ground := Go.Ground.guard }], guard := some (4, false) }) (v := ?v10_282101) rfl (by kernel_rfl) (by kernel_rfl) (by kernel_rfl) (fun _ _ _ h => h) (Or.inl ⟨by rfl, ?y10_282101⟩) hHeld ?r10_282101
      case y10_282101 => intro w hSw; (try dsimp only at hSw); go_simp; try with_reducible rfl
      try simp only [Act.put, List.setIfInBounds_toArray, List.set_cons_zero, List.set_cons_succ]
      refine wpAnyH_take (i := 11) (oi := { dst := some 20, op := Go.Op.move (Go.Operand.tmp 0), type := 125, pos := "ref.go:257", after := #[{ on := 4, ground := Go.Ground.guard }], guard := some (4, false) }) (v := ?v11_282101) rfl (by kernel_rfl) (by kernel_rfl) (by kernel_rfl) (fun _ _ _ h => h) (Or.inl ⟨by rfl, ?y11_282101⟩) hHeld ?r11_282101
      case y11_282101 => intro w hSw; (try dsimp only at hSw); go_simp; try with_reducible rfl
      try simp only [Act.put, List.setIfInBounds_toArray, List.set_cons_zero, List.set_cons_succ]
      refine wpAnyH_take (i := 12) (oi := { dst := some 21, op := Go.Op.nilCheck (Go.Operand.tmp 20), type := 0, pos := "ref.go:257", after := #[{ on := 11, ground := Go.Ground.data }, { on := 4, ground := Go.Ground.guard }], guard := some (4, false) }) (v := ?v12_282101) rfl (by kernel_rfl) (by kernel_rfl) (by kernel_rfl) (fun _ _ _ h => h) (Or.inl ⟨by rfl, ?y12_282101⟩) hHeld ?r12_282101
      case y12_282101 => intro w hSw; (try dsimp only at hSw); go_simp; try with_reducible rfl
      try simp only [Act.put, List.setIfInBounds_toArray, List.set_cons_zero, List.set_cons_succ]
      refine wpAnyH_take (i := 13) (oi := { dst := some 22, op := Go.Op.fieldAddr 127 (Go.Operand.tmp 21) 1, type := 0, pos := "ref.go:257", after := #[{ on := 12, ground := Go.Ground.data }, { on := 4, ground := Go.Ground.guard }], guard := some (4, false) }) (v := ?v13_282101) rfl (by kernel_rfl) (by kernel_rfl) (by kernel_rfl) (fun _ _ _ h => h) (Or.inl ⟨by rfl, ?y13_282101⟩) hHeld ?r13_282101
      case y13_282101 => intro w hSw; (try dsimp only at hSw); go_simp; try with_reducible rfl
      try simp only [Act.put, List.setIfInBounds_toArray, List.set_cons_zero, List.set_cons_succ]
      refine wpAnyH_take (i := 14) (oi := { dst := some 23, op := Go.Op.load 3 (Go.Operand.tmp 22), type := 3, pos := "ref.go:257", after := #[{ on := 13, ground := Go.Ground.data }, { on := 4, ground := Go.Ground.guard }], guard := some (4, false) }) (v := ?v14_282101) rfl (by kernel_rfl) (by kernel_rfl) (by kernel_rfl) (fun _ _ _ h => h) (Or.inl ⟨by rfl, ?y14_282101⟩) hHeld ?r14_282101
      case y14_282101 => intro w hSw; (try dsimp only at hSw); obtain ⟨c0, c1, c2, f1, f2⟩ := hSw.1.cells; go_simp; try with_reducible rfl
      try simp only [Act.put, List.setIfInBounds_toArray, List.set_cons_zero, List.set_cons_succ]
      refine wpAnyH_take (i := 15) (oi := { dst := some 24, op := Go.Op.binOp Go.BinOp.sub 3 (Go.Operand.tmp 19) (Go.Operand.tmp 23) 3, type := 3, pos := "ref.go:257", after := #[{ on := 10, ground := Go.Ground.data }, { on := 14, ground := Go.Ground.data }, { on := 4, ground := Go.Ground.guard }], guard := some (4, false) }) (v := ?v15_282101) rfl (by kernel_rfl) (by kernel_rfl) (by kernel_rfl) (fun _ _ _ h => h) (Or.inl ⟨by rfl, ?y15_282101⟩) hHeld ?r15_282101
      case y15_282101 => intro w hSw; (try dsimp only at hSw); go_simp; try with_reducible rfl
      try simp only [Act.put, List.setIfInBounds_toArray, List.set_cons_zero, List.set_cons_succ]
      refine wpAnyH_take (i := 16) (oi := { dst := some 25, op := Go.Op.binOp Go.BinOp.gtr 3 (Go.Operand.tmp 14) (Go.Operand.tmp 24) 3, type := 4, pos := "ref.go:257", after := #[{ on := 5, ground := Go.Ground.data }, { on := 15, ground := Go.Ground.data }, { on := 4, ground := Go.Ground.guard }], guard := some (4, false) }) (v := ?v16_282101) rfl (by kernel_rfl) (by kernel_rfl) (by kernel_rfl) (fun _ _ _ h => h) (Or.inl ⟨by rfl, ?y16_282101⟩) hHeld ?r16_282101
      case y16_282101 => intro w hSw; (try dsimp only at hSw); go_simp; try with_reducible rfl
      try simp only [Act.put, List.setIfInBounds_toArray, List.set_cons_zero, List.set_cons_succ]
      refine wpAnyH_take (i := 17) (oi := { dst := some 26, op := Go.Op.pick (Go.Operand.tmp 13) (Go.Operand.const (Go.Value.bool true)) (Go.Operand.tmp 25), type := 4, pos := "ref.go:257", after := #[{ on := 4, ground := Go.Ground.data }, { on := 16, ground := Go.Ground.data }], guard := none }) (v := ?v17_282101) rfl (by kernel_rfl) (by kernel_rfl) (by kernel_rfl) (fun _ _ _ h => h) (Or.inl ⟨by rfl, ?y17_282101⟩) hHeld ?r17_282101
      case y17_282101 => intro w hSw; (try dsimp only at hSw); go_simp; try with_reducible rfl
      try simp only [Act.put, List.setIfInBounds_toArray, List.set_cons_zero, List.set_cons_succ]
      refine wpAnyH_done (by kernel_rfl) ?_ _
      have HRH := Lib.hid hHeld.1
      have HGH := Lib.hid hHeld.2
      obtain ⟨c0, c1, c2, f1, f2⟩ := hHeld.1.cells
      clear hHeld
      obtain ⟨E, hE⟩ : ∃ x, a + n = x := ⟨_, rfl⟩
      have hEz : IntKind.i64.wrap ((a : Int) + (n : Int)) = (E : Int) := by rw [IntKind.wrap_i64]; have := HE.out; have := HS.out; omega
      rw [hE] at HP HE HIN
      have HEE := Lib.hid hE
      clear hE
      go_wp2_with fail
      refine (rname_b q s a false _ HRH.out HA.out HS.out).mono ?_; rintro en w_a1 ⟨v1, a1, b1, rfl, z1, r1, g1, s1⟩
      have Hr1 := Lib.hid r1
      have Hg1 := Lib.hid g1
      have Hs1 := Lib.hid s1
      have Hz1 := Lib.hid z1
      clear r1 g1 s1 z1
      have HST := Lib.hid (show Stp s (innP s k E a) 0 v1 a1 (eB b1) from by rw [HIN.out]; exact Hs1.out)
      have HZZ := Lib.hid (show (v1).size ≤ 40000 by have := Hz1.out; omega)
      obtain ⟨xx, hxx⟩ : ∃ y, v1 = y := ⟨_, rfl⟩
      rw [hxx] at HST HZZ
      have HXX := Lib.hid hxx
      clear hxx
      obtain ⟨c0, c1, c2, f1, f2⟩ := Hr1.out.cells
      by_cases t3 : a1 = E
      · subst t3
        have d8 : ((a1 : Int) != (a1 : Int)) = false := nF rfl
        go_wp2
        go_ret
        exact ⟨xx, a1, b1, by rw [HXX.out]; rfl, HZZ.out, Hr1.out, (HGH.out.trans Hg1.out), by rw [HP.out]; exact HST.out.closeE rfl⟩
      · have HT := Lib.hid t3
        have d8 : ((a1 : Int) != (E : Int)) = true := nT (by omega)
        clear t3
        go_wp2
        go_ret
        exact ⟨xx, a1, true, by rw [HXX.out]; rfl, HZZ.out, Hr1.out.bad, ((HGH.out.trans Hg1.out)).trans (grown_cell _ _ _ _), by rw [HP.out]; exact HST.out.closeN HT.out⟩
    by_cases k15 : k = 15
    · skip
      have HIN := Lib.hid (show innP s k (a + n) a = (takeP s 2 a).bind fun x => (nameP s x.2).map fun y => (x.1 ++ y.1, y.2) by rw [innP, if_neg (by omega), if_pos k15])
      have e2 := eF k2
      have e5 := eF k5
      have e15 := eT k15
      clear k2 k5 k15
      clear ha hs hn g
      go_enter Try.func101, Try.ntmps101
      go_wp2_with fail
      refine wp_region_held_drew (S := (fun wx => RdB wx q s a false ∧ w.grownBy wx (some q))) (by kernel_rfl) (⟨HR.out.drew, grown_drew (World.grownBy.refl _ _)⟩) (fun hHeld => ?_)
      obtain ⟨wz, hwd⟩ : ∃ x, w.drew = x := ⟨_, rfl⟩
      rw [hwd] at hHeld ⊢
      clear hwd
      refine wpAnyH_take (i := 0) (oi := { dst := some 9, op := Go.Op.move (Go.Operand.tmp 0), type := 125, pos := "ref.go:257", after := #[], guard := none }) (v := ?v0_282601) rfl (by kernel_rfl) (by kernel_rfl) (by kernel_rfl) (fun _ _ _ h => h) (Or.inl ⟨by rfl, ?y0_282601⟩) hHeld ?r0_282601
      case y0_282601 => intro w hSw; (try dsimp only at hSw); go_simp; try with_reducible rfl
      try simp only [Act.put, List.setIfInBounds_toArray, List.set_cons_zero, List.set_cons_succ]
      refine wpAnyH_take (i := 1) (oi := { dst := some 10, op := Go.Op.nilCheck (Go.Operand.tmp 9), type := 0, pos := "ref.go:257", after := #[{ on := 0, ground := Go.Ground.data }], guard := none }) (v := ?v1_282601) rfl (by kernel_rfl) (by kernel_rfl) (by kernel_rfl) (fun _ _ _ h => h) (Or.inl ⟨by rfl, ?y1_282601⟩) hHeld ?r1_282601
      case y1_282601 => intro w hSw; (try dsimp only at hSw); go_simp; try with_reducible rfl
      try simp only [Act.put, List.setIfInBounds_toArray, List.set_cons_zero, List.set_cons_succ]
      refine wpAnyH_take (i := 2) (oi := { dst := some 11, op := Go.Op.fieldAddr 127 (Go.Operand.tmp 10) 2, type := 0, pos := "ref.go:257", after := #[{ on := 1, ground := Go.Ground.data }], guard := none }) (v := ?v2_282601) rfl (by kernel_rfl) (by kernel_rfl) (by kernel_rfl) (fun _ _ _ h => h) (Or.inl ⟨by rfl, ?y2_282601⟩) hHeld ?r2_282601
      case y2_282601 => intro w hSw; (try dsimp only at hSw); go_simp; try with_reducible rfl
      try simp only [Act.put, List.setIfInBounds_toArray, List.set_cons_zero, List.set_cons_succ]
      refine wpAnyH_take (i := 3) (oi := { dst := some 12, op := Go.Op.load 4 (Go.Operand.tmp 11), type := 4, pos := "ref.go:257", after := #[{ on := 2, ground := Go.Ground.data }], guard := none }) (v := ?v3_282601) rfl (by kernel_rfl) (by kernel_rfl) (by kernel_rfl) (fun _ _ _ h => h) (Or.inl ⟨by rfl, ?y3_282601⟩) hHeld ?r3_282601
      case y3_282601 => intro w hSw; (try dsimp only at hSw); obtain ⟨c0, c1, c2, f1, f2⟩ := hSw.1.cells; go_simp; try with_reducible rfl
      try simp only [Act.put, List.setIfInBounds_toArray, List.set_cons_zero, List.set_cons_succ]
      refine wpAnyH_take (i := 4) (oi := { dst := some 13, op := Go.Op.move (Go.Operand.tmp 12), type := 4, pos := "ref.go:257", after := #[{ on := 3, ground := Go.Ground.data }], guard := none }) (v := ?v4_282601) rfl (by kernel_rfl) (by kernel_rfl) (by kernel_rfl) (fun _ _ _ h => h) (Or.inl ⟨by rfl, ?y4_282601⟩) hHeld ?r4_282601
      case y4_282601 => intro w hSw; (try dsimp only at hSw); go_simp; try with_reducible rfl
      try simp only [Act.put, List.setIfInBounds_toArray, List.set_cons_zero, List.set_cons_succ]
      refine wpAnyH_take (i := 5) (oi := { dst := some 14, op := Go.Op.move (Go.Operand.tmp 2), type := 3, pos := "ref.go:257", after := #[{ on := 4, ground := Go.Ground.guard }], guard := some (4, false) }) (v := ?v5_282601) rfl (by kernel_rfl) (by kernel_rfl) (by kernel_rfl) (fun _ _ _ h => h) (Or.inl ⟨by rfl, ?y5_282601⟩) hHeld ?r5_282601
      case y5_282601 => intro w hSw; (try dsimp only at hSw); go_simp; try with_reducible rfl
      try simp only [Act.put, List.setIfInBounds_toArray, List.set_cons_zero, List.set_cons_succ]
      refine wpAnyH_take (i := 6) (oi := { dst := some 15, op := Go.Op.move (Go.Operand.tmp 0), type := 125, pos := "ref.go:257", after := #[{ on := 4, ground := Go.Ground.guard }], guard := some (4, false) }) (v := ?v6_282601) rfl (by kernel_rfl) (by kernel_rfl) (by kernel_rfl) (fun _ _ _ h => h) (Or.inl ⟨by rfl, ?y6_282601⟩) hHeld ?r6_282601
      case y6_282601 => intro w hSw; (try dsimp only at hSw); go_simp; try with_reducible rfl
      try simp only [Act.put, List.setIfInBounds_toArray, List.set_cons_zero, List.set_cons_succ]
      refine wpAnyH_take (i := 7) (oi := { dst := some 16, op := Go.Op.nilCheck (Go.Operand.tmp 15), type := 0, pos := "ref.go:257", after := #[{ on := 6, ground := Go.Ground.data }, { on := 4, ground := Go.Ground.guard }], guard := some (4, false) }) (v := ?v7_282601) rfl (by kernel_rfl) (by kernel_rfl) (by kernel_rfl) (fun _ _ _ h => h) (Or.inl ⟨by rfl, ?y7_282601⟩) hHeld ?r7_282601
      case y7_282601 => intro w hSw; (try dsimp only at hSw); go_simp; try with_reducible rfl
      try simp only [Act.put, List.setIfInBounds_toArray, List.set_cons_zero, List.set_cons_succ]
      refine wpAnyH_take (i := 8) (oi := { dst := some 17, op := Go.Op.fieldAddr 127 (Go.Operand.tmp 16) 0, type := 0, pos := "ref.go:257", after := #[{ on := 7, ground := Go.Ground.data }, { on := 4, ground := Go.Ground.guard }], guard := some (4, false) }) (v := ?v8_282601) rfl (by kernel_rfl) (by kernel_rfl) (by kernel_rfl) (fun _ _ _ h => h) (Or.inl ⟨by rfl, ?y8_282601⟩) hHeld ?r8_282601
      case y8_282601 => intro w hSw; (try dsimp only at hSw); go_simp; try with_reducible rfl
      try simp only [Act.put, List.setIfInBounds_toArray, List.set_cons_zero, List.set_cons_succ]
      refine wpAnyH_take (i := 9) (oi := { dst := some 18, op := Go.Op.load 9 (Go.Operand.tmp 17), type := 9, pos := "ref.go:257", after := #[{ on := 8, ground := Go.Ground.data }, { on := 4, ground := Go.Ground.guard }], guard := some (4, false) }) (v := ?v9_282601) rfl (by kernel_rfl) (by kernel_rfl) (by kernel_rfl) (fun _ _ _ h => h) (Or.inl ⟨by rfl, ?y9_282601⟩) hHeld ?r9_282601
      case y9_282601 => intro w hSw; (try dsimp only at hSw); obtain ⟨c0, c1, c2, f1, f2⟩ := hSw.1.cells; go_simp; try with_reducible rfl
      try simp only [Act.put, List.setIfInBounds_toArray, List.set_cons_zero, List.set_cons_succ]
      refine wpAnyH_take (i := 10) (oi := { dst := some 19, op := Go.Op.call { callee := Go.Callee.builtin Go.Builtin.len, args := #[Go.Operand.tmp 18], argTypes := #[9] }, type := 3, pos := "ref.go:257", after := #[{ on := 9, ground := Go.Ground.data }, { on := 4, ground := Go.Ground.guard }], guard := some (4, false) }) (v := ?v10_282601) rfl (by kernel_rfl) (by kernel_rfl) (by kernel_rfl) (fun _ _ _ h => h) (Or.inl ⟨by rfl, ?y10_282601⟩) hHeld ?r10_282601
      case y10_282601 => intro w hSw; (try dsimp only at hSw); go_simp; try with_reducible rfl
      try simp only [Act.put, List.setIfInBounds_toArray, List.set_cons_zero, List.set_cons_succ]
      refine wpAnyH_take (i := 11) (oi := { dst := some 20, op := Go.Op.move (Go.Operand.tmp 0), type := 125, pos := "ref.go:257", after := #[{ on := 4, ground := Go.Ground.guard }], guard := some (4, false) }) (v := ?v11_282601) rfl (by kernel_rfl) (by kernel_rfl) (by kernel_rfl) (fun _ _ _ h => h) (Or.inl ⟨by rfl, ?y11_282601⟩) hHeld ?r11_282601
      case y11_282601 => intro w hSw; (try dsimp only at hSw); go_simp; try with_reducible rfl
      try simp only [Act.put, List.setIfInBounds_toArray, List.set_cons_zero, List.set_cons_succ]
      refine wpAnyH_take (i := 12) (oi := { dst := some 21, op := Go.Op.nilCheck (Go.Operand.tmp 20), type := 0, pos := "ref.go:257", after := #[{ on := 11, ground := Go.Ground.data }, { on := 4, ground := Go.Ground.guard }], guard := some (4, false) }) (v := ?v12_282601) rfl (by kernel_rfl) (by kernel_rfl) (by kernel_rfl) (fun _ _ _ h => h) (Or.inl ⟨by rfl, ?y12_282601⟩) hHeld ?r12_282601
      case y12_282601 => intro w hSw; (try dsimp only at hSw); go_simp; try with_reducible rfl
      try simp only [Act.put, List.setIfInBounds_toArray, List.set_cons_zero, List.set_cons_succ]
      refine wpAnyH_take (i := 13) (oi := { dst := some 22, op := Go.Op.fieldAddr 127 (Go.Operand.tmp 21) 1, type := 0, pos := "ref.go:257", after := #[{ on := 12, ground := Go.Ground.data }, { on := 4, ground := Go.Ground.guard }], guard := some (4, false) }) (v := ?v13_282601) rfl (by kernel_rfl) (by kernel_rfl) (by kernel_rfl) (fun _ _ _ h => h) (Or.inl ⟨by rfl, ?y13_282601⟩) hHeld ?r13_282601
      case y13_282601 => intro w hSw; (try dsimp only at hSw); go_simp; try with_reducible rfl
      try simp only [Act.put, List.setIfInBounds_toArray, List.set_cons_zero, List.set_cons_succ]
      refine wpAnyH_take (i := 14) (oi := { dst := some 23, op := Go.Op.load 3 (Go.Operand.tmp 22), type := 3, pos := "ref.go:257", after := #[{ on := 13, ground := Go.Ground.data }, { on := 4, ground := Go.Ground.guard }], guard := some (4, false) }) (v := ?v14_282601) rfl (by kernel_rfl) (by kernel_rfl) (by kernel_rfl) (fun _ _ _ h => h) (Or.inl ⟨by rfl, ?y14_282601⟩) hHeld ?r14_282601
      case y14_282601 => intro w hSw; (try dsimp only at hSw); obtain ⟨c0, c1, c2, f1, f2⟩ := hSw.1.cells; go_simp; try with_reducible rfl
      try simp only [Act.put, List.setIfInBounds_toArray, List.set_cons_zero, List.set_cons_succ]
      refine wpAnyH_take (i := 15) (oi := { dst := some 24, op := Go.Op.binOp Go.BinOp.sub 3 (Go.Operand.tmp 19) (Go.Operand.tmp 23) 3, type := 3, pos := "ref.go:257", after := #[{ on := 10, ground := Go.Ground.data }, { on := 14, ground := Go.Ground.data }, { on := 4, ground := Go.Ground.guard }], guard := some (4, false) }) (v := ?v15_282601) rfl (by kernel_rfl) (by kernel_rfl) (by kernel_rfl) (fun _ _ _ h => h) (Or.inl ⟨by rfl, ?y15_282601⟩) hHeld ?r15_282601
      case y15_282601 => intro w hSw; (try dsimp only at hSw); go_simp; try with_reducible rfl
      try simp only [Act.put, List.setIfInBounds_toArray, List.set_cons_zero, List.set_cons_succ]
      refine wpAnyH_take (i := 16) (oi := { dst := some 25, op := Go.Op.binOp Go.BinOp.gtr 3 (Go.Operand.tmp 14) (Go.Operand.tmp 24) 3, type := 4, pos := "ref.go:257", after := #[{ on := 5, ground := Go.Ground.data }, { on := 15, ground := Go.Ground.data }, { on := 4, ground := Go.Ground.guard }], guard := some (4, false) }) (v := ?v16_282601) rfl (by kernel_rfl) (by kernel_rfl) (by kernel_rfl) (fun _ _ _ h => h) (Or.inl ⟨by rfl, ?y16_282601⟩) hHeld ?r16_282601
      case y16_282601 => intro w hSw; (try dsimp only at hSw); go_simp; try with_reducible rfl
      try simp only [Act.put, List.setIfInBounds_toArray, List.set_cons_zero, List.set_cons_succ]
      refine wpAnyH_take (i := 17) (oi := { dst := some 26, op := Go.Op.pick (Go.Operand.tmp 13) (Go.Operand.const (Go.Value.bool true)) (Go.Operand.tmp 25), type := 4, pos := "ref.go:257", after := #[{ on := 4, ground := Go.Ground.data }, { on := 16, ground := Go.Ground.data }], guard := none }) (v := ?v17_282601) rfl (by kernel_rfl) (by kernel_rfl) (by kernel_rfl) (fun _ _ _ h => h) (Or.inl ⟨by rfl, ?y17_282601⟩) hHeld ?r17_282601
      case y17_282601 => intro w hSw; (try dsimp only at hSw); go_simp; try with_reducible rfl
      try simp only [Act.put, List.setIfInBounds_toArray, List.set_cons_zero, List.set_cons_succ]
      refine wpAnyH_done (by kernel_rfl) ?_ _
      have HRH := Lib.hid hHeld.1
      have HGH := Lib.hid hHeld.2
      obtain ⟨c0, c1, c2, f1, f2⟩ := hHeld.1.cells
      clear hHeld
      obtain ⟨E, hE⟩ : ∃ x, a + n = x := ⟨_, rfl⟩
      have hEz : IntKind.i64.wrap ((a : Int) + (n : Int)) = (E : Int) := by rw [IntKind.wrap_i64]; have := HE.out; have := HS.out; omega
      rw [hE] at HP HE HIN
      have HEE := Lib.hid hE
      clear hE
      go_wp2_with fail
      refine (rbytes_b q s a 2 false _ HRH.out HA.out HS.out (by decide)).mono ?_; rintro en w_a1 ⟨v1, a1, b1, rfl, z1, r1, g1, s1⟩
      have Hr1 := Lib.hid r1
      have Hg1 := Lib.hid g1
      have Hs1 := Lib.hid s1
      have Hz1 := Lib.hid z1
      clear r1 g1 s1 z1
      go_wp2_with fail
      refine (rname_b q s a1 b1 _ Hr1.out Hs1.out.1 HS.out).mono ?_; rintro en w_a2 ⟨v2, a2, b2, rfl, z2, r2, g2, s2⟩
      have Hr2 := Lib.hid r2
      have Hg2 := Lib.hid g2
      have Hs2 := Lib.hid s2
      have Hz2 := Lib.hid z2
      clear r2 g2 s2 z2
      have hcc : (9223372036854775807 < v1.size + v2.size) = False := eq_false (by have := Hz1.out; have := Hz2.out; omega)
      have HST := Lib.hid (show Stp s (innP s k E a) 0 (v1 ++ v2) a2 (eB b2) from by rw [HIN.out]; exact (Stp.seq (fun x y => x ++ y) Hs1.out Hs2.out))
      have HZZ := Lib.hid (show ((v1 ++ v2)).size ≤ 40000 by rw [ByteArray.size_append]; have := Hz1.out; have := Hz2.out; omega)
      obtain ⟨xx, hxx⟩ : ∃ y, (v1 ++ v2) = y := ⟨_, rfl⟩
      rw [hxx] at HST HZZ
      have HXX := Lib.hid hxx
      clear hxx
      obtain ⟨c0, c1, c2, f1, f2⟩ := Hr2.out.cells
      by_cases t3 : a2 = E
      · subst t3
        have d8 : ((a2 : Int) != (a2 : Int)) = false := nF rfl
        go_wp2
        go_ret
        exact ⟨xx, a2, b2, by rw [HXX.out]; rfl, HZZ.out, Hr2.out, ((HGH.out.trans Hg1.out).trans Hg2.out), by rw [HP.out]; exact HST.out.closeE rfl⟩
      · have HT := Lib.hid t3
        have d8 : ((a2 : Int) != (E : Int)) = true := nT (by omega)
        clear t3
        go_wp2
        go_ret
        exact ⟨xx, a2, true, by rw [HXX.out]; rfl, HZZ.out, Hr2.out.bad, (((HGH.out.trans Hg1.out).trans Hg2.out)).trans (grown_cell _ _ _ _), by rw [HP.out]; exact HST.out.closeN HT.out⟩
    by_cases k6 : k = 6
    · skip
      have HIN := Lib.hid (show innP s k (a + n) a = ((nameP s a).bind fun x => (nameP s x.2).map fun y => (x.1 ++ y.1, y.2)).bind fun x => (takeP s 20 x.2).map fun y => (x.1 ++ y.1, y.2) by rw [innP, if_neg (by omega), if_neg k15, if_pos k6])
      have e2 := eF k2
      have e5 := eF k5
      have e15 := eF k15
      have e6 := eT k6
      clear k2 k5 k15 k6
      clear ha hs hn g
      go_enter Try.func101, Try.ntmps101
      go_wp2_with fail
      refine wp_region_held_drew (S := (fun wx => RdB wx q s a false ∧ w.grownBy wx (some q))) (by kernel_rfl) (⟨HR.out.drew, grown_drew (World.grownBy.refl _ _)⟩) (fun hHeld => ?_)
      obtain ⟨wz, hwd⟩ : ∃ x, w.drew = x := ⟨_, rfl⟩
      rw [hwd] at hHeld ⊢
      clear hwd
      refine wpAnyH_take (i := 0) (oi := { dst := some 9, op := Go.Op.move (Go.Operand.tmp 0), type := 125, pos := "ref.go:257", after := #[], guard := none }) (v := ?v0_283101) rfl (by kernel_rfl) (by kernel_rfl) (by kernel_rfl) (fun _ _ _ h => h) (Or.inl ⟨by rfl, ?y0_283101⟩) hHeld ?r0_283101
      case y0_283101 => intro w hSw; (try dsimp only at hSw); go_simp; try with_reducible rfl
      try simp only [Act.put, List.setIfInBounds_toArray, List.set_cons_zero, List.set_cons_succ]
      refine wpAnyH_take (i := 1) (oi := { dst := some 10, op := Go.Op.nilCheck (Go.Operand.tmp 9), type := 0, pos := "ref.go:257", after := #[{ on := 0, ground := Go.Ground.data }], guard := none }) (v := ?v1_283101) rfl (by kernel_rfl) (by kernel_rfl) (by kernel_rfl) (fun _ _ _ h => h) (Or.inl ⟨by rfl, ?y1_283101⟩) hHeld ?r1_283101
      case y1_283101 => intro w hSw; (try dsimp only at hSw); go_simp; try with_reducible rfl
      try simp only [Act.put, List.setIfInBounds_toArray, List.set_cons_zero, List.set_cons_succ]
      refine wpAnyH_take (i := 2) (oi := { dst := some 11, op := Go.Op.fieldAddr 127 (Go.Operand.tmp 10) 2, type := 0, pos := "ref.go:257", after := #[{ on := 1, ground := Go.Ground.data }], guard := none }) (v := ?v2_283101) rfl (by kernel_rfl) (by kernel_rfl) (by kernel_rfl) (fun _ _ _ h => h) (Or.inl ⟨by rfl, ?y2_283101⟩) hHeld ?r2_283101
      case y2_283101 => intro w hSw; (try dsimp only at hSw); go_simp; try with_reducible rfl
      try simp only [Act.put, List.setIfInBounds_toArray, List.set_cons_zero, List.set_cons_succ]
      refine wpAnyH_take (i := 3) (oi := { dst := some 12, op := Go.Op.load 4 (Go.Operand.tmp 11), type := 4, pos := "ref.go:257", after := #[{ on := 2, ground := Go.Ground.data }], guard := none }) (v := ?v3_283101) rfl (by kernel_rfl) (by kernel_rfl) (by kernel_rfl) (fun _ _ _ h => h) (Or.inl ⟨by rfl, ?y3_283101⟩) hHeld ?r3_283101
      case y3_283101 => intro w hSw; (try dsimp only at hSw); obtain ⟨c0, c1, c2, f1, f2⟩ := hSw.1.cells; go_simp; try with_reducible rfl
      try simp only [Act.put, List.setIfInBounds_toArray, List.set_cons_zero, List.set_cons_succ]
      refine wpAnyH_take (i := 4) (oi := { dst := some 13, op := Go.Op.move (Go.Operand.tmp 12), type := 4, pos := "ref.go:257", after := #[{ on := 3, ground := Go.Ground.data }], guard := none }) (v := ?v4_283101) rfl (by kernel_rfl) (by kernel_rfl) (by kernel_rfl) (fun _ _ _ h => h) (Or.inl ⟨by rfl, ?y4_283101⟩) hHeld ?r4_283101
      case y4_283101 => intro w hSw; (try dsimp only at hSw); go_simp; try with_reducible rfl
      try simp only [Act.put, List.setIfInBounds_toArray, List.set_cons_zero, List.set_cons_succ]
      refine wpAnyH_take (i := 5) (oi := { dst := some 14, op := Go.Op.move (Go.Operand.tmp 2), type := 3, pos := "ref.go:257", after := #[{ on := 4, ground := Go.Ground.guard }], guard := some (4, false) }) (v := ?v5_283101) rfl (by kernel_rfl) (by kernel_rfl) (by kernel_rfl) (fun _ _ _ h => h) (Or.inl ⟨by rfl, ?y5_283101⟩) hHeld ?r5_283101
      case y5_283101 => intro w hSw; (try dsimp only at hSw); go_simp; try with_reducible rfl
      try simp only [Act.put, List.setIfInBounds_toArray, List.set_cons_zero, List.set_cons_succ]
      refine wpAnyH_take (i := 6) (oi := { dst := some 15, op := Go.Op.move (Go.Operand.tmp 0), type := 125, pos := "ref.go:257", after := #[{ on := 4, ground := Go.Ground.guard }], guard := some (4, false) }) (v := ?v6_283101) rfl (by kernel_rfl) (by kernel_rfl) (by kernel_rfl) (fun _ _ _ h => h) (Or.inl ⟨by rfl, ?y6_283101⟩) hHeld ?r6_283101
      case y6_283101 => intro w hSw; (try dsimp only at hSw); go_simp; try with_reducible rfl
      try simp only [Act.put, List.setIfInBounds_toArray, List.set_cons_zero, List.set_cons_succ]
      refine wpAnyH_take (i := 7) (oi := { dst := some 16, op := Go.Op.nilCheck (Go.Operand.tmp 15), type := 0, pos := "ref.go:257", after := #[{ on := 6, ground := Go.Ground.data }, { on := 4, ground := Go.Ground.guard }], guard := some (4, false) }) (v := ?v7_283101) rfl (by kernel_rfl) (by kernel_rfl) (by kernel_rfl) (fun _ _ _ h => h) (Or.inl ⟨by rfl, ?y7_283101⟩) hHeld ?r7_283101
      case y7_283101 => intro w hSw; (try dsimp only at hSw); go_simp; try with_reducible rfl
      try simp only [Act.put, List.setIfInBounds_toArray, List.set_cons_zero, List.set_cons_succ]
      refine wpAnyH_take (i := 8) (oi := { dst := some 17, op := Go.Op.fieldAddr 127 (Go.Operand.tmp 16) 0, type := 0, pos := "ref.go:257", after := #[{ on := 7, ground := Go.Ground.data }, { on := 4, ground := Go.Ground.guard }], guard := some (4, false) }) (v := ?v8_283101) rfl (by kernel_rfl) (by kernel_rfl) (by kernel_rfl) (fun _ _ _ h => h) (Or.inl ⟨by rfl, ?y8_283101⟩) hHeld ?r8_283101
      case y8_283101 => intro w hSw; (try dsimp only at hSw); go_simp; try with_reducible rfl
      try simp only [Act.put, List.setIfInBounds_toArray, List.set_cons_zero, List.set_cons_succ]
      refine wpAnyH_take (i := 9) (oi := { dst := some 18, op := Go.Op.load 9 (Go.Operand.tmp 17), type := 9, pos := "ref.go:257", after := #[{ on := 8, ground := Go.Ground.data }, { on := 4, ground := Go.Ground.guard }], guard := some (4, false) }) (v := ?v9_283101) rfl (by kernel_rfl) (by kernel_rfl) (by kernel_rfl) (fun _ _ _ h => h) (Or.inl ⟨by rfl, ?y9_283101⟩) hHeld ?r9_283101
      case y9_283101 => intro w hSw; (try dsimp only at hSw); obtain ⟨c0, c1, c2, f1, f2⟩ := hSw.1.cells; go_simp; try with_reducible rfl
      try simp only [Act.put, List.setIfInBounds_toArray, List.set_cons_zero, List.set_cons_succ]
      refine wpAnyH_take (i := 10) (oi := { dst := some 19, op := Go.Op.call { callee := Go.Callee.builtin Go.Builtin.len, args := #[Go.Operand.tmp 18], argTypes := #[9] }, type := 3, pos := "ref.go:257", after := #[{ on := 9, ground := Go.Ground.data }, { on := 4, ground := Go.Ground.guard }], guard := some (4, false) }) (v := ?v10_283101) rfl (by kernel_rfl) (by kernel_rfl) (by kernel_rfl) (fun _ _ _ h => h) (Or.inl ⟨by rfl, ?y10_283101⟩) hHeld ?r10_283101
      case y10_283101 => intro w hSw; (try dsimp only at hSw); go_simp; try with_reducible rfl
      try simp only [Act.put, List.setIfInBounds_toArray, List.set_cons_zero, List.set_cons_succ]
      refine wpAnyH_take (i := 11) (oi := { dst := some 20, op := Go.Op.move (Go.Operand.tmp 0), type := 125, pos := "ref.go:257", after := #[{ on := 4, ground := Go.Ground.guard }], guard := some (4, false) }) (v := ?v11_283101) rfl (by kernel_rfl) (by kernel_rfl) (by kernel_rfl) (fun _ _ _ h => h) (Or.inl ⟨by rfl, ?y11_283101⟩) hHeld ?r11_283101
      case y11_283101 => intro w hSw; (try dsimp only at hSw); go_simp; try with_reducible rfl
      try simp only [Act.put, List.setIfInBounds_toArray, List.set_cons_zero, List.set_cons_succ]
      refine wpAnyH_take (i := 12) (oi := { dst := some 21, op := Go.Op.nilCheck (Go.Operand.tmp 20), type := 0, pos := "ref.go:257", after := #[{ on := 11, ground := Go.Ground.data }, { on := 4, ground := Go.Ground.guard }], guard := some (4, false) }) (v := ?v12_283101) rfl (by kernel_rfl) (by kernel_rfl) (by kernel_rfl) (fun _ _ _ h => h) (Or.inl ⟨by rfl, ?y12_283101⟩) hHeld ?r12_283101
      case y12_283101 => intro w hSw; (try dsimp only at hSw); go_simp; try with_reducible rfl
      try simp only [Act.put, List.setIfInBounds_toArray, List.set_cons_zero, List.set_cons_succ]
      refine wpAnyH_take (i := 13) (oi := { dst := some 22, op := Go.Op.fieldAddr 127 (Go.Operand.tmp 21) 1, type := 0, pos := "ref.go:257", after := #[{ on := 12, ground := Go.Ground.data }, { on := 4, ground := Go.Ground.guard }], guard := some (4, false) }) (v := ?v13_283101) rfl (by kernel_rfl) (by kernel_rfl) (by kernel_rfl) (fun _ _ _ h => h) (Or.inl ⟨by rfl, ?y13_283101⟩) hHeld ?r13_283101
      case y13_283101 => intro w hSw; (try dsimp only at hSw); go_simp; try with_reducible rfl
      try simp only [Act.put, List.setIfInBounds_toArray, List.set_cons_zero, List.set_cons_succ]
      refine wpAnyH_take (i := 14) (oi := { dst := some 23, op := Go.Op.load 3 (Go.Operand.tmp 22), type := 3, pos := "ref.go:257", after := #[{ on := 13, ground := Go.Ground.data }, { on := 4, ground := Go.Ground.guard }], guard := some (4, false) }) (v := ?v14_283101) rfl (by kernel_rfl) (by kernel_rfl) (by kernel_rfl) (fun _ _ _ h => h) (Or.inl ⟨by rfl, ?y14_283101⟩) hHeld ?r14_283101
      case y14_283101 => intro w hSw; (try dsimp only at hSw); obtain ⟨c0, c1, c2, f1, f2⟩ := hSw.1.cells; go_simp; try with_reducible rfl
      try simp only [Act.put, List.setIfInBounds_toArray, List.set_cons_zero, List.set_cons_succ]
      refine wpAnyH_take (i := 15) (oi := { dst := some 24, op := Go.Op.binOp Go.BinOp.sub 3 (Go.Operand.tmp 19) (Go.Operand.tmp 23) 3, type := 3, pos := "ref.go:257", after := #[{ on := 10, ground := Go.Ground.data }, { on := 14, ground := Go.Ground.data }, { on := 4, ground := Go.Ground.guard }], guard := some (4, false) }) (v := ?v15_283101) rfl (by kernel_rfl) (by kernel_rfl) (by kernel_rfl) (fun _ _ _ h => h) (Or.inl ⟨by rfl, ?y15_283101⟩) hHeld ?r15_283101
      case y15_283101 => intro w hSw; (try dsimp only at hSw); go_simp; try with_reducible rfl
      try simp only [Act.put, List.setIfInBounds_toArray, List.set_cons_zero, List.set_cons_succ]
      refine wpAnyH_take (i := 16) (oi := { dst := some 25, op := Go.Op.binOp Go.BinOp.gtr 3 (Go.Operand.tmp 14) (Go.Operand.tmp 24) 3, type := 4, pos := "ref.go:257", after := #[{ on := 5, ground := Go.Ground.data }, { on := 15, ground := Go.Ground.data }, { on := 4, ground := Go.Ground.guard }], guard := some (4, false) }) (v := ?v16_283101) rfl (by kernel_rfl) (by kernel_rfl) (by kernel_rfl) (fun _ _ _ h => h) (Or.inl ⟨by rfl, ?y16_283101⟩) hHeld ?r16_283101
      case y16_283101 => intro w hSw; (try dsimp only at hSw); go_simp; try with_reducible rfl
      try simp only [Act.put, List.setIfInBounds_toArray, List.set_cons_zero, List.set_cons_succ]
      refine wpAnyH_take (i := 17) (oi := { dst := some 26, op := Go.Op.pick (Go.Operand.tmp 13) (Go.Operand.const (Go.Value.bool true)) (Go.Operand.tmp 25), type := 4, pos := "ref.go:257", after := #[{ on := 4, ground := Go.Ground.data }, { on := 16, ground := Go.Ground.data }], guard := none }) (v := ?v17_283101) rfl (by kernel_rfl) (by kernel_rfl) (by kernel_rfl) (fun _ _ _ h => h) (Or.inl ⟨by rfl, ?y17_283101⟩) hHeld ?r17_283101
      case y17_283101 => intro w hSw; (try dsimp only at hSw); go_simp; try with_reducible rfl
      try simp only [Act.put, List.setIfInBounds_toArray, List.set_cons_zero, List.set_cons_succ]
      refine wpAnyH_done (by kernel_rfl) ?_ _
      have HRH := Lib.hid hHeld.1
      have HGH := Lib.hid hHeld.2
      obtain ⟨c0, c1, c2, f1, f2⟩ := hHeld.1.cells
      clear hHeld
      obtain ⟨E, hE⟩ : ∃ x, a + n = x := ⟨_, rfl⟩
      have hEz : IntKind.i64.wrap ((a : Int) + (n : Int)) = (E : Int) := by rw [IntKind.wrap_i64]; have := HE.out; have := HS.out; omega
      rw [hE] at HP HE HIN
      have HEE := Lib.hid hE
      clear hE
      go_wp2_with fail
      refine (rname_b q s a false _ HRH.out HA.out HS.out).mono ?_; rintro en w_a1 ⟨v1, a1, b1, rfl, z1, r1, g1, s1⟩
      have Hr1 := Lib.hid r1
      have Hg1 := Lib.hid g1
      have Hs1 := Lib.hid s1
      have Hz1 := Lib.hid z1
      clear r1 g1 s1 z1
      go_wp2_with fail
      refine (rname_b q s a1 b1 _ Hr1.out Hs1.out.1 HS.out).mono ?_; rintro en w_a2 ⟨v2, a2, b2, rfl, z2, r2, g2, s2⟩
      have Hr2 := Lib.hid r2
      have Hg2 := Lib.hid g2
      have Hs2 := Lib.hid s2
      have Hz2 := Lib.hid z2
      clear r2 g2 s2 z2
      have hcc : (9223372036854775807 < v1.size + v2.size) = False := eq_false (by have := Hz1.out; have := Hz2.out; omega)
      go_wp2_with fail
      refine (rbytes_b q s a2 20 b2 _ Hr2.out Hs2.out.1 HS.out (by decide)).mono ?_; rintro en w_a3 ⟨v3, a3, b3, rfl, z3, r3, g3, s3⟩
      have Hr3 := Lib.hid r3
      have Hg3 := Lib.hid g3
      have Hs3 := Lib.hid s3
      have Hz3 := Lib.hid z3
      clear r3 g3 s3 z3
      have hcd : (9223372036854775807 < v1.size + v2.size + v3.size) = False := eq_false (by have := Hz1.out; have := Hz2.out; have := Hz3.out; omega)
      have HST := Lib.hid (show Stp s (innP s k E a) 0 ((v1 ++ v2) ++ v3) a3 (eB b3) from by rw [HIN.out]; exact (Stp.seq (fun x y => x ++ y) (Stp.seq (fun x y => x ++ y) Hs1.out Hs2.out) Hs3.out))
      have HZZ := Lib.hid (show (((v1 ++ v2) ++ v3)).size ≤ 40000 by rw [ByteArray.size_append, ByteArray.size_append]; have := Hz1.out; have := Hz2.out; have := Hz3.out; omega)
      obtain ⟨xx, hxx⟩ : ∃ y, ((v1 ++ v2) ++ v3) = y := ⟨_, rfl⟩
      rw [hxx] at HST HZZ
      have HXX := Lib.hid hxx
      clear hxx
      obtain ⟨c0, c1, c2, f1, f2⟩ := Hr3.out.cells
      by_cases t3 : a3 = E
      · subst t3
        have d8 : ((a3 : Int) != (a3 : Int)) = false := nF rfl
        go_wp2
        go_ret
        exact ⟨xx, a3, b3, by rw [HXX.out]; rfl, HZZ.out, Hr3.out, (((HGH.out.trans Hg1.out).trans Hg2.out).trans Hg3.out), by rw [HP.out]; exact HST.out.closeE rfl⟩
      · have HT := Lib.hid t3
        have d8 : ((a3 : Int) != (E : Int)) = true := nT (by omega)
        clear t3
        go_wp2
        go_ret
        exact ⟨xx, a3, true, by rw [HXX.out]; rfl, HZZ.out, Hr3.out.bad, ((((HGH.out.trans Hg1.out).trans Hg2.out).trans Hg3.out)).trans (grown_cell _ _ _ _), by rw [HP.out]; exact HST.out.closeN HT.out⟩
    have HIN := Lib.hid (show innP s k (a + n) a = takeP s n a by rw [innP, if_neg (by omega), if_neg k15, if_neg k6, Nat.add_sub_cancel_left])
    have e2 := eF k2
    have e5 := eF k5
    have e15 := eF k15
    have e6 := eF k6
    clear k2 k5 k15 k6
    clear ha hs hn g
    go_enter Try.func101, Try.ntmps101
    go_wp2_with fail
    refine wp_region_held_drew (S := (fun wx => RdB wx q s a false ∧ w.grownBy wx (some q))) (by kernel_rfl) (⟨HR.out.drew, grown_drew (World.grownBy.refl _ _)⟩) (fun hHeld => ?_)
    obtain ⟨wz, hwd⟩ : ∃ x, w.drew = x := ⟨_, rfl⟩
    rw [hwd] at hHeld ⊢
    clear hwd
    refine wpAnyH_take (i := 0) (oi := { dst := some 9, op := Go.Op.move (Go.Operand.tmp 0), type := 125, pos := "ref.go:257", after := #[], guard := none }) (v := ?v0_283601) rfl (by kernel_rfl) (by kernel_rfl) (by kernel_rfl) (fun _ _ _ h => h) (Or.inl ⟨by rfl, ?y0_283601⟩) hHeld ?r0_283601
    case y0_283601 => intro w hSw; (try dsimp only at hSw); go_simp; try with_reducible rfl
    try simp only [Act.put, List.setIfInBounds_toArray, List.set_cons_zero, List.set_cons_succ]
    refine wpAnyH_take (i := 1) (oi := { dst := some 10, op := Go.Op.nilCheck (Go.Operand.tmp 9), type := 0, pos := "ref.go:257", after := #[{ on := 0, ground := Go.Ground.data }], guard := none }) (v := ?v1_283601) rfl (by kernel_rfl) (by kernel_rfl) (by kernel_rfl) (fun _ _ _ h => h) (Or.inl ⟨by rfl, ?y1_283601⟩) hHeld ?r1_283601
    case y1_283601 => intro w hSw; (try dsimp only at hSw); go_simp; try with_reducible rfl
    try simp only [Act.put, List.setIfInBounds_toArray, List.set_cons_zero, List.set_cons_succ]
    refine wpAnyH_take (i := 2) (oi := { dst := some 11, op := Go.Op.fieldAddr 127 (Go.Operand.tmp 10) 2, type := 0, pos := "ref.go:257", after := #[{ on := 1, ground := Go.Ground.data }], guard := none }) (v := ?v2_283601) rfl (by kernel_rfl) (by kernel_rfl) (by kernel_rfl) (fun _ _ _ h => h) (Or.inl ⟨by rfl, ?y2_283601⟩) hHeld ?r2_283601
    case y2_283601 => intro w hSw; (try dsimp only at hSw); go_simp; try with_reducible rfl
    try simp only [Act.put, List.setIfInBounds_toArray, List.set_cons_zero, List.set_cons_succ]
    refine wpAnyH_take (i := 3) (oi := { dst := some 12, op := Go.Op.load 4 (Go.Operand.tmp 11), type := 4, pos := "ref.go:257", after := #[{ on := 2, ground := Go.Ground.data }], guard := none }) (v := ?v3_283601) rfl (by kernel_rfl) (by kernel_rfl) (by kernel_rfl) (fun _ _ _ h => h) (Or.inl ⟨by rfl, ?y3_283601⟩) hHeld ?r3_283601
    case y3_283601 => intro w hSw; (try dsimp only at hSw); obtain ⟨c0, c1, c2, f1, f2⟩ := hSw.1.cells; go_simp; try with_reducible rfl
    try simp only [Act.put, List.setIfInBounds_toArray, List.set_cons_zero, List.set_cons_succ]
    refine wpAnyH_take (i := 4) (oi := { dst := some 13, op := Go.Op.move (Go.Operand.tmp 12), type := 4, pos := "ref.go:257", after := #[{ on := 3, ground := Go.Ground.data }], guard := none }) (v := ?v4_283601) rfl (by kernel_rfl) (by kernel_rfl) (by kernel_rfl) (fun _ _ _ h => h) (Or.inl ⟨by rfl, ?y4_283601⟩) hHeld ?r4_283601
    case y4_283601 => intro w hSw; (try dsimp only at hSw); go_simp; try with_reducible rfl
    try simp only [Act.put, List.setIfInBounds_toArray, List.set_cons_zero, List.set_cons_succ]
    refine wpAnyH_take (i := 5) (oi := { dst := some 14, op := Go.Op.move (Go.Operand.tmp 2), type := 3, pos := "ref.go:257", after := #[{ on := 4, ground := Go.Ground.guard }], guard := some (4, false) }) (v := ?v5_283601) rfl (by kernel_rfl) (by kernel_rfl) (by kernel_rfl) (fun _ _ _ h => h) (Or.inl ⟨by rfl, ?y5_283601⟩) hHeld ?r5_283601
    case y5_283601 => intro w hSw; (try dsimp only at hSw); go_simp; try with_reducible rfl
    try simp only [Act.put, List.setIfInBounds_toArray, List.set_cons_zero, List.set_cons_succ]
    refine wpAnyH_take (i := 6) (oi := { dst := some 15, op := Go.Op.move (Go.Operand.tmp 0), type := 125, pos := "ref.go:257", after := #[{ on := 4, ground := Go.Ground.guard }], guard := some (4, false) }) (v := ?v6_283601) rfl (by kernel_rfl) (by kernel_rfl) (by kernel_rfl) (fun _ _ _ h => h) (Or.inl ⟨by rfl, ?y6_283601⟩) hHeld ?r6_283601
    case y6_283601 => intro w hSw; (try dsimp only at hSw); go_simp; try with_reducible rfl
    try simp only [Act.put, List.setIfInBounds_toArray, List.set_cons_zero, List.set_cons_succ]
    refine wpAnyH_take (i := 7) (oi := { dst := some 16, op := Go.Op.nilCheck (Go.Operand.tmp 15), type := 0, pos := "ref.go:257", after := #[{ on := 6, ground := Go.Ground.data }, { on := 4, ground := Go.Ground.guard }], guard := some (4, false) }) (v := ?v7_283601) rfl (by kernel_rfl) (by kernel_rfl) (by kernel_rfl) (fun _ _ _ h => h) (Or.inl ⟨by rfl, ?y7_283601⟩) hHeld ?r7_283601
    case y7_283601 => intro w hSw; (try dsimp only at hSw); go_simp; try with_reducible rfl
    try simp only [Act.put, List.setIfInBounds_toArray, List.set_cons_zero, List.set_cons_succ]
    refine wpAnyH_take (i := 8) (oi := { dst := some 17, op := Go.Op.fieldAddr 127 (Go.Operand.tmp 16) 0, type := 0, pos := "ref.go:257", after := #[{ on := 7, ground := Go.Ground.data }, { on := 4, ground := Go.Ground.guard }], guard := some (4, false) }) (v := ?v8_283601) rfl (by kernel_rfl) (by kernel_rfl) (by kernel_rfl) (fun _ _ _ h => h) (Or.inl ⟨by rfl, ?y8_283601⟩) hHeld ?r8_283601
    case y8_283601 => intro w hSw; (try dsimp only at hSw); go_simp; try with_reducible rfl
    try simp only [Act.put, List.setIfInBounds_toArray, List.set_cons_zero, List.set_cons_succ]
    refine wpAnyH_take (i := 9) (oi := { dst := some 18, op := Go.Op.load 9 (Go.Operand.tmp 17), type := 9, pos := "ref.go:257", after := #[{ on := 8, ground := Go.Ground.data }, { on := 4, ground := Go.Ground.guard }], guard := some (4, false) }) (v := ?v9_283601) rfl (by kernel_rfl) (by kernel_rfl) (by kernel_rfl) (fun _ _ _ h => h) (Or.inl ⟨by rfl, ?y9_283601⟩) hHeld ?r9_283601
    case y9_283601 => intro w hSw; (try dsimp only at hSw); obtain ⟨c0, c1, c2, f1, f2⟩ := hSw.1.cells; go_simp; try with_reducible rfl
    try simp only [Act.put, List.setIfInBounds_toArray, List.set_cons_zero, List.set_cons_succ]
    refine wpAnyH_take (i := 10) (oi := { dst := some 19, op := Go.Op.call { callee := Go.Callee.builtin Go.Builtin.len, args := #[Go.Operand.tmp 18], argTypes := #[9] }, type := 3, pos := "ref.go:257", after := #[{ on := 9, ground := Go.Ground.data }, { on := 4, ground := Go.Ground.guard }], guard := some (4, false) }) (v := ?v10_283601) rfl (by kernel_rfl) (by kernel_rfl) (by kernel_rfl) (fun _ _ _ h => h) (Or.inl ⟨by rfl, ?y10_283601⟩) hHeld ?r10_283601
    case y10_283601 => intro w hSw; (try dsimp only at hSw); go_simp; try with_reducible rfl
    try simp only [Act.put, List.setIfInBounds_toArray, List.set_cons_zero, List.set_cons_succ]
    refine wpAnyH_take (i := 11) (oi := { dst := some 20, op := Go.Op.move (Go.Operand.tmp 0), type := 125, pos := "ref.go:257", after := #[{ on := 4, ground := Go.Ground.guard }], guard := some (4, false) }) (v := ?v11_283601) rfl (by kernel_rfl) (by kernel_rfl) (by kernel_rfl) (fun _ _ _ h => h) (Or.inl ⟨by rfl, ?y11_283601⟩) hHeld ?r11_283601
    case y11_283601 => intro w hSw; (try dsimp only at hSw); go_simp; try with_reducible rfl
    try simp only [Act.put, List.setIfInBounds_toArray, List.set_cons_zero, List.set_cons_succ]
    refine wpAnyH_take (i := 12) (oi := { dst := some 21, op := Go.Op.nilCheck (Go.Operand.tmp 20), type := 0, pos := "ref.go:257", after := #[{ on := 11, ground := Go.Ground.data }, { on := 4, ground := Go.Ground.guard }], guard := some (4, false) }) (v := ?v12_283601) rfl (by kernel_rfl) (by kernel_rfl) (by kernel_rfl) (fun _ _ _ h => h) (Or.inl ⟨by rfl, ?y12_283601⟩) hHeld ?r12_283601
    case y12_283601 => intro w hSw; (try dsimp only at hSw); go_simp; try with_reducible rfl
    try simp only [Act.put, List.setIfInBounds_toArray, List.set_cons_zero, List.set_cons_succ]
    refine wpAnyH_take (i := 13) (oi := { dst := some 22, op := Go.Op.fieldAddr 127 (Go.Operand.tmp 21) 1, type := 0, pos := "ref.go:257", after := #[{ on := 12, ground := Go.Ground.data }, { on := 4, ground := Go.Ground.guard }], guard := some (4, false) }) (v := ?v13_283601) rfl (by kernel_rfl) (by kernel_rfl) (by kernel_rfl) (fun _ _ _ h => h) (Or.inl ⟨by rfl, ?y13_283601⟩) hHeld ?r13_283601
    case y13_283601 => intro w hSw; (try dsimp only at hSw); go_simp; try with_reducible rfl
    try simp only [Act.put, List.setIfInBounds_toArray, List.set_cons_zero, List.set_cons_succ]
    refine wpAnyH_take (i := 14) (oi := { dst := some 23, op := Go.Op.load 3 (Go.Operand.tmp 22), type := 3, pos := "ref.go:257", after := #[{ on := 13, ground := Go.Ground.data }, { on := 4, ground := Go.Ground.guard }], guard := some (4, false) }) (v := ?v14_283601) rfl (by kernel_rfl) (by kernel_rfl) (by kernel_rfl) (fun _ _ _ h => h) (Or.inl ⟨by rfl, ?y14_283601⟩) hHeld ?r14_283601
    case y14_283601 => intro w hSw; (try dsimp only at hSw); obtain ⟨c0, c1, c2, f1, f2⟩ := hSw.1.cells; go_simp; try with_reducible rfl
    try simp only [Act.put, List.setIfInBounds_toArray, List.set_cons_zero, List.set_cons_succ]
    refine wpAnyH_take (i := 15) (oi := { dst := some 24, op := Go.Op.binOp Go.BinOp.sub 3 (Go.Operand.tmp 19) (Go.Operand.tmp 23) 3, type := 3, pos := "ref.go:257", after := #[{ on := 10, ground := Go.Ground.data }, { on := 14, ground := Go.Ground.data }, { on := 4, ground := Go.Ground.guard }], guard := some (4, false) }) (v := ?v15_283601) rfl (by kernel_rfl) (by kernel_rfl) (by kernel_rfl) (fun _ _ _ h => h) (Or.inl ⟨by rfl, ?y15_283601⟩) hHeld ?r15_283601
    case y15_283601 => intro w hSw; (try dsimp only at hSw); go_simp; try with_reducible rfl
    try simp only [Act.put, List.setIfInBounds_toArray, List.set_cons_zero, List.set_cons_succ]
    refine wpAnyH_take (i := 16) (oi := { dst := some 25, op := Go.Op.binOp Go.BinOp.gtr 3 (Go.Operand.tmp 14) (Go.Operand.tmp 24) 3, type := 4, pos := "ref.go:257", after := #[{ on := 5, ground := Go.Ground.data }, { on := 15, ground := Go.Ground.data }, { on := 4, ground := Go.Ground.guard }], guard := some (4, false) }) (v := ?v16_283601) rfl (by kernel_rfl) (by kernel_rfl) (by kernel_rfl) (fun _ _ _ h => h) (Or.inl ⟨by rfl, ?y16_283601⟩) hHeld ?r16_283601
    case y16_283601 => intro w hSw; (try dsimp only at hSw); go_simp; try with_reducible rfl
    try simp only [Act.put, List.setIfInBounds_toArray, List.set_cons_zero, List.set_cons_succ]
    refine wpAnyH_take (i := 17) (oi := { dst := some 26, op := Go.Op.pick (Go.Operand.tmp 13) (Go.Operand.const (Go.Value.bool true)) (Go.Operand.tmp 25), type := 4, pos := "ref.go:257", after := #[{ on := 4, ground := Go.Ground.data }, { on := 16, ground := Go.Ground.data }], guard := none }) (v := ?v17_283601) rfl (by kernel_rfl) (by kernel_rfl) (by kernel_rfl) (fun _ _ _ h => h) (Or.inl ⟨by rfl, ?y17_283601⟩) hHeld ?r17_283601
    case y17_283601 => intro w hSw; (try dsimp only at hSw); go_simp; try with_reducible rfl
    try simp only [Act.put, List.setIfInBounds_toArray, List.set_cons_zero, List.set_cons_succ]
    refine wpAnyH_done (by kernel_rfl) ?_ _
    have HRH := Lib.hid hHeld.1
    have HGH := Lib.hid hHeld.2
    obtain ⟨c0, c1, c2, f1, f2⟩ := hHeld.1.cells
    clear hHeld
    obtain ⟨E, hE⟩ : ∃ x, a + n = x := ⟨_, rfl⟩
    have hEz : IntKind.i64.wrap ((a : Int) + (n : Int)) = (E : Int) := by rw [IntKind.wrap_i64]; have := HE.out; have := HS.out; omega
    rw [hE] at HP HE HIN
    have HEE := Lib.hid hE
    clear hE
    go_wp2_with fail
    refine (rbytes_b q s a n false _ HRH.out HA.out HS.out HN.out).mono ?_; rintro en w_a1 ⟨v1, a1, b1, rfl, z1, r1, g1, s1⟩
    have Hr1 := Lib.hid r1
    have Hg1 := Lib.hid g1
    have Hs1 := Lib.hid s1
    have Hz1 := Lib.hid z1
    clear r1 g1 s1 z1
    go_wp2
    go_ret
    exact ⟨v1, a1, b1, rfl, by have := Hz1.out; omega, Hr1.out, HGH.out.trans Hg1.out, by rw [HP.out, dataP, HIN.out, ← HEE.out, take_close]; exact Hs1.out⟩
end Go.Proofs.Ytkoafkajmfodkaa
end

section
namespace Go.Proofs.Ytkoafkajmfodkaa
open Go.RowKit

theorem Stp.any {α : Type} {s : ByteArray} {p : Option (α × Nat)} {e e' : Int} {v u : α} {a' : Nat} (h : Stp s p e v a' e') (he : e' ≠ 0) : Stp s p e u a' e' := by
  refine ⟨h.1, h.2.1, fun h0 => ⟨fun y c hy => absurd ((h.2.2 h0).1 y c hy).2.2 he, (h.2.2 h0).2⟩⟩
theorem recP_dat (s : ByteArray) (a : Nat) : recP s a = (hdP s a).bind fun x => (datP s x.1.1.1.1.2 x.1.2.toNat x.2).map fun d => (⟨⟨x.1.1.1.1.1, x.1.1.1.1.2, x.1.1.1.2⟩, x.1.1.2, d.1⟩, d.2) := by
  unfold recP
  congr 1
  funext x
  unfold recF datP
  split <;> rfl
/-- A record's parse, as one step behind its five parts. -/
theorem Stp.rec {s : ByteArray} {a : Nat} {e e1 e2 : Int} {n : ByteArray} {t c u : Int} {z a1 a2 : Nat} {d : ByteArray} (h : Stp s (hdP s a) e ((((n, t), c), u), (z : Int)) a1 e1) (hd : Stp s (datP s t z a1) e1 d a2 e2) : Stp s (recP s a) e (⟨⟨n, t, c⟩, u, d⟩ : R5) a2 e2 := by
  rw [recP_dat]
  refine ⟨hd.1, fun h0 => hd.2.1 (h.2.1 h0), fun h0 => ?_⟩
  obtain ⟨hy, hn⟩ := h.2.2 h0
  cases hp : hdP s a with
  | none => exact ⟨fun x b hx => (by cases hx), fun _ => hd.2.1 (hn hp)⟩
  | some x =>
    obtain ⟨hv, rfl, rfl⟩ := hy x.1 x.2 hp
    obtain ⟨hy2, hn2⟩ := hd.2.2 rfl
    simp only [Option.bind_some]
    rw [← hv]
    simp only [Int.toNat_natCast]
    cases hf : datP s t z x.2 with
    | none => exact ⟨fun x b hx => (by cases hx), fun _ => hn2 hf⟩
    | some y =>
      obtain ⟨rfl, rfl, rfl⟩ := hy2 y.1 y.2 hf
      exact ⟨fun w b hz => by injection hz with hz; injection hz with h3 h4; exact ⟨h3, h4, rfl⟩, fun hz => (by cases hz)⟩
theorem tb_neO {w : World} {q q' : Nat} {T T' : TypeId} (h : TB w q T) (h' : TB w q' T') (hne : T ≠ T') : q ≠ q' := by
  rintro rfl
  obtain ⟨c, h⟩ := h
  obtain ⟨c', h'⟩ := h'
  rw [h] at h'
  injection h' with h'
  injection h' with h1 h2
  exact hne h2
theorem okP_true (r : R5) : okP true r = mayX r := by rw [okP, mayX, Bool.true_and]
theorem okP_false (r : R5) : okP false r = mayRr r := by rw [okP, Bool.false_and, Bool.or_false]
theorem Stp.ok {s : ByteArray} {a : Nat} {last : Bool} {e : Int} {r : R5} {a1 : Nat} {b1 b2 : Bool} (h : Stp s (recP s a) e r a1 (eB b1)) (hb : b2 = (b1 || !okP last r)) : Stp s (rrP s last a) e r a1 (eB b2) := by
  unfold rrP
  refine ⟨h.1, fun h0 => ?_, fun h0 => ?_⟩
  · have := h.2.1 h0
    cases b1
    · exact absurd rfl this
    · rw [hb, Bool.true_or]; decide
  · obtain ⟨hy, hn⟩ := h.2.2 h0
    cases hp : recP s a with
    | none =>
      have := hn hp
      cases b1
      · exact absurd rfl this
      · exact ⟨fun x b hx => (by cases hx), fun _ => by rw [hb, Bool.true_or]; decide⟩
    | some x =>
      obtain ⟨rfl, rfl, hb1⟩ := hy x.1 x.2 hp
      cases b1
      · simp only [Option.bind_some, rrF]
        cases hk : okP last x.1
        · rw [hk] at hb; subst hb
          exact ⟨fun z b hz => (by cases hz), fun _ => by decide⟩
        · rw [hk] at hb; subst hb
          rw [if_pos rfl]
          exact ⟨fun z b hz => by (injection hz with hz; subst hz; exact ⟨rfl, rfl, rfl⟩), fun hz => (by cases hz)⟩
      · exact absurd hb1 (by decide)
/-- What the document's reader of records tells. -/
def RrB (w : World) (q : Nat) (s : ByteArray) (a n : Nat) (last b : Bool) (en : Ending) (w' : World) : Prop := ∃ (v : Value) (L : List R5) (a' : Nat) (b' : Bool), en = .returned v ∧ w'.ownsRow w.heap.size 75 5 v L.length (flatR L) ∧ (L.length ≤ n ∧ ∀ r ∈ L, r.k.n.size ≤ 400 ∧ r.d.size ≤ 40000) ∧ RdB w' q s a' b' ∧ w.grownBy w' (some q) ∧ Stp s (manyP (rrP s last) n a) (eB b) L a' (eB b')

set_option maxRecDepth 100000 in
set_option maxHeartbeats 16000000 in
theorem rrecords_b (q : Nat) (s : ByteArray) (a n : Nat) (last b : Bool) (w : World) (h : RdB w q s a b) (ha : a ≤ s.size) (hs : s.size ≤ 20000) (hn : n ≤ 70000) :
    Calls Try.prog 72 #[.pointer (some ⟨q, 0, none⟩), .int .i64 (n : Int), .bool last] w fun en w' => RrB w q s a n last b en w' := by
  obtain ⟨i0, hi, hz0, hz1, hz2⟩ := info_parts infoRR
  have HI := Lib.hid hi
  have HZ0 := Lib.hid hz0
  have HZ1 := Lib.hid hz1
  have HZ2 := Lib.hid hz2
  have HR0 := Lib.hid h
  have HA0 := Lib.hid ha
  have HS := Lib.hid hs
  have HN := Lib.hid hn
  clear h ha hs hn hi hz0 hz1 hz2
  go_enter Try.func72, Try.ntmps72
  go_wp2_with fail
  go_loopw [7, 8] (fun lv i wr => ∃ (k : Nat) (L : List R5) (a' : Nat) (bd : Bool), k ≤ n ∧ i = .int .i64 k ∧ Hid (wr.ownsRow w.heap.size 75 5 lv L.length (flatR L)) ∧ Hid (L.length = k ∧ ∀ r ∈ L, r.k.n.size ≤ 400 ∧ r.d.size ≤ 40000) ∧ Hid (RdB wr q s a' bd) ∧ Hid (w.grownBy wr (some q)) ∧ Hid (Stp s (manyP (rrP s last) k a) (eB b) L a' (eB bd))) (fun _ i _ => n - (intOf i).toNat)
  case atStart => exact ⟨0, [], a, b, Nat.zero_le _, rfl, Lib.hid (World.ownsRow_nil _ _ _ _), Lib.hid ⟨rfl, fun r hr => by cases hr⟩, HR0, Lib.hid (World.grownBy.refl _ _), Lib.hid (Stp.yes rfl HA0.out)⟩
  case round =>
    obtain ⟨k, L, a', bd, hk, rfl, HO, HL, HR, HG, HST⟩ := hrel
    obtain ⟨len, hlen⟩ : ∃ x, L.length = x := ⟨_, rfl⟩
    rw [hlen] at HO
    obtain ⟨la, lc, rfl, -⟩ := cellsK_own HO.out
    have HLN := Lib.hid hlen
    have HA := Lib.hid HST.out.1
    have HK := Lib.hid hk
    clear hlen HR0 HA0
    obtain ⟨c0, c1, c2, f1, f2⟩ := HR.out.cells
    by_cases hlt : k < n
    rotate_left
    · have d0 := dF (p := k < n) hlt
      have HKN := Lib.hid (show k = n by omega)
      clear hlt hk
      go_wp2
      go_ret
      exact ⟨_, L, a', bd, rfl, by rw [HLN.out]; exact HO.out, ⟨by rw [HL.out.1]; exact HK.out, HL.out.2⟩, HR.out, HG.out, by rw [← HKN.out]; exact HST.out⟩
    have d0 := dT (p := k < n) hlt
    have HKN := Lib.hid hlt
    have hkb : k ≤ 70000 := by have := HN.out; omega
    clear hlt hk
    cases bd with
    | true =>
      go_wp2
      go_ret
      exact ⟨_, L, a', true, rfl, by rw [HLN.out]; exact HO.out, ⟨by rw [HL.out.1]; exact HK.out, HL.out.2⟩, HR.out, HG.out, (HST.out.many HK.out (by decide)).any (by decide)⟩
    | false =>
      go_wp2_with fail
      clear c0 c1 c2 f1 f2
      refine (rname_b q s a' false _ HR.out HA.out HS.out).mono ?_; rintro en w1 ⟨rn, a1, b1, rfl, hz, hr, hg, hst⟩
      replace HO := Lib.hid (own_keeps HO.out HR.out.2 (by decide) hg)
      replace HG := Lib.hid (HG.out.trans hg)
      replace HR := Lib.hid hr
      have HZ1 := Lib.hid hz
      have HST1 := Lib.hid hst
      have HA1 := Lib.hid hst.1
      clear hz hr hg hst
      go_wp2_with fail
      refine (rnum_b q s a1 2 b1 _ HR.out HA1.out HS.out (by decide)).mono ?_; rintro en w2 ⟨rt, a2, b2, rfl, hz, hr, hg, hst⟩
      replace HO := Lib.hid (own_keeps HO.out HR.out.2 (by decide) hg)
      replace HG := Lib.hid (HG.out.trans hg)
      replace HR := Lib.hid hr
      have HZ2 := Lib.hid hz
      have HST2 := Lib.hid hst
      have HA2 := Lib.hid hst.1
      clear hz hr hg hst
      go_wp2_with fail
      refine (rnum_b q s a2 2 b2 _ HR.out HA2.out HS.out (by decide)).mono ?_; rintro en w3 ⟨rc, a3, b3, rfl, hz, hr, hg, hst⟩
      replace HO := Lib.hid (own_keeps HO.out HR.out.2 (by decide) hg)
      replace HG := Lib.hid (HG.out.trans hg)
      replace HR := Lib.hid hr
      have HZ3 := Lib.hid hz
      have HST3 := Lib.hid hst
      have HA3 := Lib.hid hst.1
      clear hz hr hg hst
      go_wp2_with fail
      refine (rnum_b q s a3 4 b3 _ HR.out HA3.out HS.out (by decide)).mono ?_; rintro en w4 ⟨ru, a4, b4, rfl, hz, hr, hg, hst⟩
      replace HO := Lib.hid (own_keeps HO.out HR.out.2 (by decide) hg)
      replace HG := Lib.hid (HG.out.trans hg)
      replace HR := Lib.hid hr
      have HZ4 := Lib.hid hz
      have HST4 := Lib.hid hst
      have HA4 := Lib.hid hst.1
      clear hz hr hg hst
      have hba := (Below.refl w4.heap.size w4).alloc (Nat.le_refl _) (.cells #[.string rn, .int .i64 rt, .int .i64 rc, .int .i64 ru, .string ⟨#[]⟩] 75)
      have HX := Lib.hid (CN.new w4 #[.string rn, .int .i64 rt, .int .i64 rc, .int .i64 ru, .string ⟨#[]⟩] 75)
      have HTX := Lib.hid (TB.new w4 #[.string rn, .int .i64 rt, .int .i64 rc, .int .i64 ru, .string ⟨#[]⟩] 75)
      have HQX := Lib.hid HG.out.size
      have HOB := Lib.hid (show ∀ k, (Value.slice la len lc).ownBlock = some k → k < w4.heap.size from fun k hk => (HO.out.lt k hk).2)
      replace HO := Lib.hid (own_below' HO.out hba)
      replace HR := Lib.hid (HR.out.below hba)
      replace HG := Lib.hid (HG.out.trans (below_grown hba (some q)))
      obtain ⟨w5, hw⟩ : ∃ x, w4.alloc (.cells #[.string rn, .int .i64 rt, .int .i64 rc, .int .i64 ru, .string ⟨#[]⟩] 75) = x := ⟨_, rfl⟩
      obtain ⟨q9, hq9⟩ : ∃ x, w4.heap.size = x := ⟨_, rfl⟩
      rw [hw] at HX HTX HR HG HO
      rw [hq9] at HX HTX HQX HOB
      have HW := Lib.hid hw
      have HQ9 := Lib.hid hq9
      have HNQ := Lib.hid (show q ≠ q9 from tb_neO HR.out.2 HTX.out (by decide))
      clear hba hw hq9
      go_upto_region 6 with (fail)
      rw [HW.out, HQ9.out]
      clear HW HQ9
      refine wp_region_held_drew (S := (fun wx => wx.cell? ⟨q9, 1, none⟩ = some (.int .i64 rt))) (by kernel_rfl) ((HX.out.2 1 _ rfl).1) (fun hHeld => ?_)
      replace HO := Lib.hid (own_below' HO.out (Below.refl _ _).drew)
      replace HX := Lib.hid (HX.out.below (Below.refl _ _).drew)
      replace HTX := Lib.hid (HTX.out.below (Below.refl _ _).drew)
      replace HR := Lib.hid HR.out.drew
      replace HG := Lib.hid (grown_drew HG.out)
      obtain ⟨wz, hwd⟩ : ∃ x, w5.drew = x := ⟨_, rfl⟩
      rw [hwd] at hHeld HO HX HTX HR HG ⊢
      clear hwd
      refine wpAnyH_take (i := 0) (oi := { dst := some 32, op := Go.Op.move (Go.Operand.tmp 0), type := 125, pos := "ref.go:287", after := #[], guard := none }) (v := ?v0_290101) rfl (by kernel_rfl) (by kernel_rfl) (by kernel_rfl) (fun _ _ _ h => h) (Or.inl ⟨by rfl, ?y0_290101⟩) hHeld ?r0_290101
      case y0_290101 => intro w hSw; (try dsimp only at hSw); go_simp; try with_reducible rfl
      try simp only [Act.put, List.setIfInBounds_toArray, List.set_cons_zero, List.set_cons_succ]
      refine wpAnyH_take (i := 1) (oi := { dst := some 33, op := Go.Op.fieldAddr 75 (Go.Operand.tmp 9) 1, type := 0, pos := "ref.go:287", after := #[], guard := none }) (v := ?v1_290101) rfl (by kernel_rfl) (by kernel_rfl) (by kernel_rfl) (fun _ _ _ h => h) (Or.inl ⟨by rfl, ?y1_290101⟩) hHeld ?r1_290101
      case y1_290101 => intro w hSw; (try dsimp only at hSw); go_simp; try with_reducible rfl
      try simp only [Act.put, List.setIfInBounds_toArray, List.set_cons_zero, List.set_cons_succ]
      refine wpAnyH_take (i := 2) (oi := { dst := some 34, op := Go.Op.load 3 (Go.Operand.tmp 33), type := 3, pos := "ref.go:287", after := #[{ on := 1, ground := Go.Ground.data }], guard := none }) (v := ?v2_290101) rfl (by kernel_rfl) (by kernel_rfl) (by kernel_rfl) (fun _ _ _ h => h) (Or.inl ⟨by rfl, ?y2_290101⟩) hHeld ?r2_290101
      case y2_290101 => intro w hSw; (try dsimp only at hSw); have y1 := hSw; go_simp; try with_reducible rfl
      try simp only [Act.put, List.setIfInBounds_toArray, List.set_cons_zero, List.set_cons_succ]
      refine wpAnyH_take (i := 3) (oi := { dst := some 35, op := Go.Op.move (Go.Operand.tmp 0), type := 125, pos := "ref.go:287", after := #[], guard := none }) (v := ?v3_290101) rfl (by kernel_rfl) (by kernel_rfl) (by kernel_rfl) (fun _ _ _ h => h) (Or.inl ⟨by rfl, ?y3_290101⟩) hHeld ?r3_290101
      case y3_290101 => intro w hSw; (try dsimp only at hSw); go_simp; try with_reducible rfl
      try simp only [Act.put, List.setIfInBounds_toArray, List.set_cons_zero, List.set_cons_succ]
      refine wpAnyH_ready (rs := [4]) (by kernel_rfl) (by simp) ?_
      refine AllReadyH.cons (o := { dst := some 36, op := Go.Op.call { callee := Go.Callee.value (Go.Operand.func 70), args := #[Go.Operand.tmp 35, Go.Operand.const (Go.Value.int Go.IntKind.i64 2)], argTypes := #[125, 3] }, type := 3, pos := "ref.go:287", after := #[{ on := 3, ground := Go.Ground.data }], guard := none }) rfl (fun K hK => ?_) AllReadyH.nil
      go_simp
      refine (rnum_b q s a4 2 b4 _ HR.out HA4.out HS.out (by decide)).mono ?_; rintro en w6 ⟨rz, a5, b5, rfl, hz, hr, hg, hst⟩
      replace HO := Lib.hid (own_keeps HO.out HR.out.2 (by decide) hg)
      replace HX := Lib.hid (HX.out.grown hg (fun e => by injection e with e; exact HNQ.out e.symm))
      replace HTX := Lib.hid (HTX.out.grown hg (fun e => by injection e with e; exact HNQ.out e))
      replace HG := Lib.hid (HG.out.trans hg)
      replace HR := Lib.hid hr
      have HZ5 := Lib.hid hz
      have HST5 := Lib.hid hst
      have HA5 := Lib.hid hst.1
      clear hz hr hg hst
      obtain ⟨z, rfl⟩ : ∃ z : Nat, rz = (z : Int) := ⟨rz.toNat, by have := HZ5.out.1; omega⟩
      have HZB := Lib.hid (show z ≤ 70000 by have := HZ5.out.2; omega)
      go_wp2_with fail
      refine hK.out _ _ ((HX.out.2 1 _ rfl).1) (fun hHeld2 => ?_)
      clear hK K hHeld
      have hHeld := hHeld2
      clear hHeld2
      try simp only [Act.put, List.setIfInBounds_toArray, List.set_cons_zero, List.set_cons_succ]
      refine wpAnyH_ready (rs := [5]) (by kernel_rfl) (by simp) ?_
      refine AllReadyH.cons (o := { dst := some 37, op := Go.Op.call { callee := Go.Callee.value (Go.Operand.func 101), args := #[Go.Operand.tmp 32, Go.Operand.tmp 34, Go.Operand.tmp 36], argTypes := #[125, 3, 3] }, type := 9, pos := "ref.go:287", after := #[{ on := 0, ground := Go.Ground.data }, { on := 2, ground := Go.Ground.data }, { on := 4, ground := Go.Ground.data }, { on := 4, ground := Go.Ground.chain }], guard := none }) rfl (fun K hK => ?_) AllReadyH.nil
      go_simp
      refine (rdata_b q s a5 z rt b5 _ HR.out HA5.out HS.out HZB.out).mono ?_; rintro en w7 ⟨rd, a6, b6, rfl, hz, hr, hg, hst⟩
      replace HO := Lib.hid (own_keeps HO.out HR.out.2 (by decide) hg)
      replace HX := Lib.hid (HX.out.grown hg (fun e => by injection e with e; exact HNQ.out e.symm))
      replace HTX := Lib.hid (HTX.out.grown hg (fun e => by injection e with e; exact HNQ.out e))
      replace HG := Lib.hid (HG.out.trans hg)
      replace HR := Lib.hid hr
      have HZ6 := Lib.hid hz
      have HST6 := Lib.hid hst
      have HA6 := Lib.hid hst.1
      clear hz hr hg hst
      go_wp2_with fail
      refine hK.out _ _ ((HX.out.2 1 _ rfl).1) (fun hHeld2 => ?_)
      clear hK K hHeld
      have hHeld := hHeld2
      clear hHeld2
      try simp only [Act.put, List.setIfInBounds_toArray, List.set_cons_zero, List.set_cons_succ]
      refine wpAnyH_take (i := 6) (oi := { dst := some 38, op := Go.Op.fieldAddr 75 (Go.Operand.tmp 9) 4, type := 0, pos := "ref.go:287", after := #[{ on := 0, ground := Go.Ground.phase }, { on := 1, ground := Go.Ground.phase }, { on := 2, ground := Go.Ground.phase }, { on := 3, ground := Go.Ground.phase }, { on := 4, ground := Go.Ground.phase }, { on := 5, ground := Go.Ground.phase }], guard := none }) (v := ?v6_290103) rfl (by kernel_rfl) (by kernel_rfl) (by kernel_rfl) (fun _ _ _ h => h) (Or.inl ⟨by rfl, ?y6_290103⟩) hHeld ?r6_290103
      case y6_290103 => intro w hSw; (try dsimp only at hSw); go_simp; try with_reducible rfl
      try simp only [Act.put, List.setIfInBounds_toArray, List.set_cons_zero, List.set_cons_succ]
      refine wpAnyH_ready (rs := [7]) (by kernel_rfl) (by simp) ?_
      refine AllReadyH.cons (o := { dst := none, op := Go.Op.store 9 (Go.Operand.tmp 38) (Go.Operand.tmp 37), type := 0, pos := "ref.go:287", after := #[{ on := 6, ground := Go.Ground.data }, { on := 5, ground := Go.Ground.data }, { on := 5, ground := Go.Ground.chain }, { on := 0, ground := Go.Ground.phase }, { on := 1, ground := Go.Ground.phase }, { on := 2, ground := Go.Ground.phase }, { on := 3, ground := Go.Ground.phase }, { on := 4, ground := Go.Ground.phase }, { on := 5, ground := Go.Ground.phase }], guard := none }) rfl (fun K hK => ?_) AllReadyH.nil
      have HX4 := Lib.hid (show CN (w7.setCell ⟨q9, 4, none⟩ (.string rd)) q9 [.string rn, .int .i64 rt, .int .i64 rc, .int .i64 ru, .string rd] from HX.out.set 4 (by simp) (.string rd))
      obtain ⟨x0, x1, x2, x3, x4, h0, h1, h2, h3, h4⟩ := HX.out.u5
      go_simp
      refine hK.out _ _ ((HX4.out.2 1 _ rfl).1) (fun hHeld2 => ?_)
      clear hK K hHeld
      have hHeld := hHeld2
      clear hHeld2
      try simp only [Act.put, List.setIfInBounds_toArray, List.set_cons_zero, List.set_cons_succ]
      refine wpAnyH_done (by kernel_rfl) ?_ _
      clear hHeld h0 h1 h2 h3 h4 x0 x1 x2 x3 x4
      have hg := grown_cell w7 q9 4 (.string rd)
      replace HO := Lib.hid (own_apart7 HO.out hg (fun k hk e => by injection e with e; have := (HOB.out k hk); omega))
      replace HR := Lib.hid (show RdB (w7.setCell ⟨q9, 4, none⟩ (.string rd)) q s a6 b6 from ⟨HR.out.1.grown hg (fun e => by injection e with e; exact HNQ.out e), HR.out.2.grown hg (fun e => by injection e with e; exact HNQ.out e.symm)⟩)
      replace HG := Lib.hid (HG.out.andThen hg (fun j hj => by injection hj with hj; rw [← hj]; exact Or.inl HQX.out))
      obtain ⟨w8, hw8⟩ : ∃ x, w7.setCell ⟨q9, 4, none⟩ (.string rd) = x := ⟨_, rfl⟩
      rw [hw8] at HO HR HG HX4 ⊢
      clear hw8 hg HX HTX
      have HRC := Lib.hid (show Stp s (recP s a') 0 (⟨⟨rn, rt, rc⟩, ru, rd⟩ : R5) a6 (eB b6) from Stp.rec (Stp.seq Prod.mk (Stp.seq Prod.mk (Stp.seq Prod.mk (Stp.seq Prod.mk HST1.out HST2.out) HST3.out) HST4.out) HST5.out) HST6.out)
      have HZ := Lib.hid (show rn.size ≤ 400 ∧ rd.size ≤ 40000 from ⟨HZ1.out, HZ6.out⟩)
      clear HST1 HST2 HST3 HST4 HST5 HST6 HZ1 HZ2 HZ3 HZ4 HZ5 HZ6 HZB HA HA1 HA2 HA3 HA4 HA5
      obtain ⟨x0, x1, x2, x3, x4, _⟩ := HX4.out.u5
      cases last with
      | false =>
        go_wp2_with fail
        refine (rmayRR_any rn rt rc ru rd _ (by have := HZ.out.1; omega) (by have := HZ.out.2; omega)).mono ?_; rintro en w9 ⟨rfl, hb⟩
        have HX3 := Lib.hid (HX4.out.below hb)
        have HO3 := Lib.hid (own_below' HO.out hb)
        have HG3 := Lib.hid (HG.out.trans (below_grown hb (some q)))
        have HR3 := Lib.hid (HR.out.below hb)
        clear hb x0 x1 x2 x3 x4
        obtain ⟨V, hV⟩ : ∃ x, mayR rn rt rc ru rd = x := ⟨_, rfl⟩
        rw [hV]
        have HOK := Lib.hid (show okP false (⟨⟨rn, rt, rc⟩, ru, rd⟩ : R5) = V by rw [okP_false]; exact hV)
        clear hV
        cases V with
        | true =>
          have HQP := Lib.hid (show Stp s (manyP (rrP s false) (k + 1) a) (eB b) (L ++ [(⟨⟨rn, rt, rc⟩, ru, rd⟩ : R5)]) a6 (eB b6) from Stp.seq (f := rrP s false) (fun x y => x ++ [y]) HST.out (HRC.out.ok (by rw [HOK.out]; simp)))
          obtain ⟨x0, x1, x2, x3, x4, _⟩ := HX3.out.u5
          have HCX := Lib.hid (cells_lit w9 #[.string rn, .int .i64 rt, .int .i64 rc, .int .i64 ru, .string rd] 75)
          have HAL := Lib.hid ((Below.refl (w9).heap.size w9).alloc (Nat.le_refl _) (.cells #[.string rn, .int .i64 rt, .int .i64 rc, .int .i64 ru, .string rd] 75))
          have HBS := Lib.hid (show w.heap.size ≤ ((w9).alloc (.cells #[.string rn, .int .i64 rt, .int .i64 rc, .int .i64 ru, .string rd] 75)).heap.size from Nat.le_trans HG3.out.size HAL.out.size)
          have HLE := Lib.hid (show len + 1 ≤ 1000000 by have := HL.out.1; have := HLN.out; have := HN.out; have := HKN.out; omega)
          go_wp2_with (at_builtin; refine append_cellsK rfl _ _ 25 75 rfl i0 _ 5 56 Try.underlying25 HI.out HZ0.out HZ1.out HZ2.out rfl (by decide) w.heap.size _ len _ rfl (own_below' HO3.out HAL.out) (some ⟨(w9).heap.size, 0, none⟩) 1 1 (encR (⟨⟨rn, rt, rc⟩, ru, rd⟩ : R5)) rfl (fun h => by cases h) HCX.out (fun u hu => flatR_one [(⟨⟨rn, rt, rc⟩, ru, rd⟩ : R5)] u (by simpa [flatR] using hu)) HLE.out (by decide) HBS.out ?_)
          intro v7 w10 hown hgrow
          have hne := own_ne (own_below' HO3.out HAL.out) (HR3.out.2.below HAL.out) (by decide)
          have HR7 := Lib.hid (show RdB w10 q s a6 b6 from ⟨(HR3.out.1.below HAL.out).grown hgrow (fun e => hne e.symm), (HR3.out.2.below HAL.out).grown hgrow hne⟩)
          have HG7 := Lib.hid ((HG3.out.trans (below_grown HAL.out (some q))).andThen hgrow (fun j hj => Or.inl (HO3.out.lt j hj).1))
          have HO7 := Lib.hid hown
          clear hown hgrow hne x0 x1 x2 x3 x4
          go_wp2
          go_roundw
          case rel => exact ⟨k + 1, L ++ [(⟨⟨rn, rt, rc⟩, ru, rd⟩ : R5)], a6, b6, HKN.out, by go_num, Lib.hid (by rw [List.length_append, HLN.out, flatR_app]; simpa [flatR] using HO7.out), Lib.hid ⟨by rw [List.length_append, HL.out.1]; rfl, fun r hr => by (rcases List.mem_append.1 hr with h | h; exact HL.out.2 r h; (rw [List.mem_singleton] at h; subst h; exact HZ.out))⟩, HR7, HG7, HQP⟩
          case measure =>
            simp only [intOf]
            have := HKN.out
            omega
        | false =>
          obtain ⟨c0, c1, c2, f1, f2⟩ := HR3.out.cells
          have HTQ := Lib.hid HR3.out.2
          replace HR3 := Lib.hid HR3.out.bad
          have hg := grown_cell w9 q 2 (.bool true)
          replace HX3 := Lib.hid (HX3.out.grown hg (fun e => by injection e with e; exact HNQ.out e.symm))
          replace HO3 := Lib.hid (own_keeps HO3.out HTQ.out (by decide) hg)
          replace HG3 := Lib.hid (HG3.out.trans hg)
          clear hg
          go_upto_region 10 with (fail)
          obtain ⟨w11, hw11⟩ : ∃ x, w9.setCell ⟨q, 2, none⟩ (.bool true) = x := ⟨_, rfl⟩
          rw [hw11] at HR3 HX3 HO3 HG3 ⊢
          clear hw11 c0 c1 c2 f1 f2
          have HQP := Lib.hid (show Stp s (manyP (rrP s false) (k + 1) a) (eB b) (L ++ [(⟨⟨rn, rt, rc⟩, ru, rd⟩ : R5)]) a6 (eB true) from Stp.seq (f := rrP s false) (fun x y => x ++ [y]) HST.out (HRC.out.ok (by rw [HOK.out]; simp)))
          obtain ⟨x0, x1, x2, x3, x4, _⟩ := HX3.out.u5
          have HCX := Lib.hid (cells_lit w11 #[.string rn, .int .i64 rt, .int .i64 rc, .int .i64 ru, .string rd] 75)
          have HAL := Lib.hid ((Below.refl (w11).heap.size w11).alloc (Nat.le_refl _) (.cells #[.string rn, .int .i64 rt, .int .i64 rc, .int .i64 ru, .string rd] 75))
          have HBS := Lib.hid (show w.heap.size ≤ ((w11).alloc (.cells #[.string rn, .int .i64 rt, .int .i64 rc, .int .i64 ru, .string rd] 75)).heap.size from Nat.le_trans HG3.out.size HAL.out.size)
          have HLE := Lib.hid (show len + 1 ≤ 1000000 by have := HL.out.1; have := HLN.out; have := HN.out; have := HKN.out; omega)
          go_wp2_with (at_builtin; refine append_cellsK rfl _ _ 25 75 rfl i0 _ 5 56 Try.underlying25 HI.out HZ0.out HZ1.out HZ2.out rfl (by decide) w.heap.size _ len _ rfl (own_below' HO3.out HAL.out) (some ⟨(w11).heap.size, 0, none⟩) 1 1 (encR (⟨⟨rn, rt, rc⟩, ru, rd⟩ : R5)) rfl (fun h => by cases h) HCX.out (fun u hu => flatR_one [(⟨⟨rn, rt, rc⟩, ru, rd⟩ : R5)] u (by simpa [flatR] using hu)) HLE.out (by decide) HBS.out ?_)
          intro v7 w10 hown hgrow
          have hne := own_ne (own_below' HO3.out HAL.out) (HR3.out.2.below HAL.out) (by decide)
          have HR7 := Lib.hid (show RdB w10 q s a6 true from ⟨(HR3.out.1.below HAL.out).grown hgrow (fun e => hne e.symm), (HR3.out.2.below HAL.out).grown hgrow hne⟩)
          have HG7 := Lib.hid ((HG3.out.trans (below_grown HAL.out (some q))).andThen hgrow (fun j hj => Or.inl (HO3.out.lt j hj).1))
          have HO7 := Lib.hid hown
          clear hown hgrow hne x0 x1 x2 x3 x4
          go_wp2
          go_roundw
          case rel => exact ⟨k + 1, L ++ [(⟨⟨rn, rt, rc⟩, ru, rd⟩ : R5)], a6, true, HKN.out, by go_num, Lib.hid (by rw [List.length_append, HLN.out, flatR_app]; simpa [flatR] using HO7.out), Lib.hid ⟨by rw [List.length_append, HL.out.1]; rfl, fun r hr => by (rcases List.mem_append.1 hr with h | h; exact HL.out.2 r h; (rw [List.mem_singleton] at h; subst h; exact HZ.out))⟩, HR7, HG7, HQP⟩
          case measure =>
            simp only [intOf]
            have := HKN.out
            omega
      | true =>
        by_cases h41 : rt = 41
        · have e41 := eT h41
          have H41 := Lib.hid h41
          clear h41
          go_wp2_with fail
          refine (rmayOpt_any rn rt rc ru rd _).mono ?_; rintro en w9 ⟨rfl, hb⟩
          have HX3 := Lib.hid (HX4.out.below hb)
          have HO3 := Lib.hid (own_below' HO.out hb)
          have HG3 := Lib.hid (HG.out.trans (below_grown hb (some q)))
          have HR3 := Lib.hid (HR.out.below hb)
          clear hb x0 x1 x2 x3 x4
          obtain ⟨V, hV⟩ : ∃ x, mayO' ⟨⟨rn, rt, rc⟩, ru, rd⟩ = x := ⟨_, rfl⟩
          rw [hV]
          have HOK := Lib.hid (show okP true (⟨⟨rn, rt, rc⟩, ru, rd⟩ : R5) = V by rw [okP_true, mayO_41 H41.out]; exact hV)
          clear hV
          cases V with
          | true =>
            have HQP := Lib.hid (show Stp s (manyP (rrP s true) (k + 1) a) (eB b) (L ++ [(⟨⟨rn, rt, rc⟩, ru, rd⟩ : R5)]) a6 (eB b6) from Stp.seq (f := rrP s true) (fun x y => x ++ [y]) HST.out (HRC.out.ok (by rw [HOK.out]; simp)))
            obtain ⟨x0, x1, x2, x3, x4, _⟩ := HX3.out.u5
            have HCX := Lib.hid (cells_lit w9 #[.string rn, .int .i64 rt, .int .i64 rc, .int .i64 ru, .string rd] 75)
            have HAL := Lib.hid ((Below.refl (w9).heap.size w9).alloc (Nat.le_refl _) (.cells #[.string rn, .int .i64 rt, .int .i64 rc, .int .i64 ru, .string rd] 75))
            have HBS := Lib.hid (show w.heap.size ≤ ((w9).alloc (.cells #[.string rn, .int .i64 rt, .int .i64 rc, .int .i64 ru, .string rd] 75)).heap.size from Nat.le_trans HG3.out.size HAL.out.size)
            have HLE := Lib.hid (show len + 1 ≤ 1000000 by have := HL.out.1; have := HLN.out; have := HN.out; have := HKN.out; omega)
            go_wp2_with (at_builtin; refine append_cellsK rfl _ _ 25 75 rfl i0 _ 5 56 Try.underlying25 HI.out HZ0.out HZ1.out HZ2.out rfl (by decide) w.heap.size _ len _ rfl (own_below' HO3.out HAL.out) (some ⟨(w9).heap.size, 0, none⟩) 1 1 (encR (⟨⟨rn, rt, rc⟩, ru, rd⟩ : R5)) rfl (fun h => by cases h) HCX.out (fun u hu => flatR_one [(⟨⟨rn, rt, rc⟩, ru, rd⟩ : R5)] u (by simpa [flatR] using hu)) HLE.out (by decide) HBS.out ?_)
            intro v7 w10 hown hgrow
            have hne := own_ne (own_below' HO3.out HAL.out) (HR3.out.2.below HAL.out) (by decide)
            have HR7 := Lib.hid (show RdB w10 q s a6 b6 from ⟨(HR3.out.1.below HAL.out).grown hgrow (fun e => hne e.symm), (HR3.out.2.below HAL.out).grown hgrow hne⟩)
            have HG7 := Lib.hid ((HG3.out.trans (below_grown HAL.out (some q))).andThen hgrow (fun j hj => Or.inl (HO3.out.lt j hj).1))
            have HO7 := Lib.hid hown
            clear hown hgrow hne x0 x1 x2 x3 x4
            go_wp2
            go_roundw
            case rel => exact ⟨k + 1, L ++ [(⟨⟨rn, rt, rc⟩, ru, rd⟩ : R5)], a6, b6, HKN.out, by go_num, Lib.hid (by rw [List.length_append, HLN.out, flatR_app]; simpa [flatR] using HO7.out), Lib.hid ⟨by rw [List.length_append, HL.out.1]; rfl, fun r hr => by (rcases List.mem_append.1 hr with h | h; exact HL.out.2 r h; (rw [List.mem_singleton] at h; subst h; exact HZ.out))⟩, HR7, HG7, HQP⟩
            case measure =>
              simp only [intOf]
              have := HKN.out
              omega
          | false =>
            obtain ⟨c0, c1, c2, f1, f2⟩ := HR3.out.cells
            have HTQ := Lib.hid HR3.out.2
            replace HR3 := Lib.hid HR3.out.bad
            have hg := grown_cell w9 q 2 (.bool true)
            replace HX3 := Lib.hid (HX3.out.grown hg (fun e => by injection e with e; exact HNQ.out e.symm))
            replace HO3 := Lib.hid (own_keeps HO3.out HTQ.out (by decide) hg)
            replace HG3 := Lib.hid (HG3.out.trans hg)
            clear hg
            go_upto_region 10 with (fail)
            obtain ⟨w11, hw11⟩ : ∃ x, w9.setCell ⟨q, 2, none⟩ (.bool true) = x := ⟨_, rfl⟩
            rw [hw11] at HR3 HX3 HO3 HG3 ⊢
            clear hw11 c0 c1 c2 f1 f2
            have HQP := Lib.hid (show Stp s (manyP (rrP s true) (k + 1) a) (eB b) (L ++ [(⟨⟨rn, rt, rc⟩, ru, rd⟩ : R5)]) a6 (eB true) from Stp.seq (f := rrP s true) (fun x y => x ++ [y]) HST.out (HRC.out.ok (by rw [HOK.out]; simp)))
            obtain ⟨x0, x1, x2, x3, x4, _⟩ := HX3.out.u5
            have HCX := Lib.hid (cells_lit w11 #[.string rn, .int .i64 rt, .int .i64 rc, .int .i64 ru, .string rd] 75)
            have HAL := Lib.hid ((Below.refl (w11).heap.size w11).alloc (Nat.le_refl _) (.cells #[.string rn, .int .i64 rt, .int .i64 rc, .int .i64 ru, .string rd] 75))
            have HBS := Lib.hid (show w.heap.size ≤ ((w11).alloc (.cells #[.string rn, .int .i64 rt, .int .i64 rc, .int .i64 ru, .string rd] 75)).heap.size from Nat.le_trans HG3.out.size HAL.out.size)
            have HLE := Lib.hid (show len + 1 ≤ 1000000 by have := HL.out.1; have := HLN.out; have := HN.out; have := HKN.out; omega)
            go_wp2_with (at_builtin; refine append_cellsK rfl _ _ 25 75 rfl i0 _ 5 56 Try.underlying25 HI.out HZ0.out HZ1.out HZ2.out rfl (by decide) w.heap.size _ len _ rfl (own_below' HO3.out HAL.out) (some ⟨(w11).heap.size, 0, none⟩) 1 1 (encR (⟨⟨rn, rt, rc⟩, ru, rd⟩ : R5)) rfl (fun h => by cases h) HCX.out (fun u hu => flatR_one [(⟨⟨rn, rt, rc⟩, ru, rd⟩ : R5)] u (by simpa [flatR] using hu)) HLE.out (by decide) HBS.out ?_)
            intro v7 w10 hown hgrow
            have hne := own_ne (own_below' HO3.out HAL.out) (HR3.out.2.below HAL.out) (by decide)
            have HR7 := Lib.hid (show RdB w10 q s a6 true from ⟨(HR3.out.1.below HAL.out).grown hgrow (fun e => hne e.symm), (HR3.out.2.below HAL.out).grown hgrow hne⟩)
            have HG7 := Lib.hid ((HG3.out.trans (below_grown HAL.out (some q))).andThen hgrow (fun j hj => Or.inl (HO3.out.lt j hj).1))
            have HO7 := Lib.hid hown
            clear hown hgrow hne x0 x1 x2 x3 x4
            go_wp2
            go_roundw
            case rel => exact ⟨k + 1, L ++ [(⟨⟨rn, rt, rc⟩, ru, rd⟩ : R5)], a6, true, HKN.out, by go_num, Lib.hid (by rw [List.length_append, HLN.out, flatR_app]; simpa [flatR] using HO7.out), Lib.hid ⟨by rw [List.length_append, HL.out.1]; rfl, fun r hr => by (rcases List.mem_append.1 hr with h | h; exact HL.out.2 r h; (rw [List.mem_singleton] at h; subst h; exact HZ.out))⟩, HR7, HG7, HQP⟩
            case measure =>
              simp only [intOf]
              have := HKN.out
              omega
        · have e41 := eF h41
          have H41 := Lib.hid h41
          clear h41
          go_wp2_with fail
          refine (rmayRR_any rn rt rc ru rd _ (by have := HZ.out.1; omega) (by have := HZ.out.2; omega)).mono ?_; rintro en w9 ⟨rfl, hb⟩
          have HX3 := Lib.hid (HX4.out.below hb)
          have HO3 := Lib.hid (own_below' HO.out hb)
          have HG3 := Lib.hid (HG.out.trans (below_grown hb (some q)))
          have HR3 := Lib.hid (HR.out.below hb)
          clear hb x0 x1 x2 x3 x4
          obtain ⟨V, hV⟩ : ∃ x, mayR rn rt rc ru rd = x := ⟨_, rfl⟩
          rw [hV]
          have HOK := Lib.hid (show okP true (⟨⟨rn, rt, rc⟩, ru, rd⟩ : R5) = V by rw [okP_true, mayO_no H41.out]; exact hV)
          clear hV
          cases V with
          | true =>
            have HQP := Lib.hid (show Stp s (manyP (rrP s true) (k + 1) a) (eB b) (L ++ [(⟨⟨rn, rt, rc⟩, ru, rd⟩ : R5)]) a6 (eB b6) from Stp.seq (f := rrP s true) (fun x y => x ++ [y]) HST.out (HRC.out.ok (by rw [HOK.out]; simp)))
            obtain ⟨x0, x1, x2, x3, x4, _⟩ := HX3.out.u5
            have HCX := Lib.hid (cells_lit w9 #[.string rn, .int .i64 rt, .int .i64 rc, .int .i64 ru, .string rd] 75)
            have HAL := Lib.hid ((Below.refl (w9).heap.size w9).alloc (Nat.le_refl _) (.cells #[.string rn, .int .i64 rt, .int .i64 rc, .int .i64 ru, .string rd] 75))
            have HBS := Lib.hid (show w.heap.size ≤ ((w9).alloc (.cells #[.string rn, .int .i64 rt, .int .i64 rc, .int .i64 ru, .string rd] 75)).heap.size from Nat.le_trans HG3.out.size HAL.out.size)
            have HLE := Lib.hid (show len + 1 ≤ 1000000 by have := HL.out.1; have := HLN.out; have := HN.out; have := HKN.out; omega)
            go_wp2_with (at_builtin; refine append_cellsK rfl _ _ 25 75 rfl i0 _ 5 56 Try.underlying25 HI.out HZ0.out HZ1.out HZ2.out rfl (by decide) w.heap.size _ len _ rfl (own_below' HO3.out HAL.out) (some ⟨(w9).heap.size, 0, none⟩) 1 1 (encR (⟨⟨rn, rt, rc⟩, ru, rd⟩ : R5)) rfl (fun h => by cases h) HCX.out (fun u hu => flatR_one [(⟨⟨rn, rt, rc⟩, ru, rd⟩ : R5)] u (by simpa [flatR] using hu)) HLE.out (by decide) HBS.out ?_)
            intro v7 w10 hown hgrow
            have hne := own_ne (own_below' HO3.out HAL.out) (HR3.out.2.below HAL.out) (by decide)
            have HR7 := Lib.hid (show RdB w10 q s a6 b6 from ⟨(HR3.out.1.below HAL.out).grown hgrow (fun e => hne e.symm), (HR3.out.2.below HAL.out).grown hgrow hne⟩)
            have HG7 := Lib.hid ((HG3.out.trans (below_grown HAL.out (some q))).andThen hgrow (fun j hj => Or.inl (HO3.out.lt j hj).1))
            have HO7 := Lib.hid hown
            clear hown hgrow hne x0 x1 x2 x3 x4
            go_wp2
            go_roundw
            case rel => exact ⟨k + 1, L ++ [(⟨⟨rn, rt, rc⟩, ru, rd⟩ : R5)], a6, b6, HKN.out, by go_num, Lib.hid (by rw [List.length_append, HLN.out, flatR_app]; simpa [flatR] using HO7.out), Lib.hid ⟨by rw [List.length_append, HL.out.1]; rfl, fun r hr => by (rcases List.mem_append.1 hr with h | h; exact HL.out.2 r h; (rw [List.mem_singleton] at h; subst h; exact HZ.out))⟩, HR7, HG7, HQP⟩
            case measure =>
              simp only [intOf]
              have := HKN.out
              omega
          | false =>
            obtain ⟨c0, c1, c2, f1, f2⟩ := HR3.out.cells
            have HTQ := Lib.hid HR3.out.2
            replace HR3 := Lib.hid HR3.out.bad
            have hg := grown_cell w9 q 2 (.bool true)
            replace HX3 := Lib.hid (HX3.out.grown hg (fun e => by injection e with e; exact HNQ.out e.symm))
            replace HO3 := Lib.hid (own_keeps HO3.out HTQ.out (by decide) hg)
            replace HG3 := Lib.hid (HG3.out.trans hg)
            clear hg
            go_upto_region 10 with (fail)
            obtain ⟨w11, hw11⟩ : ∃ x, w9.setCell ⟨q, 2, none⟩ (.bool true) = x := ⟨_, rfl⟩
            rw [hw11] at HR3 HX3 HO3 HG3 ⊢
            clear hw11 c0 c1 c2 f1 f2
            have HQP := Lib.hid (show Stp s (manyP (rrP s true) (k + 1) a) (eB b) (L ++ [(⟨⟨rn, rt, rc⟩, ru, rd⟩ : R5)]) a6 (eB true) from Stp.seq (f := rrP s true) (fun x y => x ++ [y]) HST.out (HRC.out.ok (by rw [HOK.out]; simp)))
            obtain ⟨x0, x1, x2, x3, x4, _⟩ := HX3.out.u5
            have HCX := Lib.hid (cells_lit w11 #[.string rn, .int .i64 rt, .int .i64 rc, .int .i64 ru, .string rd] 75)
            have HAL := Lib.hid ((Below.refl (w11).heap.size w11).alloc (Nat.le_refl _) (.cells #[.string rn, .int .i64 rt, .int .i64 rc, .int .i64 ru, .string rd] 75))
            have HBS := Lib.hid (show w.heap.size ≤ ((w11).alloc (.cells #[.string rn, .int .i64 rt, .int .i64 rc, .int .i64 ru, .string rd] 75)).heap.size from Nat.le_trans HG3.out.size HAL.out.size)
            have HLE := Lib.hid (show len + 1 ≤ 1000000 by have := HL.out.1; have := HLN.out; have := HN.out; have := HKN.out; omega)
            go_wp2_with (at_builtin; refine append_cellsK rfl _ _ 25 75 rfl i0 _ 5 56 Try.underlying25 HI.out HZ0.out HZ1.out HZ2.out rfl (by decide) w.heap.size _ len _ rfl (own_below' HO3.out HAL.out) (some ⟨(w11).heap.size, 0, none⟩) 1 1 (encR (⟨⟨rn, rt, rc⟩, ru, rd⟩ : R5)) rfl (fun h => by cases h) HCX.out (fun u hu => flatR_one [(⟨⟨rn, rt, rc⟩, ru, rd⟩ : R5)] u (by simpa [flatR] using hu)) HLE.out (by decide) HBS.out ?_)
            intro v7 w10 hown hgrow
            have hne := own_ne (own_below' HO3.out HAL.out) (HR3.out.2.below HAL.out) (by decide)
            have HR7 := Lib.hid (show RdB w10 q s a6 true from ⟨(HR3.out.1.below HAL.out).grown hgrow (fun e => hne e.symm), (HR3.out.2.below HAL.out).grown hgrow hne⟩)
            have HG7 := Lib.hid ((HG3.out.trans (below_grown HAL.out (some q))).andThen hgrow (fun j hj => Or.inl (HO3.out.lt j hj).1))
            have HO7 := Lib.hid hown
            clear hown hgrow hne x0 x1 x2 x3 x4
            go_wp2
            go_roundw
            case rel => exact ⟨k + 1, L ++ [(⟨⟨rn, rt, rc⟩, ru, rd⟩ : R5)], a6, true, HKN.out, by go_num, Lib.hid (by rw [List.length_append, HLN.out, flatR_app]; simpa [flatR] using HO7.out), Lib.hid ⟨by rw [List.length_append, HL.out.1]; rfl, fun r hr => by (rcases List.mem_append.1 hr with h | h; exact HL.out.2 r h; (rw [List.mem_singleton] at h; subst h; exact HZ.out))⟩, HR7, HG7, HQP⟩
            case measure =>
              simp only [intOf]
              have := HKN.out
              omega
end Go.Proofs.Ytkoafkajmfodkaa
end
