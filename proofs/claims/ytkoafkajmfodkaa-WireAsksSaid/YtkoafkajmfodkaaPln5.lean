/- rhzlaw5.Plain: a message, for the document. -/
import Derived.Test.YtkoafkajmfodkaaDcC
import Derived.Test.YtkoafkajmfodkaaFix
import Derived.Deep.RegionHeld3
namespace Go.Proofs.Ytkoafkajmfodkaa
open Go.RowKit

set_option maxRecDepth 100000 in
set_option maxHeartbeats 4000000 in
theorem plain_ex (mi mo mr : Int) (b1 b2 b3 b4 b5 : Bool) (qa na sa xa : Option Addr) (ql qc nl nc sl sc xl xc : Nat) (w : World) :
    Calls Try.prog 15 #[.agg #[.int .i64 mi, .int .i64 mo, .int .i64 mr, .bool b1, .bool b2, .bool b3, .bool b4, .bool b5, .slice qa ql qc, .slice na nl nc, .slice sa sl sc, .slice xa xl xc]] w fun e w' => e = .returned (.agg #[.int .i64 mi, .int .i64 mo, .int .i64 mr, .bool b1, .bool b2, .bool b3, .bool b4, .bool b5, .slice qa ql qc, .slice na nl nc, .slice sa sl sc, .slice xa xl xc]) ∧ Below w.heap.size w w' := by
  have h1 := (Below.refl w.heap.size w).alloc (Nat.le_refl _) (.cells #[.int .i64 mi, .int .i64 mo, .int .i64 mr, .bool b1, .bool b2, .bool b3, .bool b4, .bool b5, .slice qa ql qc, .slice na nl nc, .slice sa sl sc, .slice xa xl xc] 27)
  have h2 := (Below.refl _ (w.alloc (.cells #[.int .i64 mi, .int .i64 mo, .int .i64 mr, .bool b1, .bool b2, .bool b3, .bool b4, .bool b5, .slice qa ql qc, .slice na nl nc, .slice sa sl sc, .slice xa xl xc] 27))).alloc (Nat.le_refl _) (.cells #[.int .i64 0, .int .i64 0, .int .i64 0, .bool false, .bool false, .bool false, .bool false, .bool false, .slice none 0 0, .slice none 0 0, .slice none 0 0, .slice none 0 0] 32)
  have hbw := h1.trans (h2.mono h1.size)
  have c1 := CN.new w #[.int .i64 mi, .int .i64 mo, .int .i64 mr, .bool b1, .bool b2, .bool b3, .bool b4, .bool b5, .slice qa ql qc, .slice na nl nc, .slice sa sl sc, .slice xa xl xc] 27
  have hs1 : w.heap.size + 1 = (w.alloc (.cells #[.int .i64 mi, .int .i64 mo, .int .i64 mr, .bool b1, .bool b2, .bool b3, .bool b4, .bool b5, .slice qa ql qc, .slice na nl nc, .slice sa sl sc, .slice xa xl xc] 27)).heap.size := (World.size_alloc _ _).symm
  have HS1 := Lib.hid hs1.symm
  have HP2 := Lib.hid (h2.mono (Nat.le_refl _))
  clear hs1
  have c2 := CN.new (w.alloc (.cells #[.int .i64 mi, .int .i64 mo, .int .i64 mr, .bool b1, .bool b2, .bool b3, .bool b4, .bool b5, .slice qa ql qc, .slice na nl nc, .slice sa sl sc, .slice xa xl xc] 27)) #[.int .i64 0, .int .i64 0, .int .i64 0, .bool false, .bool false, .bool false, .bool false, .bool false, .slice none 0 0, .slice none 0 0, .slice none 0 0, .slice none 0 0] 32
  rw [World.size_alloc] at c2
  have HK := Lib.hid (fun wx => head_any mi mo mr b1 b2 b3 b4 b5 wx)
  have HBW := Lib.hid hbw
  clear h1 h2 hbw
  go_enter Try.func15, Try.ntmps15
  go_wp2_with fail
  obtain ⟨w1, hw1⟩ : ∃ x, w.alloc (.cells #[.int .i64 mi, .int .i64 mo, .int .i64 mr, .bool b1, .bool b2, .bool b3, .bool b4, .bool b5, .slice qa ql qc, .slice na nl nc, .slice sa sl sc, .slice xa xl xc] 27) = x := ⟨_, rfl⟩
  rw [hw1] at c1 c2 HS1 HP2 HBW ⊢
  obtain ⟨w2, hw2⟩ : ∃ x, w1.alloc (.cells #[.int .i64 0, .int .i64 0, .int .i64 0, .bool false, .bool false, .bool false, .bool false, .bool false, .slice none 0 0, .slice none 0 0, .slice none 0 0, .slice none 0 0] 32) = x := ⟨_, rfl⟩
  obtain ⟨q2, hq2⟩ : ∃ q, w.heap.size + 1 = q := ⟨_, rfl⟩
  obtain ⟨q1, hq1⟩ : ∃ q, w.heap.size = q := ⟨_, rfl⟩
  rw [hq2] at c2 ⊢
  rw [hw2] at c2 HBW HP2 ⊢
  rw [hq2] at HS1
  rw [hq1] at c1
  rw [show (Value.pointer (some { block := w.heap.size, off := 0 })) = Value.pointer (some { block := q1, off := 0 }) by rw [hq1]]
  have hq12 : w.heap.size ≤ q2 := by omega
  obtain ⟨y0, y1, y2, y3, y4, y5, y6, y7, y8, y9, y10, y11, _⟩ := c1.u12
  have hfix : Fix w1 [(⟨q1, 0, none⟩, .int .i64 mi), (⟨q1, 1, none⟩, .int .i64 mo), (⟨q1, 2, none⟩, .int .i64 mr), (⟨q1, 3, none⟩, .bool b1), (⟨q1, 4, none⟩, .bool b2), (⟨q1, 5, none⟩, .bool b3), (⟨q1, 6, none⟩, .bool b4), (⟨q1, 7, none⟩, .bool b5), (⟨q1, 8, none⟩, .slice qa ql qc), (⟨q1, 9, none⟩, .slice na nl nc), (⟨q1, 10, none⟩, .slice sa sl sc), (⟨q1, 11, none⟩, .slice xa xl xc)] w2 := ⟨HP2.out, by
    intro c hc
    simp only [List.mem_cons, List.not_mem_nil, or_false] at hc
    rcases hc with rfl | rfl | rfl | rfl | rfl | rfl | rfl | rfl | rfl | rfl | rfl | rfl
    · exact ⟨c1.1, y0⟩
    · exact ⟨c1.1, y1⟩
    · exact ⟨c1.1, y2⟩
    · exact ⟨c1.1, y3⟩
    · exact ⟨c1.1, y4⟩
    · exact ⟨c1.1, y5⟩
    · exact ⟨c1.1, y6⟩
    · exact ⟨c1.1, y7⟩
    · exact ⟨c1.1, y8⟩
    · exact ⟨c1.1, y9⟩
    · exact ⟨c1.1, y10⟩
    · exact ⟨c1.1, y11⟩⟩
  have HFX := Lib.hid hfix.drew.all12
  have K2 := Lib.hid (c2.below ((Below.refl w2.heap.size w2).drew))
  have HBD := Lib.hid (HBW.out.trans (((Below.refl w2.heap.size w2).drew).mono HBW.out.size))
  clear y0 y1 y2 y3 y4 y5 y6 y7 y8 y9 y10 y11 hfix c1 c2 hw2 hq2 hq1 hw1 HP2
  refine wp_region_held_drew (S := (fun wx => Hid (Fix w1 [(⟨q1, 0, none⟩, .int .i64 mi), (⟨q1, 1, none⟩, .int .i64 mo), (⟨q1, 2, none⟩, .int .i64 mr), (⟨q1, 3, none⟩, .bool b1), (⟨q1, 4, none⟩, .bool b2), (⟨q1, 5, none⟩, .bool b3), (⟨q1, 6, none⟩, .bool b4), (⟨q1, 7, none⟩, .bool b5), (⟨q1, 8, none⟩, .slice qa ql qc), (⟨q1, 9, none⟩, .slice na nl nc), (⟨q1, 10, none⟩, .slice sa sl sc), (⟨q1, 11, none⟩, .slice xa xl xc)] wx) ∧ wx.cell? ⟨q1, 0, none⟩ = some (.int .i64 mi) ∧ wx.cell? ⟨q1, 1, none⟩ = some (.int .i64 mo) ∧ wx.cell? ⟨q1, 2, none⟩ = some (.int .i64 mr) ∧ wx.cell? ⟨q1, 3, none⟩ = some (.bool b1) ∧ wx.cell? ⟨q1, 4, none⟩ = some (.bool b2) ∧ wx.cell? ⟨q1, 5, none⟩ = some (.bool b3) ∧ wx.cell? ⟨q1, 6, none⟩ = some (.bool b4) ∧ wx.cell? ⟨q1, 7, none⟩ = some (.bool b5) ∧ wx.cell? ⟨q1, 8, none⟩ = some (.slice qa ql qc) ∧ wx.cell? ⟨q1, 9, none⟩ = some (.slice na nl nc) ∧ wx.cell? ⟨q1, 10, none⟩ = some (.slice sa sl sc) ∧ wx.cell? ⟨q1, 11, none⟩ = some (.slice xa xl xc))) (by kernel_rfl) (HFX.out) (fun hHeld => ?_)
  refine wpAnyH_take (i := 0) (oi := { dst := some 3, op := Go.Op.fieldAddr 27 (Go.Operand.tmp 1) 0, type := 0, pos := "law.go:17", after := #[], guard := none }) (v := ?v0_70101) rfl (by kernel_rfl) (by kernel_rfl) (by kernel_rfl) (fun _ _ _ h => h) (Or.inl ⟨by rfl, ?y0_70101⟩) hHeld ?r0_70101
  case y0_70101 => intro w hSw; (try dsimp only at hSw); go_simp; try with_reducible rfl
  try simp only [Act.put, List.setIfInBounds_toArray, List.set_cons_zero, List.set_cons_succ]
  refine wpAnyH_take (i := 1) (oi := { dst := some 4, op := Go.Op.load 23 (Go.Operand.tmp 3), type := 23, pos := "law.go:17", after := #[{ on := 0, ground := Go.Ground.data }], guard := none }) (v := ?v1_70101) rfl (by kernel_rfl) (by kernel_rfl) (by kernel_rfl) (fun _ _ _ h => h) (Or.inl ⟨by rfl, ?y1_70101⟩) hHeld ?r1_70101
  case y1_70101 => intro w hSw; (try dsimp only at hSw); go_simp; try with_reducible rfl
  try simp only [Act.put, List.setIfInBounds_toArray, List.set_cons_zero, List.set_cons_succ]
  refine wpAnyH_take (i := 3) (oi := { dst := some 6, op := Go.Op.fieldAddr 27 (Go.Operand.tmp 1) 1, type := 0, pos := "law.go:17", after := #[], guard := none }) (v := ?v3_70101) rfl (by kernel_rfl) (by kernel_rfl) (by kernel_rfl) (fun _ _ _ h => h) (Or.inl ⟨by rfl, ?y3_70101⟩) hHeld ?r3_70101
  case y3_70101 => intro w hSw; (try dsimp only at hSw); go_simp; try with_reducible rfl
  try simp only [Act.put, List.setIfInBounds_toArray, List.set_cons_zero, List.set_cons_succ]
  refine wpAnyH_take (i := 4) (oi := { dst := some 7, op := Go.Op.load 24 (Go.Operand.tmp 6), type := 24, pos := "law.go:17", after := #[{ on := 3, ground := Go.Ground.data }], guard := none }) (v := ?v4_70101) rfl (by kernel_rfl) (by kernel_rfl) (by kernel_rfl) (fun _ _ _ h => h) (Or.inl ⟨by rfl, ?y4_70101⟩) hHeld ?r4_70101
  case y4_70101 => intro w hSw; (try dsimp only at hSw); go_simp; try with_reducible rfl
  try simp only [Act.put, List.setIfInBounds_toArray, List.set_cons_zero, List.set_cons_succ]
  refine wpAnyH_take (i := 5) (oi := { dst := some 8, op := Go.Op.fieldAddr 27 (Go.Operand.tmp 1) 2, type := 0, pos := "law.go:17", after := #[], guard := none }) (v := ?v5_70101) rfl (by kernel_rfl) (by kernel_rfl) (by kernel_rfl) (fun _ _ _ h => h) (Or.inl ⟨by rfl, ?y5_70101⟩) hHeld ?r5_70101
  case y5_70101 => intro w hSw; (try dsimp only at hSw); go_simp; try with_reducible rfl
  try simp only [Act.put, List.setIfInBounds_toArray, List.set_cons_zero, List.set_cons_succ]
  refine wpAnyH_take (i := 6) (oi := { dst := some 9, op := Go.Op.load 25 (Go.Operand.tmp 8), type := 25, pos := "law.go:17", after := #[{ on := 5, ground := Go.Ground.data }], guard := none }) (v := ?v6_70101) rfl (by kernel_rfl) (by kernel_rfl) (by kernel_rfl) (fun _ _ _ h => h) (Or.inl ⟨by rfl, ?y6_70101⟩) hHeld ?r6_70101
  case y6_70101 => intro w hSw; (try dsimp only at hSw); go_simp; try with_reducible rfl
  try simp only [Act.put, List.setIfInBounds_toArray, List.set_cons_zero, List.set_cons_succ]
  refine wpAnyH_take (i := 7) (oi := { dst := some 10, op := Go.Op.fieldAddr 27 (Go.Operand.tmp 1) 3, type := 0, pos := "law.go:17", after := #[], guard := none }) (v := ?v7_70101) rfl (by kernel_rfl) (by kernel_rfl) (by kernel_rfl) (fun _ _ _ h => h) (Or.inl ⟨by rfl, ?y7_70101⟩) hHeld ?r7_70101
  case y7_70101 => intro w hSw; (try dsimp only at hSw); go_simp; try with_reducible rfl
  try simp only [Act.put, List.setIfInBounds_toArray, List.set_cons_zero, List.set_cons_succ]
  refine wpAnyH_take (i := 8) (oi := { dst := some 11, op := Go.Op.load 25 (Go.Operand.tmp 10), type := 25, pos := "law.go:17", after := #[{ on := 7, ground := Go.Ground.data }], guard := none }) (v := ?v8_70101) rfl (by kernel_rfl) (by kernel_rfl) (by kernel_rfl) (fun _ _ _ h => h) (Or.inl ⟨by rfl, ?y8_70101⟩) hHeld ?r8_70101
  case y8_70101 => intro w hSw; (try dsimp only at hSw); go_simp; try with_reducible rfl
  try simp only [Act.put, List.setIfInBounds_toArray, List.set_cons_zero, List.set_cons_succ]
  refine wpAnyH_take (i := 9) (oi := { dst := some 12, op := Go.Op.fieldAddr 27 (Go.Operand.tmp 1) 4, type := 0, pos := "law.go:17", after := #[], guard := none }) (v := ?v9_70101) rfl (by kernel_rfl) (by kernel_rfl) (by kernel_rfl) (fun _ _ _ h => h) (Or.inl ⟨by rfl, ?y9_70101⟩) hHeld ?r9_70101
  case y9_70101 => intro w hSw; (try dsimp only at hSw); go_simp; try with_reducible rfl
  try simp only [Act.put, List.setIfInBounds_toArray, List.set_cons_zero, List.set_cons_succ]
  refine wpAnyH_take (i := 10) (oi := { dst := some 13, op := Go.Op.load 25 (Go.Operand.tmp 12), type := 25, pos := "law.go:17", after := #[{ on := 9, ground := Go.Ground.data }], guard := none }) (v := ?v10_70101) rfl (by kernel_rfl) (by kernel_rfl) (by kernel_rfl) (fun _ _ _ h => h) (Or.inl ⟨by rfl, ?y10_70101⟩) hHeld ?r10_70101
  case y10_70101 => intro w hSw; (try dsimp only at hSw); go_simp; try with_reducible rfl
  try simp only [Act.put, List.setIfInBounds_toArray, List.set_cons_zero, List.set_cons_succ]
  refine wpAnyH_ready (rs := [2]) (by kernel_rfl) (by simp) ?_
  refine AllReadyH.cons (o := { dst := some 5, op := Go.Op.call { callee := Go.Callee.value (Go.Operand.func 26), args := #[Go.Operand.tmp 4], argTypes := #[23] }, type := 30, pos := "law.go:17", after := #[{ on := 1, ground := Go.Ground.data }], guard := none }) rfl (fun K hK => ?_) AllReadyH.nil
  go_simp
  refine (HK.out _).mono ?_; rintro e wy ⟨rfl, hb⟩
  go_wp2_with fail
  refine hK.out _ _ (Fix.next12 hb hHeld) (fun hHeld2 => ?_)
  clear hK K hHeld
  have hHeld := hHeld2
  clear hHeld2
  try simp only [Act.put, List.setIfInBounds_toArray, List.set_cons_zero, List.set_cons_succ]
  refine wpAnyH_take (i := 11) (oi := { dst := some 14, op := Go.Op.build 32 #[(0, Go.Operand.tmp 5), (1, Go.Operand.tmp 7), (2, Go.Operand.tmp 9), (3, Go.Operand.tmp 11), (4, Go.Operand.tmp 13)], type := 32, pos := "law.go:17", after := #[{ on := 2, ground := Go.Ground.data }, { on := 4, ground := Go.Ground.data }, { on := 6, ground := Go.Ground.data }, { on := 8, ground := Go.Ground.data }, { on := 10, ground := Go.Ground.data }], guard := none }) (v := ?v11_70102) rfl (by kernel_rfl) (by kernel_rfl) (by kernel_rfl) (fun _ _ _ h => h) (Or.inl ⟨by rfl, ?y11_70102⟩) hHeld ?r11_70102
  case y11_70102 => intro w hSw; (try dsimp only at hSw); go_simp; try with_reducible rfl
  try simp only [Act.put, List.setIfInBounds_toArray, List.set_cons_zero, List.set_cons_succ]
  refine wpAnyH_ready (rs := [12]) (by kernel_rfl) (by simp) ?_
  refine AllReadyH.cons (o := { dst := none, op := Go.Op.store 32 (Go.Operand.tmp 2) (Go.Operand.tmp 14), type := 0, pos := "law.go:17", after := #[{ on := 11, ground := Go.Ground.data }, { on := 2, ground := Go.Ground.chain }, { on := 0, ground := Go.Ground.phase }, { on := 1, ground := Go.Ground.phase }, { on := 2, ground := Go.Ground.phase }, { on := 3, ground := Go.Ground.phase }, { on := 4, ground := Go.Ground.phase }, { on := 5, ground := Go.Ground.phase }, { on := 6, ground := Go.Ground.phase }, { on := 7, ground := Go.Ground.phase }, { on := 8, ground := Go.Ground.phase }, { on := 9, ground := Go.Ground.phase }, { on := 10, ground := Go.Ground.phase }, { on := 11, ground := Go.Ground.phase }], guard := none }) rfl (fun K hK => ?_) AllReadyH.nil
  obtain ⟨r0, r1, r2, r3, r4, r5, r6, r7, r8, r9, r10, r11, g0, g1, g2, g3, g4, g5, g6, g7, g8, g9, g10, g11⟩ := (K2.out.below hb).u12
  go_simp
  refine hK.out _ _ ((hHeld.1.out.grown (grown_s12 _ q2 (.int .i64 mi) (.int .i64 mo) (.int .i64 mr) (.bool b1) (.bool b2) (.bool b3) (.bool b4) (.bool b5) (.slice qa ql qc) (.slice na nl nc) (.slice sa sl sc) (.slice xa xl xc)) (fun k hk => by injection hk with hk; rw [HS1.out]; omega)).all12) (fun hHeld2 => ?_)
  clear hK K hHeld
  have hHeld := hHeld2
  clear hHeld2
  try simp only [Act.put, List.setIfInBounds_toArray, List.set_cons_zero, List.set_cons_succ]
  refine wpAnyH_done (by kernel_rfl) ?_ _
  have Z := Lib.hid ((K2.out.below hb).s12 (.int .i64 mi) (.int .i64 mo) (.int .i64 mr) (.bool b1) (.bool b2) (.bool b3) (.bool b4) (.bool b5) (.slice qa ql qc) (.slice na nl nc) (.slice sa sl sc) (.slice xa xl xc))
  have HG := Lib.hid (grown_s12 wy q2 (.int .i64 mi) (.int .i64 mo) (.int .i64 mr) (.bool b1) (.bool b2) (.bool b3) (.bool b4) (.bool b5) (.slice qa ql qc) (.slice na nl nc) (.slice sa sl sc) (.slice xa xl xc))
  have HB := Lib.hid (((HBD.out.trans (hb.mono HBD.out.size))).grown HG.out (HBD.out.trans (hb.mono HBD.out.size)).size (fun k hk => by injection hk with hk; omega))
  obtain ⟨wz, hwz⟩ : ∃ x, ((((((((((((wy.setCell ⟨q2, 0, none⟩ (.int .i64 mi)).setCell ⟨q2, 1, none⟩ (.int .i64 mo)).setCell ⟨q2, 2, none⟩ (.int .i64 mr)).setCell ⟨q2, 3, none⟩ (.bool b1)).setCell ⟨q2, 4, none⟩ (.bool b2)).setCell ⟨q2, 5, none⟩ (.bool b3)).setCell ⟨q2, 6, none⟩ (.bool b4)).setCell ⟨q2, 7, none⟩ (.bool b5)).setCell ⟨q2, 8, none⟩ (.slice qa ql qc)).setCell ⟨q2, 9, none⟩ (.slice na nl nc)).setCell ⟨q2, 10, none⟩ (.slice sa sl sc)).setCell ⟨q2, 11, none⟩ (.slice xa xl xc)) = x := ⟨_, rfl⟩
  rw [hwz] at Z HB ⊢
  clear hwz HG
  clear r0 r1 r2 r3 r4 r5 r6 r7 r8 r9 r10 r11 g0 g1 g2 g3 g4 g5 g6 g7 g8 g9 g10 g11
  obtain ⟨z0, z1, z2, z3, z4, z5, z6, z7, z8, z9, z10, z11, _⟩ := Z.out.u12
  go_wp2
  refine bodyPost_ret (v := .agg #[.int .i64 mi, .int .i64 mo, .int .i64 mr, .bool b1, .bool b2, .bool b3, .bool b4, .bool b5, .slice qa ql qc, .slice na nl nc, .slice sa sl sc, .slice xa xl xc]) (by simp [results, Try.results15, go_sem, z0, z1, z2, z3, z4, z5, z6, z7, z8, z9, z10, z11]) rfl ⟨rfl, HB.out⟩
theorem plainM_any (v : Value) (m : MsgP) (w : World) (h : MsgAt w v m) :
    Calls Try.prog 15 #[v] w fun e w' => e = .returned v ∧ Below w.heap.size w w' := by
  obtain ⟨qa, qc, na, nc, sa, sc, xa, xc, rfl, _⟩ := h
  exact plain_ex _ _ _ _ _ _ _ _ _ _ _ _ _ _ _ _ _ _ _ _ w
end Go.Proofs.Ytkoafkajmfodkaa
