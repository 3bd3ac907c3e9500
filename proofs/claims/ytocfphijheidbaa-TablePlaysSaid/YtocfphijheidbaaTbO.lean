/- Marks and Waits for the document: rhzlaw20.Mark, rhzlaw20.Wait (written by mktbo.py). -/
import Derived.Test.YtocfphijheidbaaTbN
import Derived.Test.YtocfphijheidbaaTTm
namespace Go.Proofs.Ytocfphijheidbaa
open Go.RowKit

theorem tb_sets {B : Nat} {w w' : World} (h : Below B w w') {b : Nat} (hb : B ≤ b) (o : Nat) (vs : List Value) : Below B w (w'.setCells b o vs) := by
  induction vs generalizing o w' with
  | nil => exact h
  | cons v vs ih => exact ih (h.setCell hb v) (o + 1)

set_option maxRecDepth 100000 in
set_option maxHeartbeats 8000000 in
theorem markD_any (ki kp : Int) (kx : ByteArray) (kt : Bool) (w : World) :
    Calls Try.prog 49 #[.agg #[.int .i64 ki, .int .i64 kp, .string kx, .bool kt]] w fun e w' => e = .returned (.agg #[.int .i64 ki, .int .i64 kp, .string kx, .bool kt]) ∧ Below w.heap.size w w' := by
  have y1 := (Below.refl w.heap.size w).alloc (Nat.le_refl _) (.cells #[.int .i64 ki, .int .i64 kp, .string kx, .bool kt] 69)
  have m1 := HeldT.new w #[.int .i64 ki, .int .i64 kp, .string kx, .bool kt] 69
  obtain ⟨u1, hu1⟩ : ∃ z, w.alloc (.cells #[.int .i64 ki, .int .i64 kp, .string kx, .bool kt] 69) = z := ⟨_, rfl⟩
  have z1 : u1.heap.size = w.heap.size + 1 := by rw [← hu1, World.size_alloc]
  rw [hu1] at y1 m1
  have y2 := (Below.refl u1.heap.size u1).alloc (Nat.le_refl _) (.cells #[.int .i64 0, .int .i64 0, .string ⟨#[]⟩, .bool false] 82)
  have m2 := m1.below y2
  have x2 := HeldT.new u1 #[.int .i64 0, .int .i64 0, .string ⟨#[]⟩, .bool false] 82
  obtain ⟨w1, hw1⟩ : ∃ z, u1.alloc (.cells #[.int .i64 0, .int .i64 0, .string ⟨#[]⟩, .bool false] 82) = z := ⟨_, rfl⟩
  rw [hw1] at y2 m2 x2
  rw [z1] at x2
  have HB := Lib.hid (y1.trans (y2.mono y1.size))
  have HW0 := Lib.hid (show (w.alloc (.cells #[.int .i64 ki, .int .i64 kp, .string kx, .bool kt] 69)).alloc (.cells #[.int .i64 0, .int .i64 0, .string ⟨#[]⟩, .bool false] 82) = w1 by rw [hu1, hw1])
  obtain ⟨gR, hgR⟩ : ∃ z, w.heap.size + 1 = z := ⟨_, rfl⟩
  obtain ⟨gA, hgA⟩ : ∃ z, w.heap.size = z := ⟨_, rfl⟩
  rw [hgA] at m2
  rw [hgR] at x2
  have HA := Lib.hid m2
  have HR := Lib.hid x2
  have HGR := Lib.hid hgR
  have HGA := Lib.hid hgA
  have HLE := Lib.hid (show w.heap.size ≤ gR by omega)
  clear y1 m1 hu1 z1 y2 m2 x2 hw1 hgR hgA
  go_enter Try.func49, Try.ntmps49
  go_upto_region 1 with (fail)
  rw [HW0.out, HGR.out, HGA.out]
  clear HW0 HGR HGA
  have a0 := (HA.out.1 0 _ rfl).1
  have a1 := (HA.out.1 1 _ rfl).1
  have a2 := (HA.out.1 2 _ rfl).1
  have a3 := (HA.out.1 3 _ rfl).1
  have HTH := Lib.hid (show w1.there gR 0 ([.int .i64 ki, .int .i64 kp, .string kx, .bool kt] : List Value).toArray.size from fun j hj => by
    rw [Nat.zero_add]
    have hj9 : j < ([.int .i64 0, .int .i64 0, .string ⟨#[]⟩, .bool false] : List Value).length := hj
    obtain ⟨u, hu⟩ : ∃ u, ([.int .i64 0, .int .i64 0, .string ⟨#[]⟩, .bool false] : List Value)[j]? = some u := ⟨_, List.getElem?_eq_getElem hj9⟩
    obtain ⟨h1, h2⟩ := HR.out.1 j u hu
    exact ⟨by rw [h1]; rfl, h2⟩)
  have HRS := Lib.hid (World.rangeAt_setCells_same w1 gR 0 ([.int .i64 ki, .int .i64 kp, .string kx, .bool kt] : List Value) HTH.out)
  have HB9 := Lib.hid (tb_sets HB.out HLE.out 0 [.int .i64 ki, .int .i64 kp, .string kx, .bool kt])
  obtain ⟨w9, hw9⟩ : ∃ z, w1.setCells gR 0 [.int .i64 ki, .int .i64 kp, .string kx, .bool kt] = z := ⟨_, rfl⟩
  rw [hw9] at HRS HB9
  have HW9 := Lib.hid (show w1.setCells gR 0 ([.int .i64 ki, .int .i64 kp, .string kx, .bool kt] : List Value).toArray.toList = w9 from hw9)
  have HON := Lib.hid (show ∀ u ∈ ([.int .i64 ki, .int .i64 kp, .string kx, .bool kt] : List Value), u.oneCell' = true from by simp [Value.oneCell'])
  clear hw9
  go_wp2_with (first | (refine wpList_store_mid rfl 82 (.tmp 2) (.tmp 11) rfl _ _ _ rfl rfl HTH.out (by kernel_rfl) (all_oneCell_toArray HON.out) ?_; rw [HW9.out]))
  refine bodyPost_ret (v := .agg ([.int .i64 ki, .int .i64 kp, .string kx, .bool kt] : List Value).toArray) ?_ rfl ⟨rfl, HB9.out⟩
  rw [results_cell1 Try.results49]
  have hr := run_loadVar_mid (P := Try.prog) _ gR 0 82 [.int .i64 ki, .int .i64 kp, .string kx, .bool kt] _ HRS.out Try.underlying82 rfl (by kernel_rfl)
  show ((asAddr (.pointer (some ⟨gR, 0, none⟩))).run Try.prog _).andThen _ = _
  simp [asAddr, hr]
set_option maxRecDepth 100000 in
set_option maxHeartbeats 8000000 in
theorem waitD_any (ki kp : Int) (kx : ByteArray) (kt : Bool) (mn : ByteArray) (my mc mj mu : Int) (w : World) :
    Calls Try.prog 45 #[.agg #[.int .i64 ki, .int .i64 kp, .string kx, .bool kt, .string mn, .int .i64 my, .int .i64 mc, .int .i64 mj, .int .i64 mu]] w fun e w' => e = .returned (.agg #[.int .i64 ki, .int .i64 kp, .string kx, .bool kt, .string mn, .int .i64 my, .int .i64 mc, .int .i64 mj, .int .i64 mu]) ∧ Below w.heap.size w w' := by
  have y1 := (Below.refl w.heap.size w).alloc (Nat.le_refl _) (.cells #[.int .i64 ki, .int .i64 kp, .string kx, .bool kt, .string mn, .int .i64 my, .int .i64 mc, .int .i64 mj, .int .i64 mu] 79)
  have m1 := HeldT.new w #[.int .i64 ki, .int .i64 kp, .string kx, .bool kt, .string mn, .int .i64 my, .int .i64 mc, .int .i64 mj, .int .i64 mu] 79
  obtain ⟨u1, hu1⟩ : ∃ z, w.alloc (.cells #[.int .i64 ki, .int .i64 kp, .string kx, .bool kt, .string mn, .int .i64 my, .int .i64 mc, .int .i64 mj, .int .i64 mu] 79) = z := ⟨_, rfl⟩
  have z1 : u1.heap.size = w.heap.size + 1 := by rw [← hu1, World.size_alloc]
  rw [hu1] at y1 m1
  have y2 := (Below.refl u1.heap.size u1).alloc (Nat.le_refl _) (.cells #[.int .i64 0, .int .i64 0, .string ⟨#[]⟩, .bool false, .string ⟨#[]⟩, .int .i64 0, .int .i64 0, .int .i64 0, .int .i64 0] 84)
  have m2 := m1.below y2
  have x2 := HeldT.new u1 #[.int .i64 0, .int .i64 0, .string ⟨#[]⟩, .bool false, .string ⟨#[]⟩, .int .i64 0, .int .i64 0, .int .i64 0, .int .i64 0] 84
  obtain ⟨w1, hw1⟩ : ∃ z, u1.alloc (.cells #[.int .i64 0, .int .i64 0, .string ⟨#[]⟩, .bool false, .string ⟨#[]⟩, .int .i64 0, .int .i64 0, .int .i64 0, .int .i64 0] 84) = z := ⟨_, rfl⟩
  rw [hw1] at y2 m2 x2
  rw [z1] at x2
  have HB := Lib.hid (y1.trans (y2.mono y1.size))
  have HW0 := Lib.hid (show (w.alloc (.cells #[.int .i64 ki, .int .i64 kp, .string kx, .bool kt, .string mn, .int .i64 my, .int .i64 mc, .int .i64 mj, .int .i64 mu] 79)).alloc (.cells #[.int .i64 0, .int .i64 0, .string ⟨#[]⟩, .bool false, .string ⟨#[]⟩, .int .i64 0, .int .i64 0, .int .i64 0, .int .i64 0] 84) = w1 by rw [hu1, hw1])
  obtain ⟨gR, hgR⟩ : ∃ z, w.heap.size + 1 = z := ⟨_, rfl⟩
  obtain ⟨gA, hgA⟩ : ∃ z, w.heap.size = z := ⟨_, rfl⟩
  rw [hgA] at m2
  rw [hgR] at x2
  have HA := Lib.hid m2
  have HR := Lib.hid x2
  have HGR := Lib.hid hgR
  have HGA := Lib.hid hgA
  have HNE := Lib.hid (show gA ≠ gR by omega)
  have HLE := Lib.hid (show w.heap.size ≤ gR by omega)
  clear y1 m1 hu1 z1 y2 m2 x2 hw1 hgR hgA
  go_enter Try.func45, Try.ntmps45
  go_upto_region 1 with (fail)
  rw [HW0.out, HGR.out, HGA.out]
  clear HW0 HGR HGA
  refine wp_region_held_drew (S := (fun wx => HeldT gA [.int .i64 ki, .int .i64 kp, .string kx, .bool kt, .string mn, .int .i64 my, .int .i64 mc, .int .i64 mj, .int .i64 mu] wx)) (by kernel_rfl) (HA.out.below (Below.refl _ _).drew) (fun hHeld => ?_)
  have hb := (Below.refl w1.heap.size w1).drew
  replace HR := Lib.hid (HR.out.below hb)
  replace HB := Lib.hid (HB.out.trans (hb.mono HB.out.size))
  obtain ⟨wd, hwd⟩ : ∃ z, w1.drew = z := ⟨_, rfl⟩
  rw [hwd] at HR HB hHeld ⊢
  clear hwd hb HA
  refine wpAnyH_take (i := 0) (oi := { dst := some 3, op := Go.Op.fieldAddr 79 (Go.Operand.tmp 1) 0, type := 0, pos := "law.go:38", after := #[], guard := none }) (v := ?v0_330101) rfl (by kernel_rfl) (by kernel_rfl) (by kernel_rfl) (fun _ _ _ h => h) (Or.inl ⟨by rfl, ?y0_330101⟩) hHeld ?r0_330101
  case y0_330101 => intro w hSw; (try dsimp only at hSw); go_simp; try with_reducible rfl
  try simp only [Act.put, List.setIfInBounds_toArray, List.set_cons_zero, List.set_cons_succ]
  refine wpAnyH_take (i := 1) (oi := { dst := some 4, op := Go.Op.load 69 (Go.Operand.tmp 3), type := 69, pos := "law.go:38", after := #[{ on := 0, ground := Go.Ground.data }], guard := none }) (v := ?v1_330101) rfl (by kernel_rfl) (by kernel_rfl) (by kernel_rfl) (fun _ _ _ h => h) (Or.inl ⟨by rfl, ?y1_330101⟩) hHeld ?r1_330101
  case y1_330101 => intro w hSw; (try dsimp only at hSw); obtain ⟨s1, s2⟩ := hSw; have t0 := (s1 0 _ rfl).1; have t1 := (s1 1 _ rfl).1; have t2 := (s1 2 _ rfl).1; have t3 := (s1 3 _ rfl).1; have t4 := (s1 4 _ rfl).1; have t5 := (s1 5 _ rfl).1; have t6 := (s1 6 _ rfl).1; have t7 := (s1 7 _ rfl).1; have t8 := (s1 8 _ rfl).1; clear s1 s2; go_simp; try with_reducible rfl
  try simp only [Act.put, List.setIfInBounds_toArray, List.set_cons_zero, List.set_cons_succ]
  refine wpAnyH_take (i := 3) (oi := { dst := some 6, op := Go.Op.fieldAddr 79 (Go.Operand.tmp 1) 1, type := 0, pos := "law.go:38", after := #[], guard := none }) (v := ?v3_330101) rfl (by kernel_rfl) (by kernel_rfl) (by kernel_rfl) (fun _ _ _ h => h) (Or.inl ⟨by rfl, ?y3_330101⟩) hHeld ?r3_330101
  case y3_330101 => intro w hSw; (try dsimp only at hSw); go_simp; try with_reducible rfl
  try simp only [Act.put, List.setIfInBounds_toArray, List.set_cons_zero, List.set_cons_succ]
  refine wpAnyH_take (i := 4) (oi := { dst := some 7, op := Go.Op.load 66 (Go.Operand.tmp 6), type := 66, pos := "law.go:38", after := #[{ on := 3, ground := Go.Ground.data }], guard := none }) (v := ?v4_330101) rfl (by kernel_rfl) (by kernel_rfl) (by kernel_rfl) (fun _ _ _ h => h) (Or.inl ⟨by rfl, ?y4_330101⟩) hHeld ?r4_330101
  case y4_330101 => intro w hSw; (try dsimp only at hSw); obtain ⟨s1, s2⟩ := hSw; have t0 := (s1 0 _ rfl).1; have t1 := (s1 1 _ rfl).1; have t2 := (s1 2 _ rfl).1; have t3 := (s1 3 _ rfl).1; have t4 := (s1 4 _ rfl).1; have t5 := (s1 5 _ rfl).1; have t6 := (s1 6 _ rfl).1; have t7 := (s1 7 _ rfl).1; have t8 := (s1 8 _ rfl).1; clear s1 s2; go_simp; try with_reducible rfl
  try simp only [Act.put, List.setIfInBounds_toArray, List.set_cons_zero, List.set_cons_succ]
  refine wpAnyH_take (i := 5) (oi := { dst := some 8, op := Go.Op.fieldAddr 79 (Go.Operand.tmp 1) 2, type := 0, pos := "law.go:38", after := #[], guard := none }) (v := ?v5_330101) rfl (by kernel_rfl) (by kernel_rfl) (by kernel_rfl) (fun _ _ _ h => h) (Or.inl ⟨by rfl, ?y5_330101⟩) hHeld ?r5_330101
  case y5_330101 => intro w hSw; (try dsimp only at hSw); go_simp; try with_reducible rfl
  try simp only [Act.put, List.setIfInBounds_toArray, List.set_cons_zero, List.set_cons_succ]
  refine wpAnyH_take (i := 6) (oi := { dst := some 9, op := Go.Op.load 3 (Go.Operand.tmp 8), type := 3, pos := "law.go:38", after := #[{ on := 5, ground := Go.Ground.data }], guard := none }) (v := ?v6_330101) rfl (by kernel_rfl) (by kernel_rfl) (by kernel_rfl) (fun _ _ _ h => h) (Or.inl ⟨by rfl, ?y6_330101⟩) hHeld ?r6_330101
  case y6_330101 => intro w hSw; (try dsimp only at hSw); obtain ⟨s1, s2⟩ := hSw; have t0 := (s1 0 _ rfl).1; have t1 := (s1 1 _ rfl).1; have t2 := (s1 2 _ rfl).1; have t3 := (s1 3 _ rfl).1; have t4 := (s1 4 _ rfl).1; have t5 := (s1 5 _ rfl).1; have t6 := (s1 6 _ rfl).1; have t7 := (s1 7 _ rfl).1; have t8 := (s1 8 _ rfl).1; clear s1 s2; go_simp; try with_reducible rfl
  try simp only [Act.put, List.setIfInBounds_toArray, List.set_cons_zero, List.set_cons_succ]
  refine wpAnyH_take (i := 7) (oi := { dst := some 10, op := Go.Op.fieldAddr 79 (Go.Operand.tmp 1) 3, type := 0, pos := "law.go:38", after := #[], guard := none }) (v := ?v7_330101) rfl (by kernel_rfl) (by kernel_rfl) (by kernel_rfl) (fun _ _ _ h => h) (Or.inl ⟨by rfl, ?y7_330101⟩) hHeld ?r7_330101
  case y7_330101 => intro w hSw; (try dsimp only at hSw); go_simp; try with_reducible rfl
  try simp only [Act.put, List.setIfInBounds_toArray, List.set_cons_zero, List.set_cons_succ]
  refine wpAnyH_take (i := 8) (oi := { dst := some 11, op := Go.Op.load 3 (Go.Operand.tmp 10), type := 3, pos := "law.go:38", after := #[{ on := 7, ground := Go.Ground.data }], guard := none }) (v := ?v8_330101) rfl (by kernel_rfl) (by kernel_rfl) (by kernel_rfl) (fun _ _ _ h => h) (Or.inl ⟨by rfl, ?y8_330101⟩) hHeld ?r8_330101
  case y8_330101 => intro w hSw; (try dsimp only at hSw); obtain ⟨s1, s2⟩ := hSw; have t0 := (s1 0 _ rfl).1; have t1 := (s1 1 _ rfl).1; have t2 := (s1 2 _ rfl).1; have t3 := (s1 3 _ rfl).1; have t4 := (s1 4 _ rfl).1; have t5 := (s1 5 _ rfl).1; have t6 := (s1 6 _ rfl).1; have t7 := (s1 7 _ rfl).1; have t8 := (s1 8 _ rfl).1; clear s1 s2; go_simp; try with_reducible rfl
  try simp only [Act.put, List.setIfInBounds_toArray, List.set_cons_zero, List.set_cons_succ]
  refine wpAnyH_ready (rs := [2]) (by kernel_rfl) (by simp) ?_
  refine AllReadyH.cons (o := { dst := some 5, op := Go.Op.call { callee := Go.Callee.value (Go.Operand.func 49), args := #[Go.Operand.tmp 4], argTypes := #[69] }, type := 82, pos := "law.go:38", after := #[{ on := 1, ground := Go.Ground.data }], guard := none }) rfl (fun K hK => ?_) AllReadyH.nil
  go_simp
  refine (markD_any ki kp kx kt wd).mono ?_; rintro e we ⟨rfl, hb⟩
  have hnext := hHeld.below hb
  replace HR := Lib.hid (HR.out.below hb)
  replace HB := Lib.hid (HB.out.trans (hb.mono HB.out.size))
  clear hb
  refine hK.out _ _ (hnext) (fun hHeld2 => ?_)
  clear hK K hHeld
  have hHeld := hHeld2
  clear hHeld2
  try simp only [Act.put, List.setIfInBounds_toArray, List.set_cons_zero, List.set_cons_succ]
  refine wpAnyH_take (i := 9) (oi := { dst := some 12, op := Go.Op.build 84 #[(0, Go.Operand.tmp 5), (1, Go.Operand.tmp 7), (2, Go.Operand.tmp 9), (3, Go.Operand.tmp 11)], type := 84, pos := "law.go:38", after := #[{ on := 2, ground := Go.Ground.data }, { on := 4, ground := Go.Ground.data }, { on := 6, ground := Go.Ground.data }, { on := 8, ground := Go.Ground.data }], guard := none }) (v := ?v9_330102) rfl (by kernel_rfl) (by kernel_rfl) (by kernel_rfl) (fun _ _ _ h => h) (Or.inl ⟨by rfl, ?y9_330102⟩) hHeld ?r9_330102
  case y9_330102 => intro w hSw; (try dsimp only at hSw); go_simp; try with_reducible rfl
  try simp only [Act.put, List.setIfInBounds_toArray, List.set_cons_zero, List.set_cons_succ]
  refine wpAnyH_ready (rs := [10]) (by kernel_rfl) (by simp) ?_
  refine AllReadyH.cons (o := { dst := none, op := Go.Op.store 84 (Go.Operand.tmp 2) (Go.Operand.tmp 12), type := 0, pos := "law.go:38", after := #[{ on := 9, ground := Go.Ground.data }, { on := 2, ground := Go.Ground.chain }, { on := 0, ground := Go.Ground.phase }, { on := 1, ground := Go.Ground.phase }, { on := 2, ground := Go.Ground.phase }, { on := 3, ground := Go.Ground.phase }, { on := 4, ground := Go.Ground.phase }, { on := 5, ground := Go.Ground.phase }, { on := 6, ground := Go.Ground.phase }, { on := 7, ground := Go.Ground.phase }, { on := 8, ground := Go.Ground.phase }, { on := 9, ground := Go.Ground.phase }], guard := none }) rfl (fun K hK => ?_) AllReadyH.nil
  refine step_store_mid (by rfl) 84 (.tmp 2) (.tmp 12) (by rfl) gR 0 #[.int .i64 ki, .int .i64 kp, .string kx, .bool kt, .string mn, .int .i64 my, .int .i64 mc, .int .i64 mj, .int .i64 mu] (by rfl) (by rfl) (fun j hj => by obtain ⟨u, hu⟩ : ∃ u, ([.int .i64 0, .int .i64 0, .string ⟨#[]⟩, .bool false, .string ⟨#[]⟩, .int .i64 0, .int .i64 0, .int .i64 0, .int .i64 0] : List Value)[j]? = some u := ⟨_, List.getElem?_eq_getElem (show j < List.length [.int .i64 0, .int .i64 0, .string ⟨#[]⟩, .bool false, .string ⟨#[]⟩, .int .i64 0, .int .i64 0, .int .i64 0, .int .i64 0] from hj)⟩; obtain ⟨h1, h2⟩ := HR.out.1 j u hu; rw [Nat.zero_add]; exact ⟨by rw [h1]; rfl, h2⟩) (by kernel_rfl) (all_oneCell_toArray (encW_one ⟨⟨ki, kp, kx, kt⟩, ⟨mn, my, mc⟩, mj, mu⟩)) ?_
  simp only [Act.put]
  have HBX := Lib.hid (show HeldT gR [.int .i64 ki, .int .i64 kp, .string kx, .bool kt, .string mn, .int .i64 my, .int .i64 mc, .int .i64 mj, .int .i64 mu] (we.setCells gR 0 [.int .i64 ki, .int .i64 kp, .string kx, .bool kt, .string mn, .int .i64 my, .int .i64 mc, .int .i64 mj, .int .i64 mu]) from HR.out.into rfl)
  have HB9 := Lib.hid (tb_sets HB.out HLE.out 0 [.int .i64 ki, .int .i64 kp, .string kx, .bool kt, .string mn, .int .i64 my, .int .i64 mc, .int .i64 mj, .int .i64 mu])
  have hfr := (Frm.refl we [gR]).sets gR 0 (Or.inl (by simp)) [.int .i64 ki, .int .i64 kp, .string kx, .bool kt, .string mn, .int .i64 my, .int .i64 mc, .int .i64 mj, .int .i64 mu]
  have hnext := hHeld.frm hfr (by simp; have := HNE.out; omega)
  obtain ⟨wh, hwh⟩ : ∃ z, we.setCells gR 0 [.int .i64 ki, .int .i64 kp, .string kx, .bool kt, .string mn, .int .i64 my, .int .i64 mc, .int .i64 mj, .int .i64 mu] = z := ⟨_, rfl⟩
  rw [hwh] at HBX HB9 hnext
  rw [show we.setCells gR 0 (#[.int .i64 ki, .int .i64 kp, .string kx, .bool kt, .string mn, .int .i64 my, .int .i64 mc, .int .i64 mj, .int .i64 mu] : Array Value).toList = wh from hwh]
  clear hwh hfr
  refine hK.out _ _ (hnext) (fun hHeld2 => ?_)
  clear hK K hHeld
  have hHeld := hHeld2
  clear hHeld2
  try simp only [Act.put, List.setIfInBounds_toArray, List.set_cons_zero, List.set_cons_succ]
  refine wpAnyH_done (by kernel_rfl) ?_ _
  go_wp2
  refine bodyPost_ret (v := .agg ([.int .i64 ki, .int .i64 kp, .string kx, .bool kt, .string mn, .int .i64 my, .int .i64 mc, .int .i64 mj, .int .i64 mu] : List Value).toArray) ?_ rfl ⟨rfl, HB9.out⟩
  rw [results_cell1 Try.results45]
  have hr := run_loadVar_mid (P := Try.prog) _ gR 0 84 [.int .i64 ki, .int .i64 kp, .string kx, .bool kt, .string mn, .int .i64 my, .int .i64 mc, .int .i64 mj, .int .i64 mu] _ (fun j v hj => by rw [Nat.zero_add]; exact (HBX.out.1 j v hj).1) Try.underlying84 rfl (by kernel_rfl)
  show ((asAddr (.pointer (some ⟨gR, 0, none⟩))).run Try.prog _).andThen _ = _
  simp [asAddr, hr]
end Go.Proofs.Ytocfphijheidbaa
