/- Texts that others rest on, one behind the other: TcF, TcG, TcH, Ld1. -/
import Derived.Test.YtocfphijheidbaaMgY
import Derived.Test.YtocfphijheidbaaMgX
import Derived.Test.YtocfphijheidbaaMgV
section
namespace Go.Proofs.Ytocfphijheidbaa
open Go.RowKit

set_option maxRecDepth 100000 in
set_option maxHeartbeats 4000000 in
theorem head_any (mi mo mr : Int) (b1 b2 b3 b4 b5 : Bool) (w : World) :
    Calls Try.prog 85 #[.agg #[.int .i64 mi, .int .i64 mo, .int .i64 mr, .bool b1, .bool b2, .bool b3, .bool b4, .bool b5]] w fun e w' => e = .returned (.agg #[.int .i64 mi, .int .i64 mo, .int .i64 mr, .bool b1, .bool b2, .bool b3, .bool b4, .bool b5]) ∧ Below w.heap.size w w' := by
  go_enter Try.func85, Try.ntmps85
  go_wp2
  refine bodyPost_ret (v := .agg #[.int .i64 mi, .int .i64 mo, .int .i64 mr, .bool b1, .bool b2, .bool b3, .bool b4, .bool b5]) (by simp [results, Try.results85, go_sem]) rfl ⟨rfl, ?_⟩
  repeat (first | exact Below.refl _ _ | refine Below.alloc ?_ (by simp) _ | refine Below.setCell ?_ (by simp) _)
set_option maxRecDepth 100000 in
set_option maxHeartbeats 8000000 in
theorem plainD_any (mi mo mr : Int) (b1 b2 b3 b4 b5 : Bool) (qa na sa xa : Option Addr) (ql qc nl nc sl sc xl xc : Nat) (w : World) :
    Calls Try.prog 50 #[.agg #[.int .i64 mi, .int .i64 mo, .int .i64 mr, .bool b1, .bool b2, .bool b3, .bool b4, .bool b5, .slice qa ql qc, .slice na nl nc, .slice sa sl sc, .slice xa xl xc]] w fun e w' => e = .returned (.agg #[.int .i64 mi, .int .i64 mo, .int .i64 mr, .bool b1, .bool b2, .bool b3, .bool b4, .bool b5, .slice qa ql qc, .slice na nl nc, .slice sa sl sc, .slice xa xl xc]) ∧ Below w.heap.size w w' := by
  have y1 := (Below.refl w.heap.size w).alloc (Nat.le_refl _) (.cells #[.int .i64 mi, .int .i64 mo, .int .i64 mr, .bool b1, .bool b2, .bool b3, .bool b4, .bool b5, .slice qa ql qc, .slice na nl nc, .slice sa sl sc, .slice xa xl xc] 75)
  have m1 := HeldT.new w #[.int .i64 mi, .int .i64 mo, .int .i64 mr, .bool b1, .bool b2, .bool b3, .bool b4, .bool b5, .slice qa ql qc, .slice na nl nc, .slice sa sl sc, .slice xa xl xc] 75
  obtain ⟨u1, hu1⟩ : ∃ z, w.alloc (.cells #[.int .i64 mi, .int .i64 mo, .int .i64 mr, .bool b1, .bool b2, .bool b3, .bool b4, .bool b5, .slice qa ql qc, .slice na nl nc, .slice sa sl sc, .slice xa xl xc] 75) = z := ⟨_, rfl⟩
  have z1 : u1.heap.size = w.heap.size + 1 := by rw [← hu1, World.size_alloc]
  rw [hu1] at y1 m1
  have y2 := (Below.refl u1.heap.size u1).alloc (Nat.le_refl _) (.cells #[.int .i64 0, .int .i64 0, .int .i64 0, .bool false, .bool false, .bool false, .bool false, .bool false, .slice none 0 0, .slice none 0 0, .slice none 0 0, .slice none 0 0] 99)
  have m2 := m1.below y2
  have x2 := HeldT.new u1 #[.int .i64 0, .int .i64 0, .int .i64 0, .bool false, .bool false, .bool false, .bool false, .bool false, .slice none 0 0, .slice none 0 0, .slice none 0 0, .slice none 0 0] 99
  obtain ⟨w1, hw1⟩ : ∃ z, u1.alloc (.cells #[.int .i64 0, .int .i64 0, .int .i64 0, .bool false, .bool false, .bool false, .bool false, .bool false, .slice none 0 0, .slice none 0 0, .slice none 0 0, .slice none 0 0] 99) = z := ⟨_, rfl⟩
  rw [hw1] at y2 m2 x2
  rw [z1] at x2
  have HB := Lib.hid (y1.trans (y2.mono y1.size))
  have HW0 := Lib.hid (show (w.alloc (.cells #[.int .i64 mi, .int .i64 mo, .int .i64 mr, .bool b1, .bool b2, .bool b3, .bool b4, .bool b5, .slice qa ql qc, .slice na nl nc, .slice sa sl sc, .slice xa xl xc] 75)).alloc (.cells #[.int .i64 0, .int .i64 0, .int .i64 0, .bool false, .bool false, .bool false, .bool false, .bool false, .slice none 0 0, .slice none 0 0, .slice none 0 0, .slice none 0 0] 99) = w1 by rw [hu1, hw1])
  obtain ⟨gR, hgR⟩ : ∃ z, w.heap.size + 1 = z := ⟨_, rfl⟩
  obtain ⟨gA, hgA⟩ : ∃ z, w.heap.size = z := ⟨_, rfl⟩
  rw [hgA] at m2
  rw [hgR] at x2
  have HA := Lib.hid m2
  have HR := Lib.hid x2
  have HGR := Lib.hid hgR
  have HGA := Lib.hid hgA
  have HNE := Lib.hid (show gA ≠ gR by omega)
  have HLE := Lib.hid (show w.heap.size ≤ gR by omega)
  clear y1 m1 hu1 z1 y2 m2 x2 hw1 hgR hgA
  go_enter Try.func50, Try.ntmps50
  go_upto_region 1 with (fail)
  rw [HW0.out, HGR.out, HGA.out]
  clear HW0 HGR HGA
  have HON := Lib.hid (show ∀ u ∈ ([.int .i64 mi, .int .i64 mo, .int .i64 mr, .bool b1, .bool b2, .bool b3, .bool b4, .bool b5, .slice qa ql qc, .slice na nl nc, .slice sa sl sc, .slice xa xl xc] : List Value), u.oneCell' = true from by simp [Value.oneCell'])
  refine wp_region_held_drew (S := (fun wx => HeldT gA [.int .i64 mi, .int .i64 mo, .int .i64 mr, .bool b1, .bool b2, .bool b3, .bool b4, .bool b5, .slice qa ql qc, .slice na nl nc, .slice sa sl sc, .slice xa xl xc] wx)) (by kernel_rfl) (HA.out.below (Below.refl _ _).drew) (fun hHeld => ?_)
  have hb := (Below.refl w1.heap.size w1).drew
  replace HR := Lib.hid (HR.out.below hb)
  replace HB := Lib.hid (HB.out.trans (hb.mono HB.out.size))
  obtain ⟨wd, hwd⟩ : ∃ z, w1.drew = z := ⟨_, rfl⟩
  rw [hwd] at HR HB hHeld ⊢
  clear hwd hb HA
  refine wpAnyH_take (i := 0) (oi := { dst := some 3, op := Go.Op.fieldAddr 75 (Go.Operand.tmp 1) 0, type := 0, pos := "law.go:17", after := #[], guard := none }) (v := ?v0_650101) rfl (by kernel_rfl) (by kernel_rfl) (by kernel_rfl) (fun _ _ _ h => h) (Or.inl ⟨by rfl, ?y0_650101⟩) hHeld ?r0_650101
  case y0_650101 => intro w hSw; (try dsimp only at hSw); go_simp; try with_reducible rfl
  try simp only [Act.put, List.setIfInBounds_toArray, List.set_cons_zero, List.set_cons_succ]
  refine wpAnyH_take (i := 1) (oi := { dst := some 4, op := Go.Op.load 71 (Go.Operand.tmp 3), type := 71, pos := "law.go:17", after := #[{ on := 0, ground := Go.Ground.data }], guard := none }) (v := ?v1_650101) rfl (by kernel_rfl) (by kernel_rfl) (by kernel_rfl) (fun _ _ _ h => h) (Or.inl ⟨by rfl, ?y1_650101⟩) hHeld ?r1_650101
  case y1_650101 => intro w hSw; (try dsimp only at hSw); obtain ⟨s1, s2⟩ := hSw; have t0 := (s1 0 _ rfl).1; have t1 := (s1 1 _ rfl).1; have t2 := (s1 2 _ rfl).1; have t3 := (s1 3 _ rfl).1; have t4 := (s1 4 _ rfl).1; have t5 := (s1 5 _ rfl).1; have t6 := (s1 6 _ rfl).1; have t7 := (s1 7 _ rfl).1; have t8 := (s1 8 _ rfl).1; have t9 := (s1 9 _ rfl).1; have t10 := (s1 10 _ rfl).1; have t11 := (s1 11 _ rfl).1; clear s1 s2; go_simp; try with_reducible rfl
  try simp only [Act.put, List.setIfInBounds_toArray, List.set_cons_zero, List.set_cons_succ]
  refine wpAnyH_take (i := 3) (oi := { dst := some 6, op := Go.Op.fieldAddr 75 (Go.Operand.tmp 1) 1, type := 0, pos := "law.go:17", after := #[], guard := none }) (v := ?v3_650101) rfl (by kernel_rfl) (by kernel_rfl) (by kernel_rfl) (fun _ _ _ h => h) (Or.inl ⟨by rfl, ?y3_650101⟩) hHeld ?r3_650101
  case y3_650101 => intro w hSw; (try dsimp only at hSw); go_simp; try with_reducible rfl
  try simp only [Act.put, List.setIfInBounds_toArray, List.set_cons_zero, List.set_cons_succ]
  refine wpAnyH_take (i := 4) (oi := { dst := some 7, op := Go.Op.load 72 (Go.Operand.tmp 6), type := 72, pos := "law.go:17", after := #[{ on := 3, ground := Go.Ground.data }], guard := none }) (v := ?v4_650101) rfl (by kernel_rfl) (by kernel_rfl) (by kernel_rfl) (fun _ _ _ h => h) (Or.inl ⟨by rfl, ?y4_650101⟩) hHeld ?r4_650101
  case y4_650101 => intro w hSw; (try dsimp only at hSw); obtain ⟨s1, s2⟩ := hSw; have t0 := (s1 0 _ rfl).1; have t1 := (s1 1 _ rfl).1; have t2 := (s1 2 _ rfl).1; have t3 := (s1 3 _ rfl).1; have t4 := (s1 4 _ rfl).1; have t5 := (s1 5 _ rfl).1; have t6 := (s1 6 _ rfl).1; have t7 := (s1 7 _ rfl).1; have t8 := (s1 8 _ rfl).1; have t9 := (s1 9 _ rfl).1; have t10 := (s1 10 _ rfl).1; have t11 := (s1 11 _ rfl).1; clear s1 s2; go_simp; try with_reducible rfl
  try simp only [Act.put, List.setIfInBounds_toArray, List.set_cons_zero, List.set_cons_succ]
  refine wpAnyH_take (i := 5) (oi := { dst := some 8, op := Go.Op.fieldAddr 75 (Go.Operand.tmp 1) 2, type := 0, pos := "law.go:17", after := #[], guard := none }) (v := ?v5_650101) rfl (by kernel_rfl) (by kernel_rfl) (by kernel_rfl) (fun _ _ _ h => h) (Or.inl ⟨by rfl, ?y5_650101⟩) hHeld ?r5_650101
  case y5_650101 => intro w hSw; (try dsimp only at hSw); go_simp; try with_reducible rfl
  try simp only [Act.put, List.setIfInBounds_toArray, List.set_cons_zero, List.set_cons_succ]
  refine wpAnyH_take (i := 6) (oi := { dst := some 9, op := Go.Op.load 73 (Go.Operand.tmp 8), type := 73, pos := "law.go:17", after := #[{ on := 5, ground := Go.Ground.data }], guard := none }) (v := ?v6_650101) rfl (by kernel_rfl) (by kernel_rfl) (by kernel_rfl) (fun _ _ _ h => h) (Or.inl ⟨by rfl, ?y6_650101⟩) hHeld ?r6_650101
  case y6_650101 => intro w hSw; (try dsimp only at hSw); obtain ⟨s1, s2⟩ := hSw; have t0 := (s1 0 _ rfl).1; have t1 := (s1 1 _ rfl).1; have t2 := (s1 2 _ rfl).1; have t3 := (s1 3 _ rfl).1; have t4 := (s1 4 _ rfl).1; have t5 := (s1 5 _ rfl).1; have t6 := (s1 6 _ rfl).1; have t7 := (s1 7 _ rfl).1; have t8 := (s1 8 _ rfl).1; have t9 := (s1 9 _ rfl).1; have t10 := (s1 10 _ rfl).1; have t11 := (s1 11 _ rfl).1; clear s1 s2; go_simp; try with_reducible rfl
  try simp only [Act.put, List.setIfInBounds_toArray, List.set_cons_zero, List.set_cons_succ]
  refine wpAnyH_take (i := 7) (oi := { dst := some 10, op := Go.Op.fieldAddr 75 (Go.Operand.tmp 1) 3, type := 0, pos := "law.go:17", after := #[], guard := none }) (v := ?v7_650101) rfl (by kernel_rfl) (by kernel_rfl) (by kernel_rfl) (fun _ _ _ h => h) (Or.inl ⟨by rfl, ?y7_650101⟩) hHeld ?r7_650101
  case y7_650101 => intro w hSw; (try dsimp only at hSw); go_simp; try with_reducible rfl
  try simp only [Act.put, List.setIfInBounds_toArray, List.set_cons_zero, List.set_cons_succ]
  refine wpAnyH_take (i := 8) (oi := { dst := some 11, op := Go.Op.load 73 (Go.Operand.tmp 10), type := 73, pos := "law.go:17", after := #[{ on := 7, ground := Go.Ground.data }], guard := none }) (v := ?v8_650101) rfl (by kernel_rfl) (by kernel_rfl) (by kernel_rfl) (fun _ _ _ h => h) (Or.inl ⟨by rfl, ?y8_650101⟩) hHeld ?r8_650101
  case y8_650101 => intro w hSw; (try dsimp only at hSw); obtain ⟨s1, s2⟩ := hSw; have t0 := (s1 0 _ rfl).1; have t1 := (s1 1 _ rfl).1; have t2 := (s1 2 _ rfl).1; have t3 := (s1 3 _ rfl).1; have t4 := (s1 4 _ rfl).1; have t5 := (s1 5 _ rfl).1; have t6 := (s1 6 _ rfl).1; have t7 := (s1 7 _ rfl).1; have t8 := (s1 8 _ rfl).1; have t9 := (s1 9 _ rfl).1; have t10 := (s1 10 _ rfl).1; have t11 := (s1 11 _ rfl).1; clear s1 s2; go_simp; try with_reducible rfl
  try simp only [Act.put, List.setIfInBounds_toArray, List.set_cons_zero, List.set_cons_succ]
  refine wpAnyH_take (i := 9) (oi := { dst := some 12, op := Go.Op.fieldAddr 75 (Go.Operand.tmp 1) 4, type := 0, pos := "law.go:17", after := #[], guard := none }) (v := ?v9_650101) rfl (by kernel_rfl) (by kernel_rfl) (by kernel_rfl) (fun _ _ _ h => h) (Or.inl ⟨by rfl, ?y9_650101⟩) hHeld ?r9_650101
  case y9_650101 => intro w hSw; (try dsimp only at hSw); go_simp; try with_reducible rfl
  try simp only [Act.put, List.setIfInBounds_toArray, List.set_cons_zero, List.set_cons_succ]
  refine wpAnyH_take (i := 10) (oi := { dst := some 13, op := Go.Op.load 73 (Go.Operand.tmp 12), type := 73, pos := "law.go:17", after := #[{ on := 9, ground := Go.Ground.data }], guard := none }) (v := ?v10_650101) rfl (by kernel_rfl) (by kernel_rfl) (by kernel_rfl) (fun _ _ _ h => h) (Or.inl ⟨by rfl, ?y10_650101⟩) hHeld ?r10_650101
  case y10_650101 => intro w hSw; (try dsimp only at hSw); obtain ⟨s1, s2⟩ := hSw; have t0 := (s1 0 _ rfl).1; have t1 := (s1 1 _ rfl).1; have t2 := (s1 2 _ rfl).1; have t3 := (s1 3 _ rfl).1; have t4 := (s1 4 _ rfl).1; have t5 := (s1 5 _ rfl).1; have t6 := (s1 6 _ rfl).1; have t7 := (s1 7 _ rfl).1; have t8 := (s1 8 _ rfl).1; have t9 := (s1 9 _ rfl).1; have t10 := (s1 10 _ rfl).1; have t11 := (s1 11 _ rfl).1; clear s1 s2; go_simp; try with_reducible rfl
  try simp only [Act.put, List.setIfInBounds_toArray, List.set_cons_zero, List.set_cons_succ]
  refine wpAnyH_ready (rs := [2]) (by kernel_rfl) (by simp) ?_
  refine AllReadyH.cons (o := { dst := some 5, op := Go.Op.call { callee := Go.Callee.value (Go.Operand.func 85), args := #[Go.Operand.tmp 4], argTypes := #[71] }, type := 97, pos := "law.go:17", after := #[{ on := 1, ground := Go.Ground.data }], guard := none }) rfl (fun K hK => ?_) AllReadyH.nil
  go_simp
  refine (head_any mi mo mr b1 b2 b3 b4 b5 wd).mono ?_; rintro e we ⟨rfl, hb⟩
  have hnext := hHeld.below hb
  replace HR := Lib.hid (HR.out.below hb)
  replace HB := Lib.hid (HB.out.trans (hb.mono HB.out.size))
  clear hb
  refine hK.out _ _ (hnext) (fun hHeld2 => ?_)
  clear hK K hHeld
  have hHeld := hHeld2
  clear hHeld2
  try simp only [Act.put, List.setIfInBounds_toArray, List.set_cons_zero, List.set_cons_succ]
  refine wpAnyH_take (i := 11) (oi := { dst := some 14, op := Go.Op.build 99 #[(0, Go.Operand.tmp 5), (1, Go.Operand.tmp 7), (2, Go.Operand.tmp 9), (3, Go.Operand.tmp 11), (4, Go.Operand.tmp 13)], type := 99, pos := "law.go:17", after := #[{ on := 2, ground := Go.Ground.data }, { on := 4, ground := Go.Ground.data }, { on := 6, ground := Go.Ground.data }, { on := 8, ground := Go.Ground.data }, { on := 10, ground := Go.Ground.data }], guard := none }) (v := ?v11_650102) rfl (by kernel_rfl) (by kernel_rfl) (by kernel_rfl) (fun _ _ _ h => h) (Or.inl ⟨by rfl, ?y11_650102⟩) hHeld ?r11_650102
  case y11_650102 => intro w hSw; (try dsimp only at hSw); go_simp; try with_reducible rfl
  try simp only [Act.put, List.setIfInBounds_toArray, List.set_cons_zero, List.set_cons_succ]
  refine wpAnyH_ready (rs := [12]) (by kernel_rfl) (by simp) ?_
  refine AllReadyH.cons (o := { dst := none, op := Go.Op.store 99 (Go.Operand.tmp 2) (Go.Operand.tmp 14), type := 0, pos := "law.go:17", after := #[{ on := 11, ground := Go.Ground.data }, { on := 2, ground := Go.Ground.chain }, { on := 0, ground := Go.Ground.phase }, { on := 1, ground := Go.Ground.phase }, { on := 2, ground := Go.Ground.phase }, { on := 3, ground := Go.Ground.phase }, { on := 4, ground := Go.Ground.phase }, { on := 5, ground := Go.Ground.phase }, { on := 6, ground := Go.Ground.phase }, { on := 7, ground := Go.Ground.phase }, { on := 8, ground := Go.Ground.phase }, { on := 9, ground := Go.Ground.phase }, { on := 10, ground := Go.Ground.phase }, { on := 11, ground := Go.Ground.phase }], guard := none }) rfl (fun K hK => ?_) AllReadyH.nil
  refine step_store_mid (by rfl) 99 (.tmp 2) (.tmp 14) (by rfl) gR 0 #[.int .i64 mi, .int .i64 mo, .int .i64 mr, .bool b1, .bool b2, .bool b3, .bool b4, .bool b5, .slice qa ql qc, .slice na nl nc, .slice sa sl sc, .slice xa xl xc] (by rfl) (by rfl) (fun j hj => by obtain ⟨u, hu⟩ : ∃ u, ([.int .i64 0, .int .i64 0, .int .i64 0, .bool false, .bool false, .bool false, .bool false, .bool false, .slice none 0 0, .slice none 0 0, .slice none 0 0, .slice none 0 0] : List Value)[j]? = some u := ⟨_, List.getElem?_eq_getElem (show j < List.length [.int .i64 0, .int .i64 0, .int .i64 0, .bool false, .bool false, .bool false, .bool false, .bool false, .slice none 0 0, .slice none 0 0, .slice none 0 0, .slice none 0 0] from hj)⟩; obtain ⟨h1, h2⟩ := HR.out.1 j u hu; rw [Nat.zero_add]; exact ⟨by rw [h1]; rfl, h2⟩) (by kernel_rfl) (all_oneCell_toArray HON.out) ?_
  simp only [Act.put]
  have HBX := Lib.hid (show HeldT gR [.int .i64 mi, .int .i64 mo, .int .i64 mr, .bool b1, .bool b2, .bool b3, .bool b4, .bool b5, .slice qa ql qc, .slice na nl nc, .slice sa sl sc, .slice xa xl xc] (we.setCells gR 0 [.int .i64 mi, .int .i64 mo, .int .i64 mr, .bool b1, .bool b2, .bool b3, .bool b4, .bool b5, .slice qa ql qc, .slice na nl nc, .slice sa sl sc, .slice xa xl xc]) from HR.out.into rfl)
  have HB9 := Lib.hid (tb_sets HB.out HLE.out 0 [.int .i64 mi, .int .i64 mo, .int .i64 mr, .bool b1, .bool b2, .bool b3, .bool b4, .bool b5, .slice qa ql qc, .slice na nl nc, .slice sa sl sc, .slice xa xl xc])
  have hfr := (Frm.refl we [gR]).sets gR 0 (Or.inl (by simp)) [.int .i64 mi, .int .i64 mo, .int .i64 mr, .bool b1, .bool b2, .bool b3, .bool b4, .bool b5, .slice qa ql qc, .slice na nl nc, .slice sa sl sc, .slice xa xl xc]
  have hnext := hHeld.frm hfr (by simp; have := HNE.out; omega)
  obtain ⟨wh, hwh⟩ : ∃ z, we.setCells gR 0 [.int .i64 mi, .int .i64 mo, .int .i64 mr, .bool b1, .bool b2, .bool b3, .bool b4, .bool b5, .slice qa ql qc, .slice na nl nc, .slice sa sl sc, .slice xa xl xc] = z := ⟨_, rfl⟩
  rw [hwh] at HBX HB9 hnext
  rw [show we.setCells gR 0 (#[.int .i64 mi, .int .i64 mo, .int .i64 mr, .bool b1, .bool b2, .bool b3, .bool b4, .bool b5, .slice qa ql qc, .slice na nl nc, .slice sa sl sc, .slice xa xl xc] : Array Value).toList = wh from hwh]
  clear hwh hfr
  refine hK.out _ _ (hnext) (fun hHeld2 => ?_)
  clear hK K hHeld
  have hHeld := hHeld2
  clear hHeld2
  try simp only [Act.put, List.setIfInBounds_toArray, List.set_cons_zero, List.set_cons_succ]
  refine wpAnyH_done (by kernel_rfl) ?_ _
  go_wp2
  refine bodyPost_ret (v := .agg ([.int .i64 mi, .int .i64 mo, .int .i64 mr, .bool b1, .bool b2, .bool b3, .bool b4, .bool b5, .slice qa ql qc, .slice na nl nc, .slice sa sl sc, .slice xa xl xc] : List Value).toArray) ?_ rfl ⟨rfl, HB9.out⟩
  rw [results_cell1 Try.results50]
  have hr := run_loadVar_mid (P := Try.prog) _ gR 0 99 [.int .i64 mi, .int .i64 mo, .int .i64 mr, .bool b1, .bool b2, .bool b3, .bool b4, .bool b5, .slice qa ql qc, .slice na nl nc, .slice sa sl sc, .slice xa xl xc] _ (fun j v hj => by rw [Nat.zero_add]; exact (HBX.out.1 j v hj).1) Try.underlying99 rfl (by kernel_rfl)
  show ((asAddr (.pointer (some ⟨gR, 0, none⟩))).run Try.prog _).andThen _ = _
  simp [asAddr, hr]
set_option maxRecDepth 100000 in
set_option maxHeartbeats 8000000 in
theorem answer0_any (ki kp : Int) (kx : ByteArray) (kt : Bool) (mn : ByteArray) (my mc mj mu : Int) (n : Int) (w : World) (hk : ¬ (1 ≤ n ∧ n ≤ 4)) :
    Calls Try.prog 46 #[.agg #[.int .i64 ki, .int .i64 kp, .string kx, .bool kt, .string mn, .int .i64 my, .int .i64 mc, .int .i64 mj, .int .i64 mu], .int .i64 n] w fun e w' => ∃ gQ, e = .returned (.agg #[.int .i64 ki, .int .i64 0, .int .i64 0, .bool true, .bool false, .bool false, .bool false, .bool false, .slice (some ⟨gQ, 0, none⟩) 1 1, .slice none 0 0, .slice none 0 0, .slice none 0 0]) ∧ RowQs w' (some ⟨gQ, 0, none⟩) 1 [⟨mn, my, mc⟩] ∧ Below w.heap.size w w' := by
  have HK := Lib.hid hk
  have y1 := (Below.refl w.heap.size w).alloc (Nat.le_refl _) (.cells #[.int .i64 ki, .int .i64 kp, .string kx, .bool kt, .string mn, .int .i64 my, .int .i64 mc, .int .i64 mj, .int .i64 mu] 84)
  have m1 := HeldT.new w #[.int .i64 ki, .int .i64 kp, .string kx, .bool kt, .string mn, .int .i64 my, .int .i64 mc, .int .i64 mj, .int .i64 mu] 84
  obtain ⟨u1, hu1⟩ : ∃ z, w.alloc (.cells #[.int .i64 ki, .int .i64 kp, .string kx, .bool kt, .string mn, .int .i64 my, .int .i64 mc, .int .i64 mj, .int .i64 mu] 84) = z := ⟨_, rfl⟩
  have z1 : u1.heap.size = w.heap.size + 1 := by rw [← hu1, World.size_alloc]
  rw [hu1] at y1 m1
  have y2 := (Below.refl u1.heap.size u1).alloc (Nat.le_refl _) (.cells #[.int .i64 0, .int .i64 0, .int .i64 0, .bool false, .bool false, .bool false, .bool false, .bool false, .slice none 0 0, .slice none 0 0, .slice none 0 0, .slice none 0 0] 75)
  have m2 := m1.below y2
  have x2 := HeldT.new u1 #[.int .i64 0, .int .i64 0, .int .i64 0, .bool false, .bool false, .bool false, .bool false, .bool false, .slice none 0 0, .slice none 0 0, .slice none 0 0, .slice none 0 0] 75
  obtain ⟨w1, hw1⟩ : ∃ z, u1.alloc (.cells #[.int .i64 0, .int .i64 0, .int .i64 0, .bool false, .bool false, .bool false, .bool false, .bool false, .slice none 0 0, .slice none 0 0, .slice none 0 0, .slice none 0 0] 75) = z := ⟨_, rfl⟩
  have z2 : w1.heap.size = w.heap.size + 2 := by rw [← hw1, World.size_alloc, z1]
  rw [hw1] at y2 m2 x2
  rw [z1] at x2
  have HB := Lib.hid (y1.trans (y2.mono y1.size))
  have HW0 := Lib.hid (show (w.alloc (.cells #[.int .i64 ki, .int .i64 kp, .string kx, .bool kt, .string mn, .int .i64 my, .int .i64 mc, .int .i64 mj, .int .i64 mu] 84)).alloc (.cells #[.int .i64 0, .int .i64 0, .int .i64 0, .bool false, .bool false, .bool false, .bool false, .bool false, .slice none 0 0, .slice none 0 0, .slice none 0 0, .slice none 0 0] 75) = w1 by rw [hu1, hw1])
  obtain ⟨gR, hgR⟩ : ∃ z, w.heap.size + 1 = z := ⟨_, rfl⟩
  obtain ⟨gA, hgA⟩ : ∃ z, w.heap.size = z := ⟨_, rfl⟩
  rw [hgA] at m2
  rw [hgR] at x2
  have HA := Lib.hid m2
  have HR := Lib.hid x2
  have HGR := Lib.hid hgR
  have HGA := Lib.hid hgA
  have HS := Lib.hid (show w.heap.size ≤ gR ∧ gR < w1.heap.size ∧ w.heap.size ≤ w1.heap.size by omega)
  clear y1 m1 hu1 z1 y2 m2 x2 hw1 hgR hgA z2 hk
  go_enter Try.func46, Try.ntmps46
  go_upto_region 1 with (fail)
  rw [HW0.out, HGR.out, HGA.out]
  clear HW0 HGR HGA
  have a0 := (HA.out.1 0 _ rfl).1
  have a4 := (HA.out.1 4 _ rfl).1
  have a5 := (HA.out.1 5 _ rfl).1
  have a6 := (HA.out.1 6 _ rfl).1
  have v1 := (Below.refl w1.heap.size w1).alloc (Nat.le_refl _) (.cells #[.string mn, .int .i64 my, .int .i64 mc] 66)
  have q1 := HeldT.new w1 #[.string mn, .int .i64 my, .int .i64 mc] 66
  obtain ⟨u1, hu1⟩ : ∃ z, w1.alloc (.cells #[.string mn, .int .i64 my, .int .i64 mc] 66) = z := ⟨_, rfl⟩
  have z1 : u1.heap.size = w1.heap.size + 1 := by rw [← hu1, World.size_alloc]
  rw [hu1] at v1 q1
  have v2 := (Below.refl u1.heap.size u1).alloc (Nat.le_refl _) (.cells #[.int .i64 0, .int .i64 0, .int .i64 0, .bool false, .bool false, .bool false, .bool false, .bool false, .slice none 0 0, .slice none 0 0, .slice none 0 0, .slice none 0 0] 75)
  have q2 := q1.below v2
  have p2 := HeldT.new u1 #[.int .i64 0, .int .i64 0, .int .i64 0, .bool false, .bool false, .bool false, .bool false, .bool false, .slice none 0 0, .slice none 0 0, .slice none 0 0, .slice none 0 0] 75
  obtain ⟨u2, hu2⟩ : ∃ z, u1.alloc (.cells #[.int .i64 0, .int .i64 0, .int .i64 0, .bool false, .bool false, .bool false, .bool false, .bool false, .slice none 0 0, .slice none 0 0, .slice none 0 0, .slice none 0 0] 75) = z := ⟨_, rfl⟩
  rw [hu2] at v2 q2 p2
  rw [z1] at p2
  have hb := v1.trans (v2.mono v1.size)
  replace HR := Lib.hid (HR.out.below hb)
  replace HB := Lib.hid (HB.out.trans (hb.mono HB.out.size))
  have HTH := Lib.hid (show ((w1.alloc (.cells #[.string mn, .int .i64 my, .int .i64 mc] 66)).alloc (.cells #[.int .i64 0, .int .i64 0, .int .i64 0, .bool false, .bool false, .bool false, .bool false, .bool false, .slice none 0 0, .slice none 0 0, .slice none 0 0, .slice none 0 0] 75)).there (w1.heap.size + 1) 0 ([.int .i64 ki, .int .i64 0, .int .i64 0, .bool true, .bool false, .bool false, .bool false, .bool false, .slice (some ⟨w1.heap.size, 0, none⟩) 1 1, .slice none 0 0, .slice none 0 0, .slice none 0 0] : List Value).toArray.size from by
    rw [hu1, hu2]
    intro j hj
    rw [Nat.zero_add]
    have hj9 : j < ([.int .i64 0, .int .i64 0, .int .i64 0, .bool false, .bool false, .bool false, .bool false, .bool false, .slice none 0 0, .slice none 0 0, .slice none 0 0, .slice none 0 0] : List Value).length := hj
    obtain ⟨u, hu⟩ : ∃ u, ([.int .i64 0, .int .i64 0, .int .i64 0, .bool false, .bool false, .bool false, .bool false, .bool false, .slice none 0 0, .slice none 0 0, .slice none 0 0, .slice none 0 0] : List Value)[j]? = some u := ⟨_, List.getElem?_eq_getElem hj9⟩
    obtain ⟨h1, h2⟩ := p2.1 j u hu
    exact ⟨by rw [h1]; rfl, h2⟩)
  have HM := Lib.hid (show HeldT (w1.heap.size + 1) [.int .i64 ki, .int .i64 0, .int .i64 0, .bool true, .bool false, .bool false, .bool false, .bool false, .slice (some ⟨w1.heap.size, 0, none⟩) 1 1, .slice none 0 0, .slice none 0 0, .slice none 0 0] (u2.setCells (w1.heap.size + 1) 0 [.int .i64 ki, .int .i64 0, .int .i64 0, .bool true, .bool false, .bool false, .bool false, .bool false, .slice (some ⟨w1.heap.size, 0, none⟩) 1 1, .slice none 0 0, .slice none 0 0, .slice none 0 0]) from p2.into rfl)
  have HS2 := Lib.hid (show w1.heap.size + 2 ≤ u2.heap.size from by have := p2.2; omega)
  have hfr := (Frm.refl u2 [w1.heap.size + 1]).sets (w1.heap.size + 1) 0 (Or.inl (by simp)) [.int .i64 ki, .int .i64 0, .int .i64 0, .bool true, .bool false, .bool false, .bool false, .bool false, .slice (some ⟨w1.heap.size, 0, none⟩) 1 1, .slice none 0 0, .slice none 0 0, .slice none 0 0]
  have HQ := Lib.hid (q2.frm hfr (by simp))
  replace HR := Lib.hid (HR.out.frm hfr (by simp; have := HS.out; omega))
  replace HB := Lib.hid (tb_sets HB.out (b := w1.heap.size + 1) (by have := HS.out; omega) 0 [.int .i64 ki, .int .i64 0, .int .i64 0, .bool true, .bool false, .bool false, .bool false, .bool false, .slice (some ⟨w1.heap.size, 0, none⟩) 1 1, .slice none 0 0, .slice none 0 0, .slice none 0 0])
  obtain ⟨w2, hw2⟩ : ∃ z, u2.setCells (w1.heap.size + 1) 0 [.int .i64 ki, .int .i64 0, .int .i64 0, .bool true, .bool false, .bool false, .bool false, .bool false, .slice (some ⟨w1.heap.size, 0, none⟩) 1 1, .slice none 0 0, .slice none 0 0, .slice none 0 0] = z := ⟨_, rfl⟩
  rw [hw2] at HM HQ HR HB
  have HW2 := Lib.hid (show ((w1.alloc (.cells #[.string mn, .int .i64 my, .int .i64 mc] 66)).alloc (.cells #[.int .i64 0, .int .i64 0, .int .i64 0, .bool false, .bool false, .bool false, .bool false, .bool false, .slice none 0 0, .slice none 0 0, .slice none 0 0, .slice none 0 0] 75)).setCells (w1.heap.size + 1) 0 ([.int .i64 ki, .int .i64 0, .int .i64 0, .bool true, .bool false, .bool false, .bool false, .bool false, .slice (some ⟨w1.heap.size, 0, none⟩) 1 1, .slice none 0 0, .slice none 0 0, .slice none 0 0] : List Value).toArray.toList = w2 from by rw [hu1, hu2]; exact hw2)
  have HON := Lib.hid (one_x ki true w1.heap.size)
  obtain ⟨gQ, hgQ⟩ : ∃ z, w1.heap.size = z := ⟨_, rfl⟩
  have HGQ := Lib.hid hgQ
  clear v1 q1 hu1 z1 v2 q2 p2 hu2 hb hfr hw2 HA
  rw [hgQ] at HM HQ HS HS2
  clear hgQ
  go_upto_region 2 with (first | (refine wpList_store_mid rfl 75 (.tmp 5) (.tmp 13) rfl _ _ _ rfl rfl HTH.out (by kernel_rfl) (all_oneCell_toArray HON.out) ?_; rw [HW2.out]))
  rw [HGQ.out]
  clear HTH HON HW2 HGQ a0 a4 a5 a6
  have e1 : (n == 1) = false := eF (by have := HK.out; omega)
  have e2 : (n == 2) = false := eF (by have := HK.out; omega)
  have e3 : (n == 3) = false := eF (by have := HK.out; omega)
  have e4 : (n == 4) = false := eF (by have := HK.out; omega)
  have HRT := Lib.hid (show w2.there gR 0 ([.int .i64 ki, .int .i64 0, .int .i64 0, .bool true, .bool false, .bool false, .bool false, .bool false, .slice (some ⟨gQ, 0, none⟩) 1 1, .slice none 0 0, .slice none 0 0, .slice none 0 0] : List Value).toArray.size from fun j hj => by
    rw [Nat.zero_add]
    have hj9 : j < ([.int .i64 0, .int .i64 0, .int .i64 0, .bool false, .bool false, .bool false, .bool false, .bool false, .slice none 0 0, .slice none 0 0, .slice none 0 0, .slice none 0 0] : List Value).length := hj
    obtain ⟨u, hu⟩ : ∃ u, ([.int .i64 0, .int .i64 0, .int .i64 0, .bool false, .bool false, .bool false, .bool false, .bool false, .slice none 0 0, .slice none 0 0, .slice none 0 0, .slice none 0 0] : List Value)[j]? = some u := ⟨_, List.getElem?_eq_getElem hj9⟩
    obtain ⟨h1, h2⟩ := HR.out.1 j u hu
    exact ⟨by rw [h1]; rfl, h2⟩)
  have HBX := Lib.hid (show HeldT gR [.int .i64 ki, .int .i64 0, .int .i64 0, .bool true, .bool false, .bool false, .bool false, .bool false, .slice (some ⟨gQ, 0, none⟩) 1 1, .slice none 0 0, .slice none 0 0, .slice none 0 0] (w2.setCells gR 0 [.int .i64 ki, .int .i64 0, .int .i64 0, .bool true, .bool false, .bool false, .bool false, .bool false, .slice (some ⟨gQ, 0, none⟩) 1 1, .slice none 0 0, .slice none 0 0, .slice none 0 0]) from HR.out.into rfl)
  have HB9 := Lib.hid (tb_sets HB.out (b := gR) HS.out.1 0 [.int .i64 ki, .int .i64 0, .int .i64 0, .bool true, .bool false, .bool false, .bool false, .bool false, .slice (some ⟨gQ, 0, none⟩) 1 1, .slice none 0 0, .slice none 0 0, .slice none 0 0])
  have HQ9 := Lib.hid (HQ.out.frm ((Frm.refl w2 [gR]).sets gR 0 (Or.inl (by simp)) [.int .i64 ki, .int .i64 0, .int .i64 0, .bool true, .bool false, .bool false, .bool false, .bool false, .slice (some ⟨gQ, 0, none⟩) 1 1, .slice none 0 0, .slice none 0 0, .slice none 0 0]) (by simp; have := HS.out; omega))
  have HMR := Lib.hid (show w2.rangeAt (gQ + 1) 0 [.int .i64 ki, .int .i64 0, .int .i64 0, .bool true, .bool false, .bool false, .bool false, .bool false, .slice (some ⟨gQ, 0, none⟩) 1 1, .slice none 0 0, .slice none 0 0, .slice none 0 0] from fun j v hj => by rw [Nat.zero_add]; exact (HM.out.1 j v hj).1)
  obtain ⟨w9, hw9⟩ : ∃ z, w2.setCells gR 0 [.int .i64 ki, .int .i64 0, .int .i64 0, .bool true, .bool false, .bool false, .bool false, .bool false, .slice (some ⟨gQ, 0, none⟩) 1 1, .slice none 0 0, .slice none 0 0, .slice none 0 0] = z := ⟨_, rfl⟩
  rw [hw9] at HBX HB9 HQ9
  have HW9 := Lib.hid (show w2.setCells gR 0 ([.int .i64 ki, .int .i64 0, .int .i64 0, .bool true, .bool false, .bool false, .bool false, .bool false, .slice (some ⟨gQ, 0, none⟩) 1 1, .slice none 0 0, .slice none 0 0, .slice none 0 0] : List Value).toArray.toList = w9 from hw9)
  have HON := Lib.hid (one_x (ki) true gQ)
  clear hw9
  go_wp2_with (first | (refine wpList_load_mid rfl 75 (.tmp 5) rfl _ _ rfl _ _ HMR.out Try.underlying75 rfl (by kernel_rfl) ?_) | (refine wpList_store_mid rfl 75 (.tmp 4) (.tmp 47) rfl _ _ _ rfl rfl HRT.out (by kernel_rfl) (all_oneCell_toArray HON.out) ?_; rw [HW9.out]))
  refine bodyPost_ret (v := .agg ([.int .i64 ki, .int .i64 0, .int .i64 0, .bool true, .bool false, .bool false, .bool false, .bool false, .slice (some ⟨gQ, 0, none⟩) 1 1, .slice none 0 0, .slice none 0 0, .slice none 0 0] : List Value).toArray) ?_ rfl ⟨gQ, rfl, ⟨rfl, Or.inr ⟨gQ, 0, rfl, HQ9.out.2, fun j r hj => by
    have hj0 : j = 0 := by have := (List.getElem?_eq_some_iff.1 hj).1; simp at this; omega
    subst hj0
    obtain rfl := (Option.some.inj hj).symm
    exact ⟨(HQ9.out.1 0 _ rfl).1, (HQ9.out.1 1 _ rfl).1, (HQ9.out.1 2 _ rfl).1⟩⟩⟩, HB9.out⟩
  rw [results_cell1 Try.results46]
  have hr := run_loadVar_mid (P := Try.prog) _ gR 0 75 [.int .i64 ki, .int .i64 0, .int .i64 0, .bool true, .bool false, .bool false, .bool false, .bool false, .slice (some ⟨gQ, 0, none⟩) 1 1, .slice none 0 0, .slice none 0 0, .slice none 0 0] _ (fun j v hj => by rw [Nat.zero_add]; exact (HBX.out.1 j v hj).1) Try.underlying75 rfl (by kernel_rfl)
  show ((asAddr (.pointer (some ⟨gR, 0, none⟩))).run Try.prog _).andThen _ = _
  simp [asAddr, hr]
theorem ansX_any (ki kp : Int) (kx : ByteArray) (kt : Bool) (mn : ByteArray) (my mc mj mu : Int) (n : Int) (w : World) (hk : 0 ≤ ki ∧ ki < 65536) :
    Calls Try.prog 46 #[.agg #[.int .i64 ki, .int .i64 kp, .string kx, .bool kt, .string mn, .int .i64 my, .int .i64 mc, .int .i64 mj, .int .i64 mu], .int .i64 n] w fun e w' =>
      ∃ (id : Int) (qr : Bool) (a : Option Addr) (nq cq : Nat) (Q : List QsP), e = .returned (.agg #[.int .i64 id, .int .i64 0, .int .i64 0, .bool qr, .bool false, .bool false, .bool false, .bool false, .slice a nq cq, .slice none 0 0, .slice none 0 0, .slice none 0 0]) ∧ RowQs w' a nq Q ∧ nq ≤ 2 ∧ Below w.heap.size w w' := by
  by_cases hn : 1 ≤ n ∧ n ≤ 4
  · refine (ans_any ki kp kx kt mn my mc mj mu n w hk ⟨by omega, hn.2⟩).mono ?_
    rintro e w' ⟨id, qr, a, nq, cq, Q, h1, h2, h3, -, h4⟩
    exact ⟨id, qr, a, nq, cq, Q, h1, h2, h3, h4⟩
  · refine (answer0_any ki kp kx kt mn my mc mj mu n w hn).mono ?_
    rintro e w' ⟨gQ, rfl, hq, hb⟩
    exact ⟨ki, true, _, 1, 1, _, rfl, hq, by decide, hb⟩
end Go.Proofs.Ytocfphijheidbaa
end

section
namespace Go.Proofs.Ytocfphijheidbaa
open Go.RowKit

set_option maxRecDepth 100000 in
set_option maxHeartbeats 8000000 in
theorem answerF_any (ki kp : Int) (kx : ByteArray) (kt : Bool) (mn : ByteArray) (my mc mj mu : Int) (n : Int) (id : Int) (qr : Bool) (w : World) (hk : 0 ≤ ki ∧ ki < 65536)
    (hc : (n = 0 ∧ id = ki ∧ qr = true) ∨ (n = 1 ∧ id = (ki + 1) % 65536 ∧ qr = true) ∨ (n = 3 ∧ id = ki ∧ qr = false)) :
    Calls Try.prog 46 #[.agg #[.int .i64 ki, .int .i64 kp, .string kx, .bool kt, .string mn, .int .i64 my, .int .i64 mc, .int .i64 mj, .int .i64 mu], .int .i64 n] w fun e w' => ∃ gQ, e = .returned (.agg #[.int .i64 id, .int .i64 0, .int .i64 0, .bool qr, .bool false, .bool false, .bool false, .bool false, .slice (some ⟨gQ, 0, none⟩) 1 1, .slice none 0 0, .slice none 0 0, .slice none 0 0]) ∧ RowQs w' (some ⟨gQ, 0, none⟩) 1 [⟨mn, my, mc⟩] ∧ Below w.heap.size w w' ∧ w.heap.size ≤ gQ := by
  have HK := Lib.hid hk
  have y1 := (Below.refl w.heap.size w).alloc (Nat.le_refl _) (.cells #[.int .i64 ki, .int .i64 kp, .string kx, .bool kt, .string mn, .int .i64 my, .int .i64 mc, .int .i64 mj, .int .i64 mu] 84)
  have m1 := HeldT.new w #[.int .i64 ki, .int .i64 kp, .string kx, .bool kt, .string mn, .int .i64 my, .int .i64 mc, .int .i64 mj, .int .i64 mu] 84
  obtain ⟨u1, hu1⟩ : ∃ z, w.alloc (.cells #[.int .i64 ki, .int .i64 kp, .string kx, .bool kt, .string mn, .int .i64 my, .int .i64 mc, .int .i64 mj, .int .i64 mu] 84) = z := ⟨_, rfl⟩
  have z1 : u1.heap.size = w.heap.size + 1 := by rw [← hu1, World.size_alloc]
  rw [hu1] at y1 m1
  have y2 := (Below.refl u1.heap.size u1).alloc (Nat.le_refl _) (.cells #[.int .i64 0, .int .i64 0, .int .i64 0, .bool false, .bool false, .bool false, .bool false, .bool false, .slice none 0 0, .slice none 0 0, .slice none 0 0, .slice none 0 0] 75)
  have m2 := m1.below y2
  have x2 := HeldT.new u1 #[.int .i64 0, .int .i64 0, .int .i64 0, .bool false, .bool false, .bool false, .bool false, .bool false, .slice none 0 0, .slice none 0 0, .slice none 0 0, .slice none 0 0] 75
  obtain ⟨w1, hw1⟩ : ∃ z, u1.alloc (.cells #[.int .i64 0, .int .i64 0, .int .i64 0, .bool false, .bool false, .bool false, .bool false, .bool false, .slice none 0 0, .slice none 0 0, .slice none 0 0, .slice none 0 0] 75) = z := ⟨_, rfl⟩
  have z2 : w1.heap.size = w.heap.size + 2 := by rw [← hw1, World.size_alloc, z1]
  rw [hw1] at y2 m2 x2
  rw [z1] at x2
  have HB := Lib.hid (y1.trans (y2.mono y1.size))
  have HW0 := Lib.hid (show (w.alloc (.cells #[.int .i64 ki, .int .i64 kp, .string kx, .bool kt, .string mn, .int .i64 my, .int .i64 mc, .int .i64 mj, .int .i64 mu] 84)).alloc (.cells #[.int .i64 0, .int .i64 0, .int .i64 0, .bool false, .bool false, .bool false, .bool false, .bool false, .slice none 0 0, .slice none 0 0, .slice none 0 0, .slice none 0 0] 75) = w1 by rw [hu1, hw1])
  obtain ⟨gR, hgR⟩ : ∃ z, w.heap.size + 1 = z := ⟨_, rfl⟩
  obtain ⟨gA, hgA⟩ : ∃ z, w.heap.size = z := ⟨_, rfl⟩
  rw [hgA] at m2
  rw [hgR] at x2
  have HA := Lib.hid m2
  have HR := Lib.hid x2
  have HGR := Lib.hid hgR
  have HGA := Lib.hid hgA
  have HS := Lib.hid (show w.heap.size ≤ gR ∧ gR < w1.heap.size ∧ w.heap.size ≤ w1.heap.size by omega)
  clear y1 m1 hu1 z1 y2 m2 x2 hw1 hgR hgA z2 hk
  go_enter Try.func46, Try.ntmps46
  go_upto_region 1 with (fail)
  rw [HW0.out, HGR.out, HGA.out]
  clear HW0 HGR HGA
  have a0 := (HA.out.1 0 _ rfl).1
  have a4 := (HA.out.1 4 _ rfl).1
  have a5 := (HA.out.1 5 _ rfl).1
  have a6 := (HA.out.1 6 _ rfl).1
  have v1 := (Below.refl w1.heap.size w1).alloc (Nat.le_refl _) (.cells #[.string mn, .int .i64 my, .int .i64 mc] 66)
  have q1 := HeldT.new w1 #[.string mn, .int .i64 my, .int .i64 mc] 66
  obtain ⟨u1, hu1⟩ : ∃ z, w1.alloc (.cells #[.string mn, .int .i64 my, .int .i64 mc] 66) = z := ⟨_, rfl⟩
  have z1 : u1.heap.size = w1.heap.size + 1 := by rw [← hu1, World.size_alloc]
  rw [hu1] at v1 q1
  have v2 := (Below.refl u1.heap.size u1).alloc (Nat.le_refl _) (.cells #[.int .i64 0, .int .i64 0, .int .i64 0, .bool false, .bool false, .bool false, .bool false, .bool false, .slice none 0 0, .slice none 0 0, .slice none 0 0, .slice none 0 0] 75)
  have q2 := q1.below v2
  have p2 := HeldT.new u1 #[.int .i64 0, .int .i64 0, .int .i64 0, .bool false, .bool false, .bool false, .bool false, .bool false, .slice none 0 0, .slice none 0 0, .slice none 0 0, .slice none 0 0] 75
  obtain ⟨u2, hu2⟩ : ∃ z, u1.alloc (.cells #[.int .i64 0, .int .i64 0, .int .i64 0, .bool false, .bool false, .bool false, .bool false, .bool false, .slice none 0 0, .slice none 0 0, .slice none 0 0, .slice none 0 0] 75) = z := ⟨_, rfl⟩
  rw [hu2] at v2 q2 p2
  rw [z1] at p2
  have hb := v1.trans (v2.mono v1.size)
  replace HR := Lib.hid (HR.out.below hb)
  replace HB := Lib.hid (HB.out.trans (hb.mono HB.out.size))
  have HTH := Lib.hid (show ((w1.alloc (.cells #[.string mn, .int .i64 my, .int .i64 mc] 66)).alloc (.cells #[.int .i64 0, .int .i64 0, .int .i64 0, .bool false, .bool false, .bool false, .bool false, .bool false, .slice none 0 0, .slice none 0 0, .slice none 0 0, .slice none 0 0] 75)).there (w1.heap.size + 1) 0 ([.int .i64 ki, .int .i64 0, .int .i64 0, .bool true, .bool false, .bool false, .bool false, .bool false, .slice (some ⟨w1.heap.size, 0, none⟩) 1 1, .slice none 0 0, .slice none 0 0, .slice none 0 0] : List Value).toArray.size from by
    rw [hu1, hu2]
    intro j hj
    rw [Nat.zero_add]
    have hj9 : j < ([.int .i64 0, .int .i64 0, .int .i64 0, .bool false, .bool false, .bool false, .bool false, .bool false, .slice none 0 0, .slice none 0 0, .slice none 0 0, .slice none 0 0] : List Value).length := hj
    obtain ⟨u, hu⟩ : ∃ u, ([.int .i64 0, .int .i64 0, .int .i64 0, .bool false, .bool false, .bool false, .bool false, .bool false, .slice none 0 0, .slice none 0 0, .slice none 0 0, .slice none 0 0] : List Value)[j]? = some u := ⟨_, List.getElem?_eq_getElem hj9⟩
    obtain ⟨h1, h2⟩ := p2.1 j u hu
    exact ⟨by rw [h1]; rfl, h2⟩)
  have HM := Lib.hid (show HeldT (w1.heap.size + 1) [.int .i64 ki, .int .i64 0, .int .i64 0, .bool true, .bool false, .bool false, .bool false, .bool false, .slice (some ⟨w1.heap.size, 0, none⟩) 1 1, .slice none 0 0, .slice none 0 0, .slice none 0 0] (u2.setCells (w1.heap.size + 1) 0 [.int .i64 ki, .int .i64 0, .int .i64 0, .bool true, .bool false, .bool false, .bool false, .bool false, .slice (some ⟨w1.heap.size, 0, none⟩) 1 1, .slice none 0 0, .slice none 0 0, .slice none 0 0]) from p2.into rfl)
  have HS2 := Lib.hid (show w1.heap.size + 2 ≤ u2.heap.size from by have := p2.2; omega)
  have hfr := (Frm.refl u2 [w1.heap.size + 1]).sets (w1.heap.size + 1) 0 (Or.inl (by simp)) [.int .i64 ki, .int .i64 0, .int .i64 0, .bool true, .bool false, .bool false, .bool false, .bool false, .slice (some ⟨w1.heap.size, 0, none⟩) 1 1, .slice none 0 0, .slice none 0 0, .slice none 0 0]
  have HQ := Lib.hid (q2.frm hfr (by simp))
  replace HR := Lib.hid (HR.out.frm hfr (by simp; have := HS.out; omega))
  replace HB := Lib.hid (tb_sets HB.out (b := w1.heap.size + 1) (by have := HS.out; omega) 0 [.int .i64 ki, .int .i64 0, .int .i64 0, .bool true, .bool false, .bool false, .bool false, .bool false, .slice (some ⟨w1.heap.size, 0, none⟩) 1 1, .slice none 0 0, .slice none 0 0, .slice none 0 0])
  obtain ⟨w2, hw2⟩ : ∃ z, u2.setCells (w1.heap.size + 1) 0 [.int .i64 ki, .int .i64 0, .int .i64 0, .bool true, .bool false, .bool false, .bool false, .bool false, .slice (some ⟨w1.heap.size, 0, none⟩) 1 1, .slice none 0 0, .slice none 0 0, .slice none 0 0] = z := ⟨_, rfl⟩
  rw [hw2] at HM HQ HR HB
  have HW2 := Lib.hid (show ((w1.alloc (.cells #[.string mn, .int .i64 my, .int .i64 mc] 66)).alloc (.cells #[.int .i64 0, .int .i64 0, .int .i64 0, .bool false, .bool false, .bool false, .bool false, .bool false, .slice none 0 0, .slice none 0 0, .slice none 0 0, .slice none 0 0] 75)).setCells (w1.heap.size + 1) 0 ([.int .i64 ki, .int .i64 0, .int .i64 0, .bool true, .bool false, .bool false, .bool false, .bool false, .slice (some ⟨w1.heap.size, 0, none⟩) 1 1, .slice none 0 0, .slice none 0 0, .slice none 0 0] : List Value).toArray.toList = w2 from by rw [hu1, hu2]; exact hw2)
  have HON := Lib.hid (one_x ki true w1.heap.size)
  obtain ⟨gQ, hgQ⟩ : ∃ z, w1.heap.size = z := ⟨_, rfl⟩
  have HGQ := Lib.hid hgQ
  clear v1 q1 hu1 z1 v2 q2 p2 hu2 hb hfr hw2 HA
  rw [hgQ] at HM HQ HS HS2
  clear hgQ
  go_upto_region 2 with (first | (refine wpList_store_mid rfl 75 (.tmp 5) (.tmp 13) rfl _ _ _ rfl rfl HTH.out (by kernel_rfl) (all_oneCell_toArray HON.out) ?_; rw [HW2.out]))
  rw [HGQ.out]
  clear HTH HON HW2 HGQ a0 a4 a5 a6
  rcases hc with ⟨rfl, rfl, rfl⟩ | ⟨rfl, hid, rfl⟩ | ⟨rfl, rfl, rfl⟩
  · skip
    have HRT := Lib.hid (show w2.there gR 0 ([.int .i64 id, .int .i64 0, .int .i64 0, .bool true, .bool false, .bool false, .bool false, .bool false, .slice (some ⟨gQ, 0, none⟩) 1 1, .slice none 0 0, .slice none 0 0, .slice none 0 0] : List Value).toArray.size from fun j hj => by
      rw [Nat.zero_add]
      have hj9 : j < ([.int .i64 0, .int .i64 0, .int .i64 0, .bool false, .bool false, .bool false, .bool false, .bool false, .slice none 0 0, .slice none 0 0, .slice none 0 0, .slice none 0 0] : List Value).length := hj
      obtain ⟨u, hu⟩ : ∃ u, ([.int .i64 0, .int .i64 0, .int .i64 0, .bool false, .bool false, .bool false, .bool false, .bool false, .slice none 0 0, .slice none 0 0, .slice none 0 0, .slice none 0 0] : List Value)[j]? = some u := ⟨_, List.getElem?_eq_getElem hj9⟩
      obtain ⟨h1, h2⟩ := HR.out.1 j u hu
      exact ⟨by rw [h1]; rfl, h2⟩)
    have HBX := Lib.hid (show HeldT gR [.int .i64 id, .int .i64 0, .int .i64 0, .bool true, .bool false, .bool false, .bool false, .bool false, .slice (some ⟨gQ, 0, none⟩) 1 1, .slice none 0 0, .slice none 0 0, .slice none 0 0] (w2.setCells gR 0 [.int .i64 id, .int .i64 0, .int .i64 0, .bool true, .bool false, .bool false, .bool false, .bool false, .slice (some ⟨gQ, 0, none⟩) 1 1, .slice none 0 0, .slice none 0 0, .slice none 0 0]) from HR.out.into rfl)
    have HB9 := Lib.hid (tb_sets HB.out (b := gR) HS.out.1 0 [.int .i64 id, .int .i64 0, .int .i64 0, .bool true, .bool false, .bool false, .bool false, .bool false, .slice (some ⟨gQ, 0, none⟩) 1 1, .slice none 0 0, .slice none 0 0, .slice none 0 0])
    have HQ9 := Lib.hid (HQ.out.frm ((Frm.refl w2 [gR]).sets gR 0 (Or.inl (by simp)) [.int .i64 id, .int .i64 0, .int .i64 0, .bool true, .bool false, .bool false, .bool false, .bool false, .slice (some ⟨gQ, 0, none⟩) 1 1, .slice none 0 0, .slice none 0 0, .slice none 0 0]) (by simp; have := HS.out; omega))
    have HMR := Lib.hid (show w2.rangeAt (gQ + 1) 0 [.int .i64 id, .int .i64 0, .int .i64 0, .bool true, .bool false, .bool false, .bool false, .bool false, .slice (some ⟨gQ, 0, none⟩) 1 1, .slice none 0 0, .slice none 0 0, .slice none 0 0] from fun j v hj => by rw [Nat.zero_add]; exact (HM.out.1 j v hj).1)
    obtain ⟨w9, hw9⟩ : ∃ z, w2.setCells gR 0 [.int .i64 id, .int .i64 0, .int .i64 0, .bool true, .bool false, .bool false, .bool false, .bool false, .slice (some ⟨gQ, 0, none⟩) 1 1, .slice none 0 0, .slice none 0 0, .slice none 0 0] = z := ⟨_, rfl⟩
    rw [hw9] at HBX HB9 HQ9
    have HW9 := Lib.hid (show w2.setCells gR 0 ([.int .i64 id, .int .i64 0, .int .i64 0, .bool true, .bool false, .bool false, .bool false, .bool false, .slice (some ⟨gQ, 0, none⟩) 1 1, .slice none 0 0, .slice none 0 0, .slice none 0 0] : List Value).toArray.toList = w9 from hw9)
    have HON := Lib.hid (one_x (id) true gQ)
    clear hw9
    go_wp2_with (first | (refine wpList_load_mid rfl 75 (.tmp 5) rfl _ _ rfl _ _ HMR.out Try.underlying75 rfl (by kernel_rfl) ?_) | (refine wpList_store_mid rfl 75 (.tmp 4) (.tmp 47) rfl _ _ _ rfl rfl HRT.out (by kernel_rfl) (all_oneCell_toArray HON.out) ?_; rw [HW9.out]))
    refine bodyPost_ret (v := .agg ([.int .i64 id, .int .i64 0, .int .i64 0, .bool true, .bool false, .bool false, .bool false, .bool false, .slice (some ⟨gQ, 0, none⟩) 1 1, .slice none 0 0, .slice none 0 0, .slice none 0 0] : List Value).toArray) ?_ rfl ⟨gQ, rfl, ⟨rfl, Or.inr ⟨gQ, 0, rfl, HQ9.out.2, fun j r hj => by
      have hj0 : j = 0 := by have := (List.getElem?_eq_some_iff.1 hj).1; simp at this; omega
      subst hj0
      obtain rfl := (Option.some.inj hj).symm
      exact ⟨(HQ9.out.1 0 _ rfl).1, (HQ9.out.1 1 _ rfl).1, (HQ9.out.1 2 _ rfl).1⟩⟩⟩, HB9.out, HS.out.2.2⟩
    rw [results_cell1 Try.results46]
    have hr := run_loadVar_mid (P := Try.prog) _ gR 0 75 [.int .i64 id, .int .i64 0, .int .i64 0, .bool true, .bool false, .bool false, .bool false, .bool false, .slice (some ⟨gQ, 0, none⟩) 1 1, .slice none 0 0, .slice none 0 0, .slice none 0 0] _ (fun j v hj => by rw [Nat.zero_add]; exact (HBX.out.1 j v hj).1) Try.underlying75 rfl (by kernel_rfl)
    show ((asAddr (.pointer (some ⟨gR, 0, none⟩))).run Try.prog _).andThen _ = _
    simp [asAddr, hr]
  · skip
    have wa : IntKind.i64.wrap (ki + 1) = ki + 1 := by rw [IntKind.wrap_i64]; have := HK.out; omega
    have wm : bits .and .i64 (ki + 1) 65535 = id := by rw [mask16Q, hid]
    clear hid
    have mf := (HM.out.1 0 _ rfl).2
    have m0 := (HM.out.1 0 _ rfl).1
    replace HM := Lib.hid (show HeldT (gQ + 1) [.int .i64 id, .int .i64 0, .int .i64 0, .bool true, .bool false, .bool false, .bool false, .bool false, .slice (some ⟨gQ, 0, none⟩) 1 1, .slice none 0 0, .slice none 0 0, .slice none 0 0] (w2.setCell ⟨gQ + 1, 0, none⟩ (.int .i64 id)) from HM.out.set (i := 0) (by simp) (.int .i64 id))
    replace HQ := Lib.hid (HQ.out.other (p := gQ + 1) (i := 0) (by omega) (.int .i64 id))
    replace HR := Lib.hid (HR.out.other (p := gQ + 1) (i := 0) (by have := HS.out; omega) (.int .i64 id))
    replace HB := Lib.hid (HB.out.setCell (p := ⟨gQ + 1, 0, none⟩) (by show w.heap.size ≤ gQ + 1; have := HS.out; omega) (.int .i64 id))
    obtain ⟨w3, hw3⟩ : ∃ z, w2.setCell ⟨gQ + 1, 0, none⟩ (.int .i64 id) = z := ⟨_, rfl⟩
    rw [hw3] at HM HQ HR HB
    have HW3 := Lib.hid hw3
    clear hw3
    go_upto_region 11 with (fail)
    rw [HW3.out]
    clear HW3 m0 mf
    have HRT := Lib.hid (show w3.there gR 0 ([.int .i64 id, .int .i64 0, .int .i64 0, .bool true, .bool false, .bool false, .bool false, .bool false, .slice (some ⟨gQ, 0, none⟩) 1 1, .slice none 0 0, .slice none 0 0, .slice none 0 0] : List Value).toArray.size from fun j hj => by
      rw [Nat.zero_add]
      have hj9 : j < ([.int .i64 0, .int .i64 0, .int .i64 0, .bool false, .bool false, .bool false, .bool false, .bool false, .slice none 0 0, .slice none 0 0, .slice none 0 0, .slice none 0 0] : List Value).length := hj
      obtain ⟨u, hu⟩ : ∃ u, ([.int .i64 0, .int .i64 0, .int .i64 0, .bool false, .bool false, .bool false, .bool false, .bool false, .slice none 0 0, .slice none 0 0, .slice none 0 0, .slice none 0 0] : List Value)[j]? = some u := ⟨_, List.getElem?_eq_getElem hj9⟩
      obtain ⟨h1, h2⟩ := HR.out.1 j u hu
      exact ⟨by rw [h1]; rfl, h2⟩)
    have HBX := Lib.hid (show HeldT gR [.int .i64 id, .int .i64 0, .int .i64 0, .bool true, .bool false, .bool false, .bool false, .bool false, .slice (some ⟨gQ, 0, none⟩) 1 1, .slice none 0 0, .slice none 0 0, .slice none 0 0] (w3.setCells gR 0 [.int .i64 id, .int .i64 0, .int .i64 0, .bool true, .bool false, .bool false, .bool false, .bool false, .slice (some ⟨gQ, 0, none⟩) 1 1, .slice none 0 0, .slice none 0 0, .slice none 0 0]) from HR.out.into rfl)
    have HB9 := Lib.hid (tb_sets HB.out (b := gR) HS.out.1 0 [.int .i64 id, .int .i64 0, .int .i64 0, .bool true, .bool false, .bool false, .bool false, .bool false, .slice (some ⟨gQ, 0, none⟩) 1 1, .slice none 0 0, .slice none 0 0, .slice none 0 0])
    have HQ9 := Lib.hid (HQ.out.frm ((Frm.refl w3 [gR]).sets gR 0 (Or.inl (by simp)) [.int .i64 id, .int .i64 0, .int .i64 0, .bool true, .bool false, .bool false, .bool false, .bool false, .slice (some ⟨gQ, 0, none⟩) 1 1, .slice none 0 0, .slice none 0 0, .slice none 0 0]) (by simp; have := HS.out; omega))
    have HMR := Lib.hid (show w3.rangeAt (gQ + 1) 0 [.int .i64 id, .int .i64 0, .int .i64 0, .bool true, .bool false, .bool false, .bool false, .bool false, .slice (some ⟨gQ, 0, none⟩) 1 1, .slice none 0 0, .slice none 0 0, .slice none 0 0] from fun j v hj => by rw [Nat.zero_add]; exact (HM.out.1 j v hj).1)
    obtain ⟨w9, hw9⟩ : ∃ z, w3.setCells gR 0 [.int .i64 id, .int .i64 0, .int .i64 0, .bool true, .bool false, .bool false, .bool false, .bool false, .slice (some ⟨gQ, 0, none⟩) 1 1, .slice none 0 0, .slice none 0 0, .slice none 0 0] = z := ⟨_, rfl⟩
    rw [hw9] at HBX HB9 HQ9
    have HW9 := Lib.hid (show w3.setCells gR 0 ([.int .i64 id, .int .i64 0, .int .i64 0, .bool true, .bool false, .bool false, .bool false, .bool false, .slice (some ⟨gQ, 0, none⟩) 1 1, .slice none 0 0, .slice none 0 0, .slice none 0 0] : List Value).toArray.toList = w9 from hw9)
    have HON := Lib.hid (one_x (id) true gQ)
    clear hw9
    go_wp2_with (first | (refine wpList_load_mid rfl 75 (.tmp 5) rfl _ _ rfl _ _ HMR.out Try.underlying75 rfl (by kernel_rfl) ?_) | (refine wpList_store_mid rfl 75 (.tmp 4) (.tmp 47) rfl _ _ _ rfl rfl HRT.out (by kernel_rfl) (all_oneCell_toArray HON.out) ?_; rw [HW9.out]))
    refine bodyPost_ret (v := .agg ([.int .i64 id, .int .i64 0, .int .i64 0, .bool true, .bool false, .bool false, .bool false, .bool false, .slice (some ⟨gQ, 0, none⟩) 1 1, .slice none 0 0, .slice none 0 0, .slice none 0 0] : List Value).toArray) ?_ rfl ⟨gQ, rfl, ⟨rfl, Or.inr ⟨gQ, 0, rfl, HQ9.out.2, fun j r hj => by
      have hj0 : j = 0 := by have := (List.getElem?_eq_some_iff.1 hj).1; simp at this; omega
      subst hj0
      obtain rfl := (Option.some.inj hj).symm
      exact ⟨(HQ9.out.1 0 _ rfl).1, (HQ9.out.1 1 _ rfl).1, (HQ9.out.1 2 _ rfl).1⟩⟩⟩, HB9.out, HS.out.2.2⟩
    rw [results_cell1 Try.results46]
    have hr := run_loadVar_mid (P := Try.prog) _ gR 0 75 [.int .i64 id, .int .i64 0, .int .i64 0, .bool true, .bool false, .bool false, .bool false, .bool false, .slice (some ⟨gQ, 0, none⟩) 1 1, .slice none 0 0, .slice none 0 0, .slice none 0 0] _ (fun j v hj => by rw [Nat.zero_add]; exact (HBX.out.1 j v hj).1) Try.underlying75 rfl (by kernel_rfl)
    show ((asAddr (.pointer (some ⟨gR, 0, none⟩))).run Try.prog _).andThen _ = _
    simp [asAddr, hr]
  · skip
    have mf := (HM.out.1 3 _ rfl).2
    have m0 := (HM.out.1 3 _ rfl).1
    replace HM := Lib.hid (show HeldT (gQ + 1) [.int .i64 id, .int .i64 0, .int .i64 0, .bool false, .bool false, .bool false, .bool false, .bool false, .slice (some ⟨gQ, 0, none⟩) 1 1, .slice none 0 0, .slice none 0 0, .slice none 0 0] (w2.setCell ⟨gQ + 1, 3, none⟩ (.bool false)) from HM.out.set (i := 3) (by simp) (.bool false))
    replace HQ := Lib.hid (HQ.out.other (p := gQ + 1) (i := 3) (by omega) (.bool false))
    replace HR := Lib.hid (HR.out.other (p := gQ + 1) (i := 3) (by have := HS.out; omega) (.bool false))
    replace HB := Lib.hid (HB.out.setCell (p := ⟨gQ + 1, 3, none⟩) (by show w.heap.size ≤ gQ + 1; have := HS.out; omega) (.bool false))
    obtain ⟨w3, hw3⟩ : ∃ z, w2.setCell ⟨gQ + 1, 3, none⟩ (.bool false) = z := ⟨_, rfl⟩
    rw [hw3] at HM HQ HR HB
    have HW3 := Lib.hid hw3
    clear hw3
    go_upto_region 11 with (fail)
    rw [HW3.out]
    clear HW3 m0 mf
    have HRT := Lib.hid (show w3.there gR 0 ([.int .i64 id, .int .i64 0, .int .i64 0, .bool false, .bool false, .bool false, .bool false, .bool false, .slice (some ⟨gQ, 0, none⟩) 1 1, .slice none 0 0, .slice none 0 0, .slice none 0 0] : List Value).toArray.size from fun j hj => by
      rw [Nat.zero_add]
      have hj9 : j < ([.int .i64 0, .int .i64 0, .int .i64 0, .bool false, .bool false, .bool false, .bool false, .bool false, .slice none 0 0, .slice none 0 0, .slice none 0 0, .slice none 0 0] : List Value).length := hj
      obtain ⟨u, hu⟩ : ∃ u, ([.int .i64 0, .int .i64 0, .int .i64 0, .bool false, .bool false, .bool false, .bool false, .bool false, .slice none 0 0, .slice none 0 0, .slice none 0 0, .slice none 0 0] : List Value)[j]? = some u := ⟨_, List.getElem?_eq_getElem hj9⟩
      obtain ⟨h1, h2⟩ := HR.out.1 j u hu
      exact ⟨by rw [h1]; rfl, h2⟩)
    have HBX := Lib.hid (show HeldT gR [.int .i64 id, .int .i64 0, .int .i64 0, .bool false, .bool false, .bool false, .bool false, .bool false, .slice (some ⟨gQ, 0, none⟩) 1 1, .slice none 0 0, .slice none 0 0, .slice none 0 0] (w3.setCells gR 0 [.int .i64 id, .int .i64 0, .int .i64 0, .bool false, .bool false, .bool false, .bool false, .bool false, .slice (some ⟨gQ, 0, none⟩) 1 1, .slice none 0 0, .slice none 0 0, .slice none 0 0]) from HR.out.into rfl)
    have HB9 := Lib.hid (tb_sets HB.out (b := gR) HS.out.1 0 [.int .i64 id, .int .i64 0, .int .i64 0, .bool false, .bool false, .bool false, .bool false, .bool false, .slice (some ⟨gQ, 0, none⟩) 1 1, .slice none 0 0, .slice none 0 0, .slice none 0 0])
    have HQ9 := Lib.hid (HQ.out.frm ((Frm.refl w3 [gR]).sets gR 0 (Or.inl (by simp)) [.int .i64 id, .int .i64 0, .int .i64 0, .bool false, .bool false, .bool false, .bool false, .bool false, .slice (some ⟨gQ, 0, none⟩) 1 1, .slice none 0 0, .slice none 0 0, .slice none 0 0]) (by simp; have := HS.out; omega))
    have HMR := Lib.hid (show w3.rangeAt (gQ + 1) 0 [.int .i64 id, .int .i64 0, .int .i64 0, .bool false, .bool false, .bool false, .bool false, .bool false, .slice (some ⟨gQ, 0, none⟩) 1 1, .slice none 0 0, .slice none 0 0, .slice none 0 0] from fun j v hj => by rw [Nat.zero_add]; exact (HM.out.1 j v hj).1)
    obtain ⟨w9, hw9⟩ : ∃ z, w3.setCells gR 0 [.int .i64 id, .int .i64 0, .int .i64 0, .bool false, .bool false, .bool false, .bool false, .bool false, .slice (some ⟨gQ, 0, none⟩) 1 1, .slice none 0 0, .slice none 0 0, .slice none 0 0] = z := ⟨_, rfl⟩
    rw [hw9] at HBX HB9 HQ9
    have HW9 := Lib.hid (show w3.setCells gR 0 ([.int .i64 id, .int .i64 0, .int .i64 0, .bool false, .bool false, .bool false, .bool false, .bool false, .slice (some ⟨gQ, 0, none⟩) 1 1, .slice none 0 0, .slice none 0 0, .slice none 0 0] : List Value).toArray.toList = w9 from hw9)
    have HON := Lib.hid (one_x (id) false gQ)
    clear hw9
    go_wp2_with (first | (refine wpList_load_mid rfl 75 (.tmp 5) rfl _ _ rfl _ _ HMR.out Try.underlying75 rfl (by kernel_rfl) ?_) | (refine wpList_store_mid rfl 75 (.tmp 4) (.tmp 47) rfl _ _ _ rfl rfl HRT.out (by kernel_rfl) (all_oneCell_toArray HON.out) ?_; rw [HW9.out]))
    refine bodyPost_ret (v := .agg ([.int .i64 id, .int .i64 0, .int .i64 0, .bool false, .bool false, .bool false, .bool false, .bool false, .slice (some ⟨gQ, 0, none⟩) 1 1, .slice none 0 0, .slice none 0 0, .slice none 0 0] : List Value).toArray) ?_ rfl ⟨gQ, rfl, ⟨rfl, Or.inr ⟨gQ, 0, rfl, HQ9.out.2, fun j r hj => by
      have hj0 : j = 0 := by have := (List.getElem?_eq_some_iff.1 hj).1; simp at this; omega
      subst hj0
      obtain rfl := (Option.some.inj hj).symm
      exact ⟨(HQ9.out.1 0 _ rfl).1, (HQ9.out.1 1 _ rfl).1, (HQ9.out.1 2 _ rfl).1⟩⟩⟩, HB9.out, HS.out.2.2⟩
    rw [results_cell1 Try.results46]
    have hr := run_loadVar_mid (P := Try.prog) _ gR 0 75 [.int .i64 id, .int .i64 0, .int .i64 0, .bool false, .bool false, .bool false, .bool false, .bool false, .slice (some ⟨gQ, 0, none⟩) 1 1, .slice none 0 0, .slice none 0 0, .slice none 0 0] _ (fun j v hj => by rw [Nat.zero_add]; exact (HBX.out.1 j v hj).1) Try.underlying75 rfl (by kernel_rfl)
    show ((asAddr (.pointer (some ⟨gR, 0, none⟩))).run Try.prog _).andThen _ = _
    simp [asAddr, hr]
set_option maxRecDepth 100000 in
set_option maxHeartbeats 8000000 in
theorem answer2F_any (ki kp : Int) (kx : ByteArray) (kt : Bool) (mn : ByteArray) (my mc mj mu : Int) (ny : Int) (w : World) (hny : IntKind.i64.wrap (my + 1) = ny) :
    Calls Try.prog 46 #[.agg #[.int .i64 ki, .int .i64 kp, .string kx, .bool kt, .string mn, .int .i64 my, .int .i64 mc, .int .i64 mj, .int .i64 mu], .int .i64 2] w fun e w' => ∃ gQ, e = .returned (.agg #[.int .i64 ki, .int .i64 0, .int .i64 0, .bool true, .bool false, .bool false, .bool false, .bool false, .slice (some ⟨gQ, 0, none⟩) 1 1, .slice none 0 0, .slice none 0 0, .slice none 0 0]) ∧ RowQs w' (some ⟨gQ, 0, none⟩) 1 [⟨mn, ny, mc⟩] ∧ Below w.heap.size w w' ∧ w.heap.size ≤ gQ := by
  have HNY := Lib.hid hny
  have y1 := (Below.refl w.heap.size w).alloc (Nat.le_refl _) (.cells #[.int .i64 ki, .int .i64 kp, .string kx, .bool kt, .string mn, .int .i64 my, .int .i64 mc, .int .i64 mj, .int .i64 mu] 84)
  have m1 := HeldT.new w #[.int .i64 ki, .int .i64 kp, .string kx, .bool kt, .string mn, .int .i64 my, .int .i64 mc, .int .i64 mj, .int .i64 mu] 84
  obtain ⟨u1, hu1⟩ : ∃ z, w.alloc (.cells #[.int .i64 ki, .int .i64 kp, .string kx, .bool kt, .string mn, .int .i64 my, .int .i64 mc, .int .i64 mj, .int .i64 mu] 84) = z := ⟨_, rfl⟩
  have z1 : u1.heap.size = w.heap.size + 1 := by rw [← hu1, World.size_alloc]
  rw [hu1] at y1 m1
  have y2 := (Below.refl u1.heap.size u1).alloc (Nat.le_refl _) (.cells #[.int .i64 0, .int .i64 0, .int .i64 0, .bool false, .bool false, .bool false, .bool false, .bool false, .slice none 0 0, .slice none 0 0, .slice none 0 0, .slice none 0 0] 75)
  have m2 := m1.below y2
  have x2 := HeldT.new u1 #[.int .i64 0, .int .i64 0, .int .i64 0, .bool false, .bool false, .bool false, .bool false, .bool false, .slice none 0 0, .slice none 0 0, .slice none 0 0, .slice none 0 0] 75
  obtain ⟨w1, hw1⟩ : ∃ z, u1.alloc (.cells #[.int .i64 0, .int .i64 0, .int .i64 0, .bool false, .bool false, .bool false, .bool false, .bool false, .slice none 0 0, .slice none 0 0, .slice none 0 0, .slice none 0 0] 75) = z := ⟨_, rfl⟩
  have z2 : w1.heap.size = w.heap.size + 2 := by rw [← hw1, World.size_alloc, z1]
  rw [hw1] at y2 m2 x2
  rw [z1] at x2
  have HB := Lib.hid (y1.trans (y2.mono y1.size))
  have HW0 := Lib.hid (show (w.alloc (.cells #[.int .i64 ki, .int .i64 kp, .string kx, .bool kt, .string mn, .int .i64 my, .int .i64 mc, .int .i64 mj, .int .i64 mu] 84)).alloc (.cells #[.int .i64 0, .int .i64 0, .int .i64 0, .bool false, .bool false, .bool false, .bool false, .bool false, .slice none 0 0, .slice none 0 0, .slice none 0 0, .slice none 0 0] 75) = w1 by rw [hu1, hw1])
  obtain ⟨gR, hgR⟩ : ∃ z, w.heap.size + 1 = z := ⟨_, rfl⟩
  obtain ⟨gA, hgA⟩ : ∃ z, w.heap.size = z := ⟨_, rfl⟩
  rw [hgA] at m2
  rw [hgR] at x2
  have HA := Lib.hid m2
  have HR := Lib.hid x2
  have HGR := Lib.hid hgR
  have HGA := Lib.hid hgA
  have HS := Lib.hid (show w.heap.size ≤ gR ∧ gR < w1.heap.size ∧ w.heap.size ≤ w1.heap.size by omega)
  clear y1 m1 hu1 z1 y2 m2 x2 hw1 hgR hgA z2 hny
  go_enter Try.func46, Try.ntmps46
  go_upto_region 1 with (fail)
  rw [HW0.out, HGR.out, HGA.out]
  clear HW0 HGR HGA
  have a0 := (HA.out.1 0 _ rfl).1
  have a4 := (HA.out.1 4 _ rfl).1
  have a5 := (HA.out.1 5 _ rfl).1
  have a6 := (HA.out.1 6 _ rfl).1
  have v1 := (Below.refl w1.heap.size w1).alloc (Nat.le_refl _) (.cells #[.string mn, .int .i64 my, .int .i64 mc] 66)
  have q1 := HeldT.new w1 #[.string mn, .int .i64 my, .int .i64 mc] 66
  obtain ⟨u1, hu1⟩ : ∃ z, w1.alloc (.cells #[.string mn, .int .i64 my, .int .i64 mc] 66) = z := ⟨_, rfl⟩
  have z1 : u1.heap.size = w1.heap.size + 1 := by rw [← hu1, World.size_alloc]
  rw [hu1] at v1 q1
  have v2 := (Below.refl u1.heap.size u1).alloc (Nat.le_refl _) (.cells #[.int .i64 0, .int .i64 0, .int .i64 0, .bool false, .bool false, .bool false, .bool false, .bool false, .slice none 0 0, .slice none 0 0, .slice none 0 0, .slice none 0 0] 75)
  have q2 := q1.below v2
  have p2 := HeldT.new u1 #[.int .i64 0, .int .i64 0, .int .i64 0, .bool false, .bool false, .bool false, .bool false, .bool false, .slice none 0 0, .slice none 0 0, .slice none 0 0, .slice none 0 0] 75
  obtain ⟨u2, hu2⟩ : ∃ z, u1.alloc (.cells #[.int .i64 0, .int .i64 0, .int .i64 0, .bool false, .bool false, .bool false, .bool false, .bool false, .slice none 0 0, .slice none 0 0, .slice none 0 0, .slice none 0 0] 75) = z := ⟨_, rfl⟩
  rw [hu2] at v2 q2 p2
  rw [z1] at p2
  have hb := v1.trans (v2.mono v1.size)
  replace HR := Lib.hid (HR.out.below hb)
  replace HB := Lib.hid (HB.out.trans (hb.mono HB.out.size))
  have HTH := Lib.hid (show ((w1.alloc (.cells #[.string mn, .int .i64 my, .int .i64 mc] 66)).alloc (.cells #[.int .i64 0, .int .i64 0, .int .i64 0, .bool false, .bool false, .bool false, .bool false, .bool false, .slice none 0 0, .slice none 0 0, .slice none 0 0, .slice none 0 0] 75)).there (w1.heap.size + 1) 0 ([.int .i64 ki, .int .i64 0, .int .i64 0, .bool true, .bool false, .bool false, .bool false, .bool false, .slice (some ⟨w1.heap.size, 0, none⟩) 1 1, .slice none 0 0, .slice none 0 0, .slice none 0 0] : List Value).toArray.size from by
    rw [hu1, hu2]
    intro j hj
    rw [Nat.zero_add]
    have hj9 : j < ([.int .i64 0, .int .i64 0, .int .i64 0, .bool false, .bool false, .bool false, .bool false, .bool false, .slice none 0 0, .slice none 0 0, .slice none 0 0, .slice none 0 0] : List Value).length := hj
    obtain ⟨u, hu⟩ : ∃ u, ([.int .i64 0, .int .i64 0, .int .i64 0, .bool false, .bool false, .bool false, .bool false, .bool false, .slice none 0 0, .slice none 0 0, .slice none 0 0, .slice none 0 0] : List Value)[j]? = some u := ⟨_, List.getElem?_eq_getElem hj9⟩
    obtain ⟨h1, h2⟩ := p2.1 j u hu
    exact ⟨by rw [h1]; rfl, h2⟩)
  have HM := Lib.hid (show HeldT (w1.heap.size + 1) [.int .i64 ki, .int .i64 0, .int .i64 0, .bool true, .bool false, .bool false, .bool false, .bool false, .slice (some ⟨w1.heap.size, 0, none⟩) 1 1, .slice none 0 0, .slice none 0 0, .slice none 0 0] (u2.setCells (w1.heap.size + 1) 0 [.int .i64 ki, .int .i64 0, .int .i64 0, .bool true, .bool false, .bool false, .bool false, .bool false, .slice (some ⟨w1.heap.size, 0, none⟩) 1 1, .slice none 0 0, .slice none 0 0, .slice none 0 0]) from p2.into rfl)
  have HS2 := Lib.hid (show w1.heap.size + 2 ≤ u2.heap.size from by have := p2.2; omega)
  have hfr := (Frm.refl u2 [w1.heap.size + 1]).sets (w1.heap.size + 1) 0 (Or.inl (by simp)) [.int .i64 ki, .int .i64 0, .int .i64 0, .bool true, .bool false, .bool false, .bool false, .bool false, .slice (some ⟨w1.heap.size, 0, none⟩) 1 1, .slice none 0 0, .slice none 0 0, .slice none 0 0]
  have HQ := Lib.hid (q2.frm hfr (by simp))
  replace HR := Lib.hid (HR.out.frm hfr (by simp; have := HS.out; omega))
  replace HB := Lib.hid (tb_sets HB.out (b := w1.heap.size + 1) (by have := HS.out; omega) 0 [.int .i64 ki, .int .i64 0, .int .i64 0, .bool true, .bool false, .bool false, .bool false, .bool false, .slice (some ⟨w1.heap.size, 0, none⟩) 1 1, .slice none 0 0, .slice none 0 0, .slice none 0 0])
  obtain ⟨w2, hw2⟩ : ∃ z, u2.setCells (w1.heap.size + 1) 0 [.int .i64 ki, .int .i64 0, .int .i64 0, .bool true, .bool false, .bool false, .bool false, .bool false, .slice (some ⟨w1.heap.size, 0, none⟩) 1 1, .slice none 0 0, .slice none 0 0, .slice none 0 0] = z := ⟨_, rfl⟩
  rw [hw2] at HM HQ HR HB
  have HW2 := Lib.hid (show ((w1.alloc (.cells #[.string mn, .int .i64 my, .int .i64 mc] 66)).alloc (.cells #[.int .i64 0, .int .i64 0, .int .i64 0, .bool false, .bool false, .bool false, .bool false, .bool false, .slice none 0 0, .slice none 0 0, .slice none 0 0, .slice none 0 0] 75)).setCells (w1.heap.size + 1) 0 ([.int .i64 ki, .int .i64 0, .int .i64 0, .bool true, .bool false, .bool false, .bool false, .bool false, .slice (some ⟨w1.heap.size, 0, none⟩) 1 1, .slice none 0 0, .slice none 0 0, .slice none 0 0] : List Value).toArray.toList = w2 from by rw [hu1, hu2]; exact hw2)
  have HON := Lib.hid (one_x ki true w1.heap.size)
  obtain ⟨gQ, hgQ⟩ : ∃ z, w1.heap.size = z := ⟨_, rfl⟩
  have HGQ := Lib.hid hgQ
  clear v1 q1 hu1 z1 v2 q2 p2 hu2 hb hfr hw2 HA
  rw [hgQ] at HM HQ HS HS2
  clear hgQ
  go_upto_region 2 with (first | (refine wpList_store_mid rfl 75 (.tmp 5) (.tmp 13) rfl _ _ _ rfl rfl HTH.out (by kernel_rfl) (all_oneCell_toArray HON.out) ?_; rw [HW2.out]))
  rw [HGQ.out]
  clear HTH HON HW2 HGQ a0 a4 a5 a6
  have m8 := (HM.out.1 8 _ rfl).1
  have q1 := (HQ.out.1 1 _ rfl).1
  have qf := (HQ.out.1 1 _ rfl).2
  have hny := HNY.out
  replace HQ := Lib.hid (show HeldT gQ [.string mn, .int .i64 ny, .int .i64 mc] (w2.setCell ⟨gQ, 1, none⟩ (.int .i64 ny)) from HQ.out.set (i := 1) (by simp) (.int .i64 ny))
  replace HM := Lib.hid (HM.out.other (p := gQ) (i := 1) (by omega) (.int .i64 ny))
  replace HR := Lib.hid (HR.out.other (p := gQ) (i := 1) (by have := HS.out; omega) (.int .i64 ny))
  replace HB := Lib.hid (HB.out.setCell (p := ⟨gQ, 1, none⟩) (by show w.heap.size ≤ gQ; have := HS.out; omega) (.int .i64 ny))
  obtain ⟨w3, hw3⟩ : ∃ z, w2.setCell ⟨gQ, 1, none⟩ (.int .i64 ny) = z := ⟨_, rfl⟩
  rw [hw3] at HM HQ HR HB
  have HW3 := Lib.hid hw3
  clear hw3
  go_upto_region 11 with (fail)
  rw [HW3.out]
  clear HW3 m8 q1 qf hny
  have HRT := Lib.hid (show w3.there gR 0 ([.int .i64 ki, .int .i64 0, .int .i64 0, .bool true, .bool false, .bool false, .bool false, .bool false, .slice (some ⟨gQ, 0, none⟩) 1 1, .slice none 0 0, .slice none 0 0, .slice none 0 0] : List Value).toArray.size from fun j hj => by
    rw [Nat.zero_add]
    have hj9 : j < ([.int .i64 0, .int .i64 0, .int .i64 0, .bool false, .bool false, .bool false, .bool false, .bool false, .slice none 0 0, .slice none 0 0, .slice none 0 0, .slice none 0 0] : List Value).length := hj
    obtain ⟨u, hu⟩ : ∃ u, ([.int .i64 0, .int .i64 0, .int .i64 0, .bool false, .bool false, .bool false, .bool false, .bool false, .slice none 0 0, .slice none 0 0, .slice none 0 0, .slice none 0 0] : List Value)[j]? = some u := ⟨_, List.getElem?_eq_getElem hj9⟩
    obtain ⟨h1, h2⟩ := HR.out.1 j u hu
    exact ⟨by rw [h1]; rfl, h2⟩)
  have HBX := Lib.hid (show HeldT gR [.int .i64 ki, .int .i64 0, .int .i64 0, .bool true, .bool false, .bool false, .bool false, .bool false, .slice (some ⟨gQ, 0, none⟩) 1 1, .slice none 0 0, .slice none 0 0, .slice none 0 0] (w3.setCells gR 0 [.int .i64 ki, .int .i64 0, .int .i64 0, .bool true, .bool false, .bool false, .bool false, .bool false, .slice (some ⟨gQ, 0, none⟩) 1 1, .slice none 0 0, .slice none 0 0, .slice none 0 0]) from HR.out.into rfl)
  have HB9 := Lib.hid (tb_sets HB.out (b := gR) HS.out.1 0 [.int .i64 ki, .int .i64 0, .int .i64 0, .bool true, .bool false, .bool false, .bool false, .bool false, .slice (some ⟨gQ, 0, none⟩) 1 1, .slice none 0 0, .slice none 0 0, .slice none 0 0])
  have HQ9 := Lib.hid (HQ.out.frm ((Frm.refl w3 [gR]).sets gR 0 (Or.inl (by simp)) [.int .i64 ki, .int .i64 0, .int .i64 0, .bool true, .bool false, .bool false, .bool false, .bool false, .slice (some ⟨gQ, 0, none⟩) 1 1, .slice none 0 0, .slice none 0 0, .slice none 0 0]) (by simp; have := HS.out; omega))
  have HMR := Lib.hid (show w3.rangeAt (gQ + 1) 0 [.int .i64 ki, .int .i64 0, .int .i64 0, .bool true, .bool false, .bool false, .bool false, .bool false, .slice (some ⟨gQ, 0, none⟩) 1 1, .slice none 0 0, .slice none 0 0, .slice none 0 0] from fun j v hj => by rw [Nat.zero_add]; exact (HM.out.1 j v hj).1)
  obtain ⟨w9, hw9⟩ : ∃ z, w3.setCells gR 0 [.int .i64 ki, .int .i64 0, .int .i64 0, .bool true, .bool false, .bool false, .bool false, .bool false, .slice (some ⟨gQ, 0, none⟩) 1 1, .slice none 0 0, .slice none 0 0, .slice none 0 0] = z := ⟨_, rfl⟩
  rw [hw9] at HBX HB9 HQ9
  have HW9 := Lib.hid (show w3.setCells gR 0 ([.int .i64 ki, .int .i64 0, .int .i64 0, .bool true, .bool false, .bool false, .bool false, .bool false, .slice (some ⟨gQ, 0, none⟩) 1 1, .slice none 0 0, .slice none 0 0, .slice none 0 0] : List Value).toArray.toList = w9 from hw9)
  have HON := Lib.hid (one_x (ki) true gQ)
  clear hw9
  go_wp2_with (first | (refine wpList_load_mid rfl 75 (.tmp 5) rfl _ _ rfl _ _ HMR.out Try.underlying75 rfl (by kernel_rfl) ?_) | (refine wpList_store_mid rfl 75 (.tmp 4) (.tmp 47) rfl _ _ _ rfl rfl HRT.out (by kernel_rfl) (all_oneCell_toArray HON.out) ?_; rw [HW9.out]))
  refine bodyPost_ret (v := .agg ([.int .i64 ki, .int .i64 0, .int .i64 0, .bool true, .bool false, .bool false, .bool false, .bool false, .slice (some ⟨gQ, 0, none⟩) 1 1, .slice none 0 0, .slice none 0 0, .slice none 0 0] : List Value).toArray) ?_ rfl ⟨gQ, rfl, ⟨rfl, Or.inr ⟨gQ, 0, rfl, HQ9.out.2, fun j r hj => by
    have hj0 : j = 0 := by have := (List.getElem?_eq_some_iff.1 hj).1; simp at this; omega
    subst hj0
    obtain rfl := (Option.some.inj hj).symm
    exact ⟨(HQ9.out.1 0 _ rfl).1, (HQ9.out.1 1 _ rfl).1, (HQ9.out.1 2 _ rfl).1⟩⟩⟩, HB9.out, HS.out.2.2⟩
  rw [results_cell1 Try.results46]
  have hr := run_loadVar_mid (P := Try.prog) _ gR 0 75 [.int .i64 ki, .int .i64 0, .int .i64 0, .bool true, .bool false, .bool false, .bool false, .bool false, .slice (some ⟨gQ, 0, none⟩) 1 1, .slice none 0 0, .slice none 0 0, .slice none 0 0] _ (fun j v hj => by rw [Nat.zero_add]; exact (HBX.out.1 j v hj).1) Try.underlying75 rfl (by kernel_rfl)
  show ((asAddr (.pointer (some ⟨gR, 0, none⟩))).run Try.prog _).andThen _ = _
  simp [asAddr, hr]
set_option maxRecDepth 100000 in
set_option maxHeartbeats 8000000 in
theorem answer0F_any (ki kp : Int) (kx : ByteArray) (kt : Bool) (mn : ByteArray) (my mc mj mu : Int) (n : Int) (w : World) (hk : ¬ (1 ≤ n ∧ n ≤ 4)) :
    Calls Try.prog 46 #[.agg #[.int .i64 ki, .int .i64 kp, .string kx, .bool kt, .string mn, .int .i64 my, .int .i64 mc, .int .i64 mj, .int .i64 mu], .int .i64 n] w fun e w' => ∃ gQ, e = .returned (.agg #[.int .i64 ki, .int .i64 0, .int .i64 0, .bool true, .bool false, .bool false, .bool false, .bool false, .slice (some ⟨gQ, 0, none⟩) 1 1, .slice none 0 0, .slice none 0 0, .slice none 0 0]) ∧ RowQs w' (some ⟨gQ, 0, none⟩) 1 [⟨mn, my, mc⟩] ∧ Below w.heap.size w w' ∧ w.heap.size ≤ gQ := by
  have HK := Lib.hid hk
  have y1 := (Below.refl w.heap.size w).alloc (Nat.le_refl _) (.cells #[.int .i64 ki, .int .i64 kp, .string kx, .bool kt, .string mn, .int .i64 my, .int .i64 mc, .int .i64 mj, .int .i64 mu] 84)
  have m1 := HeldT.new w #[.int .i64 ki, .int .i64 kp, .string kx, .bool kt, .string mn, .int .i64 my, .int .i64 mc, .int .i64 mj, .int .i64 mu] 84
  obtain ⟨u1, hu1⟩ : ∃ z, w.alloc (.cells #[.int .i64 ki, .int .i64 kp, .string kx, .bool kt, .string mn, .int .i64 my, .int .i64 mc, .int .i64 mj, .int .i64 mu] 84) = z := ⟨_, rfl⟩
  have z1 : u1.heap.size = w.heap.size + 1 := by rw [← hu1, World.size_alloc]
  rw [hu1] at y1 m1
  have y2 := (Below.refl u1.heap.size u1).alloc (Nat.le_refl _) (.cells #[.int .i64 0, .int .i64 0, .int .i64 0, .bool false, .bool false, .bool false, .bool false, .bool false, .slice none 0 0, .slice none 0 0, .slice none 0 0, .slice none 0 0] 75)
  have m2 := m1.below y2
  have x2 := HeldT.new u1 #[.int .i64 0, .int .i64 0, .int .i64 0, .bool false, .bool false, .bool false, .bool false, .bool false, .slice none 0 0, .slice none 0 0, .slice none 0 0, .slice none 0 0] 75
  obtain ⟨w1, hw1⟩ : ∃ z, u1.alloc (.cells #[.int .i64 0, .int .i64 0, .int .i64 0, .bool false, .bool false, .bool false, .bool false, .bool false, .slice none 0 0, .slice none 0 0, .slice none 0 0, .slice none 0 0] 75) = z := ⟨_, rfl⟩
  have z2 : w1.heap.size = w.heap.size + 2 := by rw [← hw1, World.size_alloc, z1]
  rw [hw1] at y2 m2 x2
  rw [z1] at x2
  have HB := Lib.hid (y1.trans (y2.mono y1.size))
  have HW0 := Lib.hid (show (w.alloc (.cells #[.int .i64 ki, .int .i64 kp, .string kx, .bool kt, .string mn, .int .i64 my, .int .i64 mc, .int .i64 mj, .int .i64 mu] 84)).alloc (.cells #[.int .i64 0, .int .i64 0, .int .i64 0, .bool false, .bool false, .bool false, .bool false, .bool false, .slice none 0 0, .slice none 0 0, .slice none 0 0, .slice none 0 0] 75) = w1 by rw [hu1, hw1])
  obtain ⟨gR, hgR⟩ : ∃ z, w.heap.size + 1 = z := ⟨_, rfl⟩
  obtain ⟨gA, hgA⟩ : ∃ z, w.heap.size = z := ⟨_, rfl⟩
  rw [hgA] at m2
  rw [hgR] at x2
  have HA := Lib.hid m2
  have HR := Lib.hid x2
  have HGR := Lib.hid hgR
  have HGA := Lib.hid hgA
  have HS := Lib.hid (show w.heap.size ≤ gR ∧ gR < w1.heap.size ∧ w.heap.size ≤ w1.heap.size by omega)
  clear y1 m1 hu1 z1 y2 m2 x2 hw1 hgR hgA z2 hk
  go_enter Try.func46, Try.ntmps46
  go_upto_region 1 with (fail)
  rw [HW0.out, HGR.out, HGA.out]
  clear HW0 HGR HGA
  have a0 := (HA.out.1 0 _ rfl).1
  have a4 := (HA.out.1 4 _ rfl).1
  have a5 := (HA.out.1 5 _ rfl).1
  have a6 := (HA.out.1 6 _ rfl).1
  have v1 := (Below.refl w1.heap.size w1).alloc (Nat.le_refl _) (.cells #[.string mn, .int .i64 my, .int .i64 mc] 66)
  have q1 := HeldT.new w1 #[.string mn, .int .i64 my, .int .i64 mc] 66
  obtain ⟨u1, hu1⟩ : ∃ z, w1.alloc (.cells #[.string mn, .int .i64 my, .int .i64 mc] 66) = z := ⟨_, rfl⟩
  have z1 : u1.heap.size = w1.heap.size + 1 := by rw [← hu1, World.size_alloc]
  rw [hu1] at v1 q1
  have v2 := (Below.refl u1.heap.size u1).alloc (Nat.le_refl _) (.cells #[.int .i64 0, .int .i64 0, .int .i64 0, .bool false, .bool false, .bool false, .bool false, .bool false, .slice none 0 0, .slice none 0 0, .slice none 0 0, .slice none 0 0] 75)
  have q2 := q1.below v2
  have p2 := HeldT.new u1 #[.int .i64 0, .int .i64 0, .int .i64 0, .bool false, .bool false, .bool false, .bool false, .bool false, .slice none 0 0, .slice none 0 0, .slice none 0 0, .slice none 0 0] 75
  obtain ⟨u2, hu2⟩ : ∃ z, u1.alloc (.cells #[.int .i64 0, .int .i64 0, .int .i64 0, .bool false, .bool false, .bool false, .bool false, .bool false, .slice none 0 0, .slice none 0 0, .slice none 0 0, .slice none 0 0] 75) = z := ⟨_, rfl⟩
  rw [hu2] at v2 q2 p2
  rw [z1] at p2
  have hb := v1.trans (v2.mono v1.size)
  replace HR := Lib.hid (HR.out.below hb)
  replace HB := Lib.hid (HB.out.trans (hb.mono HB.out.size))
  have HTH := Lib.hid (show ((w1.alloc (.cells #[.string mn, .int .i64 my, .int .i64 mc] 66)).alloc (.cells #[.int .i64 0, .int .i64 0, .int .i64 0, .bool false, .bool false, .bool false, .bool false, .bool false, .slice none 0 0, .slice none 0 0, .slice none 0 0, .slice none 0 0] 75)).there (w1.heap.size + 1) 0 ([.int .i64 ki, .int .i64 0, .int .i64 0, .bool true, .bool false, .bool false, .bool false, .bool false, .slice (some ⟨w1.heap.size, 0, none⟩) 1 1, .slice none 0 0, .slice none 0 0, .slice none 0 0] : List Value).toArray.size from by
    rw [hu1, hu2]
    intro j hj
    rw [Nat.zero_add]
    have hj9 : j < ([.int .i64 0, .int .i64 0, .int .i64 0, .bool false, .bool false, .bool false, .bool false, .bool false, .slice none 0 0, .slice none 0 0, .slice none 0 0, .slice none 0 0] : List Value).length := hj
    obtain ⟨u, hu⟩ : ∃ u, ([.int .i64 0, .int .i64 0, .int .i64 0, .bool false, .bool false, .bool false, .bool false, .bool false, .slice none 0 0, .slice none 0 0, .slice none 0 0, .slice none 0 0] : List Value)[j]? = some u := ⟨_, List.getElem?_eq_getElem hj9⟩
    obtain ⟨h1, h2⟩ := p2.1 j u hu
    exact ⟨by rw [h1]; rfl, h2⟩)
  have HM := Lib.hid (show HeldT (w1.heap.size + 1) [.int .i64 ki, .int .i64 0, .int .i64 0, .bool true, .bool false, .bool false, .bool false, .bool false, .slice (some ⟨w1.heap.size, 0, none⟩) 1 1, .slice none 0 0, .slice none 0 0, .slice none 0 0] (u2.setCells (w1.heap.size + 1) 0 [.int .i64 ki, .int .i64 0, .int .i64 0, .bool true, .bool false, .bool false, .bool false, .bool false, .slice (some ⟨w1.heap.size, 0, none⟩) 1 1, .slice none 0 0, .slice none 0 0, .slice none 0 0]) from p2.into rfl)
  have HS2 := Lib.hid (show w1.heap.size + 2 ≤ u2.heap.size from by have := p2.2; omega)
  have hfr := (Frm.refl u2 [w1.heap.size + 1]).sets (w1.heap.size + 1) 0 (Or.inl (by simp)) [.int .i64 ki, .int .i64 0, .int .i64 0, .bool true, .bool false, .bool false, .bool false, .bool false, .slice (some ⟨w1.heap.size, 0, none⟩) 1 1, .slice none 0 0, .slice none 0 0, .slice none 0 0]
  have HQ := Lib.hid (q2.frm hfr (by simp))
  replace HR := Lib.hid (HR.out.frm hfr (by simp; have := HS.out; omega))
  replace HB := Lib.hid (tb_sets HB.out (b := w1.heap.size + 1) (by have := HS.out; omega) 0 [.int .i64 ki, .int .i64 0, .int .i64 0, .bool true, .bool false, .bool false, .bool false, .bool false, .slice (some ⟨w1.heap.size, 0, none⟩) 1 1, .slice none 0 0, .slice none 0 0, .slice none 0 0])
  obtain ⟨w2, hw2⟩ : ∃ z, u2.setCells (w1.heap.size + 1) 0 [.int .i64 ki, .int .i64 0, .int .i64 0, .bool true, .bool false, .bool false, .bool false, .bool false, .slice (some ⟨w1.heap.size, 0, none⟩) 1 1, .slice none 0 0, .slice none 0 0, .slice none 0 0] = z := ⟨_, rfl⟩
  rw [hw2] at HM HQ HR HB
  have HW2 := Lib.hid (show ((w1.alloc (.cells #[.string mn, .int .i64 my, .int .i64 mc] 66)).alloc (.cells #[.int .i64 0, .int .i64 0, .int .i64 0, .bool false, .bool false, .bool false, .bool false, .bool false, .slice none 0 0, .slice none 0 0, .slice none 0 0, .slice none 0 0] 75)).setCells (w1.heap.size + 1) 0 ([.int .i64 ki, .int .i64 0, .int .i64 0, .bool true, .bool false, .bool false, .bool false, .bool false, .slice (some ⟨w1.heap.size, 0, none⟩) 1 1, .slice none 0 0, .slice none 0 0, .slice none 0 0] : List Value).toArray.toList = w2 from by rw [hu1, hu2]; exact hw2)
  have HON := Lib.hid (one_x ki true w1.heap.size)
  obtain ⟨gQ, hgQ⟩ : ∃ z, w1.heap.size = z := ⟨_, rfl⟩
  have HGQ := Lib.hid hgQ
  clear v1 q1 hu1 z1 v2 q2 p2 hu2 hb hfr hw2 HA
  rw [hgQ] at HM HQ HS HS2
  clear hgQ
  go_upto_region 2 with (first | (refine wpList_store_mid rfl 75 (.tmp 5) (.tmp 13) rfl _ _ _ rfl rfl HTH.out (by kernel_rfl) (all_oneCell_toArray HON.out) ?_; rw [HW2.out]))
  rw [HGQ.out]
  clear HTH HON HW2 HGQ a0 a4 a5 a6
  have e1 : (n == 1) = false := eF (by have := HK.out; omega)
  have e2 : (n == 2) = false := eF (by have := HK.out; omega)
  have e3 : (n == 3) = false := eF (by have := HK.out; omega)
  have e4 : (n == 4) = false := eF (by have := HK.out; omega)
  have HRT := Lib.hid (show w2.there gR 0 ([.int .i64 ki, .int .i64 0, .int .i64 0, .bool true, .bool false, .bool false, .bool false, .bool false, .slice (some ⟨gQ, 0, none⟩) 1 1, .slice none 0 0, .slice none 0 0, .slice none 0 0] : List Value).toArray.size from fun j hj => by
    rw [Nat.zero_add]
    have hj9 : j < ([.int .i64 0, .int .i64 0, .int .i64 0, .bool false, .bool false, .bool false, .bool false, .bool false, .slice none 0 0, .slice none 0 0, .slice none 0 0, .slice none 0 0] : List Value).length := hj
    obtain ⟨u, hu⟩ : ∃ u, ([.int .i64 0, .int .i64 0, .int .i64 0, .bool false, .bool false, .bool false, .bool false, .bool false, .slice none 0 0, .slice none 0 0, .slice none 0 0, .slice none 0 0] : List Value)[j]? = some u := ⟨_, List.getElem?_eq_getElem hj9⟩
    obtain ⟨h1, h2⟩ := HR.out.1 j u hu
    exact ⟨by rw [h1]; rfl, h2⟩)
  have HBX := Lib.hid (show HeldT gR [.int .i64 ki, .int .i64 0, .int .i64 0, .bool true, .bool false, .bool false, .bool false, .bool false, .slice (some ⟨gQ, 0, none⟩) 1 1, .slice none 0 0, .slice none 0 0, .slice none 0 0] (w2.setCells gR 0 [.int .i64 ki, .int .i64 0, .int .i64 0, .bool true, .bool false, .bool false, .bool false, .bool false, .slice (some ⟨gQ, 0, none⟩) 1 1, .slice none 0 0, .slice none 0 0, .slice none 0 0]) from HR.out.into rfl)
  have HB9 := Lib.hid (tb_sets HB.out (b := gR) HS.out.1 0 [.int .i64 ki, .int .i64 0, .int .i64 0, .bool true, .bool false, .bool false, .bool false, .bool false, .slice (some ⟨gQ, 0, none⟩) 1 1, .slice none 0 0, .slice none 0 0, .slice none 0 0])
  have HQ9 := Lib.hid (HQ.out.frm ((Frm.refl w2 [gR]).sets gR 0 (Or.inl (by simp)) [.int .i64 ki, .int .i64 0, .int .i64 0, .bool true, .bool false, .bool false, .bool false, .bool false, .slice (some ⟨gQ, 0, none⟩) 1 1, .slice none 0 0, .slice none 0 0, .slice none 0 0]) (by simp; have := HS.out; omega))
  have HMR := Lib.hid (show w2.rangeAt (gQ + 1) 0 [.int .i64 ki, .int .i64 0, .int .i64 0, .bool true, .bool false, .bool false, .bool false, .bool false, .slice (some ⟨gQ, 0, none⟩) 1 1, .slice none 0 0, .slice none 0 0, .slice none 0 0] from fun j v hj => by rw [Nat.zero_add]; exact (HM.out.1 j v hj).1)
  obtain ⟨w9, hw9⟩ : ∃ z, w2.setCells gR 0 [.int .i64 ki, .int .i64 0, .int .i64 0, .bool true, .bool false, .bool false, .bool false, .bool false, .slice (some ⟨gQ, 0, none⟩) 1 1, .slice none 0 0, .slice none 0 0, .slice none 0 0] = z := ⟨_, rfl⟩
  rw [hw9] at HBX HB9 HQ9
  have HW9 := Lib.hid (show w2.setCells gR 0 ([.int .i64 ki, .int .i64 0, .int .i64 0, .bool true, .bool false, .bool false, .bool false, .bool false, .slice (some ⟨gQ, 0, none⟩) 1 1, .slice none 0 0, .slice none 0 0, .slice none 0 0] : List Value).toArray.toList = w9 from hw9)
  have HON := Lib.hid (one_x (ki) true gQ)
  clear hw9
  go_wp2_with (first | (refine wpList_load_mid rfl 75 (.tmp 5) rfl _ _ rfl _ _ HMR.out Try.underlying75 rfl (by kernel_rfl) ?_) | (refine wpList_store_mid rfl 75 (.tmp 4) (.tmp 47) rfl _ _ _ rfl rfl HRT.out (by kernel_rfl) (all_oneCell_toArray HON.out) ?_; rw [HW9.out]))
  refine bodyPost_ret (v := .agg ([.int .i64 ki, .int .i64 0, .int .i64 0, .bool true, .bool false, .bool false, .bool false, .bool false, .slice (some ⟨gQ, 0, none⟩) 1 1, .slice none 0 0, .slice none 0 0, .slice none 0 0] : List Value).toArray) ?_ rfl ⟨gQ, rfl, ⟨rfl, Or.inr ⟨gQ, 0, rfl, HQ9.out.2, fun j r hj => by
    have hj0 : j = 0 := by have := (List.getElem?_eq_some_iff.1 hj).1; simp at this; omega
    subst hj0
    obtain rfl := (Option.some.inj hj).symm
    exact ⟨(HQ9.out.1 0 _ rfl).1, (HQ9.out.1 1 _ rfl).1, (HQ9.out.1 2 _ rfl).1⟩⟩⟩, HB9.out, HS.out.2.2⟩
  rw [results_cell1 Try.results46]
  have hr := run_loadVar_mid (P := Try.prog) _ gR 0 75 [.int .i64 ki, .int .i64 0, .int .i64 0, .bool true, .bool false, .bool false, .bool false, .bool false, .slice (some ⟨gQ, 0, none⟩) 1 1, .slice none 0 0, .slice none 0 0, .slice none 0 0] _ (fun j v hj => by rw [Nat.zero_add]; exact (HBX.out.1 j v hj).1) Try.underlying75 rfl (by kernel_rfl)
  show ((asAddr (.pointer (some ⟨gR, 0, none⟩))).run Try.prog _).andThen _ = _
  simp [asAddr, hr]
set_option maxRecDepth 100000 in
set_option maxHeartbeats 8000000 in
theorem answer4F_any (ki kp : Int) (kx : ByteArray) (kt : Bool) (mn : ByteArray) (my mc mj mu : Int) (w : World) :
    Calls Try.prog 46 #[.agg #[.int .i64 ki, .int .i64 kp, .string kx, .bool kt, .string mn, .int .i64 my, .int .i64 mc, .int .i64 mj, .int .i64 mu], .int .i64 4] w fun e w' => ∃ gN cN, e = .returned (.agg #[.int .i64 ki, .int .i64 0, .int .i64 0, .bool true, .bool false, .bool false, .bool false, .bool false, .slice (some ⟨gN, 0, none⟩) 2 cN, .slice none 0 0, .slice none 0 0, .slice none 0 0]) ∧ RowQs w' (some ⟨gN, 0, none⟩) 2 [⟨mn, my, mc⟩, ⟨mn, my, mc⟩] ∧ Below w.heap.size w w' ∧ w.heap.size ≤ gN := by
  have y1 := (Below.refl w.heap.size w).alloc (Nat.le_refl _) (.cells #[.int .i64 ki, .int .i64 kp, .string kx, .bool kt, .string mn, .int .i64 my, .int .i64 mc, .int .i64 mj, .int .i64 mu] 84)
  have m1 := HeldT.new w #[.int .i64 ki, .int .i64 kp, .string kx, .bool kt, .string mn, .int .i64 my, .int .i64 mc, .int .i64 mj, .int .i64 mu] 84
  obtain ⟨u1, hu1⟩ : ∃ z, w.alloc (.cells #[.int .i64 ki, .int .i64 kp, .string kx, .bool kt, .string mn, .int .i64 my, .int .i64 mc, .int .i64 mj, .int .i64 mu] 84) = z := ⟨_, rfl⟩
  have z1 : u1.heap.size = w.heap.size + 1 := by rw [← hu1, World.size_alloc]
  rw [hu1] at y1 m1
  have y2 := (Below.refl u1.heap.size u1).alloc (Nat.le_refl _) (.cells #[.int .i64 0, .int .i64 0, .int .i64 0, .bool false, .bool false, .bool false, .bool false, .bool false, .slice none 0 0, .slice none 0 0, .slice none 0 0, .slice none 0 0] 75)
  have m2 := m1.below y2
  have x2 := HeldT.new u1 #[.int .i64 0, .int .i64 0, .int .i64 0, .bool false, .bool false, .bool false, .bool false, .bool false, .slice none 0 0, .slice none 0 0, .slice none 0 0, .slice none 0 0] 75
  obtain ⟨w1, hw1⟩ : ∃ z, u1.alloc (.cells #[.int .i64 0, .int .i64 0, .int .i64 0, .bool false, .bool false, .bool false, .bool false, .bool false, .slice none 0 0, .slice none 0 0, .slice none 0 0, .slice none 0 0] 75) = z := ⟨_, rfl⟩
  have z2 : w1.heap.size = w.heap.size + 2 := by rw [← hw1, World.size_alloc, z1]
  rw [hw1] at y2 m2 x2
  rw [z1] at x2
  have HB := Lib.hid (y1.trans (y2.mono y1.size))
  have HW0 := Lib.hid (show (w.alloc (.cells #[.int .i64 ki, .int .i64 kp, .string kx, .bool kt, .string mn, .int .i64 my, .int .i64 mc, .int .i64 mj, .int .i64 mu] 84)).alloc (.cells #[.int .i64 0, .int .i64 0, .int .i64 0, .bool false, .bool false, .bool false, .bool false, .bool false, .slice none 0 0, .slice none 0 0, .slice none 0 0, .slice none 0 0] 75) = w1 by rw [hu1, hw1])
  obtain ⟨gR, hgR⟩ : ∃ z, w.heap.size + 1 = z := ⟨_, rfl⟩
  obtain ⟨gA, hgA⟩ : ∃ z, w.heap.size = z := ⟨_, rfl⟩
  rw [hgA] at m2
  rw [hgR] at x2
  have HA := Lib.hid m2
  have HR := Lib.hid x2
  have HGR := Lib.hid hgR
  have HGA := Lib.hid hgA
  have HS := Lib.hid (show w.heap.size ≤ gR ∧ gR < w1.heap.size ∧ w.heap.size ≤ w1.heap.size by omega)
  clear y1 m1 hu1 z1 y2 m2 x2 hw1 hgR hgA z2
  go_enter Try.func46, Try.ntmps46
  go_upto_region 1 with (fail)
  rw [HW0.out, HGR.out, HGA.out]
  clear HW0 HGR HGA
  have a0 := (HA.out.1 0 _ rfl).1
  have a4 := (HA.out.1 4 _ rfl).1
  have a5 := (HA.out.1 5 _ rfl).1
  have a6 := (HA.out.1 6 _ rfl).1
  have v1 := (Below.refl w1.heap.size w1).alloc (Nat.le_refl _) (.cells #[.string mn, .int .i64 my, .int .i64 mc] 66)
  have q1 := HeldT.new w1 #[.string mn, .int .i64 my, .int .i64 mc] 66
  obtain ⟨u1, hu1⟩ : ∃ z, w1.alloc (.cells #[.string mn, .int .i64 my, .int .i64 mc] 66) = z := ⟨_, rfl⟩
  have z1 : u1.heap.size = w1.heap.size + 1 := by rw [← hu1, World.size_alloc]
  rw [hu1] at v1 q1
  have v2 := (Below.refl u1.heap.size u1).alloc (Nat.le_refl _) (.cells #[.int .i64 0, .int .i64 0, .int .i64 0, .bool false, .bool false, .bool false, .bool false, .bool false, .slice none 0 0, .slice none 0 0, .slice none 0 0, .slice none 0 0] 75)
  have q2 := q1.below v2
  have o1 := World.ownsRow_lit (base := 0) (size := 3) (e := 66) w1 #[.string mn, .int .i64 my, .int .i64 mc] 1 (Nat.zero_le _) (by decide) rfl
  rw [hu1] at o1
  have p2 := HeldT.new u1 #[.int .i64 0, .int .i64 0, .int .i64 0, .bool false, .bool false, .bool false, .bool false, .bool false, .slice none 0 0, .slice none 0 0, .slice none 0 0, .slice none 0 0] 75
  obtain ⟨u2, hu2⟩ : ∃ z, u1.alloc (.cells #[.int .i64 0, .int .i64 0, .int .i64 0, .bool false, .bool false, .bool false, .bool false, .bool false, .slice none 0 0, .slice none 0 0, .slice none 0 0, .slice none 0 0] 75) = z := ⟨_, rfl⟩
  rw [hu2] at v2 q2 p2
  have o2 := own_kept o1 (fun g hg => v2.block g (o1.lt g hg).2)
  rw [z1] at p2
  have hb := v1.trans (v2.mono v1.size)
  replace HR := Lib.hid (HR.out.below hb)
  replace HB := Lib.hid (HB.out.trans (hb.mono HB.out.size))
  have HTH := Lib.hid (show ((w1.alloc (.cells #[.string mn, .int .i64 my, .int .i64 mc] 66)).alloc (.cells #[.int .i64 0, .int .i64 0, .int .i64 0, .bool false, .bool false, .bool false, .bool false, .bool false, .slice none 0 0, .slice none 0 0, .slice none 0 0, .slice none 0 0] 75)).there (w1.heap.size + 1) 0 ([.int .i64 ki, .int .i64 0, .int .i64 0, .bool true, .bool false, .bool false, .bool false, .bool false, .slice (some ⟨w1.heap.size, 0, none⟩) 1 1, .slice none 0 0, .slice none 0 0, .slice none 0 0] : List Value).toArray.size from by
    rw [hu1, hu2]
    intro j hj
    rw [Nat.zero_add]
    have hj9 : j < ([.int .i64 0, .int .i64 0, .int .i64 0, .bool false, .bool false, .bool false, .bool false, .bool false, .slice none 0 0, .slice none 0 0, .slice none 0 0, .slice none 0 0] : List Value).length := hj
    obtain ⟨u, hu⟩ : ∃ u, ([.int .i64 0, .int .i64 0, .int .i64 0, .bool false, .bool false, .bool false, .bool false, .bool false, .slice none 0 0, .slice none 0 0, .slice none 0 0, .slice none 0 0] : List Value)[j]? = some u := ⟨_, List.getElem?_eq_getElem hj9⟩
    obtain ⟨h1, h2⟩ := p2.1 j u hu
    exact ⟨by rw [h1]; rfl, h2⟩)
  have HM := Lib.hid (show HeldT (w1.heap.size + 1) [.int .i64 ki, .int .i64 0, .int .i64 0, .bool true, .bool false, .bool false, .bool false, .bool false, .slice (some ⟨w1.heap.size, 0, none⟩) 1 1, .slice none 0 0, .slice none 0 0, .slice none 0 0] (u2.setCells (w1.heap.size + 1) 0 [.int .i64 ki, .int .i64 0, .int .i64 0, .bool true, .bool false, .bool false, .bool false, .bool false, .slice (some ⟨w1.heap.size, 0, none⟩) 1 1, .slice none 0 0, .slice none 0 0, .slice none 0 0]) from p2.into rfl)
  have HS2 := Lib.hid (show w1.heap.size + 2 ≤ u2.heap.size from by have := p2.2; omega)
  have hfr := (Frm.refl u2 [w1.heap.size + 1]).sets (w1.heap.size + 1) 0 (Or.inl (by simp)) [.int .i64 ki, .int .i64 0, .int .i64 0, .bool true, .bool false, .bool false, .bool false, .bool false, .slice (some ⟨w1.heap.size, 0, none⟩) 1 1, .slice none 0 0, .slice none 0 0, .slice none 0 0]
  have HQ := Lib.hid (q2.frm hfr (by simp))
  have HO := Lib.hid (own_kept (o2) (fun g hg => hfr.block g (o2.lt g hg).2 (by have h9 : w1.heap.size = g := Option.some.inj hg; simp; omega)))
  replace HA := Lib.hid ((HA.out.below hb).frm hfr (by simp; have := HA.out.2; omega))
  replace HR := Lib.hid (HR.out.frm hfr (by simp; have := HS.out; omega))
  replace HB := Lib.hid (tb_sets HB.out (b := w1.heap.size + 1) (by have := HS.out; omega) 0 [.int .i64 ki, .int .i64 0, .int .i64 0, .bool true, .bool false, .bool false, .bool false, .bool false, .slice (some ⟨w1.heap.size, 0, none⟩) 1 1, .slice none 0 0, .slice none 0 0, .slice none 0 0])
  obtain ⟨w2, hw2⟩ : ∃ z, u2.setCells (w1.heap.size + 1) 0 [.int .i64 ki, .int .i64 0, .int .i64 0, .bool true, .bool false, .bool false, .bool false, .bool false, .slice (some ⟨w1.heap.size, 0, none⟩) 1 1, .slice none 0 0, .slice none 0 0, .slice none 0 0] = z := ⟨_, rfl⟩
  rw [hw2] at HM HQ HR HB HO HA
  have HW2 := Lib.hid (show ((w1.alloc (.cells #[.string mn, .int .i64 my, .int .i64 mc] 66)).alloc (.cells #[.int .i64 0, .int .i64 0, .int .i64 0, .bool false, .bool false, .bool false, .bool false, .bool false, .slice none 0 0, .slice none 0 0, .slice none 0 0, .slice none 0 0] 75)).setCells (w1.heap.size + 1) 0 ([.int .i64 ki, .int .i64 0, .int .i64 0, .bool true, .bool false, .bool false, .bool false, .bool false, .slice (some ⟨w1.heap.size, 0, none⟩) 1 1, .slice none 0 0, .slice none 0 0, .slice none 0 0] : List Value).toArray.toList = w2 from by rw [hu1, hu2]; exact hw2)
  have HON := Lib.hid (one_x ki true w1.heap.size)
  obtain ⟨gQ, hgQ⟩ : ∃ z, w1.heap.size = z := ⟨_, rfl⟩
  have HGQ := Lib.hid hgQ
  clear v1 q1 hu1 z1 v2 q2 p2 hu2 hb hfr hw2 o1 o2
  rw [hgQ] at HM HQ HO HS HS2
  clear hgQ
  go_upto_region 2 with (first | (refine wpList_store_mid rfl 75 (.tmp 5) (.tmp 13) rfl _ _ _ rfl rfl HTH.out (by kernel_rfl) (all_oneCell_toArray HON.out) ?_; rw [HW2.out]))
  rw [HGQ.out]
  clear HTH HON HW2 HGQ a0 a4 a5 a6
  clear HQ
  obtain ⟨i0, hi, hz0, hz1, hz2⟩ := info_parts infoQt
  have HI := Lib.hid hi
  have HZ0 := Lib.hid hz0
  have HZ1 := Lib.hid hz1
  have HZ2 := Lib.hid hz2
  clear hi hz0 hz1 hz2
  go_upto_region 10 with (fail)
  have a4 := (HA.out.1 4 _ rfl).1
  have a5 := (HA.out.1 5 _ rfl).1
  have a6 := (HA.out.1 6 _ rfl).1
  have m8 := (HM.out.1 8 _ rfl).1
  have hal := (Below.refl w2.heap.size w2).alloc (Nat.le_refl _) (.cells #[.string mn, .int .i64 my, .int .i64 mc] 66)
  have HOA := Lib.hid (HO.out.alloc (.cells #[.string mn, .int .i64 my, .int .i64 mc] 66))
  have HMA := Lib.hid (HM.out.below hal)
  have HRA := Lib.hid (HR.out.below hal)
  have HBA := Lib.hid (HB.out.trans (hal.mono HB.out.size))
  have HCA := Lib.hid (show CellsAt (w2.alloc (.cells #[.string mn, .int .i64 my, .int .i64 mc] 66)) (some ⟨w2.heap.size, 0, none⟩) (1 * 3) [.string mn, .int .i64 my, .int .i64 mc] from cells_lit w2 #[.string mn, .int .i64 my, .int .i64 mc] 66)
  have HOQ := Lib.hid (show ∀ u ∈ ([.string mn, .int .i64 my, .int .i64 mc] : List Value), u.oneCell' = true by simp [Value.oneCell'])
  clear hal
  go_wp2_with (refine wpList_append_fr rfl (.tmp 41) (.tmp 44) 72 66 rfl i0 zQt 3 32 Try.underlying72 HI.out HZ0.out HZ1.out HZ2.out rfl (by decide) (.slice (some ⟨gQ, 0, none⟩) 1 1) 1 [.string mn, .int .i64 my, .int .i64 mc] rfl HOA.out ⟨w2.heap.size, 0, none⟩ 1 1 [.string mn, .int .i64 my, .int .i64 mc] rfl HCA.out HOQ.out (by decide) (by decide) ?_)
  intro v' w3 g1 g2 g3
  obtain ⟨gN, cN, rfl, -, -⟩ := g1.form (by decide)
  replace g3 := g3 gN rfl
  have hz : (w2.alloc (.cells #[.string mn, .int .i64 my, .int .i64 mc] 66)).heap.size = w2.heap.size + 1 := World.size_alloc _ _
  have hgn : gN = gQ ∨ w2.heap.size + 1 ≤ gN := g3.imp (fun e => (Option.some.inj e).symm) (fun h => by omega)
  have hm2 := HM.out.2
  have hr2 := HR.out.2
  have hs0 := HS.out
  have hbs := HB.out.size
  have HGN := Lib.hid (show gN ≠ gQ + 1 ∧ gN ≠ gR ∧ w.heap.size ≤ gN by omega)
  have HM3 := Lib.hid (HMA.out.grown g2 (fun g hg => by have h9 : gQ = g := Option.some.inj hg; omega))
  have HR3 := Lib.hid (HRA.out.grown g2 (fun g hg => by have h9 : gQ = g := Option.some.inj hg; omega))
  have HB3 := Lib.hid (HBA.out.grown g2 HBA.out.size (fun g hg => by have h9 : gQ = g := Option.some.inj hg; omega))
  have HO3 := Lib.hid g1
  clear g1 g2 g3 hz hgn hm2 hr2 hs0 hbs a4 a5 a6 m8 HOA HMA HRA HBA HCA HM HR HB HO HA
  have m8 := (HM3.out.1 8 _ rfl).1
  have mf := (HM3.out.1 8 _ rfl).2
  have HM := Lib.hid (show HeldT (gQ + 1) [.int .i64 ki, .int .i64 0, .int .i64 0, .bool true, .bool false, .bool false, .bool false, .bool false, .slice (some ⟨gN, 0, none⟩) 2 cN, .slice none 0 0, .slice none 0 0, .slice none 0 0] (w3.setCell ⟨gQ + 1, 8, none⟩ (.slice (some ⟨gN, 0, none⟩) 2 cN)) from HM3.out.set (i := 8) (by simp) (.slice (some ⟨gN, 0, none⟩) 2 cN))
  have HR := Lib.hid (HR3.out.other (p := gQ + 1) (i := 8) (by have := HS.out; omega) (.slice (some ⟨gN, 0, none⟩) 2 cN))
  have HB := Lib.hid (HB3.out.setCell (p := ⟨gQ + 1, 8, none⟩) (by show w.heap.size ≤ gQ + 1; have := HS.out; omega) (.slice (some ⟨gN, 0, none⟩) 2 cN))
  have HO := Lib.hid (own_kept HO3.out (w' := w3.setCell ⟨gQ + 1, 8, none⟩ (.slice (some ⟨gN, 0, none⟩) 2 cN)) (fun g hg => by have h9 : gN = g := Option.some.inj hg; exact Below.heap_setCell _ _ _ _ (by have := HGN.out; show g ≠ gQ + 1; omega)))
  obtain ⟨w4, hw4⟩ : ∃ z, w3.setCell ⟨gQ + 1, 8, none⟩ (.slice (some ⟨gN, 0, none⟩) 2 cN) = z := ⟨_, rfl⟩
  rw [hw4] at HM HR HB HO
  have HW4 := Lib.hid hw4
  clear hw4 HM3 HR3 HB3 HO3
  go_upto_region 11 with (fail)
  rw [HW4.out]
  clear HW4 m8 mf
  have HRT := Lib.hid (show w4.there gR 0 ([.int .i64 ki, .int .i64 0, .int .i64 0, .bool true, .bool false, .bool false, .bool false, .bool false, .slice (some ⟨gN, 0, none⟩) 2 cN, .slice none 0 0, .slice none 0 0, .slice none 0 0] : List Value).toArray.size from fun j hj => by
    rw [Nat.zero_add]
    have hj9 : j < ([.int .i64 0, .int .i64 0, .int .i64 0, .bool false, .bool false, .bool false, .bool false, .bool false, .slice none 0 0, .slice none 0 0, .slice none 0 0, .slice none 0 0] : List Value).length := hj
    obtain ⟨u, hu⟩ : ∃ u, ([.int .i64 0, .int .i64 0, .int .i64 0, .bool false, .bool false, .bool false, .bool false, .bool false, .slice none 0 0, .slice none 0 0, .slice none 0 0, .slice none 0 0] : List Value)[j]? = some u := ⟨_, List.getElem?_eq_getElem hj9⟩
    obtain ⟨h1, h2⟩ := HR.out.1 j u hu
    exact ⟨by rw [h1]; rfl, h2⟩)
  have HBX := Lib.hid (show HeldT gR [.int .i64 ki, .int .i64 0, .int .i64 0, .bool true, .bool false, .bool false, .bool false, .bool false, .slice (some ⟨gN, 0, none⟩) 2 cN, .slice none 0 0, .slice none 0 0, .slice none 0 0] (w4.setCells gR 0 [.int .i64 ki, .int .i64 0, .int .i64 0, .bool true, .bool false, .bool false, .bool false, .bool false, .slice (some ⟨gN, 0, none⟩) 2 cN, .slice none 0 0, .slice none 0 0, .slice none 0 0]) from HR.out.into rfl)
  have HB9 := Lib.hid (tb_sets HB.out (b := gR) HS.out.1 0 [.int .i64 ki, .int .i64 0, .int .i64 0, .bool true, .bool false, .bool false, .bool false, .bool false, .slice (some ⟨gN, 0, none⟩) 2 cN, .slice none 0 0, .slice none 0 0, .slice none 0 0])
  have hfr9 := (Frm.refl w4 [gR]).sets gR 0 (Or.inl (by simp)) [.int .i64 ki, .int .i64 0, .int .i64 0, .bool true, .bool false, .bool false, .bool false, .bool false, .slice (some ⟨gN, 0, none⟩) 2 cN, .slice none 0 0, .slice none 0 0, .slice none 0 0]
  have HO9 := Lib.hid (own_kept HO.out (fun g hg => hfr9.block g (HO.out.lt g hg).2 (by have h9 : gN = g := Option.some.inj hg; simp; have := HGN.out; omega)))
  have HMR := Lib.hid (show w4.rangeAt (gQ + 1) 0 [.int .i64 ki, .int .i64 0, .int .i64 0, .bool true, .bool false, .bool false, .bool false, .bool false, .slice (some ⟨gN, 0, none⟩) 2 cN, .slice none 0 0, .slice none 0 0, .slice none 0 0] from fun j v hj => by rw [Nat.zero_add]; exact (HM.out.1 j v hj).1)
  obtain ⟨w9, hw9⟩ : ∃ z, w4.setCells gR 0 [.int .i64 ki, .int .i64 0, .int .i64 0, .bool true, .bool false, .bool false, .bool false, .bool false, .slice (some ⟨gN, 0, none⟩) 2 cN, .slice none 0 0, .slice none 0 0, .slice none 0 0] = z := ⟨_, rfl⟩
  rw [hw9] at HBX HB9 HO9
  have HW9 := Lib.hid (show w4.setCells gR 0 ([.int .i64 ki, .int .i64 0, .int .i64 0, .bool true, .bool false, .bool false, .bool false, .bool false, .slice (some ⟨gN, 0, none⟩) 2 cN, .slice none 0 0, .slice none 0 0, .slice none 0 0] : List Value).toArray.toList = w9 from hw9)
  have HON := Lib.hid (one_x4 ki true gN cN)
  clear hw9 hfr9
  go_wp2_with (first | (refine wpList_load_mid rfl 75 (.tmp 5) rfl _ _ rfl _ _ HMR.out Try.underlying75 rfl (by kernel_rfl) ?_) | (refine wpList_store_mid rfl 75 (.tmp 4) (.tmp 47) rfl _ _ _ rfl rfl HRT.out (by kernel_rfl) (all_oneCell_toArray HON.out) ?_; rw [HW9.out]))
  refine bodyPost_ret (v := .agg ([.int .i64 ki, .int .i64 0, .int .i64 0, .bool true, .bool false, .bool false, .bool false, .bool false, .slice (some ⟨gN, 0, none⟩) 2 cN, .slice none 0 0, .slice none 0 0, .slice none 0 0] : List Value).toArray) ?_ rfl ⟨gN, ⟨cN, rfl⟩, ⟨rfl, Or.inr ⟨gN, 0, rfl, (HO9.out.lt gN rfl).2, fun j r hj => by
    have hc := fun k u hk => ownsRow_at HO9.out k u hk
    match j, hj with
    | 0, hj => obtain rfl := (Option.some.inj hj).symm; exact ⟨hc 0 _ rfl, hc 1 _ rfl, hc 2 _ rfl⟩
    | 1, hj => obtain rfl := (Option.some.inj hj).symm; exact ⟨hc 3 _ rfl, hc 4 _ rfl, hc 5 _ rfl⟩
    | j + 2, hj => simp at hj⟩⟩, HB9.out, HGN.out.2.2⟩
  rw [results_cell1 Try.results46]
  have hr := run_loadVar_mid (P := Try.prog) _ gR 0 75 [.int .i64 ki, .int .i64 0, .int .i64 0, .bool true, .bool false, .bool false, .bool false, .bool false, .slice (some ⟨gN, 0, none⟩) 2 cN, .slice none 0 0, .slice none 0 0, .slice none 0 0] _ (fun j v hj => by rw [Nat.zero_add]; exact (HBX.out.1 j v hj).1) Try.underlying75 rfl (by kernel_rfl)
  show ((asAddr (.pointer (some ⟨gR, 0, none⟩))).run Try.prog _).andThen _ = _
  simp [asAddr, hr]
theorem RowQs.frm {w w' : World} {a : Option Addr} {n : Nat} {L : List QsP} {bs : List Nat} (h : RowQs w a n L) (hf : Frm w w' bs) (ha : ∀ b off, a = some ⟨b, off, none⟩ → b ∉ bs) : RowQs w' a n L := by
  refine ⟨h.1, h.2.imp id ?_⟩
  rintro ⟨b, off, e, hlt, hc⟩
  have hk : ∀ {i : Nat} {v : Value}, w.cell? ⟨b, i, none⟩ = some v → w'.cell? ⟨b, i, none⟩ = some v := fun h => hf.cellT h (ha b off e)
  exact ⟨b, off, e, Nat.lt_of_lt_of_le hlt hf.size, fun j r hj => by obtain ⟨h1, h2, h3⟩ := hc j r hj; exact ⟨hk h1, hk h2, hk h3⟩⟩
theorem rq_lt {w : World} {g n : Nat} {L : List QsP} (h : RowQs w (some ⟨g, 0, none⟩) n L) (hn : n ≠ 0) : g < w.heap.size := by
  rcases h.2 with h0 | ⟨b9, o9, e9, h9, -⟩
  · exact absurd h0 hn
  · injection e9 with e9
    injection e9 with e9
    rw [e9]
    exact h9
theorem ansF_any (ki kp : Int) (kx : ByteArray) (kt : Bool) (mn : ByteArray) (my mc mj mu : Int) (n : Int) (w : World) (hk : 0 ≤ ki ∧ ki < 65536) :
    Calls Try.prog 46 #[.agg #[.int .i64 ki, .int .i64 kp, .string kx, .bool kt, .string mn, .int .i64 my, .int .i64 mc, .int .i64 mj, .int .i64 mu], .int .i64 n] w fun e w' =>
      ∃ (id : Int) (qr : Bool) (g nq cq : Nat) (Q : List QsP), e = .returned (.agg #[.int .i64 id, .int .i64 0, .int .i64 0, .bool qr, .bool false, .bool false, .bool false, .bool false, .slice (some ⟨g, 0, none⟩) nq cq, .slice none 0 0, .slice none 0 0, .slice none 0 0]) ∧ RowQs w' (some ⟨g, 0, none⟩) nq Q ∧ nq ≤ 2 ∧ (w.heap.size ≤ g ∧ g < w'.heap.size) ∧ Below w.heap.size w w' := by
  by_cases hn : ¬ (1 ≤ n ∧ n ≤ 4)
  · refine (answer0F_any ki kp kx kt mn my mc mj mu n w hn).mono ?_
    rintro e w' ⟨gQ, rfl, hq, hb, hg⟩
    exact ⟨ki, true, gQ, 1, 1, _, rfl, hq, by decide, ⟨hg, rq_lt hq (by decide)⟩, hb⟩
  have hc : n = 1 ∨ n = 3 ∨ n = 2 ∨ n = 4 := by omega
  rcases hc with rfl | rfl | rfl | rfl
  · refine (answerF_any ki kp kx kt mn my mc mj mu 1 _ true w hk (Or.inr (Or.inl ⟨rfl, rfl, rfl⟩))).mono ?_
    rintro e w' ⟨gQ, rfl, hq, hb, hg⟩
    exact ⟨_, true, gQ, 1, 1, _, rfl, hq, by decide, ⟨hg, rq_lt hq (by decide)⟩, hb⟩
  · refine (answerF_any ki kp kx kt mn my mc mj mu 3 ki false w hk (Or.inr (Or.inr ⟨rfl, rfl, rfl⟩))).mono ?_
    rintro e w' ⟨gQ, rfl, hq, hb, hg⟩
    exact ⟨_, false, gQ, 1, 1, _, rfl, hq, by decide, ⟨hg, rq_lt hq (by decide)⟩, hb⟩
  · refine (answer2F_any ki kp kx kt mn my mc mj mu _ w rfl).mono ?_
    rintro e w' ⟨gQ, rfl, hq, hb, hg⟩
    exact ⟨_, true, gQ, 1, 1, _, rfl, hq, by decide, ⟨hg, rq_lt hq (by decide)⟩, hb⟩
  · refine (answer4F_any ki kp kx kt mn my mc mj mu w).mono ?_
    rintro e w' ⟨gN, cN, rfl, hq, hb, hg⟩
    exact ⟨_, true, gN, 2, cN, _, rfl, hq, by decide, ⟨hg, rq_lt hq (by decide)⟩, hb⟩
end Go.Proofs.Ytocfphijheidbaa
end

section
namespace Go.Proofs.Ytocfphijheidbaa
open Go.RowKit

set_option maxRecDepth 100000 in
set_option maxHeartbeats 4000000 in
theorem sameR_any (a b : Option Addr) (ca cb n : Nat) (l : List WtP) (w : World) (ha : CellsAt w a (n * 9) (flatW l)) (hb : CellsAt w b (n * 9) (flatW l)) (hl : l.length = n) (hn : n ≤ 10000) :
    Calls Try.prog 51 #[.slice a n ca, .slice b n cb] w fun e w' => e = .returned (.bool true) ∧ Below w.heap.size w w' := by
  have HA := Lib.hid ha
  have HB := Lib.hid hb
  have HL := Lib.hid hl
  have nn : (n != n) = false := by simp
  clear ha hb hl
  go_enter Try.func51, Try.ntmps51
  go_wp2_with fail
  go_loopw [5] (fun i wr => ∃ k : Nat, k ≤ n ∧ i = .int .i64 k ∧ Hid (Below w.heap.size w wr)) (fun i _ => n - (intOf i).toNat)
  case atStart => exact ⟨0, Nat.zero_le _, rfl, Lib.hid (Below.refl _ _)⟩
  case round =>
    obtain ⟨k, hk, rfl, HBK⟩ := hrel
    by_cases hlt : k < n
    · have d0 : decide (k < n) = true := dT hlt
      have d1 : decide ((k : Int) < (n : Int)) = true := dT (by omega)
      rcases HA.out.2 with h0 | ⟨ga, oa, rfl, hga, hac⟩
      · omega
      rcases HB.out.2 with h0 | ⟨gb, ob, rfl, hgb, hbc⟩
      · omega
      obtain ⟨x, hs⟩ : ∃ s, l[k]? = some s := ⟨_, List.getElem?_eq_getElem (by have := HL.out; omega)⟩
      obtain ⟨⟨mi, mp, mx, mt⟩, ⟨mn, my, mc⟩, mj, mu⟩ := x
      have HRA := Lib.hid (show wr.rangeAt ga (oa + k * 9) [.int .i64 mi, .int .i64 mp, .string mx, .bool mt, .string mn, .int .i64 my, .int .i64 mc, .int .i64 mj, .int .i64 mu] ∧ wr.rangeAt gb (ob + k * 9) [.int .i64 mi, .int .i64 mp, .string mx, .bool mt, .string mn, .int .i64 my, .int .i64 mc, .int .i64 mj, .int .i64 mu] from
        ⟨fun j v hj => by rw [Nat.add_assoc]; exact cell_later HBK.out (hac _ v (by rw [flatW_at l k j _ hs (List.getElem?_eq_some_iff.1 hj).1]; exact hj)),
         fun j v hj => by rw [Nat.add_assoc]; exact cell_later HBK.out (hbc _ v (by rw [flatW_at l k j _ hs (List.getElem?_eq_some_iff.1 hj).1]; exact hj))⟩)
      have i1 : (0 : Int) ≤ (k : Int) := by omega
      have i2 : (k : Int) < (n : Int) := by omega
      have hrw := fun W => rw_neq mi mp mx mt mn my mc mj mu W
      have HLT := Lib.hid hlt
      clear hs hga hac hgb hbc hlt hk
      go_upto_region 6 with (fail)
      refine wp_region_held_drew (S := (fun wx => wx.rangeAt ga (oa + k * 9) [.int .i64 mi, .int .i64 mp, .string mx, .bool mt, .string mn, .int .i64 my, .int .i64 mc, .int .i64 mj, .int .i64 mu] ∧ wx.rangeAt gb (ob + k * 9) [.int .i64 mi, .int .i64 mp, .string mx, .bool mt, .string mn, .int .i64 my, .int .i64 mc, .int .i64 mj, .int .i64 mu])) (by kernel_rfl) (⟨fun j v hj => cell_later (Below.refl _ _).drew (HRA.out.1 j v hj), fun j v hj => cell_later (Below.refl _ _).drew (HRA.out.2 j v hj)⟩) (fun hHeld => ?_)
      have hb := (Below.refl wr.heap.size wr).drew
      replace HBK := Lib.hid (HBK.out.trans (hb.mono HBK.out.size))
      obtain ⟨y0, hwd⟩ : ∃ z, wr.drew = z := ⟨_, rfl⟩
      rw [hwd] at HBK hHeld ⊢
      clear hwd hb HRA
      refine wpAnyH_take (i := 0) (oi := { dst := some 17, op := Go.Op.move (Go.Operand.tmp 0), type := 102, pos := "law.go:45", after := #[], guard := none }) (v := ?v0_660101) rfl (by kernel_rfl) (by kernel_rfl) (by kernel_rfl) (fun _ _ _ h => h) (Or.inl ⟨by rfl, ?y0_660101⟩) hHeld ?r0_660101
      case y0_660101 => intro w hSw; (try dsimp only at hSw); go_simp; try with_reducible rfl
      try simp only [Act.put, List.setIfInBounds_toArray, List.set_cons_zero, List.set_cons_succ]
      refine wpAnyH_take (i := 1) (oi := { dst := some 18, op := Go.Op.move (Go.Operand.tmp 5), type := 3, pos := "law.go:45", after := #[], guard := none }) (v := ?v1_660101) rfl (by kernel_rfl) (by kernel_rfl) (by kernel_rfl) (fun _ _ _ h => h) (Or.inl ⟨by rfl, ?y1_660101⟩) hHeld ?r1_660101
      case y1_660101 => intro w hSw; (try dsimp only at hSw); go_simp; try with_reducible rfl
      try simp only [Act.put, List.setIfInBounds_toArray, List.set_cons_zero, List.set_cons_succ]
      refine wpAnyH_take (i := 2) (oi := { dst := some 19, op := Go.Op.indexAddr 102 (Go.Operand.tmp 17) (Go.Operand.tmp 18), type := 0, pos := "law.go:45", after := #[{ on := 0, ground := Go.Ground.data }, { on := 1, ground := Go.Ground.data }], guard := none }) (v := ?v2_660101) rfl (by kernel_rfl) (by kernel_rfl) (by kernel_rfl) (fun _ _ _ h => h) (Or.inl ⟨by rfl, ?y2_660101⟩) hHeld ?r2_660101
      case y2_660101 => intro w hSw; (try dsimp only at hSw); go_simp; try with_reducible rfl
      try simp only [Act.put, List.setIfInBounds_toArray, List.set_cons_zero, List.set_cons_succ]
      refine wpAnyH_take (i := 3) (oi := { dst := some 20, op := Go.Op.load 79 (Go.Operand.tmp 19), type := 79, pos := "law.go:45", after := #[{ on := 2, ground := Go.Ground.data }], guard := none }) (v := ?v3_660101) rfl (by kernel_rfl) (by kernel_rfl) (by kernel_rfl) (fun _ _ _ h => h) (Or.inl ⟨by rfl, ?y3_660101⟩) hHeld ?r3_660101
      case y3_660101 => intro w hSw; (try dsimp only at hSw); obtain ⟨s1, s2⟩ := hSw; have t0 := s1 0 _ rfl; have t1 := s1 1 _ rfl; have t2 := s1 2 _ rfl; have t3 := s1 3 _ rfl; have t4 := s1 4 _ rfl; have t5 := s1 5 _ rfl; have t6 := s1 6 _ rfl; have t7 := s1 7 _ rfl; have t8 := s1 8 _ rfl; simp only [Nat.add_zero] at t0; clear s1 s2; go_simp; try with_reducible rfl
      try simp only [Act.put, List.setIfInBounds_toArray, List.set_cons_zero, List.set_cons_succ]
      refine wpAnyH_take (i := 5) (oi := { dst := some 22, op := Go.Op.move (Go.Operand.tmp 1), type := 88, pos := "law.go:45", after := #[], guard := none }) (v := ?v5_660101) rfl (by kernel_rfl) (by kernel_rfl) (by kernel_rfl) (fun _ _ _ h => h) (Or.inl ⟨by rfl, ?y5_660101⟩) hHeld ?r5_660101
      case y5_660101 => intro w hSw; (try dsimp only at hSw); go_simp; try with_reducible rfl
      try simp only [Act.put, List.setIfInBounds_toArray, List.set_cons_zero, List.set_cons_succ]
      refine wpAnyH_take (i := 6) (oi := { dst := some 23, op := Go.Op.move (Go.Operand.tmp 5), type := 3, pos := "law.go:45", after := #[], guard := none }) (v := ?v6_660101) rfl (by kernel_rfl) (by kernel_rfl) (by kernel_rfl) (fun _ _ _ h => h) (Or.inl ⟨by rfl, ?y6_660101⟩) hHeld ?r6_660101
      case y6_660101 => intro w hSw; (try dsimp only at hSw); go_simp; try with_reducible rfl
      try simp only [Act.put, List.setIfInBounds_toArray, List.set_cons_zero, List.set_cons_succ]
      refine wpAnyH_take (i := 7) (oi := { dst := some 24, op := Go.Op.indexAddr 88 (Go.Operand.tmp 22) (Go.Operand.tmp 23), type := 0, pos := "law.go:45", after := #[{ on := 5, ground := Go.Ground.data }, { on := 6, ground := Go.Ground.data }], guard := none }) (v := ?v7_660101) rfl (by kernel_rfl) (by kernel_rfl) (by kernel_rfl) (fun _ _ _ h => h) (Or.inl ⟨by rfl, ?y7_660101⟩) hHeld ?r7_660101
      case y7_660101 => intro w hSw; (try dsimp only at hSw); go_simp; try with_reducible rfl
      try simp only [Act.put, List.setIfInBounds_toArray, List.set_cons_zero, List.set_cons_succ]
      refine wpAnyH_take (i := 8) (oi := { dst := some 25, op := Go.Op.load 84 (Go.Operand.tmp 24), type := 84, pos := "law.go:45", after := #[{ on := 7, ground := Go.Ground.data }], guard := none }) (v := ?v8_660101) rfl (by kernel_rfl) (by kernel_rfl) (by kernel_rfl) (fun _ _ _ h => h) (Or.inl ⟨by rfl, ?y8_660101⟩) hHeld ?r8_660101
      case y8_660101 => intro w hSw; (try dsimp only at hSw); obtain ⟨s1, s2⟩ := hSw; have t0 := s2 0 _ rfl; have t1 := s2 1 _ rfl; have t2 := s2 2 _ rfl; have t3 := s2 3 _ rfl; have t4 := s2 4 _ rfl; have t5 := s2 5 _ rfl; have t6 := s2 6 _ rfl; have t7 := s2 7 _ rfl; have t8 := s2 8 _ rfl; simp only [Nat.add_zero] at t0; clear s1 s2; go_simp; try with_reducible rfl
      try simp only [Act.put, List.setIfInBounds_toArray, List.set_cons_zero, List.set_cons_succ]
      refine wpAnyH_ready (rs := [4]) (by kernel_rfl) (by simp) ?_
      refine AllReadyH.cons (o := { dst := some 21, op := Go.Op.call { callee := Go.Callee.value (Go.Operand.func 45), args := #[Go.Operand.tmp 20], argTypes := #[79] }, type := 84, pos := "law.go:45", after := #[{ on := 3, ground := Go.Ground.data }], guard := none }) rfl (fun K hK => ?_) AllReadyH.nil
      go_simp
      refine (waitD_any mi mp mx mt mn my mc mj mu y0).mono ?_; rintro e y1 ⟨rfl, hb⟩
      replace HBK := Lib.hid (HBK.out.trans (hb.mono HBK.out.size))
      have hnext := And.intro (show y1.rangeAt ga (oa + k * 9) [.int .i64 mi, .int .i64 mp, .string mx, .bool mt, .string mn, .int .i64 my, .int .i64 mc, .int .i64 mj, .int .i64 mu] from fun j v hj => cell_later hb (hHeld.1 j v hj)) (show y1.rangeAt gb (ob + k * 9) [.int .i64 mi, .int .i64 mp, .string mx, .bool mt, .string mn, .int .i64 my, .int .i64 mc, .int .i64 mj, .int .i64 mu] from fun j v hj => cell_later hb (hHeld.2 j v hj))
      clear hb
      refine hK.out _ _ (hnext) (fun hHeld2 => ?_)
      clear hK K hHeld
      have hHeld := hHeld2
      clear hHeld2
      try simp only [Act.put, List.setIfInBounds_toArray, List.set_cons_zero, List.set_cons_succ]
      refine wpAnyH_take (i := 9) (oi := { dst := some 26, op := Go.Op.binOp Go.BinOp.neq 84 (Go.Operand.tmp 21) (Go.Operand.tmp 25) 84, type := 4, pos := "law.go:45", after := #[{ on := 4, ground := Go.Ground.data }, { on := 8, ground := Go.Ground.data }], guard := none }) (v := ?v9_660102) rfl (by kernel_rfl) (by kernel_rfl) (by kernel_rfl) (fun _ _ _ h => h) (Or.inl ⟨by rfl, ?y9_660102⟩) hHeld ?r9_660102
      case y9_660102 => intro w hSw; (try dsimp only at hSw); go_simp; try with_reducible rfl
      try simp only [Act.put, List.setIfInBounds_toArray, List.set_cons_zero, List.set_cons_succ]
      refine wpAnyH_done (by kernel_rfl) ?_ _
      clear hHeld
      go_wp2
      go_roundw
      case rel => exact ⟨k + 1, HLT.out, by go_num, HBK⟩
      case measure =>
        simp only [intOf]
        have := HLT.out
        omega
    · have d0 : decide (k < n) = false := dF hlt
      have d1 : decide ((k : Int) < (n : Int)) = false := dF (by omega)
      clear hlt hk
      go_wp2
      go_ret
      exact ⟨rfl, HBK.out⟩
end Go.Proofs.Ytocfphijheidbaa
end

section
namespace Go.Proofs.Ytocfphijheidbaa
open Go.RowKit

theorem run_loadVar_one (w : World) (ad : Addr) (ty : TypeId) (v : Value) (hc : w.cell? ad = some v) (ha : ∀ W, (isAgg ty).run Try.prog W = .ok false W) : (loadVar ty ad).run Try.prog w = .ok v w := by
  simp [loadVar, ha, hc, Result.andThen]
theorem wpList_load_one {ops : Array Oper} {rest : List Oper} {op : Oper} {a : Act} {w : World} {Q : Exit → Act → World → Prop} (hgd : op.guard = none) (ty : TypeId) (x : Operand) (ho : op.op = .load ty x)
    (ad : Addr) (hx : a.eval x = .pointer (some ad)) (v : Value) (hc : w.cell? ad = some v) (ha : ∀ W, (isAgg ty).run Try.prog W = .ok false W)
    (h : wpList Try.prog ops Q rest (a.put op.dst v) w) : wpList Try.prog ops Q (op :: rest) a w :=
  wpList_plain hgd fun _ hK => by
    unfold Oper.wp execOp
    simp only [ho, hx, Instr.loadAt, Instr.sureAddr, Sem.run_bind, Sem.run_pure, Result.andThen_ok, run_loadVar_one w ad ty v hc ha]
    exact hK _ _ h
theorem agg_int (W : World) : (isAgg 3).run Try.prog W = .ok false W := by have := Try.isAgg3; simp_all
theorem agg_str (W : World) : (isAgg 9).run Try.prog W = .ok false W := by have := Try.isAgg9; simp_all
theorem agg_bool (W : World) : (isAgg 4).run Try.prog W = .ok false W := by have := Try.isAgg4; simp_all
end Go.Proofs.Ytocfphijheidbaa
end
