/- The document's flags, numbers; may a question, an OPT be. -/
import Derived.Test.YtkoafkajmfodkaaMaG
import Derived.Test.YtkoafkajmfodkaaFc5
import Derived.Test.YtkoafkajmfodkaaDcP
import Derived.Deep.RegionHeld3
namespace Go.Proofs.Ytkoafkajmfodkaa
open Go.RowKit

theorem bitW_any (b : Bool) (x : Int) (w : World) : Calls Try.prog 59 #[.bool b, .int .i64 x] w fun e w' => e = .returned (.int .i64 (wt b x)) ∧ w = w' := bitD_any b x w
theorem okF_no {o r : Int} (h : ¬ (0 ≤ o ∧ o ≤ 15 ∧ 0 ≤ r ∧ r ≤ 15)) : okF o r = false := by
  cases h2 : okF o r
  · rfl
  · simp only [okF, Bool.and_eq_true] at h2
    have h3 := inR_t h2.1
    have h4 := inR_t h2.2
    omega
theorem okF_yes {o r : Int} (h : 0 ≤ o ∧ o ≤ 15 ∧ 0 ≤ r ∧ r ≤ 15) : okF o r = true := by
  simp [okF, inR, h.1, h.2.1, h.2.2.1, h.2.2.2]
theorem cn8w {w : World} {q : Nat} {c0 c1 c2 c3 c4 c5 c6 c7 : Value} (h : CN w q [c0, c1, c2, c3, c4, c5, c6, c7]) : w.cell? ⟨q, 0, none⟩ = some c0 ∧ w.cell? ⟨q, 1, none⟩ = some c1 ∧ w.cell? ⟨q, 2, none⟩ = some c2 ∧ w.cell? ⟨q, 3, none⟩ = some c3 ∧ w.cell? ⟨q, 4, none⟩ = some c4 ∧ w.cell? ⟨q, 5, none⟩ = some c5 ∧ w.cell? ⟨q, 6, none⟩ = some c6 ∧ w.cell? ⟨q, 7, none⟩ = some c7 :=
  ⟨(h.2 0 _ rfl).1, (h.2 1 _ rfl).1, (h.2 2 _ rfl).1, (h.2 3 _ rfl).1, (h.2 4 _ rfl).1, (h.2 5 _ rfl).1, (h.2 6 _ rfl).1, (h.2 7 _ rfl).1⟩
set_option maxRecDepth 100000 in
set_option maxHeartbeats 8000000 in
theorem rflags_any (i o r : Int) (b1 b2 b3 b4 b5 : Bool) (w : World) :
    Calls Try.prog 20 #[.agg #[.int .i64 i, .int .i64 o, .int .i64 r, .bool b1, .bool b2, .bool b3, .bool b4, .bool b5]] w fun e w' => e = .returned (.tuple #[.int .i64 (if okF o r then flagV o r b1 b2 b3 b4 b5 else 0), .int .i64 (if okF o r then 0 else 1)]) ∧ Below w.heap.size w w' := by
  have hb0 := (Below.refl w.heap.size w).alloc (Nat.le_refl _) (.cells #[.int .i64 i, .int .i64 o, .int .i64 r, .bool b1, .bool b2, .bool b3, .bool b4, .bool b5] 30)
  have HC := Lib.hid (CN.new w #[.int .i64 i, .int .i64 o, .int .i64 r, .bool b1, .bool b2, .bool b3, .bool b4, .bool b5] 30)
  have HB := Lib.hid hb0
  clear hb0
  by_cases g0 : o < 0
  · have d0 := dT (p := o < 0) g0
    have HK := Lib.hid (okF_no (o := o) (r := r) (by omega))
    clear g0
    rw [HK.out]
    go_enter Try.func20, Try.ntmps20
    go_wp2
    go_ret2
    exact ⟨rfl, HB.out⟩
  have d0 := dF (p := o < 0) g0
  by_cases g1 : 15 < o
  · have d1 := dT (p := (15 : Int) < o) g1
    have HK := Lib.hid (okF_no (o := o) (r := r) (by omega))
    clear g0 g1
    rw [HK.out]
    go_enter Try.func20, Try.ntmps20
    go_wp2
    go_ret2
    exact ⟨rfl, HB.out⟩
  have d1 := dF (p := (15 : Int) < o) g1
  by_cases g2 : r < 0
  · have d2 := dT (p := r < 0) g2
    have HK := Lib.hid (okF_no (o := o) (r := r) (by omega))
    clear g0 g1 g2
    rw [HK.out]
    go_enter Try.func20, Try.ntmps20
    go_wp2
    go_ret2
    exact ⟨rfl, HB.out⟩
  have d2 := dF (p := r < 0) g2
  by_cases g3 : 15 < r
  · have d3 := dT (p := (15 : Int) < r) g3
    have HK := Lib.hid (okF_no (o := o) (r := r) (by omega))
    clear g0 g1 g2 g3
    rw [HK.out]
    go_enter Try.func20, Try.ntmps20
    go_wp2
    go_ret2
    exact ⟨rfl, HB.out⟩
  have d3 := dF (p := (15 : Int) < r) g3
  have hok := okF_yes (o := o) (r := r) (by omega)
  have HK := Lib.hid hok
  have HV := Lib.hid (flagV_val hok b1 b2 b3 b4 b5)
  rw [HK.out]
  obtain ⟨s0, h0⟩ : ∃ x, o * 2048 = x := ⟨_, rfl⟩
  obtain ⟨v1, u1⟩ : ∃ x, wt b1 32768 = x := ⟨_, rfl⟩
  obtain ⟨v2, u2⟩ : ∃ x, wt b2 1024 = x := ⟨_, rfl⟩
  obtain ⟨v3, u3⟩ : ∃ x, wt b3 512 = x := ⟨_, rfl⟩
  obtain ⟨v4, u4⟩ : ∃ x, wt b4 256 = x := ⟨_, rfl⟩
  obtain ⟨v5, u5⟩ : ∃ x, wt b5 128 = x := ⟨_, rfl⟩
  have HU := Lib.hid (show wt b1 32768 = v1 ∧ wt b2 1024 = v2 ∧ wt b3 512 = v3 ∧ wt b4 256 = v4 ∧ wt b5 128 = v5 from ⟨u1, u2, u3, u4, u5⟩)
  have w1 := wt_le b1 32768 (by decide)
  have w2 := wt_le b2 1024 (by decide)
  have w3 := wt_le b3 512 (by decide)
  have w4 := wt_le b4 256 (by decide)
  have w5 := wt_le b5 128 (by decide)
  rw [u1] at w1; rw [u2] at w2; rw [u3] at w3; rw [u4] at w4; rw [u5] at w5
  obtain ⟨s1, h1⟩ : ∃ x, v1 + s0 = x := ⟨_, rfl⟩
  obtain ⟨s2, h2⟩ : ∃ x, s1 + v2 = x := ⟨_, rfl⟩
  obtain ⟨s3, h3⟩ : ∃ x, s2 + v3 = x := ⟨_, rfl⟩
  obtain ⟨s4, h4⟩ : ∃ x, s3 + v4 = x := ⟨_, rfl⟩
  obtain ⟨s5, h5⟩ : ∃ x, s4 + v5 = x := ⟨_, rfl⟩
  obtain ⟨s6, h6⟩ : ∃ x, s5 + r = x := ⟨_, rfl⟩
  have HS := Lib.hid (show flagV o r b1 b2 b3 b4 b5 = s6 by rw [HV.out, HU.out.1, HU.out.2.1, HU.out.2.2.1, HU.out.2.2.2.1, HU.out.2.2.2.2]; omega)
  have q0 : IntKind.i64.wrap (o * 2048) = s0 := by rw [IntKind.wrap_i64]; omega
  have q1 : IntKind.i64.wrap (v1 + s0) = s1 := by rw [IntKind.wrap_i64]; omega
  have q2 : IntKind.i64.wrap (s1 + v2) = s2 := by rw [IntKind.wrap_i64]; omega
  have q3 : IntKind.i64.wrap (s2 + v3) = s3 := by rw [IntKind.wrap_i64]; omega
  have q4 : IntKind.i64.wrap (s3 + v4) = s4 := by rw [IntKind.wrap_i64]; omega
  have q5 : IntKind.i64.wrap (s4 + v5) = s5 := by rw [IntKind.wrap_i64]; omega
  have q6 : IntKind.i64.wrap (s5 + r) = s6 := by rw [IntKind.wrap_i64]; omega
  clear g0 g1 g2 g3 h0 h1 h2 h3 h4 h5 h6 u1 u2 u3 u4 u5 w1 w2 w3 w4 w5 hok HV
  obtain ⟨wz, hw⟩ : ∃ x, w.alloc (.cells #[.int .i64 i, .int .i64 o, .int .i64 r, .bool b1, .bool b2, .bool b3, .bool b4, .bool b5] 30) = x := ⟨_, rfl⟩
  obtain ⟨g, hg⟩ : ∃ x, w.heap.size = x := ⟨_, rfl⟩
  have HWG := Lib.hid (show w.alloc (.cells #[.int .i64 i, .int .i64 o, .int .i64 r, .bool b1, .bool b2, .bool b3, .bool b4, .bool b5] 30) = wz ∧ w.heap.size = g from ⟨hw, hg⟩)
  rw [hw] at HC HB
  have HCG := HC.out
  rw [hg] at HCG
  replace HC := Lib.hid HCG
  clear hw hg HCG
  have HB2 := HB
  go_enter Try.func20, Try.ntmps20
  go_upto_region 3 with (fail)
  rw [HWG.out.1, HWG.out.2]
  clear d0 d1 d2 d3
  refine wp_region_held_drew (S := (fun wx => Below w.heap.size w wx ∧ CN wx g [.int .i64 i, .int .i64 o, .int .i64 r, .bool b1, .bool b2, .bool b3, .bool b4, .bool b5])) (by kernel_rfl) (⟨HB.out.drew, show CN wz.drew g _ from HC.out⟩) (fun hHeld => ?_)
  refine wpAnyH_take (i := 0) (oi := { dst := some 22, op := Go.Op.fieldAddr 30 (Go.Operand.tmp 1) 3, type := 0, pos := "ref.go:34", after := #[], guard := none }) (v := ?v0_360101) rfl (by kernel_rfl) (by kernel_rfl) (by kernel_rfl) (fun _ _ _ h => h) (Or.inl ⟨by rfl, ?y0_360101⟩) hHeld ?r0_360101
  case y0_360101 => intro w hSw; (try dsimp only at hSw); obtain ⟨y0, y1, y2, y3, y4, y5, y6, y7⟩ := cn8w hSw.2; go_simp; try with_reducible rfl
  try simp only [Act.put, List.setIfInBounds_toArray, List.set_cons_zero, List.set_cons_succ]
  refine wpAnyH_take (i := 1) (oi := { dst := some 23, op := Go.Op.load 4 (Go.Operand.tmp 22), type := 4, pos := "ref.go:34", after := #[{ on := 0, ground := Go.Ground.data }], guard := none }) (v := ?v1_360101) rfl (by kernel_rfl) (by kernel_rfl) (by kernel_rfl) (fun _ _ _ h => h) (Or.inl ⟨by rfl, ?y1_360101⟩) hHeld ?r1_360101
  case y1_360101 => intro w hSw; (try dsimp only at hSw); obtain ⟨y0, y1, y2, y3, y4, y5, y6, y7⟩ := cn8w hSw.2; go_simp; try with_reducible rfl
  try simp only [Act.put, List.setIfInBounds_toArray, List.set_cons_zero, List.set_cons_succ]
  refine wpAnyH_take (i := 3) (oi := { dst := some 25, op := Go.Op.fieldAddr 30 (Go.Operand.tmp 1) 1, type := 0, pos := "ref.go:34", after := #[], guard := none }) (v := ?v3_360101) rfl (by kernel_rfl) (by kernel_rfl) (by kernel_rfl) (fun _ _ _ h => h) (Or.inl ⟨by rfl, ?y3_360101⟩) hHeld ?r3_360101
  case y3_360101 => intro w hSw; (try dsimp only at hSw); obtain ⟨y0, y1, y2, y3, y4, y5, y6, y7⟩ := cn8w hSw.2; go_simp; try with_reducible rfl
  try simp only [Act.put, List.setIfInBounds_toArray, List.set_cons_zero, List.set_cons_succ]
  refine wpAnyH_take (i := 4) (oi := { dst := some 26, op := Go.Op.load 3 (Go.Operand.tmp 25), type := 3, pos := "ref.go:34", after := #[{ on := 3, ground := Go.Ground.data }], guard := none }) (v := ?v4_360101) rfl (by kernel_rfl) (by kernel_rfl) (by kernel_rfl) (fun _ _ _ h => h) (Or.inl ⟨by rfl, ?y4_360101⟩) hHeld ?r4_360101
  case y4_360101 => intro w hSw; (try dsimp only at hSw); obtain ⟨y0, y1, y2, y3, y4, y5, y6, y7⟩ := cn8w hSw.2; go_simp; try with_reducible rfl
  try simp only [Act.put, List.setIfInBounds_toArray, List.set_cons_zero, List.set_cons_succ]
  refine wpAnyH_take (i := 5) (oi := { dst := some 27, op := Go.Op.binOp Go.BinOp.shl 3 (Go.Operand.tmp 26) (Go.Operand.const (Go.Value.int Go.IntKind.u64 11)) 111, type := 3, pos := "ref.go:34", after := #[{ on := 4, ground := Go.Ground.data }], guard := none }) (v := ?v5_360101) rfl (by kernel_rfl) (by kernel_rfl) (by kernel_rfl) (fun _ _ _ h => h) (Or.inl ⟨by rfl, ?y5_360101⟩) hHeld ?r5_360101
  case y5_360101 => intro w hSw; (try dsimp only at hSw); obtain ⟨y0, y1, y2, y3, y4, y5, y6, y7⟩ := cn8w hSw.2; go_simp; try with_reducible rfl
  try simp only [Act.put, List.setIfInBounds_toArray, List.set_cons_zero, List.set_cons_succ]
  refine wpAnyH_take (i := 7) (oi := { dst := some 29, op := Go.Op.fieldAddr 30 (Go.Operand.tmp 1) 4, type := 0, pos := "ref.go:34", after := #[], guard := none }) (v := ?v7_360101) rfl (by kernel_rfl) (by kernel_rfl) (by kernel_rfl) (fun _ _ _ h => h) (Or.inl ⟨by rfl, ?y7_360101⟩) hHeld ?r7_360101
  case y7_360101 => intro w hSw; (try dsimp only at hSw); obtain ⟨y0, y1, y2, y3, y4, y5, y6, y7⟩ := cn8w hSw.2; go_simp; try with_reducible rfl
  try simp only [Act.put, List.setIfInBounds_toArray, List.set_cons_zero, List.set_cons_succ]
  refine wpAnyH_take (i := 8) (oi := { dst := some 30, op := Go.Op.load 4 (Go.Operand.tmp 29), type := 4, pos := "ref.go:34", after := #[{ on := 7, ground := Go.Ground.data }], guard := none }) (v := ?v8_360101) rfl (by kernel_rfl) (by kernel_rfl) (by kernel_rfl) (fun _ _ _ h => h) (Or.inl ⟨by rfl, ?y8_360101⟩) hHeld ?r8_360101
  case y8_360101 => intro w hSw; (try dsimp only at hSw); obtain ⟨y0, y1, y2, y3, y4, y5, y6, y7⟩ := cn8w hSw.2; go_simp; try with_reducible rfl
  try simp only [Act.put, List.setIfInBounds_toArray, List.set_cons_zero, List.set_cons_succ]
  refine wpAnyH_take (i := 11) (oi := { dst := some 33, op := Go.Op.fieldAddr 30 (Go.Operand.tmp 1) 5, type := 0, pos := "ref.go:34", after := #[], guard := none }) (v := ?v11_360101) rfl (by kernel_rfl) (by kernel_rfl) (by kernel_rfl) (fun _ _ _ h => h) (Or.inl ⟨by rfl, ?y11_360101⟩) hHeld ?r11_360101
  case y11_360101 => intro w hSw; (try dsimp only at hSw); obtain ⟨y0, y1, y2, y3, y4, y5, y6, y7⟩ := cn8w hSw.2; go_simp; try with_reducible rfl
  try simp only [Act.put, List.setIfInBounds_toArray, List.set_cons_zero, List.set_cons_succ]
  refine wpAnyH_take (i := 12) (oi := { dst := some 34, op := Go.Op.load 4 (Go.Operand.tmp 33), type := 4, pos := "ref.go:34", after := #[{ on := 11, ground := Go.Ground.data }], guard := none }) (v := ?v12_360101) rfl (by kernel_rfl) (by kernel_rfl) (by kernel_rfl) (fun _ _ _ h => h) (Or.inl ⟨by rfl, ?y12_360101⟩) hHeld ?r12_360101
  case y12_360101 => intro w hSw; (try dsimp only at hSw); obtain ⟨y0, y1, y2, y3, y4, y5, y6, y7⟩ := cn8w hSw.2; go_simp; try with_reducible rfl
  try simp only [Act.put, List.setIfInBounds_toArray, List.set_cons_zero, List.set_cons_succ]
  refine wpAnyH_take (i := 15) (oi := { dst := some 37, op := Go.Op.fieldAddr 30 (Go.Operand.tmp 1) 6, type := 0, pos := "ref.go:34", after := #[], guard := none }) (v := ?v15_360101) rfl (by kernel_rfl) (by kernel_rfl) (by kernel_rfl) (fun _ _ _ h => h) (Or.inl ⟨by rfl, ?y15_360101⟩) hHeld ?r15_360101
  case y15_360101 => intro w hSw; (try dsimp only at hSw); obtain ⟨y0, y1, y2, y3, y4, y5, y6, y7⟩ := cn8w hSw.2; go_simp; try with_reducible rfl
  try simp only [Act.put, List.setIfInBounds_toArray, List.set_cons_zero, List.set_cons_succ]
  refine wpAnyH_take (i := 16) (oi := { dst := some 38, op := Go.Op.load 4 (Go.Operand.tmp 37), type := 4, pos := "ref.go:34", after := #[{ on := 15, ground := Go.Ground.data }], guard := none }) (v := ?v16_360101) rfl (by kernel_rfl) (by kernel_rfl) (by kernel_rfl) (fun _ _ _ h => h) (Or.inl ⟨by rfl, ?y16_360101⟩) hHeld ?r16_360101
  case y16_360101 => intro w hSw; (try dsimp only at hSw); obtain ⟨y0, y1, y2, y3, y4, y5, y6, y7⟩ := cn8w hSw.2; go_simp; try with_reducible rfl
  try simp only [Act.put, List.setIfInBounds_toArray, List.set_cons_zero, List.set_cons_succ]
  refine wpAnyH_take (i := 19) (oi := { dst := some 41, op := Go.Op.fieldAddr 30 (Go.Operand.tmp 1) 7, type := 0, pos := "ref.go:34", after := #[], guard := none }) (v := ?v19_360101) rfl (by kernel_rfl) (by kernel_rfl) (by kernel_rfl) (fun _ _ _ h => h) (Or.inl ⟨by rfl, ?y19_360101⟩) hHeld ?r19_360101
  case y19_360101 => intro w hSw; (try dsimp only at hSw); obtain ⟨y0, y1, y2, y3, y4, y5, y6, y7⟩ := cn8w hSw.2; go_simp; try with_reducible rfl
  try simp only [Act.put, List.setIfInBounds_toArray, List.set_cons_zero, List.set_cons_succ]
  refine wpAnyH_take (i := 20) (oi := { dst := some 42, op := Go.Op.load 4 (Go.Operand.tmp 41), type := 4, pos := "ref.go:34", after := #[{ on := 19, ground := Go.Ground.data }], guard := none }) (v := ?v20_360101) rfl (by kernel_rfl) (by kernel_rfl) (by kernel_rfl) (fun _ _ _ h => h) (Or.inl ⟨by rfl, ?y20_360101⟩) hHeld ?r20_360101
  case y20_360101 => intro w hSw; (try dsimp only at hSw); obtain ⟨y0, y1, y2, y3, y4, y5, y6, y7⟩ := cn8w hSw.2; go_simp; try with_reducible rfl
  try simp only [Act.put, List.setIfInBounds_toArray, List.set_cons_zero, List.set_cons_succ]
  refine wpAnyH_take (i := 23) (oi := { dst := some 45, op := Go.Op.fieldAddr 30 (Go.Operand.tmp 1) 2, type := 0, pos := "ref.go:34", after := #[], guard := none }) (v := ?v23_360101) rfl (by kernel_rfl) (by kernel_rfl) (by kernel_rfl) (fun _ _ _ h => h) (Or.inl ⟨by rfl, ?y23_360101⟩) hHeld ?r23_360101
  case y23_360101 => intro w hSw; (try dsimp only at hSw); obtain ⟨y0, y1, y2, y3, y4, y5, y6, y7⟩ := cn8w hSw.2; go_simp; try with_reducible rfl
  try simp only [Act.put, List.setIfInBounds_toArray, List.set_cons_zero, List.set_cons_succ]
  refine wpAnyH_take (i := 24) (oi := { dst := some 46, op := Go.Op.load 3 (Go.Operand.tmp 45), type := 3, pos := "ref.go:34", after := #[{ on := 23, ground := Go.Ground.data }], guard := none }) (v := ?v24_360101) rfl (by kernel_rfl) (by kernel_rfl) (by kernel_rfl) (fun _ _ _ h => h) (Or.inl ⟨by rfl, ?y24_360101⟩) hHeld ?r24_360101
  case y24_360101 => intro w hSw; (try dsimp only at hSw); obtain ⟨y0, y1, y2, y3, y4, y5, y6, y7⟩ := cn8w hSw.2; go_simp; try with_reducible rfl
  try simp only [Act.put, List.setIfInBounds_toArray, List.set_cons_zero, List.set_cons_succ]
  refine wpAnyH_ready (rs := [2]) (by kernel_rfl) (by simp) ?_
  refine AllReadyH.cons (o := { dst := some 24, op := Go.Op.call { callee := Go.Callee.value (Go.Operand.func 59), args := #[Go.Operand.tmp 23, Go.Operand.const (Go.Value.int Go.IntKind.i64 32768)], argTypes := #[4, 3] }, type := 3, pos := "ref.go:34", after := #[{ on := 1, ground := Go.Ground.data }], guard := none }) rfl (fun K hK => ?_) AllReadyH.nil
  go_simp
  refine (bitW_any b1 32768 _).mono ?_; rintro e wy ⟨rfl, rfl⟩
  rw [HU.out.1]
  go_wp2_with fail
  refine hK.out _ _ (hHeld) (fun hHeld2 => ?_)
  clear hK K hHeld
  have hHeld := hHeld2
  clear hHeld2
  try simp only [Act.put, List.setIfInBounds_toArray, List.set_cons_zero, List.set_cons_succ]
  refine wpAnyH_take (i := 6) (oi := { dst := some 28, op := Go.Op.binOp Go.BinOp.add 3 (Go.Operand.tmp 24) (Go.Operand.tmp 27) 3, type := 3, pos := "ref.go:34", after := #[{ on := 2, ground := Go.Ground.data }, { on := 5, ground := Go.Ground.data }], guard := none }) (v := ?v6_360102) rfl (by kernel_rfl) (by kernel_rfl) (by kernel_rfl) (fun _ _ _ h => h) (Or.inl ⟨by rfl, ?y6_360102⟩) hHeld ?r6_360102
  case y6_360102 => intro w hSw; (try dsimp only at hSw); obtain ⟨y0, y1, y2, y3, y4, y5, y6, y7⟩ := cn8w hSw.2; go_simp; try with_reducible rfl
  try simp only [Act.put, List.setIfInBounds_toArray, List.set_cons_zero, List.set_cons_succ]
  refine wpAnyH_ready (rs := [9]) (by kernel_rfl) (by simp) ?_
  refine AllReadyH.cons (o := { dst := some 31, op := Go.Op.call { callee := Go.Callee.value (Go.Operand.func 59), args := #[Go.Operand.tmp 30, Go.Operand.const (Go.Value.int Go.IntKind.i64 1024)], argTypes := #[4, 3] }, type := 3, pos := "ref.go:34", after := #[{ on := 8, ground := Go.Ground.data }, { on := 2, ground := Go.Ground.chain }], guard := none }) rfl (fun K hK => ?_) AllReadyH.nil
  go_simp
  refine (bitW_any b2 1024 _).mono ?_; rintro e wy ⟨rfl, rfl⟩
  rw [HU.out.2.1]
  go_wp2_with fail
  refine hK.out _ _ (hHeld) (fun hHeld2 => ?_)
  clear hK K hHeld
  have hHeld := hHeld2
  clear hHeld2
  try simp only [Act.put, List.setIfInBounds_toArray, List.set_cons_zero, List.set_cons_succ]
  refine wpAnyH_take (i := 10) (oi := { dst := some 32, op := Go.Op.binOp Go.BinOp.add 3 (Go.Operand.tmp 28) (Go.Operand.tmp 31) 3, type := 3, pos := "ref.go:34", after := #[{ on := 6, ground := Go.Ground.data }, { on := 9, ground := Go.Ground.data }], guard := none }) (v := ?v10_360103) rfl (by kernel_rfl) (by kernel_rfl) (by kernel_rfl) (fun _ _ _ h => h) (Or.inl ⟨by rfl, ?y10_360103⟩) hHeld ?r10_360103
  case y10_360103 => intro w hSw; (try dsimp only at hSw); obtain ⟨y0, y1, y2, y3, y4, y5, y6, y7⟩ := cn8w hSw.2; go_simp; try with_reducible rfl
  try simp only [Act.put, List.setIfInBounds_toArray, List.set_cons_zero, List.set_cons_succ]
  refine wpAnyH_ready (rs := [13]) (by kernel_rfl) (by simp) ?_
  refine AllReadyH.cons (o := { dst := some 35, op := Go.Op.call { callee := Go.Callee.value (Go.Operand.func 59), args := #[Go.Operand.tmp 34, Go.Operand.const (Go.Value.int Go.IntKind.i64 512)], argTypes := #[4, 3] }, type := 3, pos := "ref.go:34", after := #[{ on := 12, ground := Go.Ground.data }, { on := 9, ground := Go.Ground.chain }], guard := none }) rfl (fun K hK => ?_) AllReadyH.nil
  go_simp
  refine (bitW_any b3 512 _).mono ?_; rintro e wy ⟨rfl, rfl⟩
  rw [HU.out.2.2.1]
  go_wp2_with fail
  refine hK.out _ _ (hHeld) (fun hHeld2 => ?_)
  clear hK K hHeld
  have hHeld := hHeld2
  clear hHeld2
  try simp only [Act.put, List.setIfInBounds_toArray, List.set_cons_zero, List.set_cons_succ]
  refine wpAnyH_take (i := 14) (oi := { dst := some 36, op := Go.Op.binOp Go.BinOp.add 3 (Go.Operand.tmp 32) (Go.Operand.tmp 35) 3, type := 3, pos := "ref.go:34", after := #[{ on := 10, ground := Go.Ground.data }, { on := 13, ground := Go.Ground.data }], guard := none }) (v := ?v14_360104) rfl (by kernel_rfl) (by kernel_rfl) (by kernel_rfl) (fun _ _ _ h => h) (Or.inl ⟨by rfl, ?y14_360104⟩) hHeld ?r14_360104
  case y14_360104 => intro w hSw; (try dsimp only at hSw); obtain ⟨y0, y1, y2, y3, y4, y5, y6, y7⟩ := cn8w hSw.2; go_simp; try with_reducible rfl
  try simp only [Act.put, List.setIfInBounds_toArray, List.set_cons_zero, List.set_cons_succ]
  refine wpAnyH_ready (rs := [17]) (by kernel_rfl) (by simp) ?_
  refine AllReadyH.cons (o := { dst := some 39, op := Go.Op.call { callee := Go.Callee.value (Go.Operand.func 59), args := #[Go.Operand.tmp 38, Go.Operand.const (Go.Value.int Go.IntKind.i64 256)], argTypes := #[4, 3] }, type := 3, pos := "ref.go:34", after := #[{ on := 16, ground := Go.Ground.data }, { on := 13, ground := Go.Ground.chain }], guard := none }) rfl (fun K hK => ?_) AllReadyH.nil
  go_simp
  refine (bitW_any b4 256 _).mono ?_; rintro e wy ⟨rfl, rfl⟩
  rw [HU.out.2.2.2.1]
  go_wp2_with fail
  refine hK.out _ _ (hHeld) (fun hHeld2 => ?_)
  clear hK K hHeld
  have hHeld := hHeld2
  clear hHeld2
  try simp only [Act.put, List.setIfInBounds_toArray, List.set_cons_zero, List.set_cons_succ]
  refine wpAnyH_take (i := 18) (oi := { dst := some 40, op := Go.Op.binOp Go.BinOp.add 3 (Go.Operand.tmp 36) (Go.Operand.tmp 39) 3, type := 3, pos := "ref.go:34", after := #[{ on := 14, ground := Go.Ground.data }, { on := 17, ground := Go.Ground.data }], guard := none }) (v := ?v18_360105) rfl (by kernel_rfl) (by kernel_rfl) (by kernel_rfl) (fun _ _ _ h => h) (Or.inl ⟨by rfl, ?y18_360105⟩) hHeld ?r18_360105
  case y18_360105 => intro w hSw; (try dsimp only at hSw); obtain ⟨y0, y1, y2, y3, y4, y5, y6, y7⟩ := cn8w hSw.2; go_simp; try with_reducible rfl
  try simp only [Act.put, List.setIfInBounds_toArray, List.set_cons_zero, List.set_cons_succ]
  refine wpAnyH_ready (rs := [21]) (by kernel_rfl) (by simp) ?_
  refine AllReadyH.cons (o := { dst := some 43, op := Go.Op.call { callee := Go.Callee.value (Go.Operand.func 59), args := #[Go.Operand.tmp 42, Go.Operand.const (Go.Value.int Go.IntKind.i64 128)], argTypes := #[4, 3] }, type := 3, pos := "ref.go:34", after := #[{ on := 20, ground := Go.Ground.data }, { on := 17, ground := Go.Ground.chain }], guard := none }) rfl (fun K hK => ?_) AllReadyH.nil
  go_simp
  refine (bitW_any b5 128 _).mono ?_; rintro e wy ⟨rfl, rfl⟩
  rw [HU.out.2.2.2.2]
  go_wp2_with fail
  refine hK.out _ _ (hHeld) (fun hHeld2 => ?_)
  clear hK K hHeld
  have hHeld := hHeld2
  clear hHeld2
  try simp only [Act.put, List.setIfInBounds_toArray, List.set_cons_zero, List.set_cons_succ]
  refine wpAnyH_take (i := 22) (oi := { dst := some 44, op := Go.Op.binOp Go.BinOp.add 3 (Go.Operand.tmp 40) (Go.Operand.tmp 43) 3, type := 3, pos := "ref.go:34", after := #[{ on := 18, ground := Go.Ground.data }, { on := 21, ground := Go.Ground.data }], guard := none }) (v := ?v22_360106) rfl (by kernel_rfl) (by kernel_rfl) (by kernel_rfl) (fun _ _ _ h => h) (Or.inl ⟨by rfl, ?y22_360106⟩) hHeld ?r22_360106
  case y22_360106 => intro w hSw; (try dsimp only at hSw); obtain ⟨y0, y1, y2, y3, y4, y5, y6, y7⟩ := cn8w hSw.2; go_simp; try with_reducible rfl
  try simp only [Act.put, List.setIfInBounds_toArray, List.set_cons_zero, List.set_cons_succ]
  refine wpAnyH_take (i := 25) (oi := { dst := some 47, op := Go.Op.binOp Go.BinOp.add 3 (Go.Operand.tmp 44) (Go.Operand.tmp 46) 3, type := 3, pos := "ref.go:34", after := #[{ on := 22, ground := Go.Ground.data }, { on := 24, ground := Go.Ground.data }], guard := none }) (v := ?v25_360106) rfl (by kernel_rfl) (by kernel_rfl) (by kernel_rfl) (fun _ _ _ h => h) (Or.inl ⟨by rfl, ?y25_360106⟩) hHeld ?r25_360106
  case y25_360106 => intro w hSw; (try dsimp only at hSw); obtain ⟨y0, y1, y2, y3, y4, y5, y6, y7⟩ := cn8w hSw.2; go_simp; try with_reducible rfl
  try simp only [Act.put, List.setIfInBounds_toArray, List.set_cons_zero, List.set_cons_succ]
  refine wpAnyH_take (i := 26) (oi := { dst := some 2, op := Go.Op.assign (Go.Operand.tmp 47), type := 3, pos := "ref.go:34", after := #[{ on := 25, ground := Go.Ground.data }, { on := 21, ground := Go.Ground.chain }, { on := 0, ground := Go.Ground.phase }, { on := 1, ground := Go.Ground.phase }, { on := 2, ground := Go.Ground.phase }, { on := 3, ground := Go.Ground.phase }, { on := 4, ground := Go.Ground.phase }, { on := 5, ground := Go.Ground.phase }, { on := 6, ground := Go.Ground.phase }, { on := 7, ground := Go.Ground.phase }, { on := 8, ground := Go.Ground.phase }, { on := 9, ground := Go.Ground.phase }, { on := 10, ground := Go.Ground.phase }, { on := 11, ground := Go.Ground.phase }, { on := 12, ground := Go.Ground.phase }, { on := 13, ground := Go.Ground.phase }, { on := 14, ground := Go.Ground.phase }, { on := 15, ground := Go.Ground.phase }, { on := 16, ground := Go.Ground.phase }, { on := 17, ground := Go.Ground.phase }, { on := 18, ground := Go.Ground.phase }, { on := 19, ground := Go.Ground.phase }, { on := 20, ground := Go.Ground.phase }, { on := 21, ground := Go.Ground.phase }, { on := 22, ground := Go.Ground.phase }, { on := 23, ground := Go.Ground.phase }, { on := 24, ground := Go.Ground.phase }, { on := 25, ground := Go.Ground.phase }], guard := none }) (v := ?v26_360106) rfl (by kernel_rfl) (by kernel_rfl) (by kernel_rfl) (fun _ _ _ h => h) (Or.inl ⟨by rfl, ?y26_360106⟩) hHeld ?r26_360106
  case y26_360106 => intro w hSw; (try dsimp only at hSw); obtain ⟨y0, y1, y2, y3, y4, y5, y6, y7⟩ := cn8w hSw.2; go_simp; try with_reducible rfl
  try simp only [Act.put, List.setIfInBounds_toArray, List.set_cons_zero, List.set_cons_succ]
  refine wpAnyH_take (i := 27) (oi := { dst := some 3, op := Go.Op.assign (Go.Operand.const (Go.Value.int Go.IntKind.i64 0)), type := 36, pos := "ref.go:34", after := #[{ on := 26, ground := Go.Ground.chain }, { on := 0, ground := Go.Ground.phase }, { on := 1, ground := Go.Ground.phase }, { on := 2, ground := Go.Ground.phase }, { on := 3, ground := Go.Ground.phase }, { on := 4, ground := Go.Ground.phase }, { on := 5, ground := Go.Ground.phase }, { on := 6, ground := Go.Ground.phase }, { on := 7, ground := Go.Ground.phase }, { on := 8, ground := Go.Ground.phase }, { on := 9, ground := Go.Ground.phase }, { on := 10, ground := Go.Ground.phase }, { on := 11, ground := Go.Ground.phase }, { on := 12, ground := Go.Ground.phase }, { on := 13, ground := Go.Ground.phase }, { on := 14, ground := Go.Ground.phase }, { on := 15, ground := Go.Ground.phase }, { on := 16, ground := Go.Ground.phase }, { on := 17, ground := Go.Ground.phase }, { on := 18, ground := Go.Ground.phase }, { on := 19, ground := Go.Ground.phase }, { on := 20, ground := Go.Ground.phase }, { on := 21, ground := Go.Ground.phase }, { on := 22, ground := Go.Ground.phase }, { on := 23, ground := Go.Ground.phase }, { on := 24, ground := Go.Ground.phase }, { on := 25, ground := Go.Ground.phase }, { on := 26, ground := Go.Ground.phase }], guard := none }) (v := ?v27_360106) rfl (by kernel_rfl) (by kernel_rfl) (by kernel_rfl) (fun _ _ _ h => h) (Or.inl ⟨by rfl, ?y27_360106⟩) hHeld ?r27_360106
  case y27_360106 => intro w hSw; (try dsimp only at hSw); obtain ⟨y0, y1, y2, y3, y4, y5, y6, y7⟩ := cn8w hSw.2; go_simp; try with_reducible rfl
  try simp only [Act.put, List.setIfInBounds_toArray, List.set_cons_zero, List.set_cons_succ]
  refine wpAnyH_done (by kernel_rfl) ?_ _
  go_wp2
  go_ret2
  exact ⟨by rw [HS.out]; rfl, hHeld.1⟩
theorem rnum_any (n W : Int) (w : World) : Calls Try.prog 87 #[.int .i64 n, .int .i64 W] w fun e w' => e = .returned (.string (bs (putL n W))) ∧ Below w.heap.size w w' := by
  go_enter Try.func87, Try.ntmps87
  go_wp2_with fail
  refine (rput_any n W _).mono ?_; rintro e w1 ⟨rfl, hb⟩
  have HB := Lib.hid hb
  clear hb
  go_wp2
  go_ret
  exact ⟨rfl, HB.out⟩
set_option maxRecDepth 100000 in
set_option maxHeartbeats 4000000 in
theorem rmayKey_any5 (n : ByteArray) (t c : Int) (w : World) (hn : n.size ≤ 1000000) : Calls Try.prog 64 #[.agg #[.string n, .int .i64 t, .int .i64 c]] w fun e w' => e = .returned (.bool (mayK ⟨n, t, c⟩)) ∧ Below w.heap.size w w' := by
  have HB := Lib.hid ((Below.refl w.heap.size w).alloc (Nat.le_refl _) (.cells #[.string n, .int .i64 t, .int .i64 c] 118))
  have HV := Lib.hid (show mayK ⟨n, t, c⟩ = (mayN n && (inR t 65535 && inR c 65535)) from rfl)
  cases h1 : mayN n
  · have H1 := Lib.hid h1
    have HE := Lib.hid (show mayK ⟨n, t, c⟩ = false by rw [HV.out, h1]; rfl)
    clear h1
    go_enter Try.func64, Try.ntmps64
    go_wp2_with fail
    refine (rmay_any n _ hn).mono ?_; rintro e w1 ⟨rfl, rfl⟩
    rw [H1.out]
    go_wp2
    go_ret
    exact ⟨ret_bool HE.out.symm, HB.out⟩
  have H1 := Lib.hid h1
  by_cases g0 : 0 ≤ c
  rotate_left
  · have d0 := dF (p := (0 : Int) ≤ c) g0
    have HE := Lib.hid (show mayK ⟨n, t, c⟩ = false by rw [HV.out, h1]; simp [inR]; omega)
    clear g0 h1
    go_enter Try.func64, Try.ntmps64
    go_wp2_with fail
    refine (rmay_any n _ hn).mono ?_; rintro e w1 ⟨rfl, rfl⟩
    rw [H1.out]
    go_wp2
    go_ret
    exact ⟨ret_bool HE.out.symm, HB.out⟩
  have d0 := dT (p := (0 : Int) ≤ c) g0
  by_cases g1 : c ≤ 65535
  rotate_left
  · have d1 := dF (p := c ≤ (65535 : Int)) g1
    have HE := Lib.hid (show mayK ⟨n, t, c⟩ = false by rw [HV.out, h1]; simp [inR]; omega)
    clear g0 g1 h1
    go_enter Try.func64, Try.ntmps64
    go_wp2_with fail
    refine (rmay_any n _ hn).mono ?_; rintro e w1 ⟨rfl, rfl⟩
    rw [H1.out]
    go_wp2
    go_ret
    exact ⟨ret_bool HE.out.symm, HB.out⟩
  have d1 := dT (p := c ≤ (65535 : Int)) g1
  by_cases g2 : 0 ≤ t
  rotate_left
  · have d2 := dF (p := (0 : Int) ≤ t) g2
    have HE := Lib.hid (show mayK ⟨n, t, c⟩ = false by rw [HV.out, h1]; simp [inR]; omega)
    clear g0 g1 g2 h1
    go_enter Try.func64, Try.ntmps64
    go_wp2_with fail
    refine (rmay_any n _ hn).mono ?_; rintro e w1 ⟨rfl, rfl⟩
    rw [H1.out]
    go_wp2
    go_ret
    exact ⟨ret_bool HE.out.symm, HB.out⟩
  have d2 := dT (p := (0 : Int) ≤ t) g2
  by_cases g3 : t ≤ 65535
  rotate_left
  · have d3 := dF (p := t ≤ (65535 : Int)) g3
    have HE := Lib.hid (show mayK ⟨n, t, c⟩ = false by rw [HV.out, h1]; simp [inR]; omega)
    clear g0 g1 g2 g3 h1
    go_enter Try.func64, Try.ntmps64
    go_wp2_with fail
    refine (rmay_any n _ hn).mono ?_; rintro e w1 ⟨rfl, rfl⟩
    rw [H1.out]
    go_wp2
    go_ret
    exact ⟨ret_bool HE.out.symm, HB.out⟩
  have d3 := dT (p := t ≤ (65535 : Int)) g3
  have HE := Lib.hid (show mayK ⟨n, t, c⟩ = true by rw [HV.out, h1]; simp [inR]; omega)
  clear g0 g1 g2 g3 h1
  go_enter Try.func64, Try.ntmps64
  go_wp2_with fail
  refine (rmay_any n _ hn).mono ?_; rintro e w1 ⟨rfl, rfl⟩
  rw [H1.out]
  go_wp2
  go_ret
  exact ⟨ret_bool HE.out.symm, HB.out⟩
def mayO' (r : R5) : Bool := (r.k.n.toList == [0]) && (inR r.k.c 65535 && (inR r.ttl 4294967295 && decide (r.d.size ≤ 1000)))
theorem mayO_split (r : R5) : mayO r = (decide (r.k.t = 41) && mayO' r) := rfl
set_option maxRecDepth 100000 in
set_option maxHeartbeats 4000000 in
theorem rmayOpt_any (n : ByteArray) (t c u : Int) (d : ByteArray) (w : World) : Calls Try.prog 65 #[.agg #[.string n, .int .i64 t, .int .i64 c, .int .i64 u, .string d]] w fun e w' => e = .returned (.bool (mayO' ⟨⟨n, t, c⟩, u, d⟩)) ∧ Below w.heap.size w w' := by
  have HB := Lib.hid ((Below.refl w.heap.size w).alloc (Nat.le_refl _) (.cells #[.string n, .int .i64 t, .int .i64 c, .int .i64 u, .string d] 75))
  have HV := Lib.hid (show mayO' ⟨⟨n, t, c⟩, u, d⟩ = ((n.toList == [0]) && (inR c 65535 && (inR u 4294967295 && decide (d.size ≤ 1000)))) from rfl)
  cases h1 : (n.toList == [0])
  · have HE := Lib.hid (show mayO' ⟨⟨n, t, c⟩, u, d⟩ = false by rw [HV.out, h1]; rfl)
    go_enter Try.func65, Try.ntmps65
    go_wp2
    go_ret
    exact ⟨ret_bool HE.out.symm, HB.out⟩
  by_cases g0 : 0 ≤ c
  rotate_left
  · have d0 := dF (p := (0 : Int) ≤ c) (by omega)
    have HE := Lib.hid (show mayO' ⟨⟨n, t, c⟩, u, d⟩ = false by rw [HV.out, h1]; simp [inR]; omega)
    clear g0
    go_enter Try.func65, Try.ntmps65
    go_wp2
    go_ret
    exact ⟨ret_bool HE.out.symm, HB.out⟩
  have d0 := dT (p := (0 : Int) ≤ c) (by omega)
  by_cases g1 : c ≤ 65535
  rotate_left
  · have d1 := dF (p := c ≤ (65535 : Int)) (by omega)
    have HE := Lib.hid (show mayO' ⟨⟨n, t, c⟩, u, d⟩ = false by rw [HV.out, h1]; simp [inR]; omega)
    clear g0 g1
    go_enter Try.func65, Try.ntmps65
    go_wp2
    go_ret
    exact ⟨ret_bool HE.out.symm, HB.out⟩
  have d1 := dT (p := c ≤ (65535 : Int)) (by omega)
  by_cases g2 : 0 ≤ u
  rotate_left
  · have d2 := dF (p := (0 : Int) ≤ u) (by omega)
    have HE := Lib.hid (show mayO' ⟨⟨n, t, c⟩, u, d⟩ = false by rw [HV.out, h1]; simp [inR]; omega)
    clear g0 g1 g2
    go_enter Try.func65, Try.ntmps65
    go_wp2
    go_ret
    exact ⟨ret_bool HE.out.symm, HB.out⟩
  have d2 := dT (p := (0 : Int) ≤ u) (by omega)
  by_cases g3 : u < 4294967296
  rotate_left
  · have d3 := dF (p := u < (4294967296 : Int)) (by omega)
    have HE := Lib.hid (show mayO' ⟨⟨n, t, c⟩, u, d⟩ = false by rw [HV.out, h1]; simp [inR]; omega)
    clear g0 g1 g2 g3
    go_enter Try.func65, Try.ntmps65
    go_wp2
    go_ret
    exact ⟨ret_bool HE.out.symm, HB.out⟩
  have d3 := dT (p := u < (4294967296 : Int)) (by omega)
  by_cases g4 : d.size ≤ 1000
  rotate_left
  · have d4 := dF (p := (d.size : Int) ≤ (1000 : Int)) (by omega)
    have HE := Lib.hid (show mayO' ⟨⟨n, t, c⟩, u, d⟩ = false by rw [HV.out, h1]; simp [inR]; omega)
    clear g0 g1 g2 g3 g4
    go_enter Try.func65, Try.ntmps65
    go_wp2
    go_ret
    exact ⟨ret_bool HE.out.symm, HB.out⟩
  have d4 := dT (p := (d.size : Int) ≤ (1000 : Int)) (by omega)
  have HE := Lib.hid (show mayO' ⟨⟨n, t, c⟩, u, d⟩ = true by rw [HV.out, h1]; simp [inR]; omega)
  clear g0 g1 g2 g3 g4
  go_enter Try.func65, Try.ntmps65
  go_wp2
  go_ret
  exact ⟨ret_bool HE.out.symm, HB.out⟩
end Go.Proofs.Ytkoafkajmfodkaa
