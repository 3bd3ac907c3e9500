/- Decode. -/
import Derived.Test.YtgppkpdjpcegbaaDeM
namespace Go.Proofs.Ytgppkpdjpcegbaa
open Go.RowKit

/-- The message that bytes tell. -/
def decP (s : ByteArray) : Option MsgD := if 16000 < s.size then none else (msgP s).bind fun r => if r.2 = s.size then some r.1 else none
theorem decP_long {s : ByteArray} (h : 16000 < s.size) : decP s = none := if_pos h
theorem decP_no {s : ByteArray} {M : MsgD} {a : Nat} {e : Int} (h : Stp s (msgP s) 0 M a e) (hb : e ≠ 0 ∨ a < s.size) : decP s = none := by
  unfold decP
  split
  · rfl
  · obtain ⟨hy, hn⟩ := h.2.2 rfl
    cases hp : msgP s with
    | none => rfl
    | some x =>
      obtain ⟨rfl, rfl, rfl⟩ := hy x.1 x.2 hp
      simp only [Option.bind_some]
      rw [if_neg (fun he => by rcases hb with hb | hb; exact hb rfl; omega)]
theorem decP_yes {s : ByteArray} {M : MsgD} {a : Nat} (h : Stp s (msgP s) 0 M a 0) (hs : s.size ≤ 16000) (hb : ¬ a < s.size) : decP s = some M := by
  unfold decP
  rw [if_neg (by omega)]
  obtain ⟨hy, hn⟩ := h.2.2 rfl
  cases hp : msgP s with
  | none => exact absurd rfl (hn hp)
  | some x =>
    obtain ⟨rfl, rfl, -⟩ := hy x.1 x.2 hp
    simp only [Option.bind_some]
    have := h.1
    rw [if_pos (by omega)]
/-- What Decode tells. -/
def DeB (w : World) (s : ByteArray) (en : Ending) (w' : World) : Prop :=
  ((∃ (M : MsgD) (qv av nv xv : Value), decP s = some M ∧ en = .returned (.tuple #[.agg (msgC M.h qv av nv xv), .int .i64 0]) ∧ RowsM w' w.heap.size M qv av nv xv ∧ SzMD M) ∨ (decP s = none ∧ ∃ er : Int, er ≠ 0 ∧ en = .returned (.tuple #[.agg (msgC msg0.h (.slice none 0 0) (.slice none 0 0) (.slice none 0 0) (.slice none 0 0)), .int .i64 er]))) ∧ Below w.heap.size w w'

set_option maxRecDepth 100000 in
set_option maxHeartbeats 16000000 in
theorem decode_any (l : List UInt8) (a : Option Addr) (n cp : Nat) (w : World) (hr : RowB w a n l) (hn : a = none → n = 0 ∧ cp = 0) (hb : n ≤ 20000) :
    Calls Try.prog 10 #[.slice a n cp] w fun en w' => DeB w (bs l) en w' := by
  have HN0 := Lib.hid hn
  have HSZ := Lib.hid (show (bs l).size = n by rw [bs_size]; exact hr.len)
  have hba := (Below.refl w.heap.size w).alloc (Nat.le_refl _) (.cells #[.int .i64 0, .int .i64 0, .int .i64 0, .bool false, .bool false, .bool false, .bool false, .bool false, .slice none 0 0, .slice none 0 0, .slice none 0 0, .slice none 0 0] 37)
  have HC := Lib.hid (CN.new w #[.int .i64 0, .int .i64 0, .int .i64 0, .bool false, .bool false, .bool false, .bool false, .bool false, .slice none 0 0, .slice none 0 0, .slice none 0 0, .slice none 0 0] 37)
  have HB := Lib.hid hba
  have HRB := Lib.hid (hr.below hba)
  obtain ⟨w1, hw1⟩ : ∃ x, w.alloc (.cells #[.int .i64 0, .int .i64 0, .int .i64 0, .bool false, .bool false, .bool false, .bool false, .bool false, .slice none 0 0, .slice none 0 0, .slice none 0 0, .slice none 0 0] 37) = x := ⟨_, rfl⟩
  obtain ⟨q2, hq2⟩ : ∃ x, w.heap.size = x := ⟨_, rfl⟩
  rw [hw1] at HC HB HRB
  rw [hq2] at HC
  have HW := Lib.hid hw1
  have HQ := Lib.hid hq2
  obtain ⟨s, hs⟩ : ∃ x, bs l = x := ⟨_, rfl⟩
  rw [hs] at HSZ ⊢
  have HS := Lib.hid hs
  clear hr hba hw1 hq2 hn hs
  by_cases g1 : 16000 < n
  · have d1 := dT (p := (16000 : Int) < (n : Int)) (by omega)
    have HLO := Lib.hid (decP_long (s := s) (by rw [HSZ.out]; exact g1))
    clear g1 hb
    go_enter Try.func10, Try.ntmps10
    go_upto_region 1 with (fail)
    rw [HW.out, HQ.out]
    clear HW
    obtain ⟨y0, y1, y2, y3, y4, y5, y6, y7, y8, y9, y10, y11, g0, g1, g2, g3, g4, g5, g6, g7, g8, g9, g10, g11⟩ := HC.out.u12
    have HCZ := Lib.hid (HC.out.s12 (.int .i64 0) (.int .i64 0) (.int .i64 0) (.bool false) (.bool false) (.bool false) (.bool false) (.bool false) (.slice none 0 0) (.slice none 0 0) (.slice none 0 0) (.slice none 0 0))
    have HGZ := Lib.hid (grown_s12 w1 q2 (.int .i64 0) (.int .i64 0) (.int .i64 0) (.bool false) (.bool false) (.bool false) (.bool false) (.bool false) (.slice none 0 0) (.slice none 0 0) (.slice none 0 0) (.slice none 0 0))
    have HBZ := Lib.hid (HB.out.grown HGZ.out HB.out.size (fun k hk => by injection hk with hk; rw [← hk, HQ.out]; exact Nat.le_refl _))
    go_wp2
    obtain ⟨wq, hwq⟩ : ∃ x, ((((((((((((w1.setCell ⟨q2, 0, none⟩ (.int .i64 0)).setCell ⟨q2, 1, none⟩ (.int .i64 0)).setCell ⟨q2, 2, none⟩ (.int .i64 0)).setCell ⟨q2, 3, none⟩ (.bool false)).setCell ⟨q2, 4, none⟩ (.bool false)).setCell ⟨q2, 5, none⟩ (.bool false)).setCell ⟨q2, 6, none⟩ (.bool false)).setCell ⟨q2, 7, none⟩ (.bool false)).setCell ⟨q2, 8, none⟩ (.slice none 0 0)).setCell ⟨q2, 9, none⟩ (.slice none 0 0)).setCell ⟨q2, 10, none⟩ (.slice none 0 0)).setCell ⟨q2, 11, none⟩ (.slice none 0 0)) = x := ⟨_, rfl⟩
    rw [hwq] at HCZ HBZ ⊢
    clear hwq HGZ y0 y1 y2 y3 y4 y5 y6 y7 y8 y9 y10 y11 g0 g1 g2 g3 g4 g5 g6 g7 g8 g9 g10 g11
    obtain ⟨z0, z1, z2, z3, z4, z5, z6, z7, z8, z9, z10, z11, _⟩ := HCZ.out.u12
    refine bodyPost_ret (v := .tuple #[.agg #[.int .i64 0, .int .i64 0, .int .i64 0, .bool false, .bool false, .bool false, .bool false, .bool false, .slice none 0 0, .slice none 0 0, .slice none 0 0, .slice none 0 0], .int .i64 3]) (by simp [results, Try.results10, go_sem, z0, z1, z2, z3, z4, z5, z6, z7, z8, z9, z10, z11]) rfl ⟨Or.inr ⟨HLO.out, 3, by decide, rfl⟩, HBZ.out⟩
  have d1 := dF (p := (16000 : Int) < (n : Int)) (by omega)
  have HN := Lib.hid (show s.size ≤ 16000 by rw [HSZ.out]; omega)
  clear g1 hb
  have hcv := conv_row HRB.out HN0.out
  rw [HS.out] at hcv
  have hba := (Below.refl w1.heap.size w1).alloc (Nat.le_refl _) (.cells #[.string s, .int .i64 0, .int .i64 0] 73)
  have HR := Lib.hid (show RdS (w1.alloc (.cells #[.string s, .int .i64 0, .int .i64 0] 73)) w1.heap.size s 0 0 from ⟨CN.new w1 #[.string s, .int .i64 0, .int .i64 0] 73, TB.new w1 _ _⟩)
  have HQ4 := Lib.hid HC.out.1
  have HB4 := Lib.hid HB.out.size
  replace HC := Lib.hid (HC.out.below hba)
  replace HB := Lib.hid (HB.out.trans (hba.mono HB.out.size))
  obtain ⟨w2, hw⟩ : ∃ x, w1.alloc (.cells #[.string s, .int .i64 0, .int .i64 0] 73) = x := ⟨_, rfl⟩
  obtain ⟨q4, hq4⟩ : ∃ x, w1.heap.size = x := ⟨_, rfl⟩
  rw [hw] at HR HC HB
  rw [hq4] at HR HQ4 HB4
  have HW2 := Lib.hid hw
  have HQQ := Lib.hid hq4
  clear hba hw hq4
  go_enter Try.func10, Try.ntmps10
  go_upto_region 3 with (fail)
  rw [HW.out, HQ.out]
  clear HW
  go_upto_region 4 with (fail)
  rw [HW2.out, HQQ.out]
  clear HW2 HQQ hcv
  have HBW := Lib.hid (show w.heap.size ≤ w2.heap.size from HB.out.size)
  have HQ2 := Lib.hid (show q2 < w2.heap.size from HC.out.1)
  go_wp2_with fail
  refine (message_r q4 s _ HR.out (by have := HN.out; omega)).mono ?_; rintro en w4 ⟨⟨⟨h0, h1, h2, b1, b2, b3, b4, b5⟩, Q, A, N, X⟩, qv, av, nv, xv, a5, e5, rfl, ⟨oq, oa, on, ox⟩, hsz, hr, hg, hst⟩
  replace HC := Lib.hid (HC.out.grown hg (fun e => by injection e with e; have := HQ4.out; omega))
  replace HB := Lib.hid (HB.out.grown hg HB.out.size (fun k hk => by injection hk with hk; rw [← hk]; exact HB4.out))
  replace HR := Lib.hid hr
  have HST := Lib.hid hst
  have HZM := Lib.hid hsz
  dsimp only at oq
  obtain ⟨lQ, hl⟩ : ∃ x, Q.length = x := ⟨_, rfl⟩
  rw [hl] at oq
  obtain ⟨pQ, cQ, rfl, -⟩ := cellsK_own oq
  have HLQ := Lib.hid hl
  have HOQ := Lib.hid oq
  clear hl oq
  dsimp only at oa
  obtain ⟨lA, hl⟩ : ∃ x, A.length = x := ⟨_, rfl⟩
  rw [hl] at oa
  obtain ⟨pA, cA, rfl, -⟩ := cellsK_own oa
  have HLA := Lib.hid hl
  have HOA := Lib.hid oa
  clear hl oa
  dsimp only at on
  obtain ⟨lN, hl⟩ : ∃ x, N.length = x := ⟨_, rfl⟩
  rw [hl] at on
  obtain ⟨pN, cN, rfl, -⟩ := cellsK_own on
  have HLN := Lib.hid hl
  have HON := Lib.hid on
  clear hl on
  dsimp only at ox
  obtain ⟨lX, hl⟩ : ∃ x, X.length = x := ⟨_, rfl⟩
  rw [hl] at ox
  obtain ⟨pX, cX, rfl, -⟩ := cellsK_own ox
  have HLX := Lib.hid hl
  have HOX := Lib.hid ox
  clear hl ox
  have hba := (Below.refl w4.heap.size w4).alloc (Nat.le_refl _) (.cells #[.int .i64 h0, .int .i64 h1, .int .i64 h2, .bool b1, .bool b2, .bool b3, .bool b4, .bool b5, .slice pQ lQ cQ, .slice pA lA cA, .slice pN lN cN, .slice pX lX cX] 37)
  have HM := Lib.hid (CN.new w4 #[.int .i64 h0, .int .i64 h1, .int .i64 h2, .bool b1, .bool b2, .bool b3, .bool b4, .bool b5, .slice pQ lQ cQ, .slice pA lA cA, .slice pN lN cN, .slice pX lX cX] 37)
  replace HC := Lib.hid (HC.out.below hba)
  replace HB := Lib.hid (HB.out.trans (hba.mono HB.out.size))
  replace HR := Lib.hid (HR.out.below hba)
  replace HOQ := Lib.hid (own_below' HOQ.out hba)
  replace HOA := Lib.hid (own_below' HOA.out hba)
  replace HON := Lib.hid (own_below' HON.out hba)
  replace HOX := Lib.hid (own_below' HOX.out hba)
  obtain ⟨w5, hw⟩ : ∃ x, w4.alloc (.cells #[.int .i64 h0, .int .i64 h1, .int .i64 h2, .bool b1, .bool b2, .bool b3, .bool b4, .bool b5, .slice pQ lQ cQ, .slice pA lA cA, .slice pN lN cN, .slice pX lX cX] 37) = x := ⟨_, rfl⟩
  obtain ⟨q5, hq5⟩ : ∃ x, w4.heap.size = x := ⟨_, rfl⟩
  rw [hw] at HM HC HB HR HOQ HOA HON HOX
  rw [hq5] at HM
  have HW := Lib.hid hw
  have HQ5 := Lib.hid hq5
  clear hba hw hq5 hsz hr hg hst
  simp only [msgC]
  go_upto_region 5 with (fail)
  rw [HW.out, HQ5.out]
  clear HW HQ5
  by_cases k5 : e5 = 0
  rotate_left
  · have e1 := eF k5
    have e2 := nT k5
    have HEN := Lib.hid k5
    have HND := Lib.hid (decP_no HST.out (Or.inl k5))
    clear k5
    refine wp_region_held_drew (S := (fun wx => RdS wx q4 s a5 e5 ∧ Below w5.heap.size w5 wx)) (by kernel_rfl) (⟨HR.out.drew, (Below.refl _ _).drew⟩) (fun hHeld => ?_)
    obtain ⟨wz, hwd⟩ : ∃ x, w5.drew = x := ⟨_, rfl⟩
    rw [hwd] at hHeld ⊢
    clear hwd
    refine wpAnyH_take (i := 0) (oi := { dst := some 16, op := Go.Op.move (Go.Operand.tmp 4), type := 71, pos := "decode.go:26", after := #[], guard := none }) (v := ?v0_301101) rfl (by kernel_rfl) (by kernel_rfl) (by kernel_rfl) (fun _ _ _ h => h) (Or.inl ⟨by rfl, ?y0_301101⟩) hHeld ?r0_301101
    case y0_301101 => intro w hSw; (try dsimp only at hSw); go_simp; try with_reducible rfl
    try simp only [Act.put, List.setIfInBounds_toArray, List.set_cons_zero, List.set_cons_succ]
    refine wpAnyH_take (i := 1) (oi := { dst := some 17, op := Go.Op.nilCheck (Go.Operand.tmp 16), type := 0, pos := "decode.go:26", after := #[{ on := 0, ground := Go.Ground.data }], guard := none }) (v := ?v1_301101) rfl (by kernel_rfl) (by kernel_rfl) (by kernel_rfl) (fun _ _ _ h => h) (Or.inl ⟨by rfl, ?y1_301101⟩) hHeld ?r1_301101
    case y1_301101 => intro w hSw; (try dsimp only at hSw); go_simp; try with_reducible rfl
    try simp only [Act.put, List.setIfInBounds_toArray, List.set_cons_zero, List.set_cons_succ]
    refine wpAnyH_take (i := 2) (oi := { dst := some 18, op := Go.Op.fieldAddr 73 (Go.Operand.tmp 17) 2, type := 0, pos := "decode.go:26", after := #[{ on := 1, ground := Go.Ground.data }], guard := none }) (v := ?v2_301101) rfl (by kernel_rfl) (by kernel_rfl) (by kernel_rfl) (fun _ _ _ h => h) (Or.inl ⟨by rfl, ?y2_301101⟩) hHeld ?r2_301101
    case y2_301101 => intro w hSw; (try dsimp only at hSw); go_simp; try with_reducible rfl
    try simp only [Act.put, List.setIfInBounds_toArray, List.set_cons_zero, List.set_cons_succ]
    refine wpAnyH_take (i := 3) (oi := { dst := some 19, op := Go.Op.load 38 (Go.Operand.tmp 18), type := 38, pos := "decode.go:26", after := #[{ on := 2, ground := Go.Ground.data }], guard := none }) (v := ?v3_301101) rfl (by kernel_rfl) (by kernel_rfl) (by kernel_rfl) (fun _ _ _ h => h) (Or.inl ⟨by rfl, ?y3_301101⟩) hHeld ?r3_301101
    case y3_301101 => intro w hSw; (try dsimp only at hSw); obtain ⟨c0, c1, c2, f1, f2⟩ := hSw.1.cells; go_simp; try with_reducible rfl
    try simp only [Act.put, List.setIfInBounds_toArray, List.set_cons_zero, List.set_cons_succ]
    refine wpAnyH_take (i := 4) (oi := { dst := some 20, op := Go.Op.binOp Go.BinOp.eql 38 (Go.Operand.tmp 19) (Go.Operand.const (Go.Value.int Go.IntKind.i64 0)) 38, type := 4, pos := "decode.go:26", after := #[{ on := 3, ground := Go.Ground.data }], guard := none }) (v := ?v4_301101) rfl (by kernel_rfl) (by kernel_rfl) (by kernel_rfl) (fun _ _ _ h => h) (Or.inl ⟨by rfl, ?y4_301101⟩) hHeld ?r4_301101
    case y4_301101 => intro w hSw; (try dsimp only at hSw); go_simp; try with_reducible rfl
    try simp only [Act.put, List.setIfInBounds_toArray, List.set_cons_zero, List.set_cons_succ]
    refine wpAnyH_take (i := 5) (oi := { dst := some 21, op := Go.Op.move (Go.Operand.tmp 20), type := 4, pos := "decode.go:26", after := #[{ on := 4, ground := Go.Ground.data }], guard := none }) (v := ?v5_301101) rfl (by kernel_rfl) (by kernel_rfl) (by kernel_rfl) (fun _ _ _ h => h) (Or.inl ⟨by rfl, ?y5_301101⟩) hHeld ?r5_301101
    case y5_301101 => intro w hSw; (try dsimp only at hSw); go_simp; try with_reducible rfl
    try simp only [Act.put, List.setIfInBounds_toArray, List.set_cons_zero, List.set_cons_succ]
    refine wpAnyH_take (i := 6) (oi := { dst := some 22, op := Go.Op.move (Go.Operand.tmp 4), type := 71, pos := "decode.go:26", after := #[{ on := 5, ground := Go.Ground.guard }], guard := some (5, true) }) (v := undef) rfl (by kernel_rfl) (by kernel_rfl) (by kernel_rfl) (fun _ _ _ h => h) (Or.inr ⟨by rfl, rfl⟩) hHeld ?_
    try simp only [Act.put, List.setIfInBounds_toArray, List.set_cons_zero, List.set_cons_succ]
    refine wpAnyH_take (i := 7) (oi := { dst := some 23, op := Go.Op.nilCheck (Go.Operand.tmp 22), type := 0, pos := "decode.go:26", after := #[{ on := 6, ground := Go.Ground.data }, { on := 5, ground := Go.Ground.guard }], guard := some (5, true) }) (v := undef) rfl (by kernel_rfl) (by kernel_rfl) (by kernel_rfl) (fun _ _ _ h => h) (Or.inr ⟨by rfl, rfl⟩) hHeld ?_
    try simp only [Act.put, List.setIfInBounds_toArray, List.set_cons_zero, List.set_cons_succ]
    refine wpAnyH_take (i := 8) (oi := { dst := some 24, op := Go.Op.fieldAddr 73 (Go.Operand.tmp 23) 1, type := 0, pos := "decode.go:26", after := #[{ on := 7, ground := Go.Ground.data }, { on := 5, ground := Go.Ground.guard }], guard := some (5, true) }) (v := undef) rfl (by kernel_rfl) (by kernel_rfl) (by kernel_rfl) (fun _ _ _ h => h) (Or.inr ⟨by rfl, rfl⟩) hHeld ?_
    try simp only [Act.put, List.setIfInBounds_toArray, List.set_cons_zero, List.set_cons_succ]
    refine wpAnyH_take (i := 9) (oi := { dst := some 25, op := Go.Op.load 3 (Go.Operand.tmp 24), type := 3, pos := "decode.go:26", after := #[{ on := 8, ground := Go.Ground.data }, { on := 5, ground := Go.Ground.guard }], guard := some (5, true) }) (v := undef) rfl (by kernel_rfl) (by kernel_rfl) (by kernel_rfl) (fun _ _ _ h => h) (Or.inr ⟨by rfl, rfl⟩) hHeld ?_
    try simp only [Act.put, List.setIfInBounds_toArray, List.set_cons_zero, List.set_cons_succ]
    refine wpAnyH_take (i := 10) (oi := { dst := some 26, op := Go.Op.move (Go.Operand.tmp 4), type := 71, pos := "decode.go:26", after := #[{ on := 5, ground := Go.Ground.guard }], guard := some (5, true) }) (v := undef) rfl (by kernel_rfl) (by kernel_rfl) (by kernel_rfl) (fun _ _ _ h => h) (Or.inr ⟨by rfl, rfl⟩) hHeld ?_
    try simp only [Act.put, List.setIfInBounds_toArray, List.set_cons_zero, List.set_cons_succ]
    refine wpAnyH_take (i := 11) (oi := { dst := some 27, op := Go.Op.nilCheck (Go.Operand.tmp 26), type := 0, pos := "decode.go:26", after := #[{ on := 10, ground := Go.Ground.data }, { on := 5, ground := Go.Ground.guard }], guard := some (5, true) }) (v := undef) rfl (by kernel_rfl) (by kernel_rfl) (by kernel_rfl) (fun _ _ _ h => h) (Or.inr ⟨by rfl, rfl⟩) hHeld ?_
    try simp only [Act.put, List.setIfInBounds_toArray, List.set_cons_zero, List.set_cons_succ]
    refine wpAnyH_take (i := 12) (oi := { dst := some 28, op := Go.Op.fieldAddr 73 (Go.Operand.tmp 27) 0, type := 0, pos := "decode.go:26", after := #[{ on := 11, ground := Go.Ground.data }, { on := 5, ground := Go.Ground.guard }], guard := some (5, true) }) (v := undef) rfl (by kernel_rfl) (by kernel_rfl) (by kernel_rfl) (fun _ _ _ h => h) (Or.inr ⟨by rfl, rfl⟩) hHeld ?_
    try simp only [Act.put, List.setIfInBounds_toArray, List.set_cons_zero, List.set_cons_succ]
    refine wpAnyH_take (i := 13) (oi := { dst := some 29, op := Go.Op.load 9 (Go.Operand.tmp 28), type := 9, pos := "decode.go:26", after := #[{ on := 12, ground := Go.Ground.data }, { on := 5, ground := Go.Ground.guard }], guard := some (5, true) }) (v := undef) rfl (by kernel_rfl) (by kernel_rfl) (by kernel_rfl) (fun _ _ _ h => h) (Or.inr ⟨by rfl, rfl⟩) hHeld ?_
    try simp only [Act.put, List.setIfInBounds_toArray, List.set_cons_zero, List.set_cons_succ]
    refine wpAnyH_take (i := 14) (oi := { dst := some 30, op := Go.Op.call { callee := Go.Callee.builtin Go.Builtin.len, args := #[Go.Operand.tmp 29], argTypes := #[9] }, type := 3, pos := "decode.go:26", after := #[{ on := 13, ground := Go.Ground.data }, { on := 5, ground := Go.Ground.guard }], guard := some (5, true) }) (v := undef) rfl (by kernel_rfl) (by kernel_rfl) (by kernel_rfl) (fun _ _ _ h => h) (Or.inr ⟨by rfl, rfl⟩) hHeld ?_
    try simp only [Act.put, List.setIfInBounds_toArray, List.set_cons_zero, List.set_cons_succ]
    refine wpAnyH_take (i := 15) (oi := { dst := some 31, op := Go.Op.binOp Go.BinOp.lss 3 (Go.Operand.tmp 25) (Go.Operand.tmp 30) 3, type := 4, pos := "decode.go:26", after := #[{ on := 9, ground := Go.Ground.data }, { on := 14, ground := Go.Ground.data }, { on := 5, ground := Go.Ground.guard }], guard := some (5, true) }) (v := undef) rfl (by kernel_rfl) (by kernel_rfl) (by kernel_rfl) (fun _ _ _ h => h) (Or.inr ⟨by rfl, rfl⟩) hHeld ?_
    try simp only [Act.put, List.setIfInBounds_toArray, List.set_cons_zero, List.set_cons_succ]
    refine wpAnyH_take (i := 16) (oi := { dst := some 32, op := Go.Op.pick (Go.Operand.tmp 21) (Go.Operand.tmp 31) (Go.Operand.const (Go.Value.bool false)), type := 4, pos := "decode.go:26", after := #[{ on := 5, ground := Go.Ground.data }, { on := 15, ground := Go.Ground.data }], guard := none }) (v := ?v16_301101) rfl (by kernel_rfl) (by kernel_rfl) (by kernel_rfl) (fun _ _ _ h => h) (Or.inl ⟨by rfl, ?y16_301101⟩) hHeld ?r16_301101
    case y16_301101 => intro w hSw; (try dsimp only at hSw); go_simp; try with_reducible rfl
    try simp only [Act.put, List.setIfInBounds_toArray, List.set_cons_zero, List.set_cons_succ]
    refine wpAnyH_done (by kernel_rfl) ?_ _
    replace HC := Lib.hid (HC.out.below hHeld.2)
    replace HM := Lib.hid (HM.out.below hHeld.2)
    replace HB := Lib.hid (HB.out.trans (hHeld.2.mono HB.out.size))
    replace HOQ := Lib.hid (own_below' HOQ.out hHeld.2)
    replace HOA := Lib.hid (own_below' HOA.out hHeld.2)
    replace HON := Lib.hid (own_below' HON.out hHeld.2)
    replace HOX := Lib.hid (own_below' HOX.out hHeld.2)
    replace HR := Lib.hid hHeld.1
    clear hHeld
    obtain ⟨c0, c1, c2, f1, f2⟩ := HR.out.cells
    go_upto_region 8 with (fail)
    refine wp_region_held_drew (S := (fun wx => RdS wx q4 s a5 e5)) (by kernel_rfl) (HR.out.drew) (fun hHeld => ?_)
    replace HC := Lib.hid (HC.out.below (Below.refl _ _).drew)
    replace HB := Lib.hid HB.out.drew
    replace HR := Lib.hid HR.out.drew
    clear c0 c1 c2 f1 f2
    obtain ⟨wy, hwd⟩ : ∃ x, wz.drew = x := ⟨_, rfl⟩
    rw [hwd] at hHeld HC HB HR ⊢
    clear hwd
    refine wpAnyH_take (i := 0) (oi := { dst := some 41, op := Go.Op.build 37 #[], type := 37, pos := "decode.go:30", after := #[], guard := none }) (v := ?v0_302101) rfl (by kernel_rfl) (by kernel_rfl) (by kernel_rfl) (fun _ _ _ h => h) (Or.inl ⟨by rfl, ?y0_302101⟩) hHeld ?r0_302101
    case y0_302101 => intro w hSw; (try dsimp only at hSw); go_simp; try with_reducible rfl
    try simp only [Act.put, List.setIfInBounds_toArray, List.set_cons_zero, List.set_cons_succ]
    refine wpAnyH_take (i := 1) (oi := { dst := some 42, op := Go.Op.move (Go.Operand.tmp 4), type := 71, pos := "decode.go:30", after := #[{ on := 5, ground := Go.Ground.gcOnly Go.Departure.lateStores }], guard := none }) (v := ?v1_302101) rfl (by kernel_rfl) (by kernel_rfl) (by kernel_rfl) (fun _ _ _ h => h) (Or.inl ⟨by rfl, ?y1_302101⟩) hHeld ?r1_302101
    case y1_302101 => intro w hSw; (try dsimp only at hSw); go_simp; try with_reducible rfl
    try simp only [Act.put, List.setIfInBounds_toArray, List.set_cons_zero, List.set_cons_succ]
    refine wpAnyH_take (i := 2) (oi := { dst := some 43, op := Go.Op.nilCheck (Go.Operand.tmp 42), type := 0, pos := "decode.go:30", after := #[{ on := 1, ground := Go.Ground.data }, { on := 5, ground := Go.Ground.gcOnly Go.Departure.lateStores }], guard := none }) (v := ?v2_302101) rfl (by kernel_rfl) (by kernel_rfl) (by kernel_rfl) (fun _ _ _ h => h) (Or.inl ⟨by rfl, ?y2_302101⟩) hHeld ?r2_302101
    case y2_302101 => intro w hSw; (try dsimp only at hSw); go_simp; try with_reducible rfl
    try simp only [Act.put, List.setIfInBounds_toArray, List.set_cons_zero, List.set_cons_succ]
    refine wpAnyH_take (i := 3) (oi := { dst := some 44, op := Go.Op.fieldAddr 73 (Go.Operand.tmp 43) 2, type := 0, pos := "decode.go:30", after := #[{ on := 2, ground := Go.Ground.data }, { on := 5, ground := Go.Ground.gcOnly Go.Departure.lateStores }], guard := none }) (v := ?v3_302101) rfl (by kernel_rfl) (by kernel_rfl) (by kernel_rfl) (fun _ _ _ h => h) (Or.inl ⟨by rfl, ?y3_302101⟩) hHeld ?r3_302101
    case y3_302101 => intro w hSw; (try dsimp only at hSw); go_simp; try with_reducible rfl
    try simp only [Act.put, List.setIfInBounds_toArray, List.set_cons_zero, List.set_cons_succ]
    refine wpAnyH_take (i := 4) (oi := { dst := some 45, op := Go.Op.load 38 (Go.Operand.tmp 44), type := 38, pos := "decode.go:30", after := #[{ on := 3, ground := Go.Ground.data }, { on := 5, ground := Go.Ground.gcOnly Go.Departure.lateStores }], guard := none }) (v := ?v4_302101) rfl (by kernel_rfl) (by kernel_rfl) (by kernel_rfl) (fun _ _ _ h => h) (Or.inl ⟨by rfl, ?y4_302101⟩) hHeld ?r4_302101
    case y4_302101 => intro w hSw; (try dsimp only at hSw); obtain ⟨c0, c1, c2, f1, f2⟩ := hSw.cells; go_simp; try with_reducible rfl
    try simp only [Act.put, List.setIfInBounds_toArray, List.set_cons_zero, List.set_cons_succ]
    refine wpAnyH_ready (rs := [5]) (by kernel_rfl) (by simp) ?_
    refine AllReadyH.cons (o := { dst := none, op := Go.Op.store 37 (Go.Operand.tmp 2) (Go.Operand.tmp 41), type := 0, pos := "decode.go:30", after := #[{ on := 0, ground := Go.Ground.data }, { on := 0, ground := Go.Ground.phase }, { on := 1, ground := Go.Ground.textOnly Go.Departure.lateStores }, { on := 2, ground := Go.Ground.textOnly Go.Departure.lateStores }, { on := 3, ground := Go.Ground.textOnly Go.Departure.lateStores }, { on := 4, ground := Go.Ground.textOnly Go.Departure.lateStores }], guard := none }) rfl (fun K hK => ?_) AllReadyH.nil
    obtain ⟨y0, y1, y2, y3, y4, y5, y6, y7, y8, y9, y10, y11, g0, g1, g2, g3, g4, g5, g6, g7, g8, g9, g10, g11⟩ := HC.out.u12
    have HCZ := Lib.hid (HC.out.s12 (.int .i64 0) (.int .i64 0) (.int .i64 0) (.bool false) (.bool false) (.bool false) (.bool false) (.bool false) (.slice none 0 0) (.slice none 0 0) (.slice none 0 0) (.slice none 0 0))
    have HGZ := Lib.hid (grown_s12 wy q2 (.int .i64 0) (.int .i64 0) (.int .i64 0) (.bool false) (.bool false) (.bool false) (.bool false) (.bool false) (.slice none 0 0) (.slice none 0 0) (.slice none 0 0) (.slice none 0 0))
    have HRZ := Lib.hid (show RdS ((((((((((((wy.setCell ⟨q2, 0, none⟩ (.int .i64 0)).setCell ⟨q2, 1, none⟩ (.int .i64 0)).setCell ⟨q2, 2, none⟩ (.int .i64 0)).setCell ⟨q2, 3, none⟩ (.bool false)).setCell ⟨q2, 4, none⟩ (.bool false)).setCell ⟨q2, 5, none⟩ (.bool false)).setCell ⟨q2, 6, none⟩ (.bool false)).setCell ⟨q2, 7, none⟩ (.bool false)).setCell ⟨q2, 8, none⟩ (.slice none 0 0)).setCell ⟨q2, 9, none⟩ (.slice none 0 0)).setCell ⟨q2, 10, none⟩ (.slice none 0 0)).setCell ⟨q2, 11, none⟩ (.slice none 0 0)) q4 s a5 e5 from ⟨HR.out.1.grown HGZ.out (fun e => by injection e with e; have := HQ4.out; omega), HR.out.2.grown HGZ.out (fun e => by injection e with e; have := HQ4.out; omega)⟩)
    have HBZ := Lib.hid (HB.out.grown HGZ.out HB.out.size (fun k hk => by injection hk with hk; rw [← hk, HQ.out]; exact Nat.le_refl _))
    go_simp
    refine hK.out _ _ (HRZ.out) (fun hHeld2 => ?_)
    clear hK K hHeld
    have hHeld := hHeld2
    clear hHeld2
    try simp only [Act.put, List.setIfInBounds_toArray, List.set_cons_zero, List.set_cons_succ]
    refine wpAnyH_take (i := 6) (oi := { dst := some 3, op := Go.Op.assign (Go.Operand.tmp 45), type := 38, pos := "decode.go:30", after := #[{ on := 4, ground := Go.Ground.data }, { on := 5, ground := Go.Ground.chain }, { on := 0, ground := Go.Ground.phase }, { on := 1, ground := Go.Ground.phase }, { on := 2, ground := Go.Ground.phase }, { on := 3, ground := Go.Ground.phase }, { on := 4, ground := Go.Ground.phase }, { on := 5, ground := Go.Ground.phase }], guard := none }) (v := ?v6_302102) rfl (by kernel_rfl) (by kernel_rfl) (by kernel_rfl) (fun _ _ _ h => h) (Or.inl ⟨by rfl, ?y6_302102⟩) hHeld ?r6_302102
    case y6_302102 => intro w hSw; (try dsimp only at hSw); go_simp; try with_reducible rfl
    try simp only [Act.put, List.setIfInBounds_toArray, List.set_cons_zero, List.set_cons_succ]
    refine wpAnyH_done (by kernel_rfl) ?_ _
    obtain ⟨wq, hwq⟩ : ∃ x, ((((((((((((wy.setCell ⟨q2, 0, none⟩ (.int .i64 0)).setCell ⟨q2, 1, none⟩ (.int .i64 0)).setCell ⟨q2, 2, none⟩ (.int .i64 0)).setCell ⟨q2, 3, none⟩ (.bool false)).setCell ⟨q2, 4, none⟩ (.bool false)).setCell ⟨q2, 5, none⟩ (.bool false)).setCell ⟨q2, 6, none⟩ (.bool false)).setCell ⟨q2, 7, none⟩ (.bool false)).setCell ⟨q2, 8, none⟩ (.slice none 0 0)).setCell ⟨q2, 9, none⟩ (.slice none 0 0)).setCell ⟨q2, 10, none⟩ (.slice none 0 0)).setCell ⟨q2, 11, none⟩ (.slice none 0 0)) = x := ⟨_, rfl⟩
    rw [hwq] at HCZ HBZ ⊢
    clear hHeld hwq HGZ HRZ y0 y1 y2 y3 y4 y5 y6 y7 y8 y9 y10 y11 g0 g1 g2 g3 g4 g5 g6 g7 g8 g9 g10 g11
    obtain ⟨z0, z1, z2, z3, z4, z5, z6, z7, z8, z9, z10, z11, _⟩ := HCZ.out.u12
    go_wp2
    refine bodyPost_ret (v := .tuple #[.agg #[.int .i64 0, .int .i64 0, .int .i64 0, .bool false, .bool false, .bool false, .bool false, .bool false, .slice none 0 0, .slice none 0 0, .slice none 0 0, .slice none 0 0], .int .i64 (e5)]) (by simp [results, Try.results10, go_sem, z0, z1, z2, z3, z4, z5, z6, z7, z8, z9, z10, z11]) rfl ⟨Or.inr ⟨HND.out, e5, HEN.out, rfl⟩, HBZ.out⟩
  have e1 := eT k5
  have e2 := nF k5
  have HE5 := Lib.hid k5
  clear k5
  by_cases g5 : a5 < s.size
  · have d5 := dT g5
    have HND := Lib.hid (decP_no HST.out (Or.inr g5))
    have HEN := Lib.hid (show (3 : Int) ≠ 0 by decide)
    clear g5
    refine wp_region_held_drew (S := (fun wx => RdS wx q4 s a5 e5 ∧ Below w5.heap.size w5 wx)) (by kernel_rfl) (⟨HR.out.drew, (Below.refl _ _).drew⟩) (fun hHeld => ?_)
    obtain ⟨wz, hwd⟩ : ∃ x, w5.drew = x := ⟨_, rfl⟩
    rw [hwd] at hHeld ⊢
    clear hwd
    refine wpAnyH_take (i := 0) (oi := { dst := some 16, op := Go.Op.move (Go.Operand.tmp 4), type := 71, pos := "decode.go:26", after := #[], guard := none }) (v := ?v0_303101) rfl (by kernel_rfl) (by kernel_rfl) (by kernel_rfl) (fun _ _ _ h => h) (Or.inl ⟨by rfl, ?y0_303101⟩) hHeld ?r0_303101
    case y0_303101 => intro w hSw; (try dsimp only at hSw); go_simp; try with_reducible rfl
    try simp only [Act.put, List.setIfInBounds_toArray, List.set_cons_zero, List.set_cons_succ]
    refine wpAnyH_take (i := 1) (oi := { dst := some 17, op := Go.Op.nilCheck (Go.Operand.tmp 16), type := 0, pos := "decode.go:26", after := #[{ on := 0, ground := Go.Ground.data }], guard := none }) (v := ?v1_303101) rfl (by kernel_rfl) (by kernel_rfl) (by kernel_rfl) (fun _ _ _ h => h) (Or.inl ⟨by rfl, ?y1_303101⟩) hHeld ?r1_303101
    case y1_303101 => intro w hSw; (try dsimp only at hSw); go_simp; try with_reducible rfl
    try simp only [Act.put, List.setIfInBounds_toArray, List.set_cons_zero, List.set_cons_succ]
    refine wpAnyH_take (i := 2) (oi := { dst := some 18, op := Go.Op.fieldAddr 73 (Go.Operand.tmp 17) 2, type := 0, pos := "decode.go:26", after := #[{ on := 1, ground := Go.Ground.data }], guard := none }) (v := ?v2_303101) rfl (by kernel_rfl) (by kernel_rfl) (by kernel_rfl) (fun _ _ _ h => h) (Or.inl ⟨by rfl, ?y2_303101⟩) hHeld ?r2_303101
    case y2_303101 => intro w hSw; (try dsimp only at hSw); go_simp; try with_reducible rfl
    try simp only [Act.put, List.setIfInBounds_toArray, List.set_cons_zero, List.set_cons_succ]
    refine wpAnyH_take (i := 3) (oi := { dst := some 19, op := Go.Op.load 38 (Go.Operand.tmp 18), type := 38, pos := "decode.go:26", after := #[{ on := 2, ground := Go.Ground.data }], guard := none }) (v := ?v3_303101) rfl (by kernel_rfl) (by kernel_rfl) (by kernel_rfl) (fun _ _ _ h => h) (Or.inl ⟨by rfl, ?y3_303101⟩) hHeld ?r3_303101
    case y3_303101 => intro w hSw; (try dsimp only at hSw); obtain ⟨c0, c1, c2, f1, f2⟩ := hSw.1.cells; go_simp; try with_reducible rfl
    try simp only [Act.put, List.setIfInBounds_toArray, List.set_cons_zero, List.set_cons_succ]
    refine wpAnyH_take (i := 4) (oi := { dst := some 20, op := Go.Op.binOp Go.BinOp.eql 38 (Go.Operand.tmp 19) (Go.Operand.const (Go.Value.int Go.IntKind.i64 0)) 38, type := 4, pos := "decode.go:26", after := #[{ on := 3, ground := Go.Ground.data }], guard := none }) (v := ?v4_303101) rfl (by kernel_rfl) (by kernel_rfl) (by kernel_rfl) (fun _ _ _ h => h) (Or.inl ⟨by rfl, ?y4_303101⟩) hHeld ?r4_303101
    case y4_303101 => intro w hSw; (try dsimp only at hSw); go_simp; try with_reducible rfl
    try simp only [Act.put, List.setIfInBounds_toArray, List.set_cons_zero, List.set_cons_succ]
    refine wpAnyH_take (i := 5) (oi := { dst := some 21, op := Go.Op.move (Go.Operand.tmp 20), type := 4, pos := "decode.go:26", after := #[{ on := 4, ground := Go.Ground.data }], guard := none }) (v := ?v5_303101) rfl (by kernel_rfl) (by kernel_rfl) (by kernel_rfl) (fun _ _ _ h => h) (Or.inl ⟨by rfl, ?y5_303101⟩) hHeld ?r5_303101
    case y5_303101 => intro w hSw; (try dsimp only at hSw); go_simp; try with_reducible rfl
    try simp only [Act.put, List.setIfInBounds_toArray, List.set_cons_zero, List.set_cons_succ]
    refine wpAnyH_take (i := 6) (oi := { dst := some 22, op := Go.Op.move (Go.Operand.tmp 4), type := 71, pos := "decode.go:26", after := #[{ on := 5, ground := Go.Ground.guard }], guard := some (5, true) }) (v := ?v6_303101) rfl (by kernel_rfl) (by kernel_rfl) (by kernel_rfl) (fun _ _ _ h => h) (Or.inl ⟨by rfl, ?y6_303101⟩) hHeld ?r6_303101
    case y6_303101 => intro w hSw; (try dsimp only at hSw); go_simp; try with_reducible rfl
    try simp only [Act.put, List.setIfInBounds_toArray, List.set_cons_zero, List.set_cons_succ]
    refine wpAnyH_take (i := 7) (oi := { dst := some 23, op := Go.Op.nilCheck (Go.Operand.tmp 22), type := 0, pos := "decode.go:26", after := #[{ on := 6, ground := Go.Ground.data }, { on := 5, ground := Go.Ground.guard }], guard := some (5, true) }) (v := ?v7_303101) rfl (by kernel_rfl) (by kernel_rfl) (by kernel_rfl) (fun _ _ _ h => h) (Or.inl ⟨by rfl, ?y7_303101⟩) hHeld ?r7_303101
    case y7_303101 => intro w hSw; (try dsimp only at hSw); go_simp; try with_reducible rfl
    try simp only [Act.put, List.setIfInBounds_toArray, List.set_cons_zero, List.set_cons_succ]
    refine wpAnyH_take (i := 8) (oi := { dst := some 24, op := Go.Op.fieldAddr 73 (Go.Operand.tmp 23) 1, type := 0, pos := "decode.go:26", after := #[{ on := 7, ground := Go.Ground.data }, { on := 5, ground := Go.Ground.guard }], guard := some (5, true) }) (v := ?v8_303101) rfl (by kernel_rfl) (by kernel_rfl) (by kernel_rfl) (fun _ _ _ h => h) (Or.inl ⟨by rfl, ?y8_303101⟩) hHeld ?r8_303101
    case y8_303101 => intro w hSw; (try dsimp only at hSw); go_simp; try with_reducible rfl
    try simp only [Act.put, List.setIfInBounds_toArray, List.set_cons_zero, List.set_cons_succ]
    refine wpAnyH_take (i := 9) (oi := { dst := some 25, op := Go.Op.load 3 (Go.Operand.tmp 24), type := 3, pos := "decode.go:26", after := #[{ on := 8, ground := Go.Ground.data }, { on := 5, ground := Go.Ground.guard }], guard := some (5, true) }) (v := ?v9_303101) rfl (by kernel_rfl) (by kernel_rfl) (by kernel_rfl) (fun _ _ _ h => h) (Or.inl ⟨by rfl, ?y9_303101⟩) hHeld ?r9_303101
    case y9_303101 => intro w hSw; (try dsimp only at hSw); obtain ⟨c0, c1, c2, f1, f2⟩ := hSw.1.cells; go_simp; try with_reducible rfl
    try simp only [Act.put, List.setIfInBounds_toArray, List.set_cons_zero, List.set_cons_succ]
    refine wpAnyH_take (i := 10) (oi := { dst := some 26, op := Go.Op.move (Go.Operand.tmp 4), type := 71, pos := "decode.go:26", after := #[{ on := 5, ground := Go.Ground.guard }], guard := some (5, true) }) (v := ?v10_303101) rfl (by kernel_rfl) (by kernel_rfl) (by kernel_rfl) (fun _ _ _ h => h) (Or.inl ⟨by rfl, ?y10_303101⟩) hHeld ?r10_303101
    case y10_303101 => intro w hSw; (try dsimp only at hSw); go_simp; try with_reducible rfl
    try simp only [Act.put, List.setIfInBounds_toArray, List.set_cons_zero, List.set_cons_succ]
    refine wpAnyH_take (i := 11) (oi := { dst := some 27, op := Go.Op.nilCheck (Go.Operand.tmp 26), type := 0, pos := "decode.go:26", after := #[{ on := 10, ground := Go.Ground.data }, { on := 5, ground := Go.Ground.guard }], guard := some (5, true) }) (v := ?v11_303101) rfl (by kernel_rfl) (by kernel_rfl) (by kernel_rfl) (fun _ _ _ h => h) (Or.inl ⟨by rfl, ?y11_303101⟩) hHeld ?r11_303101
    case y11_303101 => intro w hSw; (try dsimp only at hSw); go_simp; try with_reducible rfl
    try simp only [Act.put, List.setIfInBounds_toArray, List.set_cons_zero, List.set_cons_succ]
    refine wpAnyH_take (i := 12) (oi := { dst := some 28, op := Go.Op.fieldAddr 73 (Go.Operand.tmp 27) 0, type := 0, pos := "decode.go:26", after := #[{ on := 11, ground := Go.Ground.data }, { on := 5, ground := Go.Ground.guard }], guard := some (5, true) }) (v := ?v12_303101) rfl (by kernel_rfl) (by kernel_rfl) (by kernel_rfl) (fun _ _ _ h => h) (Or.inl ⟨by rfl, ?y12_303101⟩) hHeld ?r12_303101
    case y12_303101 => intro w hSw; (try dsimp only at hSw); go_simp; try with_reducible rfl
    try simp only [Act.put, List.setIfInBounds_toArray, List.set_cons_zero, List.set_cons_succ]
    refine wpAnyH_take (i := 13) (oi := { dst := some 29, op := Go.Op.load 9 (Go.Operand.tmp 28), type := 9, pos := "decode.go:26", after := #[{ on := 12, ground := Go.Ground.data }, { on := 5, ground := Go.Ground.guard }], guard := some (5, true) }) (v := ?v13_303101) rfl (by kernel_rfl) (by kernel_rfl) (by kernel_rfl) (fun _ _ _ h => h) (Or.inl ⟨by rfl, ?y13_303101⟩) hHeld ?r13_303101
    case y13_303101 => intro w hSw; (try dsimp only at hSw); obtain ⟨c0, c1, c2, f1, f2⟩ := hSw.1.cells; go_simp; try with_reducible rfl
    try simp only [Act.put, List.setIfInBounds_toArray, List.set_cons_zero, List.set_cons_succ]
    refine wpAnyH_take (i := 14) (oi := { dst := some 30, op := Go.Op.call { callee := Go.Callee.builtin Go.Builtin.len, args := #[Go.Operand.tmp 29], argTypes := #[9] }, type := 3, pos := "decode.go:26", after := #[{ on := 13, ground := Go.Ground.data }, { on := 5, ground := Go.Ground.guard }], guard := some (5, true) }) (v := ?v14_303101) rfl (by kernel_rfl) (by kernel_rfl) (by kernel_rfl) (fun _ _ _ h => h) (Or.inl ⟨by rfl, ?y14_303101⟩) hHeld ?r14_303101
    case y14_303101 => intro w hSw; (try dsimp only at hSw); go_simp; try with_reducible rfl
    try simp only [Act.put, List.setIfInBounds_toArray, List.set_cons_zero, List.set_cons_succ]
    refine wpAnyH_take (i := 15) (oi := { dst := some 31, op := Go.Op.binOp Go.BinOp.lss 3 (Go.Operand.tmp 25) (Go.Operand.tmp 30) 3, type := 4, pos := "decode.go:26", after := #[{ on := 9, ground := Go.Ground.data }, { on := 14, ground := Go.Ground.data }, { on := 5, ground := Go.Ground.guard }], guard := some (5, true) }) (v := ?v15_303101) rfl (by kernel_rfl) (by kernel_rfl) (by kernel_rfl) (fun _ _ _ h => h) (Or.inl ⟨by rfl, ?y15_303101⟩) hHeld ?r15_303101
    case y15_303101 => intro w hSw; (try dsimp only at hSw); go_simp; try with_reducible rfl
    try simp only [Act.put, List.setIfInBounds_toArray, List.set_cons_zero, List.set_cons_succ]
    refine wpAnyH_take (i := 16) (oi := { dst := some 32, op := Go.Op.pick (Go.Operand.tmp 21) (Go.Operand.tmp 31) (Go.Operand.const (Go.Value.bool false)), type := 4, pos := "decode.go:26", after := #[{ on := 5, ground := Go.Ground.data }, { on := 15, ground := Go.Ground.data }], guard := none }) (v := ?v16_303101) rfl (by kernel_rfl) (by kernel_rfl) (by kernel_rfl) (fun _ _ _ h => h) (Or.inl ⟨by rfl, ?y16_303101⟩) hHeld ?r16_303101
    case y16_303101 => intro w hSw; (try dsimp only at hSw); go_simp; try with_reducible rfl
    try simp only [Act.put, List.setIfInBounds_toArray, List.set_cons_zero, List.set_cons_succ]
    refine wpAnyH_done (by kernel_rfl) ?_ _
    replace HC := Lib.hid (HC.out.below hHeld.2)
    replace HM := Lib.hid (HM.out.below hHeld.2)
    replace HB := Lib.hid (HB.out.trans (hHeld.2.mono HB.out.size))
    replace HOQ := Lib.hid (own_below' HOQ.out hHeld.2)
    replace HOA := Lib.hid (own_below' HOA.out hHeld.2)
    replace HON := Lib.hid (own_below' HON.out hHeld.2)
    replace HOX := Lib.hid (own_below' HOX.out hHeld.2)
    replace HR := Lib.hid hHeld.1
    clear hHeld
    obtain ⟨c0, c1, c2, f1, f2⟩ := HR.out.cells
    have HRX := Lib.hid (HR.out.er 3)
    have hg := grown_cell wz q4 2 (.int .i64 3)
    replace HC := Lib.hid (HC.out.grown hg (fun e => by injection e with e; have := HQ4.out; omega))
    replace HB := Lib.hid (HB.out.grown hg HB.out.size (fun k hk => by injection hk with hk; rw [← hk]; exact HB4.out))
    go_upto_region 7 with (fail)
    obtain ⟨wv, hwv⟩ : ∃ x, wz.setCell ⟨q4, 2, none⟩ (.int .i64 3) = x := ⟨_, rfl⟩
    rw [hwv] at HRX HC HB ⊢
    replace HR := HRX
    clear hwv hg c0 c1 c2 f1 f2 HRX e2
    obtain ⟨c0, c1, c2, f1, f2⟩ := HR.out.cells
    go_upto_region 8 with (fail)
    refine wp_region_held_drew (S := (fun wx => RdS wx q4 s a5 3)) (by kernel_rfl) (HR.out.drew) (fun hHeld => ?_)
    replace HC := Lib.hid (HC.out.below (Below.refl _ _).drew)
    replace HB := Lib.hid HB.out.drew
    replace HR := Lib.hid HR.out.drew
    clear c0 c1 c2 f1 f2
    obtain ⟨wy, hwd⟩ : ∃ x, wv.drew = x := ⟨_, rfl⟩
    rw [hwd] at hHeld HC HB HR ⊢
    clear hwd
    refine wpAnyH_take (i := 0) (oi := { dst := some 41, op := Go.Op.build 37 #[], type := 37, pos := "decode.go:30", after := #[], guard := none }) (v := ?v0_304101) rfl (by kernel_rfl) (by kernel_rfl) (by kernel_rfl) (fun _ _ _ h => h) (Or.inl ⟨by rfl, ?y0_304101⟩) hHeld ?r0_304101
    case y0_304101 => intro w hSw; (try dsimp only at hSw); go_simp; try with_reducible rfl
    try simp only [Act.put, List.setIfInBounds_toArray, List.set_cons_zero, List.set_cons_succ]
    refine wpAnyH_take (i := 1) (oi := { dst := some 42, op := Go.Op.move (Go.Operand.tmp 4), type := 71, pos := "decode.go:30", after := #[{ on := 5, ground := Go.Ground.gcOnly Go.Departure.lateStores }], guard := none }) (v := ?v1_304101) rfl (by kernel_rfl) (by kernel_rfl) (by kernel_rfl) (fun _ _ _ h => h) (Or.inl ⟨by rfl, ?y1_304101⟩) hHeld ?r1_304101
    case y1_304101 => intro w hSw; (try dsimp only at hSw); go_simp; try with_reducible rfl
    try simp only [Act.put, List.setIfInBounds_toArray, List.set_cons_zero, List.set_cons_succ]
    refine wpAnyH_take (i := 2) (oi := { dst := some 43, op := Go.Op.nilCheck (Go.Operand.tmp 42), type := 0, pos := "decode.go:30", after := #[{ on := 1, ground := Go.Ground.data }, { on := 5, ground := Go.Ground.gcOnly Go.Departure.lateStores }], guard := none }) (v := ?v2_304101) rfl (by kernel_rfl) (by kernel_rfl) (by kernel_rfl) (fun _ _ _ h => h) (Or.inl ⟨by rfl, ?y2_304101⟩) hHeld ?r2_304101
    case y2_304101 => intro w hSw; (try dsimp only at hSw); go_simp; try with_reducible rfl
    try simp only [Act.put, List.setIfInBounds_toArray, List.set_cons_zero, List.set_cons_succ]
    refine wpAnyH_take (i := 3) (oi := { dst := some 44, op := Go.Op.fieldAddr 73 (Go.Operand.tmp 43) 2, type := 0, pos := "decode.go:30", after := #[{ on := 2, ground := Go.Ground.data }, { on := 5, ground := Go.Ground.gcOnly Go.Departure.lateStores }], guard := none }) (v := ?v3_304101) rfl (by kernel_rfl) (by kernel_rfl) (by kernel_rfl) (fun _ _ _ h => h) (Or.inl ⟨by rfl, ?y3_304101⟩) hHeld ?r3_304101
    case y3_304101 => intro w hSw; (try dsimp only at hSw); go_simp; try with_reducible rfl
    try simp only [Act.put, List.setIfInBounds_toArray, List.set_cons_zero, List.set_cons_succ]
    refine wpAnyH_take (i := 4) (oi := { dst := some 45, op := Go.Op.load 38 (Go.Operand.tmp 44), type := 38, pos := "decode.go:30", after := #[{ on := 3, ground := Go.Ground.data }, { on := 5, ground := Go.Ground.gcOnly Go.Departure.lateStores }], guard := none }) (v := ?v4_304101) rfl (by kernel_rfl) (by kernel_rfl) (by kernel_rfl) (fun _ _ _ h => h) (Or.inl ⟨by rfl, ?y4_304101⟩) hHeld ?r4_304101
    case y4_304101 => intro w hSw; (try dsimp only at hSw); obtain ⟨c0, c1, c2, f1, f2⟩ := hSw.cells; go_simp; try with_reducible rfl
    try simp only [Act.put, List.setIfInBounds_toArray, List.set_cons_zero, List.set_cons_succ]
    refine wpAnyH_ready (rs := [5]) (by kernel_rfl) (by simp) ?_
    refine AllReadyH.cons (o := { dst := none, op := Go.Op.store 37 (Go.Operand.tmp 2) (Go.Operand.tmp 41), type := 0, pos := "decode.go:30", after := #[{ on := 0, ground := Go.Ground.data }, { on := 0, ground := Go.Ground.phase }, { on := 1, ground := Go.Ground.textOnly Go.Departure.lateStores }, { on := 2, ground := Go.Ground.textOnly Go.Departure.lateStores }, { on := 3, ground := Go.Ground.textOnly Go.Departure.lateStores }, { on := 4, ground := Go.Ground.textOnly Go.Departure.lateStores }], guard := none }) rfl (fun K hK => ?_) AllReadyH.nil
    obtain ⟨y0, y1, y2, y3, y4, y5, y6, y7, y8, y9, y10, y11, g0, g1, g2, g3, g4, g5, g6, g7, g8, g9, g10, g11⟩ := HC.out.u12
    have HCZ := Lib.hid (HC.out.s12 (.int .i64 0) (.int .i64 0) (.int .i64 0) (.bool false) (.bool false) (.bool false) (.bool false) (.bool false) (.slice none 0 0) (.slice none 0 0) (.slice none 0 0) (.slice none 0 0))
    have HGZ := Lib.hid (grown_s12 wy q2 (.int .i64 0) (.int .i64 0) (.int .i64 0) (.bool false) (.bool false) (.bool false) (.bool false) (.bool false) (.slice none 0 0) (.slice none 0 0) (.slice none 0 0) (.slice none 0 0))
    have HRZ := Lib.hid (show RdS ((((((((((((wy.setCell ⟨q2, 0, none⟩ (.int .i64 0)).setCell ⟨q2, 1, none⟩ (.int .i64 0)).setCell ⟨q2, 2, none⟩ (.int .i64 0)).setCell ⟨q2, 3, none⟩ (.bool false)).setCell ⟨q2, 4, none⟩ (.bool false)).setCell ⟨q2, 5, none⟩ (.bool false)).setCell ⟨q2, 6, none⟩ (.bool false)).setCell ⟨q2, 7, none⟩ (.bool false)).setCell ⟨q2, 8, none⟩ (.slice none 0 0)).setCell ⟨q2, 9, none⟩ (.slice none 0 0)).setCell ⟨q2, 10, none⟩ (.slice none 0 0)).setCell ⟨q2, 11, none⟩ (.slice none 0 0)) q4 s a5 3 from ⟨HR.out.1.grown HGZ.out (fun e => by injection e with e; have := HQ4.out; omega), HR.out.2.grown HGZ.out (fun e => by injection e with e; have := HQ4.out; omega)⟩)
    have HBZ := Lib.hid (HB.out.grown HGZ.out HB.out.size (fun k hk => by injection hk with hk; rw [← hk, HQ.out]; exact Nat.le_refl _))
    go_simp
    refine hK.out _ _ (HRZ.out) (fun hHeld2 => ?_)
    clear hK K hHeld
    have hHeld := hHeld2
    clear hHeld2
    try simp only [Act.put, List.setIfInBounds_toArray, List.set_cons_zero, List.set_cons_succ]
    refine wpAnyH_take (i := 6) (oi := { dst := some 3, op := Go.Op.assign (Go.Operand.tmp 45), type := 38, pos := "decode.go:30", after := #[{ on := 4, ground := Go.Ground.data }, { on := 5, ground := Go.Ground.chain }, { on := 0, ground := Go.Ground.phase }, { on := 1, ground := Go.Ground.phase }, { on := 2, ground := Go.Ground.phase }, { on := 3, ground := Go.Ground.phase }, { on := 4, ground := Go.Ground.phase }, { on := 5, ground := Go.Ground.phase }], guard := none }) (v := ?v6_304102) rfl (by kernel_rfl) (by kernel_rfl) (by kernel_rfl) (fun _ _ _ h => h) (Or.inl ⟨by rfl, ?y6_304102⟩) hHeld ?r6_304102
    case y6_304102 => intro w hSw; (try dsimp only at hSw); go_simp; try with_reducible rfl
    try simp only [Act.put, List.setIfInBounds_toArray, List.set_cons_zero, List.set_cons_succ]
    refine wpAnyH_done (by kernel_rfl) ?_ _
    obtain ⟨wq, hwq⟩ : ∃ x, ((((((((((((wy.setCell ⟨q2, 0, none⟩ (.int .i64 0)).setCell ⟨q2, 1, none⟩ (.int .i64 0)).setCell ⟨q2, 2, none⟩ (.int .i64 0)).setCell ⟨q2, 3, none⟩ (.bool false)).setCell ⟨q2, 4, none⟩ (.bool false)).setCell ⟨q2, 5, none⟩ (.bool false)).setCell ⟨q2, 6, none⟩ (.bool false)).setCell ⟨q2, 7, none⟩ (.bool false)).setCell ⟨q2, 8, none⟩ (.slice none 0 0)).setCell ⟨q2, 9, none⟩ (.slice none 0 0)).setCell ⟨q2, 10, none⟩ (.slice none 0 0)).setCell ⟨q2, 11, none⟩ (.slice none 0 0)) = x := ⟨_, rfl⟩
    rw [hwq] at HCZ HBZ ⊢
    clear hHeld hwq HGZ HRZ y0 y1 y2 y3 y4 y5 y6 y7 y8 y9 y10 y11 g0 g1 g2 g3 g4 g5 g6 g7 g8 g9 g10 g11
    obtain ⟨z0, z1, z2, z3, z4, z5, z6, z7, z8, z9, z10, z11, _⟩ := HCZ.out.u12
    go_wp2
    refine bodyPost_ret (v := .tuple #[.agg #[.int .i64 0, .int .i64 0, .int .i64 0, .bool false, .bool false, .bool false, .bool false, .bool false, .slice none 0 0, .slice none 0 0, .slice none 0 0, .slice none 0 0], .int .i64 3]) (by simp [results, Try.results10, go_sem, z0, z1, z2, z3, z4, z5, z6, z7, z8, z9, z10, z11]) rfl ⟨Or.inr ⟨HND.out, 3, HEN.out, rfl⟩, HBZ.out⟩
  have d5 := dF g5
  have HDY := Lib.hid (show decP s = some ⟨⟨h0, h1, h2, b1, b2, b3, b4, b5⟩, Q, A, N, X⟩ from decP_yes (by rw [HE5.out] at HST; exact HST.out) HN.out g5)
  clear g5
  refine wp_region_held_drew (S := (fun wx => RdS wx q4 s a5 e5 ∧ Below w5.heap.size w5 wx)) (by kernel_rfl) (⟨HR.out.drew, (Below.refl _ _).drew⟩) (fun hHeld => ?_)
  obtain ⟨wz, hwd⟩ : ∃ x, w5.drew = x := ⟨_, rfl⟩
  rw [hwd] at hHeld ⊢
  clear hwd
  refine wpAnyH_take (i := 0) (oi := { dst := some 16, op := Go.Op.move (Go.Operand.tmp 4), type := 71, pos := "decode.go:26", after := #[], guard := none }) (v := ?v0_305101) rfl (by kernel_rfl) (by kernel_rfl) (by kernel_rfl) (fun _ _ _ h => h) (Or.inl ⟨by rfl, ?y0_305101⟩) hHeld ?r0_305101
  case y0_305101 => intro w hSw; (try dsimp only at hSw); go_simp; try with_reducible rfl
  try simp only [Act.put, List.setIfInBounds_toArray, List.set_cons_zero, List.set_cons_succ]
  refine wpAnyH_take (i := 1) (oi := { dst := some 17, op := Go.Op.nilCheck (Go.Operand.tmp 16), type := 0, pos := "decode.go:26", after := #[{ on := 0, ground := Go.Ground.data }], guard := none }) (v := ?v1_305101) rfl (by kernel_rfl) (by kernel_rfl) (by kernel_rfl) (fun _ _ _ h => h) (Or.inl ⟨by rfl, ?y1_305101⟩) hHeld ?r1_305101
  case y1_305101 => intro w hSw; (try dsimp only at hSw); go_simp; try with_reducible rfl
  try simp only [Act.put, List.setIfInBounds_toArray, List.set_cons_zero, List.set_cons_succ]
  refine wpAnyH_take (i := 2) (oi := { dst := some 18, op := Go.Op.fieldAddr 73 (Go.Operand.tmp 17) 2, type := 0, pos := "decode.go:26", after := #[{ on := 1, ground := Go.Ground.data }], guard := none }) (v := ?v2_305101) rfl (by kernel_rfl) (by kernel_rfl) (by kernel_rfl) (fun _ _ _ h => h) (Or.inl ⟨by rfl, ?y2_305101⟩) hHeld ?r2_305101
  case y2_305101 => intro w hSw; (try dsimp only at hSw); go_simp; try with_reducible rfl
  try simp only [Act.put, List.setIfInBounds_toArray, List.set_cons_zero, List.set_cons_succ]
  refine wpAnyH_take (i := 3) (oi := { dst := some 19, op := Go.Op.load 38 (Go.Operand.tmp 18), type := 38, pos := "decode.go:26", after := #[{ on := 2, ground := Go.Ground.data }], guard := none }) (v := ?v3_305101) rfl (by kernel_rfl) (by kernel_rfl) (by kernel_rfl) (fun _ _ _ h => h) (Or.inl ⟨by rfl, ?y3_305101⟩) hHeld ?r3_305101
  case y3_305101 => intro w hSw; (try dsimp only at hSw); obtain ⟨c0, c1, c2, f1, f2⟩ := hSw.1.cells; go_simp; try with_reducible rfl
  try simp only [Act.put, List.setIfInBounds_toArray, List.set_cons_zero, List.set_cons_succ]
  refine wpAnyH_take (i := 4) (oi := { dst := some 20, op := Go.Op.binOp Go.BinOp.eql 38 (Go.Operand.tmp 19) (Go.Operand.const (Go.Value.int Go.IntKind.i64 0)) 38, type := 4, pos := "decode.go:26", after := #[{ on := 3, ground := Go.Ground.data }], guard := none }) (v := ?v4_305101) rfl (by kernel_rfl) (by kernel_rfl) (by kernel_rfl) (fun _ _ _ h => h) (Or.inl ⟨by rfl, ?y4_305101⟩) hHeld ?r4_305101
  case y4_305101 => intro w hSw; (try dsimp only at hSw); go_simp; try with_reducible rfl
  try simp only [Act.put, List.setIfInBounds_toArray, List.set_cons_zero, List.set_cons_succ]
  refine wpAnyH_take (i := 5) (oi := { dst := some 21, op := Go.Op.move (Go.Operand.tmp 20), type := 4, pos := "decode.go:26", after := #[{ on := 4, ground := Go.Ground.data }], guard := none }) (v := ?v5_305101) rfl (by kernel_rfl) (by kernel_rfl) (by kernel_rfl) (fun _ _ _ h => h) (Or.inl ⟨by rfl, ?y5_305101⟩) hHeld ?r5_305101
  case y5_305101 => intro w hSw; (try dsimp only at hSw); go_simp; try with_reducible rfl
  try simp only [Act.put, List.setIfInBounds_toArray, List.set_cons_zero, List.set_cons_succ]
  refine wpAnyH_take (i := 6) (oi := { dst := some 22, op := Go.Op.move (Go.Operand.tmp 4), type := 71, pos := "decode.go:26", after := #[{ on := 5, ground := Go.Ground.guard }], guard := some (5, true) }) (v := ?v6_305101) rfl (by kernel_rfl) (by kernel_rfl) (by kernel_rfl) (fun _ _ _ h => h) (Or.inl ⟨by rfl, ?y6_305101⟩) hHeld ?r6_305101
  case y6_305101 => intro w hSw; (try dsimp only at hSw); go_simp; try with_reducible rfl
  try simp only [Act.put, List.setIfInBounds_toArray, List.set_cons_zero, List.set_cons_succ]
  refine wpAnyH_take (i := 7) (oi := { dst := some 23, op := Go.Op.nilCheck (Go.Operand.tmp 22), type := 0, pos := "decode.go:26", after := #[{ on := 6, ground := Go.Ground.data }, { on := 5, ground := Go.Ground.guard }], guard := some (5, true) }) (v := ?v7_305101) rfl (by kernel_rfl) (by kernel_rfl) (by kernel_rfl) (fun _ _ _ h => h) (Or.inl ⟨by rfl, ?y7_305101⟩) hHeld ?r7_305101
  case y7_305101 => intro w hSw; (try dsimp only at hSw); go_simp; try with_reducible rfl
  try simp only [Act.put, List.setIfInBounds_toArray, List.set_cons_zero, List.set_cons_succ]
  refine wpAnyH_take (i := 8) (oi := { dst := some 24, op := Go.Op.fieldAddr 73 (Go.Operand.tmp 23) 1, type := 0, pos := "decode.go:26", after := #[{ on := 7, ground := Go.Ground.data }, { on := 5, ground := Go.Ground.guard }], guard := some (5, true) }) (v := ?v8_305101) rfl (by kernel_rfl) (by kernel_rfl) (by kernel_rfl) (fun _ _ _ h => h) (Or.inl ⟨by rfl, ?y8_305101⟩) hHeld ?r8_305101
  case y8_305101 => intro w hSw; (try dsimp only at hSw); go_simp; try with_reducible rfl
  try simp only [Act.put, List.setIfInBounds_toArray, List.set_cons_zero, List.set_cons_succ]
  refine wpAnyH_take (i := 9) (oi := { dst := some 25, op := Go.Op.load 3 (Go.Operand.tmp 24), type := 3, pos := "decode.go:26", after := #[{ on := 8, ground := Go.Ground.data }, { on := 5, ground := Go.Ground.guard }], guard := some (5, true) }) (v := ?v9_305101) rfl (by kernel_rfl) (by kernel_rfl) (by kernel_rfl) (fun _ _ _ h => h) (Or.inl ⟨by rfl, ?y9_305101⟩) hHeld ?r9_305101
  case y9_305101 => intro w hSw; (try dsimp only at hSw); obtain ⟨c0, c1, c2, f1, f2⟩ := hSw.1.cells; go_simp; try with_reducible rfl
  try simp only [Act.put, List.setIfInBounds_toArray, List.set_cons_zero, List.set_cons_succ]
  refine wpAnyH_take (i := 10) (oi := { dst := some 26, op := Go.Op.move (Go.Operand.tmp 4), type := 71, pos := "decode.go:26", after := #[{ on := 5, ground := Go.Ground.guard }], guard := some (5, true) }) (v := ?v10_305101) rfl (by kernel_rfl) (by kernel_rfl) (by kernel_rfl) (fun _ _ _ h => h) (Or.inl ⟨by rfl, ?y10_305101⟩) hHeld ?r10_305101
  case y10_305101 => intro w hSw; (try dsimp only at hSw); go_simp; try with_reducible rfl
  try simp only [Act.put, List.setIfInBounds_toArray, List.set_cons_zero, List.set_cons_succ]
  refine wpAnyH_take (i := 11) (oi := { dst := some 27, op := Go.Op.nilCheck (Go.Operand.tmp 26), type := 0, pos := "decode.go:26", after := #[{ on := 10, ground := Go.Ground.data }, { on := 5, ground := Go.Ground.guard }], guard := some (5, true) }) (v := ?v11_305101) rfl (by kernel_rfl) (by kernel_rfl) (by kernel_rfl) (fun _ _ _ h => h) (Or.inl ⟨by rfl, ?y11_305101⟩) hHeld ?r11_305101
  case y11_305101 => intro w hSw; (try dsimp only at hSw); go_simp; try with_reducible rfl
  try simp only [Act.put, List.setIfInBounds_toArray, List.set_cons_zero, List.set_cons_succ]
  refine wpAnyH_take (i := 12) (oi := { dst := some 28, op := Go.Op.fieldAddr 73 (Go.Operand.tmp 27) 0, type := 0, pos := "decode.go:26", after := #[{ on := 11, ground := Go.Ground.data }, { on := 5, ground := Go.Ground.guard }], guard := some (5, true) }) (v := ?v12_305101) rfl (by kernel_rfl) (by kernel_rfl) (by kernel_rfl) (fun _ _ _ h => h) (Or.inl ⟨by rfl, ?y12_305101⟩) hHeld ?r12_305101
  case y12_305101 => intro w hSw; (try dsimp only at hSw); go_simp; try with_reducible rfl
  try simp only [Act.put, List.setIfInBounds_toArray, List.set_cons_zero, List.set_cons_succ]
  refine wpAnyH_take (i := 13) (oi := { dst := some 29, op := Go.Op.load 9 (Go.Operand.tmp 28), type := 9, pos := "decode.go:26", after := #[{ on := 12, ground := Go.Ground.data }, { on := 5, ground := Go.Ground.guard }], guard := some (5, true) }) (v := ?v13_305101) rfl (by kernel_rfl) (by kernel_rfl) (by kernel_rfl) (fun _ _ _ h => h) (Or.inl ⟨by rfl, ?y13_305101⟩) hHeld ?r13_305101
  case y13_305101 => intro w hSw; (try dsimp only at hSw); obtain ⟨c0, c1, c2, f1, f2⟩ := hSw.1.cells; go_simp; try with_reducible rfl
  try simp only [Act.put, List.setIfInBounds_toArray, List.set_cons_zero, List.set_cons_succ]
  refine wpAnyH_take (i := 14) (oi := { dst := some 30, op := Go.Op.call { callee := Go.Callee.builtin Go.Builtin.len, args := #[Go.Operand.tmp 29], argTypes := #[9] }, type := 3, pos := "decode.go:26", after := #[{ on := 13, ground := Go.Ground.data }, { on := 5, ground := Go.Ground.guard }], guard := some (5, true) }) (v := ?v14_305101) rfl (by kernel_rfl) (by kernel_rfl) (by kernel_rfl) (fun _ _ _ h => h) (Or.inl ⟨by rfl, ?y14_305101⟩) hHeld ?r14_305101
  case y14_305101 => intro w hSw; (try dsimp only at hSw); go_simp; try with_reducible rfl
  try simp only [Act.put, List.setIfInBounds_toArray, List.set_cons_zero, List.set_cons_succ]
  refine wpAnyH_take (i := 15) (oi := { dst := some 31, op := Go.Op.binOp Go.BinOp.lss 3 (Go.Operand.tmp 25) (Go.Operand.tmp 30) 3, type := 4, pos := "decode.go:26", after := #[{ on := 9, ground := Go.Ground.data }, { on := 14, ground := Go.Ground.data }, { on := 5, ground := Go.Ground.guard }], guard := some (5, true) }) (v := ?v15_305101) rfl (by kernel_rfl) (by kernel_rfl) (by kernel_rfl) (fun _ _ _ h => h) (Or.inl ⟨by rfl, ?y15_305101⟩) hHeld ?r15_305101
  case y15_305101 => intro w hSw; (try dsimp only at hSw); go_simp; try with_reducible rfl
  try simp only [Act.put, List.setIfInBounds_toArray, List.set_cons_zero, List.set_cons_succ]
  refine wpAnyH_take (i := 16) (oi := { dst := some 32, op := Go.Op.pick (Go.Operand.tmp 21) (Go.Operand.tmp 31) (Go.Operand.const (Go.Value.bool false)), type := 4, pos := "decode.go:26", after := #[{ on := 5, ground := Go.Ground.data }, { on := 15, ground := Go.Ground.data }], guard := none }) (v := ?v16_305101) rfl (by kernel_rfl) (by kernel_rfl) (by kernel_rfl) (fun _ _ _ h => h) (Or.inl ⟨by rfl, ?y16_305101⟩) hHeld ?r16_305101
  case y16_305101 => intro w hSw; (try dsimp only at hSw); go_simp; try with_reducible rfl
  try simp only [Act.put, List.setIfInBounds_toArray, List.set_cons_zero, List.set_cons_succ]
  refine wpAnyH_done (by kernel_rfl) ?_ _
  replace HC := Lib.hid (HC.out.below hHeld.2)
  replace HM := Lib.hid (HM.out.below hHeld.2)
  replace HB := Lib.hid (HB.out.trans (hHeld.2.mono HB.out.size))
  replace HOQ := Lib.hid (own_below' HOQ.out hHeld.2)
  replace HOA := Lib.hid (own_below' HOA.out hHeld.2)
  replace HON := Lib.hid (own_below' HON.out hHeld.2)
  replace HOX := Lib.hid (own_below' HOX.out hHeld.2)
  replace HR := Lib.hid hHeld.1
  clear hHeld
  obtain ⟨c0, c1, c2, f1, f2⟩ := HR.out.cells
  obtain ⟨k0, k1, k2, k3, k4, k5, k6, k7, k8, k9, k10, k11, _⟩ := HM.out.u12
  obtain ⟨y0, y1, y2, y3, y4, y5, y6, y7, y8, y9, y10, y11, g0, g1, g2, g3, g4, g5, g6, g7, g8, g9, g10, g11⟩ := HC.out.u12
  have HCZ := Lib.hid (HC.out.s12 (.int .i64 h0) (.int .i64 h1) (.int .i64 h2) (.bool b1) (.bool b2) (.bool b3) (.bool b4) (.bool b5) (.slice pQ lQ cQ) (.slice pA lA cA) (.slice pN lN cN) (.slice pX lX cX))
  have HGZ := Lib.hid (grown_s12 wz q2 (.int .i64 h0) (.int .i64 h1) (.int .i64 h2) (.bool b1) (.bool b2) (.bool b3) (.bool b4) (.bool b5) (.slice pQ lQ cQ) (.slice pA lA cA) (.slice pN lN cN) (.slice pX lX cX))
  have HBZ := Lib.hid (HB.out.grown HGZ.out HB.out.size (fun k hk => by injection hk with hk; rw [← hk, HQ.out]; exact Nat.le_refl _))
  have HRW := Lib.hid (show RowsM ((((((((((((wz.setCell ⟨q2, 0, none⟩ (.int .i64 h0)).setCell ⟨q2, 1, none⟩ (.int .i64 h1)).setCell ⟨q2, 2, none⟩ (.int .i64 h2)).setCell ⟨q2, 3, none⟩ (.bool b1)).setCell ⟨q2, 4, none⟩ (.bool b2)).setCell ⟨q2, 5, none⟩ (.bool b3)).setCell ⟨q2, 6, none⟩ (.bool b4)).setCell ⟨q2, 7, none⟩ (.bool b5)).setCell ⟨q2, 8, none⟩ (.slice pQ lQ cQ)).setCell ⟨q2, 9, none⟩ (.slice pA lA cA)).setCell ⟨q2, 10, none⟩ (.slice pN lN cN)).setCell ⟨q2, 11, none⟩ (.slice pX lX cX)) w.heap.size (⟨⟨h0, h1, h2, b1, b2, b3, b4, b5⟩, Q, A, N, X⟩ : MsgD) (.slice pQ lQ cQ) (.slice pA lA cA) (.slice pN lN cN) (.slice pX lX cX) from ⟨by rw [HLQ.out]; exact own_mono4 (own_apart7 HOQ.out HGZ.out (fun k hk e => by injection e with e; have := (HOQ.out.lt k hk).1; have := HQ2.out; omega)) HBW.out, by rw [HLA.out]; exact own_mono4 (own_apart7 HOA.out HGZ.out (fun k hk e => by injection e with e; have := (HOA.out.lt k hk).1; have := HQ2.out; omega)) HBW.out, by rw [HLN.out]; exact own_mono4 (own_apart7 HON.out HGZ.out (fun k hk e => by injection e with e; have := (HON.out.lt k hk).1; have := HQ2.out; omega)) HBW.out, by rw [HLX.out]; exact own_mono4 (own_apart7 HOX.out HGZ.out (fun k hk e => by injection e with e; have := (HOX.out.lt k hk).1; have := HQ2.out; omega)) HBW.out⟩)
  go_wp2
  obtain ⟨wq, hwq⟩ : ∃ x, ((((((((((((wz.setCell ⟨q2, 0, none⟩ (.int .i64 h0)).setCell ⟨q2, 1, none⟩ (.int .i64 h1)).setCell ⟨q2, 2, none⟩ (.int .i64 h2)).setCell ⟨q2, 3, none⟩ (.bool b1)).setCell ⟨q2, 4, none⟩ (.bool b2)).setCell ⟨q2, 5, none⟩ (.bool b3)).setCell ⟨q2, 6, none⟩ (.bool b4)).setCell ⟨q2, 7, none⟩ (.bool b5)).setCell ⟨q2, 8, none⟩ (.slice pQ lQ cQ)).setCell ⟨q2, 9, none⟩ (.slice pA lA cA)).setCell ⟨q2, 10, none⟩ (.slice pN lN cN)).setCell ⟨q2, 11, none⟩ (.slice pX lX cX)) = x := ⟨_, rfl⟩
  rw [hwq] at HCZ HBZ HRW ⊢
  clear hwq HGZ y0 y1 y2 y3 y4 y5 y6 y7 y8 y9 y10 y11 g0 g1 g2 g3 g4 g5 g6 g7 g8 g9 g10 g11
  obtain ⟨z0, z1, z2, z3, z4, z5, z6, z7, z8, z9, z10, z11, _⟩ := HCZ.out.u12
  refine bodyPost_ret (v := .tuple #[.agg #[.int .i64 h0, .int .i64 h1, .int .i64 h2, .bool b1, .bool b2, .bool b3, .bool b4, .bool b5, .slice pQ lQ cQ, .slice pA lA cA, .slice pN lN cN, .slice pX lX cX], .int .i64 0]) (by simp [results, Try.results10, go_sem, z0, z1, z2, z3, z4, z5, z6, z7, z8, z9, z10, z11]) rfl ⟨Or.inl ⟨⟨⟨h0, h1, h2, b1, b2, b3, b4, b5⟩, Q, A, N, X⟩, .slice pQ lQ cQ, .slice pA lA cA, .slice pN lN cN, .slice pX lX cX, HDY.out, rfl, HRW.out, HZM.out⟩, HBZ.out⟩
end Go.Proofs.Ytgppkpdjpcegbaa
