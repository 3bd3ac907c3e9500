/- The document's GetOpt, Size. -/
import Derived.Test.YtkoafkajmfodkaaDcP
import Derived.Test.YtkoafkajmfodkaaDcC
namespace Go.Proofs.Ytkoafkajmfodkaa
open Go.RowKit

theorem mask1 (n : Int) : bits .and .i64 n 1 = n % 2 := by
  have hm : (BitVec.ofInt 64 1).toNat = 2 ^ 1 - 1 := by decide
  have key : (BitVec.ofInt 64 n &&& BitVec.ofInt 64 1).toNat = (n % ((2 ^ 64 : Nat) : Int)).toNat % 2 ^ 1 := by
    rw [BitVec.toNat_and, BitVec.toNat_ofInt, hm, Nat.and_two_pow_sub_one_eq_mod]
  show IntKind.i64.wrap ((BitVec.ofInt 64 n &&& BitVec.ofInt 64 1).toNat : Nat) = n % 2
  rw [key, IntKind.wrap_i64]
  omega
theorem and15 (x : Nat) : x &&& 32768 = if x / 32768 % 2 = 1 then 32768 else 0 := by
  have h1 : (x &&& 32768) % 2 ^ 16 = (x % 2 ^ 16) &&& (32768 % 2 ^ 16) := Nat.and_mod_two_pow
  have h2 : x &&& 32768 ≤ 32768 := Nat.and_le_right
  have h3 : x &&& 32768 = 2 ^ 15 * (x / 2 ^ 15 &&& 1) := by
    have h4 := Nat.shiftRight_and_distrib (a := x) (b := 32768) (i := 15)
    have h5 : (x &&& 32768) % 2 ^ 15 = (x % 2 ^ 15) &&& (32768 % 2 ^ 15) := Nat.and_mod_two_pow
    rw [Nat.shiftRight_eq_div_pow, Nat.shiftRight_eq_div_pow, Nat.shiftRight_eq_div_pow] at h4
    have h6 : (32768 : Nat) / 2 ^ 15 = 1 := by decide
    have h7 : (x % 2 ^ 15) &&& (32768 % 2 ^ 15) = 0 := by
      rw [show (32768 : Nat) % 2 ^ 15 = 0 by decide, Nat.and_zero]
    rw [h6] at h4
    rw [h7] at h5
    omega
  rw [h3, Nat.and_one_is_mod]
  have : (2 : Nat) ^ 15 = 32768 := by decide
  rw [this]
  split <;> omega
theorem do_bit (t : Int) : (bits .and .i64 (t / 32768) 1 == 1) = doT t := by
  have hm : (BitVec.ofInt 64 32768).toNat = 32768 := by decide
  have h2 : bits .and .i64 t 32768 = if t / 32768 % 2 = 1 then 32768 else 0 := by
    show IntKind.i64.wrap ((BitVec.ofInt 64 t &&& BitVec.ofInt 64 32768).toNat : Nat) = _
    rw [BitVec.toNat_and, BitVec.toNat_ofInt, hm, and15, IntKind.wrap_i64]
    split <;> split <;> omega
  rw [doT, mask1, h2]
  by_cases h : t / 32768 % 2 = 1
  · rw [if_pos h, h]; rfl
  · rw [if_neg h, show (t / 32768 % 2 == 1) = false by simpa using h]; rfl
theorem cell_far5 (w : World) {g q : Nat} (h : q ≠ g) (d0 d1 d2 d3 d4 : Value) {j : Nat} : (((((w.setCell ⟨q, 0, none⟩ d0).setCell ⟨q, 1, none⟩ d1).setCell ⟨q, 2, none⟩ d2).setCell ⟨q, 3, none⟩ d3).setCell ⟨q, 4, none⟩ d4).cell? ⟨g, j, none⟩ = w.cell? ⟨g, j, none⟩ := by
  rw [World.cell?_setCell_far _ _ _ _ h, World.cell?_setCell_far _ _ _ _ h, World.cell?_setCell_far _ _ _ _ h, World.cell?_setCell_far _ _ _ _ h, World.cell?_setCell_far _ _ _ _ h]

set_option maxRecDepth 100000 in
set_option maxHeartbeats 8000000 in
theorem getD_ex (mi mo mr : Int) (b1 b2 b3 b4 b5 : Bool) (qa na sa xa : Option Addr) (ql qc nl nc sl sc xl xc : Nat) (l : List R5) (w : World) (h : RowR w xa xl l) (hlen : xl ≤ 100000) :
    Calls Try.prog 45 #[.agg #[.int .i64 mi, .int .i64 mo, .int .i64 mr, .bool b1, .bool b2, .bool b3, .bool b4, .bool b5, .slice qa ql qc, .slice na nl nc, .slice sa sl sc, .slice xa xl xc]] w fun e w' => e = .returned (.tuple #[optV (getO l).1, .bool (getO l).2.1, .int .i64 (getO l).2.2]) ∧ Below w.heap.size w w' := by
  obtain ⟨i0, hi, hz0, hz1, hz2⟩ := info_parts infoRR
  have HI := Lib.hid hi
  have HZ0 := Lib.hid hz0
  have HZ1 := Lib.hid hz1
  have HZ2 := Lib.hid hz2
  have h1 := (Below.refl w.heap.size w).alloc (Nat.le_refl _) (.cells #[.int .i64 mi, .int .i64 mo, .int .i64 mr, .bool b1, .bool b2, .bool b3, .bool b4, .bool b5, .slice qa ql qc, .slice na nl nc, .slice sa sl sc, .slice xa xl xc] 32)
  have h2 := (Below.refl _ (w.alloc (.cells #[.int .i64 mi, .int .i64 mo, .int .i64 mr, .bool b1, .bool b2, .bool b3, .bool b4, .bool b5, .slice qa ql qc, .slice na nl nc, .slice sa sl sc, .slice xa xl xc] 32))).alloc (Nat.le_refl _) (.cells #[.int .i64 0, .int .i64 0, .int .i64 0, .bool false, .string ⟨#[]⟩] 81)
  have hbw := h1.trans (h2.mono h1.size)
  have C1 := Lib.hid ((CN.new w #[.int .i64 mi, .int .i64 mo, .int .i64 mr, .bool b1, .bool b2, .bool b3, .bool b4, .bool b5, .slice qa ql qc, .slice na nl nc, .slice sa sl sc, .slice xa xl xc] 32).below h2)
  have c2 := CN.new (w.alloc (.cells #[.int .i64 mi, .int .i64 mo, .int .i64 mr, .bool b1, .bool b2, .bool b3, .bool b4, .bool b5, .slice qa ql qc, .slice na nl nc, .slice sa sl sc, .slice xa xl xc] 32)) #[.int .i64 0, .int .i64 0, .int .i64 0, .bool false, .string ⟨#[]⟩] 81
  rw [World.size_alloc] at c2
  have C2 := Lib.hid c2
  have HB2 := Lib.hid hbw
  have HR := Lib.hid (h.below hbw)
  have HRL := Lib.hid h.1
  have hq12 : w.heap.size ≤ w.heap.size + 1 := by omega
  clear h1 h2 hbw c2 h hi hz0 hz1 hz2
  go_enter Try.func45, Try.ntmps45
  go_wp2_with fail
  obtain ⟨w2, hw2⟩ : ∃ x, (w.alloc (.cells #[.int .i64 mi, .int .i64 mo, .int .i64 mr, .bool b1, .bool b2, .bool b3, .bool b4, .bool b5, .slice qa ql qc, .slice na nl nc, .slice sa sl sc, .slice xa xl xc] 32)).alloc (.cells #[.int .i64 0, .int .i64 0, .int .i64 0, .bool false, .string ⟨#[]⟩] 81) = x := ⟨_, rfl⟩
  obtain ⟨q1, hq1⟩ : ∃ x, w.heap.size = x := ⟨_, rfl⟩
  obtain ⟨q2, hq2⟩ : ∃ x, q1 + 1 = x := ⟨_, rfl⟩
  rw [hw2] at C1 C2 HB2 HR ⊢
  rw [hq1] at hq12 C1 C2
  rw [hq2] at C2 hq12
  rw [show (Value.pointer (some { block := w.heap.size, off := 0 })) = Value.pointer (some { block := q1, off := 0 }) by rw [hq1], show (Value.pointer (some { block := w.heap.size + 1, off := 0 })) = Value.pointer (some { block := q2, off := 0 }) by rw [hq1, hq2]]
  have HQB := Lib.hid (show w.heap.size ≤ q2 by rw [hq1]; exact hq12)
  clear hw2 hq1 hq2 hq12
  go_loopw [5, 6] (fun v i wr => ∃ k n : Nat, k ≤ xl ∧ n ≤ k ∧ i = .int .i64 k ∧ Hid ((keepR optN (l.take k)).length = n) ∧ Hid (wr.ownsRow w2.heap.size 75 5 v n (flatR (keepR optN (l.take k)))) ∧ Hid (Below w2.heap.size w2 wr)) (fun _ i _ => xl - (intOf i).toNat)
  case atStart => exact ⟨0, 0, Nat.zero_le _, Nat.zero_le _, rfl, Lib.hid rfl, Lib.hid (by rw [List.take_zero]; exact ⟨rfl, Or.inl ⟨rfl, rfl⟩⟩), Lib.hid (Below.refl _ _)⟩
  case round =>
    obtain ⟨k, n, hk, hn, rfl, HKL, HO, HW⟩ := hrel
    have HC := Lib.hid (C1.out.below HW.out)
    obtain ⟨-, -, -, -, -, -, -, -, -, -, -, y11, -⟩ := HC.out.u12
    by_cases hlt : k < xl
    · obtain ⟨b, o, r, rfl, hbl, hr, x0, x1, x2, x3, x4⟩ := (HR.out.below HW.out).at k hlt
      have HN := Lib.hid (keepR_next (p := optN) hr)
      obtain ⟨⟨rn, rt, rc⟩, ru, rd⟩ := r
      replace x0 : wr.cell? ⟨b, o + k * 5, none⟩ = some (.string rn) := x0
      replace x1 : wr.cell? ⟨b, o + k * 5 + 1, none⟩ = some (.int .i64 rt) := x1
      replace x2 : wr.cell? ⟨b, o + k * 5 + 2, none⟩ = some (.int .i64 rc) := x2
      replace x3 : wr.cell? ⟨b, o + k * 5 + 3, none⟩ = some (.int .i64 ru) := x3
      replace x4 : wr.cell? ⟨b, o + k * 5 + 4, none⟩ = some (.string rd) := x4
      have i1 : (0 : Int) ≤ (k : Int) := by omega
      have i2 : (k : Int) < (xl : Int) := by omega
      clear hr hlt
      by_cases ht : rt = 41
      · have d1 := eT ht
        have HN2 := Lib.hid (show keepR optN (l.take (k + 1)) = keepR optN (l.take k) ++ [⟨⟨rn, rt, rc⟩, ru, rd⟩] by rw [HN.out]; simp [optN, ht])
        clear ht
        have hal := (Below.refl wr.heap.size wr).alloc (Nat.le_refl _) (.cells #[.string rn, .int .i64 rt, .int .i64 rc, .int .i64 ru, .string rd] 75)
        have HAL := Lib.hid hal
        clear hal
        go_wp2_with (at_builtin; refine append_cellsK rfl _ _ 25 75 rfl i0 _ 5 56 Try.underlying25 HI.out HZ0.out HZ1.out HZ2.out rfl (by decide) w2.heap.size _ n _ rfl (own_below' HO.out HAL.out) (some ⟨wr.heap.size, 0, none⟩) 1 1 (encR ⟨⟨rn, rt, rc⟩, ru, rd⟩) rfl (fun h => by cases h) (cells_lit wr #[.string rn, .int .i64 rt, .int .i64 rc, .int .i64 ru, .string rd] _) (fun u hu => flatR_one [⟨⟨rn, rt, rc⟩, ru, rd⟩] u (by simpa [flatR] using hu)) (by omega) (by decide) (by have := HW.out.size; simp; omega) ?_)
        intro v' w6 hown' hgrow'
        have HO3 := Lib.hid hown'
        have HB3 := Lib.hid ((HW.out.trans (HAL.out.mono HW.out.size)).grown hgrow' (by have := HW.out.size; simp; omega) (fun k hk => (HO.out.lt k hk).1))
        clear hown' hgrow'
        go_wp2
        go_roundw
        case rel => exact ⟨k + 1, n + 1, by omega, by omega, by go_num, Lib.hid (by rw [HN2.out, List.length_append, HKL.out]; rfl), Lib.hid (by rw [HN2.out, flatR_app]; simpa [flatR] using HO3.out), HB3⟩
        case measure => simp [intOf]; omega
      · have d1 := eF ht
        have HN2 := Lib.hid (show keepR optN (l.take (k + 1)) = keepR optN (l.take k) by rw [HN.out]; simp [optN, ht])
        clear ht
        go_wp2
        go_roundw
        case rel => exact ⟨k + 1, n, by omega, by omega, by go_num, Lib.hid (by rw [HN2.out]; exact HKL.out), Lib.hid (by rw [HN2.out]; exact HO.out), HW⟩
        case measure => simp [intOf]; omega
    · obtain rfl : k = xl := by omega
      have hfull : l.take k = l := by rw [List.take_of_length_le (by rw [HRL.out]; omega)]
      rw [hfull] at HO HKL
      clear hfull hlt hk
      obtain ⟨F, hF⟩ : ∃ F, keepR optN l = F := ⟨_, rfl⟩
      rw [hF] at HO HKL
      have HFF := Lib.hid hF
      clear hF
      have K2 := Lib.hid (C2.out.below HW.out)
      have HBX := Lib.hid (HB2.out.trans (HW.out.mono HB2.out.size))
      obtain ⟨a2, c2, rfl, hrow, -⟩ := rowR_own HO.out
      obtain ⟨z0, z1, z2, z3, z4, g0, g1, g2, g3, g4⟩ := K2.out.u5
      have HLT := Lib.hid (fun g (hg : Value.ownBlock (.slice a2 n c2) = some g) => (HO.out.lt g hg).1)
      match F, HFF, HKL, hrow with
      | [], HFF, HKL, hrow =>
        obtain rfl : n = 0 := HKL.out.symm
        clear hrow HO
        go_wp2
        refine bodyPost_ret (v := .tuple #[.agg #[.int .i64 0, .int .i64 0, .int .i64 0, .bool false, .string ⟨#[]⟩], .bool false, .int .i64 0]) (by simp [results, Try.results45, go_sem, z0, z1, z2, z3, z4]) rfl ⟨by rw [getO, HFF.out]; rfl, ?_⟩
        repeat (first | exact HBX.out | refine Below.setCell ?_ (by have := HQB.out; omega) _)
      | [r], HFF, HKL, hrow =>
        obtain rfl : n = 1 := HKL.out.symm
        obtain ⟨g, o, r', ha, hbl, hr, e0, e1, e2, e3, e4⟩ := hrow.at 0 (by simp)
        obtain rfl : r = r' := by simpa using hr
        obtain ⟨⟨rn, rt, rc⟩, ru, rd⟩ := r
        obtain ⟨g', cap', cur', hsl, -, -, -⟩ := (HO.out.2.resolve_left (fun h => by have := h.2; omega))
        have : o = 0 := by
          injection hsl with h1 _ _
          rw [ha] at h1
          injection h1 with h1
          injection h1
        subst this ha
        have hgq : q2 ≠ g := by
          have h1 := HLT.out g rfl
          have h2 := C2.out.1
          omega
        clear hr hrow hsl HO HLT
        simp only [Nat.zero_mul, Nat.add_zero, Nat.zero_add] at e0 e1 e2 e3 e4
        by_cases hroot : rn.toList = [0]
        · have t1 : (rn.toList == [(0 : UInt8)]) = true := by rw [hroot]; rfl
          have HRT := Lib.hid hroot
          clear hroot
          go_upto_region 13 with fail
          refine wp_region_held_drew (S := (fun wx => wx.cell? ⟨g, 0, none⟩ = some (.string rn) ∧ wx.cell? ⟨g, 1, none⟩ = some (.int .i64 rt) ∧ wx.cell? ⟨g, 2, none⟩ = some (.int .i64 rc) ∧ wx.cell? ⟨g, 3, none⟩ = some (.int .i64 ru) ∧ wx.cell? ⟨g, 4, none⟩ = some (.string rd))) (by kernel_rfl) (⟨e0, e1, e2, e3, e4⟩) (fun hHeld => ?_)
          have K2d := K2.out.below ((Below.refl wr.heap.size wr).drew)
          have hbxd := HBX.out.trans (((Below.refl wr.heap.size wr).drew).mono HBX.out.size)
          obtain ⟨wd, hwd⟩ : ∃ x, wr.drew = x := ⟨_, rfl⟩
          rw [hwd] at hHeld K2d hbxd ⊢
          clear hwd
          have KD := Lib.hid K2d
          have HBD := Lib.hid hbxd
          clear K2d hbxd e0 e1 e2 e3 e4 z0 z1 z2 z3 z4 g0 g1 g2 g3 g4
          refine wpAnyH_take (i := 0) (oi := { dst := some 46, op := Go.Op.move (Go.Operand.tmp 5), type := 25, pos := "ref.go:356", after := #[], guard := none }) (v := ?v0_100101) rfl (by kernel_rfl) (by kernel_rfl) (by kernel_rfl) (fun _ _ _ h => h) (Or.inl ⟨by rfl, ?y0_100101⟩) hHeld ?r0_100101
          case y0_100101 => intro w hSw; (try dsimp only at hSw); go_simp; try with_reducible rfl
          try simp only [Act.put, List.setIfInBounds_toArray, List.set_cons_zero, List.set_cons_succ]
          refine wpAnyH_take (i := 1) (oi := { dst := some 47, op := Go.Op.indexAddr 25 (Go.Operand.tmp 46) (Go.Operand.const (Go.Value.int Go.IntKind.i64 0)), type := 0, pos := "ref.go:356", after := #[{ on := 0, ground := Go.Ground.data }], guard := none }) (v := ?v1_100101) rfl (by kernel_rfl) (by kernel_rfl) (by kernel_rfl) (fun _ _ _ h => h) (Or.inl ⟨by rfl, ?y1_100101⟩) hHeld ?r1_100101
          case y1_100101 => intro w hSw; (try dsimp only at hSw); go_simp; try with_reducible rfl
          try simp only [Act.put, List.setIfInBounds_toArray, List.set_cons_zero, List.set_cons_succ]
          refine wpAnyH_take (i := 2) (oi := { dst := some 48, op := Go.Op.fieldAddr 75 (Go.Operand.tmp 47) 2, type := 0, pos := "ref.go:356", after := #[{ on := 1, ground := Go.Ground.data }], guard := none }) (v := ?v2_100101) rfl (by kernel_rfl) (by kernel_rfl) (by kernel_rfl) (fun _ _ _ h => h) (Or.inl ⟨by rfl, ?y2_100101⟩) hHeld ?r2_100101
          case y2_100101 => intro w hSw; (try dsimp only at hSw); go_simp; try with_reducible rfl
          try simp only [Act.put, List.setIfInBounds_toArray, List.set_cons_zero, List.set_cons_succ]
          refine wpAnyH_take (i := 3) (oi := { dst := some 49, op := Go.Op.load 3 (Go.Operand.tmp 48), type := 3, pos := "ref.go:356", after := #[{ on := 2, ground := Go.Ground.data }], guard := none }) (v := ?v3_100101) rfl (by kernel_rfl) (by kernel_rfl) (by kernel_rfl) (fun _ _ _ h => h) (Or.inl ⟨by rfl, ?y3_100101⟩) hHeld ?r3_100101
          case y3_100101 => intro w hSw; (try dsimp only at hSw); go_simp; try with_reducible rfl
          try simp only [Act.put, List.setIfInBounds_toArray, List.set_cons_zero, List.set_cons_succ]
          refine wpAnyH_take (i := 4) (oi := { dst := some 50, op := Go.Op.move (Go.Operand.tmp 5), type := 25, pos := "ref.go:356", after := #[], guard := none }) (v := ?v4_100101) rfl (by kernel_rfl) (by kernel_rfl) (by kernel_rfl) (fun _ _ _ h => h) (Or.inl ⟨by rfl, ?y4_100101⟩) hHeld ?r4_100101
          case y4_100101 => intro w hSw; (try dsimp only at hSw); go_simp; try with_reducible rfl
          try simp only [Act.put, List.setIfInBounds_toArray, List.set_cons_zero, List.set_cons_succ]
          refine wpAnyH_take (i := 5) (oi := { dst := some 51, op := Go.Op.indexAddr 25 (Go.Operand.tmp 50) (Go.Operand.const (Go.Value.int Go.IntKind.i64 0)), type := 0, pos := "ref.go:356", after := #[{ on := 4, ground := Go.Ground.data }], guard := none }) (v := ?v5_100101) rfl (by kernel_rfl) (by kernel_rfl) (by kernel_rfl) (fun _ _ _ h => h) (Or.inl ⟨by rfl, ?y5_100101⟩) hHeld ?r5_100101
          case y5_100101 => intro w hSw; (try dsimp only at hSw); go_simp; try with_reducible rfl
          try simp only [Act.put, List.setIfInBounds_toArray, List.set_cons_zero, List.set_cons_succ]
          refine wpAnyH_take (i := 6) (oi := { dst := some 52, op := Go.Op.fieldAddr 75 (Go.Operand.tmp 51) 3, type := 0, pos := "ref.go:356", after := #[{ on := 5, ground := Go.Ground.data }], guard := none }) (v := ?v6_100101) rfl (by kernel_rfl) (by kernel_rfl) (by kernel_rfl) (fun _ _ _ h => h) (Or.inl ⟨by rfl, ?y6_100101⟩) hHeld ?r6_100101
          case y6_100101 => intro w hSw; (try dsimp only at hSw); go_simp; try with_reducible rfl
          try simp only [Act.put, List.setIfInBounds_toArray, List.set_cons_zero, List.set_cons_succ]
          refine wpAnyH_take (i := 7) (oi := { dst := some 53, op := Go.Op.load 3 (Go.Operand.tmp 52), type := 3, pos := "ref.go:356", after := #[{ on := 6, ground := Go.Ground.data }], guard := none }) (v := ?v7_100101) rfl (by kernel_rfl) (by kernel_rfl) (by kernel_rfl) (fun _ _ _ h => h) (Or.inl ⟨by rfl, ?y7_100101⟩) hHeld ?r7_100101
          case y7_100101 => intro w hSw; (try dsimp only at hSw); go_simp; try with_reducible rfl
          try simp only [Act.put, List.setIfInBounds_toArray, List.set_cons_zero, List.set_cons_succ]
          refine wpAnyH_take (i := 8) (oi := { dst := some 54, op := Go.Op.binOp Go.BinOp.shr 3 (Go.Operand.tmp 53) (Go.Operand.const (Go.Value.int Go.IntKind.u64 16)) 111, type := 3, pos := "ref.go:356", after := #[{ on := 7, ground := Go.Ground.data }], guard := none }) (v := ?v8_100101) rfl (by kernel_rfl) (by kernel_rfl) (by kernel_rfl) (fun _ _ _ h => h) (Or.inl ⟨by rfl, ?y8_100101⟩) hHeld ?r8_100101
          case y8_100101 => intro w hSw; (try dsimp only at hSw); go_simp; try with_reducible rfl
          try simp only [Act.put, List.setIfInBounds_toArray, List.set_cons_zero, List.set_cons_succ]
          refine wpAnyH_take (i := 9) (oi := { dst := some 55, op := Go.Op.binOp Go.BinOp.and 3 (Go.Operand.tmp 54) (Go.Operand.const (Go.Value.int Go.IntKind.i64 255)) 3, type := 3, pos := "ref.go:356", after := #[{ on := 8, ground := Go.Ground.data }], guard := none }) (v := ?v9_100101) rfl (by kernel_rfl) (by kernel_rfl) (by kernel_rfl) (fun _ _ _ h => h) (Or.inl ⟨by rfl, ?y9_100101⟩) hHeld ?r9_100101
          case y9_100101 => intro w hSw; (try dsimp only at hSw); go_simp; try with_reducible rfl
          try simp only [Act.put, List.setIfInBounds_toArray, List.set_cons_zero, List.set_cons_succ]
          refine wpAnyH_take (i := 10) (oi := { dst := some 56, op := Go.Op.move (Go.Operand.tmp 5), type := 25, pos := "ref.go:356", after := #[], guard := none }) (v := ?v10_100101) rfl (by kernel_rfl) (by kernel_rfl) (by kernel_rfl) (fun _ _ _ h => h) (Or.inl ⟨by rfl, ?y10_100101⟩) hHeld ?r10_100101
          case y10_100101 => intro w hSw; (try dsimp only at hSw); go_simp; try with_reducible rfl
          try simp only [Act.put, List.setIfInBounds_toArray, List.set_cons_zero, List.set_cons_succ]
          refine wpAnyH_take (i := 11) (oi := { dst := some 57, op := Go.Op.indexAddr 25 (Go.Operand.tmp 56) (Go.Operand.const (Go.Value.int Go.IntKind.i64 0)), type := 0, pos := "ref.go:356", after := #[{ on := 10, ground := Go.Ground.data }], guard := none }) (v := ?v11_100101) rfl (by kernel_rfl) (by kernel_rfl) (by kernel_rfl) (fun _ _ _ h => h) (Or.inl ⟨by rfl, ?y11_100101⟩) hHeld ?r11_100101
          case y11_100101 => intro w hSw; (try dsimp only at hSw); go_simp; try with_reducible rfl
          try simp only [Act.put, List.setIfInBounds_toArray, List.set_cons_zero, List.set_cons_succ]
          refine wpAnyH_take (i := 12) (oi := { dst := some 58, op := Go.Op.fieldAddr 75 (Go.Operand.tmp 57) 3, type := 0, pos := "ref.go:356", after := #[{ on := 11, ground := Go.Ground.data }], guard := none }) (v := ?v12_100101) rfl (by kernel_rfl) (by kernel_rfl) (by kernel_rfl) (fun _ _ _ h => h) (Or.inl ⟨by rfl, ?y12_100101⟩) hHeld ?r12_100101
          case y12_100101 => intro w hSw; (try dsimp only at hSw); go_simp; try with_reducible rfl
          try simp only [Act.put, List.setIfInBounds_toArray, List.set_cons_zero, List.set_cons_succ]
          refine wpAnyH_take (i := 13) (oi := { dst := some 59, op := Go.Op.load 3 (Go.Operand.tmp 58), type := 3, pos := "ref.go:356", after := #[{ on := 12, ground := Go.Ground.data }], guard := none }) (v := ?v13_100101) rfl (by kernel_rfl) (by kernel_rfl) (by kernel_rfl) (fun _ _ _ h => h) (Or.inl ⟨by rfl, ?y13_100101⟩) hHeld ?r13_100101
          case y13_100101 => intro w hSw; (try dsimp only at hSw); go_simp; try with_reducible rfl
          try simp only [Act.put, List.setIfInBounds_toArray, List.set_cons_zero, List.set_cons_succ]
          refine wpAnyH_take (i := 14) (oi := { dst := some 60, op := Go.Op.binOp Go.BinOp.shr 3 (Go.Operand.tmp 59) (Go.Operand.const (Go.Value.int Go.IntKind.u64 24)) 111, type := 3, pos := "ref.go:356", after := #[{ on := 13, ground := Go.Ground.data }], guard := none }) (v := ?v14_100101) rfl (by kernel_rfl) (by kernel_rfl) (by kernel_rfl) (fun _ _ _ h => h) (Or.inl ⟨by rfl, ?y14_100101⟩) hHeld ?r14_100101
          case y14_100101 => intro w hSw; (try dsimp only at hSw); go_simp; try with_reducible rfl
          try simp only [Act.put, List.setIfInBounds_toArray, List.set_cons_zero, List.set_cons_succ]
          refine wpAnyH_take (i := 15) (oi := { dst := some 61, op := Go.Op.binOp Go.BinOp.and 3 (Go.Operand.tmp 60) (Go.Operand.const (Go.Value.int Go.IntKind.i64 255)) 3, type := 3, pos := "ref.go:356", after := #[{ on := 14, ground := Go.Ground.data }], guard := none }) (v := ?v15_100101) rfl (by kernel_rfl) (by kernel_rfl) (by kernel_rfl) (fun _ _ _ h => h) (Or.inl ⟨by rfl, ?y15_100101⟩) hHeld ?r15_100101
          case y15_100101 => intro w hSw; (try dsimp only at hSw); go_simp; try with_reducible rfl
          try simp only [Act.put, List.setIfInBounds_toArray, List.set_cons_zero, List.set_cons_succ]
          refine wpAnyH_take (i := 16) (oi := { dst := some 62, op := Go.Op.move (Go.Operand.tmp 5), type := 25, pos := "ref.go:356", after := #[], guard := none }) (v := ?v16_100101) rfl (by kernel_rfl) (by kernel_rfl) (by kernel_rfl) (fun _ _ _ h => h) (Or.inl ⟨by rfl, ?y16_100101⟩) hHeld ?r16_100101
          case y16_100101 => intro w hSw; (try dsimp only at hSw); go_simp; try with_reducible rfl
          try simp only [Act.put, List.setIfInBounds_toArray, List.set_cons_zero, List.set_cons_succ]
          refine wpAnyH_take (i := 17) (oi := { dst := some 63, op := Go.Op.indexAddr 25 (Go.Operand.tmp 62) (Go.Operand.const (Go.Value.int Go.IntKind.i64 0)), type := 0, pos := "ref.go:356", after := #[{ on := 16, ground := Go.Ground.data }], guard := none }) (v := ?v17_100101) rfl (by kernel_rfl) (by kernel_rfl) (by kernel_rfl) (fun _ _ _ h => h) (Or.inl ⟨by rfl, ?y17_100101⟩) hHeld ?r17_100101
          case y17_100101 => intro w hSw; (try dsimp only at hSw); go_simp; try with_reducible rfl
          try simp only [Act.put, List.setIfInBounds_toArray, List.set_cons_zero, List.set_cons_succ]
          refine wpAnyH_take (i := 18) (oi := { dst := some 64, op := Go.Op.fieldAddr 75 (Go.Operand.tmp 63) 3, type := 0, pos := "ref.go:356", after := #[{ on := 17, ground := Go.Ground.data }], guard := none }) (v := ?v18_100101) rfl (by kernel_rfl) (by kernel_rfl) (by kernel_rfl) (fun _ _ _ h => h) (Or.inl ⟨by rfl, ?y18_100101⟩) hHeld ?r18_100101
          case y18_100101 => intro w hSw; (try dsimp only at hSw); go_simp; try with_reducible rfl
          try simp only [Act.put, List.setIfInBounds_toArray, List.set_cons_zero, List.set_cons_succ]
          refine wpAnyH_take (i := 19) (oi := { dst := some 65, op := Go.Op.load 3 (Go.Operand.tmp 64), type := 3, pos := "ref.go:356", after := #[{ on := 18, ground := Go.Ground.data }], guard := none }) (v := ?v19_100101) rfl (by kernel_rfl) (by kernel_rfl) (by kernel_rfl) (fun _ _ _ h => h) (Or.inl ⟨by rfl, ?y19_100101⟩) hHeld ?r19_100101
          case y19_100101 => intro w hSw; (try dsimp only at hSw); go_simp; try with_reducible rfl
          try simp only [Act.put, List.setIfInBounds_toArray, List.set_cons_zero, List.set_cons_succ]
          refine wpAnyH_take (i := 20) (oi := { dst := some 66, op := Go.Op.binOp Go.BinOp.shr 3 (Go.Operand.tmp 65) (Go.Operand.const (Go.Value.int Go.IntKind.u64 15)) 111, type := 3, pos := "ref.go:356", after := #[{ on := 19, ground := Go.Ground.data }], guard := none }) (v := ?v20_100101) rfl (by kernel_rfl) (by kernel_rfl) (by kernel_rfl) (fun _ _ _ h => h) (Or.inl ⟨by rfl, ?y20_100101⟩) hHeld ?r20_100101
          case y20_100101 => intro w hSw; (try dsimp only at hSw); go_simp; try with_reducible rfl
          try simp only [Act.put, List.setIfInBounds_toArray, List.set_cons_zero, List.set_cons_succ]
          refine wpAnyH_take (i := 21) (oi := { dst := some 67, op := Go.Op.binOp Go.BinOp.and 3 (Go.Operand.tmp 66) (Go.Operand.const (Go.Value.int Go.IntKind.i64 1)) 3, type := 3, pos := "ref.go:356", after := #[{ on := 20, ground := Go.Ground.data }], guard := none }) (v := ?v21_100101) rfl (by kernel_rfl) (by kernel_rfl) (by kernel_rfl) (fun _ _ _ h => h) (Or.inl ⟨by rfl, ?y21_100101⟩) hHeld ?r21_100101
          case y21_100101 => intro w hSw; (try dsimp only at hSw); go_simp; try with_reducible rfl
          try simp only [Act.put, List.setIfInBounds_toArray, List.set_cons_zero, List.set_cons_succ]
          refine wpAnyH_take (i := 22) (oi := { dst := some 68, op := Go.Op.binOp Go.BinOp.eql 3 (Go.Operand.tmp 67) (Go.Operand.const (Go.Value.int Go.IntKind.i64 1)) 3, type := 4, pos := "ref.go:356", after := #[{ on := 21, ground := Go.Ground.data }], guard := none }) (v := ?v22_100101) rfl (by kernel_rfl) (by kernel_rfl) (by kernel_rfl) (fun _ _ _ h => h) (Or.inl ⟨by rfl, ?y22_100101⟩) hHeld ?r22_100101
          case y22_100101 => intro w hSw; (try dsimp only at hSw); go_simp; try with_reducible rfl
          try simp only [Act.put, List.setIfInBounds_toArray, List.set_cons_zero, List.set_cons_succ]
          refine wpAnyH_take (i := 23) (oi := { dst := some 69, op := Go.Op.move (Go.Operand.tmp 5), type := 25, pos := "ref.go:356", after := #[], guard := none }) (v := ?v23_100101) rfl (by kernel_rfl) (by kernel_rfl) (by kernel_rfl) (fun _ _ _ h => h) (Or.inl ⟨by rfl, ?y23_100101⟩) hHeld ?r23_100101
          case y23_100101 => intro w hSw; (try dsimp only at hSw); go_simp; try with_reducible rfl
          try simp only [Act.put, List.setIfInBounds_toArray, List.set_cons_zero, List.set_cons_succ]
          refine wpAnyH_take (i := 24) (oi := { dst := some 70, op := Go.Op.indexAddr 25 (Go.Operand.tmp 69) (Go.Operand.const (Go.Value.int Go.IntKind.i64 0)), type := 0, pos := "ref.go:356", after := #[{ on := 23, ground := Go.Ground.data }], guard := none }) (v := ?v24_100101) rfl (by kernel_rfl) (by kernel_rfl) (by kernel_rfl) (fun _ _ _ h => h) (Or.inl ⟨by rfl, ?y24_100101⟩) hHeld ?r24_100101
          case y24_100101 => intro w hSw; (try dsimp only at hSw); go_simp; try with_reducible rfl
          try simp only [Act.put, List.setIfInBounds_toArray, List.set_cons_zero, List.set_cons_succ]
          refine wpAnyH_take (i := 25) (oi := { dst := some 71, op := Go.Op.fieldAddr 75 (Go.Operand.tmp 70) 4, type := 0, pos := "ref.go:356", after := #[{ on := 24, ground := Go.Ground.data }], guard := none }) (v := ?v25_100101) rfl (by kernel_rfl) (by kernel_rfl) (by kernel_rfl) (fun _ _ _ h => h) (Or.inl ⟨by rfl, ?y25_100101⟩) hHeld ?r25_100101
          case y25_100101 => intro w hSw; (try dsimp only at hSw); go_simp; try with_reducible rfl
          try simp only [Act.put, List.setIfInBounds_toArray, List.set_cons_zero, List.set_cons_succ]
          refine wpAnyH_take (i := 26) (oi := { dst := some 72, op := Go.Op.load 9 (Go.Operand.tmp 71), type := 9, pos := "ref.go:356", after := #[{ on := 25, ground := Go.Ground.data }], guard := none }) (v := ?v26_100101) rfl (by kernel_rfl) (by kernel_rfl) (by kernel_rfl) (fun _ _ _ h => h) (Or.inl ⟨by rfl, ?y26_100101⟩) hHeld ?r26_100101
          case y26_100101 => intro w hSw; (try dsimp only at hSw); go_simp; try with_reducible rfl
          try simp only [Act.put, List.setIfInBounds_toArray, List.set_cons_zero, List.set_cons_succ]
          refine wpAnyH_take (i := 27) (oi := { dst := some 73, op := Go.Op.build 81 #[(0, Go.Operand.tmp 49), (1, Go.Operand.tmp 55), (2, Go.Operand.tmp 61), (3, Go.Operand.tmp 68), (4, Go.Operand.tmp 72)], type := 81, pos := "ref.go:356", after := #[{ on := 3, ground := Go.Ground.data }, { on := 9, ground := Go.Ground.data }, { on := 15, ground := Go.Ground.data }, { on := 22, ground := Go.Ground.data }, { on := 26, ground := Go.Ground.data }], guard := none }) (v := ?v27_100101) rfl (by kernel_rfl) (by kernel_rfl) (by kernel_rfl) (fun _ _ _ h => h) (Or.inl ⟨by rfl, ?y27_100101⟩) hHeld ?r27_100101
          case y27_100101 => intro w hSw; (try dsimp only at hSw); go_simp; try with_reducible rfl
          try simp only [Act.put, List.setIfInBounds_toArray, List.set_cons_zero, List.set_cons_succ]
          refine wpAnyH_ready (rs := [28]) (by kernel_rfl) (by simp) ?_
          refine AllReadyH.cons (o := { dst := none, op := Go.Op.store 81 (Go.Operand.tmp 2) (Go.Operand.tmp 73), type := 0, pos := "ref.go:356", after := #[{ on := 27, ground := Go.Ground.data }, { on := 0, ground := Go.Ground.phase }, { on := 1, ground := Go.Ground.phase }, { on := 2, ground := Go.Ground.phase }, { on := 3, ground := Go.Ground.phase }, { on := 4, ground := Go.Ground.phase }, { on := 5, ground := Go.Ground.phase }, { on := 6, ground := Go.Ground.phase }, { on := 7, ground := Go.Ground.phase }, { on := 8, ground := Go.Ground.phase }, { on := 9, ground := Go.Ground.phase }, { on := 10, ground := Go.Ground.phase }, { on := 11, ground := Go.Ground.phase }, { on := 12, ground := Go.Ground.phase }, { on := 13, ground := Go.Ground.phase }, { on := 14, ground := Go.Ground.phase }, { on := 15, ground := Go.Ground.phase }, { on := 16, ground := Go.Ground.phase }, { on := 17, ground := Go.Ground.phase }, { on := 18, ground := Go.Ground.phase }, { on := 19, ground := Go.Ground.phase }, { on := 20, ground := Go.Ground.phase }, { on := 21, ground := Go.Ground.phase }, { on := 22, ground := Go.Ground.phase }, { on := 23, ground := Go.Ground.phase }, { on := 24, ground := Go.Ground.phase }, { on := 25, ground := Go.Ground.phase }, { on := 26, ground := Go.Ground.phase }, { on := 27, ground := Go.Ground.phase }], guard := none }) rfl (fun K hK => ?_) AllReadyH.nil
          obtain ⟨r0, r1, r2, r3, r4, g0, g1, g2, g3, g4⟩ := KD.out.u5
          go_simp
          refine hK.out _ _ (⟨(cell_far5 wd hgq _ _ _ _ _).trans hHeld.1, (cell_far5 wd hgq _ _ _ _ _).trans hHeld.2.1, (cell_far5 wd hgq _ _ _ _ _).trans hHeld.2.2.1, (cell_far5 wd hgq _ _ _ _ _).trans hHeld.2.2.2.1, (cell_far5 wd hgq _ _ _ _ _).trans hHeld.2.2.2.2⟩) (fun hHeld2 => ?_)
          clear hK K hHeld
          have hHeld := hHeld2
          clear hHeld2
          try simp only [Act.put, List.setIfInBounds_toArray, List.set_cons_zero, List.set_cons_succ]
          refine wpAnyH_take (i := 29) (oi := { dst := some 3, op := Go.Op.assign (Go.Operand.const (Go.Value.bool true)), type := 4, pos := "ref.go:356", after := #[{ on := 28, ground := Go.Ground.chain }, { on := 0, ground := Go.Ground.phase }, { on := 1, ground := Go.Ground.phase }, { on := 2, ground := Go.Ground.phase }, { on := 3, ground := Go.Ground.phase }, { on := 4, ground := Go.Ground.phase }, { on := 5, ground := Go.Ground.phase }, { on := 6, ground := Go.Ground.phase }, { on := 7, ground := Go.Ground.phase }, { on := 8, ground := Go.Ground.phase }, { on := 9, ground := Go.Ground.phase }, { on := 10, ground := Go.Ground.phase }, { on := 11, ground := Go.Ground.phase }, { on := 12, ground := Go.Ground.phase }, { on := 13, ground := Go.Ground.phase }, { on := 14, ground := Go.Ground.phase }, { on := 15, ground := Go.Ground.phase }, { on := 16, ground := Go.Ground.phase }, { on := 17, ground := Go.Ground.phase }, { on := 18, ground := Go.Ground.phase }, { on := 19, ground := Go.Ground.phase }, { on := 20, ground := Go.Ground.phase }, { on := 21, ground := Go.Ground.phase }, { on := 22, ground := Go.Ground.phase }, { on := 23, ground := Go.Ground.phase }, { on := 24, ground := Go.Ground.phase }, { on := 25, ground := Go.Ground.phase }, { on := 26, ground := Go.Ground.phase }, { on := 27, ground := Go.Ground.phase }, { on := 28, ground := Go.Ground.phase }], guard := none }) (v := ?v29_100102) rfl (by kernel_rfl) (by kernel_rfl) (by kernel_rfl) (fun _ _ _ h => h) (Or.inl ⟨by rfl, ?y29_100102⟩) hHeld ?r29_100102
          case y29_100102 => intro w hSw; (try dsimp only at hSw); go_simp; try with_reducible rfl
          try simp only [Act.put, List.setIfInBounds_toArray, List.set_cons_zero, List.set_cons_succ]
          refine wpAnyH_take (i := 30) (oi := { dst := some 4, op := Go.Op.assign (Go.Operand.const (Go.Value.int Go.IntKind.i64 0)), type := 36, pos := "ref.go:356", after := #[{ on := 29, ground := Go.Ground.chain }, { on := 0, ground := Go.Ground.phase }, { on := 1, ground := Go.Ground.phase }, { on := 2, ground := Go.Ground.phase }, { on := 3, ground := Go.Ground.phase }, { on := 4, ground := Go.Ground.phase }, { on := 5, ground := Go.Ground.phase }, { on := 6, ground := Go.Ground.phase }, { on := 7, ground := Go.Ground.phase }, { on := 8, ground := Go.Ground.phase }, { on := 9, ground := Go.Ground.phase }, { on := 10, ground := Go.Ground.phase }, { on := 11, ground := Go.Ground.phase }, { on := 12, ground := Go.Ground.phase }, { on := 13, ground := Go.Ground.phase }, { on := 14, ground := Go.Ground.phase }, { on := 15, ground := Go.Ground.phase }, { on := 16, ground := Go.Ground.phase }, { on := 17, ground := Go.Ground.phase }, { on := 18, ground := Go.Ground.phase }, { on := 19, ground := Go.Ground.phase }, { on := 20, ground := Go.Ground.phase }, { on := 21, ground := Go.Ground.phase }, { on := 22, ground := Go.Ground.phase }, { on := 23, ground := Go.Ground.phase }, { on := 24, ground := Go.Ground.phase }, { on := 25, ground := Go.Ground.phase }, { on := 26, ground := Go.Ground.phase }, { on := 27, ground := Go.Ground.phase }, { on := 28, ground := Go.Ground.phase }, { on := 29, ground := Go.Ground.phase }], guard := none }) (v := ?v30_100102) rfl (by kernel_rfl) (by kernel_rfl) (by kernel_rfl) (fun _ _ _ h => h) (Or.inl ⟨by rfl, ?y30_100102⟩) hHeld ?r30_100102
          case y30_100102 => intro w hSw; (try dsimp only at hSw); go_simp; try with_reducible rfl
          try simp only [Act.put, List.setIfInBounds_toArray, List.set_cons_zero, List.set_cons_succ]
          refine wpAnyH_done (by kernel_rfl) ?_ _
          have Z := Lib.hid (KD.out.s5 (.int .i64 rc) (.int .i64 (bits .and .i64 (ru / 65536) 255)) (.int .i64 (bits .and .i64 (ru / 16777216) 255)) (.bool (bits .and .i64 (ru / 32768) 1 == 1)) (.string rd))
          have HB := Lib.hid (HBD.out.grown (grown_s5 wd q2 (.int .i64 rc) (.int .i64 (bits .and .i64 (ru / 65536) 255)) (.int .i64 (bits .and .i64 (ru / 16777216) 255)) (.bool (bits .and .i64 (ru / 32768) 1 == 1)) (.string rd)) HBD.out.size (fun k hk => by injection hk with hk; have := HQB.out; omega))
          obtain ⟨wz, hwz⟩ : ∃ x, (((((wd.setCell ⟨q2, 0, none⟩ (.int .i64 rc)).setCell ⟨q2, 1, none⟩ (.int .i64 (bits .and .i64 (ru / 65536) 255))).setCell ⟨q2, 2, none⟩ (.int .i64 (bits .and .i64 (ru / 16777216) 255))).setCell ⟨q2, 3, none⟩ (.bool (bits .and .i64 (ru / 32768) 1 == 1))).setCell ⟨q2, 4, none⟩ (.string rd)) = x := ⟨_, rfl⟩
          rw [hwz] at Z HB ⊢
          clear hwz hHeld
          clear r0 r1 r2 r3 r4 g0 g1 g2 g3 g4
          obtain ⟨z0, z1, z2, z3, z4, _⟩ := Z.out.u5
          go_wp2
          refine bodyPost_ret (v := .tuple #[.agg #[.int .i64 rc, .int .i64 (bits .and .i64 (ru / 65536) 255), .int .i64 (bits .and .i64 (ru / 16777216) 255), .bool (bits .and .i64 (ru / 32768) 1 == 1), .string rd], .bool true, .int .i64 0]) (by simp [results, Try.results45, go_sem, z0, z1, z2, z3, z4]) rfl ⟨by rw [getO, HFF.out]; simp only [getF, if_pos HRT.out]; rw [do_bit]; rfl, HB.out⟩
        · have t1 : (rn.toList == [(0 : UInt8)]) = false := by simpa using hroot
          have t2 : (rn.toList != [(0 : UInt8)]) = true := by simpa using hroot
          have HRT := Lib.hid hroot
          clear hroot
          go_wp2
          refine bodyPost_ret (v := .tuple #[.agg #[.int .i64 0, .int .i64 0, .int .i64 0, .bool false, .string ⟨#[]⟩], .bool false, .int .i64 4]) (by simp [results, Try.results45, go_sem, z0, z1, z2, z3, z4]) rfl ⟨by rw [getO, HFF.out]; simp only [getF, if_neg HRT.out]; rfl, ?_⟩
          repeat (first | exact HBX.out | refine Below.setCell ?_ (by have := HQB.out; omega) _)
      | r :: r2 :: F2, HFF, HKL, hrow =>
        have hl : n = F2.length + 1 + 1 := HKL.out.symm
        have d1 := eF (a := (n : Int)) (b := 0) (by omega)
        have d2 := dT (p := (1 : Int) < (n : Int)) (by omega)
        have d3 := dT (p := 1 < n) (by omega)
        clear hrow hl HO
        go_wp2
        refine bodyPost_ret (v := .tuple #[.agg #[.int .i64 0, .int .i64 0, .int .i64 0, .bool false, .string ⟨#[]⟩], .bool false, .int .i64 7]) (by simp [results, Try.results45, go_sem, z0, z1, z2, z3, z4]) rfl ⟨by rw [getO, HFF.out]; rfl, ?_⟩
        repeat (first | exact HBX.out | refine Below.setCell ?_ (by have := HQB.out; omega) _)
end Go.Proofs.Ytkoafkajmfodkaa
