/- The document's PutOpt. -/
import Derived.Test.YtkoafkajmfodkaaBt6
import Derived.Test.YtkoafkajmfodkaaFix
import Derived.Test.YtkoafkajmfodkaaSaM
import Derived.Deep.RegionHeld3
import Derived.IntWalk
namespace Go.Proofs.Ytkoafkajmfodkaa
open Go.RowKit

set_option maxRecDepth 100000 in
theorem bitD_any (b : Bool) (x : Int) (w : World) : Calls Try.prog 59 #[.bool b, .int .i64 x] w fun e w' => e = .returned (.int .i64 (if b then x else 0)) ∧ w = w' := by
  cases b <;>
  · go_enter Try.func59, Try.ntmps59
    go_wp2
    go_ret
    exact ⟨rfl, rfl⟩
theorem bitB_any (b : Bool) (x : Int) (w : World) : Calls Try.prog 59 #[.bool b, .int .i64 x] w fun e w' => e = .returned (.int .i64 (if b then x else 0)) ∧ Below w.heap.size w w' :=
  (bitD_any b x w).mono fun _ _ ⟨h1, h2⟩ => ⟨h1, h2 ▸ Below.refl _ _⟩
theorem or_zero (x : Int) (h0 : 0 ≤ x) (h : x < 9223372036854775808) : bits .or .i64 x 0 = x := by
  obtain ⟨n, rfl⟩ := Int.eq_ofNat_of_zero_le h0
  have := or_shift 0 n 0 (by decide) (by omega)
  simpa using this
set_option maxRecDepth 100000 in
set_option maxHeartbeats 4000000 in
theorem putD_any (o : OptP) (w : World) (ht : o.data.size ≤ 9223372036854775807) :
    Calls Try.prog 43 #[optV o] w fun e w' => e = .returned (.tuple #[.agg #[.string (putR o).k.n, .int .i64 (putR o).k.t, .int .i64 (putR o).k.c, .int .i64 (putR o).ttl, .string (putR o).d], .int .i64 (putE o)]) ∧ Below w.heap.size w w' := by
  obtain ⟨s, v, r, d, t⟩ := o
  obtain ⟨R, hR⟩ : ∃ R, putR ⟨s, v, r, d, t⟩ = R := ⟨_, rfl⟩
  obtain ⟨E, hE⟩ : ∃ E, putE ⟨s, v, r, d, t⟩ = E := ⟨_, rfl⟩
  rw [hR, hE]
  rw [putR, hE] at hR
  rw [putE] at hE
  have HR := Lib.hid hR
  have HE := Lib.hid hE
  clear hR hE
  simp only [optV]
  replace ht : t.size ≤ 9223372036854775807 := ht
  have HT := Lib.hid ht
  by_cases hok : (0 ≤ s ∧ s ≤ 65535) ∧ (0 ≤ v ∧ v ≤ 255) ∧ (0 ≤ r ∧ r ≤ 255)
  · obtain ⟨⟨s1, s2⟩, ⟨v1, v2⟩, r1, r2⟩ := hok
    have HIN := Lib.hid (show (inR s 65535 && (inR v 255 && inR r 255)) = true by simp [inR, s1, s2, v1, v2, r1, r2])
    have e1 := dF (p := s < 0) (by omega)
    have e2 := dF (p := 65535 < s) (by omega)
    have e3 := dF (p := v < 0) (by omega)
    have e4 := dF (p := 255 < v) (by omega)
    have e5 := dF (p := r < 0) (by omega)
    have e6 := dF (p := 255 < r) (by omega)
    by_cases hl : 1000 < t.size
    · obtain rfl : E = 3 := by rw [← HE.out, if_pos HIN.out, if_pos hl]
      obtain rfl : R = rr0 := by rw [← HR.out]; rfl
      have d1 := dT (p := (1000 : Int) < (t.size : Int)) (by omega)
      go_enter Try.func43, Try.ntmps43
      go_wp2
      refine bodyPost_ret (v := .tuple #[.agg #[.string ⟨#[]⟩, .int .i64 0, .int .i64 0, .int .i64 0, .string ⟨#[]⟩], .int .i64 3]) (by simp [results, Try.results43, go_sem]) rfl ⟨rfl, ?_⟩
      repeat (first | exact Below.refl _ _ | refine Below.alloc ?_ (by simp) _ | refine Below.setCell ?_ (by simp) _)
    · obtain rfl : E = 0 := by rw [← HE.out, if_pos HIN.out, if_neg hl]
      have hr2 := HR.out
      rw [if_pos rfl] at hr2
      have d1 := dF (p := (1000 : Int) < (t.size : Int)) (by omega)
      have htt : ttlO ⟨s, v, r, d, t⟩ = bits .or .i64 (bits .or .i64 (r * 16777216) (v * 65536)) (if d then 32768 else 0) := by
        cases d with
        | true => rfl
        | false =>
          have hp : putE ⟨s, v, r, false, t⟩ = 0 := by rw [putE, if_pos HIN.out, if_neg hl]
          have h1 := ttlO_val hp
          have h2 : ttlO ⟨s, v, r, false, t⟩ = bits .or .i64 (r * 16777216) (v * 65536) := rfl
          rw [h2] at h1
          show ttlO ⟨s, v, r, false, t⟩ = bits .or .i64 (bits .or .i64 (r * 16777216) (v * 65536)) 0
          rw [h2, or_zero _ (by rw [h1]; simp; omega) (by rw [h1]; simp; omega)]
      replace hr2 : (⟨⟨⟨#[0]⟩, 41, s⟩, bits .or .i64 (bits .or .i64 (r * 16777216) (v * 65536)) (if d then 32768 else 0), t⟩ : R5) = R := by rw [← hr2, htt]
      obtain rfl := hr2
      clear HR HE htt hl
      obtain ⟨B, hB⟩ : ∃ x : Int, (if d then 32768 else 0) = x := ⟨_, rfl⟩
      rw [hB]
      have HBB := Lib.hid hB
      clear hB
      have h1 := (Below.refl w.heap.size w).alloc (Nat.le_refl _) (.cells #[.int .i64 s, .int .i64 v, .int .i64 r, .bool d, .string t] 81)
      have h2 := (Below.refl _ (w.alloc (.cells #[.int .i64 s, .int .i64 v, .int .i64 r, .bool d, .string t] 81))).alloc (Nat.le_refl _) (.cells #[.string ⟨#[]⟩, .int .i64 0, .int .i64 0, .int .i64 0, .string ⟨#[]⟩] 75)
      have HBW := Lib.hid (h1.trans (h2.mono h1.size))
      have c0 := CN.new w #[.int .i64 s, .int .i64 v, .int .i64 r, .bool d, .string t] 81
      have c1 := c0.below h2
      have hs1 : w.heap.size + 1 = (w.alloc (.cells #[.int .i64 s, .int .i64 v, .int .i64 r, .bool d, .string t] 81)).heap.size := (World.size_alloc _ _).symm
      have HS1 := Lib.hid hs1.symm
      have HP2 := Lib.hid (h2.mono (Nat.le_refl _))
      clear hs1
      have c2 := CN.new (w.alloc (.cells #[.int .i64 s, .int .i64 v, .int .i64 r, .bool d, .string t] 81)) #[.string ⟨#[]⟩, .int .i64 0, .int .i64 0, .int .i64 0, .string ⟨#[]⟩] 75
      rw [World.size_alloc] at c2
      clear h1 h2
      go_enter Try.func43, Try.ntmps43
      go_upto_region 5 with fail
      obtain ⟨w2, hw2⟩ : ∃ x, (w.alloc (.cells #[.int .i64 s, .int .i64 v, .int .i64 r, .bool d, .string t] 81)).alloc (.cells #[.string ⟨#[]⟩, .int .i64 0, .int .i64 0, .int .i64 0, .string ⟨#[]⟩] 75) = x := ⟨_, rfl⟩
      rw [hw2] at c1 c2 HBW HP2 ⊢
      obtain ⟨w1, hw1⟩ : ∃ x, w.alloc (.cells #[.int .i64 s, .int .i64 v, .int .i64 r, .bool d, .string t] 81) = x := ⟨_, rfl⟩
      rw [hw1] at c0 HS1 HP2
      clear hw1
      obtain ⟨q2, hq2⟩ : ∃ q, w.heap.size + 1 = q := ⟨_, rfl⟩
      obtain ⟨q1, hq1⟩ : ∃ q, w.heap.size = q := ⟨_, rfl⟩
      rw [hq2] at c2 ⊢
      rw [show (Value.pointer (some { block := w.heap.size, off := 0 })) = Value.pointer (some { block := q1, off := 0 }) by rw [hq1]]
      rw [hq1] at c1 c0
      rw [hq2] at HS1
      have hq12 : w.heap.size ≤ q2 := by omega
      clear hw2 hq1 hq2
      have C0 := Lib.hid c0
      have C1 := Lib.hid c1
      have C2 := Lib.hid c2
      have HQ12 := Lib.hid hq12
      clear c0 c1 c2 hq12 e1 e2 e3 e4 e5 e6 d1 s1 s2
      obtain ⟨y0, y1, y2, y3, y4, _⟩ := C1.out.u5
      have hfix : Fix w1 [(⟨q1, 0, none⟩, .int .i64 s), (⟨q1, 1, none⟩, .int .i64 v), (⟨q1, 2, none⟩, .int .i64 r), (⟨q1, 3, none⟩, .bool d), (⟨q1, 4, none⟩, .string t)] w2 := ⟨HP2.out, by
        intro c hc
        simp only [List.mem_cons, List.not_mem_nil, or_false] at hc
        rcases hc with rfl | rfl | rfl | rfl | rfl
        · exact ⟨C0.out.1, C0.out.u5.1⟩
        · exact ⟨C0.out.1, C0.out.u5.2.1⟩
        · exact ⟨C0.out.1, C0.out.u5.2.2.1⟩
        · exact ⟨C0.out.1, C0.out.u5.2.2.2.1⟩
        · exact ⟨C0.out.1, C0.out.u5.2.2.2.2.1⟩⟩
      have HFX := Lib.hid hfix.drew.all5
      clear hfix y0 y1 y2 y3 y4
      have p1 : IntKind.i64.wrap (r * 16777216) = r * 16777216 := IntWalk.i64_in _ (by omega)
      have p2 : IntKind.i64.wrap (v * 65536) = v * 65536 := IntWalk.i64_in _ (by omega)
      refine wp_region_held_drew (S := (fun wx => Hid (Fix w1 [(⟨q1, 0, none⟩, .int .i64 s), (⟨q1, 1, none⟩, .int .i64 v), (⟨q1, 2, none⟩, .int .i64 r), (⟨q1, 3, none⟩, .bool d), (⟨q1, 4, none⟩, .string t)] wx) ∧ wx.cell? ⟨q1, 0, none⟩ = some (.int .i64 s) ∧ wx.cell? ⟨q1, 1, none⟩ = some (.int .i64 v) ∧ wx.cell? ⟨q1, 2, none⟩ = some (.int .i64 r) ∧ wx.cell? ⟨q1, 3, none⟩ = some (.bool d) ∧ wx.cell? ⟨q1, 4, none⟩ = some (.string t))) (by kernel_rfl) (HFX.out) (fun hHeld => ?_)
      refine wpAnyH_take (i := 0) (oi := { dst := some 38, op := Go.Op.fieldAddr 81 (Go.Operand.tmp 1) 0, type := 0, pos := "ref.go:337", after := #[], guard := none }) (v := ?v0_90101) rfl (by kernel_rfl) (by kernel_rfl) (by kernel_rfl) (fun _ _ _ h => h) (Or.inl ⟨by rfl, ?y0_90101⟩) hHeld ?r0_90101
      case y0_90101 => intro w hSw; (try dsimp only at hSw); go_simp; try with_reducible rfl
      try simp only [Act.put, List.setIfInBounds_toArray, List.set_cons_zero, List.set_cons_succ]
      refine wpAnyH_take (i := 1) (oi := { dst := some 39, op := Go.Op.load 3 (Go.Operand.tmp 38), type := 3, pos := "ref.go:337", after := #[{ on := 0, ground := Go.Ground.data }], guard := none }) (v := ?v1_90101) rfl (by kernel_rfl) (by kernel_rfl) (by kernel_rfl) (fun _ _ _ h => h) (Or.inl ⟨by rfl, ?y1_90101⟩) hHeld ?r1_90101
      case y1_90101 => intro w hSw; (try dsimp only at hSw); go_simp; try with_reducible rfl
      try simp only [Act.put, List.setIfInBounds_toArray, List.set_cons_zero, List.set_cons_succ]
      refine wpAnyH_take (i := 2) (oi := { dst := some 40, op := Go.Op.fieldAddr 81 (Go.Operand.tmp 1) 2, type := 0, pos := "ref.go:337", after := #[], guard := none }) (v := ?v2_90101) rfl (by kernel_rfl) (by kernel_rfl) (by kernel_rfl) (fun _ _ _ h => h) (Or.inl ⟨by rfl, ?y2_90101⟩) hHeld ?r2_90101
      case y2_90101 => intro w hSw; (try dsimp only at hSw); go_simp; try with_reducible rfl
      try simp only [Act.put, List.setIfInBounds_toArray, List.set_cons_zero, List.set_cons_succ]
      refine wpAnyH_take (i := 3) (oi := { dst := some 41, op := Go.Op.load 3 (Go.Operand.tmp 40), type := 3, pos := "ref.go:337", after := #[{ on := 2, ground := Go.Ground.data }], guard := none }) (v := ?v3_90101) rfl (by kernel_rfl) (by kernel_rfl) (by kernel_rfl) (fun _ _ _ h => h) (Or.inl ⟨by rfl, ?y3_90101⟩) hHeld ?r3_90101
      case y3_90101 => intro w hSw; (try dsimp only at hSw); go_simp; try with_reducible rfl
      try simp only [Act.put, List.setIfInBounds_toArray, List.set_cons_zero, List.set_cons_succ]
      refine wpAnyH_take (i := 4) (oi := { dst := some 42, op := Go.Op.binOp Go.BinOp.shl 3 (Go.Operand.tmp 41) (Go.Operand.const (Go.Value.int Go.IntKind.u64 24)) 111, type := 3, pos := "ref.go:337", after := #[{ on := 3, ground := Go.Ground.data }], guard := none }) (v := ?v4_90101) rfl (by kernel_rfl) (by kernel_rfl) (by kernel_rfl) (fun _ _ _ h => h) (Or.inl ⟨by rfl, ?y4_90101⟩) hHeld ?r4_90101
      case y4_90101 => intro w hSw; (try dsimp only at hSw); go_simp; try with_reducible rfl
      try simp only [Act.put, List.setIfInBounds_toArray, List.set_cons_zero, List.set_cons_succ]
      refine wpAnyH_take (i := 5) (oi := { dst := some 43, op := Go.Op.fieldAddr 81 (Go.Operand.tmp 1) 1, type := 0, pos := "ref.go:337", after := #[], guard := none }) (v := ?v5_90101) rfl (by kernel_rfl) (by kernel_rfl) (by kernel_rfl) (fun _ _ _ h => h) (Or.inl ⟨by rfl, ?y5_90101⟩) hHeld ?r5_90101
      case y5_90101 => intro w hSw; (try dsimp only at hSw); go_simp; try with_reducible rfl
      try simp only [Act.put, List.setIfInBounds_toArray, List.set_cons_zero, List.set_cons_succ]
      refine wpAnyH_take (i := 6) (oi := { dst := some 44, op := Go.Op.load 3 (Go.Operand.tmp 43), type := 3, pos := "ref.go:337", after := #[{ on := 5, ground := Go.Ground.data }], guard := none }) (v := ?v6_90101) rfl (by kernel_rfl) (by kernel_rfl) (by kernel_rfl) (fun _ _ _ h => h) (Or.inl ⟨by rfl, ?y6_90101⟩) hHeld ?r6_90101
      case y6_90101 => intro w hSw; (try dsimp only at hSw); go_simp; try with_reducible rfl
      try simp only [Act.put, List.setIfInBounds_toArray, List.set_cons_zero, List.set_cons_succ]
      refine wpAnyH_take (i := 7) (oi := { dst := some 45, op := Go.Op.binOp Go.BinOp.shl 3 (Go.Operand.tmp 44) (Go.Operand.const (Go.Value.int Go.IntKind.u64 16)) 111, type := 3, pos := "ref.go:337", after := #[{ on := 6, ground := Go.Ground.data }], guard := none }) (v := ?v7_90101) rfl (by kernel_rfl) (by kernel_rfl) (by kernel_rfl) (fun _ _ _ h => h) (Or.inl ⟨by rfl, ?y7_90101⟩) hHeld ?r7_90101
      case y7_90101 => intro w hSw; (try dsimp only at hSw); go_simp; try with_reducible rfl
      try simp only [Act.put, List.setIfInBounds_toArray, List.set_cons_zero, List.set_cons_succ]
      refine wpAnyH_take (i := 8) (oi := { dst := some 46, op := Go.Op.binOp Go.BinOp.or 3 (Go.Operand.tmp 42) (Go.Operand.tmp 45) 3, type := 3, pos := "ref.go:337", after := #[{ on := 4, ground := Go.Ground.data }, { on := 7, ground := Go.Ground.data }], guard := none }) (v := ?v8_90101) rfl (by kernel_rfl) (by kernel_rfl) (by kernel_rfl) (fun _ _ _ h => h) (Or.inl ⟨by rfl, ?y8_90101⟩) hHeld ?r8_90101
      case y8_90101 => intro w hSw; (try dsimp only at hSw); go_simp; try with_reducible rfl
      try simp only [Act.put, List.setIfInBounds_toArray, List.set_cons_zero, List.set_cons_succ]
      refine wpAnyH_take (i := 9) (oi := { dst := some 47, op := Go.Op.fieldAddr 81 (Go.Operand.tmp 1) 3, type := 0, pos := "ref.go:337", after := #[], guard := none }) (v := ?v9_90101) rfl (by kernel_rfl) (by kernel_rfl) (by kernel_rfl) (fun _ _ _ h => h) (Or.inl ⟨by rfl, ?y9_90101⟩) hHeld ?r9_90101
      case y9_90101 => intro w hSw; (try dsimp only at hSw); go_simp; try with_reducible rfl
      try simp only [Act.put, List.setIfInBounds_toArray, List.set_cons_zero, List.set_cons_succ]
      refine wpAnyH_take (i := 10) (oi := { dst := some 48, op := Go.Op.load 4 (Go.Operand.tmp 47), type := 4, pos := "ref.go:337", after := #[{ on := 9, ground := Go.Ground.data }], guard := none }) (v := ?v10_90101) rfl (by kernel_rfl) (by kernel_rfl) (by kernel_rfl) (fun _ _ _ h => h) (Or.inl ⟨by rfl, ?y10_90101⟩) hHeld ?r10_90101
      case y10_90101 => intro w hSw; (try dsimp only at hSw); go_simp; try with_reducible rfl
      try simp only [Act.put, List.setIfInBounds_toArray, List.set_cons_zero, List.set_cons_succ]
      refine wpAnyH_take (i := 13) (oi := { dst := some 51, op := Go.Op.fieldAddr 81 (Go.Operand.tmp 1) 4, type := 0, pos := "ref.go:337", after := #[], guard := none }) (v := ?v13_90101) rfl (by kernel_rfl) (by kernel_rfl) (by kernel_rfl) (fun _ _ _ h => h) (Or.inl ⟨by rfl, ?y13_90101⟩) hHeld ?r13_90101
      case y13_90101 => intro w hSw; (try dsimp only at hSw); go_simp; try with_reducible rfl
      try simp only [Act.put, List.setIfInBounds_toArray, List.set_cons_zero, List.set_cons_succ]
      refine wpAnyH_take (i := 14) (oi := { dst := some 52, op := Go.Op.load 9 (Go.Operand.tmp 51), type := 9, pos := "ref.go:337", after := #[{ on := 13, ground := Go.Ground.data }], guard := none }) (v := ?v14_90101) rfl (by kernel_rfl) (by kernel_rfl) (by kernel_rfl) (fun _ _ _ h => h) (Or.inl ⟨by rfl, ?y14_90101⟩) hHeld ?r14_90101
      case y14_90101 => intro w hSw; (try dsimp only at hSw); go_simp; try with_reducible rfl
      try simp only [Act.put, List.setIfInBounds_toArray, List.set_cons_zero, List.set_cons_succ]
      refine wpAnyH_ready (rs := [11]) (by kernel_rfl) (by simp) ?_
      refine AllReadyH.cons (o := { dst := some 49, op := Go.Op.call { callee := Go.Callee.value (Go.Operand.func 59), args := #[Go.Operand.tmp 48, Go.Operand.const (Go.Value.int Go.IntKind.i64 32768)], argTypes := #[4, 3] }, type := 3, pos := "ref.go:337", after := #[{ on := 10, ground := Go.Ground.data }], guard := none }) rfl (fun K hK => ?_) AllReadyH.nil
      go_simp
      refine (bitB_any _ _ _).mono ?_; rintro e wy ⟨rfl, hb⟩
      rw [HBB.out]
      go_wp2_with fail
      refine hK.out _ _ (Fix.next5 hb hHeld) (fun hHeld2 => ?_)
      clear hK K hHeld
      have hHeld := hHeld2
      clear hHeld2
      try simp only [Act.put, List.setIfInBounds_toArray, List.set_cons_zero, List.set_cons_succ]
      refine wpAnyH_take (i := 12) (oi := { dst := some 50, op := Go.Op.binOp Go.BinOp.or 3 (Go.Operand.tmp 46) (Go.Operand.tmp 49) 3, type := 3, pos := "ref.go:337", after := #[{ on := 8, ground := Go.Ground.data }, { on := 11, ground := Go.Ground.data }], guard := none }) (v := ?v12_90102) rfl (by kernel_rfl) (by kernel_rfl) (by kernel_rfl) (fun _ _ _ h => h) (Or.inl ⟨by rfl, ?y12_90102⟩) hHeld ?r12_90102
      case y12_90102 => intro w hSw; (try dsimp only at hSw); go_simp; try with_reducible rfl
      try simp only [Act.put, List.setIfInBounds_toArray, List.set_cons_zero, List.set_cons_succ]
      refine wpAnyH_take (i := 15) (oi := { dst := some 53, op := Go.Op.build 75 #[(0, Go.Operand.const (Go.Value.string { data := #[0] })), (1, Go.Operand.const (Go.Value.int Go.IntKind.i64 41)), (2, Go.Operand.tmp 39), (3, Go.Operand.tmp 50), (4, Go.Operand.tmp 52)], type := 75, pos := "ref.go:337", after := #[{ on := 1, ground := Go.Ground.data }, { on := 12, ground := Go.Ground.data }, { on := 14, ground := Go.Ground.data }], guard := none }) (v := ?v15_90102) rfl (by kernel_rfl) (by kernel_rfl) (by kernel_rfl) (fun _ _ _ h => h) (Or.inl ⟨by rfl, ?y15_90102⟩) hHeld ?r15_90102
      case y15_90102 => intro w hSw; (try dsimp only at hSw); go_simp; try with_reducible rfl
      try simp only [Act.put, List.setIfInBounds_toArray, List.set_cons_zero, List.set_cons_succ]
      refine wpAnyH_ready (rs := [16]) (by kernel_rfl) (by simp) ?_
      refine AllReadyH.cons (o := { dst := none, op := Go.Op.store 75 (Go.Operand.tmp 2) (Go.Operand.tmp 53), type := 0, pos := "ref.go:337", after := #[{ on := 15, ground := Go.Ground.data }, { on := 11, ground := Go.Ground.chain }, { on := 0, ground := Go.Ground.phase }, { on := 1, ground := Go.Ground.phase }, { on := 2, ground := Go.Ground.phase }, { on := 3, ground := Go.Ground.phase }, { on := 4, ground := Go.Ground.phase }, { on := 5, ground := Go.Ground.phase }, { on := 6, ground := Go.Ground.phase }, { on := 7, ground := Go.Ground.phase }, { on := 8, ground := Go.Ground.phase }, { on := 9, ground := Go.Ground.phase }, { on := 10, ground := Go.Ground.phase }, { on := 11, ground := Go.Ground.phase }, { on := 12, ground := Go.Ground.phase }, { on := 13, ground := Go.Ground.phase }, { on := 14, ground := Go.Ground.phase }, { on := 15, ground := Go.Ground.phase }], guard := none }) rfl (fun K hK => ?_) AllReadyH.nil
      obtain ⟨r0, r1, r2, r3, r4, g0, g1, g2, g3, g4⟩ := ((C2.out.below ((Below.refl w2.heap.size w2).drew)).below hb).u5
      go_simp
      refine hK.out _ _ ((hHeld.1.out.grown (grown_s5 _ q2 (.string ⟨#[0]⟩) (.int .i64 41) (.int .i64 s) (.int .i64 (bits .or .i64 (bits .or .i64 (r * 16777216) (v * 65536)) B)) (.string t)) (fun k hk => by injection hk with hk; rw [HS1.out]; omega)).all5) (fun hHeld2 => ?_)
      clear hK K hHeld
      have hHeld := hHeld2
      clear hHeld2
      try simp only [Act.put, List.setIfInBounds_toArray, List.set_cons_zero, List.set_cons_succ]
      refine wpAnyH_take (i := 17) (oi := { dst := some 3, op := Go.Op.assign (Go.Operand.const (Go.Value.int Go.IntKind.i64 0)), type := 36, pos := "ref.go:337", after := #[{ on := 16, ground := Go.Ground.chain }, { on := 0, ground := Go.Ground.phase }, { on := 1, ground := Go.Ground.phase }, { on := 2, ground := Go.Ground.phase }, { on := 3, ground := Go.Ground.phase }, { on := 4, ground := Go.Ground.phase }, { on := 5, ground := Go.Ground.phase }, { on := 6, ground := Go.Ground.phase }, { on := 7, ground := Go.Ground.phase }, { on := 8, ground := Go.Ground.phase }, { on := 9, ground := Go.Ground.phase }, { on := 10, ground := Go.Ground.phase }, { on := 11, ground := Go.Ground.phase }, { on := 12, ground := Go.Ground.phase }, { on := 13, ground := Go.Ground.phase }, { on := 14, ground := Go.Ground.phase }, { on := 15, ground := Go.Ground.phase }, { on := 16, ground := Go.Ground.phase }], guard := none }) (v := ?v17_90103) rfl (by kernel_rfl) (by kernel_rfl) (by kernel_rfl) (fun _ _ _ h => h) (Or.inl ⟨by rfl, ?y17_90103⟩) hHeld ?r17_90103
      case y17_90103 => intro w hSw; (try dsimp only at hSw); go_simp; try with_reducible rfl
      try simp only [Act.put, List.setIfInBounds_toArray, List.set_cons_zero, List.set_cons_succ]
      refine wpAnyH_done (by kernel_rfl) ?_ _
      have Z := Lib.hid (((C2.out.below ((Below.refl w2.heap.size w2).drew)).below hb).s5 (.string ⟨#[0]⟩) (.int .i64 41) (.int .i64 s) (.int .i64 (bits .or .i64 (bits .or .i64 (r * 16777216) (v * 65536)) B)) (.string t))
      have hbd0 := HBW.out.trans (((Below.refl w2.heap.size w2).drew).mono HBW.out.size)
      have hbd := hbd0.trans (hb.mono hbd0.size)
      clear hbd0
      have HB := Lib.hid (hbd.grown (grown_s5 _ q2 (.string ⟨#[0]⟩) (.int .i64 41) (.int .i64 s) (.int .i64 (bits .or .i64 (bits .or .i64 (r * 16777216) (v * 65536)) B)) (.string t)) hbd.size (fun k hk => by injection hk with hk; have := HQ12.out; omega))
      clear hbd
      obtain ⟨wz, hwz⟩ : ∃ x, (((((wy.setCell ⟨q2, 0, none⟩ (.string ⟨#[0]⟩)).setCell ⟨q2, 1, none⟩ (.int .i64 41)).setCell ⟨q2, 2, none⟩ (.int .i64 s)).setCell ⟨q2, 3, none⟩ (.int .i64 (bits .or .i64 (bits .or .i64 (r * 16777216) (v * 65536)) B))).setCell ⟨q2, 4, none⟩ (.string t)) = x := ⟨_, rfl⟩
      rw [hwz] at Z HB ⊢
      clear hwz
      clear r0 r1 r2 r3 r4 g0 g1 g2 g3 g4
      obtain ⟨z0, z1, z2, z3, z4, _⟩ := Z.out.u5
      go_wp2
      refine bodyPost_ret (v := .tuple #[.agg #[.string ⟨#[0]⟩, .int .i64 41, .int .i64 s, .int .i64 (bits .or .i64 (bits .or .i64 (r * 16777216) (v * 65536)) B), .string t], .int .i64 0]) (by simp [results, Try.results43, go_sem, z0, z1, z2, z3, z4]) rfl ⟨rfl, HB.out⟩
  · obtain rfl : E = 1 := by
      rw [← HE.out, if_neg]
      intro h
      simp [inR] at h
      omega
    obtain rfl : R = rr0 := by rw [← HR.out]; rfl
    go_enter Try.func43, Try.ntmps43
    by_cases e1 : s < 0
    rotate_left
    by_cases e2 : 65535 < s
    rotate_left
    by_cases e3 : v < 0
    rotate_left
    by_cases e4 : 255 < v
    rotate_left
    by_cases e5 : r < 0
    rotate_left
    have e6 : 255 < r := by omega
    all_goals
      clear hok
      go_wp2
      refine bodyPost_ret (v := .tuple #[.agg #[.string ⟨#[]⟩, .int .i64 0, .int .i64 0, .int .i64 0, .string ⟨#[]⟩], .int .i64 1]) (by simp [results, Try.results43, go_sem]) rfl ⟨rfl, ?_⟩
      repeat (first | exact Below.refl _ _ | refine Below.alloc ?_ (by simp) _ | refine Below.setCell ?_ (by simp) _)
end Go.Proofs.Ytkoafkajmfodkaa
