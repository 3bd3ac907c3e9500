/- WireWrites: the walk. -/
import Derived.Test.YtkoafkajmfodkaaRwG
import Derived.Test.YtkoafkajmfodkaaEcG
import Derived.Test.YtkoafkajmfodkaaRwU
import Derived.Test.YtkoafkajmfodkaaWAe
namespace Go.Proofs.Ytkoafkajmfodkaa
open Go.RowKit

theorem bytesD (v u : Value) (n : Nat) (l : List UInt8) (w : World) (B B' : Nat) (hv : w.ownsRow B 5 1 v n (bc l)) (hu : w.ownsRow B' 5 1 u n (bc l)) :
    Calls Try.prog 25 #[v, u] w fun e w' => e = .returned (.bool true) ∧ Below w.heap.size w w' := by
  have h1 := conv_own hv
  have h2 := conv_own hu
  obtain ⟨a, c, rfl, -⟩ := cellsK_own hv
  obtain ⟨b, d, rfl, -⟩ := cellsK_own hu
  obtain ⟨s, hs⟩ : ∃ s, bs l = s := ⟨_, rfl⟩
  rw [hs] at h1 h2
  have HB := Lib.hid (Below.refl w.heap.size w)
  clear hv hu hs
  go_enter Try.func25, Try.ntmps25
  go_wp2
  go_ret
  exact ⟨rfl, HB.out⟩
theorem CN.u8 {w : World} {q : Nat} {c0 c1 c2 c3 c4 c5 c6 c7 : Value} (h : CN w q [c0, c1, c2, c3, c4, c5, c6, c7]) : w.cell? ⟨q, 0, none⟩ = some c0 ∧ w.cell? ⟨q, 1, none⟩ = some c1 ∧ w.cell? ⟨q, 2, none⟩ = some c2 ∧ w.cell? ⟨q, 3, none⟩ = some c3 ∧ w.cell? ⟨q, 4, none⟩ = some c4 ∧ w.cell? ⟨q, 5, none⟩ = some c5 ∧ w.cell? ⟨q, 6, none⟩ = some c6 ∧ w.cell? ⟨q, 7, none⟩ = some c7 ∧ w.frozen? ⟨q, 0, none⟩ = false :=
  ⟨(h.2 0 _ rfl).1, (h.2 1 _ rfl).1, (h.2 2 _ rfl).1, (h.2 3 _ rfl).1, (h.2 4 _ rfl).1, (h.2 5 _ rfl).1, (h.2 6 _ rfl).1, (h.2 7 _ rfl).1, (h.2 0 _ rfl).2⟩
/-- A message whose sections are copies, in its block. -/
def WasC (w2 : World) (mi mo mr : Int) (b1 b2 b3 b4 b5 : Bool) (_qa : Option Addr) (ql nl sl xl : Nat) (Q : List Ky) (A N X : List R5) (v : Value) (wx : World) : Prop := ∃ (q3 : Nat) (qa3 na3 sa3 xa3 : Option Addr) (qc3 nc3 sc3 xc3 : Nat), v = .pointer (some ⟨q3, 0, none⟩) ∧ w2.heap.size ≤ q3 ∧ CN wx q3 [.int .i64 mi, .int .i64 mo, .int .i64 mr, .bool b1, .bool b2, .bool b3, .bool b4, .bool b5, .slice qa3 ql qc3, .slice na3 nl nc3, .slice sa3 sl sc3, .slice xa3 xl xc3] ∧ wx.ownsRow w2.heap.size 70 3 (.slice qa3 ql qc3) ql (flatQ Q) ∧ wx.ownsRow w2.heap.size 75 5 (.slice na3 nl nc3) nl (flatR A) ∧ wx.ownsRow w2.heap.size 75 5 (.slice sa3 sl sc3) sl (flatR N) ∧ wx.ownsRow w2.heap.size 75 5 (.slice xa3 xl xc3) xl (flatR X) ∧ Below w2.heap.size w2 wx

set_option maxRecDepth 100000 in
set_option maxHeartbeats 32000000 in
theorem walkWrites (va : Value) (ma : MsgP) (most id fl : Int) (w : World) (hma : MsgAt w va ma) (hza : SzM ma) :
    Calls Try.prog 3 #[va, .int .i64 most, .int .i64 id, .int .i64 fl] w fun e w' => e = .returned (.bool true) ∧ Below w.heap.size w w' := by
  have hA := hma
  obtain ⟨mi, mo, mr, b1, b2, b3, b4, b5, qa, na, sa, xa, ql, qc, nl, nc, sl, sc, xl, xc, rfl, ea1, ea2, ea3, ea4, ra1, ra2, ra3, ra4, na1, na2, na3, na4⟩ := hA.open2
  have hbw := (Below.refl w.heap.size w).alloc (Nat.le_refl _) (.cells #[.int .i64 mi, .int .i64 mo, .int .i64 mr, .bool b1, .bool b2, .bool b3, .bool b4, .bool b5, .slice qa ql qc, .slice na nl nc, .slice sa sl sc, .slice xa xl xc] 27)
  have HCA := Lib.hid (CN.new w #[.int .i64 mi, .int .i64 mo, .int .i64 mr, .bool b1, .bool b2, .bool b3, .bool b4, .bool b5, .slice qa ql qc, .slice na nl nc, .slice sa sl sc, .slice xa xl xc] 27)
  have HB := Lib.hid hbw
  have HMA := Lib.hid (hma.below hbw)
  have HZA := Lib.hid hza
  have HRA := Lib.hid (ra2.below hbw)
  have HRN := Lib.hid (ra3.below hbw)
  have HRX := Lib.hid (ra4.below hbw)
  have HRQ := Lib.hid (ra1.below hbw)
  have HNQ := Lib.hid na1
  have HNA := Lib.hid na2
  have HNN := Lib.hid na3
  have HNX := Lib.hid na4
  have HEQ := Lib.hid ea1
  have HEA := Lib.hid ea2
  have HEN := Lib.hid ea3
  have HEX := Lib.hid ea4
  obtain ⟨w1, hw1⟩ : ∃ x, w.alloc (.cells #[.int .i64 mi, .int .i64 mo, .int .i64 mr, .bool b1, .bool b2, .bool b3, .bool b4, .bool b5, .slice qa ql qc, .slice na nl nc, .slice sa sl sc, .slice xa xl xc] 27) = x := ⟨_, rfl⟩
  obtain ⟨q5, hq5⟩ : ∃ x, w.heap.size = x := ⟨_, rfl⟩
  rw [hw1] at HCA HB HMA HRA HRN HRX HRQ
  rw [hq5] at HCA
  have HW1 := Lib.hid hw1
  have HQ5 := Lib.hid hq5
  clear hA hbw hma hza ra1 ra2 ra3 ra4 na1 na2 na3 na4 ea1 ea2 ea3 ea4 hw1 hq5
  go_enter Try.func3, Try.ntmps3
  go_wp2_with fail
  rw [HW1.out, HQ5.out]
  clear HW1 HQ5
  refine (first5 _).mono ?_; rintro e w2 ⟨rfl, hb⟩
  replace HB := Lib.hid (HB.out.trans (hb.mono HB.out.size))
  replace HCA := Lib.hid (HCA.out.below hb)
  replace HMA := Lib.hid (HMA.out.below hb)
  replace HRA := Lib.hid (HRA.out.below hb)
  replace HRN := Lib.hid (HRN.out.below hb)
  replace HRX := Lib.hid (HRX.out.below hb)
  replace HRQ := Lib.hid (HRQ.out.below hb)
  clear hb
  obtain ⟨y0, y1, y2, y3, y4, y5, y6, y7, y8, y9, y10, y11, _⟩ := HCA.out.u12
  go_wp2_with fail
  refine (few5_any _ ma _ HMA.out HZA.out).mono ?_; rintro e w3 ⟨he, hb⟩
  clear y0 y1 y2 y3 y4 y5 y6 y7 y8 y9 y10 y11
  replace HB := Lib.hid (HB.out.trans (hb.mono HB.out.size))
  replace HCA := Lib.hid (HCA.out.below hb)
  replace HMA := Lib.hid (HMA.out.below hb)
  replace HRA := Lib.hid (HRA.out.below hb)
  replace HRN := Lib.hid (HRN.out.below hb)
  replace HRX := Lib.hid (HRX.out.below hb)
  replace HRQ := Lib.hid (HRQ.out.below hb)
  clear hb
  rcases he with rfl | ⟨rfl, hsa⟩
  · go_wp2_with fail
    refine (first5 _).mono ?_; rintro e w4 ⟨rfl, hb⟩
    replace HB := Lib.hid (HB.out.trans (hb.mono HB.out.size))
    replace HCA := Lib.hid (HCA.out.below hb)
    replace HMA := Lib.hid (HMA.out.below hb)
    replace HRA := Lib.hid (HRA.out.below hb)
    replace HRN := Lib.hid (HRN.out.below hb)
    replace HRX := Lib.hid (HRX.out.below hb)
    replace HRQ := Lib.hid (HRQ.out.below hb)
    clear hb
    go_wp2
    go_ret
    exact ⟨rfl, HB.out⟩
  have HSA := Lib.hid hsa
  clear hsa
  have HL4 := Lib.hid (show ql ≤ 310 ∧ nl ≤ 400 ∧ sl ≤ 400 ∧ xl ≤ 400 by have h0 := HSA.out.1.1; have h1 := HSA.out.2.1.1; have h2 := HSA.out.2.2.1.1; have h3 := HSA.out.2.2.2.1; rw [HEQ.out] at h0; rw [HEA.out] at h1; rw [HEN.out] at h2; rw [HEX.out] at h3; exact ⟨h0, h1, h2, h3⟩)
  have HLE := Lib.hid (show ql ≤ 100000 ∧ nl ≤ 30000 ∧ sl ≤ 30000 ∧ xl ≤ 30000 by have := HL4.out; omega)
  have HLM := Lib.hid (show ql ≤ 100000 ∧ nl ≤ 100000 ∧ sl ≤ 100000 ∧ xl ≤ 100000 by have := HL4.out; omega)
  have HZQ := Lib.hid (show ∀ r ∈ ma.q, r.n.size ≤ 1000000 from fun r hr => by have := HSA.out.1.2 r hr; omega)
  have HZ1 := Lib.hid (show SzN ma.a from fun r hr => by have := HSA.out.2.1.2 r hr; unfold SmR at this; omega)
  have HZ2 := Lib.hid (show SzN ma.n from fun r hr => by have := HSA.out.2.2.1.2 r hr; unfold SmR at this; omega)
  have HZ3 := Lib.hid (show SzN ma.x from fun r hr => by have := HSA.out.2.2.2.2 r hr; unfold SmR at this; omega)
  obtain ⟨i0, hi, hz0, hz1, hz2⟩ := info_parts infoQ
  have HI := Lib.hid hi
  have HI0 := Lib.hid hz0
  have HI1 := Lib.hid hz1
  have HI2 := Lib.hid hz2
  clear hi hz0 hz1 hz2
  obtain ⟨y0, y1, y2, y3, y4, y5, y6, y7, y8, y9, y10, y11, _⟩ := HCA.out.u12
  go_wp2_with fail
  refine (plainM_any _ ma _ HMA.out).mono ?_; rintro e w5 ⟨rfl, hb⟩
  clear y0 y1 y2 y3 y4 y5 y6 y7 y8 y9 y10 y11
  replace HB := Lib.hid (HB.out.trans (hb.mono HB.out.size))
  replace HCA := Lib.hid (HCA.out.below hb)
  replace HMA := Lib.hid (HMA.out.below hb)
  replace HRA := Lib.hid (HRA.out.below hb)
  replace HRN := Lib.hid (HRN.out.below hb)
  replace HRX := Lib.hid (HRX.out.below hb)
  replace HRQ := Lib.hid (HRQ.out.below hb)
  clear hb
  have hba := (Below.refl _ _ : Below w5.heap.size w5 w5).alloc (Nat.le_refl _) (.cells #[.int .i64 mi, .int .i64 mo, .int .i64 mr, .bool b1, .bool b2, .bool b3, .bool b4, .bool b5, .slice qa ql qc, .slice na nl nc, .slice sa sl sc, .slice xa xl xc] 32)
  have HP := Lib.hid (CN.new w5 #[.int .i64 mi, .int .i64 mo, .int .i64 mr, .bool b1, .bool b2, .bool b3, .bool b4, .bool b5, .slice qa ql qc, .slice na nl nc, .slice sa sl sc, .slice xa xl xc] 32)
  replace HB := Lib.hid (HB.out.trans (hba.mono HB.out.size))
  replace HCA := Lib.hid (HCA.out.below hba)
  replace HMA := Lib.hid (HMA.out.below hba)
  replace HRA := Lib.hid (HRA.out.below hba)
  replace HRN := Lib.hid (HRN.out.below hba)
  replace HRX := Lib.hid (HRX.out.below hba)
  replace HRQ := Lib.hid (HRQ.out.below hba)
  obtain ⟨w6, hw⟩ : ∃ x, w5.alloc (.cells #[.int .i64 mi, .int .i64 mo, .int .i64 mr, .bool b1, .bool b2, .bool b3, .bool b4, .bool b5, .slice qa ql qc, .slice na nl nc, .slice sa sl sc, .slice xa xl xc] 32) = x := ⟨_, rfl⟩
  obtain ⟨q6, hq⟩ : ∃ x, w5.heap.size = x := ⟨_, rfl⟩
  rw [hw, hq] at HP
  rw [hw] at HB HCA HMA HRA HRN HRX HRQ
  have HW := Lib.hid hw
  have HQ_ := Lib.hid hq
  clear hba hw hq
  go_upto_region 6 with (fail)
  rw [HW.out, HQ_.out]
  clear HW HQ_
  go_cut [10] (fun v wx => WasC w6 mi mo mr b1 b2 b3 b4 b5 qa ql nl sl xl ma.q ma.a ma.n ma.x v wx)
  case first =>
    refine wp_region_held_drew (S := (fun wx => Below w6.heap.size w6 wx)) (by kernel_rfl) ((Below.refl w6.heap.size w6).drew) (fun hHeld => ?_)
    obtain ⟨wd, hwd⟩ : ∃ x, w6.drew = x := ⟨_, rfl⟩
    rw [hwd] at hHeld ⊢
    clear hwd
    refine wpAnyH_take (i := 0) (oi := { dst := some 31, op := Go.Op.fieldAddr 32 (Go.Operand.tmp 9) 0, type := 0, pos := "law.go:47", after := #[], guard := none }) (v := ?v0_200101) rfl (by kernel_rfl) (by kernel_rfl) (by kernel_rfl) (fun _ _ _ h => h) (Or.inl ⟨by rfl, ?y0_200101⟩) hHeld ?r0_200101
    case y0_200101 => intro w hSw; (try dsimp only at hSw); go_simp; try with_reducible rfl
    try simp only [Act.put, List.setIfInBounds_toArray, List.set_cons_zero, List.set_cons_succ]
    refine wpAnyH_take (i := 1) (oi := { dst := some 32, op := Go.Op.load 30 (Go.Operand.tmp 31), type := 30, pos := "law.go:47", after := #[{ on := 0, ground := Go.Ground.data }], guard := none }) (v := ?v1_200101) rfl (by kernel_rfl) (by kernel_rfl) (by kernel_rfl) (fun _ _ _ h => h) (Or.inl ⟨by rfl, ?y1_200101⟩) hHeld ?r1_200101
    case y1_200101 => intro w hSw; (try dsimp only at hSw); obtain ⟨y0, y1, y2, y3, y4, y5, y6, y7, y8, y9, y10, y11, _⟩ := (HP.out.below hSw).u12; go_simp; try with_reducible rfl
    try simp only [Act.put, List.setIfInBounds_toArray, List.set_cons_zero, List.set_cons_succ]
    refine wpAnyH_take (i := 3) (oi := { dst := some 34, op := Go.Op.fieldAddr 27 (Go.Operand.tmp 4) 1, type := 0, pos := "law.go:47", after := #[], guard := none }) (v := ?v3_200101) rfl (by kernel_rfl) (by kernel_rfl) (by kernel_rfl) (fun _ _ _ h => h) (Or.inl ⟨by rfl, ?y3_200101⟩) hHeld ?r3_200101
    case y3_200101 => intro w hSw; (try dsimp only at hSw); go_simp; try with_reducible rfl
    try simp only [Act.put, List.setIfInBounds_toArray, List.set_cons_zero, List.set_cons_succ]
    refine wpAnyH_take (i := 4) (oi := { dst := some 35, op := Go.Op.load 24 (Go.Operand.tmp 34), type := 24, pos := "law.go:47", after := #[{ on := 3, ground := Go.Ground.data }], guard := none }) (v := ?v4_200101) rfl (by kernel_rfl) (by kernel_rfl) (by kernel_rfl) (fun _ _ _ h => h) (Or.inl ⟨by rfl, ?y4_200101⟩) hHeld ?r4_200101
    case y4_200101 => intro w hSw; (try dsimp only at hSw); obtain ⟨y0, y1, y2, y3, y4, y5, y6, y7, y8, y9, y10, y11, _⟩ := (HCA.out.below hSw).u12; go_simp; try with_reducible rfl
    try simp only [Act.put, List.setIfInBounds_toArray, List.set_cons_zero, List.set_cons_succ]
    refine wpAnyH_take (i := 6) (oi := { dst := some 37, op := Go.Op.fieldAddr 27 (Go.Operand.tmp 4) 2, type := 0, pos := "law.go:47", after := #[], guard := none }) (v := ?v6_200101) rfl (by kernel_rfl) (by kernel_rfl) (by kernel_rfl) (fun _ _ _ h => h) (Or.inl ⟨by rfl, ?y6_200101⟩) hHeld ?r6_200101
    case y6_200101 => intro w hSw; (try dsimp only at hSw); go_simp; try with_reducible rfl
    try simp only [Act.put, List.setIfInBounds_toArray, List.set_cons_zero, List.set_cons_succ]
    refine wpAnyH_take (i := 7) (oi := { dst := some 38, op := Go.Op.load 25 (Go.Operand.tmp 37), type := 25, pos := "law.go:47", after := #[{ on := 6, ground := Go.Ground.data }], guard := none }) (v := ?v7_200101) rfl (by kernel_rfl) (by kernel_rfl) (by kernel_rfl) (fun _ _ _ h => h) (Or.inl ⟨by rfl, ?y7_200101⟩) hHeld ?r7_200101
    case y7_200101 => intro w hSw; (try dsimp only at hSw); obtain ⟨y0, y1, y2, y3, y4, y5, y6, y7, y8, y9, y10, y11, _⟩ := (HCA.out.below hSw).u12; go_simp; try with_reducible rfl
    try simp only [Act.put, List.setIfInBounds_toArray, List.set_cons_zero, List.set_cons_succ]
    refine wpAnyH_take (i := 9) (oi := { dst := some 40, op := Go.Op.fieldAddr 27 (Go.Operand.tmp 4) 3, type := 0, pos := "law.go:47", after := #[], guard := none }) (v := ?v9_200101) rfl (by kernel_rfl) (by kernel_rfl) (by kernel_rfl) (fun _ _ _ h => h) (Or.inl ⟨by rfl, ?y9_200101⟩) hHeld ?r9_200101
    case y9_200101 => intro w hSw; (try dsimp only at hSw); go_simp; try with_reducible rfl
    try simp only [Act.put, List.setIfInBounds_toArray, List.set_cons_zero, List.set_cons_succ]
    refine wpAnyH_take (i := 10) (oi := { dst := some 41, op := Go.Op.load 25 (Go.Operand.tmp 40), type := 25, pos := "law.go:47", after := #[{ on := 9, ground := Go.Ground.data }], guard := none }) (v := ?v10_200101) rfl (by kernel_rfl) (by kernel_rfl) (by kernel_rfl) (fun _ _ _ h => h) (Or.inl ⟨by rfl, ?y10_200101⟩) hHeld ?r10_200101
    case y10_200101 => intro w hSw; (try dsimp only at hSw); obtain ⟨y0, y1, y2, y3, y4, y5, y6, y7, y8, y9, y10, y11, _⟩ := (HCA.out.below hSw).u12; go_simp; try with_reducible rfl
    try simp only [Act.put, List.setIfInBounds_toArray, List.set_cons_zero, List.set_cons_succ]
    refine wpAnyH_take (i := 12) (oi := { dst := some 43, op := Go.Op.fieldAddr 27 (Go.Operand.tmp 4) 4, type := 0, pos := "law.go:47", after := #[], guard := none }) (v := ?v12_200101) rfl (by kernel_rfl) (by kernel_rfl) (by kernel_rfl) (fun _ _ _ h => h) (Or.inl ⟨by rfl, ?y12_200101⟩) hHeld ?r12_200101
    case y12_200101 => intro w hSw; (try dsimp only at hSw); go_simp; try with_reducible rfl
    try simp only [Act.put, List.setIfInBounds_toArray, List.set_cons_zero, List.set_cons_succ]
    refine wpAnyH_take (i := 13) (oi := { dst := some 44, op := Go.Op.load 25 (Go.Operand.tmp 43), type := 25, pos := "law.go:47", after := #[{ on := 12, ground := Go.Ground.data }], guard := none }) (v := ?v13_200101) rfl (by kernel_rfl) (by kernel_rfl) (by kernel_rfl) (fun _ _ _ h => h) (Or.inl ⟨by rfl, ?y13_200101⟩) hHeld ?r13_200101
    case y13_200101 => intro w hSw; (try dsimp only at hSw); obtain ⟨y0, y1, y2, y3, y4, y5, y6, y7, y8, y9, y10, y11, _⟩ := (HCA.out.below hSw).u12; go_simp; try with_reducible rfl
    try simp only [Act.put, List.setIfInBounds_toArray, List.set_cons_zero, List.set_cons_succ]
    refine wpAnyH_ready (rs := [2, 16]) (by kernel_rfl) (by simp) ?_
    refine AllReadyH.cons (o := { dst := some 33, op := Go.Op.buildSlice 24 0 #[], type := 24, pos := "law.go:47", after := #[], guard := none }) rfl (fun K hK => ?_) (AllReadyH.cons (o := { dst := some 10, op := Go.Op.alloc 32, type := 0, pos := "law.go:47", after := #[], guard := none }) rfl (fun K hK => ?_) AllReadyH.nil)
    · go_simp
      have hba := (Below.refl _ _ : Below wd.heap.size wd wd).alloc (Nat.le_refl _) (.cells #[] 70)
      have H0 := Lib.hid (own_mono4 (World.ownsRow_made (e := 70) (size := 3) wd #[] 0 (Nat.le_refl _) (by decide) rfl) (show w6.heap.size ≤ wd.heap.size from hHeld.size))
      have hsz : w6.heap.size ≤ wd.heap.size := hHeld.size
      obtain ⟨wa1, hwe⟩ : ∃ x, wd.alloc (.cells #[] 70) = x := ⟨_, rfl⟩
      rw [hwe] at hba H0 ⊢
      have hb := hba
      clear hba hwe
      obtain ⟨g0, hg0⟩ : ∃ x, wd.heap.size = x := ⟨_, rfl⟩
      rw [hg0] at H0 ⊢
      have HG0 := Lib.hid hg0
      clear hsz hg0
      refine hK.out _ _ (hHeld.trans (Below.mono hb hHeld.size)) (fun hHeld2 => ?_)
      clear hK K hHeld
      have hHeld := hHeld2
      clear hHeld2
      try simp only [Act.put, List.setIfInBounds_toArray, List.set_cons_zero, List.set_cons_succ]
      refine wpAnyH_ready (rs := [5, 16]) (by kernel_rfl) (by simp) ?_
      refine AllReadyH.cons (o := { dst := some 36, op := Go.Op.call { callee := Go.Callee.builtin Go.Builtin.append, args := #[Go.Operand.tmp 33, Go.Operand.tmp 35], argTypes := #[24, 24] }, type := 24, pos := "law.go:47", after := #[{ on := 2, ground := Go.Ground.data }, { on := 4, ground := Go.Ground.data }], guard := none }) rfl (fun K hK => ?_) (AllReadyH.cons (o := { dst := some 10, op := Go.Op.alloc 32, type := 0, pos := "law.go:47", after := #[], guard := none }) rfl (fun K hK => ?_) AllReadyH.nil)
      · refine step_append_cellsK (by rfl) _ _ 24 70 (by rfl) i0 _ 3 32 Try.underlying24 HI.out HI0.out HI1.out HI2.out rfl (by decide) w6.heap.size _ 0 _ (by rfl) H0.out qa ql qc (flatQ ma.q) (by rfl) HNQ.out (HRQ.out.below hHeld).2 (flatQ_one ma.q) (by have := HL4.out; omega) (by decide) hHeld.size ?_
        intro v5 wa2 hown hgrow
        rw [Nat.zero_add, List.nil_append] at hown
        obtain ⟨qa3, qc3, rfl, -⟩ := rowQ_own hown
        have GQ := Lib.hid hown
        have hrow : ∀ k, (Value.slice (some ⟨g0, 0, none⟩) 0 0).ownBlock = some k → w6.heap.size ≤ k := fun k hk => (H0.out.lt k hk).1
        clear hown H0
        refine hK.out _ _ (hHeld.grown hgrow hHeld.size hrow) (fun hHeld2 => ?_)
        clear hK K hHeld
        have hHeld := hHeld2
        clear hHeld2
        try simp only [Act.put, List.setIfInBounds_toArray, List.set_cons_zero, List.set_cons_succ]
        refine wpAnyH_ready (rs := [8, 16]) (by kernel_rfl) (by simp) ?_
        refine AllReadyH.cons (o := { dst := some 39, op := Go.Op.call { callee := Go.Callee.value (Go.Operand.func 16), args := #[Go.Operand.tmp 38], argTypes := #[25] }, type := 25, pos := "law.go:47", after := #[{ on := 7, ground := Go.Ground.data }, { on := 5, ground := Go.Ground.chain }], guard := none }) rfl (fun K hK => ?_) (AllReadyH.cons (o := { dst := some 10, op := Go.Op.alloc 32, type := 0, pos := "law.go:47", after := #[], guard := none }) rfl (fun K hK => ?_) AllReadyH.nil)
        · go_simp
          refine (copyRR5 na nl nc ma.a _ (HRA.out.below hHeld) HNA.out HLM.out.2.1).mono ?_; rintro e wa3 ⟨v, rfl, ho, hb⟩
          obtain ⟨na3, nc3, rfl, -⟩ := rowR_own ho
          replace GQ := Lib.hid (own_below' GQ.out hb)
          have GA := Lib.hid (own_mono4 ho (show w6.heap.size ≤ wa2.heap.size from hHeld.size))
          clear ho
          go_wp2_with fail
          refine hK.out _ _ (hHeld.trans (Below.mono hb hHeld.size)) (fun hHeld2 => ?_)
          clear hK K hHeld
          have hHeld := hHeld2
          clear hHeld2
          try simp only [Act.put, List.setIfInBounds_toArray, List.set_cons_zero, List.set_cons_succ]
          refine wpAnyH_ready (rs := [11, 16]) (by kernel_rfl) (by simp) ?_
          refine AllReadyH.cons (o := { dst := some 42, op := Go.Op.call { callee := Go.Callee.value (Go.Operand.func 16), args := #[Go.Operand.tmp 41], argTypes := #[25] }, type := 25, pos := "law.go:47", after := #[{ on := 10, ground := Go.Ground.data }, { on := 8, ground := Go.Ground.chain }], guard := none }) rfl (fun K hK => ?_) (AllReadyH.cons (o := { dst := some 10, op := Go.Op.alloc 32, type := 0, pos := "law.go:47", after := #[], guard := none }) rfl (fun K hK => ?_) AllReadyH.nil)
          · go_simp
            refine (copyRR5 sa sl sc ma.n _ (HRN.out.below hHeld) HNN.out HLM.out.2.2.1).mono ?_; rintro e wa4 ⟨v, rfl, ho, hb⟩
            obtain ⟨sa3, sc3, rfl, -⟩ := rowR_own ho
            replace GQ := Lib.hid (own_below' GQ.out hb)
            replace GA := Lib.hid (own_below' GA.out hb)
            have GN := Lib.hid (own_mono4 ho (show w6.heap.size ≤ wa3.heap.size from hHeld.size))
            clear ho
            go_wp2_with fail
            refine hK.out _ _ (hHeld.trans (Below.mono hb hHeld.size)) (fun hHeld2 => ?_)
            clear hK K hHeld
            have hHeld := hHeld2
            clear hHeld2
            try simp only [Act.put, List.setIfInBounds_toArray, List.set_cons_zero, List.set_cons_succ]
            refine wpAnyH_ready (rs := [14, 16]) (by kernel_rfl) (by simp) ?_
            refine AllReadyH.cons (o := { dst := some 45, op := Go.Op.call { callee := Go.Callee.value (Go.Operand.func 16), args := #[Go.Operand.tmp 44], argTypes := #[25] }, type := 25, pos := "law.go:47", after := #[{ on := 13, ground := Go.Ground.data }, { on := 11, ground := Go.Ground.chain }], guard := none }) rfl (fun K hK => ?_) (AllReadyH.cons (o := { dst := some 10, op := Go.Op.alloc 32, type := 0, pos := "law.go:47", after := #[], guard := none }) rfl (fun K hK => ?_) AllReadyH.nil)
            · go_simp
              refine (copyRR5 xa xl xc ma.x _ (HRX.out.below hHeld) HNX.out HLM.out.2.2.2).mono ?_; rintro e wa5 ⟨v, rfl, ho, hb⟩
              obtain ⟨xa3, xc3, rfl, -⟩ := rowR_own ho
              replace GQ := Lib.hid (own_below' GQ.out hb)
              replace GA := Lib.hid (own_below' GA.out hb)
              replace GN := Lib.hid (own_below' GN.out hb)
              have GX := Lib.hid (own_mono4 ho (show w6.heap.size ≤ wa4.heap.size from hHeld.size))
              clear ho
              go_wp2_with fail
              refine hK.out _ _ (hHeld.trans (Below.mono hb hHeld.size)) (fun hHeld2 => ?_)
              clear hK K hHeld
              have hHeld := hHeld2
              clear hHeld2
              try simp only [Act.put, List.setIfInBounds_toArray, List.set_cons_zero, List.set_cons_succ]
              refine wpAnyH_take (i := 15) (oi := { dst := some 46, op := Go.Op.build 32 #[(0, Go.Operand.tmp 32), (1, Go.Operand.tmp 36), (2, Go.Operand.tmp 39), (3, Go.Operand.tmp 42), (4, Go.Operand.tmp 45)], type := 32, pos := "law.go:47", after := #[{ on := 1, ground := Go.Ground.data }, { on := 5, ground := Go.Ground.data }, { on := 8, ground := Go.Ground.data }, { on := 11, ground := Go.Ground.data }, { on := 14, ground := Go.Ground.data }], guard := none }) (v := ?v15_200106) rfl (by kernel_rfl) (by kernel_rfl) (by kernel_rfl) (fun _ _ _ h => h) (Or.inl ⟨by rfl, ?y15_200106⟩) hHeld ?r15_200106
              case y15_200106 => intro w hSw; (try dsimp only at hSw); go_simp; try with_reducible rfl
              try simp only [Act.put, List.setIfInBounds_toArray, List.set_cons_zero, List.set_cons_succ]
              refine wpAnyH_ready (rs := [16]) (by kernel_rfl) (by simp) ?_
              refine AllReadyH.cons (o := { dst := some 10, op := Go.Op.alloc 32, type := 0, pos := "law.go:47", after := #[], guard := none }) rfl (fun K hK => ?_) AllReadyH.nil
              go_simp
              have hba := (Below.refl _ _ : Below wa5.heap.size wa5 wa5).alloc (Nat.le_refl _) (.cells #[.int .i64 0, .int .i64 0, .int .i64 0, .bool false, .bool false, .bool false, .bool false, .bool false, .slice none 0 0, .slice none 0 0, .slice none 0 0, .slice none 0 0] 32)
              replace GQ := Lib.hid (own_below' GQ.out hba)
              replace GA := Lib.hid (own_below' GA.out hba)
              replace GN := Lib.hid (own_below' GN.out hba)
              replace GX := Lib.hid (own_below' GX.out hba)
              have GC := Lib.hid (CN.new wa5 #[.int .i64 0, .int .i64 0, .int .i64 0, .bool false, .bool false, .bool false, .bool false, .bool false, .slice none 0 0, .slice none 0 0, .slice none 0 0, .slice none 0 0] 32)
              have GT := Lib.hid (TB.new wa5 #[.int .i64 0, .int .i64 0, .int .i64 0, .bool false, .bool false, .bool false, .bool false, .bool false, .slice none 0 0, .slice none 0 0, .slice none 0 0, .slice none 0 0] 32)
              have hsz : w6.heap.size ≤ wa5.heap.size := hHeld.size
              obtain ⟨wa6, hwe⟩ : ∃ x, wa5.alloc (.cells #[.int .i64 0, .int .i64 0, .int .i64 0, .bool false, .bool false, .bool false, .bool false, .bool false, .slice none 0 0, .slice none 0 0, .slice none 0 0, .slice none 0 0] 32) = x := ⟨_, rfl⟩
              rw [hwe] at hba GQ GA GN GX GC GT ⊢
              have hb := hba
              clear hba hwe
              obtain ⟨q3, hq3⟩ : ∃ x, wa5.heap.size = x := ⟨_, rfl⟩
              have HQ3 := Lib.hid (show w6.heap.size ≤ q3 by rw [← hq3]; exact hsz)
              rw [hq3] at GC GT ⊢
              clear hsz hq3
              refine hK.out _ _ (hHeld.trans (Below.mono hb hHeld.size)) (fun hHeld2 => ?_)
              clear hK K hHeld
              have hHeld := hHeld2
              clear hHeld2
              try simp only [Act.put, List.setIfInBounds_toArray, List.set_cons_zero, List.set_cons_succ]
              refine wpAnyH_ready (rs := [17]) (by kernel_rfl) (by simp) ?_
              refine AllReadyH.cons (o := { dst := none, op := Go.Op.store 32 (Go.Operand.tmp 10) (Go.Operand.tmp 46), type := 0, pos := "law.go:47", after := #[{ on := 16, ground := Go.Ground.data }, { on := 15, ground := Go.Ground.data }, { on := 14, ground := Go.Ground.chain }, { on := 0, ground := Go.Ground.phase }, { on := 1, ground := Go.Ground.phase }, { on := 2, ground := Go.Ground.phase }, { on := 3, ground := Go.Ground.phase }, { on := 4, ground := Go.Ground.phase }, { on := 5, ground := Go.Ground.phase }, { on := 6, ground := Go.Ground.phase }, { on := 7, ground := Go.Ground.phase }, { on := 8, ground := Go.Ground.phase }, { on := 9, ground := Go.Ground.phase }, { on := 10, ground := Go.Ground.phase }, { on := 11, ground := Go.Ground.phase }, { on := 12, ground := Go.Ground.phase }, { on := 13, ground := Go.Ground.phase }, { on := 14, ground := Go.Ground.phase }, { on := 15, ground := Go.Ground.phase }, { on := 16, ground := Go.Ground.phase }], guard := none }) rfl (fun K hK => ?_) AllReadyH.nil
              obtain ⟨r0, r1, r2, r3, r4, r5, r6, r7, r8, r9, r10, r11, g0_, g1_, g2_, g3_, g4_, g5_, g6_, g7_, g8_, g9_, g10_, g11_⟩ := GC.out.u12
              go_simp
              have HGS := Lib.hid (grown_s12 wa6 q3 (.int .i64 mi) (.int .i64 mo) (.int .i64 mr) (.bool b1) (.bool b2) (.bool b3) (.bool b4) (.bool b5) (.slice qa3 ql qc3) (.slice na3 nl nc3) (.slice sa3 sl sc3) (.slice xa3 xl xc3))
              have HCZ := Lib.hid (GC.out.s12 (.int .i64 mi) (.int .i64 mo) (.int .i64 mr) (.bool b1) (.bool b2) (.bool b3) (.bool b4) (.bool b5) (.slice qa3 ql qc3) (.slice na3 nl nc3) (.slice sa3 sl sc3) (.slice xa3 xl xc3))
              have GQZ := Lib.hid (own_keeps GQ.out GT.out (by decide) HGS.out)
              have GAZ := Lib.hid (own_keeps GA.out GT.out (by decide) HGS.out)
              have GNZ := Lib.hid (own_keeps GN.out GT.out (by decide) HGS.out)
              have GXZ := Lib.hid (own_keeps GX.out GT.out (by decide) HGS.out)
              clear r0 r1 r2 r3 r4 r5 r6 r7 r8 r9 r10 r11 g0_ g1_ g2_ g3_ g4_ g5_ g6_ g7_ g8_ g9_ g10_ g11_
              refine hK.out _ _ (hHeld.grown HGS.out hHeld.size (fun k hk => by injection hk with hk; have := HQ3.out; omega)) (fun hHeld2 => ?_)
              clear hK K hHeld
              have hHeld := hHeld2
              clear hHeld2
              try simp only [Act.put, List.setIfInBounds_toArray, List.set_cons_zero, List.set_cons_succ]
              refine wpAnyH_done (by kernel_rfl) ?_ _
              go_wp2
              go_meet
              exact ⟨q3, qa3, na3, sa3, xa3, qc3, nc3, sc3, xc3, rfl, HQ3.out, HCZ.out, GQZ.out, GAZ.out, GNZ.out, GXZ.out, hHeld⟩
            · go_simp
              have hba := (Below.refl _ _ : Below wa4.heap.size wa4 wa4).alloc (Nat.le_refl _) (.cells #[.int .i64 0, .int .i64 0, .int .i64 0, .bool false, .bool false, .bool false, .bool false, .bool false, .slice none 0 0, .slice none 0 0, .slice none 0 0, .slice none 0 0] 32)
              replace GQ := Lib.hid (own_below' GQ.out hba)
              replace GA := Lib.hid (own_below' GA.out hba)
              replace GN := Lib.hid (own_below' GN.out hba)
              have GC := Lib.hid (CN.new wa4 #[.int .i64 0, .int .i64 0, .int .i64 0, .bool false, .bool false, .bool false, .bool false, .bool false, .slice none 0 0, .slice none 0 0, .slice none 0 0, .slice none 0 0] 32)
              have GT := Lib.hid (TB.new wa4 #[.int .i64 0, .int .i64 0, .int .i64 0, .bool false, .bool false, .bool false, .bool false, .bool false, .slice none 0 0, .slice none 0 0, .slice none 0 0, .slice none 0 0] 32)
              have hsz : w6.heap.size ≤ wa4.heap.size := hHeld.size
              obtain ⟨wa5, hwe⟩ : ∃ x, wa4.alloc (.cells #[.int .i64 0, .int .i64 0, .int .i64 0, .bool false, .bool false, .bool false, .bool false, .bool false, .slice none 0 0, .slice none 0 0, .slice none 0 0, .slice none 0 0] 32) = x := ⟨_, rfl⟩
              rw [hwe] at hba GQ GA GN GC GT ⊢
              have hb := hba
              clear hba hwe
              obtain ⟨q3, hq3⟩ : ∃ x, wa4.heap.size = x := ⟨_, rfl⟩
              have HQ3 := Lib.hid (show w6.heap.size ≤ q3 by rw [← hq3]; exact hsz)
              rw [hq3] at GC GT ⊢
              clear hsz hq3
              refine hK.out _ _ (hHeld.trans (Below.mono hb hHeld.size)) (fun hHeld2 => ?_)
              clear hK K hHeld
              have hHeld := hHeld2
              clear hHeld2
              try simp only [Act.put, List.setIfInBounds_toArray, List.set_cons_zero, List.set_cons_succ]
              refine wpAnyH_ready (rs := [14]) (by kernel_rfl) (by simp) ?_
              refine AllReadyH.cons (o := { dst := some 45, op := Go.Op.call { callee := Go.Callee.value (Go.Operand.func 16), args := #[Go.Operand.tmp 44], argTypes := #[25] }, type := 25, pos := "law.go:47", after := #[{ on := 13, ground := Go.Ground.data }, { on := 11, ground := Go.Ground.chain }], guard := none }) rfl (fun K hK => ?_) AllReadyH.nil
              go_simp
              refine (copyRR5 xa xl xc ma.x _ (HRX.out.below hHeld) HNX.out HLM.out.2.2.2).mono ?_; rintro e wa6 ⟨v, rfl, ho, hb⟩
              obtain ⟨xa3, xc3, rfl, -⟩ := rowR_own ho
              replace GQ := Lib.hid (own_below' GQ.out hb)
              replace GA := Lib.hid (own_below' GA.out hb)
              replace GN := Lib.hid (own_below' GN.out hb)
              replace GC := Lib.hid (GC.out.below hb)
              replace GT := Lib.hid (GT.out.below hb)
              have GX := Lib.hid (own_mono4 ho (show w6.heap.size ≤ wa5.heap.size from hHeld.size))
              clear ho
              go_wp2_with fail
              refine hK.out _ _ (hHeld.trans (Below.mono hb hHeld.size)) (fun hHeld2 => ?_)
              clear hK K hHeld
              have hHeld := hHeld2
              clear hHeld2
              try simp only [Act.put, List.setIfInBounds_toArray, List.set_cons_zero, List.set_cons_succ]
              refine wpAnyH_take (i := 15) (oi := { dst := some 46, op := Go.Op.build 32 #[(0, Go.Operand.tmp 32), (1, Go.Operand.tmp 36), (2, Go.Operand.tmp 39), (3, Go.Operand.tmp 42), (4, Go.Operand.tmp 45)], type := 32, pos := "law.go:47", after := #[{ on := 1, ground := Go.Ground.data }, { on := 5, ground := Go.Ground.data }, { on := 8, ground := Go.Ground.data }, { on := 11, ground := Go.Ground.data }, { on := 14, ground := Go.Ground.data }], guard := none }) (v := ?v15_200110) rfl (by kernel_rfl) (by kernel_rfl) (by kernel_rfl) (fun _ _ _ h => h) (Or.inl ⟨by rfl, ?y15_200110⟩) hHeld ?r15_200110
              case y15_200110 => intro w hSw; (try dsimp only at hSw); go_simp; try with_reducible rfl
              try simp only [Act.put, List.setIfInBounds_toArray, List.set_cons_zero, List.set_cons_succ]
              refine wpAnyH_ready (rs := [17]) (by kernel_rfl) (by simp) ?_
              refine AllReadyH.cons (o := { dst := none, op := Go.Op.store 32 (Go.Operand.tmp 10) (Go.Operand.tmp 46), type := 0, pos := "law.go:47", after := #[{ on := 16, ground := Go.Ground.data }, { on := 15, ground := Go.Ground.data }, { on := 14, ground := Go.Ground.chain }, { on := 0, ground := Go.Ground.phase }, { on := 1, ground := Go.Ground.phase }, { on := 2, ground := Go.Ground.phase }, { on := 3, ground := Go.Ground.phase }, { on := 4, ground := Go.Ground.phase }, { on := 5, ground := Go.Ground.phase }, { on := 6, ground := Go.Ground.phase }, { on := 7, ground := Go.Ground.phase }, { on := 8, ground := Go.Ground.phase }, { on := 9, ground := Go.Ground.phase }, { on := 10, ground := Go.Ground.phase }, { on := 11, ground := Go.Ground.phase }, { on := 12, ground := Go.Ground.phase }, { on := 13, ground := Go.Ground.phase }, { on := 14, ground := Go.Ground.phase }, { on := 15, ground := Go.Ground.phase }, { on := 16, ground := Go.Ground.phase }], guard := none }) rfl (fun K hK => ?_) AllReadyH.nil
              obtain ⟨r0, r1, r2, r3, r4, r5, r6, r7, r8, r9, r10, r11, g0_, g1_, g2_, g3_, g4_, g5_, g6_, g7_, g8_, g9_, g10_, g11_⟩ := GC.out.u12
              go_simp
              have HGS := Lib.hid (grown_s12 wa6 q3 (.int .i64 mi) (.int .i64 mo) (.int .i64 mr) (.bool b1) (.bool b2) (.bool b3) (.bool b4) (.bool b5) (.slice qa3 ql qc3) (.slice na3 nl nc3) (.slice sa3 sl sc3) (.slice xa3 xl xc3))
              have HCZ := Lib.hid (GC.out.s12 (.int .i64 mi) (.int .i64 mo) (.int .i64 mr) (.bool b1) (.bool b2) (.bool b3) (.bool b4) (.bool b5) (.slice qa3 ql qc3) (.slice na3 nl nc3) (.slice sa3 sl sc3) (.slice xa3 xl xc3))
              have GQZ := Lib.hid (own_keeps GQ.out GT.out (by decide) HGS.out)
              have GAZ := Lib.hid (own_keeps GA.out GT.out (by decide) HGS.out)
              have GNZ := Lib.hid (own_keeps GN.out GT.out (by decide) HGS.out)
              have GXZ := Lib.hid (own_keeps GX.out GT.out (by decide) HGS.out)
              clear r0 r1 r2 r3 r4 r5 r6 r7 r8 r9 r10 r11 g0_ g1_ g2_ g3_ g4_ g5_ g6_ g7_ g8_ g9_ g10_ g11_
              refine hK.out _ _ (hHeld.grown HGS.out hHeld.size (fun k hk => by injection hk with hk; have := HQ3.out; omega)) (fun hHeld2 => ?_)
              clear hK K hHeld
              have hHeld := hHeld2
              clear hHeld2
              try simp only [Act.put, List.setIfInBounds_toArray, List.set_cons_zero, List.set_cons_succ]
              refine wpAnyH_done (by kernel_rfl) ?_ _
              go_wp2
              go_meet
              exact ⟨q3, qa3, na3, sa3, xa3, qc3, nc3, sc3, xc3, rfl, HQ3.out, HCZ.out, GQZ.out, GAZ.out, GNZ.out, GXZ.out, hHeld⟩
          · go_simp
            have hba := (Below.refl _ _ : Below wa3.heap.size wa3 wa3).alloc (Nat.le_refl _) (.cells #[.int .i64 0, .int .i64 0, .int .i64 0, .bool false, .bool false, .bool false, .bool false, .bool false, .slice none 0 0, .slice none 0 0, .slice none 0 0, .slice none 0 0] 32)
            replace GQ := Lib.hid (own_below' GQ.out hba)
            replace GA := Lib.hid (own_below' GA.out hba)
            have GC := Lib.hid (CN.new wa3 #[.int .i64 0, .int .i64 0, .int .i64 0, .bool false, .bool false, .bool false, .bool false, .bool false, .slice none 0 0, .slice none 0 0, .slice none 0 0, .slice none 0 0] 32)
            have GT := Lib.hid (TB.new wa3 #[.int .i64 0, .int .i64 0, .int .i64 0, .bool false, .bool false, .bool false, .bool false, .bool false, .slice none 0 0, .slice none 0 0, .slice none 0 0, .slice none 0 0] 32)
            have hsz : w6.heap.size ≤ wa3.heap.size := hHeld.size
            obtain ⟨wa4, hwe⟩ : ∃ x, wa3.alloc (.cells #[.int .i64 0, .int .i64 0, .int .i64 0, .bool false, .bool false, .bool false, .bool false, .bool false, .slice none 0 0, .slice none 0 0, .slice none 0 0, .slice none 0 0] 32) = x := ⟨_, rfl⟩
            rw [hwe] at hba GQ GA GC GT ⊢
            have hb := hba
            clear hba hwe
            obtain ⟨q3, hq3⟩ : ∃ x, wa3.heap.size = x := ⟨_, rfl⟩
            have HQ3 := Lib.hid (show w6.heap.size ≤ q3 by rw [← hq3]; exact hsz)
            rw [hq3] at GC GT ⊢
            clear hsz hq3
            refine hK.out _ _ (hHeld.trans (Below.mono hb hHeld.size)) (fun hHeld2 => ?_)
            clear hK K hHeld
            have hHeld := hHeld2
            clear hHeld2
            try simp only [Act.put, List.setIfInBounds_toArray, List.set_cons_zero, List.set_cons_succ]
            refine wpAnyH_ready (rs := [11]) (by kernel_rfl) (by simp) ?_
            refine AllReadyH.cons (o := { dst := some 42, op := Go.Op.call { callee := Go.Callee.value (Go.Operand.func 16), args := #[Go.Operand.tmp 41], argTypes := #[25] }, type := 25, pos := "law.go:47", after := #[{ on := 10, ground := Go.Ground.data }, { on := 8, ground := Go.Ground.chain }], guard := none }) rfl (fun K hK => ?_) AllReadyH.nil
            go_simp
            refine (copyRR5 sa sl sc ma.n _ (HRN.out.below hHeld) HNN.out HLM.out.2.2.1).mono ?_; rintro e wa5 ⟨v, rfl, ho, hb⟩
            obtain ⟨sa3, sc3, rfl, -⟩ := rowR_own ho
            replace GQ := Lib.hid (own_below' GQ.out hb)
            replace GA := Lib.hid (own_below' GA.out hb)
            replace GC := Lib.hid (GC.out.below hb)
            replace GT := Lib.hid (GT.out.below hb)
            have GN := Lib.hid (own_mono4 ho (show w6.heap.size ≤ wa4.heap.size from hHeld.size))
            clear ho
            go_wp2_with fail
            refine hK.out _ _ (hHeld.trans (Below.mono hb hHeld.size)) (fun hHeld2 => ?_)
            clear hK K hHeld
            have hHeld := hHeld2
            clear hHeld2
            try simp only [Act.put, List.setIfInBounds_toArray, List.set_cons_zero, List.set_cons_succ]
            refine wpAnyH_ready (rs := [14]) (by kernel_rfl) (by simp) ?_
            refine AllReadyH.cons (o := { dst := some 45, op := Go.Op.call { callee := Go.Callee.value (Go.Operand.func 16), args := #[Go.Operand.tmp 44], argTypes := #[25] }, type := 25, pos := "law.go:47", after := #[{ on := 13, ground := Go.Ground.data }, { on := 11, ground := Go.Ground.chain }], guard := none }) rfl (fun K hK => ?_) AllReadyH.nil
            go_simp
            refine (copyRR5 xa xl xc ma.x _ (HRX.out.below hHeld) HNX.out HLM.out.2.2.2).mono ?_; rintro e wa6 ⟨v, rfl, ho, hb⟩
            obtain ⟨xa3, xc3, rfl, -⟩ := rowR_own ho
            replace GQ := Lib.hid (own_below' GQ.out hb)
            replace GA := Lib.hid (own_below' GA.out hb)
            replace GN := Lib.hid (own_below' GN.out hb)
            replace GC := Lib.hid (GC.out.below hb)
            replace GT := Lib.hid (GT.out.below hb)
            have GX := Lib.hid (own_mono4 ho (show w6.heap.size ≤ wa5.heap.size from hHeld.size))
            clear ho
            go_wp2_with fail
            refine hK.out _ _ (hHeld.trans (Below.mono hb hHeld.size)) (fun hHeld2 => ?_)
            clear hK K hHeld
            have hHeld := hHeld2
            clear hHeld2
            try simp only [Act.put, List.setIfInBounds_toArray, List.set_cons_zero, List.set_cons_succ]
            refine wpAnyH_take (i := 15) (oi := { dst := some 46, op := Go.Op.build 32 #[(0, Go.Operand.tmp 32), (1, Go.Operand.tmp 36), (2, Go.Operand.tmp 39), (3, Go.Operand.tmp 42), (4, Go.Operand.tmp 45)], type := 32, pos := "law.go:47", after := #[{ on := 1, ground := Go.Ground.data }, { on := 5, ground := Go.Ground.data }, { on := 8, ground := Go.Ground.data }, { on := 11, ground := Go.Ground.data }, { on := 14, ground := Go.Ground.data }], guard := none }) (v := ?v15_200114) rfl (by kernel_rfl) (by kernel_rfl) (by kernel_rfl) (fun _ _ _ h => h) (Or.inl ⟨by rfl, ?y15_200114⟩) hHeld ?r15_200114
            case y15_200114 => intro w hSw; (try dsimp only at hSw); go_simp; try with_reducible rfl
            try simp only [Act.put, List.setIfInBounds_toArray, List.set_cons_zero, List.set_cons_succ]
            refine wpAnyH_ready (rs := [17]) (by kernel_rfl) (by simp) ?_
            refine AllReadyH.cons (o := { dst := none, op := Go.Op.store 32 (Go.Operand.tmp 10) (Go.Operand.tmp 46), type := 0, pos := "law.go:47", after := #[{ on := 16, ground := Go.Ground.data }, { on := 15, ground := Go.Ground.data }, { on := 14, ground := Go.Ground.chain }, { on := 0, ground := Go.Ground.phase }, { on := 1, ground := Go.Ground.phase }, { on := 2, ground := Go.Ground.phase }, { on := 3, ground := Go.Ground.phase }, { on := 4, ground := Go.Ground.phase }, { on := 5, ground := Go.Ground.phase }, { on := 6, ground := Go.Ground.phase }, { on := 7, ground := Go.Ground.phase }, { on := 8, ground := Go.Ground.phase }, { on := 9, ground := Go.Ground.phase }, { on := 10, ground := Go.Ground.phase }, { on := 11, ground := Go.Ground.phase }, { on := 12, ground := Go.Ground.phase }, { on := 13, ground := Go.Ground.phase }, { on := 14, ground := Go.Ground.phase }, { on := 15, ground := Go.Ground.phase }, { on := 16, ground := Go.Ground.phase }], guard := none }) rfl (fun K hK => ?_) AllReadyH.nil
            obtain ⟨r0, r1, r2, r3, r4, r5, r6, r7, r8, r9, r10, r11, g0_, g1_, g2_, g3_, g4_, g5_, g6_, g7_, g8_, g9_, g10_, g11_⟩ := GC.out.u12
            go_simp
            have HGS := Lib.hid (grown_s12 wa6 q3 (.int .i64 mi) (.int .i64 mo) (.int .i64 mr) (.bool b1) (.bool b2) (.bool b3) (.bool b4) (.bool b5) (.slice qa3 ql qc3) (.slice na3 nl nc3) (.slice sa3 sl sc3) (.slice xa3 xl xc3))
            have HCZ := Lib.hid (GC.out.s12 (.int .i64 mi) (.int .i64 mo) (.int .i64 mr) (.bool b1) (.bool b2) (.bool b3) (.bool b4) (.bool b5) (.slice qa3 ql qc3) (.slice na3 nl nc3) (.slice sa3 sl sc3) (.slice xa3 xl xc3))
            have GQZ := Lib.hid (own_keeps GQ.out GT.out (by decide) HGS.out)
            have GAZ := Lib.hid (own_keeps GA.out GT.out (by decide) HGS.out)
            have GNZ := Lib.hid (own_keeps GN.out GT.out (by decide) HGS.out)
            have GXZ := Lib.hid (own_keeps GX.out GT.out (by decide) HGS.out)
            clear r0 r1 r2 r3 r4 r5 r6 r7 r8 r9 r10 r11 g0_ g1_ g2_ g3_ g4_ g5_ g6_ g7_ g8_ g9_ g10_ g11_
            refine hK.out _ _ (hHeld.grown HGS.out hHeld.size (fun k hk => by injection hk with hk; have := HQ3.out; omega)) (fun hHeld2 => ?_)
            clear hK K hHeld
            have hHeld := hHeld2
            clear hHeld2
            try simp only [Act.put, List.setIfInBounds_toArray, List.set_cons_zero, List.set_cons_succ]
            refine wpAnyH_done (by kernel_rfl) ?_ _
            go_wp2
            go_meet
            exact ⟨q3, qa3, na3, sa3, xa3, qc3, nc3, sc3, xc3, rfl, HQ3.out, HCZ.out, GQZ.out, GAZ.out, GNZ.out, GXZ.out, hHeld⟩
        · go_simp
          have hba := (Below.refl _ _ : Below wa2.heap.size wa2 wa2).alloc (Nat.le_refl _) (.cells #[.int .i64 0, .int .i64 0, .int .i64 0, .bool false, .bool false, .bool false, .bool false, .bool false, .slice none 0 0, .slice none 0 0, .slice none 0 0, .slice none 0 0] 32)
          replace GQ := Lib.hid (own_below' GQ.out hba)
          have GC := Lib.hid (CN.new wa2 #[.int .i64 0, .int .i64 0, .int .i64 0, .bool false, .bool false, .bool false, .bool false, .bool false, .slice none 0 0, .slice none 0 0, .slice none 0 0, .slice none 0 0] 32)
          have GT := Lib.hid (TB.new wa2 #[.int .i64 0, .int .i64 0, .int .i64 0, .bool false, .bool false, .bool false, .bool false, .bool false, .slice none 0 0, .slice none 0 0, .slice none 0 0, .slice none 0 0] 32)
          have hsz : w6.heap.size ≤ wa2.heap.size := hHeld.size
          obtain ⟨wa3, hwe⟩ : ∃ x, wa2.alloc (.cells #[.int .i64 0, .int .i64 0, .int .i64 0, .bool false, .bool false, .bool false, .bool false, .bool false, .slice none 0 0, .slice none 0 0, .slice none 0 0, .slice none 0 0] 32) = x := ⟨_, rfl⟩
          rw [hwe] at hba GQ GC GT ⊢
          have hb := hba
          clear hba hwe
          obtain ⟨q3, hq3⟩ : ∃ x, wa2.heap.size = x := ⟨_, rfl⟩
          have HQ3 := Lib.hid (show w6.heap.size ≤ q3 by rw [← hq3]; exact hsz)
          rw [hq3] at GC GT ⊢
          clear hsz hq3
          refine hK.out _ _ (hHeld.trans (Below.mono hb hHeld.size)) (fun hHeld2 => ?_)
          clear hK K hHeld
          have hHeld := hHeld2
          clear hHeld2
          try simp only [Act.put, List.setIfInBounds_toArray, List.set_cons_zero, List.set_cons_succ]
          refine wpAnyH_ready (rs := [8]) (by kernel_rfl) (by simp) ?_
          refine AllReadyH.cons (o := { dst := some 39, op := Go.Op.call { callee := Go.Callee.value (Go.Operand.func 16), args := #[Go.Operand.tmp 38], argTypes := #[25] }, type := 25, pos := "law.go:47", after := #[{ on := 7, ground := Go.Ground.data }, { on := 5, ground := Go.Ground.chain }], guard := none }) rfl (fun K hK => ?_) AllReadyH.nil
          go_simp
          refine (copyRR5 na nl nc ma.a _ (HRA.out.below hHeld) HNA.out HLM.out.2.1).mono ?_; rintro e wa4 ⟨v, rfl, ho, hb⟩
          obtain ⟨na3, nc3, rfl, -⟩ := rowR_own ho
          replace GQ := Lib.hid (own_below' GQ.out hb)
          replace GC := Lib.hid (GC.out.below hb)
          replace GT := Lib.hid (GT.out.below hb)
          have GA := Lib.hid (own_mono4 ho (show w6.heap.size ≤ wa3.heap.size from hHeld.size))
          clear ho
          go_wp2_with fail
          refine hK.out _ _ (hHeld.trans (Below.mono hb hHeld.size)) (fun hHeld2 => ?_)
          clear hK K hHeld
          have hHeld := hHeld2
          clear hHeld2
          try simp only [Act.put, List.setIfInBounds_toArray, List.set_cons_zero, List.set_cons_succ]
          refine wpAnyH_ready (rs := [11]) (by kernel_rfl) (by simp) ?_
          refine AllReadyH.cons (o := { dst := some 42, op := Go.Op.call { callee := Go.Callee.value (Go.Operand.func 16), args := #[Go.Operand.tmp 41], argTypes := #[25] }, type := 25, pos := "law.go:47", after := #[{ on := 10, ground := Go.Ground.data }, { on := 8, ground := Go.Ground.chain }], guard := none }) rfl (fun K hK => ?_) AllReadyH.nil
          go_simp
          refine (copyRR5 sa sl sc ma.n _ (HRN.out.below hHeld) HNN.out HLM.out.2.2.1).mono ?_; rintro e wa5 ⟨v, rfl, ho, hb⟩
          obtain ⟨sa3, sc3, rfl, -⟩ := rowR_own ho
          replace GQ := Lib.hid (own_below' GQ.out hb)
          replace GA := Lib.hid (own_below' GA.out hb)
          replace GC := Lib.hid (GC.out.below hb)
          replace GT := Lib.hid (GT.out.below hb)
          have GN := Lib.hid (own_mono4 ho (show w6.heap.size ≤ wa4.heap.size from hHeld.size))
          clear ho
          go_wp2_with fail
          refine hK.out _ _ (hHeld.trans (Below.mono hb hHeld.size)) (fun hHeld2 => ?_)
          clear hK K hHeld
          have hHeld := hHeld2
          clear hHeld2
          try simp only [Act.put, List.setIfInBounds_toArray, List.set_cons_zero, List.set_cons_succ]
          refine wpAnyH_ready (rs := [14]) (by kernel_rfl) (by simp) ?_
          refine AllReadyH.cons (o := { dst := some 45, op := Go.Op.call { callee := Go.Callee.value (Go.Operand.func 16), args := #[Go.Operand.tmp 44], argTypes := #[25] }, type := 25, pos := "law.go:47", after := #[{ on := 13, ground := Go.Ground.data }, { on := 11, ground := Go.Ground.chain }], guard := none }) rfl (fun K hK => ?_) AllReadyH.nil
          go_simp
          refine (copyRR5 xa xl xc ma.x _ (HRX.out.below hHeld) HNX.out HLM.out.2.2.2).mono ?_; rintro e wa6 ⟨v, rfl, ho, hb⟩
          obtain ⟨xa3, xc3, rfl, -⟩ := rowR_own ho
          replace GQ := Lib.hid (own_below' GQ.out hb)
          replace GA := Lib.hid (own_below' GA.out hb)
          replace GN := Lib.hid (own_below' GN.out hb)
          replace GC := Lib.hid (GC.out.below hb)
          replace GT := Lib.hid (GT.out.below hb)
          have GX := Lib.hid (own_mono4 ho (show w6.heap.size ≤ wa5.heap.size from hHeld.size))
          clear ho
          go_wp2_with fail
          refine hK.out _ _ (hHeld.trans (Below.mono hb hHeld.size)) (fun hHeld2 => ?_)
          clear hK K hHeld
          have hHeld := hHeld2
          clear hHeld2
          try simp only [Act.put, List.setIfInBounds_toArray, List.set_cons_zero, List.set_cons_succ]
          refine wpAnyH_take (i := 15) (oi := { dst := some 46, op := Go.Op.build 32 #[(0, Go.Operand.tmp 32), (1, Go.Operand.tmp 36), (2, Go.Operand.tmp 39), (3, Go.Operand.tmp 42), (4, Go.Operand.tmp 45)], type := 32, pos := "law.go:47", after := #[{ on := 1, ground := Go.Ground.data }, { on := 5, ground := Go.Ground.data }, { on := 8, ground := Go.Ground.data }, { on := 11, ground := Go.Ground.data }, { on := 14, ground := Go.Ground.data }], guard := none }) (v := ?v15_200119) rfl (by kernel_rfl) (by kernel_rfl) (by kernel_rfl) (fun _ _ _ h => h) (Or.inl ⟨by rfl, ?y15_200119⟩) hHeld ?r15_200119
          case y15_200119 => intro w hSw; (try dsimp only at hSw); go_simp; try with_reducible rfl
          try simp only [Act.put, List.setIfInBounds_toArray, List.set_cons_zero, List.set_cons_succ]
          refine wpAnyH_ready (rs := [17]) (by kernel_rfl) (by simp) ?_
          refine AllReadyH.cons (o := { dst := none, op := Go.Op.store 32 (Go.Operand.tmp 10) (Go.Operand.tmp 46), type := 0, pos := "law.go:47", after := #[{ on := 16, ground := Go.Ground.data }, { on := 15, ground := Go.Ground.data }, { on := 14, ground := Go.Ground.chain }, { on := 0, ground := Go.Ground.phase }, { on := 1, ground := Go.Ground.phase }, { on := 2, ground := Go.Ground.phase }, { on := 3, ground := Go.Ground.phase }, { on := 4, ground := Go.Ground.phase }, { on := 5, ground := Go.Ground.phase }, { on := 6, ground := Go.Ground.phase }, { on := 7, ground := Go.Ground.phase }, { on := 8, ground := Go.Ground.phase }, { on := 9, ground := Go.Ground.phase }, { on := 10, ground := Go.Ground.phase }, { on := 11, ground := Go.Ground.phase }, { on := 12, ground := Go.Ground.phase }, { on := 13, ground := Go.Ground.phase }, { on := 14, ground := Go.Ground.phase }, { on := 15, ground := Go.Ground.phase }, { on := 16, ground := Go.Ground.phase }], guard := none }) rfl (fun K hK => ?_) AllReadyH.nil
          obtain ⟨r0, r1, r2, r3, r4, r5, r6, r7, r8, r9, r10, r11, g0_, g1_, g2_, g3_, g4_, g5_, g6_, g7_, g8_, g9_, g10_, g11_⟩ := GC.out.u12
          go_simp
          have HGS := Lib.hid (grown_s12 wa6 q3 (.int .i64 mi) (.int .i64 mo) (.int .i64 mr) (.bool b1) (.bool b2) (.bool b3) (.bool b4) (.bool b5) (.slice qa3 ql qc3) (.slice na3 nl nc3) (.slice sa3 sl sc3) (.slice xa3 xl xc3))
          have HCZ := Lib.hid (GC.out.s12 (.int .i64 mi) (.int .i64 mo) (.int .i64 mr) (.bool b1) (.bool b2) (.bool b3) (.bool b4) (.bool b5) (.slice qa3 ql qc3) (.slice na3 nl nc3) (.slice sa3 sl sc3) (.slice xa3 xl xc3))
          have GQZ := Lib.hid (own_keeps GQ.out GT.out (by decide) HGS.out)
          have GAZ := Lib.hid (own_keeps GA.out GT.out (by decide) HGS.out)
          have GNZ := Lib.hid (own_keeps GN.out GT.out (by decide) HGS.out)
          have GXZ := Lib.hid (own_keeps GX.out GT.out (by decide) HGS.out)
          clear r0 r1 r2 r3 r4 r5 r6 r7 r8 r9 r10 r11 g0_ g1_ g2_ g3_ g4_ g5_ g6_ g7_ g8_ g9_ g10_ g11_
          refine hK.out _ _ (hHeld.grown HGS.out hHeld.size (fun k hk => by injection hk with hk; have := HQ3.out; omega)) (fun hHeld2 => ?_)
          clear hK K hHeld
          have hHeld := hHeld2
          clear hHeld2
          try simp only [Act.put, List.setIfInBounds_toArray, List.set_cons_zero, List.set_cons_succ]
          refine wpAnyH_done (by kernel_rfl) ?_ _
          go_wp2
          go_meet
          exact ⟨q3, qa3, na3, sa3, xa3, qc3, nc3, sc3, xc3, rfl, HQ3.out, HCZ.out, GQZ.out, GAZ.out, GNZ.out, GXZ.out, hHeld⟩
      · go_simp
        have hba := (Below.refl _ _ : Below wa1.heap.size wa1 wa1).alloc (Nat.le_refl _) (.cells #[.int .i64 0, .int .i64 0, .int .i64 0, .bool false, .bool false, .bool false, .bool false, .bool false, .slice none 0 0, .slice none 0 0, .slice none 0 0, .slice none 0 0] 32)
        replace H0 := Lib.hid (own_below' H0.out hba)
        have GC := Lib.hid (CN.new wa1 #[.int .i64 0, .int .i64 0, .int .i64 0, .bool false, .bool false, .bool false, .bool false, .bool false, .slice none 0 0, .slice none 0 0, .slice none 0 0, .slice none 0 0] 32)
        have GT := Lib.hid (TB.new wa1 #[.int .i64 0, .int .i64 0, .int .i64 0, .bool false, .bool false, .bool false, .bool false, .bool false, .slice none 0 0, .slice none 0 0, .slice none 0 0, .slice none 0 0] 32)
        have hsz : w6.heap.size ≤ wa1.heap.size := hHeld.size
        obtain ⟨wa2, hwe⟩ : ∃ x, wa1.alloc (.cells #[.int .i64 0, .int .i64 0, .int .i64 0, .bool false, .bool false, .bool false, .bool false, .bool false, .slice none 0 0, .slice none 0 0, .slice none 0 0, .slice none 0 0] 32) = x := ⟨_, rfl⟩
        rw [hwe] at hba H0 GC GT ⊢
        have hb := hba
        clear hba hwe
        obtain ⟨q3, hq3⟩ : ∃ x, wa1.heap.size = x := ⟨_, rfl⟩
        have HQ3 := Lib.hid (show w6.heap.size ≤ q3 by rw [← hq3]; exact hsz)
        rw [hq3] at GC GT ⊢
        clear hsz hq3
        refine hK.out _ _ (hHeld.trans (Below.mono hb hHeld.size)) (fun hHeld2 => ?_)
        clear hK K hHeld
        have hHeld := hHeld2
        clear hHeld2
        try simp only [Act.put, List.setIfInBounds_toArray, List.set_cons_zero, List.set_cons_succ]
        refine wpAnyH_ready (rs := [5]) (by kernel_rfl) (by simp) ?_
        refine AllReadyH.cons (o := { dst := some 36, op := Go.Op.call { callee := Go.Callee.builtin Go.Builtin.append, args := #[Go.Operand.tmp 33, Go.Operand.tmp 35], argTypes := #[24, 24] }, type := 24, pos := "law.go:47", after := #[{ on := 2, ground := Go.Ground.data }, { on := 4, ground := Go.Ground.data }], guard := none }) rfl (fun K hK => ?_) AllReadyH.nil
        refine step_append_cellsK (by rfl) _ _ 24 70 (by rfl) i0 _ 3 32 Try.underlying24 HI.out HI0.out HI1.out HI2.out rfl (by decide) w6.heap.size _ 0 _ (by rfl) H0.out qa ql qc (flatQ ma.q) (by rfl) HNQ.out (HRQ.out.below hHeld).2 (flatQ_one ma.q) (by have := HL4.out; omega) (by decide) hHeld.size ?_
        intro v5 wa3 hown hgrow
        rw [Nat.zero_add, List.nil_append] at hown
        obtain ⟨qa3, qc3, rfl, -⟩ := rowQ_own hown
        have GQ := Lib.hid hown
        have hrow : ∀ k, (Value.slice (some ⟨g0, 0, none⟩) 0 0).ownBlock = some k → w6.heap.size ≤ k := fun k hk => (H0.out.lt k hk).1
        have hne : (Value.slice (some ⟨g0, 0, none⟩) 0 0).ownBlock ≠ some q3 := own_ne H0.out GT.out (by decide)
        replace GC := Lib.hid (GC.out.grown hgrow (fun e => hne e.symm))
        replace GT := Lib.hid (GT.out.grown hgrow hne)
        clear hown H0
        refine hK.out _ _ (hHeld.grown hgrow hHeld.size hrow) (fun hHeld2 => ?_)
        clear hK K hHeld
        have hHeld := hHeld2
        clear hHeld2
        try simp only [Act.put, List.setIfInBounds_toArray, List.set_cons_zero, List.set_cons_succ]
        refine wpAnyH_ready (rs := [8]) (by kernel_rfl) (by simp) ?_
        refine AllReadyH.cons (o := { dst := some 39, op := Go.Op.call { callee := Go.Callee.value (Go.Operand.func 16), args := #[Go.Operand.tmp 38], argTypes := #[25] }, type := 25, pos := "law.go:47", after := #[{ on := 7, ground := Go.Ground.data }, { on := 5, ground := Go.Ground.chain }], guard := none }) rfl (fun K hK => ?_) AllReadyH.nil
        go_simp
        refine (copyRR5 na nl nc ma.a _ (HRA.out.below hHeld) HNA.out HLM.out.2.1).mono ?_; rintro e wa4 ⟨v, rfl, ho, hb⟩
        obtain ⟨na3, nc3, rfl, -⟩ := rowR_own ho
        replace GQ := Lib.hid (own_below' GQ.out hb)
        replace GC := Lib.hid (GC.out.below hb)
        replace GT := Lib.hid (GT.out.below hb)
        have GA := Lib.hid (own_mono4 ho (show w6.heap.size ≤ wa3.heap.size from hHeld.size))
        clear ho
        go_wp2_with fail
        refine hK.out _ _ (hHeld.trans (Below.mono hb hHeld.size)) (fun hHeld2 => ?_)
        clear hK K hHeld
        have hHeld := hHeld2
        clear hHeld2
        try simp only [Act.put, List.setIfInBounds_toArray, List.set_cons_zero, List.set_cons_succ]
        refine wpAnyH_ready (rs := [11]) (by kernel_rfl) (by simp) ?_
        refine AllReadyH.cons (o := { dst := some 42, op := Go.Op.call { callee := Go.Callee.value (Go.Operand.func 16), args := #[Go.Operand.tmp 41], argTypes := #[25] }, type := 25, pos := "law.go:47", after := #[{ on := 10, ground := Go.Ground.data }, { on := 8, ground := Go.Ground.chain }], guard := none }) rfl (fun K hK => ?_) AllReadyH.nil
        go_simp
        refine (copyRR5 sa sl sc ma.n _ (HRN.out.below hHeld) HNN.out HLM.out.2.2.1).mono ?_; rintro e wa5 ⟨v, rfl, ho, hb⟩
        obtain ⟨sa3, sc3, rfl, -⟩ := rowR_own ho
        replace GQ := Lib.hid (own_below' GQ.out hb)
        replace GA := Lib.hid (own_below' GA.out hb)
        replace GC := Lib.hid (GC.out.below hb)
        replace GT := Lib.hid (GT.out.below hb)
        have GN := Lib.hid (own_mono4 ho (show w6.heap.size ≤ wa4.heap.size from hHeld.size))
        clear ho
        go_wp2_with fail
        refine hK.out _ _ (hHeld.trans (Below.mono hb hHeld.size)) (fun hHeld2 => ?_)
        clear hK K hHeld
        have hHeld := hHeld2
        clear hHeld2
        try simp only [Act.put, List.setIfInBounds_toArray, List.set_cons_zero, List.set_cons_succ]
        refine wpAnyH_ready (rs := [14]) (by kernel_rfl) (by simp) ?_
        refine AllReadyH.cons (o := { dst := some 45, op := Go.Op.call { callee := Go.Callee.value (Go.Operand.func 16), args := #[Go.Operand.tmp 44], argTypes := #[25] }, type := 25, pos := "law.go:47", after := #[{ on := 13, ground := Go.Ground.data }, { on := 11, ground := Go.Ground.chain }], guard := none }) rfl (fun K hK => ?_) AllReadyH.nil
        go_simp
        refine (copyRR5 xa xl xc ma.x _ (HRX.out.below hHeld) HNX.out HLM.out.2.2.2).mono ?_; rintro e wa6 ⟨v, rfl, ho, hb⟩
        obtain ⟨xa3, xc3, rfl, -⟩ := rowR_own ho
        replace GQ := Lib.hid (own_below' GQ.out hb)
        replace GA := Lib.hid (own_below' GA.out hb)
        replace GN := Lib.hid (own_below' GN.out hb)
        replace GC := Lib.hid (GC.out.below hb)
        replace GT := Lib.hid (GT.out.below hb)
        have GX := Lib.hid (own_mono4 ho (show w6.heap.size ≤ wa5.heap.size from hHeld.size))
        clear ho
        go_wp2_with fail
        refine hK.out _ _ (hHeld.trans (Below.mono hb hHeld.size)) (fun hHeld2 => ?_)
        clear hK K hHeld
        have hHeld := hHeld2
        clear hHeld2
        try simp only [Act.put, List.setIfInBounds_toArray, List.set_cons_zero, List.set_cons_succ]
        refine wpAnyH_take (i := 15) (oi := { dst := some 46, op := Go.Op.build 32 #[(0, Go.Operand.tmp 32), (1, Go.Operand.tmp 36), (2, Go.Operand.tmp 39), (3, Go.Operand.tmp 42), (4, Go.Operand.tmp 45)], type := 32, pos := "law.go:47", after := #[{ on := 1, ground := Go.Ground.data }, { on := 5, ground := Go.Ground.data }, { on := 8, ground := Go.Ground.data }, { on := 11, ground := Go.Ground.data }, { on := 14, ground := Go.Ground.data }], guard := none }) (v := ?v15_200125) rfl (by kernel_rfl) (by kernel_rfl) (by kernel_rfl) (fun _ _ _ h => h) (Or.inl ⟨by rfl, ?y15_200125⟩) hHeld ?r15_200125
        case y15_200125 => intro w hSw; (try dsimp only at hSw); go_simp; try with_reducible rfl
        try simp only [Act.put, List.setIfInBounds_toArray, List.set_cons_zero, List.set_cons_succ]
        refine wpAnyH_ready (rs := [17]) (by kernel_rfl) (by simp) ?_
        refine AllReadyH.cons (o := { dst := none, op := Go.Op.store 32 (Go.Operand.tmp 10) (Go.Operand.tmp 46), type := 0, pos := "law.go:47", after := #[{ on := 16, ground := Go.Ground.data }, { on := 15, ground := Go.Ground.data }, { on := 14, ground := Go.Ground.chain }, { on := 0, ground := Go.Ground.phase }, { on := 1, ground := Go.Ground.phase }, { on := 2, ground := Go.Ground.phase }, { on := 3, ground := Go.Ground.phase }, { on := 4, ground := Go.Ground.phase }, { on := 5, ground := Go.Ground.phase }, { on := 6, ground := Go.Ground.phase }, { on := 7, ground := Go.Ground.phase }, { on := 8, ground := Go.Ground.phase }, { on := 9, ground := Go.Ground.phase }, { on := 10, ground := Go.Ground.phase }, { on := 11, ground := Go.Ground.phase }, { on := 12, ground := Go.Ground.phase }, { on := 13, ground := Go.Ground.phase }, { on := 14, ground := Go.Ground.phase }, { on := 15, ground := Go.Ground.phase }, { on := 16, ground := Go.Ground.phase }], guard := none }) rfl (fun K hK => ?_) AllReadyH.nil
        obtain ⟨r0, r1, r2, r3, r4, r5, r6, r7, r8, r9, r10, r11, g0_, g1_, g2_, g3_, g4_, g5_, g6_, g7_, g8_, g9_, g10_, g11_⟩ := GC.out.u12
        go_simp
        have HGS := Lib.hid (grown_s12 wa6 q3 (.int .i64 mi) (.int .i64 mo) (.int .i64 mr) (.bool b1) (.bool b2) (.bool b3) (.bool b4) (.bool b5) (.slice qa3 ql qc3) (.slice na3 nl nc3) (.slice sa3 sl sc3) (.slice xa3 xl xc3))
        have HCZ := Lib.hid (GC.out.s12 (.int .i64 mi) (.int .i64 mo) (.int .i64 mr) (.bool b1) (.bool b2) (.bool b3) (.bool b4) (.bool b5) (.slice qa3 ql qc3) (.slice na3 nl nc3) (.slice sa3 sl sc3) (.slice xa3 xl xc3))
        have GQZ := Lib.hid (own_keeps GQ.out GT.out (by decide) HGS.out)
        have GAZ := Lib.hid (own_keeps GA.out GT.out (by decide) HGS.out)
        have GNZ := Lib.hid (own_keeps GN.out GT.out (by decide) HGS.out)
        have GXZ := Lib.hid (own_keeps GX.out GT.out (by decide) HGS.out)
        clear r0 r1 r2 r3 r4 r5 r6 r7 r8 r9 r10 r11 g0_ g1_ g2_ g3_ g4_ g5_ g6_ g7_ g8_ g9_ g10_ g11_
        refine hK.out _ _ (hHeld.grown HGS.out hHeld.size (fun k hk => by injection hk with hk; have := HQ3.out; omega)) (fun hHeld2 => ?_)
        clear hK K hHeld
        have hHeld := hHeld2
        clear hHeld2
        try simp only [Act.put, List.setIfInBounds_toArray, List.set_cons_zero, List.set_cons_succ]
        refine wpAnyH_done (by kernel_rfl) ?_ _
        go_wp2
        go_meet
        exact ⟨q3, qa3, na3, sa3, xa3, qc3, nc3, sc3, xc3, rfl, HQ3.out, HCZ.out, GQZ.out, GAZ.out, GNZ.out, GXZ.out, hHeld⟩
    · go_simp
      have hba := (Below.refl _ _ : Below wd.heap.size wd wd).alloc (Nat.le_refl _) (.cells #[.int .i64 0, .int .i64 0, .int .i64 0, .bool false, .bool false, .bool false, .bool false, .bool false, .slice none 0 0, .slice none 0 0, .slice none 0 0, .slice none 0 0] 32)
      have GC := Lib.hid (CN.new wd #[.int .i64 0, .int .i64 0, .int .i64 0, .bool false, .bool false, .bool false, .bool false, .bool false, .slice none 0 0, .slice none 0 0, .slice none 0 0, .slice none 0 0] 32)
      have GT := Lib.hid (TB.new wd #[.int .i64 0, .int .i64 0, .int .i64 0, .bool false, .bool false, .bool false, .bool false, .bool false, .slice none 0 0, .slice none 0 0, .slice none 0 0, .slice none 0 0] 32)
      have hsz : w6.heap.size ≤ wd.heap.size := hHeld.size
      obtain ⟨wa1, hwe⟩ : ∃ x, wd.alloc (.cells #[.int .i64 0, .int .i64 0, .int .i64 0, .bool false, .bool false, .bool false, .bool false, .bool false, .slice none 0 0, .slice none 0 0, .slice none 0 0, .slice none 0 0] 32) = x := ⟨_, rfl⟩
      rw [hwe] at hba GC GT ⊢
      have hb := hba
      clear hba hwe
      obtain ⟨q3, hq3⟩ : ∃ x, wd.heap.size = x := ⟨_, rfl⟩
      have HQ3 := Lib.hid (show w6.heap.size ≤ q3 by rw [← hq3]; exact hsz)
      rw [hq3] at GC GT ⊢
      clear hsz hq3
      refine hK.out _ _ (hHeld.trans (Below.mono hb hHeld.size)) (fun hHeld2 => ?_)
      clear hK K hHeld
      have hHeld := hHeld2
      clear hHeld2
      try simp only [Act.put, List.setIfInBounds_toArray, List.set_cons_zero, List.set_cons_succ]
      refine wpAnyH_ready (rs := [2]) (by kernel_rfl) (by simp) ?_
      refine AllReadyH.cons (o := { dst := some 33, op := Go.Op.buildSlice 24 0 #[], type := 24, pos := "law.go:47", after := #[], guard := none }) rfl (fun K hK => ?_) AllReadyH.nil
      go_simp
      have hba := (Below.refl _ _ : Below wa1.heap.size wa1 wa1).alloc (Nat.le_refl _) (.cells #[] 70)
      replace GC := Lib.hid (GC.out.below hba)
      replace GT := Lib.hid (GT.out.below hba)
      have H0 := Lib.hid (own_mono4 (World.ownsRow_made (e := 70) (size := 3) wa1 #[] 0 (Nat.le_refl _) (by decide) rfl) (show w6.heap.size ≤ wa1.heap.size from hHeld.size))
      have hsz : w6.heap.size ≤ wa1.heap.size := hHeld.size
      obtain ⟨wa2, hwe⟩ : ∃ x, wa1.alloc (.cells #[] 70) = x := ⟨_, rfl⟩
      rw [hwe] at hba GC GT H0 ⊢
      have hb := hba
      clear hba hwe
      obtain ⟨g0, hg0⟩ : ∃ x, wa1.heap.size = x := ⟨_, rfl⟩
      rw [hg0] at H0 ⊢
      have HG0 := Lib.hid hg0
      clear hsz hg0
      refine hK.out _ _ (hHeld.trans (Below.mono hb hHeld.size)) (fun hHeld2 => ?_)
      clear hK K hHeld
      have hHeld := hHeld2
      clear hHeld2
      try simp only [Act.put, List.setIfInBounds_toArray, List.set_cons_zero, List.set_cons_succ]
      refine wpAnyH_ready (rs := [5]) (by kernel_rfl) (by simp) ?_
      refine AllReadyH.cons (o := { dst := some 36, op := Go.Op.call { callee := Go.Callee.builtin Go.Builtin.append, args := #[Go.Operand.tmp 33, Go.Operand.tmp 35], argTypes := #[24, 24] }, type := 24, pos := "law.go:47", after := #[{ on := 2, ground := Go.Ground.data }, { on := 4, ground := Go.Ground.data }], guard := none }) rfl (fun K hK => ?_) AllReadyH.nil
      refine step_append_cellsK (by rfl) _ _ 24 70 (by rfl) i0 _ 3 32 Try.underlying24 HI.out HI0.out HI1.out HI2.out rfl (by decide) w6.heap.size _ 0 _ (by rfl) H0.out qa ql qc (flatQ ma.q) (by rfl) HNQ.out (HRQ.out.below hHeld).2 (flatQ_one ma.q) (by have := HL4.out; omega) (by decide) hHeld.size ?_
      intro v5 wa3 hown hgrow
      rw [Nat.zero_add, List.nil_append] at hown
      obtain ⟨qa3, qc3, rfl, -⟩ := rowQ_own hown
      have GQ := Lib.hid hown
      have hrow : ∀ k, (Value.slice (some ⟨g0, 0, none⟩) 0 0).ownBlock = some k → w6.heap.size ≤ k := fun k hk => (H0.out.lt k hk).1
      have hne : (Value.slice (some ⟨g0, 0, none⟩) 0 0).ownBlock ≠ some q3 := own_ne H0.out GT.out (by decide)
      replace GC := Lib.hid (GC.out.grown hgrow (fun e => hne e.symm))
      replace GT := Lib.hid (GT.out.grown hgrow hne)
      clear hown H0
      refine hK.out _ _ (hHeld.grown hgrow hHeld.size hrow) (fun hHeld2 => ?_)
      clear hK K hHeld
      have hHeld := hHeld2
      clear hHeld2
      try simp only [Act.put, List.setIfInBounds_toArray, List.set_cons_zero, List.set_cons_succ]
      refine wpAnyH_ready (rs := [8]) (by kernel_rfl) (by simp) ?_
      refine AllReadyH.cons (o := { dst := some 39, op := Go.Op.call { callee := Go.Callee.value (Go.Operand.func 16), args := #[Go.Operand.tmp 38], argTypes := #[25] }, type := 25, pos := "law.go:47", after := #[{ on := 7, ground := Go.Ground.data }, { on := 5, ground := Go.Ground.chain }], guard := none }) rfl (fun K hK => ?_) AllReadyH.nil
      go_simp
      refine (copyRR5 na nl nc ma.a _ (HRA.out.below hHeld) HNA.out HLM.out.2.1).mono ?_; rintro e wa4 ⟨v, rfl, ho, hb⟩
      obtain ⟨na3, nc3, rfl, -⟩ := rowR_own ho
      replace GQ := Lib.hid (own_below' GQ.out hb)
      replace GC := Lib.hid (GC.out.below hb)
      replace GT := Lib.hid (GT.out.below hb)
      have GA := Lib.hid (own_mono4 ho (show w6.heap.size ≤ wa3.heap.size from hHeld.size))
      clear ho
      go_wp2_with fail
      refine hK.out _ _ (hHeld.trans (Below.mono hb hHeld.size)) (fun hHeld2 => ?_)
      clear hK K hHeld
      have hHeld := hHeld2
      clear hHeld2
      try simp only [Act.put, List.setIfInBounds_toArray, List.set_cons_zero, List.set_cons_succ]
      refine wpAnyH_ready (rs := [11]) (by kernel_rfl) (by simp) ?_
      refine AllReadyH.cons (o := { dst := some 42, op := Go.Op.call { callee := Go.Callee.value (Go.Operand.func 16), args := #[Go.Operand.tmp 41], argTypes := #[25] }, type := 25, pos := "law.go:47", after := #[{ on := 10, ground := Go.Ground.data }, { on := 8, ground := Go.Ground.chain }], guard := none }) rfl (fun K hK => ?_) AllReadyH.nil
      go_simp
      refine (copyRR5 sa sl sc ma.n _ (HRN.out.below hHeld) HNN.out HLM.out.2.2.1).mono ?_; rintro e wa5 ⟨v, rfl, ho, hb⟩
      obtain ⟨sa3, sc3, rfl, -⟩ := rowR_own ho
      replace GQ := Lib.hid (own_below' GQ.out hb)
      replace GA := Lib.hid (own_below' GA.out hb)
      replace GC := Lib.hid (GC.out.below hb)
      replace GT := Lib.hid (GT.out.below hb)
      have GN := Lib.hid (own_mono4 ho (show w6.heap.size ≤ wa4.heap.size from hHeld.size))
      clear ho
      go_wp2_with fail
      refine hK.out _ _ (hHeld.trans (Below.mono hb hHeld.size)) (fun hHeld2 => ?_)
      clear hK K hHeld
      have hHeld := hHeld2
      clear hHeld2
      try simp only [Act.put, List.setIfInBounds_toArray, List.set_cons_zero, List.set_cons_succ]
      refine wpAnyH_ready (rs := [14]) (by kernel_rfl) (by simp) ?_
      refine AllReadyH.cons (o := { dst := some 45, op := Go.Op.call { callee := Go.Callee.value (Go.Operand.func 16), args := #[Go.Operand.tmp 44], argTypes := #[25] }, type := 25, pos := "law.go:47", after := #[{ on := 13, ground := Go.Ground.data }, { on := 11, ground := Go.Ground.chain }], guard := none }) rfl (fun K hK => ?_) AllReadyH.nil
      go_simp
      refine (copyRR5 xa xl xc ma.x _ (HRX.out.below hHeld) HNX.out HLM.out.2.2.2).mono ?_; rintro e wa6 ⟨v, rfl, ho, hb⟩
      obtain ⟨xa3, xc3, rfl, -⟩ := rowR_own ho
      replace GQ := Lib.hid (own_below' GQ.out hb)
      replace GA := Lib.hid (own_below' GA.out hb)
      replace GN := Lib.hid (own_below' GN.out hb)
      replace GC := Lib.hid (GC.out.below hb)
      replace GT := Lib.hid (GT.out.below hb)
      have GX := Lib.hid (own_mono4 ho (show w6.heap.size ≤ wa5.heap.size from hHeld.size))
      clear ho
      go_wp2_with fail
      refine hK.out _ _ (hHeld.trans (Below.mono hb hHeld.size)) (fun hHeld2 => ?_)
      clear hK K hHeld
      have hHeld := hHeld2
      clear hHeld2
      try simp only [Act.put, List.setIfInBounds_toArray, List.set_cons_zero, List.set_cons_succ]
      refine wpAnyH_take (i := 15) (oi := { dst := some 46, op := Go.Op.build 32 #[(0, Go.Operand.tmp 32), (1, Go.Operand.tmp 36), (2, Go.Operand.tmp 39), (3, Go.Operand.tmp 42), (4, Go.Operand.tmp 45)], type := 32, pos := "law.go:47", after := #[{ on := 1, ground := Go.Ground.data }, { on := 5, ground := Go.Ground.data }, { on := 8, ground := Go.Ground.data }, { on := 11, ground := Go.Ground.data }, { on := 14, ground := Go.Ground.data }], guard := none }) (v := ?v15_200132) rfl (by kernel_rfl) (by kernel_rfl) (by kernel_rfl) (fun _ _ _ h => h) (Or.inl ⟨by rfl, ?y15_200132⟩) hHeld ?r15_200132
      case y15_200132 => intro w hSw; (try dsimp only at hSw); go_simp; try with_reducible rfl
      try simp only [Act.put, List.setIfInBounds_toArray, List.set_cons_zero, List.set_cons_succ]
      refine wpAnyH_ready (rs := [17]) (by kernel_rfl) (by simp) ?_
      refine AllReadyH.cons (o := { dst := none, op := Go.Op.store 32 (Go.Operand.tmp 10) (Go.Operand.tmp 46), type := 0, pos := "law.go:47", after := #[{ on := 16, ground := Go.Ground.data }, { on := 15, ground := Go.Ground.data }, { on := 14, ground := Go.Ground.chain }, { on := 0, ground := Go.Ground.phase }, { on := 1, ground := Go.Ground.phase }, { on := 2, ground := Go.Ground.phase }, { on := 3, ground := Go.Ground.phase }, { on := 4, ground := Go.Ground.phase }, { on := 5, ground := Go.Ground.phase }, { on := 6, ground := Go.Ground.phase }, { on := 7, ground := Go.Ground.phase }, { on := 8, ground := Go.Ground.phase }, { on := 9, ground := Go.Ground.phase }, { on := 10, ground := Go.Ground.phase }, { on := 11, ground := Go.Ground.phase }, { on := 12, ground := Go.Ground.phase }, { on := 13, ground := Go.Ground.phase }, { on := 14, ground := Go.Ground.phase }, { on := 15, ground := Go.Ground.phase }, { on := 16, ground := Go.Ground.phase }], guard := none }) rfl (fun K hK => ?_) AllReadyH.nil
      obtain ⟨r0, r1, r2, r3, r4, r5, r6, r7, r8, r9, r10, r11, g0_, g1_, g2_, g3_, g4_, g5_, g6_, g7_, g8_, g9_, g10_, g11_⟩ := GC.out.u12
      go_simp
      have HGS := Lib.hid (grown_s12 wa6 q3 (.int .i64 mi) (.int .i64 mo) (.int .i64 mr) (.bool b1) (.bool b2) (.bool b3) (.bool b4) (.bool b5) (.slice qa3 ql qc3) (.slice na3 nl nc3) (.slice sa3 sl sc3) (.slice xa3 xl xc3))
      have HCZ := Lib.hid (GC.out.s12 (.int .i64 mi) (.int .i64 mo) (.int .i64 mr) (.bool b1) (.bool b2) (.bool b3) (.bool b4) (.bool b5) (.slice qa3 ql qc3) (.slice na3 nl nc3) (.slice sa3 sl sc3) (.slice xa3 xl xc3))
      have GQZ := Lib.hid (own_keeps GQ.out GT.out (by decide) HGS.out)
      have GAZ := Lib.hid (own_keeps GA.out GT.out (by decide) HGS.out)
      have GNZ := Lib.hid (own_keeps GN.out GT.out (by decide) HGS.out)
      have GXZ := Lib.hid (own_keeps GX.out GT.out (by decide) HGS.out)
      clear r0 r1 r2 r3 r4 r5 r6 r7 r8 r9 r10 r11 g0_ g1_ g2_ g3_ g4_ g5_ g6_ g7_ g8_ g9_ g10_ g11_
      refine hK.out _ _ (hHeld.grown HGS.out hHeld.size (fun k hk => by injection hk with hk; have := HQ3.out; omega)) (fun hHeld2 => ?_)
      clear hK K hHeld
      have hHeld := hHeld2
      clear hHeld2
      try simp only [Act.put, List.setIfInBounds_toArray, List.set_cons_zero, List.set_cons_succ]
      refine wpAnyH_done (by kernel_rfl) ?_ _
      go_wp2
      go_meet
      exact ⟨q3, qa3, na3, sa3, xa3, qc3, nc3, sc3, xc3, rfl, HQ3.out, HCZ.out, GQZ.out, GAZ.out, GNZ.out, GXZ.out, hHeld⟩
  case rest =>
  obtain ⟨q10, qa3, na3, sa3, xa3, qc3, nc3, sc3, xc3, rfl, hq10, hc, hq, ha, hn, hx, hb⟩ := hcut
  obtain ⟨w6, hw6⟩ : ∃ x, wc = x := ⟨_, rfl⟩
  rw [hw6] at hc hq ha hn hx hb ⊢
  replace HB := Lib.hid (HB.out.trans (hb.mono HB.out.size))
  replace HCA := Lib.hid (HCA.out.below hb)
  replace HMA := Lib.hid (HMA.out.below hb)
  replace HRA := Lib.hid (HRA.out.below hb)
  replace HRN := Lib.hid (HRN.out.below hb)
  replace HRX := Lib.hid (HRX.out.below hb)
  replace HRQ := Lib.hid (HRQ.out.below hb)
  replace HP := Lib.hid (HP.out.below hb)
  have HC := Lib.hid hc
  have GQ := Lib.hid hq
  have GA := Lib.hid ha
  have GN := Lib.hid hn
  have GX := Lib.hid hx
  clear hc hq ha hn hx hb hq10 hw6 HI HI0 HI1 HI2
  obtain ⟨EE, hEE⟩ : ∃ x, encEG mi mo mr b1 b2 b3 b4 b5 ma.q ma.a ma.n ma.x most = x := ⟨_, rfl⟩
  obtain ⟨LL, hLL⟩ : ∃ x, encLG mi mo mr b1 b2 b3 b4 b5 ma.q ma.a ma.n ma.x most = x := ⟨_, rfl⟩
  have HEE := Lib.hid hEE
  have HLL := Lib.hid hLL
  obtain ⟨F1, hF1⟩ : ∃ x, (if okF mo mr then flagV mo mr b1 b2 b3 b4 b5 else 0) = x := ⟨_, rfl⟩
  obtain ⟨F2, hF2⟩ : ∃ x : Int, (if okF mo mr then (0 : Int) else 1) = x := ⟨_, rfl⟩
  have HF1 := Lib.hid hF1
  have HF2 := Lib.hid hF2
  obtain ⟨MM, hMM⟩ : ∃ x, mayM mi mo mr ma.q ma.a ma.n ma.x = x := ⟨_, rfl⟩
  have HMM := Lib.hid hMM
  clear hEE hLL hF1 hF2 hMM
  obtain ⟨a0, a1, a2, c1, c2, c3, c4, c5, er, hu1, hu2⟩ := unflag_both id fl
  have HU1 := Lib.hid hu1
  have HU2 := Lib.hid hu2
  clear hu1 hu2
  obtain ⟨y0, y1, y2, y3, y4, y5, y6, y7, y8, y9, y10, y11, _⟩ := HCA.out.u12
  go_wp2_with fail
  refine (encode_any mi mo mr b1 b2 b3 b4 b5 most qa na sa xa ql qc nl nc sl sc xl xc ma.q ma.a ma.n ma.x _ HRQ.out HRA.out HNA.out HRN.out HNN.out HRX.out HNX.out HLE.out HZQ.out HZ1.out HZ2.out HZ3.out).mono ?_; rintro e w7 ⟨v7, rfl, ho, hb⟩
  clear y0 y1 y2 y3 y4 y5 y6 y7 y8 y9 y10 y11
  replace HB := Lib.hid (HB.out.trans (hb.mono HB.out.size))
  replace HCA := Lib.hid (HCA.out.below hb)
  replace HMA := Lib.hid (HMA.out.below hb)
  replace HRA := Lib.hid (HRA.out.below hb)
  replace HRN := Lib.hid (HRN.out.below hb)
  replace HRX := Lib.hid (HRX.out.below hb)
  replace HRQ := Lib.hid (HRQ.out.below hb)
  replace HP := Lib.hid (HP.out.below hb)
  replace HC := Lib.hid (HC.out.below hb)
  replace GQ := Lib.hid (own_below' GQ.out hb)
  replace GA := Lib.hid (own_below' GA.out hb)
  replace GN := Lib.hid (own_below' GN.out hb)
  replace GX := Lib.hid (own_below' GX.out hb)
  clear hb
  rw [HLL.out] at ho
  rw [HEE.out]
  have HV7 := Lib.hid ho
  clear ho
  obtain ⟨z0, z1, z2, z3, z4, z5, z6, z7, z8, z9, z10, z11, _⟩ := HC.out.u12
  go_wp2_with fail
  refine (rencode_any mi mo mr b1 b2 b3 b4 b5 most qa3 na3 sa3 xa3 ql qc3 nl nc3 sl sc3 xl xc3 ma.q ma.a ma.n ma.x _ (rowQ_own2 GQ.out).1 (rowR_own2 GA.out).1 (rowR_own2 GA.out).2 (rowR_own2 GN.out).1 (rowR_own2 GN.out).2 (rowR_own2 GX.out).1 (rowR_own2 GX.out).2 HLE.out HZQ.out HZ1.out HZ2.out HZ3.out).mono ?_; rintro e w8 ⟨v8, rfl, ho, hb⟩
  clear z0 z1 z2 z3 z4 z5 z6 z7 z8 z9 z10 z11
  replace HB := Lib.hid (HB.out.trans (hb.mono HB.out.size))
  replace HCA := Lib.hid (HCA.out.below hb)
  replace HMA := Lib.hid (HMA.out.below hb)
  replace HRA := Lib.hid (HRA.out.below hb)
  replace HRN := Lib.hid (HRN.out.below hb)
  replace HRX := Lib.hid (HRX.out.below hb)
  replace HRQ := Lib.hid (HRQ.out.below hb)
  replace HP := Lib.hid (HP.out.below hb)
  replace HC := Lib.hid (HC.out.below hb)
  replace GQ := Lib.hid (own_below' GQ.out hb)
  replace GA := Lib.hid (own_below' GA.out hb)
  replace GN := Lib.hid (own_below' GN.out hb)
  replace GX := Lib.hid (own_below' GX.out hb)
  replace HV7 := Lib.hid (own_below' HV7.out hb)
  clear hb
  rw [HLL.out] at ho
  rw [HEE.out]
  have HV8 := Lib.hid ho
  clear ho
  obtain ⟨y0, y1, y2, y3, y4, y5, y6, y7, y8, y9, y10, y11, _⟩ := HCA.out.u12
  go_wp2_with fail
  refine (flags_any mi mo mr b1 b2 b3 b4 b5 _).mono ?_; rintro e w9 ⟨rfl, hb⟩
  clear y0 y1 y2 y3 y4 y5 y6 y7 y8 y9 y10 y11
  replace HB := Lib.hid (HB.out.trans (hb.mono HB.out.size))
  replace HCA := Lib.hid (HCA.out.below hb)
  replace HMA := Lib.hid (HMA.out.below hb)
  replace HRA := Lib.hid (HRA.out.below hb)
  replace HRN := Lib.hid (HRN.out.below hb)
  replace HRX := Lib.hid (HRX.out.below hb)
  replace HRQ := Lib.hid (HRQ.out.below hb)
  replace HP := Lib.hid (HP.out.below hb)
  replace HC := Lib.hid (HC.out.below hb)
  replace GQ := Lib.hid (own_below' GQ.out hb)
  replace GA := Lib.hid (own_below' GA.out hb)
  replace GN := Lib.hid (own_below' GN.out hb)
  replace GX := Lib.hid (own_below' GX.out hb)
  replace HV7 := Lib.hid (own_below' HV7.out hb)
  replace HV8 := Lib.hid (own_below' HV8.out hb)
  clear hb
  rw [HF1.out, HF2.out]
  obtain ⟨y0, y1, y2, y3, y4, y5, y6, y7, y8, y9, y10, y11, _⟩ := HP.out.u12
  go_wp2_with fail
  refine (rflags_any mi mo mr b1 b2 b3 b4 b5 _).mono ?_; rintro e w10 ⟨rfl, hb⟩
  clear y0 y1 y2 y3 y4 y5 y6 y7 y8 y9 y10 y11
  replace HB := Lib.hid (HB.out.trans (hb.mono HB.out.size))
  replace HCA := Lib.hid (HCA.out.below hb)
  replace HMA := Lib.hid (HMA.out.below hb)
  replace HRA := Lib.hid (HRA.out.below hb)
  replace HRN := Lib.hid (HRN.out.below hb)
  replace HRX := Lib.hid (HRX.out.below hb)
  replace HRQ := Lib.hid (HRQ.out.below hb)
  replace HP := Lib.hid (HP.out.below hb)
  replace HC := Lib.hid (HC.out.below hb)
  replace GQ := Lib.hid (own_below' GQ.out hb)
  replace GA := Lib.hid (own_below' GA.out hb)
  replace GN := Lib.hid (own_below' GN.out hb)
  replace GX := Lib.hid (own_below' GX.out hb)
  replace HV7 := Lib.hid (own_below' HV7.out hb)
  replace HV8 := Lib.hid (own_below' HV8.out hb)
  clear hb
  rw [HF1.out, HF2.out]
  go_wp2_with fail
  refine (HU1.out _).mono ?_; rintro e w11 ⟨rfl, hb⟩
  replace HB := Lib.hid (HB.out.trans (hb.mono HB.out.size))
  replace HCA := Lib.hid (HCA.out.below hb)
  replace HMA := Lib.hid (HMA.out.below hb)
  replace HRA := Lib.hid (HRA.out.below hb)
  replace HRN := Lib.hid (HRN.out.below hb)
  replace HRX := Lib.hid (HRX.out.below hb)
  replace HRQ := Lib.hid (HRQ.out.below hb)
  replace HP := Lib.hid (HP.out.below hb)
  replace HC := Lib.hid (HC.out.below hb)
  replace GQ := Lib.hid (own_below' GQ.out hb)
  replace GA := Lib.hid (own_below' GA.out hb)
  replace GN := Lib.hid (own_below' GN.out hb)
  replace GX := Lib.hid (own_below' GX.out hb)
  replace HV7 := Lib.hid (own_below' HV7.out hb)
  replace HV8 := Lib.hid (own_below' HV8.out hb)
  clear hb
  have hba := (Below.refl _ _ : Below w11.heap.size w11 w11).alloc (Nat.le_refl _) (.cells #[.int .i64 a0, .int .i64 a1, .int .i64 a2, .bool c1, .bool c2, .bool c3, .bool c4, .bool c5] 23)
  have HH1 := Lib.hid (CN.new w11 #[.int .i64 a0, .int .i64 a1, .int .i64 a2, .bool c1, .bool c2, .bool c3, .bool c4, .bool c5] 23)
  replace HB := Lib.hid (HB.out.trans (hba.mono HB.out.size))
  replace HCA := Lib.hid (HCA.out.below hba)
  replace HMA := Lib.hid (HMA.out.below hba)
  replace HRA := Lib.hid (HRA.out.below hba)
  replace HRN := Lib.hid (HRN.out.below hba)
  replace HRX := Lib.hid (HRX.out.below hba)
  replace HRQ := Lib.hid (HRQ.out.below hba)
  replace HP := Lib.hid (HP.out.below hba)
  replace HC := Lib.hid (HC.out.below hba)
  replace GQ := Lib.hid (own_below' GQ.out hba)
  replace GA := Lib.hid (own_below' GA.out hba)
  replace GN := Lib.hid (own_below' GN.out hba)
  replace GX := Lib.hid (own_below' GX.out hba)
  replace HV7 := Lib.hid (own_below' HV7.out hba)
  replace HV8 := Lib.hid (own_below' HV8.out hba)
  obtain ⟨w12, hw⟩ : ∃ x, w11.alloc (.cells #[.int .i64 a0, .int .i64 a1, .int .i64 a2, .bool c1, .bool c2, .bool c3, .bool c4, .bool c5] 23) = x := ⟨_, rfl⟩
  obtain ⟨q12, hq⟩ : ∃ x, w11.heap.size = x := ⟨_, rfl⟩
  rw [hw, hq] at HH1
  rw [hw] at HB HCA HMA HRA HRN HRX HRQ HP HC GQ GA GN GX HV7 HV8
  have HW := Lib.hid hw
  have HQ_ := Lib.hid hq
  clear hba hw hq
  go_upto_region 12 with (fail)
  rw [HW.out, HQ_.out]
  clear HW HQ_
  go_wp2_with fail
  refine (HU2.out _).mono ?_; rintro e w13 ⟨rfl, hb⟩
  replace HB := Lib.hid (HB.out.trans (hb.mono HB.out.size))
  replace HCA := Lib.hid (HCA.out.below hb)
  replace HMA := Lib.hid (HMA.out.below hb)
  replace HRA := Lib.hid (HRA.out.below hb)
  replace HRN := Lib.hid (HRN.out.below hb)
  replace HRX := Lib.hid (HRX.out.below hb)
  replace HRQ := Lib.hid (HRQ.out.below hb)
  replace HP := Lib.hid (HP.out.below hb)
  replace HC := Lib.hid (HC.out.below hb)
  replace GQ := Lib.hid (own_below' GQ.out hb)
  replace GA := Lib.hid (own_below' GA.out hb)
  replace GN := Lib.hid (own_below' GN.out hb)
  replace GX := Lib.hid (own_below' GX.out hb)
  replace HV7 := Lib.hid (own_below' HV7.out hb)
  replace HV8 := Lib.hid (own_below' HV8.out hb)
  replace HH1 := Lib.hid (HH1.out.below hb)
  clear hb
  have hba := (Below.refl _ _ : Below w13.heap.size w13 w13).alloc (Nat.le_refl _) (.cells #[.int .i64 a0, .int .i64 a1, .int .i64 a2, .bool c1, .bool c2, .bool c3, .bool c4, .bool c5] 30)
  have HH2 := Lib.hid (CN.new w13 #[.int .i64 a0, .int .i64 a1, .int .i64 a2, .bool c1, .bool c2, .bool c3, .bool c4, .bool c5] 30)
  replace HB := Lib.hid (HB.out.trans (hba.mono HB.out.size))
  replace HCA := Lib.hid (HCA.out.below hba)
  replace HMA := Lib.hid (HMA.out.below hba)
  replace HRA := Lib.hid (HRA.out.below hba)
  replace HRN := Lib.hid (HRN.out.below hba)
  replace HRX := Lib.hid (HRX.out.below hba)
  replace HRQ := Lib.hid (HRQ.out.below hba)
  replace HP := Lib.hid (HP.out.below hba)
  replace HC := Lib.hid (HC.out.below hba)
  replace GQ := Lib.hid (own_below' GQ.out hba)
  replace GA := Lib.hid (own_below' GA.out hba)
  replace GN := Lib.hid (own_below' GN.out hba)
  replace GX := Lib.hid (own_below' GX.out hba)
  replace HV7 := Lib.hid (own_below' HV7.out hba)
  replace HV8 := Lib.hid (own_below' HV8.out hba)
  replace HH1 := Lib.hid (HH1.out.below hba)
  obtain ⟨w14, hw⟩ : ∃ x, w13.alloc (.cells #[.int .i64 a0, .int .i64 a1, .int .i64 a2, .bool c1, .bool c2, .bool c3, .bool c4, .bool c5] 30) = x := ⟨_, rfl⟩
  obtain ⟨q14, hq⟩ : ∃ x, w13.heap.size = x := ⟨_, rfl⟩
  rw [hw, hq] at HH2
  rw [hw] at HB HCA HMA HRA HRN HRX HRQ HP HC GQ GA GN GX HV7 HV8 HH1
  have HW := Lib.hid hw
  have HQ_ := Lib.hid hq
  clear hba hw hq
  go_upto_region 13 with (fail)
  rw [HW.out, HQ_.out]
  clear HW HQ_
  have HS1 := Lib.hid (msgAt_mk (mi := mi) (mo := mo) (mr := mr) (b1 := b1) (b2 := b2) (b3 := b3) (b4 := b4) (b5 := b5) HRQ.out HNQ.out HRA.out HNA.out HRN.out HNN.out HRX.out HNX.out)
  have HS2 := Lib.hid (msgAt_mk (mi := mi) (mo := mo) (mr := mr) (b1 := b1) (b2 := b2) (b3 := b3) (b4 := b4) (b5 := b5) (rowQ_own2 GQ.out).1 (rowQ_own2 GQ.out).2 (rowR_own2 GA.out).1 (rowR_own2 GA.out).2 (rowR_own2 GN.out).1 (rowR_own2 GN.out).2 (rowR_own2 GX.out).1 (rowR_own2 GX.out).2)
  have HSM := Lib.hid (show SmM (⟨mi, mo, mr, b1, b2, b3, b4, b5, ma.q, ma.a, ma.n, ma.x⟩ : MsgP) from ⟨by show ma.q.length ≤ 100000; rw [HEQ.out]; exact HLM.out.1, by show ma.a.length ≤ 100000; rw [HEA.out]; exact HLM.out.2.1, by show ma.n.length ≤ 100000; rw [HEN.out]; exact HLM.out.2.2.1, by show ma.x.length ≤ 100000; rw [HEX.out]; exact HLM.out.2.2.2⟩)
  have eM : (MM == MM) = true := beq_self_eq_true MM
  have eE : (EE == EE) = true := beq_self_eq_true EE
  have eF : (F1 == F1) = true := beq_self_eq_true F1
  have eG : (F2 == F2) = true := beq_self_eq_true F2
  have eR : (er == er) = true := beq_self_eq_true er
  refine wp_region_held_drew (S := (fun wx => Below w14.heap.size w14 wx)) (by kernel_rfl) ((Below.refl w14.heap.size w14).drew) (fun hHeld => ?_)
  refine wpAnyH_ready (rs := [0]) (by kernel_rfl) (by simp) ?_
  refine AllReadyH.cons (o := { dst := some 83, op := Go.Op.call { callee := Go.Callee.value (Go.Operand.func 13), args := #[], argTypes := #[] }, type := 4, pos := "law.go:54", after := #[], guard := none }) rfl (fun K hK => ?_) AllReadyH.nil
  go_simp
  refine (first5 _).mono ?_; rintro e wt0 ⟨rfl, hb⟩
  go_wp2_with fail
  refine hK.out _ _ (hHeld.trans (hb.mono hHeld.size)) (fun hHeld2 => ?_)
  clear hK K hHeld
  have hHeld := hHeld2
  clear hHeld2
  try simp only [Act.put, List.setIfInBounds_toArray, List.set_cons_zero, List.set_cons_succ]
  refine wpAnyH_take (i := 1) (oi := { dst := some 84, op := Go.Op.move (Go.Operand.tmp 83), type := 4, pos := "law.go:54", after := #[{ on := 0, ground := Go.Ground.data }, { on := 0, ground := Go.Ground.chain }], guard := none }) (v := ?v1_210102) rfl (by kernel_rfl) (by kernel_rfl) (by kernel_rfl) (fun _ _ _ h => h) (Or.inl ⟨by rfl, ?y1_210102⟩) hHeld ?r1_210102
  case y1_210102 => intro w hSw; (try dsimp only at hSw); go_simp; try with_reducible rfl
  try simp only [Act.put, List.setIfInBounds_toArray, List.set_cons_zero, List.set_cons_succ]
  refine wpAnyH_take (i := 2) (oi := { dst := some 85, op := Go.Op.load 27 (Go.Operand.tmp 4), type := 27, pos := "law.go:54", after := #[{ on := 1, ground := Go.Ground.guard }], guard := some (1, true) }) (v := ?v2_210102) rfl (by kernel_rfl) (by kernel_rfl) (by kernel_rfl) (fun _ _ _ h => h) (Or.inl ⟨by rfl, ?y2_210102⟩) hHeld ?r2_210102
  case y2_210102 => intro w hSw; (try dsimp only at hSw); obtain ⟨y0, y1, y2, y3, y4, y5, y6, y7, y8, y9, y10, y11, _⟩ := (HCA.out.below hSw).u12; go_simp; try with_reducible rfl
  try simp only [Act.put, List.setIfInBounds_toArray, List.set_cons_zero, List.set_cons_succ]
  refine wpAnyH_take (i := 4) (oi := { dst := some 87, op := Go.Op.load 32 (Go.Operand.tmp 9), type := 32, pos := "law.go:54", after := #[{ on := 1, ground := Go.Ground.guard }], guard := some (1, true) }) (v := ?v4_210102) rfl (by kernel_rfl) (by kernel_rfl) (by kernel_rfl) (fun _ _ _ h => h) (Or.inl ⟨by rfl, ?y4_210102⟩) hHeld ?r4_210102
  case y4_210102 => intro w hSw; (try dsimp only at hSw); obtain ⟨y0, y1, y2, y3, y4, y5, y6, y7, y8, y9, y10, y11, _⟩ := (HP.out.below hSw).u12; go_simp; try with_reducible rfl
  try simp only [Act.put, List.setIfInBounds_toArray, List.set_cons_zero, List.set_cons_succ]
  refine wpAnyH_ready (rs := [3]) (by kernel_rfl) (by simp) ?_
  refine AllReadyH.cons (o := { dst := some 86, op := Go.Op.call { callee := Go.Callee.value (Go.Operand.func 23), args := #[Go.Operand.tmp 85], argTypes := #[27] }, type := 4, pos := "law.go:54", after := #[{ on := 2, ground := Go.Ground.data }, { on := 1, ground := Go.Ground.chain }, { on := 1, ground := Go.Ground.guard }], guard := some (1, true) }) rfl (fun K hK => ?_) AllReadyH.nil
  go_simp
  refine (may_any5 mi mo mr b1 b2 b3 b4 b5 qa na sa xa ql qc nl nc sl sc xl xc ma.q ma.a ma.n ma.x _ (HRQ.out.below hHeld) (HRA.out.below hHeld) (HRN.out.below hHeld) (HRX.out.below hHeld) HLM.out HZQ.out HZ1.out HZ2.out HZ3.out).mono ?_; rintro e wt3 ⟨rfl, hb⟩
  rw [HMM.out]
  go_wp2_with fail
  refine hK.out _ _ (hHeld.trans (hb.mono hHeld.size)) (fun hHeld2 => ?_)
  clear hK K hHeld
  have hHeld := hHeld2
  clear hHeld2
  try simp only [Act.put, List.setIfInBounds_toArray, List.set_cons_zero, List.set_cons_succ]
  refine wpAnyH_ready (rs := [5]) (by kernel_rfl) (by simp) ?_
  refine AllReadyH.cons (o := { dst := some 88, op := Go.Op.call { callee := Go.Callee.value (Go.Operand.func 24), args := #[Go.Operand.tmp 87], argTypes := #[32] }, type := 4, pos := "law.go:54", after := #[{ on := 4, ground := Go.Ground.data }, { on := 3, ground := Go.Ground.chain }, { on := 1, ground := Go.Ground.guard }], guard := some (1, true) }) rfl (fun K hK => ?_) AllReadyH.nil
  go_simp
  refine (rmay_any5 mi mo mr b1 b2 b3 b4 b5 qa na sa xa ql qc nl nc sl sc xl xc ma.q ma.a ma.n ma.x _ (HRQ.out.below hHeld) (HRA.out.below hHeld) HNA.out (HRN.out.below hHeld) HNN.out (HRX.out.below hHeld) HNX.out HLM.out HZQ.out HZ1.out HZ2.out HZ3.out).mono ?_; rintro e wt5 ⟨rfl, hb⟩
  rw [HMM.out]
  go_wp2_with fail
  refine hK.out _ _ (hHeld.trans (hb.mono hHeld.size)) (fun hHeld2 => ?_)
  clear hK K hHeld
  have hHeld := hHeld2
  clear hHeld2
  try simp only [Act.put, List.setIfInBounds_toArray, List.set_cons_zero, List.set_cons_succ]
  refine wpAnyH_take (i := 6) (oi := { dst := some 89, op := Go.Op.binOp Go.BinOp.eql 4 (Go.Operand.tmp 86) (Go.Operand.tmp 88) 4, type := 4, pos := "law.go:54", after := #[{ on := 3, ground := Go.Ground.data }, { on := 5, ground := Go.Ground.data }, { on := 1, ground := Go.Ground.guard }], guard := some (1, true) }) (v := ?v6_210104) rfl (by kernel_rfl) (by kernel_rfl) (by kernel_rfl) (fun _ _ _ h => h) (Or.inl ⟨by rfl, ?y6_210104⟩) hHeld ?r6_210104
  case y6_210104 => intro w hSw; (try dsimp only at hSw); go_simp; try with_reducible rfl
  try simp only [Act.put, List.setIfInBounds_toArray, List.set_cons_zero, List.set_cons_succ]
  refine wpAnyH_take (i := 7) (oi := { dst := some 90, op := Go.Op.pick (Go.Operand.tmp 84) (Go.Operand.tmp 89) (Go.Operand.const (Go.Value.bool false)), type := 4, pos := "law.go:54", after := #[{ on := 1, ground := Go.Ground.data }, { on := 6, ground := Go.Ground.data }], guard := none }) (v := ?v7_210104) rfl (by kernel_rfl) (by kernel_rfl) (by kernel_rfl) (fun _ _ _ h => h) (Or.inl ⟨by rfl, ?y7_210104⟩) hHeld ?r7_210104
  case y7_210104 => intro w hSw; (try dsimp only at hSw); go_simp; try with_reducible rfl
  try simp only [Act.put, List.setIfInBounds_toArray, List.set_cons_zero, List.set_cons_succ]
  refine wpAnyH_take (i := 8) (oi := { dst := some 91, op := Go.Op.move (Go.Operand.tmp 90), type := 4, pos := "law.go:54", after := #[{ on := 7, ground := Go.Ground.data }, { on := 5, ground := Go.Ground.chain }], guard := none }) (v := ?v8_210104) rfl (by kernel_rfl) (by kernel_rfl) (by kernel_rfl) (fun _ _ _ h => h) (Or.inl ⟨by rfl, ?y8_210104⟩) hHeld ?r8_210104
  case y8_210104 => intro w hSw; (try dsimp only at hSw); go_simp; try with_reducible rfl
  try simp only [Act.put, List.setIfInBounds_toArray, List.set_cons_zero, List.set_cons_succ]
  refine wpAnyH_take (i := 9) (oi := { dst := some 92, op := Go.Op.move (Go.Operand.tmp 11), type := 35, pos := "law.go:54", after := #[{ on := 8, ground := Go.Ground.guard }], guard := some (8, true) }) (v := ?v9_210104) rfl (by kernel_rfl) (by kernel_rfl) (by kernel_rfl) (fun _ _ _ h => h) (Or.inl ⟨by rfl, ?y9_210104⟩) hHeld ?r9_210104
  case y9_210104 => intro w hSw; (try dsimp only at hSw); go_simp; try with_reducible rfl
  try simp only [Act.put, List.setIfInBounds_toArray, List.set_cons_zero, List.set_cons_succ]
  refine wpAnyH_take (i := 10) (oi := { dst := some 93, op := Go.Op.move (Go.Operand.tmp 13), type := 35, pos := "law.go:54", after := #[{ on := 8, ground := Go.Ground.guard }], guard := some (8, true) }) (v := ?v10_210104) rfl (by kernel_rfl) (by kernel_rfl) (by kernel_rfl) (fun _ _ _ h => h) (Or.inl ⟨by rfl, ?y10_210104⟩) hHeld ?r10_210104
  case y10_210104 => intro w hSw; (try dsimp only at hSw); go_simp; try with_reducible rfl
  try simp only [Act.put, List.setIfInBounds_toArray, List.set_cons_zero, List.set_cons_succ]
  refine wpAnyH_ready (rs := [11]) (by kernel_rfl) (by simp) ?_
  refine AllReadyH.cons (o := { dst := some 94, op := Go.Op.call { callee := Go.Callee.value (Go.Operand.func 25), args := #[Go.Operand.tmp 92, Go.Operand.tmp 93], argTypes := #[35, 35] }, type := 4, pos := "law.go:54", after := #[{ on := 9, ground := Go.Ground.data }, { on := 10, ground := Go.Ground.data }, { on := 8, ground := Go.Ground.chain }, { on := 8, ground := Go.Ground.guard }], guard := some (8, true) }) rfl (fun K hK => ?_) AllReadyH.nil
  go_simp
  refine (bytesD v7 v8 _ LL _ _ _ (own_below' HV7.out hHeld) (own_below' HV8.out hHeld)).mono ?_; rintro e wt11 ⟨rfl, hb⟩
  go_wp2_with fail
  refine hK.out _ _ (hHeld.trans (hb.mono hHeld.size)) (fun hHeld2 => ?_)
  clear hK K hHeld
  have hHeld := hHeld2
  clear hHeld2
  try simp only [Act.put, List.setIfInBounds_toArray, List.set_cons_zero, List.set_cons_succ]
  refine wpAnyH_take (i := 12) (oi := { dst := some 95, op := Go.Op.pick (Go.Operand.tmp 91) (Go.Operand.tmp 94) (Go.Operand.const (Go.Value.bool false)), type := 4, pos := "law.go:54", after := #[{ on := 8, ground := Go.Ground.data }, { on := 11, ground := Go.Ground.data }], guard := none }) (v := ?v12_210105) rfl (by kernel_rfl) (by kernel_rfl) (by kernel_rfl) (fun _ _ _ h => h) (Or.inl ⟨by rfl, ?y12_210105⟩) hHeld ?r12_210105
  case y12_210105 => intro w hSw; (try dsimp only at hSw); go_simp; try with_reducible rfl
  try simp only [Act.put, List.setIfInBounds_toArray, List.set_cons_zero, List.set_cons_succ]
  refine wpAnyH_take (i := 13) (oi := { dst := some 96, op := Go.Op.move (Go.Operand.tmp 95), type := 4, pos := "law.go:54", after := #[{ on := 12, ground := Go.Ground.data }, { on := 11, ground := Go.Ground.chain }], guard := none }) (v := ?v13_210105) rfl (by kernel_rfl) (by kernel_rfl) (by kernel_rfl) (fun _ _ _ h => h) (Or.inl ⟨by rfl, ?y13_210105⟩) hHeld ?r13_210105
  case y13_210105 => intro w hSw; (try dsimp only at hSw); go_simp; try with_reducible rfl
  try simp only [Act.put, List.setIfInBounds_toArray, List.set_cons_zero, List.set_cons_succ]
  refine wpAnyH_take (i := 14) (oi := { dst := some 97, op := Go.Op.move (Go.Operand.tmp 12), type := 36, pos := "law.go:54", after := #[{ on := 13, ground := Go.Ground.guard }], guard := some (13, true) }) (v := ?v14_210105) rfl (by kernel_rfl) (by kernel_rfl) (by kernel_rfl) (fun _ _ _ h => h) (Or.inl ⟨by rfl, ?y14_210105⟩) hHeld ?r14_210105
  case y14_210105 => intro w hSw; (try dsimp only at hSw); go_simp; try with_reducible rfl
  try simp only [Act.put, List.setIfInBounds_toArray, List.set_cons_zero, List.set_cons_succ]
  refine wpAnyH_take (i := 15) (oi := { dst := some 98, op := Go.Op.move (Go.Operand.tmp 14), type := 36, pos := "law.go:54", after := #[{ on := 13, ground := Go.Ground.guard }], guard := some (13, true) }) (v := ?v15_210105) rfl (by kernel_rfl) (by kernel_rfl) (by kernel_rfl) (fun _ _ _ h => h) (Or.inl ⟨by rfl, ?y15_210105⟩) hHeld ?r15_210105
  case y15_210105 => intro w hSw; (try dsimp only at hSw); go_simp; try with_reducible rfl
  try simp only [Act.put, List.setIfInBounds_toArray, List.set_cons_zero, List.set_cons_succ]
  refine wpAnyH_take (i := 16) (oi := { dst := some 99, op := Go.Op.binOp Go.BinOp.eql 36 (Go.Operand.tmp 97) (Go.Operand.tmp 98) 36, type := 4, pos := "law.go:54", after := #[{ on := 14, ground := Go.Ground.data }, { on := 15, ground := Go.Ground.data }, { on := 13, ground := Go.Ground.guard }], guard := some (13, true) }) (v := ?v16_210105) rfl (by kernel_rfl) (by kernel_rfl) (by kernel_rfl) (fun _ _ _ h => h) (Or.inl ⟨by rfl, ?y16_210105⟩) hHeld ?r16_210105
  case y16_210105 => intro w hSw; (try dsimp only at hSw); go_simp; try with_reducible rfl
  try simp only [Act.put, List.setIfInBounds_toArray, List.set_cons_zero, List.set_cons_succ]
  refine wpAnyH_take (i := 17) (oi := { dst := some 100, op := Go.Op.pick (Go.Operand.tmp 96) (Go.Operand.tmp 99) (Go.Operand.const (Go.Value.bool false)), type := 4, pos := "law.go:54", after := #[{ on := 13, ground := Go.Ground.data }, { on := 16, ground := Go.Ground.data }], guard := none }) (v := ?v17_210105) rfl (by kernel_rfl) (by kernel_rfl) (by kernel_rfl) (fun _ _ _ h => h) (Or.inl ⟨by rfl, ?y17_210105⟩) hHeld ?r17_210105
  case y17_210105 => intro w hSw; (try dsimp only at hSw); go_simp; try with_reducible rfl
  try simp only [Act.put, List.setIfInBounds_toArray, List.set_cons_zero, List.set_cons_succ]
  refine wpAnyH_take (i := 18) (oi := { dst := some 101, op := Go.Op.move (Go.Operand.tmp 100), type := 4, pos := "law.go:54", after := #[{ on := 17, ground := Go.Ground.data }, { on := 13, ground := Go.Ground.chain }], guard := none }) (v := ?v18_210105) rfl (by kernel_rfl) (by kernel_rfl) (by kernel_rfl) (fun _ _ _ h => h) (Or.inl ⟨by rfl, ?y18_210105⟩) hHeld ?r18_210105
  case y18_210105 => intro w hSw; (try dsimp only at hSw); go_simp; try with_reducible rfl
  try simp only [Act.put, List.setIfInBounds_toArray, List.set_cons_zero, List.set_cons_succ]
  refine wpAnyH_take (i := 19) (oi := { dst := some 102, op := Go.Op.move (Go.Operand.tmp 15), type := 3, pos := "law.go:54", after := #[{ on := 18, ground := Go.Ground.guard }], guard := some (18, true) }) (v := ?v19_210105) rfl (by kernel_rfl) (by kernel_rfl) (by kernel_rfl) (fun _ _ _ h => h) (Or.inl ⟨by rfl, ?y19_210105⟩) hHeld ?r19_210105
  case y19_210105 => intro w hSw; (try dsimp only at hSw); go_simp; try with_reducible rfl
  try simp only [Act.put, List.setIfInBounds_toArray, List.set_cons_zero, List.set_cons_succ]
  refine wpAnyH_take (i := 20) (oi := { dst := some 103, op := Go.Op.move (Go.Operand.tmp 17), type := 3, pos := "law.go:54", after := #[{ on := 18, ground := Go.Ground.guard }], guard := some (18, true) }) (v := ?v20_210105) rfl (by kernel_rfl) (by kernel_rfl) (by kernel_rfl) (fun _ _ _ h => h) (Or.inl ⟨by rfl, ?y20_210105⟩) hHeld ?r20_210105
  case y20_210105 => intro w hSw; (try dsimp only at hSw); go_simp; try with_reducible rfl
  try simp only [Act.put, List.setIfInBounds_toArray, List.set_cons_zero, List.set_cons_succ]
  refine wpAnyH_take (i := 21) (oi := { dst := some 104, op := Go.Op.binOp Go.BinOp.eql 3 (Go.Operand.tmp 102) (Go.Operand.tmp 103) 3, type := 4, pos := "law.go:54", after := #[{ on := 19, ground := Go.Ground.data }, { on := 20, ground := Go.Ground.data }, { on := 18, ground := Go.Ground.guard }], guard := some (18, true) }) (v := ?v21_210105) rfl (by kernel_rfl) (by kernel_rfl) (by kernel_rfl) (fun _ _ _ h => h) (Or.inl ⟨by rfl, ?y21_210105⟩) hHeld ?r21_210105
  case y21_210105 => intro w hSw; (try dsimp only at hSw); go_simp; try with_reducible rfl
  try simp only [Act.put, List.setIfInBounds_toArray, List.set_cons_zero, List.set_cons_succ]
  refine wpAnyH_take (i := 22) (oi := { dst := some 105, op := Go.Op.pick (Go.Operand.tmp 101) (Go.Operand.tmp 104) (Go.Operand.const (Go.Value.bool false)), type := 4, pos := "law.go:54", after := #[{ on := 18, ground := Go.Ground.data }, { on := 21, ground := Go.Ground.data }], guard := none }) (v := ?v22_210105) rfl (by kernel_rfl) (by kernel_rfl) (by kernel_rfl) (fun _ _ _ h => h) (Or.inl ⟨by rfl, ?y22_210105⟩) hHeld ?r22_210105
  case y22_210105 => intro w hSw; (try dsimp only at hSw); go_simp; try with_reducible rfl
  try simp only [Act.put, List.setIfInBounds_toArray, List.set_cons_zero, List.set_cons_succ]
  refine wpAnyH_take (i := 23) (oi := { dst := some 106, op := Go.Op.move (Go.Operand.tmp 105), type := 4, pos := "law.go:54", after := #[{ on := 22, ground := Go.Ground.data }, { on := 18, ground := Go.Ground.chain }], guard := none }) (v := ?v23_210105) rfl (by kernel_rfl) (by kernel_rfl) (by kernel_rfl) (fun _ _ _ h => h) (Or.inl ⟨by rfl, ?y23_210105⟩) hHeld ?r23_210105
  case y23_210105 => intro w hSw; (try dsimp only at hSw); go_simp; try with_reducible rfl
  try simp only [Act.put, List.setIfInBounds_toArray, List.set_cons_zero, List.set_cons_succ]
  refine wpAnyH_take (i := 24) (oi := { dst := some 107, op := Go.Op.move (Go.Operand.tmp 16), type := 36, pos := "law.go:54", after := #[{ on := 23, ground := Go.Ground.guard }], guard := some (23, true) }) (v := ?v24_210105) rfl (by kernel_rfl) (by kernel_rfl) (by kernel_rfl) (fun _ _ _ h => h) (Or.inl ⟨by rfl, ?y24_210105⟩) hHeld ?r24_210105
  case y24_210105 => intro w hSw; (try dsimp only at hSw); go_simp; try with_reducible rfl
  try simp only [Act.put, List.setIfInBounds_toArray, List.set_cons_zero, List.set_cons_succ]
  refine wpAnyH_take (i := 25) (oi := { dst := some 108, op := Go.Op.move (Go.Operand.tmp 18), type := 36, pos := "law.go:54", after := #[{ on := 23, ground := Go.Ground.guard }], guard := some (23, true) }) (v := ?v25_210105) rfl (by kernel_rfl) (by kernel_rfl) (by kernel_rfl) (fun _ _ _ h => h) (Or.inl ⟨by rfl, ?y25_210105⟩) hHeld ?r25_210105
  case y25_210105 => intro w hSw; (try dsimp only at hSw); go_simp; try with_reducible rfl
  try simp only [Act.put, List.setIfInBounds_toArray, List.set_cons_zero, List.set_cons_succ]
  refine wpAnyH_take (i := 26) (oi := { dst := some 109, op := Go.Op.binOp Go.BinOp.eql 36 (Go.Operand.tmp 107) (Go.Operand.tmp 108) 36, type := 4, pos := "law.go:54", after := #[{ on := 24, ground := Go.Ground.data }, { on := 25, ground := Go.Ground.data }, { on := 23, ground := Go.Ground.guard }], guard := some (23, true) }) (v := ?v26_210105) rfl (by kernel_rfl) (by kernel_rfl) (by kernel_rfl) (fun _ _ _ h => h) (Or.inl ⟨by rfl, ?y26_210105⟩) hHeld ?r26_210105
  case y26_210105 => intro w hSw; (try dsimp only at hSw); go_simp; try with_reducible rfl
  try simp only [Act.put, List.setIfInBounds_toArray, List.set_cons_zero, List.set_cons_succ]
  refine wpAnyH_take (i := 27) (oi := { dst := some 110, op := Go.Op.pick (Go.Operand.tmp 106) (Go.Operand.tmp 109) (Go.Operand.const (Go.Value.bool false)), type := 4, pos := "law.go:54", after := #[{ on := 23, ground := Go.Ground.data }, { on := 26, ground := Go.Ground.data }], guard := none }) (v := ?v27_210105) rfl (by kernel_rfl) (by kernel_rfl) (by kernel_rfl) (fun _ _ _ h => h) (Or.inl ⟨by rfl, ?y27_210105⟩) hHeld ?r27_210105
  case y27_210105 => intro w hSw; (try dsimp only at hSw); go_simp; try with_reducible rfl
  try simp only [Act.put, List.setIfInBounds_toArray, List.set_cons_zero, List.set_cons_succ]
  refine wpAnyH_take (i := 28) (oi := { dst := some 111, op := Go.Op.move (Go.Operand.tmp 110), type := 4, pos := "law.go:54", after := #[{ on := 27, ground := Go.Ground.data }, { on := 23, ground := Go.Ground.chain }], guard := none }) (v := ?v28_210105) rfl (by kernel_rfl) (by kernel_rfl) (by kernel_rfl) (fun _ _ _ h => h) (Or.inl ⟨by rfl, ?y28_210105⟩) hHeld ?r28_210105
  case y28_210105 => intro w hSw; (try dsimp only at hSw); go_simp; try with_reducible rfl
  try simp only [Act.put, List.setIfInBounds_toArray, List.set_cons_zero, List.set_cons_succ]
  refine wpAnyH_take (i := 29) (oi := { dst := some 112, op := Go.Op.load 23 (Go.Operand.tmp 19), type := 23, pos := "law.go:54", after := #[{ on := 28, ground := Go.Ground.guard }], guard := some (28, true) }) (v := ?v29_210105) rfl (by kernel_rfl) (by kernel_rfl) (by kernel_rfl) (fun _ _ _ h => h) (Or.inl ⟨by rfl, ?y29_210105⟩) hHeld ?r29_210105
  case y29_210105 => intro w hSw; (try dsimp only at hSw); obtain ⟨y0, y1, y2, y3, y4, y5, y6, y7, _⟩ := (HH1.out.below hSw).u8; go_simp; try with_reducible rfl
  try simp only [Act.put, List.setIfInBounds_toArray, List.set_cons_zero, List.set_cons_succ]
  refine wpAnyH_take (i := 31) (oi := { dst := some 114, op := Go.Op.load 30 (Go.Operand.tmp 21), type := 30, pos := "law.go:54", after := #[{ on := 28, ground := Go.Ground.guard }], guard := some (28, true) }) (v := ?v31_210105) rfl (by kernel_rfl) (by kernel_rfl) (by kernel_rfl) (fun _ _ _ h => h) (Or.inl ⟨by rfl, ?y31_210105⟩) hHeld ?r31_210105
  case y31_210105 => intro w hSw; (try dsimp only at hSw); obtain ⟨y0, y1, y2, y3, y4, y5, y6, y7, _⟩ := (HH2.out.below hSw).u8; go_simp; try with_reducible rfl
  try simp only [Act.put, List.setIfInBounds_toArray, List.set_cons_zero, List.set_cons_succ]
  refine wpAnyH_ready (rs := [30]) (by kernel_rfl) (by simp) ?_
  refine AllReadyH.cons (o := { dst := some 113, op := Go.Op.call { callee := Go.Callee.value (Go.Operand.func 26), args := #[Go.Operand.tmp 112], argTypes := #[23] }, type := 30, pos := "law.go:54", after := #[{ on := 29, ground := Go.Ground.data }, { on := 28, ground := Go.Ground.chain }, { on := 28, ground := Go.Ground.guard }], guard := some (28, true) }) rfl (fun K hK => ?_) AllReadyH.nil
  go_simp
  refine (head_any a0 a1 a2 c1 c2 c3 c4 c5 _).mono ?_; rintro e wt30 ⟨rfl, hb⟩
  go_wp2_with fail
  refine hK.out _ _ (hHeld.trans (hb.mono hHeld.size)) (fun hHeld2 => ?_)
  clear hK K hHeld
  have hHeld := hHeld2
  clear hHeld2
  try simp only [Act.put, List.setIfInBounds_toArray, List.set_cons_zero, List.set_cons_succ]
  refine wpAnyH_take (i := 32) (oi := { dst := some 115, op := Go.Op.binOp Go.BinOp.eql 30 (Go.Operand.tmp 113) (Go.Operand.tmp 114) 30, type := 4, pos := "law.go:54", after := #[{ on := 30, ground := Go.Ground.data }, { on := 31, ground := Go.Ground.data }, { on := 28, ground := Go.Ground.guard }], guard := some (28, true) }) (v := ?v32_210106) rfl (by kernel_rfl) (by kernel_rfl) (by kernel_rfl) (fun _ _ _ h => h) (Or.inl ⟨by rfl, ?y32_210106⟩) hHeld ?r32_210106
  case y32_210106 => intro w hSw; (try dsimp only at hSw); go_simp; try with_reducible rfl
  try simp only [Act.put, List.setIfInBounds_toArray, List.set_cons_zero, List.set_cons_succ]
  refine wpAnyH_take (i := 33) (oi := { dst := some 116, op := Go.Op.pick (Go.Operand.tmp 111) (Go.Operand.tmp 115) (Go.Operand.const (Go.Value.bool false)), type := 4, pos := "law.go:54", after := #[{ on := 28, ground := Go.Ground.data }, { on := 32, ground := Go.Ground.data }], guard := none }) (v := ?v33_210106) rfl (by kernel_rfl) (by kernel_rfl) (by kernel_rfl) (fun _ _ _ h => h) (Or.inl ⟨by rfl, ?y33_210106⟩) hHeld ?r33_210106
  case y33_210106 => intro w hSw; (try dsimp only at hSw); go_simp; try with_reducible rfl
  try simp only [Act.put, List.setIfInBounds_toArray, List.set_cons_zero, List.set_cons_succ]
  refine wpAnyH_take (i := 34) (oi := { dst := some 117, op := Go.Op.move (Go.Operand.tmp 116), type := 4, pos := "law.go:54", after := #[{ on := 33, ground := Go.Ground.data }, { on := 30, ground := Go.Ground.chain }], guard := none }) (v := ?v34_210106) rfl (by kernel_rfl) (by kernel_rfl) (by kernel_rfl) (fun _ _ _ h => h) (Or.inl ⟨by rfl, ?y34_210106⟩) hHeld ?r34_210106
  case y34_210106 => intro w hSw; (try dsimp only at hSw); go_simp; try with_reducible rfl
  try simp only [Act.put, List.setIfInBounds_toArray, List.set_cons_zero, List.set_cons_succ]
  refine wpAnyH_take (i := 35) (oi := { dst := some 118, op := Go.Op.move (Go.Operand.tmp 20), type := 36, pos := "law.go:54", after := #[{ on := 34, ground := Go.Ground.guard }], guard := some (34, true) }) (v := ?v35_210106) rfl (by kernel_rfl) (by kernel_rfl) (by kernel_rfl) (fun _ _ _ h => h) (Or.inl ⟨by rfl, ?y35_210106⟩) hHeld ?r35_210106
  case y35_210106 => intro w hSw; (try dsimp only at hSw); go_simp; try with_reducible rfl
  try simp only [Act.put, List.setIfInBounds_toArray, List.set_cons_zero, List.set_cons_succ]
  refine wpAnyH_take (i := 36) (oi := { dst := some 119, op := Go.Op.move (Go.Operand.tmp 22), type := 36, pos := "law.go:54", after := #[{ on := 34, ground := Go.Ground.guard }], guard := some (34, true) }) (v := ?v36_210106) rfl (by kernel_rfl) (by kernel_rfl) (by kernel_rfl) (fun _ _ _ h => h) (Or.inl ⟨by rfl, ?y36_210106⟩) hHeld ?r36_210106
  case y36_210106 => intro w hSw; (try dsimp only at hSw); go_simp; try with_reducible rfl
  try simp only [Act.put, List.setIfInBounds_toArray, List.set_cons_zero, List.set_cons_succ]
  refine wpAnyH_take (i := 37) (oi := { dst := some 120, op := Go.Op.binOp Go.BinOp.eql 36 (Go.Operand.tmp 118) (Go.Operand.tmp 119) 36, type := 4, pos := "law.go:54", after := #[{ on := 35, ground := Go.Ground.data }, { on := 36, ground := Go.Ground.data }, { on := 34, ground := Go.Ground.guard }], guard := some (34, true) }) (v := ?v37_210106) rfl (by kernel_rfl) (by kernel_rfl) (by kernel_rfl) (fun _ _ _ h => h) (Or.inl ⟨by rfl, ?y37_210106⟩) hHeld ?r37_210106
  case y37_210106 => intro w hSw; (try dsimp only at hSw); go_simp; try with_reducible rfl
  try simp only [Act.put, List.setIfInBounds_toArray, List.set_cons_zero, List.set_cons_succ]
  refine wpAnyH_take (i := 38) (oi := { dst := some 121, op := Go.Op.pick (Go.Operand.tmp 117) (Go.Operand.tmp 120) (Go.Operand.const (Go.Value.bool false)), type := 4, pos := "law.go:54", after := #[{ on := 34, ground := Go.Ground.data }, { on := 37, ground := Go.Ground.data }], guard := none }) (v := ?v38_210106) rfl (by kernel_rfl) (by kernel_rfl) (by kernel_rfl) (fun _ _ _ h => h) (Or.inl ⟨by rfl, ?y38_210106⟩) hHeld ?r38_210106
  case y38_210106 => intro w hSw; (try dsimp only at hSw); go_simp; try with_reducible rfl
  try simp only [Act.put, List.setIfInBounds_toArray, List.set_cons_zero, List.set_cons_succ]
  refine wpAnyH_take (i := 39) (oi := { dst := some 122, op := Go.Op.move (Go.Operand.tmp 121), type := 4, pos := "law.go:54", after := #[{ on := 38, ground := Go.Ground.data }, { on := 34, ground := Go.Ground.chain }], guard := none }) (v := ?v39_210106) rfl (by kernel_rfl) (by kernel_rfl) (by kernel_rfl) (fun _ _ _ h => h) (Or.inl ⟨by rfl, ?y39_210106⟩) hHeld ?r39_210106
  case y39_210106 => intro w hSw; (try dsimp only at hSw); go_simp; try with_reducible rfl
  try simp only [Act.put, List.setIfInBounds_toArray, List.set_cons_zero, List.set_cons_succ]
  refine wpAnyH_take (i := 40) (oi := { dst := some 123, op := Go.Op.load 27 (Go.Operand.tmp 4), type := 27, pos := "law.go:54", after := #[{ on := 39, ground := Go.Ground.guard }], guard := some (39, true) }) (v := ?v40_210106) rfl (by kernel_rfl) (by kernel_rfl) (by kernel_rfl) (fun _ _ _ h => h) (Or.inl ⟨by rfl, ?y40_210106⟩) hHeld ?r40_210106
  case y40_210106 => intro w hSw; (try dsimp only at hSw); obtain ⟨y0, y1, y2, y3, y4, y5, y6, y7, y8, y9, y10, y11, _⟩ := (HCA.out.below hSw).u12; go_simp; try with_reducible rfl
  try simp only [Act.put, List.setIfInBounds_toArray, List.set_cons_zero, List.set_cons_succ]
  refine wpAnyH_take (i := 42) (oi := { dst := some 125, op := Go.Op.load 32 (Go.Operand.tmp 9), type := 32, pos := "law.go:54", after := #[{ on := 39, ground := Go.Ground.guard }], guard := some (39, true) }) (v := ?v42_210106) rfl (by kernel_rfl) (by kernel_rfl) (by kernel_rfl) (fun _ _ _ h => h) (Or.inl ⟨by rfl, ?y42_210106⟩) hHeld ?r42_210106
  case y42_210106 => intro w hSw; (try dsimp only at hSw); obtain ⟨y0, y1, y2, y3, y4, y5, y6, y7, y8, y9, y10, y11, _⟩ := (HP.out.below hSw).u12; go_simp; try with_reducible rfl
  try simp only [Act.put, List.setIfInBounds_toArray, List.set_cons_zero, List.set_cons_succ]
  refine wpAnyH_ready (rs := [41]) (by kernel_rfl) (by simp) ?_
  refine AllReadyH.cons (o := { dst := some 124, op := Go.Op.call { callee := Go.Callee.value (Go.Operand.func 28), args := #[Go.Operand.tmp 123], argTypes := #[27] }, type := 25, pos := "law.go:54", after := #[{ on := 40, ground := Go.Ground.data }, { on := 39, ground := Go.Ground.chain }, { on := 39, ground := Go.Ground.guard }], guard := some (39, true) }) rfl (fun K hK => ?_) AllReadyH.nil
  go_simp
  refine (all_ex mi mo mr b1 b2 b3 b4 b5 qa na sa xa ql qc nl nc sl sc xl xc ma.a ma.n ma.x _ (HRA.out.below hHeld) HNA.out (HRN.out.below hHeld) HNN.out (HRX.out.below hHeld) HNX.out (by have := HL4.out; omega)).mono ?_; rintro e wt41 ⟨v41, rfl, ho, hb⟩
  obtain ⟨a41, d41, rfl, -⟩ := rowR_own ho
  obtain ⟨nn, hnn⟩ : ∃ x, nl + sl + xl = x := ⟨_, rfl⟩
  rw [hnn] at ho ⊢
  have HNNN := Lib.hid hnn
  have HV41 := Lib.hid ho
  clear ho hnn
  go_wp2_with fail
  refine hK.out _ _ (hHeld.trans (hb.mono hHeld.size)) (fun hHeld2 => ?_)
  clear hK K hHeld
  have hHeld := hHeld2
  clear hHeld2
  try simp only [Act.put, List.setIfInBounds_toArray, List.set_cons_zero, List.set_cons_succ]
  refine wpAnyH_ready (rs := [43]) (by kernel_rfl) (by simp) ?_
  refine AllReadyH.cons (o := { dst := some 126, op := Go.Op.call { callee := Go.Callee.value (Go.Operand.func 29), args := #[Go.Operand.tmp 125], argTypes := #[32] }, type := 25, pos := "law.go:54", after := #[{ on := 42, ground := Go.Ground.data }, { on := 41, ground := Go.Ground.chain }, { on := 39, ground := Go.Ground.guard }], guard := some (39, true) }) rfl (fun K hK => ?_) AllReadyH.nil
  go_simp
  refine (rall_any mi mo mr b1 b2 b3 b4 b5 qa na sa xa ql qc nl nc sl sc xl xc ma.a ma.n ma.x _ (HRA.out.below hHeld) HNA.out (HRN.out.below hHeld) HNN.out (HRX.out.below hHeld) HNX.out ⟨HLM.out.2.1, HLM.out.2.2.1, HLM.out.2.2.2⟩).mono ?_; rintro e wt43 ⟨v43, rfl, ho, hb⟩
  replace HV41 := Lib.hid (own_below' HV41.out hb)
  obtain ⟨a43, d43, rfl, -⟩ := rowR_own ho
  rw [HNNN.out] at ho ⊢
  have HV43 := Lib.hid ho
  clear ho
  go_wp2_with fail
  refine hK.out _ _ (hHeld.trans (hb.mono hHeld.size)) (fun hHeld2 => ?_)
  clear hK K hHeld
  have hHeld := hHeld2
  clear hHeld2
  try simp only [Act.put, List.setIfInBounds_toArray, List.set_cons_zero, List.set_cons_succ]
  refine wpAnyH_ready (rs := [44]) (by kernel_rfl) (by simp) ?_
  refine AllReadyH.cons (o := { dst := some 127, op := Go.Op.call { callee := Go.Callee.value (Go.Operand.func 27), args := #[Go.Operand.tmp 124, Go.Operand.tmp 126], argTypes := #[25, 25] }, type := 4, pos := "law.go:54", after := #[{ on := 41, ground := Go.Ground.data }, { on := 43, ground := Go.Ground.data }, { on := 43, ground := Go.Ground.chain }, { on := 39, ground := Go.Ground.guard }], guard := some (39, true) }) rfl (fun K hK => ?_) AllReadyH.nil
  go_simp
  refine (rrsD a41 a43 nn nn d41 d43 _ _ _ (rowR_own2 HV41.out).1 (rowR_own2 HV43.out).1 (by have := HL4.out; have := HNNN.out; omega) (by have := HL4.out; have := HNNN.out; omega)).mono ?_; rintro e wt44 ⟨rfl, hb⟩
  rw [decide_eq_true (rfl : ma.a ++ (ma.n ++ ma.x) = ma.a ++ (ma.n ++ ma.x))]
  go_wp2_with fail
  refine hK.out _ _ (hHeld.trans (hb.mono hHeld.size)) (fun hHeld2 => ?_)
  clear hK K hHeld
  have hHeld := hHeld2
  clear hHeld2
  try simp only [Act.put, List.setIfInBounds_toArray, List.set_cons_zero, List.set_cons_succ]
  refine wpAnyH_take (i := 45) (oi := { dst := some 128, op := Go.Op.pick (Go.Operand.tmp 122) (Go.Operand.tmp 127) (Go.Operand.const (Go.Value.bool false)), type := 4, pos := "law.go:54", after := #[{ on := 39, ground := Go.Ground.data }, { on := 44, ground := Go.Ground.data }], guard := none }) (v := ?v45_210109) rfl (by kernel_rfl) (by kernel_rfl) (by kernel_rfl) (fun _ _ _ h => h) (Or.inl ⟨by rfl, ?y45_210109⟩) hHeld ?r45_210109
  case y45_210109 => intro w hSw; (try dsimp only at hSw); go_simp; try with_reducible rfl
  try simp only [Act.put, List.setIfInBounds_toArray, List.set_cons_zero, List.set_cons_succ]
  refine wpAnyH_take (i := 46) (oi := { dst := some 129, op := Go.Op.move (Go.Operand.tmp 128), type := 4, pos := "law.go:54", after := #[{ on := 45, ground := Go.Ground.data }, { on := 44, ground := Go.Ground.chain }], guard := none }) (v := ?v46_210109) rfl (by kernel_rfl) (by kernel_rfl) (by kernel_rfl) (fun _ _ _ h => h) (Or.inl ⟨by rfl, ?y46_210109⟩) hHeld ?r46_210109
  case y46_210109 => intro w hSw; (try dsimp only at hSw); go_simp; try with_reducible rfl
  try simp only [Act.put, List.setIfInBounds_toArray, List.set_cons_zero, List.set_cons_succ]
  refine wpAnyH_take (i := 47) (oi := { dst := some 130, op := Go.Op.load 27 (Go.Operand.tmp 4), type := 27, pos := "law.go:54", after := #[{ on := 46, ground := Go.Ground.guard }], guard := some (46, true) }) (v := ?v47_210109) rfl (by kernel_rfl) (by kernel_rfl) (by kernel_rfl) (fun _ _ _ h => h) (Or.inl ⟨by rfl, ?y47_210109⟩) hHeld ?r47_210109
  case y47_210109 => intro w hSw; (try dsimp only at hSw); obtain ⟨y0, y1, y2, y3, y4, y5, y6, y7, y8, y9, y10, y11, _⟩ := (HCA.out.below hSw).u12; go_simp; try with_reducible rfl
  try simp only [Act.put, List.setIfInBounds_toArray, List.set_cons_zero, List.set_cons_succ]
  refine wpAnyH_take (i := 49) (oi := { dst := some 132, op := Go.Op.load 32 (Go.Operand.tmp 10), type := 32, pos := "law.go:54", after := #[{ on := 46, ground := Go.Ground.guard }], guard := some (46, true) }) (v := ?v49_210109) rfl (by kernel_rfl) (by kernel_rfl) (by kernel_rfl) (fun _ _ _ h => h) (Or.inl ⟨by rfl, ?y49_210109⟩) hHeld ?r49_210109
  case y49_210109 => intro w hSw; (try dsimp only at hSw); obtain ⟨y0, y1, y2, y3, y4, y5, y6, y7, y8, y9, y10, y11, _⟩ := (HC.out.below hSw).u12; go_simp; try with_reducible rfl
  try simp only [Act.put, List.setIfInBounds_toArray, List.set_cons_zero, List.set_cons_succ]
  refine wpAnyH_ready (rs := [48]) (by kernel_rfl) (by simp) ?_
  refine AllReadyH.cons (o := { dst := some 131, op := Go.Op.call { callee := Go.Callee.value (Go.Operand.func 15), args := #[Go.Operand.tmp 130], argTypes := #[27] }, type := 32, pos := "law.go:54", after := #[{ on := 47, ground := Go.Ground.data }, { on := 46, ground := Go.Ground.chain }, { on := 46, ground := Go.Ground.guard }], guard := some (46, true) }) rfl (fun K hK => ?_) AllReadyH.nil
  go_simp
  refine (plain_ex mi mo mr b1 b2 b3 b4 b5 qa na sa xa ql qc nl nc sl sc xl xc _).mono ?_; rintro e wt48 ⟨rfl, hb⟩
  go_wp2_with fail
  refine hK.out _ _ (hHeld.trans (hb.mono hHeld.size)) (fun hHeld2 => ?_)
  clear hK K hHeld
  have hHeld := hHeld2
  clear hHeld2
  try simp only [Act.put, List.setIfInBounds_toArray, List.set_cons_zero, List.set_cons_succ]
  refine wpAnyH_ready (rs := [50]) (by kernel_rfl) (by simp) ?_
  refine AllReadyH.cons (o := { dst := some 133, op := Go.Op.call { callee := Go.Callee.value (Go.Operand.func 30), args := #[Go.Operand.tmp 131, Go.Operand.tmp 132], argTypes := #[32, 32] }, type := 4, pos := "law.go:54", after := #[{ on := 48, ground := Go.Ground.data }, { on := 49, ground := Go.Ground.data }, { on := 48, ground := Go.Ground.chain }, { on := 46, ground := Go.Ground.guard }], guard := some (46, true) }) rfl (fun K hK => ?_) AllReadyH.nil
  go_simp
  refine (sameMD_any _ _ (⟨mi, mo, mr, b1, b2, b3, b4, b5, ma.q, ma.a, ma.n, ma.x⟩ : MsgP) (⟨mi, mo, mr, b1, b2, b3, b4, b5, ma.q, ma.a, ma.n, ma.x⟩ : MsgP) _ (HS1.out.below hHeld) (HS2.out.below hHeld) HSM.out HSM.out).mono ?_; rintro e wt50 ⟨rfl, hb⟩
  rw [(sameB_iff _ _).2 rfl]
  go_wp2_with fail
  refine hK.out _ _ (hHeld.trans (hb.mono hHeld.size)) (fun hHeld2 => ?_)
  clear hK K hHeld
  have hHeld := hHeld2
  clear hHeld2
  try simp only [Act.put, List.setIfInBounds_toArray, List.set_cons_zero, List.set_cons_succ]
  refine wpAnyH_take (i := 51) (oi := { dst := some 134, op := Go.Op.pick (Go.Operand.tmp 129) (Go.Operand.tmp 133) (Go.Operand.const (Go.Value.bool false)), type := 4, pos := "law.go:54", after := #[{ on := 46, ground := Go.Ground.data }, { on := 50, ground := Go.Ground.data }], guard := none }) (v := ?v51_210111) rfl (by kernel_rfl) (by kernel_rfl) (by kernel_rfl) (fun _ _ _ h => h) (Or.inl ⟨by rfl, ?y51_210111⟩) hHeld ?r51_210111
  case y51_210111 => intro w hSw; (try dsimp only at hSw); go_simp; try with_reducible rfl
  try simp only [Act.put, List.setIfInBounds_toArray, List.set_cons_zero, List.set_cons_succ]
  refine wpAnyH_take (i := 52) (oi := { dst := some 8, op := Go.Op.assign (Go.Operand.tmp 134), type := 4, pos := "law.go:54", after := #[{ on := 51, ground := Go.Ground.data }, { on := 50, ground := Go.Ground.chain }, { on := 0, ground := Go.Ground.phase }, { on := 1, ground := Go.Ground.phase }, { on := 2, ground := Go.Ground.phase }, { on := 3, ground := Go.Ground.phase }, { on := 4, ground := Go.Ground.phase }, { on := 5, ground := Go.Ground.phase }, { on := 6, ground := Go.Ground.phase }, { on := 7, ground := Go.Ground.phase }, { on := 8, ground := Go.Ground.phase }, { on := 9, ground := Go.Ground.phase }, { on := 10, ground := Go.Ground.phase }, { on := 11, ground := Go.Ground.phase }, { on := 12, ground := Go.Ground.phase }, { on := 13, ground := Go.Ground.phase }, { on := 14, ground := Go.Ground.phase }, { on := 15, ground := Go.Ground.phase }, { on := 16, ground := Go.Ground.phase }, { on := 17, ground := Go.Ground.phase }, { on := 18, ground := Go.Ground.phase }, { on := 19, ground := Go.Ground.phase }, { on := 20, ground := Go.Ground.phase }, { on := 21, ground := Go.Ground.phase }, { on := 22, ground := Go.Ground.phase }, { on := 23, ground := Go.Ground.phase }, { on := 24, ground := Go.Ground.phase }, { on := 25, ground := Go.Ground.phase }, { on := 26, ground := Go.Ground.phase }, { on := 27, ground := Go.Ground.phase }, { on := 28, ground := Go.Ground.phase }, { on := 29, ground := Go.Ground.phase }, { on := 30, ground := Go.Ground.phase }, { on := 31, ground := Go.Ground.phase }, { on := 32, ground := Go.Ground.phase }, { on := 33, ground := Go.Ground.phase }, { on := 34, ground := Go.Ground.phase }, { on := 35, ground := Go.Ground.phase }, { on := 36, ground := Go.Ground.phase }, { on := 37, ground := Go.Ground.phase }, { on := 38, ground := Go.Ground.phase }, { on := 39, ground := Go.Ground.phase }, { on := 40, ground := Go.Ground.phase }, { on := 41, ground := Go.Ground.phase }, { on := 42, ground := Go.Ground.phase }, { on := 43, ground := Go.Ground.phase }, { on := 44, ground := Go.Ground.phase }, { on := 45, ground := Go.Ground.phase }, { on := 46, ground := Go.Ground.phase }, { on := 47, ground := Go.Ground.phase }, { on := 48, ground := Go.Ground.phase }, { on := 49, ground := Go.Ground.phase }, { on := 50, ground := Go.Ground.phase }, { on := 51, ground := Go.Ground.phase }], guard := none }) (v := ?v52_210111) rfl (by kernel_rfl) (by kernel_rfl) (by kernel_rfl) (fun _ _ _ h => h) (Or.inl ⟨by rfl, ?y52_210111⟩) hHeld ?r52_210111
  case y52_210111 => intro w hSw; (try dsimp only at hSw); go_simp; try with_reducible rfl
  try simp only [Act.put, List.setIfInBounds_toArray, List.set_cons_zero, List.set_cons_succ]
  refine wpAnyH_done (by kernel_rfl) ?_ _
  go_wp2
  go_ret
  exact ⟨rfl, HB.out.trans (hHeld.mono HB.out.size)⟩
end Go.Proofs.Ytkoafkajmfodkaa
