/- FrontFits: the walk. -/
import Derived.Test.YtgppkpdjpcegbaaFtK
import Derived.Test.YtgppkpdjpcegbaaFtV
import Derived.Deep.RegionHeld3
namespace Go.Proofs.Ytgppkpdjpcegbaa
open Go.RowKit

theorem rowB_byte {w : World} {a : Option Addr} {n : Nat} {l : List UInt8} (h : RowB w a n l) {j : Nat} (hj : j < n) : ∃ b off, a = some ⟨b, off, none⟩ ∧ w.cell? ⟨b, off + j, none⟩ = some (.int .u8 (byteAt (bs l) j : Int)) := by
  obtain ⟨h1, h2 | ⟨b, off, rfl, hlt, hc⟩⟩ := h
  · omega
  rw [bc_length] at h1
  refine ⟨b, off, rfl, hc j _ ?_⟩
  have e : byteAt (bs l) j = (l.getD j 0).toNat := rfl
  rw [e, bc, List.getElem?_map, List.getElem?_eq_getElem (by omega), List.getD_eq_getElem?_getD, List.getElem?_eq_getElem (by omega)]
  rfl
theorem dec_empty : decP (bs []) = none := by
  cases h : decP (bs []) with
  | none => rfl
  | some M => exact absurd (decP_hd h).2 (by decide)
theorem qst_nrefl (n : ByteArray) (t c : Int) (W : World) : (binOp .neq 27 (.agg #[.string n, .int .i64 t, .int .i64 c]) (.agg #[.string n, .int .i64 t, .int .i64 c])).run Try.prog W = .ok (.bool false) W := by
  rw [qst_neq]; simp
theorem MsgAt.rowA {w : World} {mi mo mr : Int} {b1 b2 b3 b4 b5 : Bool} {Q : List Ky} {A N X : List R5} {qa na sa xa : Option Addr} {lq qc nl nc sl sc xl xc : Nat} (h : MsgAt w (.agg #[.int .i64 mi, .int .i64 mo, .int .i64 mr, .bool b1, .bool b2, .bool b3, .bool b4, .bool b5, .slice qa lq qc, .slice na nl nc, .slice sa sl sc, .slice xa xl xc]) ⟨mi, mo, mr, b1, b2, b3, b4, b5, Q, A, N, X⟩) : RowR w na nl A := by
  obtain ⟨qa', qc', na', nc', sa', sc', xa', xc', e, h1, h2, h3, h4⟩ := h
  simp at e
  obtain ⟨⟨e1, e2, e3⟩, ⟨e4, e5, e6⟩, ⟨e7, e8, e9⟩, e10, e11, e12⟩ := e
  subst e4 e5 e6
  exact h2.1
set_option maxRecDepth 100000 in
set_option maxHeartbeats 32000000 in
theorem walkFits (fr : ByteArray) (tcp : Bool) (a0 : Option Addr) (n0 c0 : Nat) (l : List UInt8) (al : Option Addr) (ll cl : Nat) (L : List SetP) (w : World) (hr : RowB w a0 n0 l) (hn : a0 = none → n0 = 0 ∧ c0 = 0) (hc : n0 ≤ c0) (hL : SetsAt w al ll L) (hll : ll ≤ 9223372036854775807) (hsz : ∀ k, k < ll → SzS (L.getD k ssD)) : Calls Try.prog 3 #[.string fr, .bool tcp, .slice a0 n0 c0, .slice al ll cl] w fun e w' => e = .returned (.bool true) ∧ Below w.heap.size w w' := by
  have HRB := Lib.hid hr
  have HN := Lib.hid hn
  have HNC := Lib.hid hc
  have HL := Lib.hid hL
  have HLL := Lib.hid hll
  have HSZ := Lib.hid hsz
  have HLE := Lib.hid hL.1
  have HSL := Lib.hid (show (bs l).size = n0 by rw [bs_size]; exact hr.len)
  have HB := Lib.hid (Below.refl w.heap.size w)
  clear hr hn hc hL hll hsz
  go_enter Try.func3, Try.ntmps3
  go_wp2_with fail
  refine (first22 _).mono ?_; rintro e w2 ⟨rfl, hb⟩
  replace HRB := Lib.hid (HRB.out.below hb)
  replace HL := Lib.hid (HL.out.below hb)
  replace HB := Lib.hid (HB.out.trans (hb.mono HB.out.size))
  clear hb
  by_cases g1 : 1000 < fr.size
  · have d1 : decide ((1000 : Int) < (fr.size : Int)) = true := dT (by omega)
    go_wp2_with fail
    refine (first22 _).mono ?_; rintro e w3 ⟨rfl, hb⟩
    replace HRB := Lib.hid (HRB.out.below hb)
    replace HL := Lib.hid (HL.out.below hb)
    replace HB := Lib.hid (HB.out.trans (hb.mono HB.out.size))
    clear hb
    go_wp2
    go_ret
    exact ⟨rfl, HB.out⟩
  have d1 : decide ((1000 : Int) < (fr.size : Int)) = false := dF (by omega)
  by_cases g2 : 16100 < n0
  · have d2 : decide ((16100 : Int) < (n0 : Int)) = true := dT (by omega)
    go_wp2_with fail
    refine (first22 _).mono ?_; rintro e w3 ⟨rfl, hb⟩
    replace HRB := Lib.hid (HRB.out.below hb)
    replace HL := Lib.hid (HL.out.below hb)
    replace HB := Lib.hid (HB.out.trans (hb.mono HB.out.size))
    clear hb
    go_wp2
    go_ret
    exact ⟨rfl, HB.out⟩
  have d2 : decide ((16100 : Int) < (n0 : Int)) = false := dF (by omega)
  have HNB := Lib.hid (show n0 ≤ 20000 by omega)
  clear g1 g2
  go_wp2_with fail
  refine (fewSets_any al ll cl L _ HL.out HLL.out HSZ.out).mono ?_; rintro e wf ⟨he, rfl⟩
  rcases he with rfl | ⟨rfl, hf1, hf2⟩
  · go_wp2_with fail
    refine (first22 _).mono ?_; rintro e w3 ⟨rfl, hb⟩
    replace HRB := Lib.hid (HRB.out.below hb)
    replace HL := Lib.hid (HL.out.below hb)
    replace HB := Lib.hid (HB.out.trans (hb.mono HB.out.size))
    clear hb
    go_wp2
    go_ret
    exact ⟨rfl, HB.out⟩
  have hfl := few_flat HLE.out hf1 hf2
  have HF1 := Lib.hid hf1
  have HFL := Lib.hid hfl
  clear hf1 hf2 hfl
  cases hx : readO fr tcp (bs l)
  · rename_i L0
    have HBS := Lib.hid (read_bads hx)
    have HX := Lib.hid hx
    clear hx
    go_wp2_with fail
    refine (read_bad fr tcp a0 n0 c0 l L0 _ HRB.out HN.out HNB.out HNC.out HX.out).mono ?_; rintro e w3 ⟨⟨v, rfl, ho⟩, hb⟩
    replace HRB := Lib.hid (HRB.out.below hb)
    replace HL := Lib.hid (HL.out.below hb)
    replace HB := Lib.hid (HB.out.trans (hb.mono HB.out.size))
    clear hb
    obtain ⟨nX, hnX⟩ : ∃ x, L0.length = x := ⟨_, rfl⟩
    rw [hnX] at ho
    have HNX := Lib.hid hnX
    clear hnX
    obtain ⟨aX, cX, rfl, -⟩ := cellsK_own ho
    have HO := Lib.hid ho
    clear ho
    have hba := (Below.refl _ _ : Below w3.heap.size w3 w3).alloc (Nat.le_refl _) (.cells #[.string ⟨#[]⟩, .int .i64 0, .int .i64 0, .string ⟨#[]⟩, .int .i64 0, .int .i64 0, .bool false, .bool false, .bool false] 29)
    have HJ := Lib.hid (CN.new w3 #[.string ⟨#[]⟩, .int .i64 0, .int .i64 0, .string ⟨#[]⟩, .int .i64 0, .int .i64 0, .bool false, .bool false, .bool false] 29)
    replace HRB := Lib.hid (HRB.out.below hba)
    replace HL := Lib.hid (HL.out.below hba)
    replace HB := Lib.hid (HB.out.trans (hba.mono HB.out.size))
    replace HO := Lib.hid (own_below' HO.out hba)
    obtain ⟨w4, hw⟩ : ∃ x, w3.alloc (.cells #[.string ⟨#[]⟩, .int .i64 0, .int .i64 0, .string ⟨#[]⟩, .int .i64 0, .int .i64 0, .bool false, .bool false, .bool false] 29) = x := ⟨_, rfl⟩
    obtain ⟨q4, hq⟩ : ∃ x, w3.heap.size = x := ⟨_, rfl⟩
    rw [hw, hq] at HJ
    rw [hw] at HRB HL HB HO
    have HW := Lib.hid hw
    have HQ_ := Lib.hid hq
    clear hba hw hq
    go_upto_region 6 with (fail)
    rw [HW.out, HQ_.out]
    clear HW HQ_
    clear HJ
    rcases HBS.out with h0 | ⟨b1, b2, b3, m, b4, b5, b6, b7, b8, b9⟩
    · subst h0
      obtain rfl : 0 = nX := HNX.out
      clear HBS
      go_wp2_with fail
      refine (decode_no [] aX 0 cX _ (rowB_own HO.out).1 (rowB_own HO.out).2 (by decide) dec_empty).mono ?_; rintro e w5 ⟨er, rfl, -, hb⟩
      replace HRB := Lib.hid (HRB.out.below hb)
      replace HL := Lib.hid (HL.out.below hb)
      replace HB := Lib.hid (HB.out.trans (hb.mono HB.out.size))
      replace HO := Lib.hid (own_below' HO.out hb)
      clear hb
      have hba := (Below.refl _ _ : Below w5.heap.size w5 w5).alloc (Nat.le_refl _) (.cells #[.int .i64 0, .int .i64 0, .int .i64 0, .bool false, .bool false, .bool false, .bool false, .bool false, .slice none 0 0, .slice none 0 0, .slice none 0 0, .slice none 0 0] 37)
      have HM := Lib.hid (CN.new w5 #[.int .i64 0, .int .i64 0, .int .i64 0, .bool false, .bool false, .bool false, .bool false, .bool false, .slice none 0 0, .slice none 0 0, .slice none 0 0, .slice none 0 0] 37)
      replace HRB := Lib.hid (HRB.out.below hba)
      replace HL := Lib.hid (HL.out.below hba)
      replace HB := Lib.hid (HB.out.trans (hba.mono HB.out.size))
      replace HO := Lib.hid (own_below' HO.out hba)
      obtain ⟨w6, hw⟩ : ∃ x, w5.alloc (.cells #[.int .i64 0, .int .i64 0, .int .i64 0, .bool false, .bool false, .bool false, .bool false, .bool false, .slice none 0 0, .slice none 0 0, .slice none 0 0, .slice none 0 0] 37) = x := ⟨_, rfl⟩
      obtain ⟨q6, hq⟩ : ∃ x, w5.heap.size = x := ⟨_, rfl⟩
      rw [hw, hq] at HM
      rw [hw] at HRB HL HB HO
      have HW := Lib.hid hw
      have HQ_ := Lib.hid hq
      clear hba hw hq
      go_upto_region 8 with (fail)
      rw [HW.out, HQ_.out]
      clear HW HQ_
      refine wp_region_held_drew (S := (fun wx => Below w6.heap.size w6 wx)) (by kernel_rfl) ((Below.refl w6.heap.size w6).drew) (fun hHeld => ?_)
      refine wpAnyH_ready (rs := [0]) (by kernel_rfl) (by simp) ?_
      refine AllReadyH.cons (o := { dst := some 57, op := Go.Op.call { callee := Go.Callee.value (Go.Operand.func 7), args := #[], argTypes := #[] }, type := 4, pos := "law.go:68", after := #[], guard := none }) rfl (fun K hK => ?_) AllReadyH.nil
      go_simp
      refine (first22 _).mono ?_; rintro e wt0 ⟨rfl, hb⟩
      go_wp2_with fail
      refine hK.out _ _ (hHeld.trans (hb.mono hHeld.size)) (fun hHeld2 => ?_)
      clear hK K hHeld
      have hHeld := hHeld2
      clear hHeld2
      try simp only [Act.put, List.setIfInBounds_toArray, List.set_cons_zero, List.set_cons_succ]
      refine wpAnyH_take (i := 1) (oi := { dst := some 58, op := Go.Op.move (Go.Operand.tmp 57), type := 4, pos := "law.go:68", after := #[{ on := 0, ground := Go.Ground.data }, { on := 0, ground := Go.Ground.chain }], guard := none }) (v := ?v1_730102) rfl (by kernel_rfl) (by kernel_rfl) (by kernel_rfl) (fun _ _ _ h => h) (Or.inl ⟨by rfl, ?y1_730102⟩) hHeld ?r1_730102
      case y1_730102 => intro w hSw; (try dsimp only at hSw); go_simp; try with_reducible rfl
      try simp only [Act.put, List.setIfInBounds_toArray, List.set_cons_zero, List.set_cons_succ]
      refine wpAnyH_take (i := 2) (oi := { dst := some 59, op := Go.Op.move (Go.Operand.tmp 10), type := 22, pos := "law.go:68", after := #[{ on := 1, ground := Go.Ground.guard }], guard := some (1, true) }) (v := ?v2_730102) rfl (by kernel_rfl) (by kernel_rfl) (by kernel_rfl) (fun _ _ _ h => h) (Or.inl ⟨by rfl, ?y2_730102⟩) hHeld ?r2_730102
      case y2_730102 => intro w hSw; (try dsimp only at hSw); go_simp; try with_reducible rfl
      try simp only [Act.put, List.setIfInBounds_toArray, List.set_cons_zero, List.set_cons_succ]
      refine wpAnyH_take (i := 3) (oi := { dst := some 60, op := Go.Op.call { callee := Go.Callee.builtin Go.Builtin.len, args := #[Go.Operand.tmp 59], argTypes := #[22] }, type := 3, pos := "law.go:68", after := #[{ on := 2, ground := Go.Ground.data }, { on := 1, ground := Go.Ground.guard }], guard := some (1, true) }) (v := ?v3_730102) rfl (by kernel_rfl) (by kernel_rfl) (by kernel_rfl) (fun _ _ _ h => h) (Or.inl ⟨by rfl, ?y3_730102⟩) hHeld ?r3_730102
      case y3_730102 => intro w hSw; (try dsimp only at hSw); go_simp; try with_reducible rfl
      try simp only [Act.put, List.setIfInBounds_toArray, List.set_cons_zero, List.set_cons_succ]
      refine wpAnyH_take (i := 4) (oi := { dst := some 61, op := Go.Op.binOp Go.BinOp.eql 3 (Go.Operand.tmp 60) (Go.Operand.const (Go.Value.int Go.IntKind.i64 0)) 3, type := 4, pos := "law.go:68", after := #[{ on := 3, ground := Go.Ground.data }, { on := 1, ground := Go.Ground.guard }], guard := some (1, true) }) (v := ?v4_730102) rfl (by kernel_rfl) (by kernel_rfl) (by kernel_rfl) (fun _ _ _ h => h) (Or.inl ⟨by rfl, ?y4_730102⟩) hHeld ?r4_730102
      case y4_730102 => intro w hSw; (try dsimp only at hSw); go_simp; try with_reducible rfl
      try simp only [Act.put, List.setIfInBounds_toArray, List.set_cons_zero, List.set_cons_succ]
      refine wpAnyH_take (i := 5) (oi := { dst := some 62, op := Go.Op.move (Go.Operand.tmp 61), type := 4, pos := "law.go:68", after := #[{ on := 4, ground := Go.Ground.data }, { on := 1, ground := Go.Ground.chain }, { on := 1, ground := Go.Ground.guard }], guard := some (1, true) }) (v := ?v5_730102) rfl (by kernel_rfl) (by kernel_rfl) (by kernel_rfl) (fun _ _ _ h => h) (Or.inl ⟨by rfl, ?y5_730102⟩) hHeld ?r5_730102
      case y5_730102 => intro w hSw; (try dsimp only at hSw); go_simp; try with_reducible rfl
      try simp only [Act.put, List.setIfInBounds_toArray, List.set_cons_zero, List.set_cons_succ]
      refine wpAnyH_take (i := 6) (oi := { dst := some 63, op := Go.Op.move (Go.Operand.tmp 2), type := 22, pos := "law.go:68", after := #[{ on := 5, ground := Go.Ground.guard }], guard := some (5, false) }) (v := undef) rfl (by kernel_rfl) (by kernel_rfl) (by kernel_rfl) (fun _ _ _ h => h) (Or.inr ⟨by rfl, rfl⟩) hHeld ?_
      try simp only [Act.put, List.setIfInBounds_toArray, List.set_cons_zero, List.set_cons_succ]
      refine wpAnyH_take (i := 7) (oi := { dst := some 64, op := Go.Op.call { callee := Go.Callee.builtin Go.Builtin.len, args := #[Go.Operand.tmp 63], argTypes := #[22] }, type := 3, pos := "law.go:68", after := #[{ on := 6, ground := Go.Ground.data }, { on := 5, ground := Go.Ground.guard }], guard := some (5, false) }) (v := undef) rfl (by kernel_rfl) (by kernel_rfl) (by kernel_rfl) (fun _ _ _ h => h) (Or.inr ⟨by rfl, rfl⟩) hHeld ?_
      try simp only [Act.put, List.setIfInBounds_toArray, List.set_cons_zero, List.set_cons_succ]
      refine wpAnyH_take (i := 8) (oi := { dst := some 65, op := Go.Op.binOp Go.BinOp.geq 3 (Go.Operand.tmp 64) (Go.Operand.const (Go.Value.int Go.IntKind.i64 12)) 3, type := 4, pos := "law.go:68", after := #[{ on := 7, ground := Go.Ground.data }, { on := 5, ground := Go.Ground.guard }], guard := some (5, false) }) (v := undef) rfl (by kernel_rfl) (by kernel_rfl) (by kernel_rfl) (fun _ _ _ h => h) (Or.inr ⟨by rfl, rfl⟩) hHeld ?_
      try simp only [Act.put, List.setIfInBounds_toArray, List.set_cons_zero, List.set_cons_succ]
      refine wpAnyH_take (i := 9) (oi := { dst := some 66, op := Go.Op.move (Go.Operand.tmp 65), type := 4, pos := "law.go:68", after := #[{ on := 8, ground := Go.Ground.data }, { on := 5, ground := Go.Ground.chain }, { on := 5, ground := Go.Ground.guard }], guard := some (5, false) }) (v := undef) rfl (by kernel_rfl) (by kernel_rfl) (by kernel_rfl) (fun _ _ _ h => h) (Or.inr ⟨by rfl, rfl⟩) hHeld ?_
      try simp only [Act.put, List.setIfInBounds_toArray, List.set_cons_zero, List.set_cons_succ]
      refine wpAnyH_take (i := 10) (oi := { dst := some 67, op := Go.Op.move (Go.Operand.tmp 13), type := 38, pos := "law.go:68", after := #[{ on := 9, ground := Go.Ground.guard }], guard := some (9, true) }) (v := undef) rfl (by kernel_rfl) (by kernel_rfl) (by kernel_rfl) (fun _ _ _ h => h) (Or.inr ⟨by rfl, rfl⟩) hHeld ?_
      try simp only [Act.put, List.setIfInBounds_toArray, List.set_cons_zero, List.set_cons_succ]
      refine wpAnyH_take (i := 11) (oi := { dst := some 68, op := Go.Op.binOp Go.BinOp.eql 38 (Go.Operand.tmp 67) (Go.Operand.const (Go.Value.int Go.IntKind.i64 0)) 38, type := 4, pos := "law.go:68", after := #[{ on := 10, ground := Go.Ground.data }, { on := 9, ground := Go.Ground.guard }], guard := some (9, true) }) (v := undef) rfl (by kernel_rfl) (by kernel_rfl) (by kernel_rfl) (fun _ _ _ h => h) (Or.inr ⟨by rfl, rfl⟩) hHeld ?_
      try simp only [Act.put, List.setIfInBounds_toArray, List.set_cons_zero, List.set_cons_succ]
      refine wpAnyH_take (i := 12) (oi := { dst := some 69, op := Go.Op.pick (Go.Operand.tmp 66) (Go.Operand.tmp 68) (Go.Operand.const (Go.Value.bool false)), type := 4, pos := "law.go:68", after := #[{ on := 9, ground := Go.Ground.data }, { on := 11, ground := Go.Ground.data }, { on := 5, ground := Go.Ground.guard }], guard := some (5, false) }) (v := undef) rfl (by kernel_rfl) (by kernel_rfl) (by kernel_rfl) (fun _ _ _ h => h) (Or.inr ⟨by rfl, rfl⟩) hHeld ?_
      try simp only [Act.put, List.setIfInBounds_toArray, List.set_cons_zero, List.set_cons_succ]
      refine wpAnyH_take (i := 13) (oi := { dst := some 70, op := Go.Op.move (Go.Operand.tmp 69), type := 4, pos := "law.go:68", after := #[{ on := 12, ground := Go.Ground.data }, { on := 9, ground := Go.Ground.chain }, { on := 5, ground := Go.Ground.guard }], guard := some (5, false) }) (v := undef) rfl (by kernel_rfl) (by kernel_rfl) (by kernel_rfl) (fun _ _ _ h => h) (Or.inr ⟨by rfl, rfl⟩) hHeld ?_
      try simp only [Act.put, List.setIfInBounds_toArray, List.set_cons_zero, List.set_cons_succ]
      refine wpAnyH_take (i := 14) (oi := { dst := some 71, op := Go.Op.fieldAddr 37 (Go.Operand.tmp 12) 0, type := 0, pos := "law.go:68", after := #[{ on := 13, ground := Go.Ground.guard }], guard := some (13, true) }) (v := undef) rfl (by kernel_rfl) (by kernel_rfl) (by kernel_rfl) (fun _ _ _ h => h) (Or.inr ⟨by rfl, rfl⟩) hHeld ?_
      try simp only [Act.put, List.setIfInBounds_toArray, List.set_cons_zero, List.set_cons_succ]
      refine wpAnyH_take (i := 15) (oi := { dst := some 72, op := Go.Op.fieldAddr 33 (Go.Operand.tmp 71) 3, type := 0, pos := "law.go:68", after := #[{ on := 14, ground := Go.Ground.data }, { on := 13, ground := Go.Ground.guard }], guard := some (13, true) }) (v := undef) rfl (by kernel_rfl) (by kernel_rfl) (by kernel_rfl) (fun _ _ _ h => h) (Or.inr ⟨by rfl, rfl⟩) hHeld ?_
      try simp only [Act.put, List.setIfInBounds_toArray, List.set_cons_zero, List.set_cons_succ]
      refine wpAnyH_take (i := 16) (oi := { dst := some 73, op := Go.Op.load 4 (Go.Operand.tmp 72), type := 4, pos := "law.go:68", after := #[{ on := 15, ground := Go.Ground.data }, { on := 13, ground := Go.Ground.guard }], guard := some (13, true) }) (v := undef) rfl (by kernel_rfl) (by kernel_rfl) (by kernel_rfl) (fun _ _ _ h => h) (Or.inr ⟨by rfl, rfl⟩) hHeld ?_
      try simp only [Act.put, List.setIfInBounds_toArray, List.set_cons_zero, List.set_cons_succ]
      refine wpAnyH_take (i := 17) (oi := { dst := some 74, op := Go.Op.pick (Go.Operand.tmp 70) (Go.Operand.tmp 73) (Go.Operand.const (Go.Value.bool false)), type := 4, pos := "law.go:68", after := #[{ on := 13, ground := Go.Ground.data }, { on := 16, ground := Go.Ground.data }, { on := 5, ground := Go.Ground.guard }], guard := some (5, false) }) (v := undef) rfl (by kernel_rfl) (by kernel_rfl) (by kernel_rfl) (fun _ _ _ h => h) (Or.inr ⟨by rfl, rfl⟩) hHeld ?_
      try simp only [Act.put, List.setIfInBounds_toArray, List.set_cons_zero, List.set_cons_succ]
      refine wpAnyH_take (i := 18) (oi := { dst := some 75, op := Go.Op.move (Go.Operand.tmp 74), type := 4, pos := "law.go:68", after := #[{ on := 17, ground := Go.Ground.data }, { on := 13, ground := Go.Ground.chain }, { on := 5, ground := Go.Ground.guard }], guard := some (5, false) }) (v := undef) rfl (by kernel_rfl) (by kernel_rfl) (by kernel_rfl) (fun _ _ _ h => h) (Or.inr ⟨by rfl, rfl⟩) hHeld ?_
      try simp only [Act.put, List.setIfInBounds_toArray, List.set_cons_zero, List.set_cons_succ]
      refine wpAnyH_take (i := 19) (oi := { dst := some 76, op := Go.Op.fieldAddr 37 (Go.Operand.tmp 12) 0, type := 0, pos := "law.go:68", after := #[{ on := 18, ground := Go.Ground.guard }], guard := some (18, true) }) (v := undef) rfl (by kernel_rfl) (by kernel_rfl) (by kernel_rfl) (fun _ _ _ h => h) (Or.inr ⟨by rfl, rfl⟩) hHeld ?_
      try simp only [Act.put, List.setIfInBounds_toArray, List.set_cons_zero, List.set_cons_succ]
      refine wpAnyH_take (i := 20) (oi := { dst := some 77, op := Go.Op.fieldAddr 33 (Go.Operand.tmp 76) 7, type := 0, pos := "law.go:68", after := #[{ on := 19, ground := Go.Ground.data }, { on := 18, ground := Go.Ground.guard }], guard := some (18, true) }) (v := undef) rfl (by kernel_rfl) (by kernel_rfl) (by kernel_rfl) (fun _ _ _ h => h) (Or.inr ⟨by rfl, rfl⟩) hHeld ?_
      try simp only [Act.put, List.setIfInBounds_toArray, List.set_cons_zero, List.set_cons_succ]
      refine wpAnyH_take (i := 21) (oi := { dst := some 78, op := Go.Op.load 4 (Go.Operand.tmp 77), type := 4, pos := "law.go:68", after := #[{ on := 20, ground := Go.Ground.data }, { on := 18, ground := Go.Ground.guard }], guard := some (18, true) }) (v := undef) rfl (by kernel_rfl) (by kernel_rfl) (by kernel_rfl) (fun _ _ _ h => h) (Or.inr ⟨by rfl, rfl⟩) hHeld ?_
      try simp only [Act.put, List.setIfInBounds_toArray, List.set_cons_zero, List.set_cons_succ]
      refine wpAnyH_take (i := 22) (oi := { dst := some 79, op := Go.Op.pick (Go.Operand.tmp 75) (Go.Operand.tmp 78) (Go.Operand.const (Go.Value.bool false)), type := 4, pos := "law.go:68", after := #[{ on := 18, ground := Go.Ground.data }, { on := 21, ground := Go.Ground.data }, { on := 5, ground := Go.Ground.guard }], guard := some (5, false) }) (v := undef) rfl (by kernel_rfl) (by kernel_rfl) (by kernel_rfl) (fun _ _ _ h => h) (Or.inr ⟨by rfl, rfl⟩) hHeld ?_
      try simp only [Act.put, List.setIfInBounds_toArray, List.set_cons_zero, List.set_cons_succ]
      refine wpAnyH_take (i := 23) (oi := { dst := some 80, op := Go.Op.move (Go.Operand.tmp 79), type := 4, pos := "law.go:68", after := #[{ on := 22, ground := Go.Ground.data }, { on := 18, ground := Go.Ground.chain }, { on := 5, ground := Go.Ground.guard }], guard := some (5, false) }) (v := undef) rfl (by kernel_rfl) (by kernel_rfl) (by kernel_rfl) (fun _ _ _ h => h) (Or.inr ⟨by rfl, rfl⟩) hHeld ?_
      try simp only [Act.put, List.setIfInBounds_toArray, List.set_cons_zero, List.set_cons_succ]
      refine wpAnyH_take (i := 24) (oi := { dst := some 81, op := Go.Op.fieldAddr 37 (Go.Operand.tmp 12) 2, type := 0, pos := "law.go:68", after := #[{ on := 23, ground := Go.Ground.guard }], guard := some (23, true) }) (v := undef) rfl (by kernel_rfl) (by kernel_rfl) (by kernel_rfl) (fun _ _ _ h => h) (Or.inr ⟨by rfl, rfl⟩) hHeld ?_
      try simp only [Act.put, List.setIfInBounds_toArray, List.set_cons_zero, List.set_cons_succ]
      refine wpAnyH_take (i := 25) (oi := { dst := some 82, op := Go.Op.load 35 (Go.Operand.tmp 81), type := 35, pos := "law.go:68", after := #[{ on := 24, ground := Go.Ground.data }, { on := 23, ground := Go.Ground.guard }], guard := some (23, true) }) (v := undef) rfl (by kernel_rfl) (by kernel_rfl) (by kernel_rfl) (fun _ _ _ h => h) (Or.inr ⟨by rfl, rfl⟩) hHeld ?_
      try simp only [Act.put, List.setIfInBounds_toArray, List.set_cons_zero, List.set_cons_succ]
      refine wpAnyH_take (i := 26) (oi := { dst := some 83, op := Go.Op.call { callee := Go.Callee.builtin Go.Builtin.len, args := #[Go.Operand.tmp 82], argTypes := #[35] }, type := 3, pos := "law.go:68", after := #[{ on := 25, ground := Go.Ground.data }, { on := 23, ground := Go.Ground.guard }], guard := some (23, true) }) (v := undef) rfl (by kernel_rfl) (by kernel_rfl) (by kernel_rfl) (fun _ _ _ h => h) (Or.inr ⟨by rfl, rfl⟩) hHeld ?_
      try simp only [Act.put, List.setIfInBounds_toArray, List.set_cons_zero, List.set_cons_succ]
      refine wpAnyH_take (i := 27) (oi := { dst := some 84, op := Go.Op.binOp Go.BinOp.eql 3 (Go.Operand.tmp 83) (Go.Operand.const (Go.Value.int Go.IntKind.i64 0)) 3, type := 4, pos := "law.go:68", after := #[{ on := 26, ground := Go.Ground.data }, { on := 23, ground := Go.Ground.guard }], guard := some (23, true) }) (v := undef) rfl (by kernel_rfl) (by kernel_rfl) (by kernel_rfl) (fun _ _ _ h => h) (Or.inr ⟨by rfl, rfl⟩) hHeld ?_
      try simp only [Act.put, List.setIfInBounds_toArray, List.set_cons_zero, List.set_cons_succ]
      refine wpAnyH_take (i := 28) (oi := { dst := some 85, op := Go.Op.pick (Go.Operand.tmp 80) (Go.Operand.tmp 84) (Go.Operand.const (Go.Value.bool false)), type := 4, pos := "law.go:68", after := #[{ on := 23, ground := Go.Ground.data }, { on := 27, ground := Go.Ground.data }, { on := 5, ground := Go.Ground.guard }], guard := some (5, false) }) (v := undef) rfl (by kernel_rfl) (by kernel_rfl) (by kernel_rfl) (fun _ _ _ h => h) (Or.inr ⟨by rfl, rfl⟩) hHeld ?_
      try simp only [Act.put, List.setIfInBounds_toArray, List.set_cons_zero, List.set_cons_succ]
      refine wpAnyH_take (i := 29) (oi := { dst := some 86, op := Go.Op.move (Go.Operand.tmp 85), type := 4, pos := "law.go:68", after := #[{ on := 28, ground := Go.Ground.data }, { on := 23, ground := Go.Ground.chain }, { on := 5, ground := Go.Ground.guard }], guard := some (5, false) }) (v := undef) rfl (by kernel_rfl) (by kernel_rfl) (by kernel_rfl) (fun _ _ _ h => h) (Or.inr ⟨by rfl, rfl⟩) hHeld ?_
      try simp only [Act.put, List.setIfInBounds_toArray, List.set_cons_zero, List.set_cons_succ]
      refine wpAnyH_take (i := 30) (oi := { dst := some 87, op := Go.Op.move (Go.Operand.tmp 10), type := 22, pos := "law.go:68", after := #[{ on := 29, ground := Go.Ground.guard }], guard := some (29, true) }) (v := undef) rfl (by kernel_rfl) (by kernel_rfl) (by kernel_rfl) (fun _ _ _ h => h) (Or.inr ⟨by rfl, rfl⟩) hHeld ?_
      try simp only [Act.put, List.setIfInBounds_toArray, List.set_cons_zero, List.set_cons_succ]
      refine wpAnyH_take (i := 31) (oi := { dst := some 88, op := Go.Op.indexAddr 22 (Go.Operand.tmp 87) (Go.Operand.const (Go.Value.int Go.IntKind.i64 0)), type := 0, pos := "law.go:68", after := #[{ on := 30, ground := Go.Ground.data }, { on := 29, ground := Go.Ground.guard }], guard := some (29, true) }) (v := undef) rfl (by kernel_rfl) (by kernel_rfl) (by kernel_rfl) (fun _ _ _ h => h) (Or.inr ⟨by rfl, rfl⟩) hHeld ?_
      try simp only [Act.put, List.setIfInBounds_toArray, List.set_cons_zero, List.set_cons_succ]
      refine wpAnyH_take (i := 32) (oi := { dst := some 89, op := Go.Op.load 5 (Go.Operand.tmp 88), type := 5, pos := "law.go:68", after := #[{ on := 31, ground := Go.Ground.data }, { on := 29, ground := Go.Ground.guard }], guard := some (29, true) }) (v := undef) rfl (by kernel_rfl) (by kernel_rfl) (by kernel_rfl) (fun _ _ _ h => h) (Or.inr ⟨by rfl, rfl⟩) hHeld ?_
      try simp only [Act.put, List.setIfInBounds_toArray, List.set_cons_zero, List.set_cons_succ]
      refine wpAnyH_take (i := 33) (oi := { dst := some 90, op := Go.Op.move (Go.Operand.tmp 2), type := 22, pos := "law.go:68", after := #[{ on := 29, ground := Go.Ground.guard }], guard := some (29, true) }) (v := undef) rfl (by kernel_rfl) (by kernel_rfl) (by kernel_rfl) (fun _ _ _ h => h) (Or.inr ⟨by rfl, rfl⟩) hHeld ?_
      try simp only [Act.put, List.setIfInBounds_toArray, List.set_cons_zero, List.set_cons_succ]
      refine wpAnyH_take (i := 34) (oi := { dst := some 91, op := Go.Op.indexAddr 22 (Go.Operand.tmp 90) (Go.Operand.const (Go.Value.int Go.IntKind.i64 0)), type := 0, pos := "law.go:68", after := #[{ on := 33, ground := Go.Ground.data }, { on := 29, ground := Go.Ground.guard }], guard := some (29, true) }) (v := undef) rfl (by kernel_rfl) (by kernel_rfl) (by kernel_rfl) (fun _ _ _ h => h) (Or.inr ⟨by rfl, rfl⟩) hHeld ?_
      try simp only [Act.put, List.setIfInBounds_toArray, List.set_cons_zero, List.set_cons_succ]
      refine wpAnyH_take (i := 35) (oi := { dst := some 92, op := Go.Op.load 5 (Go.Operand.tmp 91), type := 5, pos := "law.go:68", after := #[{ on := 34, ground := Go.Ground.data }, { on := 29, ground := Go.Ground.guard }], guard := some (29, true) }) (v := undef) rfl (by kernel_rfl) (by kernel_rfl) (by kernel_rfl) (fun _ _ _ h => h) (Or.inr ⟨by rfl, rfl⟩) hHeld ?_
      try simp only [Act.put, List.setIfInBounds_toArray, List.set_cons_zero, List.set_cons_succ]
      refine wpAnyH_take (i := 36) (oi := { dst := some 93, op := Go.Op.binOp Go.BinOp.eql 5 (Go.Operand.tmp 89) (Go.Operand.tmp 92) 5, type := 4, pos := "law.go:68", after := #[{ on := 32, ground := Go.Ground.data }, { on := 35, ground := Go.Ground.data }, { on := 29, ground := Go.Ground.guard }], guard := some (29, true) }) (v := undef) rfl (by kernel_rfl) (by kernel_rfl) (by kernel_rfl) (fun _ _ _ h => h) (Or.inr ⟨by rfl, rfl⟩) hHeld ?_
      try simp only [Act.put, List.setIfInBounds_toArray, List.set_cons_zero, List.set_cons_succ]
      refine wpAnyH_take (i := 37) (oi := { dst := some 94, op := Go.Op.pick (Go.Operand.tmp 86) (Go.Operand.tmp 93) (Go.Operand.const (Go.Value.bool false)), type := 4, pos := "law.go:68", after := #[{ on := 29, ground := Go.Ground.data }, { on := 36, ground := Go.Ground.data }, { on := 5, ground := Go.Ground.guard }], guard := some (5, false) }) (v := undef) rfl (by kernel_rfl) (by kernel_rfl) (by kernel_rfl) (fun _ _ _ h => h) (Or.inr ⟨by rfl, rfl⟩) hHeld ?_
      try simp only [Act.put, List.setIfInBounds_toArray, List.set_cons_zero, List.set_cons_succ]
      refine wpAnyH_take (i := 38) (oi := { dst := some 95, op := Go.Op.move (Go.Operand.tmp 94), type := 4, pos := "law.go:68", after := #[{ on := 37, ground := Go.Ground.data }, { on := 29, ground := Go.Ground.chain }, { on := 5, ground := Go.Ground.guard }], guard := some (5, false) }) (v := undef) rfl (by kernel_rfl) (by kernel_rfl) (by kernel_rfl) (fun _ _ _ h => h) (Or.inr ⟨by rfl, rfl⟩) hHeld ?_
      try simp only [Act.put, List.setIfInBounds_toArray, List.set_cons_zero, List.set_cons_succ]
      refine wpAnyH_take (i := 39) (oi := { dst := some 96, op := Go.Op.move (Go.Operand.tmp 10), type := 22, pos := "law.go:68", after := #[{ on := 38, ground := Go.Ground.guard }], guard := some (38, true) }) (v := undef) rfl (by kernel_rfl) (by kernel_rfl) (by kernel_rfl) (fun _ _ _ h => h) (Or.inr ⟨by rfl, rfl⟩) hHeld ?_
      try simp only [Act.put, List.setIfInBounds_toArray, List.set_cons_zero, List.set_cons_succ]
      refine wpAnyH_take (i := 40) (oi := { dst := some 97, op := Go.Op.indexAddr 22 (Go.Operand.tmp 96) (Go.Operand.const (Go.Value.int Go.IntKind.i64 1)), type := 0, pos := "law.go:68", after := #[{ on := 39, ground := Go.Ground.data }, { on := 38, ground := Go.Ground.guard }], guard := some (38, true) }) (v := undef) rfl (by kernel_rfl) (by kernel_rfl) (by kernel_rfl) (fun _ _ _ h => h) (Or.inr ⟨by rfl, rfl⟩) hHeld ?_
      try simp only [Act.put, List.setIfInBounds_toArray, List.set_cons_zero, List.set_cons_succ]
      refine wpAnyH_take (i := 41) (oi := { dst := some 98, op := Go.Op.load 5 (Go.Operand.tmp 97), type := 5, pos := "law.go:68", after := #[{ on := 40, ground := Go.Ground.data }, { on := 38, ground := Go.Ground.guard }], guard := some (38, true) }) (v := undef) rfl (by kernel_rfl) (by kernel_rfl) (by kernel_rfl) (fun _ _ _ h => h) (Or.inr ⟨by rfl, rfl⟩) hHeld ?_
      try simp only [Act.put, List.setIfInBounds_toArray, List.set_cons_zero, List.set_cons_succ]
      refine wpAnyH_take (i := 42) (oi := { dst := some 99, op := Go.Op.move (Go.Operand.tmp 2), type := 22, pos := "law.go:68", after := #[{ on := 38, ground := Go.Ground.guard }], guard := some (38, true) }) (v := undef) rfl (by kernel_rfl) (by kernel_rfl) (by kernel_rfl) (fun _ _ _ h => h) (Or.inr ⟨by rfl, rfl⟩) hHeld ?_
      try simp only [Act.put, List.setIfInBounds_toArray, List.set_cons_zero, List.set_cons_succ]
      refine wpAnyH_take (i := 43) (oi := { dst := some 100, op := Go.Op.indexAddr 22 (Go.Operand.tmp 99) (Go.Operand.const (Go.Value.int Go.IntKind.i64 1)), type := 0, pos := "law.go:68", after := #[{ on := 42, ground := Go.Ground.data }, { on := 38, ground := Go.Ground.guard }], guard := some (38, true) }) (v := undef) rfl (by kernel_rfl) (by kernel_rfl) (by kernel_rfl) (fun _ _ _ h => h) (Or.inr ⟨by rfl, rfl⟩) hHeld ?_
      try simp only [Act.put, List.setIfInBounds_toArray, List.set_cons_zero, List.set_cons_succ]
      refine wpAnyH_take (i := 44) (oi := { dst := some 101, op := Go.Op.load 5 (Go.Operand.tmp 100), type := 5, pos := "law.go:68", after := #[{ on := 43, ground := Go.Ground.data }, { on := 38, ground := Go.Ground.guard }], guard := some (38, true) }) (v := undef) rfl (by kernel_rfl) (by kernel_rfl) (by kernel_rfl) (fun _ _ _ h => h) (Or.inr ⟨by rfl, rfl⟩) hHeld ?_
      try simp only [Act.put, List.setIfInBounds_toArray, List.set_cons_zero, List.set_cons_succ]
      refine wpAnyH_take (i := 45) (oi := { dst := some 102, op := Go.Op.binOp Go.BinOp.eql 5 (Go.Operand.tmp 98) (Go.Operand.tmp 101) 5, type := 4, pos := "law.go:68", after := #[{ on := 41, ground := Go.Ground.data }, { on := 44, ground := Go.Ground.data }, { on := 38, ground := Go.Ground.guard }], guard := some (38, true) }) (v := undef) rfl (by kernel_rfl) (by kernel_rfl) (by kernel_rfl) (fun _ _ _ h => h) (Or.inr ⟨by rfl, rfl⟩) hHeld ?_
      try simp only [Act.put, List.setIfInBounds_toArray, List.set_cons_zero, List.set_cons_succ]
      refine wpAnyH_take (i := 46) (oi := { dst := some 103, op := Go.Op.pick (Go.Operand.tmp 95) (Go.Operand.tmp 102) (Go.Operand.const (Go.Value.bool false)), type := 4, pos := "law.go:68", after := #[{ on := 38, ground := Go.Ground.data }, { on := 45, ground := Go.Ground.data }, { on := 5, ground := Go.Ground.guard }], guard := some (5, false) }) (v := undef) rfl (by kernel_rfl) (by kernel_rfl) (by kernel_rfl) (fun _ _ _ h => h) (Or.inr ⟨by rfl, rfl⟩) hHeld ?_
      try simp only [Act.put, List.setIfInBounds_toArray, List.set_cons_zero, List.set_cons_succ]
      refine wpAnyH_take (i := 47) (oi := { dst := some 104, op := Go.Op.pick (Go.Operand.tmp 62) (Go.Operand.const (Go.Value.bool true)) (Go.Operand.tmp 103), type := 4, pos := "law.go:68", after := #[{ on := 5, ground := Go.Ground.data }, { on := 46, ground := Go.Ground.data }, { on := 1, ground := Go.Ground.guard }], guard := some (1, true) }) (v := ?v47_730102) rfl (by kernel_rfl) (by kernel_rfl) (by kernel_rfl) (fun _ _ _ h => h) (Or.inl ⟨by rfl, ?y47_730102⟩) hHeld ?r47_730102
      case y47_730102 => intro w hSw; (try dsimp only at hSw); go_simp; try with_reducible rfl
      try simp only [Act.put, List.setIfInBounds_toArray, List.set_cons_zero, List.set_cons_succ]
      refine wpAnyH_take (i := 48) (oi := { dst := some 105, op := Go.Op.pick (Go.Operand.tmp 58) (Go.Operand.tmp 104) (Go.Operand.const (Go.Value.bool false)), type := 4, pos := "law.go:68", after := #[{ on := 1, ground := Go.Ground.data }, { on := 47, ground := Go.Ground.data }], guard := none }) (v := ?v48_730102) rfl (by kernel_rfl) (by kernel_rfl) (by kernel_rfl) (fun _ _ _ h => h) (Or.inl ⟨by rfl, ?y48_730102⟩) hHeld ?r48_730102
      case y48_730102 => intro w hSw; (try dsimp only at hSw); go_simp; try with_reducible rfl
      try simp only [Act.put, List.setIfInBounds_toArray, List.set_cons_zero, List.set_cons_succ]
      refine wpAnyH_take (i := 49) (oi := { dst := some 8, op := Go.Op.assign (Go.Operand.tmp 105), type := 4, pos := "law.go:68", after := #[{ on := 48, ground := Go.Ground.data }, { on := 38, ground := Go.Ground.chain }, { on := 0, ground := Go.Ground.phase }, { on := 1, ground := Go.Ground.phase }, { on := 2, ground := Go.Ground.phase }, { on := 3, ground := Go.Ground.phase }, { on := 4, ground := Go.Ground.phase }, { on := 5, ground := Go.Ground.phase }, { on := 6, ground := Go.Ground.phase }, { on := 7, ground := Go.Ground.phase }, { on := 8, ground := Go.Ground.phase }, { on := 9, ground := Go.Ground.phase }, { on := 10, ground := Go.Ground.phase }, { on := 11, ground := Go.Ground.phase }, { on := 12, ground := Go.Ground.phase }, { on := 13, ground := Go.Ground.phase }, { on := 14, ground := Go.Ground.phase }, { on := 15, ground := Go.Ground.phase }, { on := 16, ground := Go.Ground.phase }, { on := 17, ground := Go.Ground.phase }, { on := 18, ground := Go.Ground.phase }, { on := 19, ground := Go.Ground.phase }, { on := 20, ground := Go.Ground.phase }, { on := 21, ground := Go.Ground.phase }, { on := 22, ground := Go.Ground.phase }, { on := 23, ground := Go.Ground.phase }, { on := 24, ground := Go.Ground.phase }, { on := 25, ground := Go.Ground.phase }, { on := 26, ground := Go.Ground.phase }, { on := 27, ground := Go.Ground.phase }, { on := 28, ground := Go.Ground.phase }, { on := 29, ground := Go.Ground.phase }, { on := 30, ground := Go.Ground.phase }, { on := 31, ground := Go.Ground.phase }, { on := 32, ground := Go.Ground.phase }, { on := 33, ground := Go.Ground.phase }, { on := 34, ground := Go.Ground.phase }, { on := 35, ground := Go.Ground.phase }, { on := 36, ground := Go.Ground.phase }, { on := 37, ground := Go.Ground.phase }, { on := 38, ground := Go.Ground.phase }, { on := 39, ground := Go.Ground.phase }, { on := 40, ground := Go.Ground.phase }, { on := 41, ground := Go.Ground.phase }, { on := 42, ground := Go.Ground.phase }, { on := 43, ground := Go.Ground.phase }, { on := 44, ground := Go.Ground.phase }, { on := 45, ground := Go.Ground.phase }, { on := 46, ground := Go.Ground.phase }, { on := 47, ground := Go.Ground.phase }, { on := 48, ground := Go.Ground.phase }], guard := none }) (v := ?v49_730102) rfl (by kernel_rfl) (by kernel_rfl) (by kernel_rfl) (fun _ _ _ h => h) (Or.inl ⟨by rfl, ?y49_730102⟩) hHeld ?r49_730102
      case y49_730102 => intro w hSw; (try dsimp only at hSw); go_simp; try with_reducible rfl
      try simp only [Act.put, List.setIfInBounds_toArray, List.set_cons_zero, List.set_cons_succ]
      refine wpAnyH_done (by kernel_rfl) ?_ _
      go_wp2
      go_ret
      exact ⟨rfl, HB.out.trans (hHeld.mono HB.out.size)⟩
    have HB4 := Lib.hid b4
    have HX2 := Lib.hid (show 12 ≤ nX ∧ nX ≤ 16000 from by have := HNX.out; omega)
    have HN12 := Lib.hid (show 12 ≤ n0 from by have := HSL.out; omega)
    have H89 := Lib.hid (And.intro b8 b9)
    obtain ⟨mi, mo, mr, m1, m2, m3, m4, m5, Q, A, N, X⟩ := m
    replace b5 : true = m1 := b5.symm
    replace b6 : true = m5 := b6.symm
    replace b7 : [] = A := b7.symm
    subst b5 b6 b7
    clear b1 b2 b3 b4 b8 b9 HBS
    go_wp2_with fail
    refine (decode_ok L0 ⟨mi, mo, mr, true, m2, m3, m4, true, Q, [], N, X⟩ aX nX cX _ (rowB_own HO.out).1 (rowB_own HO.out).2 (by have := HX2.out; omega) HB4.out).mono ?_; rintro e w5 ⟨v, rfl, ho, -, hb⟩
    replace HRB := Lib.hid (HRB.out.below hb)
    replace HL := Lib.hid (HL.out.below hb)
    replace HB := Lib.hid (HB.out.trans (hb.mono HB.out.size))
    replace HO := Lib.hid (own_below' HO.out hb)
    clear hb
    obtain ⟨qa, ql, qc, na, nl, nc, sa, sl, sc, xa, xl, xc, rfl, hp⟩ := ho.at.parts
    obtain ⟨⟨-, l2, -, -⟩, -⟩ := hp.lens
    replace l2 : nl = 0 := l2.symm
    subst l2
    clear ho hp
    have hba := (Below.refl _ _ : Below w5.heap.size w5 w5).alloc (Nat.le_refl _) (.cells #[.int .i64 mi, .int .i64 mo, .int .i64 mr, .bool true, .bool m2, .bool m3, .bool m4, .bool true, .slice qa ql qc, .slice na 0 nc, .slice sa sl sc, .slice xa xl xc] 37)
    have HM := Lib.hid (CN.new w5 #[.int .i64 mi, .int .i64 mo, .int .i64 mr, .bool true, .bool m2, .bool m3, .bool m4, .bool true, .slice qa ql qc, .slice na 0 nc, .slice sa sl sc, .slice xa xl xc] 37)
    replace HRB := Lib.hid (HRB.out.below hba)
    replace HL := Lib.hid (HL.out.below hba)
    replace HB := Lib.hid (HB.out.trans (hba.mono HB.out.size))
    replace HO := Lib.hid (own_below' HO.out hba)
    obtain ⟨w6, hw⟩ : ∃ x, w5.alloc (.cells #[.int .i64 mi, .int .i64 mo, .int .i64 mr, .bool true, .bool m2, .bool m3, .bool m4, .bool true, .slice qa ql qc, .slice na 0 nc, .slice sa sl sc, .slice xa xl xc] 37) = x := ⟨_, rfl⟩
    obtain ⟨q6, hq⟩ : ∃ x, w5.heap.size = x := ⟨_, rfl⟩
    rw [hw, hq] at HM
    rw [hw] at HRB HL HB HO
    have HW := Lib.hid hw
    have HQ_ := Lib.hid hq
    clear hba hw hq
    go_upto_region 8 with (fail)
    rw [HW.out, HQ_.out]
    clear HW HQ_
    have h12 := HX2.out
    have hn12 := HN12.out
    obtain ⟨bx, ox, rfl, x0⟩ := rowB_byte (rowB_own HO.out).1 (j := 0) (by omega)
    obtain ⟨bx2, ox2, e2, x1⟩ := rowB_byte (rowB_own HO.out).1 (j := 1) (by omega)
    injection e2 with e2
    injection e2 with e2 e3
    subst e2 e3
    obtain ⟨bb, ob, rfl, y0⟩ := rowB_byte HRB.out (j := 0) (by omega)
    obtain ⟨bb2, ob2, e2, y1⟩ := rowB_byte HRB.out (j := 1) (by omega)
    injection e2 with e2
    injection e2 with e2 e3
    subst e2 e3
    rw [H89.out.1] at x0
    rw [H89.out.2] at x1
    obtain ⟨v0, hv0⟩ : ∃ x, (byteAt (bs l) 0 : Int) = x := ⟨_, rfl⟩
    obtain ⟨v1, hv1⟩ : ∃ x, (byteAt (bs l) 1 : Int) = x := ⟨_, rfl⟩
    rw [hv0] at x0 y0
    rw [hv1] at x1 y1
    replace x0 : w6.cell? ⟨bx, ox, none⟩ = some (.int .u8 v0) := by simpa using x0
    replace y0 : w6.cell? ⟨bb, ob, none⟩ = some (.int .u8 v0) := by simpa using y0
    have HXY := Lib.hid (fun wx (hx : Below w6.heap.size w6 wx) => (⟨cell_bel hx x0, cell_bel hx x1, cell_bel hx y0, cell_bel hx y1⟩ : wx.cell? ⟨bx, ox, none⟩ = some (.int .u8 v0) ∧ wx.cell? ⟨bx, ox + 1, none⟩ = some (.int .u8 v1) ∧ wx.cell? ⟨bb, ob, none⟩ = some (.int .u8 v0) ∧ wx.cell? ⟨bb, ob + 1, none⟩ = some (.int .u8 v1)))
    have e1 : ((nX : Int) == 0) = false := eF (by omega)
    have e2 : decide ((12 : Int) ≤ (n0 : Int)) = true := dT (by omega)
    have e3 : (v0 == v0) = true := beq_self_eq_true _
    have e4 : (v1 == v1) = true := beq_self_eq_true _
    have i1 : 0 < nX := by omega
    have i2 : (1 : Int) < (nX : Int) := by omega
    have i3 : 0 < n0 := by omega
    have i4 : (1 : Int) < (n0 : Int) := by omega
    clear x0 x1 y0 y1 hv0 hv1 h12 hn12
    refine wp_region_held_drew (S := (fun wx => Below w6.heap.size w6 wx)) (by kernel_rfl) ((Below.refl w6.heap.size w6).drew) (fun hHeld => ?_)
    refine wpAnyH_ready (rs := [0]) (by kernel_rfl) (by simp) ?_
    refine AllReadyH.cons (o := { dst := some 57, op := Go.Op.call { callee := Go.Callee.value (Go.Operand.func 7), args := #[], argTypes := #[] }, type := 4, pos := "law.go:68", after := #[], guard := none }) rfl (fun K hK => ?_) AllReadyH.nil
    go_simp
    refine (first22 _).mono ?_; rintro e wt0 ⟨rfl, hb⟩
    go_wp2_with fail
    refine hK.out _ _ (hHeld.trans (hb.mono hHeld.size)) (fun hHeld2 => ?_)
    clear hK K hHeld
    have hHeld := hHeld2
    clear hHeld2
    try simp only [Act.put, List.setIfInBounds_toArray, List.set_cons_zero, List.set_cons_succ]
    refine wpAnyH_take (i := 1) (oi := { dst := some 58, op := Go.Op.move (Go.Operand.tmp 57), type := 4, pos := "law.go:68", after := #[{ on := 0, ground := Go.Ground.data }, { on := 0, ground := Go.Ground.chain }], guard := none }) (v := ?v1_740102) rfl (by kernel_rfl) (by kernel_rfl) (by kernel_rfl) (fun _ _ _ h => h) (Or.inl ⟨by rfl, ?y1_740102⟩) hHeld ?r1_740102
    case y1_740102 => intro w hSw; (try dsimp only at hSw); go_simp; try with_reducible rfl
    try simp only [Act.put, List.setIfInBounds_toArray, List.set_cons_zero, List.set_cons_succ]
    refine wpAnyH_take (i := 2) (oi := { dst := some 59, op := Go.Op.move (Go.Operand.tmp 10), type := 22, pos := "law.go:68", after := #[{ on := 1, ground := Go.Ground.guard }], guard := some (1, true) }) (v := ?v2_740102) rfl (by kernel_rfl) (by kernel_rfl) (by kernel_rfl) (fun _ _ _ h => h) (Or.inl ⟨by rfl, ?y2_740102⟩) hHeld ?r2_740102
    case y2_740102 => intro w hSw; (try dsimp only at hSw); go_simp; try with_reducible rfl
    try simp only [Act.put, List.setIfInBounds_toArray, List.set_cons_zero, List.set_cons_succ]
    refine wpAnyH_take (i := 3) (oi := { dst := some 60, op := Go.Op.call { callee := Go.Callee.builtin Go.Builtin.len, args := #[Go.Operand.tmp 59], argTypes := #[22] }, type := 3, pos := "law.go:68", after := #[{ on := 2, ground := Go.Ground.data }, { on := 1, ground := Go.Ground.guard }], guard := some (1, true) }) (v := ?v3_740102) rfl (by kernel_rfl) (by kernel_rfl) (by kernel_rfl) (fun _ _ _ h => h) (Or.inl ⟨by rfl, ?y3_740102⟩) hHeld ?r3_740102
    case y3_740102 => intro w hSw; (try dsimp only at hSw); go_simp; try with_reducible rfl
    try simp only [Act.put, List.setIfInBounds_toArray, List.set_cons_zero, List.set_cons_succ]
    refine wpAnyH_take (i := 4) (oi := { dst := some 61, op := Go.Op.binOp Go.BinOp.eql 3 (Go.Operand.tmp 60) (Go.Operand.const (Go.Value.int Go.IntKind.i64 0)) 3, type := 4, pos := "law.go:68", after := #[{ on := 3, ground := Go.Ground.data }, { on := 1, ground := Go.Ground.guard }], guard := some (1, true) }) (v := ?v4_740102) rfl (by kernel_rfl) (by kernel_rfl) (by kernel_rfl) (fun _ _ _ h => h) (Or.inl ⟨by rfl, ?y4_740102⟩) hHeld ?r4_740102
    case y4_740102 => intro w hSw; (try dsimp only at hSw); go_simp; try with_reducible rfl
    try simp only [Act.put, List.setIfInBounds_toArray, List.set_cons_zero, List.set_cons_succ]
    refine wpAnyH_take (i := 5) (oi := { dst := some 62, op := Go.Op.move (Go.Operand.tmp 61), type := 4, pos := "law.go:68", after := #[{ on := 4, ground := Go.Ground.data }, { on := 1, ground := Go.Ground.chain }, { on := 1, ground := Go.Ground.guard }], guard := some (1, true) }) (v := ?v5_740102) rfl (by kernel_rfl) (by kernel_rfl) (by kernel_rfl) (fun _ _ _ h => h) (Or.inl ⟨by rfl, ?y5_740102⟩) hHeld ?r5_740102
    case y5_740102 => intro w hSw; (try dsimp only at hSw); go_simp; try with_reducible rfl
    try simp only [Act.put, List.setIfInBounds_toArray, List.set_cons_zero, List.set_cons_succ]
    refine wpAnyH_take (i := 6) (oi := { dst := some 63, op := Go.Op.move (Go.Operand.tmp 2), type := 22, pos := "law.go:68", after := #[{ on := 5, ground := Go.Ground.guard }], guard := some (5, false) }) (v := ?v6_740102) rfl (by kernel_rfl) (by kernel_rfl) (by kernel_rfl) (fun _ _ _ h => h) (Or.inl ⟨by rfl, ?y6_740102⟩) hHeld ?r6_740102
    case y6_740102 => intro w hSw; (try dsimp only at hSw); go_simp; try with_reducible rfl
    try simp only [Act.put, List.setIfInBounds_toArray, List.set_cons_zero, List.set_cons_succ]
    refine wpAnyH_take (i := 7) (oi := { dst := some 64, op := Go.Op.call { callee := Go.Callee.builtin Go.Builtin.len, args := #[Go.Operand.tmp 63], argTypes := #[22] }, type := 3, pos := "law.go:68", after := #[{ on := 6, ground := Go.Ground.data }, { on := 5, ground := Go.Ground.guard }], guard := some (5, false) }) (v := ?v7_740102) rfl (by kernel_rfl) (by kernel_rfl) (by kernel_rfl) (fun _ _ _ h => h) (Or.inl ⟨by rfl, ?y7_740102⟩) hHeld ?r7_740102
    case y7_740102 => intro w hSw; (try dsimp only at hSw); go_simp; try with_reducible rfl
    try simp only [Act.put, List.setIfInBounds_toArray, List.set_cons_zero, List.set_cons_succ]
    refine wpAnyH_take (i := 8) (oi := { dst := some 65, op := Go.Op.binOp Go.BinOp.geq 3 (Go.Operand.tmp 64) (Go.Operand.const (Go.Value.int Go.IntKind.i64 12)) 3, type := 4, pos := "law.go:68", after := #[{ on := 7, ground := Go.Ground.data }, { on := 5, ground := Go.Ground.guard }], guard := some (5, false) }) (v := ?v8_740102) rfl (by kernel_rfl) (by kernel_rfl) (by kernel_rfl) (fun _ _ _ h => h) (Or.inl ⟨by rfl, ?y8_740102⟩) hHeld ?r8_740102
    case y8_740102 => intro w hSw; (try dsimp only at hSw); go_simp; try with_reducible rfl
    try simp only [Act.put, List.setIfInBounds_toArray, List.set_cons_zero, List.set_cons_succ]
    refine wpAnyH_take (i := 9) (oi := { dst := some 66, op := Go.Op.move (Go.Operand.tmp 65), type := 4, pos := "law.go:68", after := #[{ on := 8, ground := Go.Ground.data }, { on := 5, ground := Go.Ground.chain }, { on := 5, ground := Go.Ground.guard }], guard := some (5, false) }) (v := ?v9_740102) rfl (by kernel_rfl) (by kernel_rfl) (by kernel_rfl) (fun _ _ _ h => h) (Or.inl ⟨by rfl, ?y9_740102⟩) hHeld ?r9_740102
    case y9_740102 => intro w hSw; (try dsimp only at hSw); go_simp; try with_reducible rfl
    try simp only [Act.put, List.setIfInBounds_toArray, List.set_cons_zero, List.set_cons_succ]
    refine wpAnyH_take (i := 10) (oi := { dst := some 67, op := Go.Op.move (Go.Operand.tmp 13), type := 38, pos := "law.go:68", after := #[{ on := 9, ground := Go.Ground.guard }], guard := some (9, true) }) (v := ?v10_740102) rfl (by kernel_rfl) (by kernel_rfl) (by kernel_rfl) (fun _ _ _ h => h) (Or.inl ⟨by rfl, ?y10_740102⟩) hHeld ?r10_740102
    case y10_740102 => intro w hSw; (try dsimp only at hSw); go_simp; try with_reducible rfl
    try simp only [Act.put, List.setIfInBounds_toArray, List.set_cons_zero, List.set_cons_succ]
    refine wpAnyH_take (i := 11) (oi := { dst := some 68, op := Go.Op.binOp Go.BinOp.eql 38 (Go.Operand.tmp 67) (Go.Operand.const (Go.Value.int Go.IntKind.i64 0)) 38, type := 4, pos := "law.go:68", after := #[{ on := 10, ground := Go.Ground.data }, { on := 9, ground := Go.Ground.guard }], guard := some (9, true) }) (v := ?v11_740102) rfl (by kernel_rfl) (by kernel_rfl) (by kernel_rfl) (fun _ _ _ h => h) (Or.inl ⟨by rfl, ?y11_740102⟩) hHeld ?r11_740102
    case y11_740102 => intro w hSw; (try dsimp only at hSw); go_simp; try with_reducible rfl
    try simp only [Act.put, List.setIfInBounds_toArray, List.set_cons_zero, List.set_cons_succ]
    refine wpAnyH_take (i := 12) (oi := { dst := some 69, op := Go.Op.pick (Go.Operand.tmp 66) (Go.Operand.tmp 68) (Go.Operand.const (Go.Value.bool false)), type := 4, pos := "law.go:68", after := #[{ on := 9, ground := Go.Ground.data }, { on := 11, ground := Go.Ground.data }, { on := 5, ground := Go.Ground.guard }], guard := some (5, false) }) (v := ?v12_740102) rfl (by kernel_rfl) (by kernel_rfl) (by kernel_rfl) (fun _ _ _ h => h) (Or.inl ⟨by rfl, ?y12_740102⟩) hHeld ?r12_740102
    case y12_740102 => intro w hSw; (try dsimp only at hSw); go_simp; try with_reducible rfl
    try simp only [Act.put, List.setIfInBounds_toArray, List.set_cons_zero, List.set_cons_succ]
    refine wpAnyH_take (i := 13) (oi := { dst := some 70, op := Go.Op.move (Go.Operand.tmp 69), type := 4, pos := "law.go:68", after := #[{ on := 12, ground := Go.Ground.data }, { on := 9, ground := Go.Ground.chain }, { on := 5, ground := Go.Ground.guard }], guard := some (5, false) }) (v := ?v13_740102) rfl (by kernel_rfl) (by kernel_rfl) (by kernel_rfl) (fun _ _ _ h => h) (Or.inl ⟨by rfl, ?y13_740102⟩) hHeld ?r13_740102
    case y13_740102 => intro w hSw; (try dsimp only at hSw); go_simp; try with_reducible rfl
    try simp only [Act.put, List.setIfInBounds_toArray, List.set_cons_zero, List.set_cons_succ]
    refine wpAnyH_take (i := 14) (oi := { dst := some 71, op := Go.Op.fieldAddr 37 (Go.Operand.tmp 12) 0, type := 0, pos := "law.go:68", after := #[{ on := 13, ground := Go.Ground.guard }], guard := some (13, true) }) (v := ?v14_740102) rfl (by kernel_rfl) (by kernel_rfl) (by kernel_rfl) (fun _ _ _ h => h) (Or.inl ⟨by rfl, ?y14_740102⟩) hHeld ?r14_740102
    case y14_740102 => intro w hSw; (try dsimp only at hSw); go_simp; try with_reducible rfl
    try simp only [Act.put, List.setIfInBounds_toArray, List.set_cons_zero, List.set_cons_succ]
    refine wpAnyH_take (i := 15) (oi := { dst := some 72, op := Go.Op.fieldAddr 33 (Go.Operand.tmp 71) 3, type := 0, pos := "law.go:68", after := #[{ on := 14, ground := Go.Ground.data }, { on := 13, ground := Go.Ground.guard }], guard := some (13, true) }) (v := ?v15_740102) rfl (by kernel_rfl) (by kernel_rfl) (by kernel_rfl) (fun _ _ _ h => h) (Or.inl ⟨by rfl, ?y15_740102⟩) hHeld ?r15_740102
    case y15_740102 => intro w hSw; (try dsimp only at hSw); go_simp; try with_reducible rfl
    try simp only [Act.put, List.setIfInBounds_toArray, List.set_cons_zero, List.set_cons_succ]
    refine wpAnyH_take (i := 16) (oi := { dst := some 73, op := Go.Op.load 4 (Go.Operand.tmp 72), type := 4, pos := "law.go:68", after := #[{ on := 15, ground := Go.Ground.data }, { on := 13, ground := Go.Ground.guard }], guard := some (13, true) }) (v := ?v16_740102) rfl (by kernel_rfl) (by kernel_rfl) (by kernel_rfl) (fun _ _ _ h => h) (Or.inl ⟨by rfl, ?y16_740102⟩) hHeld ?r16_740102
    case y16_740102 => intro w hSw; (try dsimp only at hSw); obtain ⟨y0, y1, y2, y3, y4, y5, y6, y7, y8, y9, y10, y11, _⟩ := (HM.out.below hSw).u12; go_simp; try with_reducible rfl
    try simp only [Act.put, List.setIfInBounds_toArray, List.set_cons_zero, List.set_cons_succ]
    refine wpAnyH_take (i := 17) (oi := { dst := some 74, op := Go.Op.pick (Go.Operand.tmp 70) (Go.Operand.tmp 73) (Go.Operand.const (Go.Value.bool false)), type := 4, pos := "law.go:68", after := #[{ on := 13, ground := Go.Ground.data }, { on := 16, ground := Go.Ground.data }, { on := 5, ground := Go.Ground.guard }], guard := some (5, false) }) (v := ?v17_740102) rfl (by kernel_rfl) (by kernel_rfl) (by kernel_rfl) (fun _ _ _ h => h) (Or.inl ⟨by rfl, ?y17_740102⟩) hHeld ?r17_740102
    case y17_740102 => intro w hSw; (try dsimp only at hSw); go_simp; try with_reducible rfl
    try simp only [Act.put, List.setIfInBounds_toArray, List.set_cons_zero, List.set_cons_succ]
    refine wpAnyH_take (i := 18) (oi := { dst := some 75, op := Go.Op.move (Go.Operand.tmp 74), type := 4, pos := "law.go:68", after := #[{ on := 17, ground := Go.Ground.data }, { on := 13, ground := Go.Ground.chain }, { on := 5, ground := Go.Ground.guard }], guard := some (5, false) }) (v := ?v18_740102) rfl (by kernel_rfl) (by kernel_rfl) (by kernel_rfl) (fun _ _ _ h => h) (Or.inl ⟨by rfl, ?y18_740102⟩) hHeld ?r18_740102
    case y18_740102 => intro w hSw; (try dsimp only at hSw); go_simp; try with_reducible rfl
    try simp only [Act.put, List.setIfInBounds_toArray, List.set_cons_zero, List.set_cons_succ]
    refine wpAnyH_take (i := 19) (oi := { dst := some 76, op := Go.Op.fieldAddr 37 (Go.Operand.tmp 12) 0, type := 0, pos := "law.go:68", after := #[{ on := 18, ground := Go.Ground.guard }], guard := some (18, true) }) (v := ?v19_740102) rfl (by kernel_rfl) (by kernel_rfl) (by kernel_rfl) (fun _ _ _ h => h) (Or.inl ⟨by rfl, ?y19_740102⟩) hHeld ?r19_740102
    case y19_740102 => intro w hSw; (try dsimp only at hSw); go_simp; try with_reducible rfl
    try simp only [Act.put, List.setIfInBounds_toArray, List.set_cons_zero, List.set_cons_succ]
    refine wpAnyH_take (i := 20) (oi := { dst := some 77, op := Go.Op.fieldAddr 33 (Go.Operand.tmp 76) 7, type := 0, pos := "law.go:68", after := #[{ on := 19, ground := Go.Ground.data }, { on := 18, ground := Go.Ground.guard }], guard := some (18, true) }) (v := ?v20_740102) rfl (by kernel_rfl) (by kernel_rfl) (by kernel_rfl) (fun _ _ _ h => h) (Or.inl ⟨by rfl, ?y20_740102⟩) hHeld ?r20_740102
    case y20_740102 => intro w hSw; (try dsimp only at hSw); go_simp; try with_reducible rfl
    try simp only [Act.put, List.setIfInBounds_toArray, List.set_cons_zero, List.set_cons_succ]
    refine wpAnyH_take (i := 21) (oi := { dst := some 78, op := Go.Op.load 4 (Go.Operand.tmp 77), type := 4, pos := "law.go:68", after := #[{ on := 20, ground := Go.Ground.data }, { on := 18, ground := Go.Ground.guard }], guard := some (18, true) }) (v := ?v21_740102) rfl (by kernel_rfl) (by kernel_rfl) (by kernel_rfl) (fun _ _ _ h => h) (Or.inl ⟨by rfl, ?y21_740102⟩) hHeld ?r21_740102
    case y21_740102 => intro w hSw; (try dsimp only at hSw); obtain ⟨y0, y1, y2, y3, y4, y5, y6, y7, y8, y9, y10, y11, _⟩ := (HM.out.below hSw).u12; go_simp; try with_reducible rfl
    try simp only [Act.put, List.setIfInBounds_toArray, List.set_cons_zero, List.set_cons_succ]
    refine wpAnyH_take (i := 22) (oi := { dst := some 79, op := Go.Op.pick (Go.Operand.tmp 75) (Go.Operand.tmp 78) (Go.Operand.const (Go.Value.bool false)), type := 4, pos := "law.go:68", after := #[{ on := 18, ground := Go.Ground.data }, { on := 21, ground := Go.Ground.data }, { on := 5, ground := Go.Ground.guard }], guard := some (5, false) }) (v := ?v22_740102) rfl (by kernel_rfl) (by kernel_rfl) (by kernel_rfl) (fun _ _ _ h => h) (Or.inl ⟨by rfl, ?y22_740102⟩) hHeld ?r22_740102
    case y22_740102 => intro w hSw; (try dsimp only at hSw); go_simp; try with_reducible rfl
    try simp only [Act.put, List.setIfInBounds_toArray, List.set_cons_zero, List.set_cons_succ]
    refine wpAnyH_take (i := 23) (oi := { dst := some 80, op := Go.Op.move (Go.Operand.tmp 79), type := 4, pos := "law.go:68", after := #[{ on := 22, ground := Go.Ground.data }, { on := 18, ground := Go.Ground.chain }, { on := 5, ground := Go.Ground.guard }], guard := some (5, false) }) (v := ?v23_740102) rfl (by kernel_rfl) (by kernel_rfl) (by kernel_rfl) (fun _ _ _ h => h) (Or.inl ⟨by rfl, ?y23_740102⟩) hHeld ?r23_740102
    case y23_740102 => intro w hSw; (try dsimp only at hSw); go_simp; try with_reducible rfl
    try simp only [Act.put, List.setIfInBounds_toArray, List.set_cons_zero, List.set_cons_succ]
    refine wpAnyH_take (i := 24) (oi := { dst := some 81, op := Go.Op.fieldAddr 37 (Go.Operand.tmp 12) 2, type := 0, pos := "law.go:68", after := #[{ on := 23, ground := Go.Ground.guard }], guard := some (23, true) }) (v := ?v24_740102) rfl (by kernel_rfl) (by kernel_rfl) (by kernel_rfl) (fun _ _ _ h => h) (Or.inl ⟨by rfl, ?y24_740102⟩) hHeld ?r24_740102
    case y24_740102 => intro w hSw; (try dsimp only at hSw); go_simp; try with_reducible rfl
    try simp only [Act.put, List.setIfInBounds_toArray, List.set_cons_zero, List.set_cons_succ]
    refine wpAnyH_take (i := 25) (oi := { dst := some 82, op := Go.Op.load 35 (Go.Operand.tmp 81), type := 35, pos := "law.go:68", after := #[{ on := 24, ground := Go.Ground.data }, { on := 23, ground := Go.Ground.guard }], guard := some (23, true) }) (v := ?v25_740102) rfl (by kernel_rfl) (by kernel_rfl) (by kernel_rfl) (fun _ _ _ h => h) (Or.inl ⟨by rfl, ?y25_740102⟩) hHeld ?r25_740102
    case y25_740102 => intro w hSw; (try dsimp only at hSw); obtain ⟨y0, y1, y2, y3, y4, y5, y6, y7, y8, y9, y10, y11, _⟩ := (HM.out.below hSw).u12; go_simp; try with_reducible rfl
    try simp only [Act.put, List.setIfInBounds_toArray, List.set_cons_zero, List.set_cons_succ]
    refine wpAnyH_take (i := 26) (oi := { dst := some 83, op := Go.Op.call { callee := Go.Callee.builtin Go.Builtin.len, args := #[Go.Operand.tmp 82], argTypes := #[35] }, type := 3, pos := "law.go:68", after := #[{ on := 25, ground := Go.Ground.data }, { on := 23, ground := Go.Ground.guard }], guard := some (23, true) }) (v := ?v26_740102) rfl (by kernel_rfl) (by kernel_rfl) (by kernel_rfl) (fun _ _ _ h => h) (Or.inl ⟨by rfl, ?y26_740102⟩) hHeld ?r26_740102
    case y26_740102 => intro w hSw; (try dsimp only at hSw); go_simp; try with_reducible rfl
    try simp only [Act.put, List.setIfInBounds_toArray, List.set_cons_zero, List.set_cons_succ]
    refine wpAnyH_take (i := 27) (oi := { dst := some 84, op := Go.Op.binOp Go.BinOp.eql 3 (Go.Operand.tmp 83) (Go.Operand.const (Go.Value.int Go.IntKind.i64 0)) 3, type := 4, pos := "law.go:68", after := #[{ on := 26, ground := Go.Ground.data }, { on := 23, ground := Go.Ground.guard }], guard := some (23, true) }) (v := ?v27_740102) rfl (by kernel_rfl) (by kernel_rfl) (by kernel_rfl) (fun _ _ _ h => h) (Or.inl ⟨by rfl, ?y27_740102⟩) hHeld ?r27_740102
    case y27_740102 => intro w hSw; (try dsimp only at hSw); go_simp; try with_reducible rfl
    try simp only [Act.put, List.setIfInBounds_toArray, List.set_cons_zero, List.set_cons_succ]
    refine wpAnyH_take (i := 28) (oi := { dst := some 85, op := Go.Op.pick (Go.Operand.tmp 80) (Go.Operand.tmp 84) (Go.Operand.const (Go.Value.bool false)), type := 4, pos := "law.go:68", after := #[{ on := 23, ground := Go.Ground.data }, { on := 27, ground := Go.Ground.data }, { on := 5, ground := Go.Ground.guard }], guard := some (5, false) }) (v := ?v28_740102) rfl (by kernel_rfl) (by kernel_rfl) (by kernel_rfl) (fun _ _ _ h => h) (Or.inl ⟨by rfl, ?y28_740102⟩) hHeld ?r28_740102
    case y28_740102 => intro w hSw; (try dsimp only at hSw); go_simp; try with_reducible rfl
    try simp only [Act.put, List.setIfInBounds_toArray, List.set_cons_zero, List.set_cons_succ]
    refine wpAnyH_take (i := 29) (oi := { dst := some 86, op := Go.Op.move (Go.Operand.tmp 85), type := 4, pos := "law.go:68", after := #[{ on := 28, ground := Go.Ground.data }, { on := 23, ground := Go.Ground.chain }, { on := 5, ground := Go.Ground.guard }], guard := some (5, false) }) (v := ?v29_740102) rfl (by kernel_rfl) (by kernel_rfl) (by kernel_rfl) (fun _ _ _ h => h) (Or.inl ⟨by rfl, ?y29_740102⟩) hHeld ?r29_740102
    case y29_740102 => intro w hSw; (try dsimp only at hSw); go_simp; try with_reducible rfl
    try simp only [Act.put, List.setIfInBounds_toArray, List.set_cons_zero, List.set_cons_succ]
    refine wpAnyH_take (i := 30) (oi := { dst := some 87, op := Go.Op.move (Go.Operand.tmp 10), type := 22, pos := "law.go:68", after := #[{ on := 29, ground := Go.Ground.guard }], guard := some (29, true) }) (v := ?v30_740102) rfl (by kernel_rfl) (by kernel_rfl) (by kernel_rfl) (fun _ _ _ h => h) (Or.inl ⟨by rfl, ?y30_740102⟩) hHeld ?r30_740102
    case y30_740102 => intro w hSw; (try dsimp only at hSw); go_simp; try with_reducible rfl
    try simp only [Act.put, List.setIfInBounds_toArray, List.set_cons_zero, List.set_cons_succ]
    refine wpAnyH_take (i := 31) (oi := { dst := some 88, op := Go.Op.indexAddr 22 (Go.Operand.tmp 87) (Go.Operand.const (Go.Value.int Go.IntKind.i64 0)), type := 0, pos := "law.go:68", after := #[{ on := 30, ground := Go.Ground.data }, { on := 29, ground := Go.Ground.guard }], guard := some (29, true) }) (v := ?v31_740102) rfl (by kernel_rfl) (by kernel_rfl) (by kernel_rfl) (fun _ _ _ h => h) (Or.inl ⟨by rfl, ?y31_740102⟩) hHeld ?r31_740102
    case y31_740102 => intro w hSw; (try dsimp only at hSw); go_simp; try with_reducible rfl
    try simp only [Act.put, List.setIfInBounds_toArray, List.set_cons_zero, List.set_cons_succ]
    refine wpAnyH_take (i := 32) (oi := { dst := some 89, op := Go.Op.load 5 (Go.Operand.tmp 88), type := 5, pos := "law.go:68", after := #[{ on := 31, ground := Go.Ground.data }, { on := 29, ground := Go.Ground.guard }], guard := some (29, true) }) (v := ?v32_740102) rfl (by kernel_rfl) (by kernel_rfl) (by kernel_rfl) (fun _ _ _ h => h) (Or.inl ⟨by rfl, ?y32_740102⟩) hHeld ?r32_740102
    case y32_740102 => intro w hSw; (try dsimp only at hSw); obtain ⟨x0, x1, z0, z1⟩ := HXY.out w hSw; go_simp; try with_reducible rfl
    try simp only [Act.put, List.setIfInBounds_toArray, List.set_cons_zero, List.set_cons_succ]
    refine wpAnyH_take (i := 33) (oi := { dst := some 90, op := Go.Op.move (Go.Operand.tmp 2), type := 22, pos := "law.go:68", after := #[{ on := 29, ground := Go.Ground.guard }], guard := some (29, true) }) (v := ?v33_740102) rfl (by kernel_rfl) (by kernel_rfl) (by kernel_rfl) (fun _ _ _ h => h) (Or.inl ⟨by rfl, ?y33_740102⟩) hHeld ?r33_740102
    case y33_740102 => intro w hSw; (try dsimp only at hSw); go_simp; try with_reducible rfl
    try simp only [Act.put, List.setIfInBounds_toArray, List.set_cons_zero, List.set_cons_succ]
    refine wpAnyH_take (i := 34) (oi := { dst := some 91, op := Go.Op.indexAddr 22 (Go.Operand.tmp 90) (Go.Operand.const (Go.Value.int Go.IntKind.i64 0)), type := 0, pos := "law.go:68", after := #[{ on := 33, ground := Go.Ground.data }, { on := 29, ground := Go.Ground.guard }], guard := some (29, true) }) (v := ?v34_740102) rfl (by kernel_rfl) (by kernel_rfl) (by kernel_rfl) (fun _ _ _ h => h) (Or.inl ⟨by rfl, ?y34_740102⟩) hHeld ?r34_740102
    case y34_740102 => intro w hSw; (try dsimp only at hSw); go_simp; try with_reducible rfl
    try simp only [Act.put, List.setIfInBounds_toArray, List.set_cons_zero, List.set_cons_succ]
    refine wpAnyH_take (i := 35) (oi := { dst := some 92, op := Go.Op.load 5 (Go.Operand.tmp 91), type := 5, pos := "law.go:68", after := #[{ on := 34, ground := Go.Ground.data }, { on := 29, ground := Go.Ground.guard }], guard := some (29, true) }) (v := ?v35_740102) rfl (by kernel_rfl) (by kernel_rfl) (by kernel_rfl) (fun _ _ _ h => h) (Or.inl ⟨by rfl, ?y35_740102⟩) hHeld ?r35_740102
    case y35_740102 => intro w hSw; (try dsimp only at hSw); obtain ⟨x0, x1, z0, z1⟩ := HXY.out w hSw; go_simp; try with_reducible rfl
    try simp only [Act.put, List.setIfInBounds_toArray, List.set_cons_zero, List.set_cons_succ]
    refine wpAnyH_take (i := 36) (oi := { dst := some 93, op := Go.Op.binOp Go.BinOp.eql 5 (Go.Operand.tmp 89) (Go.Operand.tmp 92) 5, type := 4, pos := "law.go:68", after := #[{ on := 32, ground := Go.Ground.data }, { on := 35, ground := Go.Ground.data }, { on := 29, ground := Go.Ground.guard }], guard := some (29, true) }) (v := ?v36_740102) rfl (by kernel_rfl) (by kernel_rfl) (by kernel_rfl) (fun _ _ _ h => h) (Or.inl ⟨by rfl, ?y36_740102⟩) hHeld ?r36_740102
    case y36_740102 => intro w hSw; (try dsimp only at hSw); go_simp; try with_reducible rfl
    try simp only [Act.put, List.setIfInBounds_toArray, List.set_cons_zero, List.set_cons_succ]
    refine wpAnyH_take (i := 37) (oi := { dst := some 94, op := Go.Op.pick (Go.Operand.tmp 86) (Go.Operand.tmp 93) (Go.Operand.const (Go.Value.bool false)), type := 4, pos := "law.go:68", after := #[{ on := 29, ground := Go.Ground.data }, { on := 36, ground := Go.Ground.data }, { on := 5, ground := Go.Ground.guard }], guard := some (5, false) }) (v := ?v37_740102) rfl (by kernel_rfl) (by kernel_rfl) (by kernel_rfl) (fun _ _ _ h => h) (Or.inl ⟨by rfl, ?y37_740102⟩) hHeld ?r37_740102
    case y37_740102 => intro w hSw; (try dsimp only at hSw); go_simp; try with_reducible rfl
    try simp only [Act.put, List.setIfInBounds_toArray, List.set_cons_zero, List.set_cons_succ]
    refine wpAnyH_take (i := 38) (oi := { dst := some 95, op := Go.Op.move (Go.Operand.tmp 94), type := 4, pos := "law.go:68", after := #[{ on := 37, ground := Go.Ground.data }, { on := 29, ground := Go.Ground.chain }, { on := 5, ground := Go.Ground.guard }], guard := some (5, false) }) (v := ?v38_740102) rfl (by kernel_rfl) (by kernel_rfl) (by kernel_rfl) (fun _ _ _ h => h) (Or.inl ⟨by rfl, ?y38_740102⟩) hHeld ?r38_740102
    case y38_740102 => intro w hSw; (try dsimp only at hSw); go_simp; try with_reducible rfl
    try simp only [Act.put, List.setIfInBounds_toArray, List.set_cons_zero, List.set_cons_succ]
    refine wpAnyH_take (i := 39) (oi := { dst := some 96, op := Go.Op.move (Go.Operand.tmp 10), type := 22, pos := "law.go:68", after := #[{ on := 38, ground := Go.Ground.guard }], guard := some (38, true) }) (v := ?v39_740102) rfl (by kernel_rfl) (by kernel_rfl) (by kernel_rfl) (fun _ _ _ h => h) (Or.inl ⟨by rfl, ?y39_740102⟩) hHeld ?r39_740102
    case y39_740102 => intro w hSw; (try dsimp only at hSw); go_simp; try with_reducible rfl
    try simp only [Act.put, List.setIfInBounds_toArray, List.set_cons_zero, List.set_cons_succ]
    refine wpAnyH_take (i := 40) (oi := { dst := some 97, op := Go.Op.indexAddr 22 (Go.Operand.tmp 96) (Go.Operand.const (Go.Value.int Go.IntKind.i64 1)), type := 0, pos := "law.go:68", after := #[{ on := 39, ground := Go.Ground.data }, { on := 38, ground := Go.Ground.guard }], guard := some (38, true) }) (v := ?v40_740102) rfl (by kernel_rfl) (by kernel_rfl) (by kernel_rfl) (fun _ _ _ h => h) (Or.inl ⟨by rfl, ?y40_740102⟩) hHeld ?r40_740102
    case y40_740102 => intro w hSw; (try dsimp only at hSw); go_simp; try with_reducible rfl
    try simp only [Act.put, List.setIfInBounds_toArray, List.set_cons_zero, List.set_cons_succ]
    refine wpAnyH_take (i := 41) (oi := { dst := some 98, op := Go.Op.load 5 (Go.Operand.tmp 97), type := 5, pos := "law.go:68", after := #[{ on := 40, ground := Go.Ground.data }, { on := 38, ground := Go.Ground.guard }], guard := some (38, true) }) (v := ?v41_740102) rfl (by kernel_rfl) (by kernel_rfl) (by kernel_rfl) (fun _ _ _ h => h) (Or.inl ⟨by rfl, ?y41_740102⟩) hHeld ?r41_740102
    case y41_740102 => intro w hSw; (try dsimp only at hSw); obtain ⟨x0, x1, z0, z1⟩ := HXY.out w hSw; go_simp; try with_reducible rfl
    try simp only [Act.put, List.setIfInBounds_toArray, List.set_cons_zero, List.set_cons_succ]
    refine wpAnyH_take (i := 42) (oi := { dst := some 99, op := Go.Op.move (Go.Operand.tmp 2), type := 22, pos := "law.go:68", after := #[{ on := 38, ground := Go.Ground.guard }], guard := some (38, true) }) (v := ?v42_740102) rfl (by kernel_rfl) (by kernel_rfl) (by kernel_rfl) (fun _ _ _ h => h) (Or.inl ⟨by rfl, ?y42_740102⟩) hHeld ?r42_740102
    case y42_740102 => intro w hSw; (try dsimp only at hSw); go_simp; try with_reducible rfl
    try simp only [Act.put, List.setIfInBounds_toArray, List.set_cons_zero, List.set_cons_succ]
    refine wpAnyH_take (i := 43) (oi := { dst := some 100, op := Go.Op.indexAddr 22 (Go.Operand.tmp 99) (Go.Operand.const (Go.Value.int Go.IntKind.i64 1)), type := 0, pos := "law.go:68", after := #[{ on := 42, ground := Go.Ground.data }, { on := 38, ground := Go.Ground.guard }], guard := some (38, true) }) (v := ?v43_740102) rfl (by kernel_rfl) (by kernel_rfl) (by kernel_rfl) (fun _ _ _ h => h) (Or.inl ⟨by rfl, ?y43_740102⟩) hHeld ?r43_740102
    case y43_740102 => intro w hSw; (try dsimp only at hSw); go_simp; try with_reducible rfl
    try simp only [Act.put, List.setIfInBounds_toArray, List.set_cons_zero, List.set_cons_succ]
    refine wpAnyH_take (i := 44) (oi := { dst := some 101, op := Go.Op.load 5 (Go.Operand.tmp 100), type := 5, pos := "law.go:68", after := #[{ on := 43, ground := Go.Ground.data }, { on := 38, ground := Go.Ground.guard }], guard := some (38, true) }) (v := ?v44_740102) rfl (by kernel_rfl) (by kernel_rfl) (by kernel_rfl) (fun _ _ _ h => h) (Or.inl ⟨by rfl, ?y44_740102⟩) hHeld ?r44_740102
    case y44_740102 => intro w hSw; (try dsimp only at hSw); obtain ⟨x0, x1, z0, z1⟩ := HXY.out w hSw; go_simp; try with_reducible rfl
    try simp only [Act.put, List.setIfInBounds_toArray, List.set_cons_zero, List.set_cons_succ]
    refine wpAnyH_take (i := 45) (oi := { dst := some 102, op := Go.Op.binOp Go.BinOp.eql 5 (Go.Operand.tmp 98) (Go.Operand.tmp 101) 5, type := 4, pos := "law.go:68", after := #[{ on := 41, ground := Go.Ground.data }, { on := 44, ground := Go.Ground.data }, { on := 38, ground := Go.Ground.guard }], guard := some (38, true) }) (v := ?v45_740102) rfl (by kernel_rfl) (by kernel_rfl) (by kernel_rfl) (fun _ _ _ h => h) (Or.inl ⟨by rfl, ?y45_740102⟩) hHeld ?r45_740102
    case y45_740102 => intro w hSw; (try dsimp only at hSw); go_simp; try with_reducible rfl
    try simp only [Act.put, List.setIfInBounds_toArray, List.set_cons_zero, List.set_cons_succ]
    refine wpAnyH_take (i := 46) (oi := { dst := some 103, op := Go.Op.pick (Go.Operand.tmp 95) (Go.Operand.tmp 102) (Go.Operand.const (Go.Value.bool false)), type := 4, pos := "law.go:68", after := #[{ on := 38, ground := Go.Ground.data }, { on := 45, ground := Go.Ground.data }, { on := 5, ground := Go.Ground.guard }], guard := some (5, false) }) (v := ?v46_740102) rfl (by kernel_rfl) (by kernel_rfl) (by kernel_rfl) (fun _ _ _ h => h) (Or.inl ⟨by rfl, ?y46_740102⟩) hHeld ?r46_740102
    case y46_740102 => intro w hSw; (try dsimp only at hSw); go_simp; try with_reducible rfl
    try simp only [Act.put, List.setIfInBounds_toArray, List.set_cons_zero, List.set_cons_succ]
    refine wpAnyH_take (i := 47) (oi := { dst := some 104, op := Go.Op.pick (Go.Operand.tmp 62) (Go.Operand.const (Go.Value.bool true)) (Go.Operand.tmp 103), type := 4, pos := "law.go:68", after := #[{ on := 5, ground := Go.Ground.data }, { on := 46, ground := Go.Ground.data }, { on := 1, ground := Go.Ground.guard }], guard := some (1, true) }) (v := ?v47_740102) rfl (by kernel_rfl) (by kernel_rfl) (by kernel_rfl) (fun _ _ _ h => h) (Or.inl ⟨by rfl, ?y47_740102⟩) hHeld ?r47_740102
    case y47_740102 => intro w hSw; (try dsimp only at hSw); go_simp; try with_reducible rfl
    try simp only [Act.put, List.setIfInBounds_toArray, List.set_cons_zero, List.set_cons_succ]
    refine wpAnyH_take (i := 48) (oi := { dst := some 105, op := Go.Op.pick (Go.Operand.tmp 58) (Go.Operand.tmp 104) (Go.Operand.const (Go.Value.bool false)), type := 4, pos := "law.go:68", after := #[{ on := 1, ground := Go.Ground.data }, { on := 47, ground := Go.Ground.data }], guard := none }) (v := ?v48_740102) rfl (by kernel_rfl) (by kernel_rfl) (by kernel_rfl) (fun _ _ _ h => h) (Or.inl ⟨by rfl, ?y48_740102⟩) hHeld ?r48_740102
    case y48_740102 => intro w hSw; (try dsimp only at hSw); go_simp; try with_reducible rfl
    try simp only [Act.put, List.setIfInBounds_toArray, List.set_cons_zero, List.set_cons_succ]
    refine wpAnyH_take (i := 49) (oi := { dst := some 8, op := Go.Op.assign (Go.Operand.tmp 105), type := 4, pos := "law.go:68", after := #[{ on := 48, ground := Go.Ground.data }, { on := 38, ground := Go.Ground.chain }, { on := 0, ground := Go.Ground.phase }, { on := 1, ground := Go.Ground.phase }, { on := 2, ground := Go.Ground.phase }, { on := 3, ground := Go.Ground.phase }, { on := 4, ground := Go.Ground.phase }, { on := 5, ground := Go.Ground.phase }, { on := 6, ground := Go.Ground.phase }, { on := 7, ground := Go.Ground.phase }, { on := 8, ground := Go.Ground.phase }, { on := 9, ground := Go.Ground.phase }, { on := 10, ground := Go.Ground.phase }, { on := 11, ground := Go.Ground.phase }, { on := 12, ground := Go.Ground.phase }, { on := 13, ground := Go.Ground.phase }, { on := 14, ground := Go.Ground.phase }, { on := 15, ground := Go.Ground.phase }, { on := 16, ground := Go.Ground.phase }, { on := 17, ground := Go.Ground.phase }, { on := 18, ground := Go.Ground.phase }, { on := 19, ground := Go.Ground.phase }, { on := 20, ground := Go.Ground.phase }, { on := 21, ground := Go.Ground.phase }, { on := 22, ground := Go.Ground.phase }, { on := 23, ground := Go.Ground.phase }, { on := 24, ground := Go.Ground.phase }, { on := 25, ground := Go.Ground.phase }, { on := 26, ground := Go.Ground.phase }, { on := 27, ground := Go.Ground.phase }, { on := 28, ground := Go.Ground.phase }, { on := 29, ground := Go.Ground.phase }, { on := 30, ground := Go.Ground.phase }, { on := 31, ground := Go.Ground.phase }, { on := 32, ground := Go.Ground.phase }, { on := 33, ground := Go.Ground.phase }, { on := 34, ground := Go.Ground.phase }, { on := 35, ground := Go.Ground.phase }, { on := 36, ground := Go.Ground.phase }, { on := 37, ground := Go.Ground.phase }, { on := 38, ground := Go.Ground.phase }, { on := 39, ground := Go.Ground.phase }, { on := 40, ground := Go.Ground.phase }, { on := 41, ground := Go.Ground.phase }, { on := 42, ground := Go.Ground.phase }, { on := 43, ground := Go.Ground.phase }, { on := 44, ground := Go.Ground.phase }, { on := 45, ground := Go.Ground.phase }, { on := 46, ground := Go.Ground.phase }, { on := 47, ground := Go.Ground.phase }, { on := 48, ground := Go.Ground.phase }], guard := none }) (v := ?v49_740102) rfl (by kernel_rfl) (by kernel_rfl) (by kernel_rfl) (fun _ _ _ h => h) (Or.inl ⟨by rfl, ?y49_740102⟩) hHeld ?r49_740102
    case y49_740102 => intro w hSw; (try dsimp only at hSw); go_simp; try with_reducible rfl
    try simp only [Act.put, List.setIfInBounds_toArray, List.set_cons_zero, List.set_cons_succ]
    refine wpAnyH_done (by kernel_rfl) ?_ _
    go_wp2
    go_ret
    exact ⟨rfl, HB.out.trans (hHeld.mono HB.out.size)⟩
  rename_i c
  obtain ⟨M, h1, h2, h3, h4, h5, h6, h7, h8, h9⟩ := read_goods hx
  obtain ⟨⟨qn, qt, qk⟩, cf, id, sz, rd, ed, tc⟩ := c
  obtain ⟨⟨mi, mo, mr, m1, m2, m3, m4, m5⟩, Q, A, N, X⟩ := M
  replace h2 : [(⟨qn, qt, qk⟩ : Ky)] = Q := h2.symm
  replace h4 : id = mi := h4
  replace h5 : rd = m4 := h5
  replace h6 : ed = (getO X).2.1 := h6
  replace h7 : tcp = tc := h7.symm
  replace h8 : fr = cf := h8.symm
  replace h3 : (getO X).2.2 = 0 := h3
  replace h9 : sz = (if tcp then 16000 else sizeO X 512 1232) := h9
  subst h2 h4 h5 h7 h8
  have hmq := dec_q h1 rfl
  replace hmq : mayK ⟨qn, qt, qk⟩ = true ∧ inR id 65535 = true := hmq
  have hs1 : 512 ≤ sz := by rw [h9]; split; decide; exact (sizeO_rng X (by decide)).1
  have hs2 : (sz == 16000) = tcp := by
      rw [h9]
      cases tcp
      · have := (sizeO_rng X (show (512 : Int) ≤ 1232 by decide)).2
        exact eF (by show ¬ sizeO X 512 1232 = 16000; omega)
      · rfl
  obtain ⟨⟨⟨os, ov, orc, od, odt⟩, ok, oe⟩, hG⟩ : ∃ x, getO X = x := ⟨_, rfl⟩
  rw [hG] at h3 h6
  replace h3 : 0 = oe := h3.symm
  replace h6 : ed = ok := h6
  subst h3 h6
  have HG := Lib.hid hG
  have HX := Lib.hid hx
  have HD := Lib.hid (show decP (bs l) = some (fromP ⟨id, mo, mr, m1, m2, m3, rd, m5, [⟨qn, qt, qk⟩], A, N, X⟩) from h1)
  have HS1 := Lib.hid hs1
  have HS2 := Lib.hid hs2
  have HMQ := Lib.hid hmq
  clear hG hx h1 hs1 hs2 hmq h9
  go_wp2_with fail
  refine (read_good fr tcp a0 n0 c0 l qn qt qk fr id sz rd ed tcp _ HRB.out HN.out HNB.out HNC.out HX.out).mono ?_; rintro e w3 ⟨⟨v, rfl, ho⟩, hb⟩
  replace HRB := Lib.hid (HRB.out.below hb)
  replace HL := Lib.hid (HL.out.below hb)
  replace HB := Lib.hid (HB.out.trans (hb.mono HB.out.size))
  clear hb
  obtain ⟨b0, k0, rfl, -⟩ := cellsK_own ho
  clear ho
  have hba := (Below.refl _ _ : Below w3.heap.size w3 w3).alloc (Nat.le_refl _) (.cells #[.string qn, .int .i64 qt, .int .i64 qk, .string fr, .int .i64 id, .int .i64 sz, .bool rd, .bool ed, .bool tcp] 29)
  have HC := Lib.hid (CN.new w3 #[.string qn, .int .i64 qt, .int .i64 qk, .string fr, .int .i64 id, .int .i64 sz, .bool rd, .bool ed, .bool tcp] 29)
  replace HRB := Lib.hid (HRB.out.below hba)
  replace HL := Lib.hid (HL.out.below hba)
  replace HB := Lib.hid (HB.out.trans (hba.mono HB.out.size))
  obtain ⟨w4, hw⟩ : ∃ x, w3.alloc (.cells #[.string qn, .int .i64 qt, .int .i64 qk, .string fr, .int .i64 id, .int .i64 sz, .bool rd, .bool ed, .bool tcp] 29) = x := ⟨_, rfl⟩
  obtain ⟨q4, hq⟩ : ∃ x, w3.heap.size = x := ⟨_, rfl⟩
  rw [hw, hq] at HC
  rw [hw] at HRB HL HB
  have HW := Lib.hid hw
  have HQ_ := Lib.hid hq
  clear hba hw hq
  go_upto_region 6 with (fail)
  rw [HW.out, HQ_.out]
  clear HW HQ_
  go_wp2_with fail
  refine (decode_ok l ⟨id, mo, mr, m1, m2, m3, rd, m5, [⟨qn, qt, qk⟩], A, N, X⟩ a0 n0 c0 _ HRB.out HN.out HNB.out HD.out).mono ?_; rintro e w5 ⟨v, rfl, ho, hzm, hb⟩
  replace HRB := Lib.hid (HRB.out.below hb)
  replace HL := Lib.hid (HL.out.below hb)
  replace HB := Lib.hid (HB.out.trans (hb.mono HB.out.size))
  replace HC := Lib.hid (HC.out.below hb)
  clear hb
  obtain ⟨qa, ql, qc, na, nl, nc, sa, sl, sc, xa, xl, xc, rfl, hp⟩ := ho.at.parts
  obtain ⟨⟨l1, -, -, -⟩, hrq, -⟩ := hp.lens
  replace l1 : ql = 1 := l1.symm
  subst l1
  have HP := Lib.hid hp
  have HRQ := Lib.hid hrq
  have HZM := Lib.hid hzm
  clear ho hp hrq hzm
  clear HRB
  have hba := (Below.refl _ _ : Below w5.heap.size w5 w5).alloc (Nat.le_refl _) (.cells #[.int .i64 id, .int .i64 mo, .int .i64 mr, .bool m1, .bool m2, .bool m3, .bool rd, .bool m5, .slice qa 1 qc, .slice na nl nc, .slice sa sl sc, .slice xa xl xc] 37)
  have HM := Lib.hid (CN.new w5 #[.int .i64 id, .int .i64 mo, .int .i64 mr, .bool m1, .bool m2, .bool m3, .bool rd, .bool m5, .slice qa 1 qc, .slice na nl nc, .slice sa sl sc, .slice xa xl xc] 37)
  replace HL := Lib.hid (HL.out.below hba)
  replace HB := Lib.hid (HB.out.trans (hba.mono HB.out.size))
  replace HC := Lib.hid (HC.out.below hba)
  replace HP := Lib.hid (HP.out.below hba)
  replace HRQ := Lib.hid (HRQ.out.below hba)
  obtain ⟨w6, hw⟩ : ∃ x, w5.alloc (.cells #[.int .i64 id, .int .i64 mo, .int .i64 mr, .bool m1, .bool m2, .bool m3, .bool rd, .bool m5, .slice qa 1 qc, .slice na nl nc, .slice sa sl sc, .slice xa xl xc] 37) = x := ⟨_, rfl⟩
  obtain ⟨q6, hq⟩ : ∃ x, w5.heap.size = x := ⟨_, rfl⟩
  rw [hw, hq] at HM
  rw [hw] at HL HB HC HP HRQ
  have HW := Lib.hid hw
  have HQ_ := Lib.hid hq
  clear hba hw hq
  go_upto_region 10 with (fail)
  rw [HW.out, HQ_.out]
  clear HW HQ_
  obtain ⟨y0, y1, y2, y3, y4, y5, y6, y7, y8, y9, y10, y11, f0, f1, f2, f3, f4, f5, f6, f7, f8, f9, f10, f11⟩ := HM.out.u12
  go_wp2_with fail
  refine (getM_is _ ⟨id, mo, mr, m1, m2, m3, rd, m5, [⟨qn, qt, qk⟩], A, N, X⟩ _ os ov orc od odt ed 0 HP.out (by have := HZM.out.2.2.2.1; have h2 : (fromP ⟨id, mo, mr, m1, m2, m3, rd, m5, [⟨qn, qt, qk⟩], A, N, X⟩).x.length = X.length := rfl; show X.length ≤ 100000; omega) HG.out).mono ?_; rintro e w7 ⟨rfl, hb⟩
  replace HL := Lib.hid (HL.out.below hb)
  replace HB := Lib.hid (HB.out.trans (hb.mono HB.out.size))
  replace HC := Lib.hid (HC.out.below hb)
  replace HP := Lib.hid (HP.out.below hb)
  replace HRQ := Lib.hid (HRQ.out.below hb)
  replace HM := Lib.hid (HM.out.below hb)
  clear hb
  clear y0 y1 y2 y3 y4 y5 y6 y7 y8 y9 y10 y11 f0 f1 f2 f3 f4 f5 f6 f7 f8 f9 f10 f11
  have hba := (Below.refl _ _ : Below w7.heap.size w7 w7).alloc (Nat.le_refl _) (.cells #[.int .i64 os, .int .i64 ov, .int .i64 orc, .bool od, .string odt] 42)
  have HO5 := Lib.hid (CN.new w7 #[.int .i64 os, .int .i64 ov, .int .i64 orc, .bool od, .string odt] 42)
  replace HL := Lib.hid (HL.out.below hba)
  replace HB := Lib.hid (HB.out.trans (hba.mono HB.out.size))
  replace HC := Lib.hid (HC.out.below hba)
  replace HP := Lib.hid (HP.out.below hba)
  replace HRQ := Lib.hid (HRQ.out.below hba)
  replace HM := Lib.hid (HM.out.below hba)
  obtain ⟨w8, hw⟩ : ∃ x, w7.alloc (.cells #[.int .i64 os, .int .i64 ov, .int .i64 orc, .bool od, .string odt] 42) = x := ⟨_, rfl⟩
  obtain ⟨q8, hq⟩ : ∃ x, w7.heap.size = x := ⟨_, rfl⟩
  rw [hw, hq] at HO5
  rw [hw] at HL HB HC HP HRQ HM
  have HW := Lib.hid hw
  have HQ_ := Lib.hid hq
  clear hba hw hq
  go_upto_region 11 with (fail)
  rw [HW.out, HQ_.out]
  clear HW HQ_
  clear HO5
  obtain ⟨bq, oq, r, rfl, hbl, hr2, c0, c1, c2⟩ := HRQ.out.at 0 (by decide)
  obtain rfl : ⟨qn, qt, qk⟩ = r := by simpa using hr2
  replace c0 : w8.cell? ⟨bq, oq, none⟩ = some (.string qn) := by simpa using c0
  replace c1 : w8.cell? ⟨bq, oq + 1, none⟩ = some (.int .i64 qt) := by simpa using c1
  replace c2 : w8.cell? ⟨bq, oq + 2, none⟩ = some (.int .i64 qk) := by simpa using c2
  have HXQ := Lib.hid (fun wx (hx : Below w8.heap.size w8 wx) => (⟨cell_bel hx c0, cell_bel hx c1, cell_bel hx c2⟩ : wx.cell? ⟨bq, oq, none⟩ = some (.string qn) ∧ wx.cell? ⟨bq, oq + 1, none⟩ = some (.int .i64 qt) ∧ wx.cell? ⟨bq, oq + 2, none⟩ = some (.int .i64 qk)))
  clear hr2 hbl c0 c1 c2
  have e1 : (id != id) = false := nF rfl
  have e2 : (ed != ed) = false := by cases ed <;> rfl
  have e3 := HS2.out
  have e4 : (tcp != tcp) = false := by cases tcp <;> rfl
  have e5 : decide (sz < 512) = false := dF (by have := HS1.out; omega)
  have hkn := qst_nrefl qn qt qk
  refine wp_region_held_drew (S := (fun wx => Below w8.heap.size w8 wx)) (by kernel_rfl) ((Below.refl w8.heap.size w8).drew) (fun hHeld => ?_)
  refine wpAnyH_take (i := 0) (oi := { dst := some 117, op := Go.Op.move (Go.Operand.tmp 15), type := 38, pos := "law.go:72", after := #[], guard := none }) (v := ?v0_750101) rfl (by kernel_rfl) (by kernel_rfl) (by kernel_rfl) (fun _ _ _ h => h) (Or.inl ⟨by rfl, ?y0_750101⟩) hHeld ?r0_750101
  case y0_750101 => intro w hSw; (try dsimp only at hSw); go_simp; try with_reducible rfl
  try simp only [Act.put, List.setIfInBounds_toArray, List.set_cons_zero, List.set_cons_succ]
  refine wpAnyH_take (i := 1) (oi := { dst := some 118, op := Go.Op.binOp Go.BinOp.neq 38 (Go.Operand.tmp 117) (Go.Operand.const (Go.Value.int Go.IntKind.i64 0)) 38, type := 4, pos := "law.go:72", after := #[{ on := 0, ground := Go.Ground.data }], guard := none }) (v := ?v1_750101) rfl (by kernel_rfl) (by kernel_rfl) (by kernel_rfl) (fun _ _ _ h => h) (Or.inl ⟨by rfl, ?y1_750101⟩) hHeld ?r1_750101
  case y1_750101 => intro w hSw; (try dsimp only at hSw); go_simp; try with_reducible rfl
  try simp only [Act.put, List.setIfInBounds_toArray, List.set_cons_zero, List.set_cons_succ]
  refine wpAnyH_take (i := 2) (oi := { dst := some 119, op := Go.Op.move (Go.Operand.tmp 118), type := 4, pos := "law.go:72", after := #[{ on := 1, ground := Go.Ground.data }], guard := none }) (v := ?v2_750101) rfl (by kernel_rfl) (by kernel_rfl) (by kernel_rfl) (fun _ _ _ h => h) (Or.inl ⟨by rfl, ?y2_750101⟩) hHeld ?r2_750101
  case y2_750101 => intro w hSw; (try dsimp only at hSw); go_simp; try with_reducible rfl
  try simp only [Act.put, List.setIfInBounds_toArray, List.set_cons_zero, List.set_cons_succ]
  refine wpAnyH_take (i := 3) (oi := { dst := some 120, op := Go.Op.move (Go.Operand.tmp 18), type := 38, pos := "law.go:72", after := #[{ on := 2, ground := Go.Ground.guard }], guard := some (2, false) }) (v := ?v3_750101) rfl (by kernel_rfl) (by kernel_rfl) (by kernel_rfl) (fun _ _ _ h => h) (Or.inl ⟨by rfl, ?y3_750101⟩) hHeld ?r3_750101
  case y3_750101 => intro w hSw; (try dsimp only at hSw); go_simp; try with_reducible rfl
  try simp only [Act.put, List.setIfInBounds_toArray, List.set_cons_zero, List.set_cons_succ]
  refine wpAnyH_take (i := 4) (oi := { dst := some 121, op := Go.Op.binOp Go.BinOp.neq 38 (Go.Operand.tmp 120) (Go.Operand.const (Go.Value.int Go.IntKind.i64 0)) 38, type := 4, pos := "law.go:72", after := #[{ on := 3, ground := Go.Ground.data }, { on := 2, ground := Go.Ground.guard }], guard := some (2, false) }) (v := ?v4_750101) rfl (by kernel_rfl) (by kernel_rfl) (by kernel_rfl) (fun _ _ _ h => h) (Or.inl ⟨by rfl, ?y4_750101⟩) hHeld ?r4_750101
  case y4_750101 => intro w hSw; (try dsimp only at hSw); go_simp; try with_reducible rfl
  try simp only [Act.put, List.setIfInBounds_toArray, List.set_cons_zero, List.set_cons_succ]
  refine wpAnyH_take (i := 5) (oi := { dst := some 122, op := Go.Op.pick (Go.Operand.tmp 119) (Go.Operand.const (Go.Value.bool true)) (Go.Operand.tmp 121), type := 4, pos := "law.go:72", after := #[{ on := 2, ground := Go.Ground.data }, { on := 4, ground := Go.Ground.data }], guard := none }) (v := ?v5_750101) rfl (by kernel_rfl) (by kernel_rfl) (by kernel_rfl) (fun _ _ _ h => h) (Or.inl ⟨by rfl, ?y5_750101⟩) hHeld ?r5_750101
  case y5_750101 => intro w hSw; (try dsimp only at hSw); go_simp; try with_reducible rfl
  try simp only [Act.put, List.setIfInBounds_toArray, List.set_cons_zero, List.set_cons_succ]
  refine wpAnyH_take (i := 6) (oi := { dst := some 123, op := Go.Op.move (Go.Operand.tmp 122), type := 4, pos := "law.go:72", after := #[{ on := 5, ground := Go.Ground.data }, { on := 2, ground := Go.Ground.chain }], guard := none }) (v := ?v6_750101) rfl (by kernel_rfl) (by kernel_rfl) (by kernel_rfl) (fun _ _ _ h => h) (Or.inl ⟨by rfl, ?y6_750101⟩) hHeld ?r6_750101
  case y6_750101 => intro w hSw; (try dsimp only at hSw); go_simp; try with_reducible rfl
  try simp only [Act.put, List.setIfInBounds_toArray, List.set_cons_zero, List.set_cons_succ]
  refine wpAnyH_take (i := 7) (oi := { dst := some 124, op := Go.Op.fieldAddr 37 (Go.Operand.tmp 14) 1, type := 0, pos := "law.go:72", after := #[{ on := 6, ground := Go.Ground.guard }], guard := some (6, false) }) (v := ?v7_750101) rfl (by kernel_rfl) (by kernel_rfl) (by kernel_rfl) (fun _ _ _ h => h) (Or.inl ⟨by rfl, ?y7_750101⟩) hHeld ?r7_750101
  case y7_750101 => intro w hSw; (try dsimp only at hSw); go_simp; try with_reducible rfl
  try simp only [Act.put, List.setIfInBounds_toArray, List.set_cons_zero, List.set_cons_succ]
  refine wpAnyH_take (i := 8) (oi := { dst := some 125, op := Go.Op.load 34 (Go.Operand.tmp 124), type := 34, pos := "law.go:72", after := #[{ on := 7, ground := Go.Ground.data }, { on := 6, ground := Go.Ground.guard }], guard := some (6, false) }) (v := ?v8_750101) rfl (by kernel_rfl) (by kernel_rfl) (by kernel_rfl) (fun _ _ _ h => h) (Or.inl ⟨by rfl, ?y8_750101⟩) hHeld ?r8_750101
  case y8_750101 => intro w hSw; (try dsimp only at hSw); obtain ⟨y0, y1, y2, y3, y4, y5, y6, y7, y8, y9, y10, y11, _⟩ := (HM.out.below hSw).u12; go_simp; try with_reducible rfl
  try simp only [Act.put, List.setIfInBounds_toArray, List.set_cons_zero, List.set_cons_succ]
  refine wpAnyH_take (i := 9) (oi := { dst := some 126, op := Go.Op.call { callee := Go.Callee.builtin Go.Builtin.len, args := #[Go.Operand.tmp 125], argTypes := #[34] }, type := 3, pos := "law.go:72", after := #[{ on := 8, ground := Go.Ground.data }, { on := 6, ground := Go.Ground.guard }], guard := some (6, false) }) (v := ?v9_750101) rfl (by kernel_rfl) (by kernel_rfl) (by kernel_rfl) (fun _ _ _ h => h) (Or.inl ⟨by rfl, ?y9_750101⟩) hHeld ?r9_750101
  case y9_750101 => intro w hSw; (try dsimp only at hSw); go_simp; try with_reducible rfl
  try simp only [Act.put, List.setIfInBounds_toArray, List.set_cons_zero, List.set_cons_succ]
  refine wpAnyH_take (i := 10) (oi := { dst := some 127, op := Go.Op.binOp Go.BinOp.neq 3 (Go.Operand.tmp 126) (Go.Operand.const (Go.Value.int Go.IntKind.i64 1)) 3, type := 4, pos := "law.go:72", after := #[{ on := 9, ground := Go.Ground.data }, { on := 6, ground := Go.Ground.guard }], guard := some (6, false) }) (v := ?v10_750101) rfl (by kernel_rfl) (by kernel_rfl) (by kernel_rfl) (fun _ _ _ h => h) (Or.inl ⟨by rfl, ?y10_750101⟩) hHeld ?r10_750101
  case y10_750101 => intro w hSw; (try dsimp only at hSw); go_simp; try with_reducible rfl
  try simp only [Act.put, List.setIfInBounds_toArray, List.set_cons_zero, List.set_cons_succ]
  refine wpAnyH_take (i := 11) (oi := { dst := some 128, op := Go.Op.pick (Go.Operand.tmp 123) (Go.Operand.const (Go.Value.bool true)) (Go.Operand.tmp 127), type := 4, pos := "law.go:72", after := #[{ on := 6, ground := Go.Ground.data }, { on := 10, ground := Go.Ground.data }], guard := none }) (v := ?v11_750101) rfl (by kernel_rfl) (by kernel_rfl) (by kernel_rfl) (fun _ _ _ h => h) (Or.inl ⟨by rfl, ?y11_750101⟩) hHeld ?r11_750101
  case y11_750101 => intro w hSw; (try dsimp only at hSw); go_simp; try with_reducible rfl
  try simp only [Act.put, List.setIfInBounds_toArray, List.set_cons_zero, List.set_cons_succ]
  refine wpAnyH_take (i := 12) (oi := { dst := some 129, op := Go.Op.move (Go.Operand.tmp 128), type := 4, pos := "law.go:72", after := #[{ on := 11, ground := Go.Ground.data }, { on := 6, ground := Go.Ground.chain }], guard := none }) (v := ?v12_750101) rfl (by kernel_rfl) (by kernel_rfl) (by kernel_rfl) (fun _ _ _ h => h) (Or.inl ⟨by rfl, ?y12_750101⟩) hHeld ?r12_750101
  case y12_750101 => intro w hSw; (try dsimp only at hSw); go_simp; try with_reducible rfl
  try simp only [Act.put, List.setIfInBounds_toArray, List.set_cons_zero, List.set_cons_succ]
  refine wpAnyH_take (i := 13) (oi := { dst := some 130, op := Go.Op.fieldAddr 29 (Go.Operand.tmp 9) 0, type := 0, pos := "law.go:72", after := #[{ on := 12, ground := Go.Ground.guard }], guard := some (12, false) }) (v := ?v13_750101) rfl (by kernel_rfl) (by kernel_rfl) (by kernel_rfl) (fun _ _ _ h => h) (Or.inl ⟨by rfl, ?y13_750101⟩) hHeld ?r13_750101
  case y13_750101 => intro w hSw; (try dsimp only at hSw); go_simp; try with_reducible rfl
  try simp only [Act.put, List.setIfInBounds_toArray, List.set_cons_zero, List.set_cons_succ]
  refine wpAnyH_take (i := 14) (oi := { dst := some 131, op := Go.Op.load 27 (Go.Operand.tmp 130), type := 27, pos := "law.go:72", after := #[{ on := 13, ground := Go.Ground.data }, { on := 12, ground := Go.Ground.guard }], guard := some (12, false) }) (v := ?v14_750101) rfl (by kernel_rfl) (by kernel_rfl) (by kernel_rfl) (fun _ _ _ h => h) (Or.inl ⟨by rfl, ?y14_750101⟩) hHeld ?r14_750101
  case y14_750101 => intro w hSw; (try dsimp only at hSw); obtain ⟨z0, z1, z2, z3, z4, z5, z6, z7, z8, _⟩ := (HC.out.below hSw).v9; go_simp; try with_reducible rfl
  try simp only [Act.put, List.setIfInBounds_toArray, List.set_cons_zero, List.set_cons_succ]
  refine wpAnyH_take (i := 15) (oi := { dst := some 132, op := Go.Op.fieldAddr 37 (Go.Operand.tmp 14) 1, type := 0, pos := "law.go:72", after := #[{ on := 12, ground := Go.Ground.guard }], guard := some (12, false) }) (v := ?v15_750101) rfl (by kernel_rfl) (by kernel_rfl) (by kernel_rfl) (fun _ _ _ h => h) (Or.inl ⟨by rfl, ?y15_750101⟩) hHeld ?r15_750101
  case y15_750101 => intro w hSw; (try dsimp only at hSw); go_simp; try with_reducible rfl
  try simp only [Act.put, List.setIfInBounds_toArray, List.set_cons_zero, List.set_cons_succ]
  refine wpAnyH_take (i := 16) (oi := { dst := some 133, op := Go.Op.load 34 (Go.Operand.tmp 132), type := 34, pos := "law.go:72", after := #[{ on := 15, ground := Go.Ground.data }, { on := 12, ground := Go.Ground.guard }], guard := some (12, false) }) (v := ?v16_750101) rfl (by kernel_rfl) (by kernel_rfl) (by kernel_rfl) (fun _ _ _ h => h) (Or.inl ⟨by rfl, ?y16_750101⟩) hHeld ?r16_750101
  case y16_750101 => intro w hSw; (try dsimp only at hSw); obtain ⟨y0, y1, y2, y3, y4, y5, y6, y7, y8, y9, y10, y11, _⟩ := (HM.out.below hSw).u12; go_simp; try with_reducible rfl
  try simp only [Act.put, List.setIfInBounds_toArray, List.set_cons_zero, List.set_cons_succ]
  refine wpAnyH_take (i := 17) (oi := { dst := some 134, op := Go.Op.indexAddr 34 (Go.Operand.tmp 133) (Go.Operand.const (Go.Value.int Go.IntKind.i64 0)), type := 0, pos := "law.go:72", after := #[{ on := 16, ground := Go.Ground.data }, { on := 12, ground := Go.Ground.guard }], guard := some (12, false) }) (v := ?v17_750101) rfl (by kernel_rfl) (by kernel_rfl) (by kernel_rfl) (fun _ _ _ h => h) (Or.inl ⟨by rfl, ?y17_750101⟩) hHeld ?r17_750101
  case y17_750101 => intro w hSw; (try dsimp only at hSw); go_simp; try with_reducible rfl
  try simp only [Act.put, List.setIfInBounds_toArray, List.set_cons_zero, List.set_cons_succ]
  refine wpAnyH_take (i := 18) (oi := { dst := some 135, op := Go.Op.load 27 (Go.Operand.tmp 134), type := 27, pos := "law.go:72", after := #[{ on := 17, ground := Go.Ground.data }, { on := 12, ground := Go.Ground.guard }], guard := some (12, false) }) (v := ?v18_750101) rfl (by kernel_rfl) (by kernel_rfl) (by kernel_rfl) (fun _ _ _ h => h) (Or.inl ⟨by rfl, ?y18_750101⟩) hHeld ?r18_750101
  case y18_750101 => intro w hSw; (try dsimp only at hSw); obtain ⟨c0, c1, c2⟩ := HXQ.out w hSw; go_simp; try with_reducible rfl
  try simp only [Act.put, List.setIfInBounds_toArray, List.set_cons_zero, List.set_cons_succ]
  refine wpAnyH_take (i := 19) (oi := { dst := some 136, op := Go.Op.binOp Go.BinOp.neq 27 (Go.Operand.tmp 131) (Go.Operand.tmp 135) 27, type := 4, pos := "law.go:72", after := #[{ on := 14, ground := Go.Ground.data }, { on := 18, ground := Go.Ground.data }, { on := 12, ground := Go.Ground.guard }], guard := some (12, false) }) (v := ?v19_750101) rfl (by kernel_rfl) (by kernel_rfl) (by kernel_rfl) (fun _ _ _ h => h) (Or.inl ⟨by rfl, ?y19_750101⟩) hHeld ?r19_750101
  case y19_750101 => intro w hSw; (try dsimp only at hSw); go_simp; try with_reducible rfl
  try simp only [Act.put, List.setIfInBounds_toArray, List.set_cons_zero, List.set_cons_succ]
  refine wpAnyH_take (i := 20) (oi := { dst := some 137, op := Go.Op.pick (Go.Operand.tmp 129) (Go.Operand.const (Go.Value.bool true)) (Go.Operand.tmp 136), type := 4, pos := "law.go:72", after := #[{ on := 12, ground := Go.Ground.data }, { on := 19, ground := Go.Ground.data }], guard := none }) (v := ?v20_750101) rfl (by kernel_rfl) (by kernel_rfl) (by kernel_rfl) (fun _ _ _ h => h) (Or.inl ⟨by rfl, ?y20_750101⟩) hHeld ?r20_750101
  case y20_750101 => intro w hSw; (try dsimp only at hSw); go_simp; try with_reducible rfl
  try simp only [Act.put, List.setIfInBounds_toArray, List.set_cons_zero, List.set_cons_succ]
  refine wpAnyH_take (i := 21) (oi := { dst := some 138, op := Go.Op.move (Go.Operand.tmp 137), type := 4, pos := "law.go:72", after := #[{ on := 20, ground := Go.Ground.data }, { on := 12, ground := Go.Ground.chain }], guard := none }) (v := ?v21_750101) rfl (by kernel_rfl) (by kernel_rfl) (by kernel_rfl) (fun _ _ _ h => h) (Or.inl ⟨by rfl, ?y21_750101⟩) hHeld ?r21_750101
  case y21_750101 => intro w hSw; (try dsimp only at hSw); go_simp; try with_reducible rfl
  try simp only [Act.put, List.setIfInBounds_toArray, List.set_cons_zero, List.set_cons_succ]
  refine wpAnyH_take (i := 22) (oi := { dst := some 139, op := Go.Op.fieldAddr 29 (Go.Operand.tmp 9) 2, type := 0, pos := "law.go:72", after := #[{ on := 21, ground := Go.Ground.guard }], guard := some (21, false) }) (v := ?v22_750101) rfl (by kernel_rfl) (by kernel_rfl) (by kernel_rfl) (fun _ _ _ h => h) (Or.inl ⟨by rfl, ?y22_750101⟩) hHeld ?r22_750101
  case y22_750101 => intro w hSw; (try dsimp only at hSw); go_simp; try with_reducible rfl
  try simp only [Act.put, List.setIfInBounds_toArray, List.set_cons_zero, List.set_cons_succ]
  refine wpAnyH_take (i := 23) (oi := { dst := some 140, op := Go.Op.load 3 (Go.Operand.tmp 139), type := 3, pos := "law.go:72", after := #[{ on := 22, ground := Go.Ground.data }, { on := 21, ground := Go.Ground.guard }], guard := some (21, false) }) (v := ?v23_750101) rfl (by kernel_rfl) (by kernel_rfl) (by kernel_rfl) (fun _ _ _ h => h) (Or.inl ⟨by rfl, ?y23_750101⟩) hHeld ?r23_750101
  case y23_750101 => intro w hSw; (try dsimp only at hSw); obtain ⟨z0, z1, z2, z3, z4, z5, z6, z7, z8, _⟩ := (HC.out.below hSw).v9; go_simp; try with_reducible rfl
  try simp only [Act.put, List.setIfInBounds_toArray, List.set_cons_zero, List.set_cons_succ]
  refine wpAnyH_take (i := 24) (oi := { dst := some 141, op := Go.Op.fieldAddr 37 (Go.Operand.tmp 14) 0, type := 0, pos := "law.go:72", after := #[{ on := 21, ground := Go.Ground.guard }], guard := some (21, false) }) (v := ?v24_750101) rfl (by kernel_rfl) (by kernel_rfl) (by kernel_rfl) (fun _ _ _ h => h) (Or.inl ⟨by rfl, ?y24_750101⟩) hHeld ?r24_750101
  case y24_750101 => intro w hSw; (try dsimp only at hSw); go_simp; try with_reducible rfl
  try simp only [Act.put, List.setIfInBounds_toArray, List.set_cons_zero, List.set_cons_succ]
  refine wpAnyH_take (i := 25) (oi := { dst := some 142, op := Go.Op.fieldAddr 33 (Go.Operand.tmp 141) 0, type := 0, pos := "law.go:72", after := #[{ on := 24, ground := Go.Ground.data }, { on := 21, ground := Go.Ground.guard }], guard := some (21, false) }) (v := ?v25_750101) rfl (by kernel_rfl) (by kernel_rfl) (by kernel_rfl) (fun _ _ _ h => h) (Or.inl ⟨by rfl, ?y25_750101⟩) hHeld ?r25_750101
  case y25_750101 => intro w hSw; (try dsimp only at hSw); go_simp; try with_reducible rfl
  try simp only [Act.put, List.setIfInBounds_toArray, List.set_cons_zero, List.set_cons_succ]
  refine wpAnyH_take (i := 26) (oi := { dst := some 143, op := Go.Op.load 3 (Go.Operand.tmp 142), type := 3, pos := "law.go:72", after := #[{ on := 25, ground := Go.Ground.data }, { on := 21, ground := Go.Ground.guard }], guard := some (21, false) }) (v := ?v26_750101) rfl (by kernel_rfl) (by kernel_rfl) (by kernel_rfl) (fun _ _ _ h => h) (Or.inl ⟨by rfl, ?y26_750101⟩) hHeld ?r26_750101
  case y26_750101 => intro w hSw; (try dsimp only at hSw); obtain ⟨y0, y1, y2, y3, y4, y5, y6, y7, y8, y9, y10, y11, _⟩ := (HM.out.below hSw).u12; go_simp; try with_reducible rfl
  try simp only [Act.put, List.setIfInBounds_toArray, List.set_cons_zero, List.set_cons_succ]
  refine wpAnyH_take (i := 27) (oi := { dst := some 144, op := Go.Op.binOp Go.BinOp.neq 3 (Go.Operand.tmp 140) (Go.Operand.tmp 143) 3, type := 4, pos := "law.go:72", after := #[{ on := 23, ground := Go.Ground.data }, { on := 26, ground := Go.Ground.data }, { on := 21, ground := Go.Ground.guard }], guard := some (21, false) }) (v := ?v27_750101) rfl (by kernel_rfl) (by kernel_rfl) (by kernel_rfl) (fun _ _ _ h => h) (Or.inl ⟨by rfl, ?y27_750101⟩) hHeld ?r27_750101
  case y27_750101 => intro w hSw; (try dsimp only at hSw); go_simp; try with_reducible rfl
  try simp only [Act.put, List.setIfInBounds_toArray, List.set_cons_zero, List.set_cons_succ]
  refine wpAnyH_take (i := 28) (oi := { dst := some 145, op := Go.Op.pick (Go.Operand.tmp 138) (Go.Operand.const (Go.Value.bool true)) (Go.Operand.tmp 144), type := 4, pos := "law.go:72", after := #[{ on := 21, ground := Go.Ground.data }, { on := 27, ground := Go.Ground.data }], guard := none }) (v := ?v28_750101) rfl (by kernel_rfl) (by kernel_rfl) (by kernel_rfl) (fun _ _ _ h => h) (Or.inl ⟨by rfl, ?y28_750101⟩) hHeld ?r28_750101
  case y28_750101 => intro w hSw; (try dsimp only at hSw); go_simp; try with_reducible rfl
  try simp only [Act.put, List.setIfInBounds_toArray, List.set_cons_zero, List.set_cons_succ]
  refine wpAnyH_take (i := 29) (oi := { dst := some 146, op := Go.Op.move (Go.Operand.tmp 145), type := 4, pos := "law.go:72", after := #[{ on := 28, ground := Go.Ground.data }, { on := 21, ground := Go.Ground.chain }], guard := none }) (v := ?v29_750101) rfl (by kernel_rfl) (by kernel_rfl) (by kernel_rfl) (fun _ _ _ h => h) (Or.inl ⟨by rfl, ?y29_750101⟩) hHeld ?r29_750101
  case y29_750101 => intro w hSw; (try dsimp only at hSw); go_simp; try with_reducible rfl
  try simp only [Act.put, List.setIfInBounds_toArray, List.set_cons_zero, List.set_cons_succ]
  refine wpAnyH_take (i := 30) (oi := { dst := some 147, op := Go.Op.fieldAddr 29 (Go.Operand.tmp 9) 5, type := 0, pos := "law.go:72", after := #[{ on := 29, ground := Go.Ground.guard }], guard := some (29, false) }) (v := ?v30_750101) rfl (by kernel_rfl) (by kernel_rfl) (by kernel_rfl) (fun _ _ _ h => h) (Or.inl ⟨by rfl, ?y30_750101⟩) hHeld ?r30_750101
  case y30_750101 => intro w hSw; (try dsimp only at hSw); go_simp; try with_reducible rfl
  try simp only [Act.put, List.setIfInBounds_toArray, List.set_cons_zero, List.set_cons_succ]
  refine wpAnyH_take (i := 31) (oi := { dst := some 148, op := Go.Op.load 4 (Go.Operand.tmp 147), type := 4, pos := "law.go:72", after := #[{ on := 30, ground := Go.Ground.data }, { on := 29, ground := Go.Ground.guard }], guard := some (29, false) }) (v := ?v31_750101) rfl (by kernel_rfl) (by kernel_rfl) (by kernel_rfl) (fun _ _ _ h => h) (Or.inl ⟨by rfl, ?y31_750101⟩) hHeld ?r31_750101
  case y31_750101 => intro w hSw; (try dsimp only at hSw); obtain ⟨z0, z1, z2, z3, z4, z5, z6, z7, z8, _⟩ := (HC.out.below hSw).v9; go_simp; try with_reducible rfl
  try simp only [Act.put, List.setIfInBounds_toArray, List.set_cons_zero, List.set_cons_succ]
  refine wpAnyH_take (i := 32) (oi := { dst := some 149, op := Go.Op.move (Go.Operand.tmp 17), type := 4, pos := "law.go:72", after := #[{ on := 29, ground := Go.Ground.guard }], guard := some (29, false) }) (v := ?v32_750101) rfl (by kernel_rfl) (by kernel_rfl) (by kernel_rfl) (fun _ _ _ h => h) (Or.inl ⟨by rfl, ?y32_750101⟩) hHeld ?r32_750101
  case y32_750101 => intro w hSw; (try dsimp only at hSw); go_simp; try with_reducible rfl
  try simp only [Act.put, List.setIfInBounds_toArray, List.set_cons_zero, List.set_cons_succ]
  refine wpAnyH_take (i := 33) (oi := { dst := some 150, op := Go.Op.binOp Go.BinOp.neq 4 (Go.Operand.tmp 148) (Go.Operand.tmp 149) 4, type := 4, pos := "law.go:72", after := #[{ on := 31, ground := Go.Ground.data }, { on := 32, ground := Go.Ground.data }, { on := 29, ground := Go.Ground.guard }], guard := some (29, false) }) (v := ?v33_750101) rfl (by kernel_rfl) (by kernel_rfl) (by kernel_rfl) (fun _ _ _ h => h) (Or.inl ⟨by rfl, ?y33_750101⟩) hHeld ?r33_750101
  case y33_750101 => intro w hSw; (try dsimp only at hSw); go_simp; try with_reducible rfl
  try simp only [Act.put, List.setIfInBounds_toArray, List.set_cons_zero, List.set_cons_succ]
  refine wpAnyH_take (i := 34) (oi := { dst := some 151, op := Go.Op.pick (Go.Operand.tmp 146) (Go.Operand.const (Go.Value.bool true)) (Go.Operand.tmp 150), type := 4, pos := "law.go:72", after := #[{ on := 29, ground := Go.Ground.data }, { on := 33, ground := Go.Ground.data }], guard := none }) (v := ?v34_750101) rfl (by kernel_rfl) (by kernel_rfl) (by kernel_rfl) (fun _ _ _ h => h) (Or.inl ⟨by rfl, ?y34_750101⟩) hHeld ?r34_750101
  case y34_750101 => intro w hSw; (try dsimp only at hSw); go_simp; try with_reducible rfl
  try simp only [Act.put, List.setIfInBounds_toArray, List.set_cons_zero, List.set_cons_succ]
  refine wpAnyH_take (i := 35) (oi := { dst := some 152, op := Go.Op.move (Go.Operand.tmp 151), type := 4, pos := "law.go:72", after := #[{ on := 34, ground := Go.Ground.data }, { on := 29, ground := Go.Ground.chain }], guard := none }) (v := ?v35_750101) rfl (by kernel_rfl) (by kernel_rfl) (by kernel_rfl) (fun _ _ _ h => h) (Or.inl ⟨by rfl, ?y35_750101⟩) hHeld ?r35_750101
  case y35_750101 => intro w hSw; (try dsimp only at hSw); go_simp; try with_reducible rfl
  try simp only [Act.put, List.setIfInBounds_toArray, List.set_cons_zero, List.set_cons_succ]
  refine wpAnyH_take (i := 36) (oi := { dst := some 153, op := Go.Op.move (Go.Operand.tmp 1), type := 4, pos := "law.go:72", after := #[{ on := 35, ground := Go.Ground.guard }], guard := some (35, false) }) (v := ?v36_750101) rfl (by kernel_rfl) (by kernel_rfl) (by kernel_rfl) (fun _ _ _ h => h) (Or.inl ⟨by rfl, ?y36_750101⟩) hHeld ?r36_750101
  case y36_750101 => intro w hSw; (try dsimp only at hSw); go_simp; try with_reducible rfl
  try simp only [Act.put, List.setIfInBounds_toArray, List.set_cons_zero, List.set_cons_succ]
  refine wpAnyH_take (i := 37) (oi := { dst := some 154, op := Go.Op.fieldAddr 29 (Go.Operand.tmp 9) 3, type := 0, pos := "law.go:72", after := #[{ on := 35, ground := Go.Ground.guard }], guard := some (35, false) }) (v := ?v37_750101) rfl (by kernel_rfl) (by kernel_rfl) (by kernel_rfl) (fun _ _ _ h => h) (Or.inl ⟨by rfl, ?y37_750101⟩) hHeld ?r37_750101
  case y37_750101 => intro w hSw; (try dsimp only at hSw); go_simp; try with_reducible rfl
  try simp only [Act.put, List.setIfInBounds_toArray, List.set_cons_zero, List.set_cons_succ]
  refine wpAnyH_take (i := 38) (oi := { dst := some 155, op := Go.Op.load 3 (Go.Operand.tmp 154), type := 3, pos := "law.go:72", after := #[{ on := 37, ground := Go.Ground.data }, { on := 35, ground := Go.Ground.guard }], guard := some (35, false) }) (v := ?v38_750101) rfl (by kernel_rfl) (by kernel_rfl) (by kernel_rfl) (fun _ _ _ h => h) (Or.inl ⟨by rfl, ?y38_750101⟩) hHeld ?r38_750101
  case y38_750101 => intro w hSw; (try dsimp only at hSw); obtain ⟨z0, z1, z2, z3, z4, z5, z6, z7, z8, _⟩ := (HC.out.below hSw).v9; go_simp; try with_reducible rfl
  try simp only [Act.put, List.setIfInBounds_toArray, List.set_cons_zero, List.set_cons_succ]
  refine wpAnyH_take (i := 39) (oi := { dst := some 156, op := Go.Op.binOp Go.BinOp.eql 3 (Go.Operand.tmp 155) (Go.Operand.const (Go.Value.int Go.IntKind.i64 16000)) 3, type := 4, pos := "law.go:72", after := #[{ on := 38, ground := Go.Ground.data }, { on := 35, ground := Go.Ground.guard }], guard := some (35, false) }) (v := ?v39_750101) rfl (by kernel_rfl) (by kernel_rfl) (by kernel_rfl) (fun _ _ _ h => h) (Or.inl ⟨by rfl, ?y39_750101⟩) hHeld ?r39_750101
  case y39_750101 => intro w hSw; (try dsimp only at hSw); go_simp; try with_reducible rfl
  try simp only [Act.put, List.setIfInBounds_toArray, List.set_cons_zero, List.set_cons_succ]
  refine wpAnyH_take (i := 40) (oi := { dst := some 157, op := Go.Op.binOp Go.BinOp.neq 4 (Go.Operand.tmp 153) (Go.Operand.tmp 156) 4, type := 4, pos := "law.go:72", after := #[{ on := 36, ground := Go.Ground.data }, { on := 39, ground := Go.Ground.data }, { on := 35, ground := Go.Ground.guard }], guard := some (35, false) }) (v := ?v40_750101) rfl (by kernel_rfl) (by kernel_rfl) (by kernel_rfl) (fun _ _ _ h => h) (Or.inl ⟨by rfl, ?y40_750101⟩) hHeld ?r40_750101
  case y40_750101 => intro w hSw; (try dsimp only at hSw); go_simp; try with_reducible rfl
  try simp only [Act.put, List.setIfInBounds_toArray, List.set_cons_zero, List.set_cons_succ]
  refine wpAnyH_take (i := 41) (oi := { dst := some 158, op := Go.Op.pick (Go.Operand.tmp 152) (Go.Operand.const (Go.Value.bool true)) (Go.Operand.tmp 157), type := 4, pos := "law.go:72", after := #[{ on := 35, ground := Go.Ground.data }, { on := 40, ground := Go.Ground.data }], guard := none }) (v := ?v41_750101) rfl (by kernel_rfl) (by kernel_rfl) (by kernel_rfl) (fun _ _ _ h => h) (Or.inl ⟨by rfl, ?y41_750101⟩) hHeld ?r41_750101
  case y41_750101 => intro w hSw; (try dsimp only at hSw); go_simp; try with_reducible rfl
  try simp only [Act.put, List.setIfInBounds_toArray, List.set_cons_zero, List.set_cons_succ]
  refine wpAnyH_take (i := 42) (oi := { dst := some 159, op := Go.Op.move (Go.Operand.tmp 158), type := 4, pos := "law.go:72", after := #[{ on := 41, ground := Go.Ground.data }, { on := 35, ground := Go.Ground.chain }], guard := none }) (v := ?v42_750101) rfl (by kernel_rfl) (by kernel_rfl) (by kernel_rfl) (fun _ _ _ h => h) (Or.inl ⟨by rfl, ?y42_750101⟩) hHeld ?r42_750101
  case y42_750101 => intro w hSw; (try dsimp only at hSw); go_simp; try with_reducible rfl
  try simp only [Act.put, List.setIfInBounds_toArray, List.set_cons_zero, List.set_cons_succ]
  refine wpAnyH_take (i := 43) (oi := { dst := some 160, op := Go.Op.fieldAddr 29 (Go.Operand.tmp 9) 3, type := 0, pos := "law.go:72", after := #[{ on := 42, ground := Go.Ground.guard }], guard := some (42, false) }) (v := ?v43_750101) rfl (by kernel_rfl) (by kernel_rfl) (by kernel_rfl) (fun _ _ _ h => h) (Or.inl ⟨by rfl, ?y43_750101⟩) hHeld ?r43_750101
  case y43_750101 => intro w hSw; (try dsimp only at hSw); go_simp; try with_reducible rfl
  try simp only [Act.put, List.setIfInBounds_toArray, List.set_cons_zero, List.set_cons_succ]
  refine wpAnyH_take (i := 44) (oi := { dst := some 161, op := Go.Op.load 3 (Go.Operand.tmp 160), type := 3, pos := "law.go:72", after := #[{ on := 43, ground := Go.Ground.data }, { on := 42, ground := Go.Ground.guard }], guard := some (42, false) }) (v := ?v44_750101) rfl (by kernel_rfl) (by kernel_rfl) (by kernel_rfl) (fun _ _ _ h => h) (Or.inl ⟨by rfl, ?y44_750101⟩) hHeld ?r44_750101
  case y44_750101 => intro w hSw; (try dsimp only at hSw); obtain ⟨z0, z1, z2, z3, z4, z5, z6, z7, z8, _⟩ := (HC.out.below hSw).v9; go_simp; try with_reducible rfl
  try simp only [Act.put, List.setIfInBounds_toArray, List.set_cons_zero, List.set_cons_succ]
  refine wpAnyH_take (i := 45) (oi := { dst := some 162, op := Go.Op.binOp Go.BinOp.lss 3 (Go.Operand.tmp 161) (Go.Operand.const (Go.Value.int Go.IntKind.i64 512)) 3, type := 4, pos := "law.go:72", after := #[{ on := 44, ground := Go.Ground.data }, { on := 42, ground := Go.Ground.guard }], guard := some (42, false) }) (v := ?v45_750101) rfl (by kernel_rfl) (by kernel_rfl) (by kernel_rfl) (fun _ _ _ h => h) (Or.inl ⟨by rfl, ?y45_750101⟩) hHeld ?r45_750101
  case y45_750101 => intro w hSw; (try dsimp only at hSw); go_simp; try with_reducible rfl
  try simp only [Act.put, List.setIfInBounds_toArray, List.set_cons_zero, List.set_cons_succ]
  refine wpAnyH_take (i := 46) (oi := { dst := some 163, op := Go.Op.pick (Go.Operand.tmp 159) (Go.Operand.const (Go.Value.bool true)) (Go.Operand.tmp 162), type := 4, pos := "law.go:72", after := #[{ on := 42, ground := Go.Ground.data }, { on := 45, ground := Go.Ground.data }], guard := none }) (v := ?v46_750101) rfl (by kernel_rfl) (by kernel_rfl) (by kernel_rfl) (fun _ _ _ h => h) (Or.inl ⟨by rfl, ?y46_750101⟩) hHeld ?r46_750101
  case y46_750101 => intro w hSw; (try dsimp only at hSw); go_simp; try with_reducible rfl
  try simp only [Act.put, List.setIfInBounds_toArray, List.set_cons_zero, List.set_cons_succ]
  refine wpAnyH_done (by kernel_rfl) ?_ _
  go_upto_region 13 with (fail)
  clear e1 e2 e3 e4 e5 hkn
  have hb := hHeld
  clear hHeld
  obtain ⟨w13, hw13⟩ : ∃ x, w8.drew = x := ⟨_, rfl⟩
  rw [hw13] at hb ⊢
  replace HL := Lib.hid (HL.out.below hb)
  replace HB := Lib.hid (HB.out.trans (hb.mono HB.out.size))
  replace HC := Lib.hid (HC.out.below hb)
  replace HP := Lib.hid (HP.out.below hb)
  replace HRQ := Lib.hid (HRQ.out.below hb)
  replace HM := Lib.hid (HM.out.below hb)
  clear hb hw13
  obtain ⟨z0, z1, z2, z3, z4, z5, z6, z7, z8, _⟩ := HC.out.v9
  obtain ⟨tt, BB, r1, r2, r3, r4⟩ := reply_shape (sz := sz) (rd := rd) (ed := ed) (flatP L) HMQ.out.1 HMQ.out.2 HS1.out
  have HQN := Lib.hid (show qn.size ≤ 1000000 from by have := HZM.out.1.2 ⟨qn, qt, qk⟩ (List.mem_singleton.2 rfl); have h2 : (Ky.mk qn qt qk).n = qn := rfl; rw [h2] at this; omega)
  go_wp2_with fail
  refine (reply_any qn qt qk fr id sz rd ed tcp 0 al ll cl L _ HL.out (by have := HF1.out; omega) (by have := HFL.out.1; omega) HFL.out.2 HQN.out).mono ?_; rintro e w9 ⟨u, rfl, ho, hb⟩
  replace HL := Lib.hid (HL.out.below hb)
  replace HB := Lib.hid (HB.out.trans (hb.mono HB.out.size))
  replace HC := Lib.hid (HC.out.below hb)
  replace HP := Lib.hid (HP.out.below hb)
  replace HRQ := Lib.hid (HRQ.out.below hb)
  replace HM := Lib.hid (HM.out.below hb)
  clear hb
  clear z0 z1 z2 z3 z4 z5 z6 z7 z8
  obtain ⟨LR, hLR⟩ : ∃ x, (replyL ⟨qn, qt, qk⟩ id 0 sz rd ed (flatP L)) = x := ⟨_, rfl⟩
  rw [hLR] at ho r1 r2 r3
  obtain ⟨nR, hnR⟩ : ∃ x, LR.length = x := ⟨_, rfl⟩
  rw [hnR] at ho r2 r3
  obtain ⟨aR, cR, rfl, -⟩ := cellsK_own ho
  have HO := Lib.hid ho
  have HR1 := Lib.hid r1
  have HR2 := Lib.hid r2
  have HR3 := Lib.hid r3
  have HR4 := Lib.hid r4
  clear ho r1 r2 r3 r4 hLR hnR
  go_wp2_with fail
  refine (decode_ok LR (repM ⟨qn, qt, qk⟩ id 0 rd ed tt BB) aR nR cR _ (rowB_own HO.out).1 (rowB_own HO.out).2 (by have := HR3.out; omega) HR1.out).mono ?_; rintro e w10 ⟨v, rfl, ho, hzm, hb⟩
  replace HL := Lib.hid (HL.out.below hb)
  replace HB := Lib.hid (HB.out.trans (hb.mono HB.out.size))
  replace HC := Lib.hid (HC.out.below hb)
  replace HP := Lib.hid (HP.out.below hb)
  replace HRQ := Lib.hid (HRQ.out.below hb)
  replace HM := Lib.hid (HM.out.below hb)
  replace HO := Lib.hid (own_below' HO.out hb)
  clear hb
  obtain ⟨qa3, ql3, qc3, na3, nl3, nc3, sa3, sl3, sc3, xa3, xl3, xc3, rfl, hp⟩ := MsgAt.parts (mi := id) (mo := 0) (mr := 0) (b1 := true) (b2 := false) (b3 := tt) (b4 := rd) (b5 := true) (Q := [⟨qn, qt, qk⟩]) (A := BB) (N := []) (X := if ed then [putR (optW 0)] else []) ho.at
  obtain ⟨⟨l1, l2, -, -⟩, hrq, -⟩ := hp.lens
  replace l1 : ql3 = 1 := l1.symm
  subst l1
  have HP3 := Lib.hid hp
  have HRQ3 := Lib.hid hrq
  have HLB := Lib.hid l2
  have HNA := Lib.hid hp.nils.1
  have HRA := Lib.hid (hp.rowA)
  clear ho hp hrq hzm l2
  have hba := (Below.refl _ _ : Below w10.heap.size w10 w10).alloc (Nat.le_refl _) (.cells #[.int .i64 id, .int .i64 0, .int .i64 0, .bool true, .bool false, .bool tt, .bool rd, .bool true, .slice qa3 1 qc3, .slice na3 nl3 nc3, .slice sa3 sl3 sc3, .slice xa3 xl3 xc3] 37)
  have HM3 := Lib.hid (CN.new w10 #[.int .i64 id, .int .i64 0, .int .i64 0, .bool true, .bool false, .bool tt, .bool rd, .bool true, .slice qa3 1 qc3, .slice na3 nl3 nc3, .slice sa3 sl3 sc3, .slice xa3 xl3 xc3] 37)
  replace HL := Lib.hid (HL.out.below hba)
  replace HB := Lib.hid (HB.out.trans (hba.mono HB.out.size))
  replace HC := Lib.hid (HC.out.below hba)
  replace HP := Lib.hid (HP.out.below hba)
  replace HRQ := Lib.hid (HRQ.out.below hba)
  replace HM := Lib.hid (HM.out.below hba)
  replace HO := Lib.hid (own_below' HO.out hba)
  replace HP3 := Lib.hid (HP3.out.below hba)
  replace HRQ3 := Lib.hid (HRQ3.out.below hba)
  replace HRA := Lib.hid (HRA.out.below hba)
  obtain ⟨w11, hw⟩ : ∃ x, w10.alloc (.cells #[.int .i64 id, .int .i64 0, .int .i64 0, .bool true, .bool false, .bool tt, .bool rd, .bool true, .slice qa3 1 qc3, .slice na3 nl3 nc3, .slice sa3 sl3 sc3, .slice xa3 xl3 xc3] 37) = x := ⟨_, rfl⟩
  obtain ⟨q11, hq⟩ : ∃ x, w10.heap.size = x := ⟨_, rfl⟩
  rw [hw, hq] at HM3
  rw [hw] at HL HB HC HP HRQ HM HO HP3 HRQ3 HRA
  have HW := Lib.hid hw
  have HQ_ := Lib.hid hq
  clear hba hw hq
  go_upto_region 15 with (fail)
  rw [HW.out, HQ_.out]
  clear HW HQ_
  obtain ⟨bq3, oq3, r, rfl, hbl, hr2, c0, c1, c2⟩ := HRQ3.out.at 0 (by decide)
  obtain rfl : ⟨qn, qt, qk⟩ = r := by simpa using hr2
  replace c0 : w11.cell? ⟨bq3, oq3, none⟩ = some (.string qn) := by simpa using c0
  replace c1 : w11.cell? ⟨bq3, oq3 + 1, none⟩ = some (.int .i64 qt) := by simpa using c1
  replace c2 : w11.cell? ⟨bq3, oq3 + 2, none⟩ = some (.int .i64 qk) := by simpa using c2
  have HXQ3 := Lib.hid (fun wx (hx : Below w11.heap.size w11 wx) => (⟨cell_bel hx c0, cell_bel hx c1, cell_bel hx c2⟩ : wx.cell? ⟨bq3, oq3, none⟩ = some (.string qn) ∧ wx.cell? ⟨bq3, oq3 + 1, none⟩ = some (.int .i64 qt) ∧ wx.cell? ⟨bq3, oq3 + 2, none⟩ = some (.int .i64 qk)))
  clear hr2 hbl c0 c1 c2
  have e1 : (id != id) = false := nF rfl
  have e2 : (rd != rd) = false := by cases rd <;> rfl
  have e3 : decide (sz < (nR : Int)) = false := dF (by have := HR2.out; omega)
  have hkn := qst_nrefl qn qt qk
  refine wp_region_held_drew (S := (fun wx => Below w11.heap.size w11 wx)) (by kernel_rfl) ((Below.refl w11.heap.size w11).drew) (fun hHeld => ?_)
  refine wpAnyH_take (i := 0) (oi := { dst := some 172, op := Go.Op.move (Go.Operand.tmp 21), type := 38, pos := "law.go:77", after := #[], guard := none }) (v := ?v0_760101) rfl (by kernel_rfl) (by kernel_rfl) (by kernel_rfl) (fun _ _ _ h => h) (Or.inl ⟨by rfl, ?y0_760101⟩) hHeld ?r0_760101
  case y0_760101 => intro w hSw; (try dsimp only at hSw); go_simp; try with_reducible rfl
  try simp only [Act.put, List.setIfInBounds_toArray, List.set_cons_zero, List.set_cons_succ]
  refine wpAnyH_take (i := 1) (oi := { dst := some 173, op := Go.Op.binOp Go.BinOp.neq 38 (Go.Operand.tmp 172) (Go.Operand.const (Go.Value.int Go.IntKind.i64 0)) 38, type := 4, pos := "law.go:77", after := #[{ on := 0, ground := Go.Ground.data }], guard := none }) (v := ?v1_760101) rfl (by kernel_rfl) (by kernel_rfl) (by kernel_rfl) (fun _ _ _ h => h) (Or.inl ⟨by rfl, ?y1_760101⟩) hHeld ?r1_760101
  case y1_760101 => intro w hSw; (try dsimp only at hSw); go_simp; try with_reducible rfl
  try simp only [Act.put, List.setIfInBounds_toArray, List.set_cons_zero, List.set_cons_succ]
  refine wpAnyH_take (i := 2) (oi := { dst := some 174, op := Go.Op.move (Go.Operand.tmp 173), type := 4, pos := "law.go:77", after := #[{ on := 1, ground := Go.Ground.data }], guard := none }) (v := ?v2_760101) rfl (by kernel_rfl) (by kernel_rfl) (by kernel_rfl) (fun _ _ _ h => h) (Or.inl ⟨by rfl, ?y2_760101⟩) hHeld ?r2_760101
  case y2_760101 => intro w hSw; (try dsimp only at hSw); go_simp; try with_reducible rfl
  try simp only [Act.put, List.setIfInBounds_toArray, List.set_cons_zero, List.set_cons_succ]
  refine wpAnyH_take (i := 3) (oi := { dst := some 175, op := Go.Op.move (Go.Operand.tmp 19), type := 22, pos := "law.go:77", after := #[{ on := 2, ground := Go.Ground.guard }], guard := some (2, false) }) (v := ?v3_760101) rfl (by kernel_rfl) (by kernel_rfl) (by kernel_rfl) (fun _ _ _ h => h) (Or.inl ⟨by rfl, ?y3_760101⟩) hHeld ?r3_760101
  case y3_760101 => intro w hSw; (try dsimp only at hSw); go_simp; try with_reducible rfl
  try simp only [Act.put, List.setIfInBounds_toArray, List.set_cons_zero, List.set_cons_succ]
  refine wpAnyH_take (i := 4) (oi := { dst := some 176, op := Go.Op.call { callee := Go.Callee.builtin Go.Builtin.len, args := #[Go.Operand.tmp 175], argTypes := #[22] }, type := 3, pos := "law.go:77", after := #[{ on := 3, ground := Go.Ground.data }, { on := 2, ground := Go.Ground.guard }], guard := some (2, false) }) (v := ?v4_760101) rfl (by kernel_rfl) (by kernel_rfl) (by kernel_rfl) (fun _ _ _ h => h) (Or.inl ⟨by rfl, ?y4_760101⟩) hHeld ?r4_760101
  case y4_760101 => intro w hSw; (try dsimp only at hSw); go_simp; try with_reducible rfl
  try simp only [Act.put, List.setIfInBounds_toArray, List.set_cons_zero, List.set_cons_succ]
  refine wpAnyH_take (i := 5) (oi := { dst := some 177, op := Go.Op.fieldAddr 29 (Go.Operand.tmp 9) 3, type := 0, pos := "law.go:77", after := #[{ on := 2, ground := Go.Ground.guard }], guard := some (2, false) }) (v := ?v5_760101) rfl (by kernel_rfl) (by kernel_rfl) (by kernel_rfl) (fun _ _ _ h => h) (Or.inl ⟨by rfl, ?y5_760101⟩) hHeld ?r5_760101
  case y5_760101 => intro w hSw; (try dsimp only at hSw); go_simp; try with_reducible rfl
  try simp only [Act.put, List.setIfInBounds_toArray, List.set_cons_zero, List.set_cons_succ]
  refine wpAnyH_take (i := 6) (oi := { dst := some 178, op := Go.Op.load 3 (Go.Operand.tmp 177), type := 3, pos := "law.go:77", after := #[{ on := 5, ground := Go.Ground.data }, { on := 2, ground := Go.Ground.guard }], guard := some (2, false) }) (v := ?v6_760101) rfl (by kernel_rfl) (by kernel_rfl) (by kernel_rfl) (fun _ _ _ h => h) (Or.inl ⟨by rfl, ?y6_760101⟩) hHeld ?r6_760101
  case y6_760101 => intro w hSw; (try dsimp only at hSw); obtain ⟨z0, z1, z2, z3, z4, z5, z6, z7, z8, _⟩ := (HC.out.below hSw).v9; go_simp; try with_reducible rfl
  try simp only [Act.put, List.setIfInBounds_toArray, List.set_cons_zero, List.set_cons_succ]
  refine wpAnyH_take (i := 7) (oi := { dst := some 179, op := Go.Op.binOp Go.BinOp.gtr 3 (Go.Operand.tmp 176) (Go.Operand.tmp 178) 3, type := 4, pos := "law.go:77", after := #[{ on := 4, ground := Go.Ground.data }, { on := 6, ground := Go.Ground.data }, { on := 2, ground := Go.Ground.guard }], guard := some (2, false) }) (v := ?v7_760101) rfl (by kernel_rfl) (by kernel_rfl) (by kernel_rfl) (fun _ _ _ h => h) (Or.inl ⟨by rfl, ?y7_760101⟩) hHeld ?r7_760101
  case y7_760101 => intro w hSw; (try dsimp only at hSw); go_simp; try with_reducible rfl
  try simp only [Act.put, List.setIfInBounds_toArray, List.set_cons_zero, List.set_cons_succ]
  refine wpAnyH_take (i := 8) (oi := { dst := some 180, op := Go.Op.pick (Go.Operand.tmp 174) (Go.Operand.const (Go.Value.bool true)) (Go.Operand.tmp 179), type := 4, pos := "law.go:77", after := #[{ on := 2, ground := Go.Ground.data }, { on := 7, ground := Go.Ground.data }], guard := none }) (v := ?v8_760101) rfl (by kernel_rfl) (by kernel_rfl) (by kernel_rfl) (fun _ _ _ h => h) (Or.inl ⟨by rfl, ?y8_760101⟩) hHeld ?r8_760101
  case y8_760101 => intro w hSw; (try dsimp only at hSw); go_simp; try with_reducible rfl
  try simp only [Act.put, List.setIfInBounds_toArray, List.set_cons_zero, List.set_cons_succ]
  refine wpAnyH_take (i := 9) (oi := { dst := some 181, op := Go.Op.move (Go.Operand.tmp 180), type := 4, pos := "law.go:77", after := #[{ on := 8, ground := Go.Ground.data }, { on := 2, ground := Go.Ground.chain }], guard := none }) (v := ?v9_760101) rfl (by kernel_rfl) (by kernel_rfl) (by kernel_rfl) (fun _ _ _ h => h) (Or.inl ⟨by rfl, ?y9_760101⟩) hHeld ?r9_760101
  case y9_760101 => intro w hSw; (try dsimp only at hSw); go_simp; try with_reducible rfl
  try simp only [Act.put, List.setIfInBounds_toArray, List.set_cons_zero, List.set_cons_succ]
  refine wpAnyH_take (i := 10) (oi := { dst := some 182, op := Go.Op.fieldAddr 37 (Go.Operand.tmp 20) 0, type := 0, pos := "law.go:77", after := #[{ on := 9, ground := Go.Ground.guard }], guard := some (9, false) }) (v := ?v10_760101) rfl (by kernel_rfl) (by kernel_rfl) (by kernel_rfl) (fun _ _ _ h => h) (Or.inl ⟨by rfl, ?y10_760101⟩) hHeld ?r10_760101
  case y10_760101 => intro w hSw; (try dsimp only at hSw); go_simp; try with_reducible rfl
  try simp only [Act.put, List.setIfInBounds_toArray, List.set_cons_zero, List.set_cons_succ]
  refine wpAnyH_take (i := 11) (oi := { dst := some 183, op := Go.Op.fieldAddr 33 (Go.Operand.tmp 182) 0, type := 0, pos := "law.go:77", after := #[{ on := 10, ground := Go.Ground.data }, { on := 9, ground := Go.Ground.guard }], guard := some (9, false) }) (v := ?v11_760101) rfl (by kernel_rfl) (by kernel_rfl) (by kernel_rfl) (fun _ _ _ h => h) (Or.inl ⟨by rfl, ?y11_760101⟩) hHeld ?r11_760101
  case y11_760101 => intro w hSw; (try dsimp only at hSw); go_simp; try with_reducible rfl
  try simp only [Act.put, List.setIfInBounds_toArray, List.set_cons_zero, List.set_cons_succ]
  refine wpAnyH_take (i := 12) (oi := { dst := some 184, op := Go.Op.load 3 (Go.Operand.tmp 183), type := 3, pos := "law.go:77", after := #[{ on := 11, ground := Go.Ground.data }, { on := 9, ground := Go.Ground.guard }], guard := some (9, false) }) (v := ?v12_760101) rfl (by kernel_rfl) (by kernel_rfl) (by kernel_rfl) (fun _ _ _ h => h) (Or.inl ⟨by rfl, ?y12_760101⟩) hHeld ?r12_760101
  case y12_760101 => intro w hSw; (try dsimp only at hSw); obtain ⟨y0, y1, y2, y3, y4, y5, y6, y7, y8, y9, y10, y11, _⟩ := (HM3.out.below hSw).u12; go_simp; try with_reducible rfl
  try simp only [Act.put, List.setIfInBounds_toArray, List.set_cons_zero, List.set_cons_succ]
  refine wpAnyH_take (i := 13) (oi := { dst := some 185, op := Go.Op.fieldAddr 29 (Go.Operand.tmp 9) 2, type := 0, pos := "law.go:77", after := #[{ on := 9, ground := Go.Ground.guard }], guard := some (9, false) }) (v := ?v13_760101) rfl (by kernel_rfl) (by kernel_rfl) (by kernel_rfl) (fun _ _ _ h => h) (Or.inl ⟨by rfl, ?y13_760101⟩) hHeld ?r13_760101
  case y13_760101 => intro w hSw; (try dsimp only at hSw); go_simp; try with_reducible rfl
  try simp only [Act.put, List.setIfInBounds_toArray, List.set_cons_zero, List.set_cons_succ]
  refine wpAnyH_take (i := 14) (oi := { dst := some 186, op := Go.Op.load 3 (Go.Operand.tmp 185), type := 3, pos := "law.go:77", after := #[{ on := 13, ground := Go.Ground.data }, { on := 9, ground := Go.Ground.guard }], guard := some (9, false) }) (v := ?v14_760101) rfl (by kernel_rfl) (by kernel_rfl) (by kernel_rfl) (fun _ _ _ h => h) (Or.inl ⟨by rfl, ?y14_760101⟩) hHeld ?r14_760101
  case y14_760101 => intro w hSw; (try dsimp only at hSw); obtain ⟨z0, z1, z2, z3, z4, z5, z6, z7, z8, _⟩ := (HC.out.below hSw).v9; go_simp; try with_reducible rfl
  try simp only [Act.put, List.setIfInBounds_toArray, List.set_cons_zero, List.set_cons_succ]
  refine wpAnyH_take (i := 15) (oi := { dst := some 187, op := Go.Op.binOp Go.BinOp.neq 3 (Go.Operand.tmp 184) (Go.Operand.tmp 186) 3, type := 4, pos := "law.go:77", after := #[{ on := 12, ground := Go.Ground.data }, { on := 14, ground := Go.Ground.data }, { on := 9, ground := Go.Ground.guard }], guard := some (9, false) }) (v := ?v15_760101) rfl (by kernel_rfl) (by kernel_rfl) (by kernel_rfl) (fun _ _ _ h => h) (Or.inl ⟨by rfl, ?y15_760101⟩) hHeld ?r15_760101
  case y15_760101 => intro w hSw; (try dsimp only at hSw); go_simp; try with_reducible rfl
  try simp only [Act.put, List.setIfInBounds_toArray, List.set_cons_zero, List.set_cons_succ]
  refine wpAnyH_take (i := 16) (oi := { dst := some 188, op := Go.Op.pick (Go.Operand.tmp 181) (Go.Operand.const (Go.Value.bool true)) (Go.Operand.tmp 187), type := 4, pos := "law.go:77", after := #[{ on := 9, ground := Go.Ground.data }, { on := 15, ground := Go.Ground.data }], guard := none }) (v := ?v16_760101) rfl (by kernel_rfl) (by kernel_rfl) (by kernel_rfl) (fun _ _ _ h => h) (Or.inl ⟨by rfl, ?y16_760101⟩) hHeld ?r16_760101
  case y16_760101 => intro w hSw; (try dsimp only at hSw); go_simp; try with_reducible rfl
  try simp only [Act.put, List.setIfInBounds_toArray, List.set_cons_zero, List.set_cons_succ]
  refine wpAnyH_take (i := 17) (oi := { dst := some 189, op := Go.Op.move (Go.Operand.tmp 188), type := 4, pos := "law.go:77", after := #[{ on := 16, ground := Go.Ground.data }, { on := 9, ground := Go.Ground.chain }], guard := none }) (v := ?v17_760101) rfl (by kernel_rfl) (by kernel_rfl) (by kernel_rfl) (fun _ _ _ h => h) (Or.inl ⟨by rfl, ?y17_760101⟩) hHeld ?r17_760101
  case y17_760101 => intro w hSw; (try dsimp only at hSw); go_simp; try with_reducible rfl
  try simp only [Act.put, List.setIfInBounds_toArray, List.set_cons_zero, List.set_cons_succ]
  refine wpAnyH_take (i := 18) (oi := { dst := some 190, op := Go.Op.fieldAddr 37 (Go.Operand.tmp 20) 0, type := 0, pos := "law.go:77", after := #[{ on := 17, ground := Go.Ground.guard }], guard := some (17, false) }) (v := ?v18_760101) rfl (by kernel_rfl) (by kernel_rfl) (by kernel_rfl) (fun _ _ _ h => h) (Or.inl ⟨by rfl, ?y18_760101⟩) hHeld ?r18_760101
  case y18_760101 => intro w hSw; (try dsimp only at hSw); go_simp; try with_reducible rfl
  try simp only [Act.put, List.setIfInBounds_toArray, List.set_cons_zero, List.set_cons_succ]
  refine wpAnyH_take (i := 19) (oi := { dst := some 191, op := Go.Op.fieldAddr 33 (Go.Operand.tmp 190) 3, type := 0, pos := "law.go:77", after := #[{ on := 18, ground := Go.Ground.data }, { on := 17, ground := Go.Ground.guard }], guard := some (17, false) }) (v := ?v19_760101) rfl (by kernel_rfl) (by kernel_rfl) (by kernel_rfl) (fun _ _ _ h => h) (Or.inl ⟨by rfl, ?y19_760101⟩) hHeld ?r19_760101
  case y19_760101 => intro w hSw; (try dsimp only at hSw); go_simp; try with_reducible rfl
  try simp only [Act.put, List.setIfInBounds_toArray, List.set_cons_zero, List.set_cons_succ]
  refine wpAnyH_take (i := 20) (oi := { dst := some 192, op := Go.Op.load 4 (Go.Operand.tmp 191), type := 4, pos := "law.go:77", after := #[{ on := 19, ground := Go.Ground.data }, { on := 17, ground := Go.Ground.guard }], guard := some (17, false) }) (v := ?v20_760101) rfl (by kernel_rfl) (by kernel_rfl) (by kernel_rfl) (fun _ _ _ h => h) (Or.inl ⟨by rfl, ?y20_760101⟩) hHeld ?r20_760101
  case y20_760101 => intro w hSw; (try dsimp only at hSw); obtain ⟨y0, y1, y2, y3, y4, y5, y6, y7, y8, y9, y10, y11, _⟩ := (HM3.out.below hSw).u12; go_simp; try with_reducible rfl
  try simp only [Act.put, List.setIfInBounds_toArray, List.set_cons_zero, List.set_cons_succ]
  refine wpAnyH_take (i := 21) (oi := { dst := some 193, op := Go.Op.unOp Go.UnOp.not 4 (Go.Operand.tmp 192), type := 4, pos := "law.go:77", after := #[{ on := 20, ground := Go.Ground.data }, { on := 17, ground := Go.Ground.guard }], guard := some (17, false) }) (v := ?v21_760101) rfl (by kernel_rfl) (by kernel_rfl) (by kernel_rfl) (fun _ _ _ h => h) (Or.inl ⟨by rfl, ?y21_760101⟩) hHeld ?r21_760101
  case y21_760101 => intro w hSw; (try dsimp only at hSw); go_simp; try with_reducible rfl
  try simp only [Act.put, List.setIfInBounds_toArray, List.set_cons_zero, List.set_cons_succ]
  refine wpAnyH_take (i := 22) (oi := { dst := some 194, op := Go.Op.pick (Go.Operand.tmp 189) (Go.Operand.const (Go.Value.bool true)) (Go.Operand.tmp 193), type := 4, pos := "law.go:77", after := #[{ on := 17, ground := Go.Ground.data }, { on := 21, ground := Go.Ground.data }], guard := none }) (v := ?v22_760101) rfl (by kernel_rfl) (by kernel_rfl) (by kernel_rfl) (fun _ _ _ h => h) (Or.inl ⟨by rfl, ?y22_760101⟩) hHeld ?r22_760101
  case y22_760101 => intro w hSw; (try dsimp only at hSw); go_simp; try with_reducible rfl
  try simp only [Act.put, List.setIfInBounds_toArray, List.set_cons_zero, List.set_cons_succ]
  refine wpAnyH_take (i := 23) (oi := { dst := some 195, op := Go.Op.move (Go.Operand.tmp 194), type := 4, pos := "law.go:77", after := #[{ on := 22, ground := Go.Ground.data }, { on := 17, ground := Go.Ground.chain }], guard := none }) (v := ?v23_760101) rfl (by kernel_rfl) (by kernel_rfl) (by kernel_rfl) (fun _ _ _ h => h) (Or.inl ⟨by rfl, ?y23_760101⟩) hHeld ?r23_760101
  case y23_760101 => intro w hSw; (try dsimp only at hSw); go_simp; try with_reducible rfl
  try simp only [Act.put, List.setIfInBounds_toArray, List.set_cons_zero, List.set_cons_succ]
  refine wpAnyH_take (i := 24) (oi := { dst := some 196, op := Go.Op.fieldAddr 37 (Go.Operand.tmp 20) 0, type := 0, pos := "law.go:77", after := #[{ on := 23, ground := Go.Ground.guard }], guard := some (23, false) }) (v := ?v24_760101) rfl (by kernel_rfl) (by kernel_rfl) (by kernel_rfl) (fun _ _ _ h => h) (Or.inl ⟨by rfl, ?y24_760101⟩) hHeld ?r24_760101
  case y24_760101 => intro w hSw; (try dsimp only at hSw); go_simp; try with_reducible rfl
  try simp only [Act.put, List.setIfInBounds_toArray, List.set_cons_zero, List.set_cons_succ]
  refine wpAnyH_take (i := 25) (oi := { dst := some 197, op := Go.Op.fieldAddr 33 (Go.Operand.tmp 196) 7, type := 0, pos := "law.go:77", after := #[{ on := 24, ground := Go.Ground.data }, { on := 23, ground := Go.Ground.guard }], guard := some (23, false) }) (v := ?v25_760101) rfl (by kernel_rfl) (by kernel_rfl) (by kernel_rfl) (fun _ _ _ h => h) (Or.inl ⟨by rfl, ?y25_760101⟩) hHeld ?r25_760101
  case y25_760101 => intro w hSw; (try dsimp only at hSw); go_simp; try with_reducible rfl
  try simp only [Act.put, List.setIfInBounds_toArray, List.set_cons_zero, List.set_cons_succ]
  refine wpAnyH_take (i := 26) (oi := { dst := some 198, op := Go.Op.load 4 (Go.Operand.tmp 197), type := 4, pos := "law.go:77", after := #[{ on := 25, ground := Go.Ground.data }, { on := 23, ground := Go.Ground.guard }], guard := some (23, false) }) (v := ?v26_760101) rfl (by kernel_rfl) (by kernel_rfl) (by kernel_rfl) (fun _ _ _ h => h) (Or.inl ⟨by rfl, ?y26_760101⟩) hHeld ?r26_760101
  case y26_760101 => intro w hSw; (try dsimp only at hSw); obtain ⟨y0, y1, y2, y3, y4, y5, y6, y7, y8, y9, y10, y11, _⟩ := (HM3.out.below hSw).u12; go_simp; try with_reducible rfl
  try simp only [Act.put, List.setIfInBounds_toArray, List.set_cons_zero, List.set_cons_succ]
  refine wpAnyH_take (i := 27) (oi := { dst := some 199, op := Go.Op.unOp Go.UnOp.not 4 (Go.Operand.tmp 198), type := 4, pos := "law.go:77", after := #[{ on := 26, ground := Go.Ground.data }, { on := 23, ground := Go.Ground.guard }], guard := some (23, false) }) (v := ?v27_760101) rfl (by kernel_rfl) (by kernel_rfl) (by kernel_rfl) (fun _ _ _ h => h) (Or.inl ⟨by rfl, ?y27_760101⟩) hHeld ?r27_760101
  case y27_760101 => intro w hSw; (try dsimp only at hSw); go_simp; try with_reducible rfl
  try simp only [Act.put, List.setIfInBounds_toArray, List.set_cons_zero, List.set_cons_succ]
  refine wpAnyH_take (i := 28) (oi := { dst := some 200, op := Go.Op.pick (Go.Operand.tmp 195) (Go.Operand.const (Go.Value.bool true)) (Go.Operand.tmp 199), type := 4, pos := "law.go:77", after := #[{ on := 23, ground := Go.Ground.data }, { on := 27, ground := Go.Ground.data }], guard := none }) (v := ?v28_760101) rfl (by kernel_rfl) (by kernel_rfl) (by kernel_rfl) (fun _ _ _ h => h) (Or.inl ⟨by rfl, ?y28_760101⟩) hHeld ?r28_760101
  case y28_760101 => intro w hSw; (try dsimp only at hSw); go_simp; try with_reducible rfl
  try simp only [Act.put, List.setIfInBounds_toArray, List.set_cons_zero, List.set_cons_succ]
  refine wpAnyH_take (i := 29) (oi := { dst := some 201, op := Go.Op.move (Go.Operand.tmp 200), type := 4, pos := "law.go:77", after := #[{ on := 28, ground := Go.Ground.data }, { on := 23, ground := Go.Ground.chain }], guard := none }) (v := ?v29_760101) rfl (by kernel_rfl) (by kernel_rfl) (by kernel_rfl) (fun _ _ _ h => h) (Or.inl ⟨by rfl, ?y29_760101⟩) hHeld ?r29_760101
  case y29_760101 => intro w hSw; (try dsimp only at hSw); go_simp; try with_reducible rfl
  try simp only [Act.put, List.setIfInBounds_toArray, List.set_cons_zero, List.set_cons_succ]
  refine wpAnyH_take (i := 30) (oi := { dst := some 202, op := Go.Op.fieldAddr 37 (Go.Operand.tmp 20) 0, type := 0, pos := "law.go:77", after := #[{ on := 29, ground := Go.Ground.guard }], guard := some (29, false) }) (v := ?v30_760101) rfl (by kernel_rfl) (by kernel_rfl) (by kernel_rfl) (fun _ _ _ h => h) (Or.inl ⟨by rfl, ?y30_760101⟩) hHeld ?r30_760101
  case y30_760101 => intro w hSw; (try dsimp only at hSw); go_simp; try with_reducible rfl
  try simp only [Act.put, List.setIfInBounds_toArray, List.set_cons_zero, List.set_cons_succ]
  refine wpAnyH_take (i := 31) (oi := { dst := some 203, op := Go.Op.fieldAddr 33 (Go.Operand.tmp 202) 6, type := 0, pos := "law.go:77", after := #[{ on := 30, ground := Go.Ground.data }, { on := 29, ground := Go.Ground.guard }], guard := some (29, false) }) (v := ?v31_760101) rfl (by kernel_rfl) (by kernel_rfl) (by kernel_rfl) (fun _ _ _ h => h) (Or.inl ⟨by rfl, ?y31_760101⟩) hHeld ?r31_760101
  case y31_760101 => intro w hSw; (try dsimp only at hSw); go_simp; try with_reducible rfl
  try simp only [Act.put, List.setIfInBounds_toArray, List.set_cons_zero, List.set_cons_succ]
  refine wpAnyH_take (i := 32) (oi := { dst := some 204, op := Go.Op.load 4 (Go.Operand.tmp 203), type := 4, pos := "law.go:77", after := #[{ on := 31, ground := Go.Ground.data }, { on := 29, ground := Go.Ground.guard }], guard := some (29, false) }) (v := ?v32_760101) rfl (by kernel_rfl) (by kernel_rfl) (by kernel_rfl) (fun _ _ _ h => h) (Or.inl ⟨by rfl, ?y32_760101⟩) hHeld ?r32_760101
  case y32_760101 => intro w hSw; (try dsimp only at hSw); obtain ⟨y0, y1, y2, y3, y4, y5, y6, y7, y8, y9, y10, y11, _⟩ := (HM3.out.below hSw).u12; go_simp; try with_reducible rfl
  try simp only [Act.put, List.setIfInBounds_toArray, List.set_cons_zero, List.set_cons_succ]
  refine wpAnyH_take (i := 33) (oi := { dst := some 205, op := Go.Op.fieldAddr 37 (Go.Operand.tmp 14) 0, type := 0, pos := "law.go:77", after := #[{ on := 29, ground := Go.Ground.guard }], guard := some (29, false) }) (v := ?v33_760101) rfl (by kernel_rfl) (by kernel_rfl) (by kernel_rfl) (fun _ _ _ h => h) (Or.inl ⟨by rfl, ?y33_760101⟩) hHeld ?r33_760101
  case y33_760101 => intro w hSw; (try dsimp only at hSw); go_simp; try with_reducible rfl
  try simp only [Act.put, List.setIfInBounds_toArray, List.set_cons_zero, List.set_cons_succ]
  refine wpAnyH_take (i := 34) (oi := { dst := some 206, op := Go.Op.fieldAddr 33 (Go.Operand.tmp 205) 6, type := 0, pos := "law.go:77", after := #[{ on := 33, ground := Go.Ground.data }, { on := 29, ground := Go.Ground.guard }], guard := some (29, false) }) (v := ?v34_760101) rfl (by kernel_rfl) (by kernel_rfl) (by kernel_rfl) (fun _ _ _ h => h) (Or.inl ⟨by rfl, ?y34_760101⟩) hHeld ?r34_760101
  case y34_760101 => intro w hSw; (try dsimp only at hSw); go_simp; try with_reducible rfl
  try simp only [Act.put, List.setIfInBounds_toArray, List.set_cons_zero, List.set_cons_succ]
  refine wpAnyH_take (i := 35) (oi := { dst := some 207, op := Go.Op.load 4 (Go.Operand.tmp 206), type := 4, pos := "law.go:77", after := #[{ on := 34, ground := Go.Ground.data }, { on := 29, ground := Go.Ground.guard }], guard := some (29, false) }) (v := ?v35_760101) rfl (by kernel_rfl) (by kernel_rfl) (by kernel_rfl) (fun _ _ _ h => h) (Or.inl ⟨by rfl, ?y35_760101⟩) hHeld ?r35_760101
  case y35_760101 => intro w hSw; (try dsimp only at hSw); obtain ⟨y0, y1, y2, y3, y4, y5, y6, y7, y8, y9, y10, y11, _⟩ := (HM.out.below hSw).u12; go_simp; try with_reducible rfl
  try simp only [Act.put, List.setIfInBounds_toArray, List.set_cons_zero, List.set_cons_succ]
  refine wpAnyH_take (i := 36) (oi := { dst := some 208, op := Go.Op.binOp Go.BinOp.neq 4 (Go.Operand.tmp 204) (Go.Operand.tmp 207) 4, type := 4, pos := "law.go:77", after := #[{ on := 32, ground := Go.Ground.data }, { on := 35, ground := Go.Ground.data }, { on := 29, ground := Go.Ground.guard }], guard := some (29, false) }) (v := ?v36_760101) rfl (by kernel_rfl) (by kernel_rfl) (by kernel_rfl) (fun _ _ _ h => h) (Or.inl ⟨by rfl, ?y36_760101⟩) hHeld ?r36_760101
  case y36_760101 => intro w hSw; (try dsimp only at hSw); go_simp; try with_reducible rfl
  try simp only [Act.put, List.setIfInBounds_toArray, List.set_cons_zero, List.set_cons_succ]
  refine wpAnyH_take (i := 37) (oi := { dst := some 209, op := Go.Op.pick (Go.Operand.tmp 201) (Go.Operand.const (Go.Value.bool true)) (Go.Operand.tmp 208), type := 4, pos := "law.go:77", after := #[{ on := 29, ground := Go.Ground.data }, { on := 36, ground := Go.Ground.data }], guard := none }) (v := ?v37_760101) rfl (by kernel_rfl) (by kernel_rfl) (by kernel_rfl) (fun _ _ _ h => h) (Or.inl ⟨by rfl, ?y37_760101⟩) hHeld ?r37_760101
  case y37_760101 => intro w hSw; (try dsimp only at hSw); go_simp; try with_reducible rfl
  try simp only [Act.put, List.setIfInBounds_toArray, List.set_cons_zero, List.set_cons_succ]
  refine wpAnyH_take (i := 38) (oi := { dst := some 210, op := Go.Op.move (Go.Operand.tmp 209), type := 4, pos := "law.go:77", after := #[{ on := 37, ground := Go.Ground.data }, { on := 29, ground := Go.Ground.chain }], guard := none }) (v := ?v38_760101) rfl (by kernel_rfl) (by kernel_rfl) (by kernel_rfl) (fun _ _ _ h => h) (Or.inl ⟨by rfl, ?y38_760101⟩) hHeld ?r38_760101
  case y38_760101 => intro w hSw; (try dsimp only at hSw); go_simp; try with_reducible rfl
  try simp only [Act.put, List.setIfInBounds_toArray, List.set_cons_zero, List.set_cons_succ]
  refine wpAnyH_take (i := 39) (oi := { dst := some 211, op := Go.Op.fieldAddr 37 (Go.Operand.tmp 20) 1, type := 0, pos := "law.go:77", after := #[{ on := 38, ground := Go.Ground.guard }], guard := some (38, false) }) (v := ?v39_760101) rfl (by kernel_rfl) (by kernel_rfl) (by kernel_rfl) (fun _ _ _ h => h) (Or.inl ⟨by rfl, ?y39_760101⟩) hHeld ?r39_760101
  case y39_760101 => intro w hSw; (try dsimp only at hSw); go_simp; try with_reducible rfl
  try simp only [Act.put, List.setIfInBounds_toArray, List.set_cons_zero, List.set_cons_succ]
  refine wpAnyH_take (i := 40) (oi := { dst := some 212, op := Go.Op.load 34 (Go.Operand.tmp 211), type := 34, pos := "law.go:77", after := #[{ on := 39, ground := Go.Ground.data }, { on := 38, ground := Go.Ground.guard }], guard := some (38, false) }) (v := ?v40_760101) rfl (by kernel_rfl) (by kernel_rfl) (by kernel_rfl) (fun _ _ _ h => h) (Or.inl ⟨by rfl, ?y40_760101⟩) hHeld ?r40_760101
  case y40_760101 => intro w hSw; (try dsimp only at hSw); obtain ⟨y0, y1, y2, y3, y4, y5, y6, y7, y8, y9, y10, y11, _⟩ := (HM3.out.below hSw).u12; go_simp; try with_reducible rfl
  try simp only [Act.put, List.setIfInBounds_toArray, List.set_cons_zero, List.set_cons_succ]
  refine wpAnyH_take (i := 41) (oi := { dst := some 213, op := Go.Op.call { callee := Go.Callee.builtin Go.Builtin.len, args := #[Go.Operand.tmp 212], argTypes := #[34] }, type := 3, pos := "law.go:77", after := #[{ on := 40, ground := Go.Ground.data }, { on := 38, ground := Go.Ground.guard }], guard := some (38, false) }) (v := ?v41_760101) rfl (by kernel_rfl) (by kernel_rfl) (by kernel_rfl) (fun _ _ _ h => h) (Or.inl ⟨by rfl, ?y41_760101⟩) hHeld ?r41_760101
  case y41_760101 => intro w hSw; (try dsimp only at hSw); go_simp; try with_reducible rfl
  try simp only [Act.put, List.setIfInBounds_toArray, List.set_cons_zero, List.set_cons_succ]
  refine wpAnyH_take (i := 42) (oi := { dst := some 214, op := Go.Op.binOp Go.BinOp.neq 3 (Go.Operand.tmp 213) (Go.Operand.const (Go.Value.int Go.IntKind.i64 1)) 3, type := 4, pos := "law.go:77", after := #[{ on := 41, ground := Go.Ground.data }, { on := 38, ground := Go.Ground.guard }], guard := some (38, false) }) (v := ?v42_760101) rfl (by kernel_rfl) (by kernel_rfl) (by kernel_rfl) (fun _ _ _ h => h) (Or.inl ⟨by rfl, ?y42_760101⟩) hHeld ?r42_760101
  case y42_760101 => intro w hSw; (try dsimp only at hSw); go_simp; try with_reducible rfl
  try simp only [Act.put, List.setIfInBounds_toArray, List.set_cons_zero, List.set_cons_succ]
  refine wpAnyH_take (i := 43) (oi := { dst := some 215, op := Go.Op.pick (Go.Operand.tmp 210) (Go.Operand.const (Go.Value.bool true)) (Go.Operand.tmp 214), type := 4, pos := "law.go:77", after := #[{ on := 38, ground := Go.Ground.data }, { on := 42, ground := Go.Ground.data }], guard := none }) (v := ?v43_760101) rfl (by kernel_rfl) (by kernel_rfl) (by kernel_rfl) (fun _ _ _ h => h) (Or.inl ⟨by rfl, ?y43_760101⟩) hHeld ?r43_760101
  case y43_760101 => intro w hSw; (try dsimp only at hSw); go_simp; try with_reducible rfl
  try simp only [Act.put, List.setIfInBounds_toArray, List.set_cons_zero, List.set_cons_succ]
  refine wpAnyH_take (i := 44) (oi := { dst := some 216, op := Go.Op.move (Go.Operand.tmp 215), type := 4, pos := "law.go:77", after := #[{ on := 43, ground := Go.Ground.data }, { on := 38, ground := Go.Ground.chain }], guard := none }) (v := ?v44_760101) rfl (by kernel_rfl) (by kernel_rfl) (by kernel_rfl) (fun _ _ _ h => h) (Or.inl ⟨by rfl, ?y44_760101⟩) hHeld ?r44_760101
  case y44_760101 => intro w hSw; (try dsimp only at hSw); go_simp; try with_reducible rfl
  try simp only [Act.put, List.setIfInBounds_toArray, List.set_cons_zero, List.set_cons_succ]
  refine wpAnyH_take (i := 45) (oi := { dst := some 217, op := Go.Op.fieldAddr 37 (Go.Operand.tmp 20) 1, type := 0, pos := "law.go:77", after := #[{ on := 44, ground := Go.Ground.guard }], guard := some (44, false) }) (v := ?v45_760101) rfl (by kernel_rfl) (by kernel_rfl) (by kernel_rfl) (fun _ _ _ h => h) (Or.inl ⟨by rfl, ?y45_760101⟩) hHeld ?r45_760101
  case y45_760101 => intro w hSw; (try dsimp only at hSw); go_simp; try with_reducible rfl
  try simp only [Act.put, List.setIfInBounds_toArray, List.set_cons_zero, List.set_cons_succ]
  refine wpAnyH_take (i := 46) (oi := { dst := some 218, op := Go.Op.load 34 (Go.Operand.tmp 217), type := 34, pos := "law.go:77", after := #[{ on := 45, ground := Go.Ground.data }, { on := 44, ground := Go.Ground.guard }], guard := some (44, false) }) (v := ?v46_760101) rfl (by kernel_rfl) (by kernel_rfl) (by kernel_rfl) (fun _ _ _ h => h) (Or.inl ⟨by rfl, ?y46_760101⟩) hHeld ?r46_760101
  case y46_760101 => intro w hSw; (try dsimp only at hSw); obtain ⟨y0, y1, y2, y3, y4, y5, y6, y7, y8, y9, y10, y11, _⟩ := (HM3.out.below hSw).u12; go_simp; try with_reducible rfl
  try simp only [Act.put, List.setIfInBounds_toArray, List.set_cons_zero, List.set_cons_succ]
  refine wpAnyH_take (i := 47) (oi := { dst := some 219, op := Go.Op.indexAddr 34 (Go.Operand.tmp 218) (Go.Operand.const (Go.Value.int Go.IntKind.i64 0)), type := 0, pos := "law.go:77", after := #[{ on := 46, ground := Go.Ground.data }, { on := 44, ground := Go.Ground.guard }], guard := some (44, false) }) (v := ?v47_760101) rfl (by kernel_rfl) (by kernel_rfl) (by kernel_rfl) (fun _ _ _ h => h) (Or.inl ⟨by rfl, ?y47_760101⟩) hHeld ?r47_760101
  case y47_760101 => intro w hSw; (try dsimp only at hSw); go_simp; try with_reducible rfl
  try simp only [Act.put, List.setIfInBounds_toArray, List.set_cons_zero, List.set_cons_succ]
  refine wpAnyH_take (i := 48) (oi := { dst := some 220, op := Go.Op.load 27 (Go.Operand.tmp 219), type := 27, pos := "law.go:77", after := #[{ on := 47, ground := Go.Ground.data }, { on := 44, ground := Go.Ground.guard }], guard := some (44, false) }) (v := ?v48_760101) rfl (by kernel_rfl) (by kernel_rfl) (by kernel_rfl) (fun _ _ _ h => h) (Or.inl ⟨by rfl, ?y48_760101⟩) hHeld ?r48_760101
  case y48_760101 => intro w hSw; (try dsimp only at hSw); obtain ⟨c0, c1, c2⟩ := HXQ3.out w hSw; go_simp; try with_reducible rfl
  try simp only [Act.put, List.setIfInBounds_toArray, List.set_cons_zero, List.set_cons_succ]
  refine wpAnyH_take (i := 49) (oi := { dst := some 221, op := Go.Op.fieldAddr 29 (Go.Operand.tmp 9) 0, type := 0, pos := "law.go:77", after := #[{ on := 44, ground := Go.Ground.guard }], guard := some (44, false) }) (v := ?v49_760101) rfl (by kernel_rfl) (by kernel_rfl) (by kernel_rfl) (fun _ _ _ h => h) (Or.inl ⟨by rfl, ?y49_760101⟩) hHeld ?r49_760101
  case y49_760101 => intro w hSw; (try dsimp only at hSw); go_simp; try with_reducible rfl
  try simp only [Act.put, List.setIfInBounds_toArray, List.set_cons_zero, List.set_cons_succ]
  refine wpAnyH_take (i := 50) (oi := { dst := some 222, op := Go.Op.load 27 (Go.Operand.tmp 221), type := 27, pos := "law.go:77", after := #[{ on := 49, ground := Go.Ground.data }, { on := 44, ground := Go.Ground.guard }], guard := some (44, false) }) (v := ?v50_760101) rfl (by kernel_rfl) (by kernel_rfl) (by kernel_rfl) (fun _ _ _ h => h) (Or.inl ⟨by rfl, ?y50_760101⟩) hHeld ?r50_760101
  case y50_760101 => intro w hSw; (try dsimp only at hSw); obtain ⟨z0, z1, z2, z3, z4, z5, z6, z7, z8, _⟩ := (HC.out.below hSw).v9; go_simp; try with_reducible rfl
  try simp only [Act.put, List.setIfInBounds_toArray, List.set_cons_zero, List.set_cons_succ]
  refine wpAnyH_take (i := 51) (oi := { dst := some 223, op := Go.Op.binOp Go.BinOp.neq 27 (Go.Operand.tmp 220) (Go.Operand.tmp 222) 27, type := 4, pos := "law.go:77", after := #[{ on := 48, ground := Go.Ground.data }, { on := 50, ground := Go.Ground.data }, { on := 44, ground := Go.Ground.guard }], guard := some (44, false) }) (v := ?v51_760101) rfl (by kernel_rfl) (by kernel_rfl) (by kernel_rfl) (fun _ _ _ h => h) (Or.inl ⟨by rfl, ?y51_760101⟩) hHeld ?r51_760101
  case y51_760101 => intro w hSw; (try dsimp only at hSw); go_simp; try with_reducible rfl
  try simp only [Act.put, List.setIfInBounds_toArray, List.set_cons_zero, List.set_cons_succ]
  refine wpAnyH_take (i := 52) (oi := { dst := some 224, op := Go.Op.pick (Go.Operand.tmp 216) (Go.Operand.const (Go.Value.bool true)) (Go.Operand.tmp 223), type := 4, pos := "law.go:77", after := #[{ on := 44, ground := Go.Ground.data }, { on := 51, ground := Go.Ground.data }], guard := none }) (v := ?v52_760101) rfl (by kernel_rfl) (by kernel_rfl) (by kernel_rfl) (fun _ _ _ h => h) (Or.inl ⟨by rfl, ?y52_760101⟩) hHeld ?r52_760101
  case y52_760101 => intro w hSw; (try dsimp only at hSw); go_simp; try with_reducible rfl
  try simp only [Act.put, List.setIfInBounds_toArray, List.set_cons_zero, List.set_cons_succ]
  refine wpAnyH_done (by kernel_rfl) ?_ _
  go_upto_region 17 with (fail)
  clear e1 e2 e3 hkn
  have hb := hHeld
  clear hHeld
  obtain ⟨w17, hw17⟩ : ∃ x, w11.drew = x := ⟨_, rfl⟩
  rw [hw17] at hb ⊢
  replace HL := Lib.hid (HL.out.below hb)
  replace HB := Lib.hid (HB.out.trans (hb.mono HB.out.size))
  replace HC := Lib.hid (HC.out.below hb)
  replace HP := Lib.hid (HP.out.below hb)
  replace HRQ := Lib.hid (HRQ.out.below hb)
  replace HM := Lib.hid (HM.out.below hb)
  replace HO := Lib.hid (own_below' HO.out hb)
  replace HP3 := Lib.hid (HP3.out.below hb)
  replace HRQ3 := Lib.hid (HRQ3.out.below hb)
  replace HRA := Lib.hid (HRA.out.below hb)
  replace HM3 := Lib.hid (HM3.out.below hb)
  clear hb hw17
  obtain ⟨y0, y1, y2, y3, y4, y5, y6, y7, y8, y9, y10, y11, f0, f1, f2, f3, f4, f5, f6, f7, f8, f9, f10, f11⟩ := HM3.out.u12
  have hro := rep_opt ⟨qn, qt, qk⟩ id 0 rd ed tt BB
  obtain ⟨⟨⟨ps, pv, prc, pd, pdt⟩, pk, pe⟩, hG3⟩ : ∃ x, getO (repM ⟨qn, qt, qk⟩ id 0 rd ed tt BB).x = x := ⟨_, rfl⟩
  rw [hG3] at hro
  injection hro with hk1 hk2
  subst hk1 hk2
  have HG3 := Lib.hid hG3
  clear hG3
  go_wp2_with fail
  refine (getM_is _ (repM ⟨qn, qt, qk⟩ id 0 rd pk tt BB) _ ps pv prc pd pdt pk 0 HP3.out (by show (if pk = true then [putR (optW 0)] else []).length ≤ 100000; cases pk <;> decide) HG3.out).mono ?_; rintro e w12 ⟨rfl, hb⟩
  replace HL := Lib.hid (HL.out.below hb)
  replace HB := Lib.hid (HB.out.trans (hb.mono HB.out.size))
  replace HC := Lib.hid (HC.out.below hb)
  replace HP := Lib.hid (HP.out.below hb)
  replace HRQ := Lib.hid (HRQ.out.below hb)
  replace HM := Lib.hid (HM.out.below hb)
  replace HO := Lib.hid (own_below' HO.out hb)
  replace HP3 := Lib.hid (HP3.out.below hb)
  replace HRQ3 := Lib.hid (HRQ3.out.below hb)
  replace HRA := Lib.hid (HRA.out.below hb)
  replace HM3 := Lib.hid (HM3.out.below hb)
  clear hb
  clear y0 y1 y2 y3 y4 y5 y6 y7 y8 y9 y10 y11 f0 f1 f2 f3 f4 f5 f6 f7 f8 f9 f10 f11
  have hba := (Below.refl _ _ : Below w12.heap.size w12 w12).alloc (Nat.le_refl _) (.cells #[.int .i64 ps, .int .i64 pv, .int .i64 prc, .bool pd, .string pdt] 42)
  have HO5 := Lib.hid (CN.new w12 #[.int .i64 ps, .int .i64 pv, .int .i64 prc, .bool pd, .string pdt] 42)
  replace HL := Lib.hid (HL.out.below hba)
  replace HB := Lib.hid (HB.out.trans (hba.mono HB.out.size))
  replace HC := Lib.hid (HC.out.below hba)
  replace HP := Lib.hid (HP.out.below hba)
  replace HRQ := Lib.hid (HRQ.out.below hba)
  replace HM := Lib.hid (HM.out.below hba)
  replace HO := Lib.hid (own_below' HO.out hba)
  replace HP3 := Lib.hid (HP3.out.below hba)
  replace HRQ3 := Lib.hid (HRQ3.out.below hba)
  replace HRA := Lib.hid (HRA.out.below hba)
  replace HM3 := Lib.hid (HM3.out.below hba)
  obtain ⟨w13, hw⟩ : ∃ x, w12.alloc (.cells #[.int .i64 ps, .int .i64 pv, .int .i64 prc, .bool pd, .string pdt] 42) = x := ⟨_, rfl⟩
  obtain ⟨q13, hq⟩ : ∃ x, w12.heap.size = x := ⟨_, rfl⟩
  rw [hw, hq] at HO5
  rw [hw] at HL HB HC HP HRQ HM HO HP3 HRQ3 HRA HM3
  have HW := Lib.hid hw
  have HQ_ := Lib.hid hq
  clear hba hw hq
  go_upto_region 18 with (fail)
  rw [HW.out, HQ_.out]
  clear HW HQ_
  clear HO5
  go_wp2_with fail
  refine (flat_any al ll cl L _ HL.out (by have := HF1.out; omega) (by have := HFL.out.1; omega)).mono ?_; rintro e w14 ⟨v, rfl, ho, hb⟩
  replace HL := Lib.hid (HL.out.below hb)
  replace HB := Lib.hid (HB.out.trans (hb.mono HB.out.size))
  replace HC := Lib.hid (HC.out.below hb)
  replace HP := Lib.hid (HP.out.below hb)
  replace HRQ := Lib.hid (HRQ.out.below hb)
  replace HM := Lib.hid (HM.out.below hb)
  replace HO := Lib.hid (own_below' HO.out hb)
  replace HP3 := Lib.hid (HP3.out.below hb)
  replace HRQ3 := Lib.hid (HRQ3.out.below hb)
  replace HRA := Lib.hid (HRA.out.below hb)
  replace HM3 := Lib.hid (HM3.out.below hb)
  clear hb
  obtain ⟨nF, hnF⟩ : ∃ x, (flatP L).length = x := ⟨_, rfl⟩
  rw [hnF] at ho
  obtain ⟨aF, cF, rfl, -⟩ := rowR_own ho
  have HOF := Lib.hid ho
  have HNF := Lib.hid (show nF ≤ 100000 from by have := HFL.out.1; omega)
  clear ho
  go_wp2_with fail
  refine (first22 _).mono ?_; rintro e w15 ⟨rfl, hb⟩
  replace HL := Lib.hid (HL.out.below hb)
  replace HB := Lib.hid (HB.out.trans (hb.mono HB.out.size))
  replace HC := Lib.hid (HC.out.below hb)
  replace HP := Lib.hid (HP.out.below hb)
  replace HRQ := Lib.hid (HRQ.out.below hb)
  replace HM := Lib.hid (HM.out.below hb)
  replace HO := Lib.hid (own_below' HO.out hb)
  replace HP3 := Lib.hid (HP3.out.below hb)
  replace HRQ3 := Lib.hid (HRQ3.out.below hb)
  replace HRA := Lib.hid (HRA.out.below hb)
  replace HM3 := Lib.hid (HM3.out.below hb)
  replace HOF := Lib.hid (own_below' HOF.out hb)
  clear hb
  obtain ⟨y0, y1, y2, y3, y4, y5, y6, y7, y8, y9, y10, y11, f0, f1, f2, f3, f4, f5, f6, f7, f8, f9, f10, f11⟩ := HM3.out.u12
  have e1 : (pk == pk) = true := beq_self_eq_true _
  rcases HR4.out with ⟨rfl, rfl⟩ | ⟨rfl, rfl⟩
  · obtain rfl : 0 = nl3 := HLB.out
    go_wp2
    go_ret
    exact ⟨rfl, HB.out⟩
  have HNL := Lib.hid (show nl3 ≤ 100000 from by have h1 := HLB.out; have h2 := HFL.out.1; omega)
  go_wp2_with fail
  refine (rrsD na3 aF nl3 nF nc3 cF (flatP L) (flatP L) _ HRA.out (rowR_own2 HOF.out).1 HNL.out HNF.out).mono ?_; rintro e w16 ⟨rfl, hb⟩
  clear y0 y1 y2 y3 y4 y5 y6 y7 y8 y9 y10 y11 f0 f1 f2 f3 f4 f5 f6 f7 f8 f9 f10 f11
  replace HL := Lib.hid (HL.out.below hb)
  replace HB := Lib.hid (HB.out.trans (hb.mono HB.out.size))
  replace HC := Lib.hid (HC.out.below hb)
  replace HP := Lib.hid (HP.out.below hb)
  replace HRQ := Lib.hid (HRQ.out.below hb)
  replace HM := Lib.hid (HM.out.below hb)
  replace HO := Lib.hid (own_below' HO.out hb)
  replace HP3 := Lib.hid (HP3.out.below hb)
  replace HRQ3 := Lib.hid (HRQ3.out.below hb)
  replace HRA := Lib.hid (HRA.out.below hb)
  replace HM3 := Lib.hid (HM3.out.below hb)
  replace HOF := Lib.hid (own_below' HOF.out hb)
  clear hb
  rw [decide_eq_true (rfl : flatP L = flatP L)]
  go_wp2
  go_ret
  exact ⟨rfl, HB.out⟩

end Go.Proofs.Ytgppkpdjpcegbaa
