/- A disk that is written to: contract of put. -/
import Derived.Test.YtocfphijheidbaaMgV
import Derived.Test.YtocfphijheidbaaLst
namespace Go.Proofs.Ytocfphijheidbaa
open Go.RowKit

def putD (s : DkP) (k : Nat) (b : List UInt8) : DkP :=
  if s.fall < 1 then { s with R := updS s.R k b, P := s.P ++ [(k, b)], wr := s.wr + 1 }
  else if s.fall = 1 then crash { s with R := updS s.R k b, P := s.P ++ [(k, b)], wr := s.wr + 1, fall := 0 } s.mask
  else { s with R := updS s.R k b, P := s.P ++ [(k, b)], wr := s.wr + 1, fall := s.fall - 1 }
theorem updS_len {R : Nat → List UInt8} {n k : Nat} {b : List UInt8} (h : ∀ j, j < n → (R j).length = 256) (hb : b.length = 256) : ∀ j, j < n → (updS R k b j).length = 256 := by
  intro j hj
  unfold updS
  split
  · exact hb
  · exact h j hj
theorem DkB.below {w w' : World} {bs : List Nat} {q qd qr : Nat} {pv mv : Value} {s : DkP} (hB : DkB w q qd qr pv mv s) (hA : DkA w bs q qd qr pv mv) (h : Below w.heap.size w w') : DkB w' q qd qr pv mv s ∧ DkA w' bs q qd qr pv mv := by
  obtain ⟨⟨a1, a2, a3, a4, a5⟩, a6, a7, a8⟩ := hA
  refine ⟨hB.kept h.size (fun b hb => h.block b (a6 b ?_)), ⟨a1, a2, a3, a4, a5⟩, fun b hb => Nat.lt_of_lt_of_le (a6 b hb) h.size, a7, a8⟩
  rcases hb with rfl | rfl | rfl | hb | ⟨off, l, c, e, h0⟩
  · exact a1
  · exact a2
  · exact a3
  · exact a4 b hb
  · rcases a5 b off l c e with h4 | h4
    · exact absurd h4 h0
    · exact h4
/-- Its own mask names what its fall leaves. -/
theorem crash_own (q : Nat) (pv mv : Value) (qd qr : Nat) (bs : List Nat) (s : DkP) (w : World) (hB : DkB w q qd qr pv mv s) (hA : DkA w bs q qd qr pv mv) (hW : DkW s) (hd : s.down = false) (hL : s.P.length ≤ 10000) (hmn : s.mask.length ≤ 1000000) :
    ∃ ma mc, mv = .slice ma s.mask.length mc ∧ Calls Try.prog 30 #[.pointer (some ⟨q, 0, none⟩), .slice ma s.mask.length mc] w fun e w' => e = .returned (.tuple #[]) ∧ DkS w' bs q (crash s s.mask) ∧ Frm w w' bs := by
  obtain ⟨ma, mc, rfl, h⟩ := hB.2.2.2.2
  refine ⟨ma, mc, rfl, crash_core q qd qr pv _ bs s ma _ mc s.mask w hB hA hW hd ⟨ma, mc, rfl, h⟩ (fun b off e => ?_) hL hmn⟩
  rcases hA.2.2.2 b off _ mc (by rw [e]) with h0 | h0
  · exact Or.inl h0
  · exact Or.inr h0.2.2.1
theorem ex_load_mid {w : World} {op : Oper} {act : Act} (ty : TypeId) (x : Operand) (ho : op.op = .load ty x) (b o : Nat) (hx : act.eval x = .pointer (some ⟨b, o, none⟩)) (cs : List Value) (d : TypeDesc) (hc : w.rangeAt b o cs)
    (hu : Try.prog.underlying ty = some d) (hd : d.isRow = true) (hi : (Try.prog.info? ty).map (·.size) = some cs.length) : (execOp act.eval op).run Try.prog w = .ok (.value (.agg cs.toArray)) w := by
  unfold execOp
  simp only [ho, hx, Instr.loadAt, Instr.sureAddr, Sem.run_bind, Sem.run_pure, Result.andThen_ok, run_loadVar_mid w b o ty cs d hc hu hd hi]
theorem ex_build_write {w : World} {o : Oper} {act : Act} (x y : Operand) (ho : o.op = .build 134 #[(0, x), (1, y)]) (k : Int) (b : List UInt8) (hb : b.length = 256) (hx : act.eval x = .int .i64 k) (hy : act.eval y = .agg (bc b).toArray) : (execOp act.eval o).run Try.prog w = .ok (.value (.agg (Value.int .i64 k :: bc b).toArray)) w := by
  have hbt : Try.prog.built 134 ((#[(0, x), (1, y)] : Array (Nat × Operand)).map fun (i, x) => (i, act.eval x)).toList = some (Value.int .i64 k :: bc b).toArray := by
    simp only [List.map_toArray, List.map_cons, List.map_nil, hx, hy]
    exact built_write k b hb
  unfold execOp
  simp only [ho, Sem.run_bind, run_build w 134 _ _ hbt, Result.andThen_ok, Sem.run_pure]
theorem wpList_step {w : World} {ops : Array Oper} {rest : List Oper} {o : Oper} {act : Act} {Q : Exit → Act → World → Prop} (hgd : o.guard = none) (h : if Region.wanted o (yielded ops act.tmps) = true then Oper.wp Try.prog o act w (wpList Try.prog ops Q rest) Q else False) : wpList Try.prog ops Q (o :: rest) act w := by
  have hw : Region.wanted o (yielded ops act.tmps) = true := by simp [Region.wanted, hgd]
  rw [if_pos hw] at h
  unfold wpList
  rw [if_pos hw]
  exact Or.inl h
set_option maxRecDepth 100000 in
set_option maxHeartbeats 8000000 in
theorem put_dk (q qd qr : Nat) (pv mv : Value) (bs : List Nat) (s : DkP) (k : Nat) (b : List UInt8) (w : World) (hB : DkB w q qd qr pv mv s) (hA : DkA w bs q qd qr pv mv) (hW : DkW s) (hd : s.down = false) (hk : k < s.n) (hb : b.length = 256) (hL : s.P.length ≤ 9000) (hmn : s.mask.length ≤ 1000000) (hwr : s.wr ≤ 1000000) (hfl : s.fall ≤ 9223372036854775807) :
    Calls Try.prog 74 #[.pointer (some ⟨q, 0, none⟩), .int .i64 (k : Int), .agg (bc b).toArray] w fun e w' => e = .returned (.tuple #[]) ∧ (∃ cs, DkS w' cs q (putD s k b) ∧ ∀ g ∈ cs, g ∈ bs ∨ w.heap.size ≤ g) ∧ Frm w w' bs := by
  have HBL := Lib.hid hb
  have HW := Lib.hid hW
  have HK := Lib.hid hk
  have HDN := Lib.hid hd
  have pk0 : (0 : Int) ≤ (k : Int) := by omega
  have rk : (k : Int) < (s.n : Int) := by omega
  have hbx := (Below.refl w.heap.size w).alloc (Nat.le_refl _) (.cells (bc b).toArray 131)
  have HF1 := Lib.hid ((Frm.refl w bs).below hbx (Nat.le_refl _))
  obtain ⟨hB1, hA1⟩ := hB.below hA hbx
  have HB1 := Lib.hid hB1
  have HA1 := Lib.hid hA1
  have HRB := Lib.hid (show (w.alloc (.cells (bc b).toArray 131)).rangeAt w.heap.size 0 (bc b) from fun j v hj => by
    rw [Nat.zero_add, World.cell?_alloc_new, List.getElem?_toArray]; exact hj)
  have HHQ := Lib.hid (show w.heap.size ≠ qr ∧ w.heap.size ≠ q ∧ w.heap.size ∉ bs from ⟨fun e => by have := hA.2.1 qr hA.1.2.2.1; omega, fun e => by have := hA.2.1 q hA.1.1; omega, fun e => by have := hA.2.1 _ e; omega⟩)
  have HHL := Lib.hid (show w.heap.size < (w.alloc (.cells (bc b).toArray 131)).heap.size by rw [World.size_alloc]; omega)
  have HSB := Lib.hid (show (Try.prog.info? 131).map (·.size) = some (bc b).length by rw [bc_length, hb]; exact sizeSec)
  have HOB := Lib.hid (show (bc b).toArray.all (·.oneCell') = true from all_oneCell_toArray (bc_oneCell b))
  have HWS := Lib.hid (Nat.le_refl w.heap.size)
  clear hB hA
  go_enter Try.func74, Try.ntmps74
  go_upto_region 1 with (fail)
  obtain ⟨w1, hw1⟩ : ∃ z, w.alloc (.cells (bc b).toArray 131) = z := ⟨_, rfl⟩
  rw [hw1] at HF1 HB1 HA1 HRB HHL ⊢
  obtain ⟨H, hH⟩ : ∃ z, w.heap.size = z := ⟨_, rfl⟩
  rw [hH] at HRB HHQ HHL ⊢
  have hHw : w.heap.size ≤ H := by omega
  clear hw1 hbx hB1 hA1
  have c1 := HB1.out.1.u7.2.1
  have e1 : ({ heap := w1.heap, tape := w1.tape, drawn := w1.drawn + 1, os := w1.os, output := w1.output } : World).cell? ⟨q, 1, none⟩ = some (.slice (some ⟨qr, 0, none⟩) s.n s.cr) := c1
  obtain ⟨o2, ho2⟩ : ∃ o, k * 256 = o := ⟨_, rfl⟩
  have HO2E := Lib.hid (show o2 = 256 * k by omega)
  have HB1d := Lib.hid (show ({ heap := w1.heap, tape := w1.tape, drawn := w1.drawn + 1, os := w1.os, output := w1.output } : World).rangeAt H 0 (bc b) from HRB.out)
  have HTH := Lib.hid (show w1.drew.there qr o2 (bc b).toArray.size from fun j hj => by
    rw [List.size_toArray, bc_length, HBL.out] at hj
    have h1 := HB1.out.2.2.1 (o2 + j) (by have := HO2E.out; have := HK.out; omega)
    rw [Nat.zero_add] at h1
    exact ⟨by show (w1.cell? _).isSome = true; rw [h1.1]; rfl, h1.2⟩)
  have hbd := (Below.refl w1.heap.size w1).drew
  have HS2 := Lib.hid (show DkS (w1.drew.setCells qr o2 (bc b).toArray.toList) bs q { s with R := updS s.R k b } from by
    have hx := HB1.out.below HA1.out hbd
    refine DkS.withR hx.1 hx.2 HW.out ((Oth.refl w1.drew qr).sets o2 _) ?_ (updS_len HW.out.2.2.1 HBL.out)
    rw [HO2E.out]
    exact hx.1.2.2.1.sector HK.out b HBL.out)
  have HF2 := Lib.hid ((HF1.out.below hbd HF1.out.size).sets qr o2 (Or.inl HA1.out.1.2.2.1) (bc b).toArray.toList)
  have HR2 := Lib.hid (show (w1.drew.setCells qr o2 (bc b).toArray.toList).rangeAt H 0 (bc b) from fun j v hj => ((Oth.refl w1.drew qr).sets o2 (bc b).toArray.toList).keeps (a := ⟨H, 0 + j, none⟩) (HRB.out j v hj) HHQ.out.1)
  have HL2 := Lib.hid (show H < (w1.drew.setCells qr o2 (bc b).toArray.toList).heap.size from Nat.lt_of_lt_of_le HHL.out ((Oth.refl w1.drew qr).sets o2 (bc b).toArray.toList).size)
  obtain ⟨w2, hw2⟩ : ∃ z, w1.drew.setCells qr o2 (bc b).toArray.toList = z := ⟨_, rfl⟩
  rw [hw2] at HS2 HF2 HR2 HL2
  have HW2 := Lib.hid hw2
  clear hbd hw2 HB1 HA1 HF1 HRB HHL
  refine wp_region_still_tail 7 (by kernel_rfl) (by kernel_rfl) ?_
  simp only [List.take_succ_cons, List.take_zero, List.drop_succ_cons, List.drop_zero]
  repeat (first | (refine wpStill_load_mid rfl 131 (.tmp 5) rfl H 0 rfl (bc b) _ HB1d.out Try.underlying131 rfl HSB.out ?_) | still_step)
  refine wpStill_nil ?_
  change wpList _ _ _ _ _ w1.drew
  go_upto_region 2 with (refine wpList_store_mid rfl 131 (.tmp 12) (.tmp 11) rfl qr o2 (bc b).toArray rfl rfl HTH.out (by rw [List.size_toArray]; exact HSB.out) HOB.out ?_; rw [HW2.out])
  obtain ⟨qd2, qr2, pv2, mv2, hB2, hA2, hW2⟩ := HS2.out
  have hbe := ((Below.refl w2.heap.size w2).drew).alloc (Nat.le_refl _) (.cells (Value.int .i64 (k : Int) :: bc b).toArray 134)
  obtain ⟨hB3, hA3⟩ := hB2.below hA2 hbe
  have HB3 := Lib.hid hB3
  have HA3 := Lib.hid hA3
  have HWW := Lib.hid hW2
  have HBE := Lib.hid hbe
  obtain ⟨pa, pc, hpv, -⟩ := cellsK_own hB2.2.2.2.1
  change pv2 = .slice pa s.P.length pc at hpv
  subst hpv
  have c2 : w2.cell? ⟨q, 2, none⟩ = some (.slice pa s.P.length pc) := hB2.1.u7.2.2.1
  have e2 : ({ heap := w2.heap, tape := w2.tape, drawn := w2.drawn + 1, os := w2.os, output := w2.output } : World).cell? ⟨q, 2, none⟩ = some (.slice pa s.P.length pc) := c2
  have HR2d := Lib.hid (show ({ heap := w2.heap, tape := w2.tape, drawn := w2.drawn + 1, os := w2.os, output := w2.output } : World).rangeAt H 0 (bc b) from HR2.out)
  obtain ⟨i0, hi, hz0, hz1, hz2⟩ := info_parts infoWr
  have HI := Lib.hid hi
  have HZ0 := Lib.hid hz0
  have HZ1 := Lib.hid hz1
  have HZ2 := Lib.hid hz2
  have HLN := Lib.hid (show s.P.length + 1 ≤ 20000 by omega)
  have HMR := Lib.hid (fun v' w' => DkB.more (v' := v') (w' := w') hB3 hA3 hW2 k b HK.out HBL.out)
  have HC2 := Lib.hid (fun w' (hg : World.grownBy _ w' (Value.slice pa s.P.length pc).ownBlock) => (show w'.cell? ⟨q, 2, none⟩ = some (.slice pa s.P.length pc) ∧ w'.frozen? ⟨q, 2, none⟩ = false from
    have hq := hg.block q (hA3.2.1 q hA3.1.1) (fun e => (hA3.2.2.1.2.2.2 q e.symm).1 rfl)
    ⟨(World.cell?_of_block (a := ⟨q, 2, none⟩) hq).trans hB3.1.u7.2.2.1, (World.frozen?_of_block (a := ⟨q, 2, none⟩) hq).trans (hB3.1.fr 2 (by decide))⟩))
  have HOW := Lib.hid hB3.2.2.2.1
  have HQ2 := Lib.hid (hB2.1.fr 2 (by decide))
  clear hB2 hA2 hW2 hbe hB3 hA3 hi hz0 hz1 hz2 c1 e1 HTH HSB HOB
  have HSB := Lib.hid (show (Try.prog.info? 131).map (·.size) = some (bc b).length by rw [bc_length, HBL.out]; exact sizeSec)
  have HCL := Lib.hid (show CellsAt (w2.drew.alloc (.cells (Value.int .i64 (k : Int) :: bc b).toArray 134)) (some ⟨w2.heap.size, 0, none⟩) (1 * 257) (Value.int .i64 (k : Int) :: bc b) from by
    have hcl := cells_lit w2.drew (Value.int .i64 (k : Int) :: bc b).toArray 134
    have hl : (Value.int .i64 (k : Int) :: bc b).toArray.size = 1 * 257 := by rw [List.size_toArray, List.length_cons, bc_length, HBL.out]
    rw [hl] at hcl
    exact hcl)
  have c2a : (w2.drew.alloc (.cells (Value.int .i64 (k : Int) :: bc b).toArray 134)).cell? ⟨q, 2, none⟩ = some (.slice pa s.P.length pc) := HB3.out.1.u7.2.2.1
  have HF2Q := Lib.hid (show w2.drew.frozen? ⟨q, 2, none⟩ = false from HQ2.out)
  have HF3Q := Lib.hid (show (w2.drew.alloc (.cells (Value.int .i64 (k : Int) :: bc b).toArray 134)).frozen? ⟨q, 2, none⟩ = false from HB3.out.1.fr 2 (by decide))
  have HR3 := Lib.hid (show (w2.drew.alloc (.cells (Value.int .i64 (k : Int) :: bc b).toArray 134)).rangeAt H 0 (bc b) from fun j v hj => (World.cell?_of_block (a := ⟨H, 0 + j, none⟩) (HBE.out.block H HL2.out)).trans (HR2.out j v hj))
  have HH3 := Lib.hid (show H < (w2.drew.alloc (.cells (Value.int .i64 (k : Int) :: bc b).toArray 134)).heap.size from Nat.lt_of_lt_of_le HL2.out HBE.out.size)
  have HHN := Lib.hid (show some H ≠ (Value.slice pa s.P.length pc).ownBlock from fun e => HHQ.out.2.2 (HA3.out.1.2.2.2.1 H e.symm))
  -- REGION 2
  refine wp_region_last_drew (L := 12) (S := (fun wx => wx.cell? ⟨q, 2, none⟩ = some (.slice pa s.P.length pc) ∧ wx.frozen? ⟨q, 2, none⟩ = false ∧ Hid (wx.rangeAt H 0 (bc b)))) (by kernel_rfl) ⟨c2, HF2Q.out, HR2⟩ (fun hHeld => ?_)
  refine wpAnyL_take (i := 0) (oi := { dst := some 13, op := Go.Op.move (Go.Operand.tmp 0), type := 39, pos := "disk.go:87", after := #[], guard := none }) (v := ?v0) rfl (by kernel_rfl) (by kernel_rfl) (by kernel_rfl) (by kernel_rfl) (by kernel_rfl) (fun _ _ _ h => h) (Or.inl ⟨by rfl, ?y0⟩) hHeld ?r0
  case y0 => intro wx hSw; have cs := hSw.1; clear hSw; go_simp; try with_reducible rfl
  try simp only [Act.put, List.setIfInBounds_toArray, List.set_cons_zero, List.set_cons_succ]
  refine wpAnyL_take (i := 1) (oi := { dst := some 14, op := Go.Op.move (Go.Operand.tmp 0), type := 39, pos := "disk.go:87", after := #[], guard := none }) (v := ?v1) rfl (by kernel_rfl) (by kernel_rfl) (by kernel_rfl) (by kernel_rfl) (by kernel_rfl) (fun _ _ _ h => h) (Or.inl ⟨by rfl, ?y1⟩) hHeld ?r1
  case y1 => intro wx hSw; have cs := hSw.1; clear hSw; go_simp; try with_reducible rfl
  try simp only [Act.put, List.setIfInBounds_toArray, List.set_cons_zero, List.set_cons_succ]
  refine wpAnyL_take (i := 2) (oi := { dst := some 15, op := Go.Op.nilCheck (Go.Operand.tmp 14), type := 0, pos := "disk.go:87", after := #[{ on := 1, ground := Go.Ground.data }], guard := none }) (v := ?v2) rfl (by kernel_rfl) (by kernel_rfl) (by kernel_rfl) (by kernel_rfl) (by kernel_rfl) (fun _ _ _ h => h) (Or.inl ⟨by rfl, ?y2⟩) hHeld ?r2
  case y2 => intro wx hSw; have cs := hSw.1; clear hSw; go_simp; try with_reducible rfl
  try simp only [Act.put, List.setIfInBounds_toArray, List.set_cons_zero, List.set_cons_succ]
  refine wpAnyL_take (i := 3) (oi := { dst := some 16, op := Go.Op.fieldAddr 128 (Go.Operand.tmp 15) 2, type := 0, pos := "disk.go:87", after := #[{ on := 2, ground := Go.Ground.data }], guard := none }) (v := ?v3) rfl (by kernel_rfl) (by kernel_rfl) (by kernel_rfl) (by kernel_rfl) (by kernel_rfl) (fun _ _ _ h => h) (Or.inl ⟨by rfl, ?y3⟩) hHeld ?r3
  case y3 => intro wx hSw; have cs := hSw.1; clear hSw; go_simp; try with_reducible rfl
  try simp only [Act.put, List.setIfInBounds_toArray, List.set_cons_zero, List.set_cons_succ]
  refine wpAnyL_take (i := 4) (oi := { dst := some 17, op := Go.Op.load 126 (Go.Operand.tmp 16), type := 126, pos := "disk.go:87", after := #[{ on := 3, ground := Go.Ground.data }], guard := none }) (v := ?v4) rfl (by kernel_rfl) (by kernel_rfl) (by kernel_rfl) (by kernel_rfl) (by kernel_rfl) (fun _ _ _ h => h) (Or.inl ⟨by rfl, ?y4⟩) hHeld ?r4
  case y4 => intro wx hSw; have cs := hSw.1; clear hSw; go_simp; try with_reducible rfl
  try simp only [Act.put, List.setIfInBounds_toArray, List.set_cons_zero, List.set_cons_succ]
  refine wpAnyL_take (i := 5) (oi := { dst := some 18, op := Go.Op.move (Go.Operand.tmp 1), type := 3, pos := "disk.go:87", after := #[], guard := none }) (v := ?v5) rfl (by kernel_rfl) (by kernel_rfl) (by kernel_rfl) (by kernel_rfl) (by kernel_rfl) (fun _ _ _ h => h) (Or.inl ⟨by rfl, ?y5⟩) hHeld ?r5
  case y5 => intro wx hSw; have cs := hSw.1; clear hSw; go_simp; try with_reducible rfl
  try simp only [Act.put, List.setIfInBounds_toArray, List.set_cons_zero, List.set_cons_succ]
  refine wpAnyL_take (i := 6) (oi := { dst := some 19, op := Go.Op.load 131 (Go.Operand.tmp 5), type := 131, pos := "disk.go:87", after := #[], guard := none }) (v := ?v6) rfl (by kernel_rfl) (by kernel_rfl) (by kernel_rfl) (by kernel_rfl) (by kernel_rfl) (fun _ _ _ h => h) (Or.inl ⟨by rfl, ?y6⟩) hHeld ?r6
  case y6 => intro wx hSw; refine Eq.trans (ex_load_mid 131 (.tmp 5) (by rfl) H 0 (by rfl) (bc b) _ hSw.2.2.out Try.underlying131 rfl HSB.out) ?_; with_reducible rfl
  try simp only [Act.put, List.setIfInBounds_toArray, List.set_cons_zero, List.set_cons_succ]
  refine wpAnyL_take (i := 7) (oi := { dst := some 20, op := Go.Op.build 134 #[(0, Go.Operand.tmp 18), (1, Go.Operand.tmp 19)], type := 134, pos := "disk.go:87", after := #[{ on := 5, ground := Go.Ground.data }, { on := 6, ground := Go.Ground.data }], guard := none }) (v := ?v7) rfl (by kernel_rfl) (by kernel_rfl) (by kernel_rfl) (by kernel_rfl) (by kernel_rfl) (fun _ _ _ h => h) (Or.inl ⟨by rfl, ?y7⟩) hHeld ?r7
  case y7 => intro wx hSw; refine Eq.trans (ex_build_write (.tmp 18) (.tmp 19) (by rfl) (k : Int) b HBL.out (by rfl) (by rfl)) ?_; with_reducible rfl
  try simp only [Act.put, List.setIfInBounds_toArray, List.set_cons_zero, List.set_cons_succ]
  refine wpAnyL_ready (rs := [8]) (by kernel_rfl) (by simp) ?_
  refine AllReadyL.cons (o := { dst := some 21, op := Go.Op.buildSlice 126 1 #[(0, Go.Operand.tmp 20)], type := 126, pos := "disk.go:87", after := #[{ on := 7, ground := Go.Ground.data }], guard := none }) rfl (by decide) (fun K hK => ?_) AllReadyL.nil
  refine step_one_write (by rfl) (.tmp 20) (by rfl) (k : Int) b HBL.out (by rfl) ?_
  refine hK.out _ _ (⟨c2a, HF3Q.out, HR3⟩) (fun hHeld2 => ?_)
  clear hK K hHeld
  have hHeld := hHeld2
  clear hHeld2
  try simp only [Act.put, List.setIfInBounds_toArray, List.set_cons_zero, List.set_cons_succ]
  refine wpAnyL_ready (rs := [9]) (by kernel_rfl) (by simp) ?_
  refine AllReadyL.cons (o := { dst := some 22, op := Go.Op.call { callee := Go.Callee.builtin Go.Builtin.append, args := #[Go.Operand.tmp 17, Go.Operand.tmp 21], argTypes := #[126, 126] }, type := 126, pos := "disk.go:87", after := #[{ on := 4, ground := Go.Ground.data }, { on := 8, ground := Go.Ground.data }], guard := none }) rfl (by decide) (fun K hK => ?_) AllReadyL.nil
  refine step_append_fr (by rfl) (.tmp 17) (.tmp 21) 126 134 (by rfl) i0 zWr 257 264 Try.underlying126 HI.out HZ0.out HZ1.out HZ2.out zWr_size (by decide) (.slice pa s.P.length pc) s.P.length (flatP s.P) (by rfl) HOW.out ⟨w2.heap.size, 0, none⟩ 1 1 (Value.int .i64 (k : Int) :: bc b) (by rfl) HCL.out (wr_one _ _) HLN.out (by decide) ?_
  intro v' w' h1 h2 h3
  obtain ⟨va, vc, rfl, -⟩ := cellsK_own h1
  obtain ⟨c2', f2'⟩ := HC2.out w' h2
  have HS3 := Lib.hid (HMR.out _ w' h1 h2 h3)
  have HR4 := Lib.hid (show w'.rangeAt H 0 (bc b) from fun j v hj => (World.cell?_of_block (a := ⟨H, 0 + j, none⟩) (h2.block H HH3.out HHN.out)).trans (HR3.out j v hj))
  clear h1 h2 h3 HMR HC2
  refine hK.out _ _ (⟨c2', f2', HR4⟩) (fun hHeld2 => ?_)
  clear hK K hHeld
  have hHeld := hHeld2
  clear hHeld2
  try simp only [Act.put, List.setIfInBounds_toArray, List.set_cons_zero, List.set_cons_succ]
  refine wpAnyL_take (i := 10) (oi := { dst := some 23, op := Go.Op.nilCheck (Go.Operand.tmp 13), type := 0, pos := "disk.go:87", after := #[{ on := 0, ground := Go.Ground.data }, { on := 0, ground := Go.Ground.phase }, { on := 1, ground := Go.Ground.phase }, { on := 2, ground := Go.Ground.phase }, { on := 3, ground := Go.Ground.phase }, { on := 4, ground := Go.Ground.phase }, { on := 5, ground := Go.Ground.phase }, { on := 6, ground := Go.Ground.phase }, { on := 7, ground := Go.Ground.phase }, { on := 8, ground := Go.Ground.phase }, { on := 9, ground := Go.Ground.phase }], guard := none }) (v := ?v10) rfl (by kernel_rfl) (by kernel_rfl) (by kernel_rfl) (by kernel_rfl) (by kernel_rfl) (fun _ _ _ h => h) (Or.inl ⟨by rfl, ?y10⟩) hHeld ?r10
  case y10 => intro wx hSw; have cs := hSw.1; clear hSw; go_simp; try with_reducible rfl
  try simp only [Act.put, List.setIfInBounds_toArray, List.set_cons_zero, List.set_cons_succ]
  refine wpAnyL_take (i := 11) (oi := { dst := some 24, op := Go.Op.fieldAddr 128 (Go.Operand.tmp 23) 2, type := 0, pos := "disk.go:87", after := #[{ on := 10, ground := Go.Ground.data }, { on := 0, ground := Go.Ground.phase }, { on := 1, ground := Go.Ground.phase }, { on := 2, ground := Go.Ground.phase }, { on := 3, ground := Go.Ground.phase }, { on := 4, ground := Go.Ground.phase }, { on := 5, ground := Go.Ground.phase }, { on := 6, ground := Go.Ground.phase }, { on := 7, ground := Go.Ground.phase }, { on := 8, ground := Go.Ground.phase }, { on := 9, ground := Go.Ground.phase }], guard := none }) (v := ?v11) rfl (by kernel_rfl) (by kernel_rfl) (by kernel_rfl) (by kernel_rfl) (by kernel_rfl) (fun _ _ _ h => h) (Or.inl ⟨by rfl, ?y11⟩) hHeld ?r11
  case y11 => intro wx hSw; have cs := hSw.1; clear hSw; go_simp; try with_reducible rfl
  try simp only [Act.put, List.setIfInBounds_toArray, List.set_cons_zero, List.set_cons_succ]
  refine wpAnyL_ready (rs := [12]) (by kernel_rfl) (by simp) ?_
  refine AllReadyL.last (o := { dst := none, op := Go.Op.store 126 (Go.Operand.tmp 24) (Go.Operand.tmp 22), type := 0, pos := "disk.go:87", after := #[{ on := 11, ground := Go.Ground.data }, { on := 9, ground := Go.Ground.data }, { on := 9, ground := Go.Ground.chain }, { on := 0, ground := Go.Ground.phase }, { on := 1, ground := Go.Ground.phase }, { on := 2, ground := Go.Ground.phase }, { on := 3, ground := Go.Ground.phase }, { on := 4, ground := Go.Ground.phase }, { on := 5, ground := Go.Ground.phase }, { on := 6, ground := Go.Ground.phase }, { on := 7, ground := Go.Ground.phase }, { on := 8, ground := Go.Ground.phase }, { on := 9, ground := Go.Ground.phase }], guard := none }) rfl (by decide) (fun K hK => ?_) AllReadyL.nil
  go_simp
  refine hK.out _ _ trivial (fun _ => ?_)
  clear hK K
  try simp only [Act.put, List.setIfInBounds_toArray, List.set_cons_zero, List.set_cons_succ]
  refine wpAnyL_done (by kernel_rfl) ?_ _
  obtain ⟨cs, hs4, hcs, hf4⟩ := HS3.out
  have HHE := Lib.hid hH
  have HFB := Lib.hid (HF2.out.below HBE.out HF2.out.size)
  have HF4 := Lib.hid (HFB.out.trans hf4 (fun b hb => Or.inl hb))
  have HCS := Lib.hid (show ∀ g ∈ cs, g ∈ bs ∨ H ≤ g from fun g hg => (hcs g hg).imp id (fun h => Nat.le_trans (Nat.le_of_eq hH.symm) (Nat.le_trans HFB.out.size h)))
  have HS4 := Lib.hid hs4
  have HQB := Lib.hid HA3.out.1.1
  obtain ⟨w4, hw4⟩ : ∃ z, w'.setCell ⟨q, 2, none⟩ (.slice va (s.P.length + 1) vc) = z := ⟨_, rfl⟩
  rw [hw4] at HF4 HS4 ⊢
  obtain ⟨-, d3, d4, d5, f3, f4, f5, f6⟩ := HS4.out.cells
  obtain ⟨n1, hn1⟩ : ∃ n, s.wr + 1 = n := ⟨_, rfl⟩
  have hw1 : IntKind.i64.wrap ((s.wr : Int) + 1) = (n1 : Int) := by rw [IntKind.wrap_i64]; omega
  have HN1 := Lib.hid hn1
  have HS5 := Lib.hid (HS4.out.setN n1)
  have HF5 := Lib.hid (HF4.out.set q 4 (Or.inl HQB.out) (.int .i64 (n1 : Int)))
  have HFA := Lib.hid hfl
  obtain ⟨F, hF⟩ : ∃ z, s.fall = z := ⟨_, rfl⟩
  have HFE := Lib.hid hF
  obtain ⟨n0, hn0⟩ : ∃ z, s.wr = z := ⟨_, rfl⟩
  change w4.cell? _ = some (.int .i64 s.fall) at d5
  change w4.cell? _ = some (.int .i64 (s.wr : Int)) at d4
  rw [hF] at d5
  rw [hn0] at d4 hw1
  clear HS4 HF4 hs4 hcs hf4 HS3 HFB HF2 HBE HB3 HA3 HWW HOW HCL HLN HI HZ0 HZ1 HZ2 HR2d HR2 HR3 HR4 HH3 HHN HF2Q HF3Q HQ2 HHQ HL2 HW2 c2 c2a c2' f2' e2 hw4 hn1 hn0 hF hfl hHeld
  obtain ⟨w5, hw5⟩ : ∃ z, w4.setCell ⟨q, 4, none⟩ (.int .i64 (n1 : Int)) = z := ⟨_, rfl⟩
  rw [hw5] at HS5 HF5
  have HW5 := Lib.hid hw5
  clear hw5
  by_cases h1 : F < 1
  · have dd := dT h1
    have HP := Lib.hid (show putD s k b = { s with R := updS s.R k b, P := s.P ++ [(k, b)], wr := n1 } by rw [putD, HFE.out, if_pos h1, HN1.out])
    clear h1
    go_wp2
    rw [HW5.out]
    refine bodyPost_ret (v := .tuple #[]) (by simp [results, Try.results74, go_sem]) rfl ⟨rfl, ⟨cs, by rw [HP.out]; exact HS5.out, fun g hg => (HCS.out g hg).imp id (fun h => by first | exact h | exact Nat.le_trans (Nat.le_of_eq HHE.out) h)⟩, HF5.out⟩
  · have dd := dF h1
    obtain ⟨G, hG⟩ : ∃ z, F - 1 = z := ⟨_, rfl⟩
    have hw2 : IntKind.i64.wrap (F - 1) = G := by rw [← hG]; have h8 := HFA.out; rw [HFE.out] at h8; rw [IntKind.wrap_i64]; omega
    have HH1 := Lib.hid h1
    have HGE := Lib.hid hG
    clear hG h1
    have HS6 := Lib.hid (HS5.out.setF G)
    have HF6 := Lib.hid (HF5.out.set q 5 (Or.inl HQB.out) (.int .i64 G))
    by_cases h0 : G = 0
    · subst h0
      have HP := Lib.hid (show putD s k b = crash { s with R := updS s.R k b, P := s.P ++ [(k, b)], wr := n1, fall := 0 } s.mask by rw [putD, HFE.out, if_neg HH1.out, if_pos (by have := HGE.out; omega), HN1.out])
      obtain ⟨qd6, qr6, pv6, mv6, hB6, hA6, hW6⟩ := HS6.out
      obtain ⟨ma, mc, hmv, hcr⟩ := crash_own q pv6 mv6 qd6 qr6 cs _ _ hB6 hA6 hW6 HDN.out (by show (s.P ++ [(k, b)]).length ≤ 10000; rw [List.length_append, List.length_singleton]; omega) hmn
      subst hmv
      have c6 := hB6.1.u7.2.2.2.2.2.2
      clear hB6 hA6 hW6 HS6
      go_upto_region 7 with (fail)
      rw [HW5.out]
      obtain ⟨w6, hw6⟩ : ∃ z, w5.setCell ⟨q, 5, none⟩ (.int .i64 0) = z := ⟨_, rfl⟩
      rw [hw6] at c6 hcr HF6 ⊢
      clear hw6
      change Calls _ _ #[_, .slice ma s.mask.length mc] _ _ at hcr
      change w6.cell? _ = some (.slice ma s.mask.length mc) at c6
      have HCR := Lib.hid hcr
      obtain ⟨M, hM⟩ : ∃ z, s.mask.length = z := ⟨_, rfl⟩
      rw [hM] at c6
      have HME := Lib.hid hM
      clear hcr hM
      go_wp2_with fail
      rw [← HME.out]
      refine HCR.out.mono ?_; rintro e w7 ⟨rfl, hs, hf⟩
      have HS7 := Lib.hid hs
      have HF7 := Lib.hid (HF6.out.trans hf (fun g hg => (HCS.out g hg).imp id (fun h => Nat.le_trans (Nat.le_of_eq hH) h)))
      clear hs hf
      go_wp2
      refine bodyPost_end (v := .tuple #[]) (by simp [results, Try.results74, go_sem]) rfl ⟨rfl, ⟨cs, by rw [HP.out]; exact HS7.out, fun g hg => (HCS.out g hg).imp id (fun h => by first | exact h | exact Nat.le_trans (Nat.le_of_eq HHE.out) h)⟩, HF7.out⟩
    · have dz := eF h0
      have HP := Lib.hid (show putD s k b = { s with R := updS s.R k b, P := s.P ++ [(k, b)], wr := n1, fall := G } by rw [putD, HFE.out, if_neg HH1.out, if_neg (by have := HGE.out; omega), HN1.out, HGE.out])
      clear h0
      go_wp2
      rw [HW5.out]
      refine bodyPost_end (v := .tuple #[]) (by simp [results, Try.results74, go_sem]) rfl ⟨rfl, ⟨cs, by rw [HP.out]; exact HS6.out, fun g hg => (HCS.out g hg).imp id (fun h => by first | exact h | exact Nat.le_trans (Nat.le_of_eq HHE.out) h)⟩, HF6.out⟩
end Go.Proofs.Ytocfphijheidbaa
