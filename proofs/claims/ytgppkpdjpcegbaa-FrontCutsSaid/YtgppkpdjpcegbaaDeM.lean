/- The reader of a message: the message. -/
import Derived.Test.YtgppkpdjpcegbaaMgE
import Derived.Test.YtgppkpdjpcegbaaMgM
namespace Go.Proofs.Ytgppkpdjpcegbaa
open Go.RowKit

/-- A header's parts. -/
structure H8 where
  i : Int
  o : Int
  r : Int
  b1 : Bool
  b2 : Bool
  b3 : Bool
  b4 : Bool
  b5 : Bool
/-- The header that an ID and flags tell. -/
def unH (i f : Int) : H8 := ⟨i, bits .and .i64 (f / 2048) 15, bits .and .i64 f 15, bits .and .i64 f 32768 != 0, bits .and .i64 f 1024 != 0, bits .and .i64 f 512 != 0, bits .and .i64 f 256 != 0, bits .and .i64 f 128 != 0⟩
def msgC (h : H8) (qv av nv xv : Value) : Array Value := #[.int .i64 h.i, .int .i64 h.o, .int .i64 h.r, .bool h.b1, .bool h.b2, .bool h.b3, .bool h.b4, .bool h.b5, qv, av, nv, xv]
structure MsgD where
  h : H8
  q : List Ky
  a : List R5
  n : List R5
  x : List R5
def SzMD (M : MsgD) : Prop := (M.q.length ≤ 70000 ∧ ∀ r ∈ M.q, r.n.size ≤ 255) ∧ (M.a.length ≤ 70000 ∧ ∀ r ∈ M.a, r.k.n.size ≤ 255 ∧ r.d.size ≤ 40000) ∧ (M.n.length ≤ 70000 ∧ ∀ r ∈ M.n, r.k.n.size ≤ 255 ∧ r.d.size ≤ 40000) ∧ (M.x.length ≤ 70000 ∧ ∀ r ∈ M.x, r.k.n.size ≤ 255 ∧ r.d.size ≤ 40000)
def msg0 : MsgD := ⟨⟨0, 0, 0, false, false, false, false, false⟩, [], [], [], []⟩
theorem szM0 : SzMD msg0 := ⟨⟨Nat.zero_le _, fun r h => by cases h⟩, ⟨Nat.zero_le _, fun r h => by cases h⟩, ⟨Nat.zero_le _, fun r h => by cases h⟩, ⟨Nat.zero_le _, fun r h => by cases h⟩⟩
/-- The rows of a message's values, all made behind a world. -/
def RowsM (w : World) (B : Nat) (M : MsgD) (qv av nv xv : Value) : Prop := w.ownsRow B 27 3 qv M.q.length (flatQ M.q) ∧ w.ownsRow B 77 5 av M.a.length (flatR M.a) ∧ w.ownsRow B 77 5 nv M.n.length (flatR M.n) ∧ w.ownsRow B 77 5 xv M.x.length (flatR M.x)
theorem rowsM0 (w : World) (B : Nat) : RowsM w B msg0 (.slice none 0 0) (.slice none 0 0) (.slice none 0 0) (.slice none 0 0) := ⟨World.ownsRow_nil _ _ _ _, World.ownsRow_nil _ _ _ _, World.ownsRow_nil _ _ _ _, World.ownsRow_nil _ _ _ _⟩
theorem RowsM.below {w w' : World} {B : Nat} {M : MsgD} {qv av nv xv : Value} (h : RowsM w B M qv av nv xv) (hb : Below w.heap.size w w') : RowsM w' B M qv av nv xv := ⟨own_below' h.1 hb, own_below' h.2.1 hb, own_below' h.2.2.1 hb, own_below' h.2.2.2 hb⟩
/-- The six numbers ahead of all. -/
def hd6P (s : ByteArray) : Option ((((((Int × Int) × Int) × Int) × Int) × Int) × Nat) :=
  (((((numP s 2 0).bind fun x => (numP s 2 x.2).map fun y => ((x.1, y.1), y.2)).bind fun x => (numP s 2 x.2).map fun y => ((x.1, y.1), y.2)).bind fun x => (numP s 2 x.2).map fun y => ((x.1, y.1), y.2)).bind fun x => (numP s 2 x.2).map fun y => ((x.1, y.1), y.2)).bind fun x => (numP s 2 x.2).map fun y => ((x.1, y.1), y.2)
/-- What stands behind them. -/
def restP (s : ByteArray) (i f : Int) (q an ns ar : Nat) (a : Nat) : Option (MsgD × Nat) :=
  ((((manyP (qP s) q a).bind fun x => (manyP (rrP s false) an x.2).map fun y => ((x.1, y.1), y.2)).bind fun x => (manyP (rrP s false) ns x.2).map fun y => ((x.1, y.1), y.2)).bind fun x => (manyP (rrP s true) ar x.2).map fun y => ((x.1, y.1), y.2)).map fun z => (⟨unH i f, z.1.1.1.1, z.1.1.1.2, z.1.1.2, z.1.2⟩, z.2)
def msgF (s : ByteArray) (x : (((((Int × Int) × Int) × Int) × Int) × Int) × Nat) : Option (MsgD × Nat) :=
  if 300 < x.1.1.1.1.2.toNat + x.1.1.1.2.toNat + x.1.1.2.toNat + x.1.2.toNat then none else restP s x.1.1.1.1.1.1 x.1.1.1.1.1.2 x.1.1.1.1.2.toNat x.1.1.1.2.toNat x.1.1.2.toNat x.1.2.toNat x.2
def msgP (s : ByteArray) : Option (MsgD × Nat) := (hd6P s).bind (msgF s)
theorem inR16 {v : Int} (h : 0 ≤ v ∧ v < 256 ^ 2) : inR v 65535 = true := by
  have h2 : v ≤ 65535 := by have := h.2; omega
  simp [inR, h.1, h2]
theorem own_set {w : World} {B n size q : Nat} {e : TypeId} {v : Value} {xs : List Value} (h : w.ownsRow B e size v n xs) (hq : q < B) (i : Nat) (u : Value) : (w.setCell ⟨q, i, none⟩ u).ownsRow B e size v n xs :=
  own_apart7 h (grown_cell w q i u) (fun k hk e => by injection e with e; have := (h.lt k hk).1; omega)

set_option maxRecDepth 100000 in
set_option maxHeartbeats 16000000 in
theorem message_r (q : Nat) (s : ByteArray) (w : World) (h : RdS w q s 0 0) (hs : s.size ≤ 20000) :
    Calls Try.prog 27 #[.pointer (some ⟨q, 0, none⟩)] w fun en w' => ∃ (M : MsgD) (qv av nv xv : Value) (a' : Nat) (e' : Int), en = .returned (.agg (msgC M.h qv av nv xv)) ∧ RowsM w' w.heap.size M qv av nv xv ∧ SzMD M ∧ RdS w' q s a' e' ∧ w.grownBy w' (some q) ∧ Stp s (msgP s) 0 M a' e' := by
  have hba := (Below.refl w.heap.size w).alloc (Nat.le_refl _) (.cells #[.int .i64 0, .int .i64 0, .int .i64 0, .bool false, .bool false, .bool false, .bool false, .bool false, .slice none 0 0, .slice none 0 0, .slice none 0 0, .slice none 0 0] 37)
  have HC := Lib.hid (CN.new w #[.int .i64 0, .int .i64 0, .int .i64 0, .bool false, .bool false, .bool false, .bool false, .bool false, .slice none 0 0, .slice none 0 0, .slice none 0 0, .slice none 0 0] 37)
  have HR := Lib.hid (h.below hba)
  have HG := Lib.hid (below_grown hba (some q))
  have HNE := Lib.hid (show q < w.heap.size from h.1.1)
  have HS := Lib.hid hs
  have HA0 := Lib.hid (Nat.zero_le s.size)
  obtain ⟨w1, hw1⟩ : ∃ x, w.alloc (.cells #[.int .i64 0, .int .i64 0, .int .i64 0, .bool false, .bool false, .bool false, .bool false, .bool false, .slice none 0 0, .slice none 0 0, .slice none 0 0, .slice none 0 0] 37) = x := ⟨_, rfl⟩
  obtain ⟨q2, hq2⟩ : ∃ x, w.heap.size = x := ⟨_, rfl⟩
  rw [hw1] at HC HR HG
  rw [hq2] at HC HNE
  have HQL := Lib.hid HC.out.1
  have HW := Lib.hid hw1
  have HQ := Lib.hid hq2
  clear h hs hba hw1 hq2
  go_enter Try.func27, Try.ntmps27
  go_wp2_with fail
  rw [HW.out, HQ.out]
  clear HW
  refine (number_any q s 0 2 0 _ HR.out HA0.out HS.out (by decide)).mono ?_; rintro en w2 ⟨vi, a1, e1, rfl, hz, hr, hg, hst⟩
  replace HC := Lib.hid (HC.out.grown hg (fun e => by injection e with e; have := HNE.out; omega))
  replace HG := Lib.hid (HG.out.trans hg)
  replace HR := Lib.hid hr
  have HZ1 := Lib.hid hz
  have HST1 := Lib.hid hst
  have HA1 := Lib.hid hst.1
  clear hz hr hg hst
  go_wp2_with fail
  refine (number_any q s a1 2 e1 _ HR.out HA1.out HS.out (by decide)).mono ?_; rintro en w3 ⟨vf, a2, e2, rfl, hz, hr, hg, hst⟩
  replace HC := Lib.hid (HC.out.grown hg (fun e => by injection e with e; have := HNE.out; omega))
  replace HG := Lib.hid (HG.out.trans hg)
  replace HR := Lib.hid hr
  have HZ2 := Lib.hid hz
  have HST2 := Lib.hid hst
  have HA2 := Lib.hid hst.1
  clear hz hr hg hst
  go_wp2_with fail
  refine (number_any q s a2 2 e2 _ HR.out HA2.out HS.out (by decide)).mono ?_; rintro en w4 ⟨vq, a3, e3, rfl, hz, hr, hg, hst⟩
  replace HC := Lib.hid (HC.out.grown hg (fun e => by injection e with e; have := HNE.out; omega))
  replace HG := Lib.hid (HG.out.trans hg)
  replace HR := Lib.hid hr
  have HZ3 := Lib.hid hz
  have HST3 := Lib.hid hst
  have HA3 := Lib.hid hst.1
  clear hz hr hg hst
  go_wp2_with fail
  refine (number_any q s a3 2 e3 _ HR.out HA3.out HS.out (by decide)).mono ?_; rintro en w5 ⟨va, a4, e4, rfl, hz, hr, hg, hst⟩
  replace HC := Lib.hid (HC.out.grown hg (fun e => by injection e with e; have := HNE.out; omega))
  replace HG := Lib.hid (HG.out.trans hg)
  replace HR := Lib.hid hr
  have HZ4 := Lib.hid hz
  have HST4 := Lib.hid hst
  have HA4 := Lib.hid hst.1
  clear hz hr hg hst
  go_wp2_with fail
  refine (number_any q s a4 2 e4 _ HR.out HA4.out HS.out (by decide)).mono ?_; rintro en w6 ⟨vn, a5, e5, rfl, hz, hr, hg, hst⟩
  replace HC := Lib.hid (HC.out.grown hg (fun e => by injection e with e; have := HNE.out; omega))
  replace HG := Lib.hid (HG.out.trans hg)
  replace HR := Lib.hid hr
  have HZ5 := Lib.hid hz
  have HST5 := Lib.hid hst
  have HA5 := Lib.hid hst.1
  clear hz hr hg hst
  go_wp2_with fail
  refine (number_any q s a5 2 e5 _ HR.out HA5.out HS.out (by decide)).mono ?_; rintro en w7 ⟨vx, a6, e6, rfl, hz, hr, hg, hst⟩
  replace HC := Lib.hid (HC.out.grown hg (fun e => by injection e with e; have := HNE.out; omega))
  replace HG := Lib.hid (HG.out.trans hg)
  replace HR := Lib.hid hr
  have HZ6 := Lib.hid hz
  have HST6 := Lib.hid hst
  have HA6 := Lib.hid hst.1
  clear hz hr hg hst
  obtain ⟨nq, rfl⟩ : ∃ z : Nat, vq = (z : Int) := ⟨vq.toNat, by have := HZ3.out.1; omega⟩
  have hnq : nq < 65536 := by have := HZ3.out.2; omega
  obtain ⟨na, rfl⟩ : ∃ z : Nat, va = (z : Int) := ⟨va.toNat, by have := HZ4.out.1; omega⟩
  have hna : na < 65536 := by have := HZ4.out.2; omega
  obtain ⟨nn, rfl⟩ : ∃ z : Nat, vn = (z : Int) := ⟨vn.toNat, by have := HZ5.out.1; omega⟩
  have hnn : nn < 65536 := by have := HZ5.out.2; omega
  obtain ⟨nx, rfl⟩ : ∃ z : Nat, vx = (z : Int) := ⟨vx.toNat, by have := HZ6.out.1; omega⟩
  have hnx : nx < 65536 := by have := HZ6.out.2; omega
  have HH := Lib.hid (show Stp s (hd6P s) 0 (((((vi, vf), (nq : Int)), (na : Int)), (nn : Int)), (nx : Int)) a6 e6 from Stp.seq Prod.mk (Stp.seq Prod.mk (Stp.seq Prod.mk (Stp.seq Prod.mk (Stp.seq Prod.mk HST1.out HST2.out) HST3.out) HST4.out) HST5.out) HST6.out)
  have HI1 := Lib.hid (inR16 HZ1.out)
  have HI2 := Lib.hid (inR16 HZ2.out)
  clear HST1 HST2 HST3 HST4 HST5 HST6 HZ1 HZ2 HZ3 HZ4 HZ5 HZ6
  have hba := (Below.refl w7.heap.size w7).alloc (Nat.le_refl _) (.cells #[.int .i64 (nq : Int), .int .i64 (na : Int), .int .i64 (nn : Int), .int .i64 (nx : Int)] 101)
  have HX := Lib.hid (CN.new w7 #[.int .i64 (nq : Int), .int .i64 (na : Int), .int .i64 (nn : Int), .int .i64 (nx : Int)] 101)
  replace HR := Lib.hid (HR.out.below hba)
  have HQ5 := Lib.hid HC.out.1
  have HB5 := Lib.hid HG.out.size
  replace HG := Lib.hid (HG.out.trans (below_grown hba (some q)))
  replace HC := Lib.hid (HC.out.below hba)
  obtain ⟨w8, hw⟩ : ∃ x, w7.alloc (.cells #[.int .i64 (nq : Int), .int .i64 (na : Int), .int .i64 (nn : Int), .int .i64 (nx : Int)] 101) = x := ⟨_, rfl⟩
  obtain ⟨q5, hq5⟩ : ∃ x, w7.heap.size = x := ⟨_, rfl⟩
  rw [hw] at HX HR HG HC
  rw [hq5] at HX HQ5 HB5
  have HW := Lib.hid hw
  have HQ3 := Lib.hid hq5
  have HL5 := Lib.hid HX.out.1
  clear hba hw hq5
  go_upto_region 3 with (fail)
  rw [HW.out, HQ3.out]
  clear HW HQ3
  obtain ⟨x0, x1, x2, x3⟩ : w8.cell? ⟨q5, 0, none⟩ = some (.int .i64 (nq : Int)) ∧ w8.cell? ⟨q5, 1, none⟩ = some (.int .i64 (na : Int)) ∧ w8.cell? ⟨q5, 2, none⟩ = some (.int .i64 (nn : Int)) ∧ w8.cell? ⟨q5, 3, none⟩ = some (.int .i64 (nx : Int)) := ⟨(HX.out.2 0 _ rfl).1, (HX.out.2 1 _ rfl).1, (HX.out.2 2 _ rfl).1, (HX.out.2 3 _ rfl).1⟩
  by_cases g1 : 300 < nq + na + nn + nx
  · have d1 := dT g1
    have d1i : decide ((300 : Int) < (nq : Int) + (na : Int) + (nn : Int) + (nx : Int)) = true := dT (by omega)
    have HLK := Lib.hid g1
    clear g1
    go_wp2_with fail
    refine (fail_any q s a6 e6 13 _ HR.out).mono ?_; rintro en w9 ⟨rfl, hr, hg⟩
    replace HC := Lib.hid (HC.out.grown hg (fun e => by injection e with e; have := HNE.out; omega))
    replace HG := Lib.hid (HG.out.trans hg)
    replace HR := Lib.hid hr
    clear hr hg
    have HE0 := Lib.hid (show (if e6 = 0 then (13 : Int) else e6) ≠ 0 by split <;> omega)
    obtain ⟨e7, he7⟩ : ∃ x, (if e6 = 0 then (13 : Int) else e6) = x := ⟨_, rfl⟩
    rw [he7] at HE0 HR
    clear he7
    have d2 := nT HE0.out
    obtain ⟨c0, c1, c2, f1, f2⟩ := HR.out.cells
    clear x0 x1 x2 x3
    obtain ⟨y0, y1, y2, y3, y4, y5, y6, y7, y8, y9, y10, y11, g0, g1, g2, g3, g4, g5, g6, g7, g8, g9, g10, g11⟩ := HC.out.u12
    have HCZ := Lib.hid (HC.out.s12 (.int .i64 0) (.int .i64 0) (.int .i64 0) (.bool false) (.bool false) (.bool false) (.bool false) (.bool false) (.slice none 0 0) (.slice none 0 0) (.slice none 0 0) (.slice none 0 0))
    have HGZ := Lib.hid (grown_s12 w9 q2 (.int .i64 0) (.int .i64 0) (.int .i64 0) (.bool false) (.bool false) (.bool false) (.bool false) (.bool false) (.slice none 0 0) (.slice none 0 0) (.slice none 0 0) (.slice none 0 0))
    have HRZ := Lib.hid (show RdS ((((((((((((w9.setCell ⟨q2, 0, none⟩ (.int .i64 0)).setCell ⟨q2, 1, none⟩ (.int .i64 0)).setCell ⟨q2, 2, none⟩ (.int .i64 0)).setCell ⟨q2, 3, none⟩ (.bool false)).setCell ⟨q2, 4, none⟩ (.bool false)).setCell ⟨q2, 5, none⟩ (.bool false)).setCell ⟨q2, 6, none⟩ (.bool false)).setCell ⟨q2, 7, none⟩ (.bool false)).setCell ⟨q2, 8, none⟩ (.slice none 0 0)).setCell ⟨q2, 9, none⟩ (.slice none 0 0)).setCell ⟨q2, 10, none⟩ (.slice none 0 0)).setCell ⟨q2, 11, none⟩ (.slice none 0 0)) q s a6 e7 from ⟨HR.out.1.grown HGZ.out (fun e => by injection e with e; have := HNE.out; omega), HR.out.2.grown HGZ.out (fun e => by injection e with e; have := HNE.out; omega)⟩)
    have HGA := Lib.hid (HG.out.andThen HGZ.out (fun j hj => by injection hj with hj; rw [HQ.out]; omega))
    have HRW := Lib.hid (rowsM0 ((((((((((((w9.setCell ⟨q2, 0, none⟩ (.int .i64 0)).setCell ⟨q2, 1, none⟩ (.int .i64 0)).setCell ⟨q2, 2, none⟩ (.int .i64 0)).setCell ⟨q2, 3, none⟩ (.bool false)).setCell ⟨q2, 4, none⟩ (.bool false)).setCell ⟨q2, 5, none⟩ (.bool false)).setCell ⟨q2, 6, none⟩ (.bool false)).setCell ⟨q2, 7, none⟩ (.bool false)).setCell ⟨q2, 8, none⟩ (.slice none 0 0)).setCell ⟨q2, 9, none⟩ (.slice none 0 0)).setCell ⟨q2, 10, none⟩ (.slice none 0 0)).setCell ⟨q2, 11, none⟩ (.slice none 0 0)) w.heap.size)
    go_wp2
    obtain ⟨wq, hwq⟩ : ∃ x, ((((((((((((w9.setCell ⟨q2, 0, none⟩ (.int .i64 0)).setCell ⟨q2, 1, none⟩ (.int .i64 0)).setCell ⟨q2, 2, none⟩ (.int .i64 0)).setCell ⟨q2, 3, none⟩ (.bool false)).setCell ⟨q2, 4, none⟩ (.bool false)).setCell ⟨q2, 5, none⟩ (.bool false)).setCell ⟨q2, 6, none⟩ (.bool false)).setCell ⟨q2, 7, none⟩ (.bool false)).setCell ⟨q2, 8, none⟩ (.slice none 0 0)).setCell ⟨q2, 9, none⟩ (.slice none 0 0)).setCell ⟨q2, 10, none⟩ (.slice none 0 0)).setCell ⟨q2, 11, none⟩ (.slice none 0 0)) = x := ⟨_, rfl⟩
    rw [hwq] at HCZ HRZ HGA HRW ⊢
    clear hwq HGZ y0 y1 y2 y3 y4 y5 y6 y7 y8 y9 y10 y11 g0 g1 g2 g3 g4 g5 g6 g7 g8 g9 g10 g11
    obtain ⟨z0, z1, z2, z3, z4, z5, z6, z7, z8, z9, z10, z11, _⟩ := HCZ.out.u12
    refine bodyPost_ret (v := .agg #[.int .i64 0, .int .i64 0, .int .i64 0, .bool false, .bool false, .bool false, .bool false, .bool false, .slice none 0 0, .slice none 0 0, .slice none 0 0, .slice none 0 0]) (by simp [results, Try.results27, go_sem, z0, z1, z2, z3, z4, z5, z6, z7, z8, z9, z10, z11]) rfl ⟨msg0, .slice none 0 0, .slice none 0 0, .slice none 0 0, .slice none 0 0, a6, e7, rfl, HRW.out, szM0, HRZ.out, HGA.out, HH.out.fail HE0.out (fun _ => by simp only [msgF, Int.toNat_natCast]; exact if_pos HLK.out) HA6.out⟩
  · have d1 := dF g1
    have d1i : decide ((300 : Int) < (nq : Int) + (na : Int) + (nn : Int) + (nx : Int)) = false := dF (by omega)
    have HLK := Lib.hid g1
    clear g1
    obtain ⟨c0, c1, c2, f1, f2⟩ := HR.out.cells
    by_cases h6 : e6 = 0
    · have d2 := nF h6
      have HE6 := Lib.hid h6
      clear h6
      have hba := (Below.refl w8.heap.size w8).alloc (Nat.le_refl _) (.cells #[.int .i64 0, .int .i64 0, .int .i64 0, .bool false, .bool false, .bool false, .bool false, .bool false, .slice none 0 0, .slice none 0 0, .slice none 0 0, .slice none 0 0] 37)
      have HM := Lib.hid (CN.new w8 #[.int .i64 0, .int .i64 0, .int .i64 0, .bool false, .bool false, .bool false, .bool false, .bool false, .slice none 0 0, .slice none 0 0, .slice none 0 0, .slice none 0 0] 37)
      replace HR := Lib.hid (HR.out.below hba)
      have HQ6 := Lib.hid HX.out.1
      have HC6 := Lib.hid HC.out.1
      have HB6 := Lib.hid HG.out.size
      replace HG := Lib.hid (HG.out.trans (below_grown hba (some q)))
      replace HC := Lib.hid (HC.out.below hba)
      replace HX := Lib.hid (HX.out.below hba)
      obtain ⟨w9, hw⟩ : ∃ x, w8.alloc (.cells #[.int .i64 0, .int .i64 0, .int .i64 0, .bool false, .bool false, .bool false, .bool false, .bool false, .slice none 0 0, .slice none 0 0, .slice none 0 0, .slice none 0 0] 37) = x := ⟨_, rfl⟩
      obtain ⟨q6, hq6⟩ : ∃ x, w8.heap.size = x := ⟨_, rfl⟩
      rw [hw] at HX HR HG HC HM
      rw [hq6] at HM HQ6 HB6 HC6
      have HW := Lib.hid hw
      have HQ3 := Lib.hid hq6
      have HL6 := Lib.hid HM.out.1
      clear hba hw hq6
      go_upto_region 8 with (fail)
      rw [HW.out, HQ3.out]
      clear HW HQ3
      go_wp2_with fail
      refine (unflag_yes vi vf _ HI1.out HI2.out).mono ?_; rintro en w10 ⟨rfl, hb⟩
      replace HC := Lib.hid (HC.out.below hb)
      replace HX := Lib.hid (HX.out.below hb)
      replace HM := Lib.hid (HM.out.below hb)
      replace HR := Lib.hid (HR.out.below hb)
      replace HG := Lib.hid (HG.out.trans (below_grown hb (some q)))
      clear hb
      obtain ⟨⟨h0, h1, h2, b1, b2, b3, b4, b5⟩, hH⟩ : ∃ x, unH vi vf = x := ⟨_, rfl⟩
      have HH8 := Lib.hid hH
      injection hH with j0 j1 j2 j3 j4 j5 j6 j7
      rw [j1, j2, j3, j4, j5, j6, j7]
      clear j0
      clear j1 j2 j3 j4 j5 j6 j7
      obtain ⟨y0, y1, y2, y3, y4, y5, y6, y7, y8, y9, y10, y11, g0, g1, g2, g3, g4, g5, g6, g7, g8, g9, g10, g11⟩ := HM.out.u12
      replace HM := Lib.hid (show CN ((((((((w10.setCell ⟨q6, 0, none⟩ (.int .i64 vi)).setCell ⟨q6, 1, none⟩ (.int .i64 h1)).setCell ⟨q6, 2, none⟩ (.int .i64 h2)).setCell ⟨q6, 3, none⟩ (.bool b1)).setCell ⟨q6, 4, none⟩ (.bool b2)).setCell ⟨q6, 5, none⟩ (.bool b3)).setCell ⟨q6, 6, none⟩ (.bool b4)).setCell ⟨q6, 7, none⟩ (.bool b5)) q6 [.int .i64 vi, .int .i64 h1, .int .i64 h2, .bool b1, .bool b2, .bool b3, .bool b4, .bool b5, .slice none 0 0, .slice none 0 0, .slice none 0 0, .slice none 0 0] from ((((((((HM.out.set 0 (by simp) (.int .i64 vi)).set 1 (by simp) (.int .i64 h1)).set 2 (by simp) (.int .i64 h2)).set 3 (by simp) (.bool b1)).set 4 (by simp) (.bool b2)).set 5 (by simp) (.bool b3)).set 6 (by simp) (.bool b4)).set 7 (by simp) (.bool b5)))
      have hg := ((((((((grown_cell w10 q6 0 (.int .i64 vi)).trans (grown_cell (w10.setCell ⟨q6, 0, none⟩ (.int .i64 vi)) q6 1 (.int .i64 h1))).trans (grown_cell ((w10.setCell ⟨q6, 0, none⟩ (.int .i64 vi)).setCell ⟨q6, 1, none⟩ (.int .i64 h1)) q6 2 (.int .i64 h2))).trans (grown_cell (((w10.setCell ⟨q6, 0, none⟩ (.int .i64 vi)).setCell ⟨q6, 1, none⟩ (.int .i64 h1)).setCell ⟨q6, 2, none⟩ (.int .i64 h2)) q6 3 (.bool b1))).trans (grown_cell ((((w10.setCell ⟨q6, 0, none⟩ (.int .i64 vi)).setCell ⟨q6, 1, none⟩ (.int .i64 h1)).setCell ⟨q6, 2, none⟩ (.int .i64 h2)).setCell ⟨q6, 3, none⟩ (.bool b1)) q6 4 (.bool b2))).trans (grown_cell (((((w10.setCell ⟨q6, 0, none⟩ (.int .i64 vi)).setCell ⟨q6, 1, none⟩ (.int .i64 h1)).setCell ⟨q6, 2, none⟩ (.int .i64 h2)).setCell ⟨q6, 3, none⟩ (.bool b1)).setCell ⟨q6, 4, none⟩ (.bool b2)) q6 5 (.bool b3))).trans (grown_cell ((((((w10.setCell ⟨q6, 0, none⟩ (.int .i64 vi)).setCell ⟨q6, 1, none⟩ (.int .i64 h1)).setCell ⟨q6, 2, none⟩ (.int .i64 h2)).setCell ⟨q6, 3, none⟩ (.bool b1)).setCell ⟨q6, 4, none⟩ (.bool b2)).setCell ⟨q6, 5, none⟩ (.bool b3)) q6 6 (.bool b4))).trans (grown_cell (((((((w10.setCell ⟨q6, 0, none⟩ (.int .i64 vi)).setCell ⟨q6, 1, none⟩ (.int .i64 h1)).setCell ⟨q6, 2, none⟩ (.int .i64 h2)).setCell ⟨q6, 3, none⟩ (.bool b1)).setCell ⟨q6, 4, none⟩ (.bool b2)).setCell ⟨q6, 5, none⟩ (.bool b3)).setCell ⟨q6, 6, none⟩ (.bool b4)) q6 7 (.bool b5)))
      replace HC := Lib.hid (HC.out.grown hg (fun e => by injection e with e; have := HC6.out; omega))
      replace HX := Lib.hid (HX.out.grown hg (fun e => by injection e with e; have := HQ6.out; omega))
      replace HR := Lib.hid (show RdS ((((((((w10.setCell ⟨q6, 0, none⟩ (.int .i64 vi)).setCell ⟨q6, 1, none⟩ (.int .i64 h1)).setCell ⟨q6, 2, none⟩ (.int .i64 h2)).setCell ⟨q6, 3, none⟩ (.bool b1)).setCell ⟨q6, 4, none⟩ (.bool b2)).setCell ⟨q6, 5, none⟩ (.bool b3)).setCell ⟨q6, 6, none⟩ (.bool b4)).setCell ⟨q6, 7, none⟩ (.bool b5)) q s a6 e6 from ⟨HR.out.1.grown hg (fun e => by injection e with e; have := HNE.out; have := HC6.out; omega), HR.out.2.grown hg (fun e => by injection e with e; have := HNE.out; have := HC6.out; omega)⟩)
      replace HG := Lib.hid (HG.out.andThen hg (fun j hj => by injection hj with hj; rw [← hj]; exact Or.inl HB6.out))
      clear hg
      go_upto_region 9 with (fail)
      clear c0 c1 c2 f1 f2 x0 x1 x2 x3 d1 d2 d1i y0 y1 y2 y3 y4 y5 y6 y7 y8 y9 y10 y11 g0 g1 g2 g3 g4 g5 g6 g7 g8 g9 g10 g11
      obtain ⟨w11, hw11⟩ : ∃ x, ((((((((w10.setCell ⟨q6, 0, none⟩ (.int .i64 vi)).setCell ⟨q6, 1, none⟩ (.int .i64 h1)).setCell ⟨q6, 2, none⟩ (.int .i64 h2)).setCell ⟨q6, 3, none⟩ (.bool b1)).setCell ⟨q6, 4, none⟩ (.bool b2)).setCell ⟨q6, 5, none⟩ (.bool b3)).setCell ⟨q6, 6, none⟩ (.bool b4)).setCell ⟨q6, 7, none⟩ (.bool b5)) = x := ⟨_, rfl⟩
      rw [hw11] at HC HX HM HR HG ⊢
      clear hw11
      obtain ⟨x0, x1, x2, x3⟩ : w11.cell? ⟨q5, 0, none⟩ = some (.int .i64 (nq : Int)) ∧ w11.cell? ⟨q5, 1, none⟩ = some (.int .i64 (na : Int)) ∧ w11.cell? ⟨q5, 2, none⟩ = some (.int .i64 (nn : Int)) ∧ w11.cell? ⟨q5, 3, none⟩ = some (.int .i64 (nx : Int)) := ⟨(HX.out.2 0 _ rfl).1, (HX.out.2 1 _ rfl).1, (HX.out.2 2 _ rfl).1, (HX.out.2 3 _ rfl).1⟩
      have HBW0 := Lib.hid (show q6 < w11.heap.size from HM.out.1)
      go_wp2_with fail
      refine (questions_r q s a6 nq e6 _ HR.out HA6.out HS.out (by omega)).mono ?_; rintro en w12 ⟨qv, Q, a7, e7, rfl, hown, hsz, hr, hg, hst⟩
      obtain ⟨lQ, hl⟩ : ∃ x, Q.length = x := ⟨_, rfl⟩
      rw [hl] at hown
      obtain ⟨pQ, cQ, rfl, -⟩ := cellsK_own hown
      have HLQ := Lib.hid hl
      clear hl
      have HOQ := Lib.hid (own_mono4 hown (show q6 + 1 ≤ w11.heap.size from HBW0.out))
      replace HM := Lib.hid (HM.out.grown hg (fun e => by injection e with e; have := HNE.out; have := HC6.out; omega))
      replace HC := Lib.hid (HC.out.grown hg (fun e => by injection e with e; have := HNE.out; omega))
      replace HX := Lib.hid (HX.out.grown hg (fun e => by injection e with e; have := HNE.out; have := HQ5.out; omega))
      replace HG := Lib.hid (HG.out.trans hg)
      replace HR := Lib.hid hr
      have HSZQ := Lib.hid hsz
      have HSTQ := Lib.hid hst
      have HA7 := Lib.hid hst.1
      clear hown hsz hr hg hst x0 x1 x2 x3
      obtain ⟨y0, y1, y2, y3, y4, y5, y6, y7, y8, y9, y10, y11, g0, g1, g2, g3, g4, g5, g6, g7, g8, g9, g10, g11⟩ := HM.out.u12
      replace HM := Lib.hid (show CN (w12.setCell ⟨q6, 8, none⟩ (.slice pQ lQ cQ)) q6 [.int .i64 vi, .int .i64 h1, .int .i64 h2, .bool b1, .bool b2, .bool b3, .bool b4, .bool b5, .slice pQ lQ cQ, .slice none 0 0, .slice none 0 0, .slice none 0 0] from HM.out.set 8 (by simp) (.slice pQ lQ cQ))
      have hg := grown_cell w12 q6 8 (.slice pQ lQ cQ)
      replace HOQ := Lib.hid (own_set HOQ.out (Nat.lt_succ_self q6) 8 (.slice pQ lQ cQ))
      replace HC := Lib.hid (HC.out.grown hg (fun e => by injection e with e; have := HC6.out; omega))
      replace HX := Lib.hid (HX.out.grown hg (fun e => by injection e with e; have := HQ6.out; omega))
      replace HR := Lib.hid (show RdS (w12.setCell ⟨q6, 8, none⟩ (.slice pQ lQ cQ)) q s a7 e7 from ⟨HR.out.1.grown hg (fun e => by injection e with e; have := HNE.out; have := HC6.out; omega), HR.out.2.grown hg (fun e => by injection e with e; have := HNE.out; have := HC6.out; omega)⟩)
      replace HG := Lib.hid (HG.out.andThen hg (fun j hj => by injection hj with hj; rw [← hj]; exact Or.inl HB6.out))
      clear hg
      go_upto_region 10 with (fail)
      clear y0 y1 y2 y3 y4 y5 y6 y7 y8 y9 y10 y11 g0 g1 g2 g3 g4 g5 g6 g7 g8 g9 g10 g11
      obtain ⟨w13, hww⟩ : ∃ x, w12.setCell ⟨q6, 8, none⟩ (.slice pQ lQ cQ) = x := ⟨_, rfl⟩
      rw [hww] at HC HX HM HR HG HOQ ⊢
      clear hww
      obtain ⟨x0, x1, x2, x3⟩ : w13.cell? ⟨q5, 0, none⟩ = some (.int .i64 (nq : Int)) ∧ w13.cell? ⟨q5, 1, none⟩ = some (.int .i64 (na : Int)) ∧ w13.cell? ⟨q5, 2, none⟩ = some (.int .i64 (nn : Int)) ∧ w13.cell? ⟨q5, 3, none⟩ = some (.int .i64 (nx : Int)) := ⟨(HX.out.2 0 _ rfl).1, (HX.out.2 1 _ rfl).1, (HX.out.2 2 _ rfl).1, (HX.out.2 3 _ rfl).1⟩
      have HBW1 := Lib.hid (show q6 < w13.heap.size from HM.out.1)
      go_wp2_with fail
      refine (records_r q s a7 na false e7 _ HR.out HA7.out HS.out (by omega)).mono ?_; rintro en w14 ⟨av, A, a8, e8, rfl, hown, hsz, hr, hg, hst⟩
      obtain ⟨lA, hl⟩ : ∃ x, A.length = x := ⟨_, rfl⟩
      rw [hl] at hown
      obtain ⟨pA, cA, rfl, -⟩ := cellsK_own hown
      have HLA := Lib.hid hl
      clear hl
      replace HOQ := Lib.hid (own_keeps HOQ.out HR.out.2 (by decide) hg)
      have HOA := Lib.hid (own_mono4 hown (show q6 + 1 ≤ w13.heap.size from HBW1.out))
      replace HM := Lib.hid (HM.out.grown hg (fun e => by injection e with e; have := HNE.out; have := HC6.out; omega))
      replace HC := Lib.hid (HC.out.grown hg (fun e => by injection e with e; have := HNE.out; omega))
      replace HX := Lib.hid (HX.out.grown hg (fun e => by injection e with e; have := HNE.out; have := HQ5.out; omega))
      replace HG := Lib.hid (HG.out.trans hg)
      replace HR := Lib.hid hr
      have HSZA := Lib.hid hsz
      have HSTA := Lib.hid hst
      have HA8 := Lib.hid hst.1
      clear hown hsz hr hg hst x0 x1 x2 x3
      obtain ⟨y0, y1, y2, y3, y4, y5, y6, y7, y8, y9, y10, y11, g0, g1, g2, g3, g4, g5, g6, g7, g8, g9, g10, g11⟩ := HM.out.u12
      replace HM := Lib.hid (show CN (w14.setCell ⟨q6, 9, none⟩ (.slice pA lA cA)) q6 [.int .i64 vi, .int .i64 h1, .int .i64 h2, .bool b1, .bool b2, .bool b3, .bool b4, .bool b5, .slice pQ lQ cQ, .slice pA lA cA, .slice none 0 0, .slice none 0 0] from HM.out.set 9 (by simp) (.slice pA lA cA))
      have hg := grown_cell w14 q6 9 (.slice pA lA cA)
      replace HOQ := Lib.hid (own_set HOQ.out (Nat.lt_succ_self q6) 9 (.slice pA lA cA))
      replace HOA := Lib.hid (own_set HOA.out (Nat.lt_succ_self q6) 9 (.slice pA lA cA))
      replace HC := Lib.hid (HC.out.grown hg (fun e => by injection e with e; have := HC6.out; omega))
      replace HX := Lib.hid (HX.out.grown hg (fun e => by injection e with e; have := HQ6.out; omega))
      replace HR := Lib.hid (show RdS (w14.setCell ⟨q6, 9, none⟩ (.slice pA lA cA)) q s a8 e8 from ⟨HR.out.1.grown hg (fun e => by injection e with e; have := HNE.out; have := HC6.out; omega), HR.out.2.grown hg (fun e => by injection e with e; have := HNE.out; have := HC6.out; omega)⟩)
      replace HG := Lib.hid (HG.out.andThen hg (fun j hj => by injection hj with hj; rw [← hj]; exact Or.inl HB6.out))
      clear hg
      go_upto_region 11 with (fail)
      clear y0 y1 y2 y3 y4 y5 y6 y7 y8 y9 y10 y11 g0 g1 g2 g3 g4 g5 g6 g7 g8 g9 g10 g11
      obtain ⟨w15, hww⟩ : ∃ x, w14.setCell ⟨q6, 9, none⟩ (.slice pA lA cA) = x := ⟨_, rfl⟩
      rw [hww] at HC HX HM HR HG HOQ HOA ⊢
      clear hww
      obtain ⟨x0, x1, x2, x3⟩ : w15.cell? ⟨q5, 0, none⟩ = some (.int .i64 (nq : Int)) ∧ w15.cell? ⟨q5, 1, none⟩ = some (.int .i64 (na : Int)) ∧ w15.cell? ⟨q5, 2, none⟩ = some (.int .i64 (nn : Int)) ∧ w15.cell? ⟨q5, 3, none⟩ = some (.int .i64 (nx : Int)) := ⟨(HX.out.2 0 _ rfl).1, (HX.out.2 1 _ rfl).1, (HX.out.2 2 _ rfl).1, (HX.out.2 3 _ rfl).1⟩
      have HBW2 := Lib.hid (show q6 < w15.heap.size from HM.out.1)
      go_wp2_with fail
      refine (records_r q s a8 nn false e8 _ HR.out HA8.out HS.out (by omega)).mono ?_; rintro en w16 ⟨nv, N, a9, e9, rfl, hown, hsz, hr, hg, hst⟩
      obtain ⟨lN, hl⟩ : ∃ x, N.length = x := ⟨_, rfl⟩
      rw [hl] at hown
      obtain ⟨pN, cN, rfl, -⟩ := cellsK_own hown
      have HLN := Lib.hid hl
      clear hl
      replace HOQ := Lib.hid (own_keeps HOQ.out HR.out.2 (by decide) hg)
      replace HOA := Lib.hid (own_keeps HOA.out HR.out.2 (by decide) hg)
      have HON := Lib.hid (own_mono4 hown (show q6 + 1 ≤ w15.heap.size from HBW2.out))
      replace HM := Lib.hid (HM.out.grown hg (fun e => by injection e with e; have := HNE.out; have := HC6.out; omega))
      replace HC := Lib.hid (HC.out.grown hg (fun e => by injection e with e; have := HNE.out; omega))
      replace HX := Lib.hid (HX.out.grown hg (fun e => by injection e with e; have := HNE.out; have := HQ5.out; omega))
      replace HG := Lib.hid (HG.out.trans hg)
      replace HR := Lib.hid hr
      have HSZN := Lib.hid hsz
      have HSTN := Lib.hid hst
      have HA9 := Lib.hid hst.1
      clear hown hsz hr hg hst x0 x1 x2 x3
      obtain ⟨y0, y1, y2, y3, y4, y5, y6, y7, y8, y9, y10, y11, g0, g1, g2, g3, g4, g5, g6, g7, g8, g9, g10, g11⟩ := HM.out.u12
      replace HM := Lib.hid (show CN (w16.setCell ⟨q6, 10, none⟩ (.slice pN lN cN)) q6 [.int .i64 vi, .int .i64 h1, .int .i64 h2, .bool b1, .bool b2, .bool b3, .bool b4, .bool b5, .slice pQ lQ cQ, .slice pA lA cA, .slice pN lN cN, .slice none 0 0] from HM.out.set 10 (by simp) (.slice pN lN cN))
      have hg := grown_cell w16 q6 10 (.slice pN lN cN)
      replace HOQ := Lib.hid (own_set HOQ.out (Nat.lt_succ_self q6) 10 (.slice pN lN cN))
      replace HOA := Lib.hid (own_set HOA.out (Nat.lt_succ_self q6) 10 (.slice pN lN cN))
      replace HON := Lib.hid (own_set HON.out (Nat.lt_succ_self q6) 10 (.slice pN lN cN))
      replace HC := Lib.hid (HC.out.grown hg (fun e => by injection e with e; have := HC6.out; omega))
      replace HX := Lib.hid (HX.out.grown hg (fun e => by injection e with e; have := HQ6.out; omega))
      replace HR := Lib.hid (show RdS (w16.setCell ⟨q6, 10, none⟩ (.slice pN lN cN)) q s a9 e9 from ⟨HR.out.1.grown hg (fun e => by injection e with e; have := HNE.out; have := HC6.out; omega), HR.out.2.grown hg (fun e => by injection e with e; have := HNE.out; have := HC6.out; omega)⟩)
      replace HG := Lib.hid (HG.out.andThen hg (fun j hj => by injection hj with hj; rw [← hj]; exact Or.inl HB6.out))
      clear hg
      go_upto_region 12 with (fail)
      clear y0 y1 y2 y3 y4 y5 y6 y7 y8 y9 y10 y11 g0 g1 g2 g3 g4 g5 g6 g7 g8 g9 g10 g11
      obtain ⟨w17, hww⟩ : ∃ x, w16.setCell ⟨q6, 10, none⟩ (.slice pN lN cN) = x := ⟨_, rfl⟩
      rw [hww] at HC HX HM HR HG HOQ HOA HON ⊢
      clear hww
      obtain ⟨x0, x1, x2, x3⟩ : w17.cell? ⟨q5, 0, none⟩ = some (.int .i64 (nq : Int)) ∧ w17.cell? ⟨q5, 1, none⟩ = some (.int .i64 (na : Int)) ∧ w17.cell? ⟨q5, 2, none⟩ = some (.int .i64 (nn : Int)) ∧ w17.cell? ⟨q5, 3, none⟩ = some (.int .i64 (nx : Int)) := ⟨(HX.out.2 0 _ rfl).1, (HX.out.2 1 _ rfl).1, (HX.out.2 2 _ rfl).1, (HX.out.2 3 _ rfl).1⟩
      have HBW3 := Lib.hid (show q6 < w17.heap.size from HM.out.1)
      go_wp2_with fail
      refine (records_r q s a9 nx true e9 _ HR.out HA9.out HS.out (by omega)).mono ?_; rintro en w18 ⟨xv, X, a10, e10, rfl, hown, hsz, hr, hg, hst⟩
      obtain ⟨lX, hl⟩ : ∃ x, X.length = x := ⟨_, rfl⟩
      rw [hl] at hown
      obtain ⟨pX, cX, rfl, -⟩ := cellsK_own hown
      have HLX := Lib.hid hl
      clear hl
      replace HOQ := Lib.hid (own_keeps HOQ.out HR.out.2 (by decide) hg)
      replace HOA := Lib.hid (own_keeps HOA.out HR.out.2 (by decide) hg)
      replace HON := Lib.hid (own_keeps HON.out HR.out.2 (by decide) hg)
      have HOX := Lib.hid (own_mono4 hown (show q6 + 1 ≤ w17.heap.size from HBW3.out))
      replace HM := Lib.hid (HM.out.grown hg (fun e => by injection e with e; have := HNE.out; have := HC6.out; omega))
      replace HC := Lib.hid (HC.out.grown hg (fun e => by injection e with e; have := HNE.out; omega))
      replace HX := Lib.hid (HX.out.grown hg (fun e => by injection e with e; have := HNE.out; have := HQ5.out; omega))
      replace HG := Lib.hid (HG.out.trans hg)
      replace HR := Lib.hid hr
      have HSZX := Lib.hid hsz
      have HSTX := Lib.hid hst
      have HA10 := Lib.hid hst.1
      clear hown hsz hr hg hst x0 x1 x2 x3
      obtain ⟨y0, y1, y2, y3, y4, y5, y6, y7, y8, y9, y10, y11, g0, g1, g2, g3, g4, g5, g6, g7, g8, g9, g10, g11⟩ := HM.out.u12
      replace HM := Lib.hid (show CN (w18.setCell ⟨q6, 11, none⟩ (.slice pX lX cX)) q6 [.int .i64 vi, .int .i64 h1, .int .i64 h2, .bool b1, .bool b2, .bool b3, .bool b4, .bool b5, .slice pQ lQ cQ, .slice pA lA cA, .slice pN lN cN, .slice pX lX cX] from HM.out.set 11 (by simp) (.slice pX lX cX))
      have hg := grown_cell w18 q6 11 (.slice pX lX cX)
      replace HOQ := Lib.hid (own_set HOQ.out (Nat.lt_succ_self q6) 11 (.slice pX lX cX))
      replace HOA := Lib.hid (own_set HOA.out (Nat.lt_succ_self q6) 11 (.slice pX lX cX))
      replace HON := Lib.hid (own_set HON.out (Nat.lt_succ_self q6) 11 (.slice pX lX cX))
      replace HOX := Lib.hid (own_set HOX.out (Nat.lt_succ_self q6) 11 (.slice pX lX cX))
      replace HC := Lib.hid (HC.out.grown hg (fun e => by injection e with e; have := HC6.out; omega))
      replace HX := Lib.hid (HX.out.grown hg (fun e => by injection e with e; have := HQ6.out; omega))
      replace HR := Lib.hid (show RdS (w18.setCell ⟨q6, 11, none⟩ (.slice pX lX cX)) q s a10 e10 from ⟨HR.out.1.grown hg (fun e => by injection e with e; have := HNE.out; have := HC6.out; omega), HR.out.2.grown hg (fun e => by injection e with e; have := HNE.out; have := HC6.out; omega)⟩)
      replace HG := Lib.hid (HG.out.andThen hg (fun j hj => by injection hj with hj; rw [← hj]; exact Or.inl HB6.out))
      clear hg
      go_upto_region 13 with (fail)
      clear y0 y1 y2 y3 y4 y5 y6 y7 y8 y9 y10 y11 g0 g1 g2 g3 g4 g5 g6 g7 g8 g9 g10 g11
      obtain ⟨w19, hww⟩ : ∃ x, w18.setCell ⟨q6, 11, none⟩ (.slice pX lX cX) = x := ⟨_, rfl⟩
      rw [hww] at HC HX HM HR HG HOQ HOA HON HOX ⊢
      clear hww
      have HST := Lib.hid (Stp.map (fun z => (⟨unH vi vf, z.1.1.1, z.1.1.2, z.1.2, z.2⟩ : MsgD)) (Stp.seq Prod.mk (Stp.seq Prod.mk (Stp.seq Prod.mk HSTQ.out HSTA.out) HSTN.out) HSTX.out))
      have HFN := Lib.hid (show Stp s (msgP s) 0 (⟨unH vi vf, Q, A, N, X⟩ : MsgD) a10 e10 from HH.out.go HE6.out (by rw [HE6.out] at HST; rw [show msgF s ((((((vi, vf), (nq : Int)), (na : Int)), (nn : Int)), (nx : Int)), a6) = restP s vi vf nq na nn nx a6 by simp only [msgF, Int.toNat_natCast]; exact if_neg HLK.out]; exact HST.out))
      rw [HH8.out] at HFN
      clear HSTQ HSTA HSTN HSTX HST
      obtain ⟨k0, k1, k2, k3, k4, k5, k6, k7, k8, k9, k10, k11, _⟩ := HM.out.u12
      have HJ0 := Lib.hid (show vi = h0 from (by have := HH8.out; injection this))
      obtain ⟨y0, y1, y2, y3, y4, y5, y6, y7, y8, y9, y10, y11, g0, g1, g2, g3, g4, g5, g6, g7, g8, g9, g10, g11⟩ := HC.out.u12
      have HCZ := Lib.hid (HC.out.s12 (.int .i64 vi) (.int .i64 h1) (.int .i64 h2) (.bool b1) (.bool b2) (.bool b3) (.bool b4) (.bool b5) (.slice pQ lQ cQ) (.slice pA lA cA) (.slice pN lN cN) (.slice pX lX cX))
      have HGZ := Lib.hid (grown_s12 w19 q2 (.int .i64 vi) (.int .i64 h1) (.int .i64 h2) (.bool b1) (.bool b2) (.bool b3) (.bool b4) (.bool b5) (.slice pQ lQ cQ) (.slice pA lA cA) (.slice pN lN cN) (.slice pX lX cX))
      have HRZ := Lib.hid (show RdS ((((((((((((w19.setCell ⟨q2, 0, none⟩ (.int .i64 vi)).setCell ⟨q2, 1, none⟩ (.int .i64 h1)).setCell ⟨q2, 2, none⟩ (.int .i64 h2)).setCell ⟨q2, 3, none⟩ (.bool b1)).setCell ⟨q2, 4, none⟩ (.bool b2)).setCell ⟨q2, 5, none⟩ (.bool b3)).setCell ⟨q2, 6, none⟩ (.bool b4)).setCell ⟨q2, 7, none⟩ (.bool b5)).setCell ⟨q2, 8, none⟩ (.slice pQ lQ cQ)).setCell ⟨q2, 9, none⟩ (.slice pA lA cA)).setCell ⟨q2, 10, none⟩ (.slice pN lN cN)).setCell ⟨q2, 11, none⟩ (.slice pX lX cX)) q s a10 e10 from ⟨HR.out.1.grown HGZ.out (fun e => by injection e with e; have := HNE.out; omega), HR.out.2.grown HGZ.out (fun e => by injection e with e; have := HNE.out; omega)⟩)
      have HGA := Lib.hid (HG.out.andThen HGZ.out (fun j hj => by injection hj with hj; rw [HQ.out]; omega))
      have HRW := Lib.hid (show RowsM ((((((((((((w19.setCell ⟨q2, 0, none⟩ (.int .i64 vi)).setCell ⟨q2, 1, none⟩ (.int .i64 h1)).setCell ⟨q2, 2, none⟩ (.int .i64 h2)).setCell ⟨q2, 3, none⟩ (.bool b1)).setCell ⟨q2, 4, none⟩ (.bool b2)).setCell ⟨q2, 5, none⟩ (.bool b3)).setCell ⟨q2, 6, none⟩ (.bool b4)).setCell ⟨q2, 7, none⟩ (.bool b5)).setCell ⟨q2, 8, none⟩ (.slice pQ lQ cQ)).setCell ⟨q2, 9, none⟩ (.slice pA lA cA)).setCell ⟨q2, 10, none⟩ (.slice pN lN cN)).setCell ⟨q2, 11, none⟩ (.slice pX lX cX)) w.heap.size (⟨⟨vi, h1, h2, b1, b2, b3, b4, b5⟩, Q, A, N, X⟩ : MsgD) (.slice pQ lQ cQ) (.slice pA lA cA) (.slice pN lN cN) (.slice pX lX cX) from by rw [HQ.out]; exact ⟨by rw [HLQ.out]; exact own_mono4 (own_apart7 HOQ.out HGZ.out (fun k hk e => by injection e with e; have := (HOQ.out.lt k hk).1; have := HC6.out; omega)) (by have := HC6.out; omega), by rw [HLA.out]; exact own_mono4 (own_apart7 HOA.out HGZ.out (fun k hk e => by injection e with e; have := (HOA.out.lt k hk).1; have := HC6.out; omega)) (by have := HC6.out; omega), by rw [HLN.out]; exact own_mono4 (own_apart7 HON.out HGZ.out (fun k hk e => by injection e with e; have := (HON.out.lt k hk).1; have := HC6.out; omega)) (by have := HC6.out; omega), by rw [HLX.out]; exact own_mono4 (own_apart7 HOX.out HGZ.out (fun k hk e => by injection e with e; have := (HOX.out.lt k hk).1; have := HC6.out; omega)) (by have := HC6.out; omega)⟩)
      go_wp2
      obtain ⟨wq, hwq⟩ : ∃ x, ((((((((((((w19.setCell ⟨q2, 0, none⟩ (.int .i64 vi)).setCell ⟨q2, 1, none⟩ (.int .i64 h1)).setCell ⟨q2, 2, none⟩ (.int .i64 h2)).setCell ⟨q2, 3, none⟩ (.bool b1)).setCell ⟨q2, 4, none⟩ (.bool b2)).setCell ⟨q2, 5, none⟩ (.bool b3)).setCell ⟨q2, 6, none⟩ (.bool b4)).setCell ⟨q2, 7, none⟩ (.bool b5)).setCell ⟨q2, 8, none⟩ (.slice pQ lQ cQ)).setCell ⟨q2, 9, none⟩ (.slice pA lA cA)).setCell ⟨q2, 10, none⟩ (.slice pN lN cN)).setCell ⟨q2, 11, none⟩ (.slice pX lX cX)) = x := ⟨_, rfl⟩
      rw [hwq] at HCZ HRZ HGA HRW ⊢
      clear hwq HGZ y0 y1 y2 y3 y4 y5 y6 y7 y8 y9 y10 y11 g0 g1 g2 g3 g4 g5 g6 g7 g8 g9 g10 g11
      obtain ⟨z0, z1, z2, z3, z4, z5, z6, z7, z8, z9, z10, z11, _⟩ := HCZ.out.u12
      refine bodyPost_ret (v := .agg #[.int .i64 vi, .int .i64 h1, .int .i64 h2, .bool b1, .bool b2, .bool b3, .bool b4, .bool b5, .slice pQ lQ cQ, .slice pA lA cA, .slice pN lN cN, .slice pX lX cX]) (by simp [results, Try.results27, go_sem, z0, z1, z2, z3, z4, z5, z6, z7, z8, z9, z10, z11]) rfl ⟨(⟨⟨vi, h1, h2, b1, b2, b3, b4, b5⟩, Q, A, N, X⟩ : MsgD), .slice pQ lQ cQ, .slice pA lA cA, .slice pN lN cN, .slice pX lX cX, a10, e10, rfl, HRW.out, ⟨⟨Nat.le_trans HSZQ.out.1 (by omega), HSZQ.out.2⟩, ⟨Nat.le_trans HSZA.out.1 (by omega), HSZA.out.2⟩, ⟨Nat.le_trans HSZN.out.1 (by omega), HSZN.out.2⟩, ⟨Nat.le_trans HSZX.out.1 (by omega), HSZX.out.2⟩⟩, HRZ.out, HGA.out, (by rw [HJ0.out]; exact HFN.out)⟩
    · have d2 := nT h6
      have HE0 := Lib.hid h6
      clear h6
      obtain ⟨y0, y1, y2, y3, y4, y5, y6, y7, y8, y9, y10, y11, g0, g1, g2, g3, g4, g5, g6, g7, g8, g9, g10, g11⟩ := HC.out.u12
      have HCZ := Lib.hid (HC.out.s12 (.int .i64 0) (.int .i64 0) (.int .i64 0) (.bool false) (.bool false) (.bool false) (.bool false) (.bool false) (.slice none 0 0) (.slice none 0 0) (.slice none 0 0) (.slice none 0 0))
      have HGZ := Lib.hid (grown_s12 w8 q2 (.int .i64 0) (.int .i64 0) (.int .i64 0) (.bool false) (.bool false) (.bool false) (.bool false) (.bool false) (.slice none 0 0) (.slice none 0 0) (.slice none 0 0) (.slice none 0 0))
      have HRZ := Lib.hid (show RdS ((((((((((((w8.setCell ⟨q2, 0, none⟩ (.int .i64 0)).setCell ⟨q2, 1, none⟩ (.int .i64 0)).setCell ⟨q2, 2, none⟩ (.int .i64 0)).setCell ⟨q2, 3, none⟩ (.bool false)).setCell ⟨q2, 4, none⟩ (.bool false)).setCell ⟨q2, 5, none⟩ (.bool false)).setCell ⟨q2, 6, none⟩ (.bool false)).setCell ⟨q2, 7, none⟩ (.bool false)).setCell ⟨q2, 8, none⟩ (.slice none 0 0)).setCell ⟨q2, 9, none⟩ (.slice none 0 0)).setCell ⟨q2, 10, none⟩ (.slice none 0 0)).setCell ⟨q2, 11, none⟩ (.slice none 0 0)) q s a6 e6 from ⟨HR.out.1.grown HGZ.out (fun e => by injection e with e; have := HNE.out; omega), HR.out.2.grown HGZ.out (fun e => by injection e with e; have := HNE.out; omega)⟩)
      have HGA := Lib.hid (HG.out.andThen HGZ.out (fun j hj => by injection hj with hj; rw [HQ.out]; omega))
      have HRW := Lib.hid (rowsM0 ((((((((((((w8.setCell ⟨q2, 0, none⟩ (.int .i64 0)).setCell ⟨q2, 1, none⟩ (.int .i64 0)).setCell ⟨q2, 2, none⟩ (.int .i64 0)).setCell ⟨q2, 3, none⟩ (.bool false)).setCell ⟨q2, 4, none⟩ (.bool false)).setCell ⟨q2, 5, none⟩ (.bool false)).setCell ⟨q2, 6, none⟩ (.bool false)).setCell ⟨q2, 7, none⟩ (.bool false)).setCell ⟨q2, 8, none⟩ (.slice none 0 0)).setCell ⟨q2, 9, none⟩ (.slice none 0 0)).setCell ⟨q2, 10, none⟩ (.slice none 0 0)).setCell ⟨q2, 11, none⟩ (.slice none 0 0)) w.heap.size)
      go_wp2
      obtain ⟨wq, hwq⟩ : ∃ x, ((((((((((((w8.setCell ⟨q2, 0, none⟩ (.int .i64 0)).setCell ⟨q2, 1, none⟩ (.int .i64 0)).setCell ⟨q2, 2, none⟩ (.int .i64 0)).setCell ⟨q2, 3, none⟩ (.bool false)).setCell ⟨q2, 4, none⟩ (.bool false)).setCell ⟨q2, 5, none⟩ (.bool false)).setCell ⟨q2, 6, none⟩ (.bool false)).setCell ⟨q2, 7, none⟩ (.bool false)).setCell ⟨q2, 8, none⟩ (.slice none 0 0)).setCell ⟨q2, 9, none⟩ (.slice none 0 0)).setCell ⟨q2, 10, none⟩ (.slice none 0 0)).setCell ⟨q2, 11, none⟩ (.slice none 0 0)) = x := ⟨_, rfl⟩
      rw [hwq] at HCZ HRZ HGA HRW ⊢
      clear hwq HGZ y0 y1 y2 y3 y4 y5 y6 y7 y8 y9 y10 y11 g0 g1 g2 g3 g4 g5 g6 g7 g8 g9 g10 g11
      obtain ⟨z0, z1, z2, z3, z4, z5, z6, z7, z8, z9, z10, z11, _⟩ := HCZ.out.u12
      refine bodyPost_ret (v := .agg #[.int .i64 0, .int .i64 0, .int .i64 0, .bool false, .bool false, .bool false, .bool false, .bool false, .slice none 0 0, .slice none 0 0, .slice none 0 0, .slice none 0 0]) (by simp [results, Try.results27, go_sem, z0, z1, z2, z3, z4, z5, z6, z7, z8, z9, z10, z11]) rfl ⟨msg0, .slice none 0 0, .slice none 0 0, .slice none 0 0, .slice none 0 0, a6, e6, rfl, HRW.out, szM0, HRZ.out, HGA.out, HH.out.fail HE0.out (fun h0 => absurd h0 HE0.out) HA6.out⟩
end Go.Proofs.Ytgppkpdjpcegbaa
