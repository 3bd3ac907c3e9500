/- The examples; what is told. -/
import Derived.Test.YtgppkpdjpcegbaaMgL
import Derived.Test.YtgppkpdjpcegbaaFtD
import Derived.Laws.MakeOwn
namespace Go.Proofs.Ytgppkpdjpcegbaa
open Go.RowKit

theorem read_bad (fr : ByteArray) (tcp : Bool) (a : Option Addr) (n cp : Nat) (l L : List UInt8) (w : World) (hr : RowB w a n l) (hn : a = none → n = 0 ∧ cp = 0) (hb : n ≤ 20000) (hc : n ≤ cp) (h : readO fr tcp (bs l) = .inl L) : Calls Try.prog 9 #[.string fr, .bool tcp, .slice a n cp] w fun e w' => (∃ v, e = .returned (.tuple #[.agg #[.string ⟨#[]⟩, .int .i64 0, .int .i64 0, .string ⟨#[]⟩, .int .i64 0, .int .i64 0, .bool false, .bool false, .bool false], v, .bool false]) ∧ w'.ownsRow w.heap.size 5 1 v L.length (bc L)) ∧ Below w.heap.size w w' := by
  have hx := read_any fr tcp a n cp l w hr hn hb hc
  rw [h] at hx
  exact hx
theorem read_good (fr : ByteArray) (tcp : Bool) (a : Option Addr) (n cp : Nat) (l : List UInt8) (qn : ByteArray) (qt qk : Int) (f2 : ByteArray) (id sz : Int) (rd ed tc : Bool) (w : World) (hr : RowB w a n l) (hn : a = none → n = 0 ∧ cp = 0) (hb : n ≤ 20000) (hc : n ≤ cp) (h : readO fr tcp (bs l) = .inr ⟨⟨qn, qt, qk⟩, f2, id, sz, rd, ed, tc⟩) : Calls Try.prog 9 #[.string fr, .bool tcp, .slice a n cp] w fun e w' => (∃ v, e = .returned (.tuple #[.agg #[.string qn, .int .i64 qt, .int .i64 qk, .string f2, .int .i64 id, .int .i64 sz, .bool rd, .bool ed, .bool tc], v, .bool true]) ∧ w'.ownsRow w.heap.size 5 1 v 0 (bc [])) ∧ Below w.heap.size w w' := by
  have hx := read_any fr tcp a n cp l w hr hn hb hc
  rw [h] at hx
  exact hx
theorem fail_lit : failL 5 0 1 true [] = [0, 5, 129, 129, 0, 0, 0, 0, 0, 0, 0, 0] := by
  have hm : mayP (failM 5 0 1 true []) = true := mayP_fail rfl rfl rfl
  have hl := encY_len hm rfl rfl rfl
  have hl2 : (encY2 (failM 5 0 1 true [])).length ≤ 12 := hl
  have h := enc_fit hm (most := 16000) (by omega) (by omega)
  rw [failL, h.2]
  show joinL 2 [5, flagV 0 1 true false false true true, 0, 0, 0, 0] = _
  decide +kernel
/-- A message of questions alone, its row made behind B. -/
theorem msgAt_q {w : World} {B ql qc : Nat} {qa : Option Addr} {Q : List Ky} (id op : Int) (qr rd : Bool) (h : w.ownsRow B 27 3 (.slice qa ql qc) ql (flatQ Q)) (e : Q.length = ql) : MsgAt w (.agg #[.int .i64 id, .int .i64 op, .int .i64 0, .bool qr, .bool false, .bool false, .bool rd, .bool false, .slice qa ql qc, .slice none 0 0, .slice none 0 0, .slice none 0 0]) (qM id op qr rd Q) := by
  subst e
  exact ⟨qa, qc, none, 0, none, 0, none, 0, rfl, rowQ_own2 h, ⟨⟨rfl, rfl, Or.inl rfl⟩, fun _ => ⟨rfl, rfl⟩⟩, ⟨⟨rfl, rfl, Or.inl rfl⟩, fun _ => ⟨rfl, rfl⟩⟩, ⟨⟨rfl, rfl, Or.inl rfl⟩, fun _ => ⟨rfl, rfl⟩⟩⟩
theorem mok_q {id op : Int} {qr rd : Bool} {Q : List Ky} (hl : Q.length ≤ 100000) (hz : ∀ r ∈ Q, r.n.size ≤ 1000000) : Mok (qM id op qr rd Q) :=
  ⟨⟨hl, Nat.zero_le _, Nat.zero_le _, Nat.zero_le _⟩, hz, (fun r hr => by cases hr), (fun r hr => by cases hr), fun r hr => by cases hr⟩
def zB (n : Nat) : List UInt8 := List.replicate n 0
theorem zB_len (n : Nat) : (zB n).length = n := List.length_replicate
theorem made_zB (n : Nat) : madeCells (Value.int .u8 0).cells n = (bc (zB n)).toArray := by
  apply Array.ext
  · rw [size_madeCells, List.size_toArray, bc_length, zB_len]
  · intro i h1 h2
    rw [size_madeCells] at h1
    simp [madeCells, Value.cells, bc, zB, Nat.mod_one]
theorem make_run8 (n : Nat) (hn : n ≤ 2048) (w : World) : (Instr.makeSlice 22 (.int .i64 (n : Int)) (.int .i64 (n : Int))).run Try.prog w = .ok (.slice (some ⟨w.heap.size, 0, none⟩) n n) (w.alloc (.cells (bc (zB n)).toArray 5)) := by
  obtain ⟨i0, hi, hz0, hz1, hz2⟩ := info_parts infoU8
  have h := run_make (P := Try.prog) w 22 5 i0 _ Try.underlying22 hi hz0 .i64 .i64 (n : Int) (n : Int) (by omega) (by omega) (by rw [hz2]; omega) (by omega)
  rw [hz1, Int.toNat_natCast, Nat.mul_one, made_zB] at h
  exact h
theorem rowB_z11 (w : World) : RowB (w.alloc (.cells (bc (zB 11)).toArray 5)) (some ⟨w.heap.size, 0, none⟩) 11 (zB 11) := by
  have h := cells_lit w (bc (zB 11)).toArray 5
  rw [show (bc (zB 11)).toArray.size = 11 from rfl] at h
  exact h
set_option maxRecDepth 100000 in
set_option maxHeartbeats 8000000 in
theorem first22 (w : World) : Calls Try.prog 7 #[] w fun e w' => e = .returned (.bool true) ∧ Below w.heap.size w w' := by
  have HB := Lib.hid (Below.refl w.heap.size w)
  go_enter Try.func7, Try.ntmps7
  have hba := (Below.refl w.heap.size w).alloc (Nat.le_refl _) (.cells (bc (zB 11)).toArray 5)
  have HR := Lib.hid (rowB_z11 w)
  replace HB := Lib.hid (HB.out.trans (hba.mono HB.out.size))
  obtain ⟨w1, hw⟩ : ∃ x, w.alloc (.cells (bc (zB 11)).toArray 5) = x := ⟨_, rfl⟩
  obtain ⟨q1, hq⟩ : ∃ x, w.heap.size = x := ⟨_, rfl⟩
  rw [hw, hq] at HR
  rw [hw] at HB
  have HW := Lib.hid hw
  have HQ_ := Lib.hid hq
  clear hba hw hq
  have hmk : (Instr.makeSlice 22 (.int .i64 11) (.int .i64 11)).run Try.prog w = .ok (.slice (some ⟨w.heap.size, 0, none⟩) 11 11) (w.alloc (.cells (bc (zB 11)).toArray 5)) := make_run8 11 (by decide) w
  rw [HW.out, HQ_.out] at hmk
  go_wp2_with fail
  refine (read_bad ⟨#[99]⟩ false _ 11 11 _ [] _ HR.out (fun h => by cases h) (by decide) (by decide) (readO_short (by rw [bs_size]; decide))).mono ?_; rintro e w2 ⟨⟨v, rfl, ho⟩, hb⟩
  replace HB := Lib.hid (HB.out.trans (hb.mono HB.out.size))
  clear hb hmk HW HQ_
  obtain ⟨av, cv, rfl, -⟩ := cellsK_own ho
  clear ho
  have hba := (Below.refl _ _ : Below w2.heap.size w2 w2).alloc (Nat.le_refl _) (.cells #[.string ⟨#[]⟩, .int .i64 0, .int .i64 0, .string ⟨#[]⟩, .int .i64 0, .int .i64 0, .bool false, .bool false, .bool false] 29)
  have HZ := Lib.hid (CN.new w2 #[.string ⟨#[]⟩, .int .i64 0, .int .i64 0, .string ⟨#[]⟩, .int .i64 0, .int .i64 0, .bool false, .bool false, .bool false] 29)
  replace HB := Lib.hid (HB.out.trans (hba.mono HB.out.size))
  obtain ⟨w3, hw⟩ : ∃ x, w2.alloc (.cells #[.string ⟨#[]⟩, .int .i64 0, .int .i64 0, .string ⟨#[]⟩, .int .i64 0, .int .i64 0, .bool false, .bool false, .bool false] 29) = x := ⟨_, rfl⟩
  obtain ⟨q3, hq⟩ : ∃ x, w2.heap.size = x := ⟨_, rfl⟩
  rw [hw, hq] at HZ
  rw [hw] at HB
  have HW := Lib.hid hw
  have HQ_ := Lib.hid hq
  clear hba hw hq
  go_upto_region 2 with (fail)
  rw [HW.out, HQ_.out]
  clear HW HQ_
  go_wp2_with fail
  refine (ffail_any 5 0 1 true none 0 0 [] _ ⟨rfl, rfl, Or.inl rfl⟩ (fun _ => ⟨rfl, rfl⟩) (by decide) (fun r hr => by cases hr)).mono ?_; rintro e w4 ⟨u, rfl, ho, hb⟩
  replace HB := Lib.hid (HB.out.trans (hb.mono HB.out.size))
  replace HZ := Lib.hid (HZ.out.below hb)
  clear hb
  rw [fail_lit] at ho
  obtain ⟨au, cu, rfl, -⟩ := cellsK_own ho
  obtain ⟨h1, h2 | ⟨b, off, rfl, hlt, hc⟩⟩ := (rowB_own ho).1
  · exact absurd h2 (by decide)
  have c1 : w4.cell? ⟨b, off + 1, none⟩ = some (.int .u8 5) := hc 1 _ rfl
  have c3 : w4.cell? ⟨b, off + 3, none⟩ = some (.int .u8 129) := hc 3 _ rfl
  clear hc hlt h1 ho HZ HR
  dsimp only [List.length_cons, List.length_nil]
  go_wp2
  go_ret
  exact ⟨rfl, HB.out⟩

theorem MsgAt.nils {w : World} {mi mo mr : Int} {b1 b2 b3 b4 b5 : Bool} {Q : List Ky} {A N X : List R5} {qa na sa xa : Option Addr} {lq qc nl nc sl sc xl xc : Nat} (h : MsgAt w (.agg #[.int .i64 mi, .int .i64 mo, .int .i64 mr, .bool b1, .bool b2, .bool b3, .bool b4, .bool b5, .slice qa lq qc, .slice na nl nc, .slice sa sl sc, .slice xa xl xc]) ⟨mi, mo, mr, b1, b2, b3, b4, b5, Q, A, N, X⟩) : (na = none → nl = 0 ∧ nc = 0) ∧ (sa = none → sl = 0 ∧ sc = 0) ∧ (xa = none → xl = 0 ∧ xc = 0) := by
  obtain ⟨qa', qc', na', nc', sa', sc', xa', xc', e, h1, h2, h3, h4⟩ := h
  simp at e
  obtain ⟨⟨e1, e2, e3⟩, ⟨e4, e5, e6⟩, ⟨e7, e8, e9⟩, e10, e11, e12⟩ := e
  subst e4 e5 e6 e7 e8 e9 e10 e11 e12
  exact ⟨h2.2, h3.2, h4.2⟩
set_option maxRecDepth 100000 in
set_option maxHeartbeats 8000000 in
theorem told_any (a : Option Addr) (n cp : Nat) (l : List UInt8) (id op rc : Int) (rd : Bool) (w : World) (hr : RowB w a n l) (hn : a = none → n = 0 ∧ cp = 0) (hb : n ≤ 20000) (hd : decP (bs l) = some (fromP (failM id op rc rd []))) : Calls Try.prog 18 #[.slice a n cp, .int .i64 id, .int .i64 op, .int .i64 rc, .bool rd] w fun e w' => e = .returned (.bool true) ∧ Below w.heap.size w w' := by
  have HRB := Lib.hid hr
  have HN := Lib.hid hn
  have HD := Lib.hid hd
  have HNB := Lib.hid hb
  have HB := Lib.hid (Below.refl w.heap.size w)
  clear hr hn hd hb
  go_enter Try.func18, Try.ntmps18
  go_wp2_with fail
  refine (decode_ok l (failM id op rc rd []) a n cp _ HRB.out HN.out HNB.out HD.out).mono ?_; rintro e w2 ⟨v, rfl, ho, -, hb⟩
  replace HB := Lib.hid (HB.out.trans (hb.mono HB.out.size))
  clear hb
  obtain ⟨qa, ql, qc, na, nl, nc, sa, sl, sc, xa, xl, xc, rfl, hp⟩ := MsgAt.parts (mi := id) (mo := op) (mr := rc) (b1 := true) (b2 := false) (b3 := false) (b4 := rd) (b5 := true) (Q := []) (A := []) (N := []) (X := []) ho.at
  have hnn := hp.nils
  obtain ⟨⟨l1, l2, l3, l4⟩, -⟩ := hp.lens
  replace l1 : ql = 0 := l1.symm
  replace l2 : nl = 0 := l2.symm
  replace l3 : sl = 0 := l3.symm
  replace l4 : xl = 0 := l4.symm
  subst l1 l2 l3 l4
  have HNN := Lib.hid hnn
  clear ho hp hnn
  have hba := (Below.refl _ _ : Below w2.heap.size w2 w2).alloc (Nat.le_refl _) (.cells #[.int .i64 id, .int .i64 op, .int .i64 rc, .bool true, .bool false, .bool false, .bool rd, .bool true, .slice qa 0 qc, .slice na 0 nc, .slice sa 0 sc, .slice xa 0 xc] 37)
  have HM := Lib.hid (CN.new w2 #[.int .i64 id, .int .i64 op, .int .i64 rc, .bool true, .bool false, .bool false, .bool rd, .bool true, .slice qa 0 qc, .slice na 0 nc, .slice sa 0 sc, .slice xa 0 xc] 37)
  replace HB := Lib.hid (HB.out.trans (hba.mono HB.out.size))
  obtain ⟨w3, hw⟩ : ∃ x, w2.alloc (.cells #[.int .i64 id, .int .i64 op, .int .i64 rc, .bool true, .bool false, .bool false, .bool rd, .bool true, .slice qa 0 qc, .slice na 0 nc, .slice sa 0 sc, .slice xa 0 xc] 37) = x := ⟨_, rfl⟩
  obtain ⟨q3, hq⟩ : ∃ x, w2.heap.size = x := ⟨_, rfl⟩
  rw [hw, hq] at HM
  rw [hw] at HB
  have HW := Lib.hid hw
  have HQ_ := Lib.hid hq
  clear hba hw hq
  go_upto_region 2 with (fail)
  rw [HW.out, HQ_.out]
  clear HW HQ_
  obtain ⟨y0, y1, y2, y3, y4, y5, y6, y7, y8, y9, y10, y11, _⟩ := HM.out.u12
  have e1 : (id == id) = true := beq_self_eq_true _
  have e2 : (op == op) = true := beq_self_eq_true _
  have e3 : (rc == rc) = true := beq_self_eq_true _
  have e4 : (rd == rd) = true := beq_self_eq_true _
  go_wp2_with fail
  refine (all_ex id op rc true false false rd true qa na sa xa 0 qc 0 nc 0 sc 0 xc [] [] [] _ ⟨rfl, rfl, Or.inl rfl⟩ (fun h => ⟨rfl, (HNN.out.1 h).2⟩) ⟨rfl, rfl, Or.inl rfl⟩ (fun h => ⟨rfl, (HNN.out.2.1 h).2⟩) ⟨rfl, rfl, Or.inl rfl⟩ (fun h => ⟨rfl, (HNN.out.2.2 h).2⟩) (by decide)).mono ?_; rintro e w9 ⟨v9, rfl, ho, hb⟩
  replace HB := Lib.hid (HB.out.trans (hb.mono HB.out.size))
  replace HM := Lib.hid (HM.out.below hb)
  clear hb y0 y1 y2 y3 y4 y5 y6 y7 y8 y9 y10 y11
  obtain ⟨a9, c9, rfl, -⟩ := rowR_own ho
  clear ho
  go_wp2
  go_ret
  exact ⟨rfl, HB.out⟩


end Go.Proofs.Ytgppkpdjpcegbaa
