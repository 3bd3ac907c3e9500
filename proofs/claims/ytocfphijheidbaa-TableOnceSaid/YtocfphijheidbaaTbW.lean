/- Slices of the statement's calls (layer 20) that came in: read as rows (written by mktbw.py). -/
import Derived.Test.YtocfphijheidbaaTbV
import Derived.WalkKit
import Derived.ProofKit
import Derived.OpenShut
import Derived.SliceStrings
import Derived.ChangeOld
import Derived.Deep.Slices
import Derived.Deep.Fields
namespace Go.Proofs.Ytocfphijheidbaa
open Go.ChangeShapes Go.WideShapes Go.RowKit Go.Deep

theorem open_mk {H : Type} {enc : TypeId × Value → H} {w : World} {base : Nat} {spare : Nat → Bool} {held : Bool} {fuel : Nat} {cs : List Value} {y : DataW H × List MemPlace} (hl : cs.length = 4) (h : DataW.trod enc Try.prog w base spare held fuel 69 cs = some y) : ∃ k : MkP, cs = encM k ∧ k.tx.size ≤ 9223372036854775807 := by
  obtain ⟨c0, c1, c2, c3, rfl⟩ : ∃ a b c d, cs = [a, b, c, d] := by
    match cs, hl with
    | [a, b, c, d], _ => exact ⟨a, b, c, d, rfl⟩
  have hf := open_fields Try.underlying69 (by kernel_rfl) rfl h
  obtain ⟨_, _, h0⟩ := hf 0 _ _ rfl rfl
  obtain ⟨_, _, h1⟩ := hf 1 _ _ rfl rfl
  obtain ⟨_, _, h2⟩ := hf 2 _ _ rfl rfl
  obtain ⟨_, _, h3⟩ := hf 3 _ _ rfl rfl
  obtain ⟨s0, e0, _, z0⟩ := DataW.trod_int Try.underlying3 h0
  obtain ⟨s1, e1, _, z1⟩ := DataW.trod_int Try.underlying3 h1
  obtain ⟨s2, e2, _, z2⟩ := DataW.trod_string Try.underlying9 h2
  obtain ⟨s3, e3, _⟩ := DataW.trod_bool Try.underlying4 h3
  obtain rfl : c0 = .int .i64 s0 := by simpa using e0
  obtain rfl : c1 = .int .i64 s1 := by simpa using e1
  obtain rfl : c2 = .string s2 := by simpa using e2
  obtain rfl : c3 = .bool s3 := by simpa using e3
  unfold maxLen at z2
  exact ⟨⟨s0, s1, s2, s3⟩, rfl, z2⟩
set_option maxRecDepth 100000 in
theorem open_op20 {H : Type} {enc : TypeId × Value → H} {w : World} {base : Nat} {held : Bool} {fuel : Nat} {cs : List Value} {y : DataW H × List MemPlace} (hl : cs.length = 27) (h : DataW.trod enc Try.prog w base (fun _ => true) held fuel 77 cs = some y) :
    ∃ (o : O20) (ja : Option Addr) (jc : Nat) (qa : Option Addr) (qc : Nat) (na : Option Addr) (nc : Nat) (sa : Option Addr) (sc : Nat) (xa : Option Addr) (xc : Nat), cs = o20L o ja jc ++ msgL o.m qa qc na nc sa sc xa xc ∧ Row w ja o.J.length o.J ∧ MsgAt w (.agg (msgL o.m qa qc na nc sa sc xa xc).toArray) o.m ∧ O20z o := by
  obtain ⟨c0, c1, c2, c3, c4, c5, c6, c7, c8, c9, c10, c11, c12, c13, c14, c15, c16, c17, c18, c19, c20, c21, c22, c23, c24, c25, c26, rfl⟩ : ∃ c0 c1 c2 c3 c4 c5 c6 c7 c8 c9 c10 c11 c12 c13 c14 c15 c16 c17 c18 c19 c20 c21 c22 c23 c24 c25 c26, cs = [c0, c1, c2, c3, c4, c5, c6, c7, c8, c9, c10, c11, c12, c13, c14, c15, c16, c17, c18, c19, c20, c21, c22, c23, c24, c25, c26] := by
    match cs, hl with
    | [c0, c1, c2, c3, c4, c5, c6, c7, c8, c9, c10, c11, c12, c13, c14, c15, c16, c17, c18, c19, c20, c21, c22, c23, c24, c25, c26], _ => exact ⟨c0, c1, c2, c3, c4, c5, c6, c7, c8, c9, c10, c11, c12, c13, c14, c15, c16, c17, c18, c19, c20, c21, c22, c23, c24, c25, c26, rfl⟩
  obtain ⟨xs, n, _, _, hcl, hlen, hg⟩ := DataW.trod_struct Try.underlying77 h
  have hlen : xs.length = 11 := hlen
  have g0 : DataW.trod enc Try.prog w base (fun _ => true) held n 3 [c0] = xs[0]? := by
    have e : (([c0, c1, c2, c3, c4, c5, c6, c7, c8, c9, c10, c11, c12, c13, c14, c15, c16, c17, c18, c19, c20, c21, c22, c23, c24, c25, c26] : List Value).drop 0).take (Try.prog.cellsOf 3) = [c0] := by rw [show Try.prog.cellsOf 3 = 1 by kernel_rfl]; rfl
    rw [← e]; exact hg 0 _ rfl
  have g1 : DataW.trod enc Try.prog w base (fun _ => true) held n 3 [c1] = xs[1]? := by
    have e : (([c0, c1, c2, c3, c4, c5, c6, c7, c8, c9, c10, c11, c12, c13, c14, c15, c16, c17, c18, c19, c20, c21, c22, c23, c24, c25, c26] : List Value).drop 1).take (Try.prog.cellsOf 3) = [c1] := by rw [show Try.prog.cellsOf 3 = 1 by kernel_rfl]; rfl
    rw [← e]; exact hg 1 _ rfl
  have g2 : DataW.trod enc Try.prog w base (fun _ => true) held n 3 [c2] = xs[2]? := by
    have e : (([c0, c1, c2, c3, c4, c5, c6, c7, c8, c9, c10, c11, c12, c13, c14, c15, c16, c17, c18, c19, c20, c21, c22, c23, c24, c25, c26] : List Value).drop 2).take (Try.prog.cellsOf 3) = [c2] := by rw [show Try.prog.cellsOf 3 = 1 by kernel_rfl]; rfl
    rw [← e]; exact hg 2 _ rfl
  have g3 : DataW.trod enc Try.prog w base (fun _ => true) held n 3 [c3] = xs[3]? := by
    have e : (([c0, c1, c2, c3, c4, c5, c6, c7, c8, c9, c10, c11, c12, c13, c14, c15, c16, c17, c18, c19, c20, c21, c22, c23, c24, c25, c26] : List Value).drop 3).take (Try.prog.cellsOf 3) = [c3] := by rw [show Try.prog.cellsOf 3 = 1 by kernel_rfl]; rfl
    rw [← e]; exact hg 3 _ rfl
  have g4 : DataW.trod enc Try.prog w base (fun _ => true) held n 3 [c4] = xs[4]? := by
    have e : (([c0, c1, c2, c3, c4, c5, c6, c7, c8, c9, c10, c11, c12, c13, c14, c15, c16, c17, c18, c19, c20, c21, c22, c23, c24, c25, c26] : List Value).drop 4).take (Try.prog.cellsOf 3) = [c4] := by rw [show Try.prog.cellsOf 3 = 1 by kernel_rfl]; rfl
    rw [← e]; exact hg 4 _ rfl
  have g5 : DataW.trod enc Try.prog w base (fun _ => true) held n 9 [c5] = xs[5]? := by
    have e : (([c0, c1, c2, c3, c4, c5, c6, c7, c8, c9, c10, c11, c12, c13, c14, c15, c16, c17, c18, c19, c20, c21, c22, c23, c24, c25, c26] : List Value).drop 5).take (Try.prog.cellsOf 9) = [c5] := by rw [show Try.prog.cellsOf 9 = 1 by kernel_rfl]; rfl
    rw [← e]; exact hg 5 _ rfl
  have g6 : DataW.trod enc Try.prog w base (fun _ => true) held n 4 [c6] = xs[6]? := by
    have e : (([c0, c1, c2, c3, c4, c5, c6, c7, c8, c9, c10, c11, c12, c13, c14, c15, c16, c17, c18, c19, c20, c21, c22, c23, c24, c25, c26] : List Value).drop 6).take (Try.prog.cellsOf 4) = [c6] := by rw [show Try.prog.cellsOf 4 = 1 by kernel_rfl]; rfl
    rw [← e]; exact hg 6 _ rfl
  have g7 : DataW.trod enc Try.prog w base (fun _ => true) held n 66 [c7, c8, c9] = xs[7]? := by
    have e : (([c0, c1, c2, c3, c4, c5, c6, c7, c8, c9, c10, c11, c12, c13, c14, c15, c16, c17, c18, c19, c20, c21, c22, c23, c24, c25, c26] : List Value).drop 7).take (Try.prog.cellsOf 66) = [c7, c8, c9] := by rw [show Try.prog.cellsOf 66 = 3 by kernel_rfl]; rfl
    rw [← e]; exact hg 7 _ rfl
  have g8 : DataW.trod enc Try.prog w base (fun _ => true) held n 67 [c10] = xs[8]? := by
    have e : (([c0, c1, c2, c3, c4, c5, c6, c7, c8, c9, c10, c11, c12, c13, c14, c15, c16, c17, c18, c19, c20, c21, c22, c23, c24, c25, c26] : List Value).drop 10).take (Try.prog.cellsOf 67) = [c10] := by rw [show Try.prog.cellsOf 67 = 1 by kernel_rfl]; rfl
    rw [← e]; exact hg 8 _ rfl
  have g9 : DataW.trod enc Try.prog w base (fun _ => true) held n 69 [c11, c12, c13, c14] = xs[9]? := by
    have e : (([c0, c1, c2, c3, c4, c5, c6, c7, c8, c9, c10, c11, c12, c13, c14, c15, c16, c17, c18, c19, c20, c21, c22, c23, c24, c25, c26] : List Value).drop 11).take (Try.prog.cellsOf 69) = [c11, c12, c13, c14] := by rw [show Try.prog.cellsOf 69 = 4 by kernel_rfl]; rfl
    rw [← e]; exact hg 9 _ rfl
  have g10 : DataW.trod enc Try.prog w base (fun _ => true) held n 75 [c15, c16, c17, c18, c19, c20, c21, c22, c23, c24, c25, c26] = xs[10]? := by
    have e : (([c0, c1, c2, c3, c4, c5, c6, c7, c8, c9, c10, c11, c12, c13, c14, c15, c16, c17, c18, c19, c20, c21, c22, c23, c24, c25, c26] : List Value).drop 15).take (Try.prog.cellsOf 75) = [c15, c16, c17, c18, c19, c20, c21, c22, c23, c24, c25, c26] := by rw [show Try.prog.cellsOf 75 = 12 by kernel_rfl]; rfl
    rw [← e]; exact hg 10 _ rfl
  rw [List.getElem?_eq_getElem (by omega)] at g0 g1 g2 g3 g4 g5 g6 g7 g8 g9 g10
  obtain ⟨s0, e0, _, z0⟩ := DataW.trod_int Try.underlying3 g0
  obtain ⟨s1, e1, _, z1⟩ := DataW.trod_int Try.underlying3 g1
  obtain ⟨s2, e2, _, z2⟩ := DataW.trod_int Try.underlying3 g2
  obtain ⟨s3, e3, _, z3⟩ := DataW.trod_int Try.underlying3 g3
  obtain ⟨s4, e4, _, z4⟩ := DataW.trod_int Try.underlying3 g4
  obtain ⟨s5, e5, _, z5⟩ := DataW.trod_string Try.underlying9 g5
  obtain ⟨s6, e6, _⟩ := DataW.trod_bool Try.underlying4 g6
  obtain rfl : c0 = .int .i64 s0 := by simpa using e0
  obtain rfl : c1 = .int .i64 s1 := by simpa using e1
  obtain rfl : c2 = .int .i64 s2 := by simpa using e2
  obtain rfl : c3 = .int .i64 s3 := by simpa using e3
  obtain rfl : c4 = .int .i64 s4 := by simpa using e4
  obtain rfl : c5 = .string s5 := by simpa using e5
  obtain rfl : c6 = .bool s6 := by simpa using e6
  obtain ⟨⟨qn, qt, qk⟩, hq, zq⟩ := open_qq rfl g7
  injection hq with e hq; subst e
  injection hq with e hq; subst e
  injection hq with e hq; subst e
  obtain ⟨km, hk, zk⟩ := open_mk rfl g9
  injection hk with e hk; subst e
  injection hk with e hk; subst e
  injection hk with e hk; subst e
  injection hk with e hk; subst e
  obtain ⟨ja, jn, jc, zs, rfl, hrow⟩ : ∃ a n c zs, c10 = .slice a n c ∧ IsRow .i64 w a n c zs := by
    rcases open_ints Try.underlying67 Try.underlying3 (by kernel_rfl) g8 with ⟨hcs, _⟩ | ⟨x, l, c, zs, hcs, _, hl, hm, hz, _, hcell, hwz⟩
    · exact ⟨none, 0, 0, [], by simpa using hcs, .inl ⟨rfl, rfl, rfl, rfl⟩⟩
    · exact ⟨some x, l, c, zs, by simpa using hcs, .inr ⟨_, rfl, hl, hm, by simpa using hz, hcell, hwz⟩⟩
  have hjl : jn ≤ 9223372036854775807 := by
    rcases hrow with ⟨_, h, _, _⟩ | ⟨_, _, h1, h2, _⟩
    · omega
    · unfold maxLen at h2; omega
  have hR := Row.of hrow
  have hRl := hR.1
  obtain ⟨m, hm, zm⟩ := open_msgCells rfl g10
  obtain ⟨qa, qc, na, nc, sa, sc, xa, xc, hv, hm1⟩ := id hm
  have hv' : [c15, c16, c17, c18, c19, c20, c21, c22, c23, c24, c25, c26] = msgL m qa qc na nc sa sc xa xc := by
    have := congrArg (fun v => match v with | .agg a => a.toList | _ => []) hv
    exact this
  unfold maxLen at z5
  refine ⟨⟨s0, s1, s2, s3, s4, s5, s6, ⟨qn, qt, qk⟩, zs.take jn, km, m⟩, ja, jc, qa, qc, na, nc, sa, sc, xa, xc, ?_, ?_, ?_, ⟨z5, zq, by show (zs.take jn).length ≤ _; omega, zk, zm⟩⟩
  · rw [← hv']
    show _ = [Value.int .i64 s0, .int .i64 s1, .int .i64 s2, .int .i64 s3, .int .i64 s4, .string s5, .bool s6, .string qn, .int .i64 qt, .int .i64 qk, .slice ja (zs.take jn).length jc, .int .i64 km.id, .int .i64 km.port, .string km.tx, .bool km.tcp] ++ _
    rw [hRl]
    rfl
  · show Row w ja (zs.take jn).length (zs.take jn)
    rw [hRl]
    exact hR
  · show MsgAt w (.agg (msgL m qa qc na nc sa sc xa xc).toArray) m
    rw [← hv']
    exact hm
theorem open_rows20 {H : Type} {enc : TypeId × Value → H} {w : World} {base : Nat} {held : Bool} {fuel : Nat} {a : Option Addr} {len cap : Nat} {x : DataW H × List MemPlace} (h : DataW.trod enc Try.prog w base (fun _ => true) held fuel 57 (Value.slice a len cap).cells.toList = some x) :
    ∃ l, Row20 w a len l ∧ (a = none → len = 0 ∧ cap = 0) ∧ len ≤ maxLen := by
  have hc3 : Try.prog.cellsOf 77 = 27 := by kernel_rfl
  rcases open_slice Try.underlying57 h with ⟨hcs, _⟩ | ⟨a', len', cap', m, n, D, Pl, hcs, _, hl, hm, hmm, _, hi⟩
  · simp [Value.cells] at hcs
    obtain ⟨rfl, rfl, rfl⟩ := hcs
    exact ⟨[], ⟨rfl, Or.inl rfl⟩, fun _ => ⟨rfl, rfl⟩, Nat.zero_le _⟩
  · simp [Value.cells] at hcs
    obtain ⟨rfl, rfl, rfl⟩ := hcs
    rw [hc3] at hi
    have hlm : len ≤ m := by
      rw [hmm]; split <;> omega
    have hr : ∀ i, i < len → ∃ o : O20, ∃ (ja : Option Addr) (jc : Nat) (qa : Option Addr) (qc : Nat) (na : Option Addr) (nc : Nat) (sa : Option Addr) (sc : Nat) (xa : Option Addr) (xc : Nat), Row w ja o.J.length o.J ∧ MsgAt w (.agg (msgL o.m qa qc na nc sa sc xa xc).toArray) o.m ∧ O20z o ∧ ∀ j, j < 27 → w.cell? ((a'.add (i * 27)).add j) = (o20L o ja jc ++ msgL o.m qa qc na nc sa sc xa xc)[j]? := fun i hil => by
      obtain ⟨cs', hc, ht⟩ := hi i (by omega)
      obtain ⟨_, hcl, hat⟩ := World.cells?_some hc
      obtain ⟨o, ja, jc, qa, qc, na, nc, sa, sc, xa, xc, rfl, h1, h2, h3⟩ := open_op20 hcl ht
      exact ⟨o, ja, jc, qa, qc, na, nc, sa, sc, xa, xc, h1, h2, h3, fun j hj => hat j hj⟩
    obtain ⟨l, hll, hlp⟩ := list_choose _ len hr
    refine ⟨l, ⟨hll, ?_⟩, (fun h => by cases h), by omega⟩
    by_cases h0 : len = 0
    · exact Or.inl h0
    right
    obtain ⟨b, off, spot⟩ := a'
    obtain ⟨r0, hr0⟩ : ∃ r, l[0]? = some r := ⟨_, List.getElem?_eq_getElem (by omega)⟩
    obtain ⟨_, _, _, _, _, _, _, _, _, _, _, _, _, hz0⟩ := hlp 0 r0 hr0
    have hc0 := hz0 0 (by omega)
    have hc0' : w.cell? (((⟨b, off, spot⟩ : Addr).add (0 * 27)).add 0) = some (.int .i64 r0.kind) := hc0
    have hspot : spot = none := by simpa [Addr.add] using World.cell?_spot hc0'
    subst hspot
    refine ⟨b, off, rfl, ?_, fun j hj => ?_⟩
    · have := block_lt_of_cell hc0'
      simpa [Addr.add] using this
    · obtain ⟨r, hr1⟩ : ∃ r, l[j]? = some r := ⟨_, List.getElem?_eq_getElem (by omega)⟩
      obtain ⟨ja, jc, qa, qc, na, nc, sa, sc, xa, xc, h1, h2, h3, hat⟩ := hlp j r hr1
      have e : l.getD j o20D = r := by rw [List.getD_eq_getElem?_getD, hr1]; rfl
      rw [e]
      refine ⟨ja, jc, qa, qc, na, nc, sa, sc, xa, xc, fun i u hu => ?_, h1, h2, h3⟩
      have hi27 : i < 27 := (List.getElem?_eq_some_iff.1 hu).1
      have h9 := hat i hi27
      rw [Go.Deep.add_add] at h9
      rw [show (⟨b, off + j * 27 + i, none⟩ : Addr) = (⟨b, off, none⟩ : Addr).add (j * 27 + i) by rw [Nat.add_assoc]; simp only [Addr.add]; split <;> simp_all, h9]
      exact hu
end Go.Proofs.Ytocfphijheidbaa
