/- Messages that came in by value. -/
import Derived.Test.YtkoafkajmfodkaaOpR5
namespace Go.Proofs.Ytkoafkajmfodkaa
open Go.ChangeShapes Go.WideShapes Go.RowKit Go.Deep

/-- A question out of its cells' readings. -/
theorem open_qq {H : Type} {enc : TypeId × Value → H} {w : World} {base : Nat} {spare : Nat → Bool} {held : Bool} {fuel : Nat} {cs : List Value} {y : DataW H × List MemPlace} (hl : cs.length = 3) (h : DataW.trod enc Try.prog w base spare held fuel 70 cs = some y) : ∃ r : Ky, cs = encK r ∧ r.n.size ≤ 9223372036854775807 := by
  obtain ⟨c0, c1, c2, rfl⟩ : ∃ a b c, cs = [a, b, c] := by
    match cs, hl with
    | [a, b, c], _ => exact ⟨a, b, c, rfl⟩
  have hf := open_fields Try.underlying70 (by kernel_rfl) rfl h
  obtain ⟨_, _, h0⟩ := hf 0 _ _ rfl rfl
  obtain ⟨_, _, h1⟩ := hf 1 _ _ rfl rfl
  obtain ⟨_, _, h2⟩ := hf 2 _ _ rfl rfl
  obtain ⟨s0, e0, _, z0⟩ := DataW.trod_string Try.underlying9 h0
  obtain ⟨s1, e1, _, z1⟩ := DataW.trod_int Try.underlying3 h1
  obtain ⟨s2, e2, _, z2⟩ := DataW.trod_int Try.underlying3 h2
  obtain rfl : c0 = .string s0 := by simpa using e0
  obtain rfl : c1 = .int .i64 s1 := by simpa using e1
  obtain rfl : c2 = .int .i64 s2 := by simpa using e2
  unfold maxLen at z0
  exact ⟨⟨s0, s1, s2⟩, rfl, z0⟩
theorem open_rowsQ {H : Type} {enc : TypeId × Value → H} {w : World} {base : Nat} {held : Bool} {fuel : Nat} {a : Option Addr} {len cap : Nat} {x : DataW H × List MemPlace} (h : DataW.trod enc Try.prog w base (fun _ => true) held fuel 24 (Value.slice a len cap).cells.toList = some x) :
    ∃ l, RowQ w a len l ∧ (a = none → len = 0 ∧ cap = 0) ∧ len ≤ maxLen ∧ ∀ r ∈ l, r.n.size ≤ 9223372036854775807 := by
  have hc3 : Try.prog.cellsOf 70 = 3 := by kernel_rfl
  rcases open_slice Try.underlying24 h with ⟨hcs, _⟩ | ⟨a', len', cap', m, n, D, Pl, hcs, _, hl, hm, hmm, _, hi⟩
  · simp [Value.cells] at hcs
    obtain ⟨rfl, rfl, rfl⟩ := hcs
    exact ⟨[], ⟨rfl, ⟨rfl, Or.inl rfl⟩⟩, fun _ => ⟨rfl, rfl⟩, Nat.zero_le _, by simp⟩
  · simp [Value.cells] at hcs
    obtain ⟨rfl, rfl, rfl⟩ := hcs
    rw [hc3] at hi
    have hlm : len ≤ m := by
      rw [hmm]; split <;> omega
    have hr : ∀ i, i < len → ∃ r : Ky, r.n.size ≤ 9223372036854775807 ∧ ∀ j, j < 3 → w.cell? ((a'.add (i * 3)).add j) = (encK r)[j]? := fun i hil => by
      obtain ⟨cs', hc, ht⟩ := hi i (by omega)
      obtain ⟨_, hcl, hat⟩ := World.cells?_some hc
      obtain ⟨r, rfl, hz⟩ := open_qq hcl ht
      exact ⟨r, hz, fun j hj => hat j hj⟩
    obtain ⟨l, hll, hlp⟩ := list_choose _ len hr
    refine ⟨l, ⟨hll, by rw [flatQ_len, hll], ?_⟩, (fun h => by cases h), by omega, ?_⟩
    · by_cases h0 : len = 0
      · exact Or.inl (by rw [h0])
      right
      obtain ⟨b, off, spot⟩ := a'
      obtain ⟨r0, hr0⟩ : ∃ r, l[0]? = some r := ⟨_, List.getElem?_eq_getElem (by omega)⟩
      have hc0 := (hlp 0 r0 hr0).2 0 (by omega)
      have hc0' : w.cell? (((⟨b, off, spot⟩ : Addr).add (0 * 3)).add 0) = some (.string r0.n) := hc0
      have hspot : spot = none := by simpa [Addr.add] using World.cell?_spot hc0'
      subst hspot
      refine ⟨b, off, rfl, ?_, fun j u hj => ?_⟩
      · have := block_lt_of_cell hc0'
        simpa [Addr.add] using this
      · rw [flatQ, flatMap_get encK 3 encK_len (by omega)] at hj
        cases hr1 : l[j / 3]? with
        | none => rw [hr1] at hj; cases hj
        | some r =>
          rw [hr1] at hj
          have h1 := (hlp (j / 3) r hr1).2 (j % 3) (Nat.mod_lt _ (by omega))
          rw [Go.Deep.add_add, show j / 3 * 3 + j % 3 = j by omega] at h1
          rw [show (⟨b, off + j, none⟩ : Addr) = (⟨b, off, none⟩ : Addr).add j by simp only [Addr.add]; split <;> simp_all, h1]
          exact hj
    · intro r hr'
      obtain ⟨i, hi'⟩ := List.getElem?_of_mem hr'
      exact (hlp i r hi').1
theorem slice_shape {H : Type} {enc : TypeId × Value → H} {w : World} {base : Nat} {held : Bool} {fuel : Nat} {T E : TypeId} {c : Value} {x : DataW H × List MemPlace} (hu : Try.prog.underlying T = some (.slice E)) (h : DataW.trod enc Try.prog w base (fun _ => true) held fuel T [c] = some x) : ∃ a l k, c = .slice a l k := by
  rcases open_slice hu h with ⟨hcs, _⟩ | ⟨a, l, k, _, _, _, _, hcs, _⟩
  · exact ⟨none, 0, 0, by simpa using hcs⟩
  · exact ⟨some a, l, k, by simpa using hcs⟩
theorem open_hd {H : Type} {enc : TypeId × Value → H} {w : World} {base : Nat} {spare : Nat → Bool} {held : Bool} {fuel : Nat} {cs : List Value} {y : DataW H × List MemPlace} (hl : cs.length = 8) (h : DataW.trod enc Try.prog w base spare held fuel 23 cs = some y) : ∃ (i o r : Int) (b1 b2 b3 b4 b5 : Bool), cs = [.int .i64 i, .int .i64 o, .int .i64 r, .bool b1, .bool b2, .bool b3, .bool b4, .bool b5] := by
  obtain ⟨c0, c1, c2, c3, c4, c5, c6, c7, rfl⟩ : ∃ a b c d e f g h, cs = [a, b, c, d, e, f, g, h] := by
    match cs, hl with
    | [a, b, c, d, e, f, g, h], _ => exact ⟨a, b, c, d, e, f, g, h, rfl⟩
  have hf := open_fields Try.underlying23 (by kernel_rfl) rfl h
  obtain ⟨_, _, h0⟩ := hf 0 _ _ rfl rfl
  obtain ⟨_, _, h1⟩ := hf 1 _ _ rfl rfl
  obtain ⟨_, _, h2⟩ := hf 2 _ _ rfl rfl
  obtain ⟨_, _, h3⟩ := hf 3 _ _ rfl rfl
  obtain ⟨_, _, h4⟩ := hf 4 _ _ rfl rfl
  obtain ⟨_, _, h5⟩ := hf 5 _ _ rfl rfl
  obtain ⟨_, _, h6⟩ := hf 6 _ _ rfl rfl
  obtain ⟨_, _, h7⟩ := hf 7 _ _ rfl rfl
  obtain ⟨s0, e0, _, _⟩ := DataW.trod_int Try.underlying3 h0
  obtain ⟨s1, e1, _, _⟩ := DataW.trod_int Try.underlying3 h1
  obtain ⟨s2, e2, _, _⟩ := DataW.trod_int Try.underlying3 h2
  obtain ⟨s3, e3, _⟩ := DataW.trod_bool Try.underlying4 h3
  obtain ⟨s4, e4, _⟩ := DataW.trod_bool Try.underlying4 h4
  obtain ⟨s5, e5, _⟩ := DataW.trod_bool Try.underlying4 h5
  obtain ⟨s6, e6, _⟩ := DataW.trod_bool Try.underlying4 h6
  obtain ⟨s7, e7, _⟩ := DataW.trod_bool Try.underlying4 h7
  obtain rfl : c0 = .int .i64 s0 := by simpa using e0
  obtain rfl : c1 = .int .i64 s1 := by simpa using e1
  obtain rfl : c2 = .int .i64 s2 := by simpa using e2
  obtain rfl : c3 = .bool s3 := by simpa using e3
  obtain rfl : c4 = .bool s4 := by simpa using e4
  obtain rfl : c5 = .bool s5 := by simpa using e5
  obtain rfl : c6 = .bool s6 := by simpa using e6
  obtain rfl : c7 = .bool s7 := by simpa using e7
  exact ⟨s0, s1, s2, s3, s4, s5, s6, s7, rfl⟩
/-- A message out of its cells' readings. -/
theorem open_msgCells {H : Type} {enc : TypeId × Value → H} {w : World} {base : Nat} {held : Bool} {fuel : Nat} {cs : List Value} {y : DataW H × List MemPlace} (hl : cs.length = 12) (h : DataW.trod enc Try.prog w base (fun _ => true) held fuel 27 cs = some y) :
    ∃ m : MsgP, MsgAt w (.agg cs.toArray) m ∧ SzM m := by
  obtain ⟨c0, c1, c2, c3, c4, c5, c6, c7, c8, c9, c10, c11, rfl⟩ : ∃ c0 c1 c2 c3 c4 c5 c6 c7 c8 c9 c10 c11, cs = [c0, c1, c2, c3, c4, c5, c6, c7, c8, c9, c10, c11] := by
    match cs, hl with
    | [c0, c1, c2, c3, c4, c5, c6, c7, c8, c9, c10, c11], _ => exact ⟨c0, c1, c2, c3, c4, c5, c6, c7, c8, c9, c10, c11, rfl⟩
  have hcH : Try.prog.cellsOf 23 = 8 := by kernel_rfl
  have hcQ : Try.prog.cellsOf 24 = 1 := by kernel_rfl
  have hcR : Try.prog.cellsOf 25 = 1 := by kernel_rfl
  obtain ⟨xs, n, _, _, hcl, hlen, hg⟩ := DataW.trod_struct Try.underlying27 h
  have hlen : xs.length = 5 := hlen
  have f0 := hg 0 _ rfl
  have f1 := hg 1 _ rfl
  have f2 := hg 2 _ rfl
  have f3 := hg 3 _ rfl
  have f4 := hg 4 _ rfl
  have e0 : (([c0, c1, c2, c3, c4, c5, c6, c7, c8, c9, c10, c11] : List Value).drop 0).take (Try.prog.cellsOf 23) = [c0, c1, c2, c3, c4, c5, c6, c7] := by rw [hcH]; rfl
  have e1 : (([c0, c1, c2, c3, c4, c5, c6, c7, c8, c9, c10, c11] : List Value).drop 8).take (Try.prog.cellsOf 24) = [c8] := by rw [hcQ]; rfl
  have e2 : (([c0, c1, c2, c3, c4, c5, c6, c7, c8, c9, c10, c11] : List Value).drop 9).take (Try.prog.cellsOf 25) = [c9] := by rw [hcR]; rfl
  have e3 : (([c0, c1, c2, c3, c4, c5, c6, c7, c8, c9, c10, c11] : List Value).drop 10).take (Try.prog.cellsOf 25) = [c10] := by rw [hcR]; rfl
  have e4 : (([c0, c1, c2, c3, c4, c5, c6, c7, c8, c9, c10, c11] : List Value).drop 11).take (Try.prog.cellsOf 25) = [c11] := by rw [hcR]; rfl
  have g0 : DataW.trod enc Try.prog w base (fun _ => true) held n 23 [c0, c1, c2, c3, c4, c5, c6, c7] = xs[0]? := by rw [← e0]; exact f0
  have g1 : DataW.trod enc Try.prog w base (fun _ => true) held n 24 [c8] = xs[1]? := by rw [← e1]; exact f1
  have g2 : DataW.trod enc Try.prog w base (fun _ => true) held n 25 [c9] = xs[2]? := by rw [← e2]; exact f2
  have g3 : DataW.trod enc Try.prog w base (fun _ => true) held n 25 [c10] = xs[3]? := by rw [← e3]; exact f3
  have g4 : DataW.trod enc Try.prog w base (fun _ => true) held n 25 [c11] = xs[4]? := by rw [← e4]; exact f4
  rw [List.getElem?_eq_getElem (by omega)] at g0 g1 g2 g3 g4
  obtain ⟨i, o, r, b1, b2, b3, b4, b5, hh⟩ := open_hd rfl g0
  injection hh with e hh; subst e
  injection hh with e hh; subst e
  injection hh with e hh; subst e
  injection hh with e hh; subst e
  injection hh with e hh; subst e
  injection hh with e hh; subst e
  injection hh with e hh; subst e
  injection hh with e hh; subst e
  obtain ⟨qa, ql, qc, rfl⟩ := slice_shape Try.underlying24 g1
  obtain ⟨na, nl, nc, rfl⟩ := slice_shape Try.underlying25 g2
  obtain ⟨sa, sl, sc, rfl⟩ := slice_shape Try.underlying25 g3
  obtain ⟨xa, xl, xc, rfl⟩ := slice_shape Try.underlying25 g4
  obtain ⟨Q, q1, q2, q3, q4⟩ := open_rowsQ (a := qa) (len := ql) (cap := qc) (by simpa [Value.cells] using g1)
  obtain ⟨A, a1, a2, a3, a4⟩ := open_rowsR (a := na) (len := nl) (cap := nc) (by simpa [Value.cells] using g2)
  obtain ⟨N, n1, n2, n3, n4⟩ := open_rowsR (a := sa) (len := sl) (cap := sc) (by simpa [Value.cells] using g3)
  obtain ⟨X, x1, x2, x3, x4⟩ := open_rowsR (a := xa) (len := xl) (cap := xc) (by simpa [Value.cells] using g4)
  unfold maxLen at q3 a3 n3 x3
  have l1 := q1.1
  have l2 := a1.1
  have l3 := n1.1
  have l4 := x1.1
  subst l1 l2 l3 l4
  exact ⟨⟨i, o, r, b1, b2, b3, b4, b5, Q, A, N, X⟩, ⟨qa, qc, na, nc, sa, sc, xa, xc, rfl, ⟨q1, q2⟩, ⟨a1, a2⟩, ⟨n1, n2⟩, ⟨x1, x2⟩⟩, ⟨q3, q4⟩, ⟨a3, a4⟩, ⟨n3, n4⟩, ⟨x3, x4⟩⟩
set_option maxRecDepth 100000 in
theorem open_msgV {H : Type} {enc : TypeId × Value → H} {w : World} {base b0 : Nat} {held : Bool} {r : Reach} {v : Value} {d : DataW H} {p : List MemPlace} (hv : Value.okWide Try.prog w r b0 27 v) (h : DataW.Trod enc Try.prog w base (fun _ => true) held 27 v d p) :
    ∃ m : MsgP, MsgAt w v m ∧ SzM m := by
  obtain ⟨cs, rfl, hsz⟩ := okWide_struct Try.underlying27 hv
  obtain ⟨fuel, hf⟩ := h
  have hc5 : Try.prog.cellsOf 27 = 12 := by kernel_rfl
  obtain ⟨l⟩ := cs
  have hl : l.length = 12 := hsz.trans hc5
  exact open_msgCells hl (by simpa [Value.cells] using hf)
end Go.Proofs.Ytkoafkajmfodkaa
