/- Clients that came in by value. -/
import Derived.Test.YtgppkpdjpcegbaaFtV
namespace Go.Proofs.Ytgppkpdjpcegbaa
open Go.ChangeShapes Go.WideShapes Go.RowKit Go.Deep

set_option maxRecDepth 100000 in
theorem open_clientV {H : Type} {enc : TypeId × Value → H} {w : World} {base b0 : Nat} {held : Bool} {r : Reach} {v : Value} {d : DataW H} {p : List MemPlace} (hv : Value.okWide Try.prog w r b0 29 v) (h : DataW.Trod enc Try.prog w base (fun _ => true) held 29 v d p) :
    ∃ (n : ByteArray) (t c : Int) (f : ByteArray) (id sz : Int) (rd ed tc : Bool), v = .agg #[.string n, .int .i64 t, .int .i64 c, .string f, .int .i64 id, .int .i64 sz, .bool rd, .bool ed, .bool tc] ∧ True := by
  obtain ⟨cs, rfl, hsz⟩ := okWide_struct Try.underlying29 hv
  obtain ⟨fuel, hf⟩ := h
  have hc9 : Try.prog.cellsOf 29 = 9 := by kernel_rfl
  obtain ⟨l⟩ := cs
  have hl : l.length = 9 := hsz.trans hc9
  obtain ⟨c0, c1, c2, c3, c4, c5, c6, c7, c8, rfl⟩ : ∃ a b c d e f g h i, l = [a, b, c, d, e, f, g, h, i] := by
    match l, hl with
    | [a, b, c, d, e, f, g, h, i], _ => exact ⟨a, b, c, d, e, f, g, h, i, rfl⟩
  have h : DataW.trod enc Try.prog w base (fun _ => true) held fuel 29 [c0, c1, c2, c3, c4, c5, c6, c7, c8] = some (d, p) := by simpa [Value.cells] using hf
  have hcK : Try.prog.cellsOf 27 = 3 := by kernel_rfl
  have hcI : Try.prog.cellsOf 3 = 1 := by kernel_rfl
  have hcS : Try.prog.cellsOf 9 = 1 := by kernel_rfl
  have hcB : Try.prog.cellsOf 4 = 1 := by kernel_rfl
  obtain ⟨xs, n, _, _, hcl, hlen, hg⟩ := DataW.trod_struct Try.underlying29 h
  have hlen : xs.length = 7 := hlen
  have f0 := hg 0 _ rfl
  have f1 := hg 1 _ rfl
  have f2 := hg 2 _ rfl
  have f3 := hg 3 _ rfl
  have f4 := hg 4 _ rfl
  have f5 := hg 5 _ rfl
  have f6 := hg 6 _ rfl
  have e0 : (([c0, c1, c2, c3, c4, c5, c6, c7, c8] : List Value).drop 0).take (Try.prog.cellsOf 27) = [c0, c1, c2] := by rw [hcK]; rfl
  have e1 : (([c0, c1, c2, c3, c4, c5, c6, c7, c8] : List Value).drop 3).take (Try.prog.cellsOf 9) = [c3] := by rw [hcS]; rfl
  have e2 : (([c0, c1, c2, c3, c4, c5, c6, c7, c8] : List Value).drop 4).take (Try.prog.cellsOf 3) = [c4] := by rw [hcI]; rfl
  have e3 : (([c0, c1, c2, c3, c4, c5, c6, c7, c8] : List Value).drop 5).take (Try.prog.cellsOf 3) = [c5] := by rw [hcI]; rfl
  have e4 : (([c0, c1, c2, c3, c4, c5, c6, c7, c8] : List Value).drop 6).take (Try.prog.cellsOf 4) = [c6] := by rw [hcB]; rfl
  have e5 : (([c0, c1, c2, c3, c4, c5, c6, c7, c8] : List Value).drop 7).take (Try.prog.cellsOf 4) = [c7] := by rw [hcB]; rfl
  have e6 : (([c0, c1, c2, c3, c4, c5, c6, c7, c8] : List Value).drop 8).take (Try.prog.cellsOf 4) = [c8] := by rw [hcB]; rfl
  have g0 : DataW.trod enc Try.prog w base (fun _ => true) held n 27 [c0, c1, c2] = xs[0]? := by rw [← e0]; exact f0
  have g1 : DataW.trod enc Try.prog w base (fun _ => true) held n 9 [c3] = xs[1]? := by rw [← e1]; exact f1
  have g2 : DataW.trod enc Try.prog w base (fun _ => true) held n 3 [c4] = xs[2]? := by rw [← e2]; exact f2
  have g3 : DataW.trod enc Try.prog w base (fun _ => true) held n 3 [c5] = xs[3]? := by rw [← e3]; exact f3
  have g4 : DataW.trod enc Try.prog w base (fun _ => true) held n 4 [c6] = xs[4]? := by rw [← e4]; exact f4
  have g5 : DataW.trod enc Try.prog w base (fun _ => true) held n 4 [c7] = xs[5]? := by rw [← e5]; exact f5
  have g6 : DataW.trod enc Try.prog w base (fun _ => true) held n 4 [c8] = xs[6]? := by rw [← e6]; exact f6
  rw [List.getElem?_eq_getElem (by omega)] at g0 g1 g2 g3 g4 g5 g6
  have hf2 := open_fields Try.underlying27 (by kernel_rfl) rfl g0
  obtain ⟨_, _, k0⟩ := hf2 0 _ _ rfl rfl
  obtain ⟨_, _, k1⟩ := hf2 1 _ _ rfl rfl
  obtain ⟨_, _, k2⟩ := hf2 2 _ _ rfl rfl
  obtain ⟨s0, q0, _, _⟩ := DataW.trod_string Try.underlying9 k0
  obtain ⟨s1, q1, _, _⟩ := DataW.trod_int Try.underlying3 k1
  obtain ⟨s2, q2, _, _⟩ := DataW.trod_int Try.underlying3 k2
  obtain ⟨s3, q3, _, _⟩ := DataW.trod_string Try.underlying9 g1
  obtain ⟨s4, q4, _, _⟩ := DataW.trod_int Try.underlying3 g2
  obtain ⟨s5, q5, _, _⟩ := DataW.trod_int Try.underlying3 g3
  obtain ⟨s6, q6, _⟩ := DataW.trod_bool Try.underlying4 g4
  obtain ⟨s7, q7, _⟩ := DataW.trod_bool Try.underlying4 g5
  obtain ⟨s8, q8, _⟩ := DataW.trod_bool Try.underlying4 g6
  obtain rfl : c0 = .string s0 := by simpa using q0
  obtain rfl : c1 = .int .i64 s1 := by simpa using q1
  obtain rfl : c2 = .int .i64 s2 := by simpa using q2
  obtain rfl : c3 = .string s3 := by simpa using q3
  obtain rfl : c4 = .int .i64 s4 := by simpa using q4
  obtain rfl : c5 = .int .i64 s5 := by simpa using q5
  obtain rfl : c6 = .bool s6 := by simpa using q6
  obtain rfl : c7 = .bool s7 := by simpa using q7
  obtain rfl : c8 = .bool s8 := by simpa using q8
  exact ⟨s0, s1, s2, s3, s4, s5, s6, s7, s8, rfl, trivial⟩
end Go.Proofs.Ytgppkpdjpcegbaa
