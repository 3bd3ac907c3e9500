/- Sets that came in by value. -/
import Derived.Test.YtgdbbdbfaglkdaaOpR
import Derived.SliceStrings
namespace Go.Proofs.Ytgdbbdbfaglkdaa
open Go.ChangeShapes Go.WideShapes Go.RowKit Go.Deep

/-- A set out of its cells' readings. -/
theorem open_setCells {H : Type} {enc : TypeId × Value → H} {w : World} {base : Nat} {held : Bool} {fuel : Nat} {cs : List Value} {y : DataW H × List MemPlace} (hl : cs.length = 5) (h : DataW.trod enc Try.prog w base (fun _ => true) held fuel 73 cs = some y) :
    ∃ (n : ByteArray) (t c u : Int) (a : Option Addr) (dn dc : Nat) (d : List ByteArray), cs = [.string n, .int .i64 t, .int .i64 c, .int .i64 u, .slice a dn dc] ∧ RowS w a dn d ∧ (a = none → dn = 0 ∧ dc = 0) ∧ SzS ⟨⟨n, t, c⟩, u, d⟩ := by
  obtain ⟨c0, c1, c2, c3, c4, rfl⟩ : ∃ a b c d e, cs = [a, b, c, d, e] := by
    match cs, hl with
    | [a, b, c, d, e], _ => exact ⟨a, b, c, d, e, rfl⟩
  have hcK : Try.prog.cellsOf 68 = 3 := by kernel_rfl
  have hcI : Try.prog.cellsOf 3 = 1 := by kernel_rfl
  have hcD : Try.prog.cellsOf 45 = 1 := by kernel_rfl
  obtain ⟨xs, n, _, _, hcl, hlen, hg⟩ := DataW.trod_struct Try.underlying73 h
  have hlen : xs.length = 3 := hlen
  have f0 := hg 0 _ rfl
  have f1 := hg 1 _ rfl
  have f2 := hg 2 _ rfl
  have e0 : (([c0, c1, c2, c3, c4] : List Value).drop 0).take (Try.prog.cellsOf 68) = [c0, c1, c2] := by rw [hcK]; rfl
  have e1 : (([c0, c1, c2, c3, c4] : List Value).drop 3).take (Try.prog.cellsOf 3) = [c3] := by rw [hcI]; rfl
  have e2 : (([c0, c1, c2, c3, c4] : List Value).drop 4).take (Try.prog.cellsOf 45) = [c4] := by rw [hcD]; rfl
  have g0 : DataW.trod enc Try.prog w base (fun _ => true) held n 68 [c0, c1, c2] = xs[0]? := by rw [← e0]; exact f0
  have g1 : DataW.trod enc Try.prog w base (fun _ => true) held n 3 [c3] = xs[1]? := by rw [← e1]; exact f1
  have g2 : DataW.trod enc Try.prog w base (fun _ => true) held n 45 [c4] = xs[2]? := by rw [← e2]; exact f2
  rw [List.getElem?_eq_getElem (by omega)] at g0 g1 g2
  have hf := open_fields Try.underlying68 (by kernel_rfl) rfl g0
  obtain ⟨_, _, k0⟩ := hf 0 _ _ rfl rfl
  obtain ⟨_, _, k1⟩ := hf 1 _ _ rfl rfl
  obtain ⟨_, _, k2⟩ := hf 2 _ _ rfl rfl
  obtain ⟨s0, q0, _, z0⟩ := DataW.trod_string Try.underlying9 k0
  obtain ⟨s1, q1, _, _⟩ := DataW.trod_int Try.underlying3 k1
  obtain ⟨s2, q2, _, _⟩ := DataW.trod_int Try.underlying3 k2
  obtain ⟨s3, q3, _, _⟩ := DataW.trod_int Try.underlying3 g1
  obtain rfl : c0 = .string s0 := by simpa using q0
  obtain rfl : c1 = .int .i64 s1 := by simpa using q1
  obtain rfl : c2 = .int .i64 s2 := by simpa using q2
  obtain rfl : c3 = .int .i64 s3 := by simpa using q3
  obtain ⟨a, dn, dc, zs, rfl, hrow⟩ : ∃ a dn dc zs, c4 = .slice a dn dc ∧ IsRowS w a dn dc zs := by
    rcases open_strings Try.underlying45 Try.underlying9 (by kernel_rfl) g2 with ⟨hcs, _⟩ | ⟨x, l, c, zs, hcs, _, hl, hm, hz, _, hcell, hwz⟩
    · exact ⟨none, 0, 0, [], by simpa using hcs, .inl ⟨rfl, rfl, rfl, rfl⟩⟩
    · exact ⟨some x, l, c, zs, by simpa using hcs, .inr ⟨_, rfl, hl, hm, by simpa using hz, hcell, hwz⟩⟩
  obtain ⟨h1, h2, h3⟩ := RowS.of hrow
  unfold maxLen at z0 h2 h3
  refine ⟨s0, s1, s2, s3, a, dn, dc, zs.take dn, rfl, h1, RowS.nil hrow, z0, by show (zs.take dn).length ≤ _; rw [h1.1]; exact h3, fun j hj => ?_⟩
  show ((zs.take dn).getD j ByteArray.empty).size ≤ _
  have hj : j < (zs.take dn).length := hj
  rw [List.getD_eq_getElem?_getD, List.getElem?_eq_getElem hj]
  exact h2 _ (List.getElem_mem _)
set_option maxRecDepth 100000 in
theorem open_setV {H : Type} {enc : TypeId × Value → H} {w : World} {base b0 : Nat} {held : Bool} {r : Reach} {v : Value} {d : DataW H} {p : List MemPlace} (hv : Value.okWide Try.prog w r b0 73 v) (h : DataW.Trod enc Try.prog w base (fun _ => true) held 73 v d p) :
    ∃ (n : ByteArray) (t c u : Int) (a : Option Addr) (dn dc : Nat) (x : List ByteArray), v = .agg #[.string n, .int .i64 t, .int .i64 c, .int .i64 u, .slice a dn dc] ∧ RowS w a dn x ∧ (a = none → dn = 0 ∧ dc = 0) ∧ SzS ⟨⟨n, t, c⟩, u, x⟩ := by
  obtain ⟨cs, rfl, hsz⟩ := okWide_struct Try.underlying73 hv
  obtain ⟨fuel, hf⟩ := h
  have hc5 : Try.prog.cellsOf 73 = 5 := by kernel_rfl
  obtain ⟨l⟩ := cs
  have hl : l.length = 5 := hsz.trans hc5
  obtain ⟨n, t, c, u, a, dn, dc, x, e, h1, h2, h3⟩ := open_setCells hl (by simpa [Value.cells] using hf)
  subst e
  exact ⟨n, t, c, u, a, dn, dc, x, rfl, h1, h2, h3⟩
end Go.Proofs.Ytgdbbdbfaglkdaa
