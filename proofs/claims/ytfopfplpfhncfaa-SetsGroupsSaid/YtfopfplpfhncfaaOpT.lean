/- OpT -/
import Derived.Test.YtfopfplpfhncfaaSGr
import Derived.Test.YtfopfplpfhncfaaOpR
import Derived.WalkKit
import Derived.ProofKit
import Derived.OpenShut
import Derived.SliceStrings
import Derived.ChangeOld
import Derived.Deep.Slices
import Derived.Deep.Fields
import Derived.ChangeSame
namespace Go.Proofs.Ytfopfplpfhncfaa
open Go.ChangeShapes Go.WideShapes Go.RowKit Go.Deep

/-- A set out of its cells' readings. -/
theorem open_setCells {H : Type} {enc : TypeId × Value → H} {w : World} {base : Nat} {held : Bool} {fuel : Nat} {cs : List Value} {y : DataW H × List MemPlace} (hl : cs.length = 5) (h : DataW.trod enc Try.prog w base (fun _ => true) held fuel 32 cs = some y) :
    ∃ (n : ByteArray) (t c u : Int) (a : Option Addr) (dn dc : Nat) (d : List ByteArray), cs = [.string n, .int .i64 t, .int .i64 c, .int .i64 u, .slice a dn dc] ∧ RowS w a dn d ∧ (a = none → dn = 0 ∧ dc = 0) ∧ SzS ⟨⟨n, t, c⟩, u, d⟩ := by
  obtain ⟨c0, c1, c2, c3, c4, rfl⟩ : ∃ a b c d e, cs = [a, b, c, d, e] := by
    match cs, hl with
    | [a, b, c, d, e], _ => exact ⟨a, b, c, d, e, rfl⟩
  have hcK : Try.prog.cellsOf 25 = 3 := by kernel_rfl
  have hcI : Try.prog.cellsOf 3 = 1 := by kernel_rfl
  have hcD : Try.prog.cellsOf 30 = 1 := by kernel_rfl
  obtain ⟨xs, n, _, _, hcl, hlen, hg⟩ := DataW.trod_struct Try.underlying32 h
  have hlen : xs.length = 3 := hlen
  have f0 := hg 0 _ rfl
  have f1 := hg 1 _ rfl
  have f2 := hg 2 _ rfl
  have e0 : (([c0, c1, c2, c3, c4] : List Value).drop 0).take (Try.prog.cellsOf 25) = [c0, c1, c2] := by rw [hcK]; rfl
  have e1 : (([c0, c1, c2, c3, c4] : List Value).drop 3).take (Try.prog.cellsOf 3) = [c3] := by rw [hcI]; rfl
  have e2 : (([c0, c1, c2, c3, c4] : List Value).drop 4).take (Try.prog.cellsOf 30) = [c4] := by rw [hcD]; rfl
  have g0 : DataW.trod enc Try.prog w base (fun _ => true) held n 25 [c0, c1, c2] = xs[0]? := by rw [← e0]; exact f0
  have g1 : DataW.trod enc Try.prog w base (fun _ => true) held n 3 [c3] = xs[1]? := by rw [← e1]; exact f1
  have g2 : DataW.trod enc Try.prog w base (fun _ => true) held n 30 [c4] = xs[2]? := by rw [← e2]; exact f2
  rw [List.getElem?_eq_getElem (by omega)] at g0 g1 g2
  have hf := open_fields Try.underlying25 (by kernel_rfl) rfl g0
  obtain ⟨_, _, k0⟩ := hf 0 _ _ rfl rfl
  obtain ⟨_, _, k1⟩ := hf 1 _ _ rfl rfl
  obtain ⟨_, _, k2⟩ := hf 2 _ _ rfl rfl
  obtain ⟨s0, q0, _, z0⟩ := DataW.trod_string Try.underlying9 k0
  obtain ⟨s1, q1, _, _⟩ := DataW.trod_int Try.underlying3 k1
  obtain ⟨s2, q2, _, _⟩ := DataW.trod_int Try.underlying3 k2
  obtain ⟨s3, q3, _, _⟩ := DataW.trod_int Try.underlying3 g1
  obtain rfl : c0 = .string s0 := by simpa using q0
  obtain rfl : c1 = .int .i64 s1 := by simpa using q1
  obtain rfl : c2 = .int .i64 s2 := by simpa using q2
  obtain rfl : c3 = .int .i64 s3 := by simpa using q3
  obtain ⟨a, dn, dc, zs, rfl, hrow⟩ : ∃ a dn dc zs, c4 = .slice a dn dc ∧ IsRowS w a dn dc zs := by
    rcases open_strings Try.underlying30 Try.underlying9 (by kernel_rfl) g2 with ⟨hcs, _⟩ | ⟨x, l, c, zs, hcs, _, hl, hm, hz, _, hcell, hwz⟩
    · exact ⟨none, 0, 0, [], by simpa using hcs, .inl ⟨rfl, rfl, rfl, rfl⟩⟩
    · exact ⟨some x, l, c, zs, by simpa using hcs, .inr ⟨_, rfl, hl, hm, by simpa using hz, hcell, hwz⟩⟩
  obtain ⟨h1, h2, h3⟩ := RowS.of hrow
  unfold maxLen at z0 h2 h3
  refine ⟨s0, s1, s2, s3, a, dn, dc, zs.take dn, rfl, h1, RowS.nil hrow, z0, by show (zs.take dn).length ≤ _; rw [h1.1]; exact h3, fun j hj => ?_⟩
  show ((zs.take dn).getD j ByteArray.empty).size ≤ _
  have hj : j < (zs.take dn).length := hj
  rw [List.getD_eq_getElem?_getD, List.getElem?_eq_getElem hj]
  exact h2 _ (List.getElem_mem _)
theorem open_rowsSet {H : Type} {enc : TypeId × Value → H} {w : World} {base : Nat} {held : Bool} {fuel : Nat} {a : Option Addr} {len cap : Nat} {x : DataW H × List MemPlace} (h : DataW.trod enc Try.prog w base (fun _ => true) held fuel 23 (Value.slice a len cap).cells.toList = some x) :
    ∃ l, SetsAt w a len l ∧ len ≤ maxLen ∧ ∀ k, k < len → SzS (l.getD k ssD) := by
  have hc3 : Try.prog.cellsOf 32 = 5 := by kernel_rfl
  rcases open_slice Try.underlying23 h with ⟨hcs, _⟩ | ⟨a', len', cap', m, n, D, Pl, hcs, _, hl, hm, hmm, _, hi⟩
  · simp [Value.cells] at hcs
    obtain ⟨rfl, rfl, rfl⟩ := hcs
    exact ⟨[], ⟨rfl, Or.inl rfl⟩, Nat.zero_le _, fun k hk => absurd hk (by omega)⟩
  · simp [Value.cells] at hcs
    obtain ⟨rfl, rfl, rfl⟩ := hcs
    rw [hc3] at hi
    have hlm : len ≤ m := by
      rw [hmm]; split <;> omega
    have hr : ∀ i, i < len → ∃ s : SetP, ∃ (p : Option Addr) (c : Nat), RowS w p s.data.length s.data ∧ (p = none → s.data.length = 0 ∧ c = 0) ∧ SzS s ∧ ∀ j, j < 5 → w.cell? ((a'.add (i * 5)).add j) = ([.string s.k.n, .int .i64 s.k.t, .int .i64 s.k.c, .int .i64 s.ttl, .slice p s.data.length c] : List Value)[j]? := fun i hil => by
      obtain ⟨cs', hc, ht⟩ := hi i (by omega)
      obtain ⟨_, hcl, hat⟩ := World.cells?_some hc
      obtain ⟨n, t, c, u, p, dn, dc, d, rfl, h1, h2, h3⟩ := open_setCells hcl ht
      have hdn : d.length = dn := h1.1
      subst hdn
      exact ⟨⟨⟨n, t, c⟩, u, d⟩, p, dc, h1, h2, h3, fun j hj => hat j hj⟩
    obtain ⟨l, hll, hlp⟩ := list_choose _ len hr
    refine ⟨l, ⟨hll, ?_⟩, by omega, fun k hk => ?_⟩
    · by_cases h0 : len = 0
      · exact Or.inl h0
      right
      obtain ⟨b, off, spot⟩ := a'
      obtain ⟨r0, hr0⟩ : ∃ r, l[0]? = some r := ⟨_, List.getElem?_eq_getElem (by omega)⟩
      obtain ⟨_, _, _, _, _, hz0⟩ := hlp 0 r0 hr0
      have hc0 := hz0 0 (by omega)
      have hc0' : w.cell? (((⟨b, off, spot⟩ : Addr).add (0 * 5)).add 0) = some (.string r0.k.n) := hc0
      have hspot : spot = none := by simpa [Addr.add] using World.cell?_spot hc0'
      subst hspot
      refine ⟨b, off, rfl, ?_, fun k hk => ?_⟩
      · have := block_lt_of_cell hc0'
        simpa [Addr.add] using this
      · obtain ⟨r, hr1⟩ : ∃ r, l[k]? = some r := ⟨_, List.getElem?_eq_getElem (by omega)⟩
        obtain ⟨p, c, h1, h2, h3, hat⟩ := hlp k r hr1
        have e : l.getD k ssD = r := by rw [List.getD_eq_getElem?_getD, hr1]; rfl
        rw [e]
        have hg : ∀ j, j < 5 → ∀ u, ([.string r.k.n, .int .i64 r.k.t, .int .i64 r.k.c, .int .i64 r.ttl, .slice p r.data.length c] : List Value)[j]? = some u → w.cell? ⟨b, off + k * 5 + j, none⟩ = some u := fun j hj u hu => by
          have h9 := hat j hj
          rw [Go.Deep.add_add] at h9
          rw [show (⟨b, off + k * 5 + j, none⟩ : Addr) = (⟨b, off, none⟩ : Addr).add (k * 5 + j) by rw [Nat.add_assoc]; simp only [Addr.add]; split <;> simp_all, h9]
          exact hu
        exact ⟨p, c, hg 0 (by omega) _ rfl, hg 1 (by omega) _ rfl, hg 2 (by omega) _ rfl, hg 3 (by omega) _ rfl, hg 4 (by omega) _ rfl, h1, h2⟩
    · obtain ⟨r, hr1⟩ : ∃ r, l[k]? = some r := ⟨_, List.getElem?_eq_getElem (by omega)⟩
      obtain ⟨p, c, h1, h2, h3, hat⟩ := hlp k r hr1
      have e : l.getD k ssD = r := by rw [List.getD_eq_getElem?_getD, hr1]; rfl
      rw [e]
      exact h3
end Go.Proofs.Ytfopfplpfhncfaa
