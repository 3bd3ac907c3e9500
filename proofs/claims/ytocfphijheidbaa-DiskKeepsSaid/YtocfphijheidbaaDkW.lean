/- Slices of operations that came in: read as rows. -/
import Derived.Test.YtocfphijheidbaaDkT
import Derived.Test.YtocfphijheidbaaArB
import Derived.WalkKit
import Derived.ProofKit
import Derived.OpenShut
import Derived.SliceStrings
import Derived.ChangeOld
import Derived.Deep.Slices
import Derived.Deep.Fields
namespace Go.Proofs.Ytocfphijheidbaa
open Go.ChangeShapes Go.WideShapes Go.RowKit Go.Deep

theorem open_fields13 {H : Type} {enc : TypeId × Value → H} {P : Program} {w : World} {base : Nat} {spare : Nat → Bool} {held : Bool} {fuel : Nat} {t : TypeId} {fs : Array Field} {cs : List Value} {y : DataW H × List MemPlace}
    (hs : P.underlying t = some (.struct fs)) (hone : oneCellFields P fs = true) (hl : cs.length = fs.size) (h : DataW.trod enc P w base spare held fuel t cs = some y) :
    ∀ (j : Nat) (f : Field) (c : Value), fs[j]? = some f → cs[j]? = some c → ∃ y n, DataW.trod enc P w base spare held n f.type [c] = some y := by
  obtain ⟨xs, n, _, _, hcl, hlen, hg⟩ := DataW.trod_struct hs h
  intro j f c hj hc
  obtain ⟨ho, hk⟩ := hone_of hone j f hj
  have hjl : j < fs.size := (Array.getElem?_eq_some_iff.1 hj).1
  have h1 := hg j f hj
  rw [ho, hk] at h1
  obtain ⟨hlt, he⟩ := List.getElem?_eq_some_iff.1 hc
  have e : (cs.drop j).take 1 = [c] := by rw [List.drop_eq_getElem_cons hlt, he]; rfl
  rw [e] at h1
  have hys : xs[j]? = some (xs[j]'(by omega)) := List.getElem?_eq_getElem (by omega)
  exact ⟨_, n, h1.trans hys⟩
theorem list_choose13 {α : Type} (P : Nat → α → Prop) : ∀ (n : Nat), (∀ i, i < n → ∃ x, P i x) → ∃ l : List α, l.length = n ∧ ∀ i x, l[i]? = some x → P i x := by
  intro n
  induction n with
  | zero => intro _; exact ⟨[], rfl, fun i x h => by simp at h⟩
  | succ n ih =>
    intro h
    obtain ⟨l, hl, hp⟩ := ih (fun i hi => h i (by omega))
    obtain ⟨x, hx⟩ := h n (by omega)
    refine ⟨l ++ [x], by simp [hl], fun i y hy => ?_⟩
    by_cases hi : i < n
    · rw [List.getElem?_append_left (by omega)] at hy
      exact hp i y hy
    · have hlt := (List.getElem?_eq_some_iff.1 hy).1
      simp only [List.length_append, List.length_singleton] at hlt
      have : i = n := by omega
      subst this
      rw [List.getElem?_append_right (by omega), hl, Nat.sub_self] at hy
      have : x = y := by simpa using hy
      rw [← this]; exact hx
theorem open_opp {H : Type} {enc : TypeId × Value → H} {w : World} {base : Nat} {held : Bool} {fuel : Nat} {cs : List Value} {y : DataW H × List MemPlace} (hl : cs.length = 4) (h : DataW.trod enc Try.prog w base (fun _ => true) held fuel 49 cs = some y) :
    ∃ (o : OpP) (ai : Option Addr) (ci : Nat), cs = [.int .i64 o.kind, .int .i64 o.k, .int .i64 o.n, .slice ai o.b.length ci] ∧ ValC w (.slice ai o.b.length ci) o.b ∧ (o.b.length ≤ 9223372036854775807 ∧ o.k ≤ 9223372036854775807) := by
  obtain ⟨c0, c1, c2, c3, rfl⟩ : ∃ a b c d, cs = [a, b, c, d] := by
    match cs, hl with
    | [a, b, c, d], _ => exact ⟨a, b, c, d, rfl⟩
  have hf := open_fields13 Try.underlying49 (by kernel_rfl) rfl h
  obtain ⟨_, _, h0⟩ := hf 0 _ _ rfl rfl
  obtain ⟨_, _, h1⟩ := hf 1 _ _ rfl rfl
  obtain ⟨_, _, h2⟩ := hf 2 _ _ rfl rfl
  obtain ⟨_, _, h3⟩ := hf 3 _ _ rfl rfl
  obtain ⟨s0, e0, _, z0⟩ := DataW.trod_int Try.underlying3 h0
  obtain ⟨s1, e1, _, z1⟩ := DataW.trod_int Try.underlying3 h1
  obtain ⟨s2, e2, _, z2⟩ := DataW.trod_int Try.underlying3 h2
  obtain rfl : c0 = .int .i64 s0 := by simpa using e0
  obtain rfl : c1 = .int .i64 s1 := by simpa using e1
  obtain rfl : c2 = .int .i64 s2 := by simpa using e2
  have hk : s1 ≤ 9223372036854775807 := by
    have := z1
    simp [Lit.wf, IntKind.min, IntKind.max, IntKind.signed, IntKind.bits] at this
    omega
  obtain ⟨a, n, c, zs, rfl, hrow⟩ : ∃ a n c zs, c3 = .slice a n c ∧ IsRow .u8 w a n c zs := by
    rcases open_ints Try.underlying25 Try.underlying5 (by kernel_rfl) h3 with ⟨hcs, _⟩ | ⟨x, l, c, zs, hcs, _, hl, hm, hz, _, hcell, hwz⟩
    · exact ⟨none, 0, 0, [], by simpa using hcs, .inl ⟨rfl, rfl, rfl, rfl⟩⟩
    · exact ⟨some x, l, c, zs, by simpa using hcs, .inr ⟨_, rfl, hl, hm, by simpa using hz, hcell, hwz⟩⟩
  obtain ⟨hv, hn⟩ := valC_of_is hrow
  have hlen := hv.open.1
  refine ⟨⟨s0, s1, s2, (zs.take n).map by8⟩, a, c, ?_, ?_, ?_, hk⟩
  · show [Value.int .i64 s0, .int .i64 s1, .int .i64 s2, .slice a n c] = [.int .i64 s0, .int .i64 s1, .int .i64 s2, .slice a ((zs.take n).map by8).length c]
    rw [hlen]
  · show ValC w (.slice a ((zs.take n).map by8).length c) _
    rw [hlen]
    exact hv
  · show ((zs.take n).map by8).length ≤ _
    rw [hlen]
    exact hn
theorem open_rowsOp {H : Type} {enc : TypeId × Value → H} {w : World} {base : Nat} {held : Bool} {fuel : Nat} {a : Option Addr} {len cap : Nat} {x : DataW H × List MemPlace} (h : DataW.trod enc Try.prog w base (fun _ => true) held fuel 37 (Value.slice a len cap).cells.toList = some x) :
    ∃ l, RowOp w a len l ∧ (a = none → len = 0 ∧ cap = 0) ∧ len ≤ maxLen := by
  have hc3 : Try.prog.cellsOf 49 = 4 := by kernel_rfl
  rcases open_slice Try.underlying37 h with ⟨hcs, _⟩ | ⟨a', len', cap', m, n, D, Pl, hcs, _, hl, hm, hmm, _, hi⟩
  · simp [Value.cells] at hcs
    obtain ⟨rfl, rfl, rfl⟩ := hcs
    exact ⟨[], ⟨rfl, Or.inl rfl⟩, fun _ => ⟨rfl, rfl⟩, Nat.zero_le _⟩
  · simp [Value.cells] at hcs
    obtain ⟨rfl, rfl, rfl⟩ := hcs
    rw [hc3] at hi
    have hlm : len ≤ m := by
      rw [hmm]; split <;> omega
    have hr : ∀ i, i < len → ∃ o : OpP, ∃ (ai : Option Addr) (ci : Nat), ValC w (.slice ai o.b.length ci) o.b ∧ (o.b.length ≤ 9223372036854775807 ∧ o.k ≤ 9223372036854775807) ∧ ∀ j, j < 4 → w.cell? ((a'.add (i * 4)).add j) = [Value.int .i64 o.kind, .int .i64 o.k, .int .i64 o.n, .slice ai o.b.length ci][j]? := fun i hil => by
      obtain ⟨cs', hc, ht⟩ := hi i (by omega)
      obtain ⟨_, hcl, hat⟩ := World.cells?_some hc
      obtain ⟨o, ai, ci, rfl, hv, hz⟩ := open_opp hcl ht
      exact ⟨o, ai, ci, hv, hz, fun j hj => hat j hj⟩
    obtain ⟨l, hll, hlp⟩ := list_choose13 _ len hr
    refine ⟨l, ⟨hll, ?_⟩, (fun h => by cases h), by omega⟩
    by_cases h0 : len = 0
    · exact Or.inl h0
    right
    obtain ⟨b, off, spot⟩ := a'
    obtain ⟨r0, hr0⟩ : ∃ r, l[0]? = some r := ⟨_, List.getElem?_eq_getElem (by omega)⟩
    obtain ⟨_, _, _, _, hz0⟩ := hlp 0 r0 hr0
    have hc0 := hz0 0 (by omega)
    have hc0' : w.cell? (((⟨b, off, spot⟩ : Addr).add (0 * 4)).add 0) = some (.int .i64 r0.kind) := hc0
    have hspot : spot = none := by simpa [Addr.add] using World.cell?_spot hc0'
    subst hspot
    refine ⟨b, off, rfl, ?_, fun j hj => ?_⟩
    · have := block_lt_of_cell hc0'
      simpa [Addr.add] using this
    · obtain ⟨r, hr1⟩ : ∃ r, l[j]? = some r := ⟨_, List.getElem?_eq_getElem (by omega)⟩
      obtain ⟨ai, ci, hv, hz, hat⟩ := hlp j r hr1
      have e : l.getD j opD = r := by rw [List.getD_eq_getElem?_getD, hr1]; rfl
      rw [e]
      have hx : ∀ i, i < 4 → w.cell? ⟨b, off + j * 4 + i, none⟩ = [Value.int .i64 r.kind, .int .i64 r.k, .int .i64 r.n, .slice ai r.b.length ci][i]? := fun i hi => by
        have h1 := hat i hi
        rw [Go.Deep.add_add] at h1
        rw [show (⟨b, off + j * 4 + i, none⟩ : Addr) = (⟨b, off, none⟩ : Addr).add (j * 4 + i) by rw [Nat.add_assoc]; simp only [Addr.add]; split <;> simp_all, h1]
      exact ⟨ai, ci, hx 0 (by omega), hx 1 (by omega), hx 2 (by omega), hx 3 (by omega), hv, hz⟩
end Go.Proofs.Ytocfphijheidbaa
