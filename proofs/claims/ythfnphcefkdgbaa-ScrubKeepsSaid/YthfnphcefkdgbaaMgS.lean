/- Texts that others rest on, one behind the other: OpR, Agg. -/
import Derived.Test.YthfnphcefkdgbaaFew4
import Derived.Deep.Slices
import Derived.Deep.Fields
import Derived.ChangeSame
import Derived.Test.YthfnphcefkdgbaaMgA
import Derived.ChangeArms
import Derived.WideShapes
section
namespace Go.Proofs.Ythfnphcefkdgbaa
open Go.ChangeShapes Go.WideShapes Go.RowKit Go.Deep

/-- A struct's cells, each with its field's reading. -/
theorem open_fields {H : Type} {enc : TypeId × Value → H} {P : Program} {w : World} {base : Nat} {spare : Nat → Bool} {held : Bool} {fuel : Nat} {t : TypeId} {fs : Array Field} {cs : List Value} {y : DataW H × List MemPlace}
    (hs : P.underlying t = some (.struct fs)) (hone : oneCellFields P fs = true) (hl : cs.length = fs.size) (h : DataW.trod enc P w base spare held fuel t cs = some y) :
    ∀ (j : Nat) (f : Field) (c : Value), fs[j]? = some f → cs[j]? = some c → ∃ y n, DataW.trod enc P w base spare held n f.type [c] = some y := by
  obtain ⟨xs, n, _, _, hcl, hlen, hg⟩ := DataW.trod_struct hs h
  intro j f c hj hc
  obtain ⟨ho, hk⟩ := hone_of hone j f hj
  have hjl : j < fs.size := (Array.getElem?_eq_some_iff.1 hj).1
  have h1 := hg j f hj
  rw [ho, hk] at h1
  obtain ⟨hlt, he⟩ := List.getElem?_eq_some_iff.1 hc
  have e : (cs.drop j).take 1 = [c] := by rw [List.drop_eq_getElem_cons hlt, he]; rfl
  rw [e] at h1
  have hys : xs[j]? = some (xs[j]'(by omega)) := List.getElem?_eq_getElem (by omega)
  exact ⟨_, n, h1.trans hys⟩
/-- A record out of its cells' readings. -/
theorem open_rr {H : Type} {enc : TypeId × Value → H} {w : World} {base : Nat} {spare : Nat → Bool} {held : Bool} {fuel : Nat} {cs : List Value} {y : DataW H × List MemPlace} (hl : cs.length = 5) (h : DataW.trod enc Try.prog w base spare held fuel 87 cs = some y) : ∃ r : R5, cs = encR r ∧ SzR r := by
  obtain ⟨c0, c1, c2, c3, c4, rfl⟩ : ∃ a b c d e, cs = [a, b, c, d, e] := by
    match cs, hl with
    | [a, b, c, d, e], _ => exact ⟨a, b, c, d, e, rfl⟩
  have hf := open_fields Try.underlying87 (by kernel_rfl) rfl h
  obtain ⟨_, _, h0⟩ := hf 0 _ _ rfl rfl
  obtain ⟨_, _, h1⟩ := hf 1 _ _ rfl rfl
  obtain ⟨_, _, h2⟩ := hf 2 _ _ rfl rfl
  obtain ⟨_, _, h3⟩ := hf 3 _ _ rfl rfl
  obtain ⟨_, _, h4⟩ := hf 4 _ _ rfl rfl
  obtain ⟨s0, e0, _, z0⟩ := DataW.trod_string Try.underlying9 h0
  obtain ⟨s1, e1, _, z1⟩ := DataW.trod_int Try.underlying3 h1
  obtain ⟨s2, e2, _, z2⟩ := DataW.trod_int Try.underlying3 h2
  obtain ⟨s3, e3, _, z3⟩ := DataW.trod_int Try.underlying3 h3
  obtain ⟨s4, e4, _, z4⟩ := DataW.trod_string Try.underlying9 h4
  obtain rfl : c0 = .string s0 := by simpa using e0
  obtain rfl : c1 = .int .i64 s1 := by simpa using e1
  obtain rfl : c2 = .int .i64 s2 := by simpa using e2
  obtain rfl : c3 = .int .i64 s3 := by simpa using e3
  obtain rfl : c4 = .string s4 := by simpa using e4
  unfold maxLen at z0 z4
  exact ⟨⟨⟨s0, s1, s2⟩, s3, s4⟩, rfl, z0, z4⟩
theorem list_choose {α : Type} (P : Nat → α → Prop) : ∀ (n : Nat), (∀ i, i < n → ∃ x, P i x) → ∃ l : List α, l.length = n ∧ ∀ i x, l[i]? = some x → P i x := by
  intro n
  induction n with
  | zero => intro _; exact ⟨[], rfl, fun i x h => by simp at h⟩
  | succ n ih =>
    intro h
    obtain ⟨l, hl, hp⟩ := ih (fun i hi => h i (by omega))
    obtain ⟨x, hx⟩ := h n (by omega)
    refine ⟨l ++ [x], by simp [hl], fun i y hy => ?_⟩
    by_cases hi : i < n
    · rw [List.getElem?_append_left (by omega)] at hy
      exact hp i y hy
    · have hlt := (List.getElem?_eq_some_iff.1 hy).1
      simp only [List.length_append, List.length_singleton] at hlt
      have : i = n := by omega
      subst this
      rw [List.getElem?_append_right (by omega), hl, Nat.sub_self] at hy
      have : x = y := by simpa using hy
      rw [← this]; exact hx
theorem open_rowsR {H : Type} {enc : TypeId × Value → H} {w : World} {base : Nat} {held : Bool} {fuel : Nat} {a : Option Addr} {len cap : Nat} {x : DataW H × List MemPlace} (h : DataW.trod enc Try.prog w base (fun _ => true) held fuel 75 (Value.slice a len cap).cells.toList = some x) :
    ∃ l, RowR w a len l ∧ (a = none → len = 0 ∧ cap = 0) ∧ len ≤ maxLen ∧ ∀ r ∈ l, SzR r := by
  have hc5 : Try.prog.cellsOf 87 = 5 := by kernel_rfl
  rcases open_slice Try.underlying75 h with ⟨hcs, _⟩ | ⟨a', len', cap', m, n, D, Pl, hcs, _, hl, hm, hmm, _, hi⟩
  · simp [Value.cells] at hcs
    obtain ⟨rfl, rfl, rfl⟩ := hcs
    exact ⟨[], ⟨rfl, ⟨rfl, Or.inl rfl⟩⟩, fun _ => ⟨rfl, rfl⟩, Nat.zero_le _, by simp⟩
  · simp [Value.cells] at hcs
    obtain ⟨rfl, rfl, rfl⟩ := hcs
    rw [hc5] at hi
    have hlm : len ≤ m := by
      rw [hmm]; split <;> omega
    have hr : ∀ i, i < len → ∃ r : R5, SzR r ∧ ∀ j, j < 5 → w.cell? ((a'.add (i * 5)).add j) = (encR r)[j]? := fun i hil => by
      obtain ⟨cs', hc, ht⟩ := hi i (by omega)
      obtain ⟨_, hcl, hat⟩ := World.cells?_some hc
      obtain ⟨r, rfl, hz⟩ := open_rr hcl ht
      exact ⟨r, hz, fun j hj => hat j hj⟩
    obtain ⟨l, hll, hlp⟩ := list_choose _ len hr
    refine ⟨l, ⟨hll, by rw [flatR_len, hll], ?_⟩, (fun h => by cases h), by omega, ?_⟩
    · by_cases h0 : len = 0
      · exact Or.inl (by rw [h0])
      right
      obtain ⟨b, off, spot⟩ := a'
      obtain ⟨r0, hr0⟩ : ∃ r, l[0]? = some r := ⟨_, List.getElem?_eq_getElem (by omega)⟩
      have hc0 := (hlp 0 r0 hr0).2 0 (by omega)
      have hc0' : w.cell? (((⟨b, off, spot⟩ : Addr).add (0 * 5)).add 0) = some (.string r0.k.n) := hc0
      have hspot : spot = none := by simpa [Addr.add] using World.cell?_spot hc0'
      subst hspot
      refine ⟨b, off, rfl, ?_, fun j u hj => ?_⟩
      · have := block_lt_of_cell hc0'
        simpa [Addr.add] using this
      · rw [flatR, flatMap_get encR 5 encR_len (by omega)] at hj
        cases hr1 : l[j / 5]? with
        | none => rw [hr1] at hj; cases hj
        | some r =>
          rw [hr1] at hj
          have h1 := (hlp (j / 5) r hr1).2 (j % 5) (Nat.mod_lt _ (by omega))
          rw [Go.Deep.add_add, show j / 5 * 5 + j % 5 = j by omega] at h1
          rw [show (⟨b, off + j, none⟩ : Addr) = (⟨b, off, none⟩ : Addr).add j by simp only [Addr.add]; split <;> simp_all, h1]
          exact hj
    · intro r hr'
      obtain ⟨i, hi'⟩ := List.getElem?_of_mem hr'
      exact (hlp i r hi').1
end Go.Proofs.Ythfnphcefkdgbaa
end

section
namespace Go.Proofs.Ythfnphcefkdgbaa
open Go.ChangeShapes Go.WideShapes Go.RowKit Go.Deep

/-- A struct of one-cell fields: its fields' readings. -/
theorem open_aggs {H : Type} {enc : TypeId × Value → H} {P : Program} {w : World} {base : Nat} {spare : Nat → Bool} {held : Bool} {r : Reach} {b0 : Nat} {t : TypeId} {fs : Array Field} {v : Value} {d : DataW H} {p : List MemPlace}
    (hs : P.underlying t = some (.struct fs)) (hone : oneCellFields P fs = true) (hC : P.cellsOf t = fs.size) (hv : Value.okWide P w r b0 t v) (h : DataW.Trod enc P w base spare held t v d p) :
    ∃ l : List Value, v = .agg ⟨l⟩ ∧ l.length = fs.size ∧ ∀ (j : Nat) (f : Field) (c : Value), fs[j]? = some f → l[j]? = some c → ∃ y n, DataW.trod enc P w base spare held n f.type [c] = some y := by
  obtain ⟨cs, rfl, hsz⟩ := okWide_struct hs hv
  obtain ⟨l⟩ := cs
  obtain ⟨fuel, hf⟩ := h
  obtain ⟨xs, n, _, _, hcl, hlen, hg⟩ := DataW.trod_struct hs hf
  have hl : l.length = fs.size := hsz.trans hC
  refine ⟨l, rfl, hl, fun j f c hj hc => ?_⟩
  obtain ⟨ho, hk⟩ := hone_of hone j f hj
  have hjl : j < fs.size := (Array.getElem?_eq_some_iff.1 hj).1
  have h1 := hg j f hj
  rw [ho, hk] at h1
  have e : (l.drop j).take 1 = [c] := by
    rw [List.drop_eq_getElem_cons (by omega)]
    rw [List.getElem?_eq_getElem (by omega)] at hc
    simp at hc
    simp [hc]
  simp only [Value.cells] at h1
  rw [e] at h1
  have hys : xs[j]? = some (xs[j]'(by omega)) := List.getElem?_eq_getElem (by omega)
  exact ⟨_, n, h1.trans hys⟩
theorem list3 {l : List Value} (h : l.length = 3) : ∃ a b c, l = [a, b, c] := by
  match l, h with
  | [a, b, c], _ => exact ⟨a, b, c, rfl⟩
theorem list4 {l : List Value} (h : l.length = 4) : ∃ a b c d, l = [a, b, c, d] := by
  match l, h with
  | [a, b, c, d], _ => exact ⟨a, b, c, d, rfl⟩
theorem list5 {l : List Value} (h : l.length = 5) : ∃ a b c d e, l = [a, b, c, d, e] := by
  match l, h with
  | [a, b, c, d, e], _ => exact ⟨a, b, c, d, e, rfl⟩
theorem list7 {l : List Value} (h : l.length = 7) : ∃ a b c d e f g, l = [a, b, c, d, e, f, g] := by
  match l, h with
  | [a, b, c, d, e, f, g], _ => exact ⟨a, b, c, d, e, f, g, rfl⟩
end Go.Proofs.Ythfnphcefkdgbaa
end
