/- Slices of bytes, and slices of slices of bytes, whose lengths are within their room; apart from a block that is written to. -/
import Derived.Test.YtocfphijheidbaaMgW
namespace Go.Proofs.Ytocfphijheidbaa
open Go.RowKit

/-- A slice's value reads as bytes. -/
def ValC (w : World) (u : Value) (m : List UInt8) : Prop := ∃ a c, u = .slice a m.length c ∧ m.length ≤ c ∧ RowB w a m.length m ∧ (a = none → m.length = 0 ∧ c = 0)
theorem ValC.below {w w' : World} {u : Value} {m : List UInt8} (h : ValC w u m) (hb : Below w.heap.size w w') : ValC w' u m := by
  obtain ⟨a, c, h1, h0, h2, h3⟩ := h
  exact ⟨a, c, h1, h0, CellsAt.below h2 hb, h3⟩
theorem ValC.b {w : World} {u : Value} {m : List UInt8} (h : ValC w u m) : ValB w u m := by
  obtain ⟨a, c, h1, _, h2, h3⟩ := h
  exact ⟨a, c, h1, h2, h3⟩
theorem ValC.own {w : World} {B n : Nat} {v : Value} {m : List UInt8} (h : w.ownsRow B 5 1 v n (bc m)) : ValC w v m := by
  obtain ⟨a, c, h1, h2, h3⟩ := ValB.own h
  refine ⟨a, c, h1, ?_, h2, h3⟩
  rcases h.2 with ⟨e, _⟩ | ⟨g, cap, cur, e, _, _, h4, _⟩
  · rw [e] at h1
    injection h1 with _ e1 e2
    omega
  · rw [e] at h1
    injection h1 with _ e1 e2
    omega
/-- The slices of a slice. -/
def RowBC (w : World) (a : Option Addr) (n : Nat) (M : List (List UInt8)) : Prop :=
  ∃ cs, CellsAt w a n cs ∧ M.length = n ∧ ∀ j u, cs[j]? = some u → ValC w u (M.getD j [])
theorem RowBC.below {w w' : World} {a : Option Addr} {n : Nat} {M : List (List UInt8)} (h : RowBC w a n M) (hb : Below w.heap.size w w') : RowBC w' a n M := by
  obtain ⟨cs, h1, h2, h3⟩ := h
  exact ⟨cs, h1.below hb, h2, fun j u hj => (h3 j u hj).below hb⟩
theorem RowBC.bb {w : World} {a : Option Addr} {n : Nat} {M : List (List UInt8)} (h : RowBC w a n M) : RowBB w a n M := by
  obtain ⟨cs, h1, h2, h3⟩ := h
  exact ⟨cs, h1, h2, fun j u hj => (h3 j u hj).b⟩
theorem RowBC.len {w : World} {a : Option Addr} {n : Nat} {M : List (List UInt8)} (h : RowBC w a n M) : M.length = n := h.choose_spec.2.1
theorem RowBC.at {w : World} {a : Option Addr} {n : Nat} {M : List (List UInt8)} (h : RowBC w a n M) (j : Nat) (hj : j < n) : ∃ b off ai ci, a = some ⟨b, off, none⟩ ∧ b < w.heap.size ∧ w.cell? ⟨b, off + j, none⟩ = some (.slice ai (M.getD j []).length ci) ∧ (M.getD j []).length ≤ ci ∧ RowB w ai (M.getD j []).length (M.getD j []) ∧ (ai = none → (M.getD j []).length = 0 ∧ ci = 0) := by
  obtain ⟨cs, h1, h2, h3⟩ := h
  have hl := h1.1
  rcases h1.2 with h0 | ⟨b, off, rfl, hlt, hc⟩
  · omega
  · obtain ⟨u, hu⟩ : ∃ u, cs[j]? = some u := ⟨cs[j]'(by omega), List.getElem?_eq_getElem (by omega)⟩
    obtain ⟨ai, ci, rfl, hm, hr, hn⟩ := h3 j u hu
    exact ⟨b, off, ai, ci, rfl, hlt, hc j _ hu, hm, hr, hn⟩

/-- What the reading of a slice of slices of bytes gives. -/
theorem open_rowsC {H : Type} {enc : TypeId × Value → H} {w : World} {base : Nat} {held : Bool} {fuel : Nat} {a : Option Addr} {len cap : Nat} {x : DataW H × List MemPlace} (h : DataW.trod enc Try.prog w base (fun _ => true) held fuel 22 (Value.slice a len cap).cells.toList = some x) :
    (a = none → len = 0 ∧ cap = 0) ∧ len ≤ maxLen ∧ ∃ M, RowBC w a len M ∧ ∀ m ∈ M, m.length ≤ maxLen := by
  rcases Go.Deep.open_int_rows Try.underlying22 Try.underlying25 Try.underlying5 (by kernel_rfl) (by kernel_rfl) h with ⟨hcs, _⟩ | ⟨a', len', cap', A, L, C, Z, hcs, _, hl, hm, _, hall⟩
  · simp [Value.cells] at hcs
    obtain ⟨rfl, rfl, rfl⟩ := hcs
    exact ⟨fun _ => ⟨rfl, rfl⟩, Nat.zero_le _, [], ⟨[], ⟨rfl, Or.inl rfl⟩, rfl, fun j u h => by simp at h⟩, by simp⟩
  · simp [Value.cells] at hcs
    obtain ⟨rfl, rfl, rfl⟩ := hcs
    refine ⟨(fun h => by cases h), by omega, (List.range len).map (fun r => ((Z r).take (L r)).map by8), ⟨(List.range len).map (fun r => Value.slice (A r) (L r) (C r)), ⟨by simp, ?_⟩, by simp, ?_⟩, ?_⟩
    · by_cases h0 : len = 0
      · exact Or.inl h0
      right
      obtain ⟨b, off, spot⟩ := a'
      have hc := (hall 0 (by omega)).1
      have hspot : spot = none := by simpa [Addr.add] using World.cell?_spot hc
      subst hspot
      refine ⟨b, off, rfl, ?_, fun j u hj => ?_⟩
      · have := block_lt_of_cell hc
        simpa [Addr.add] using this
      · have hj2 : j < len := by
          have := (List.getElem?_eq_some_iff.1 hj).1
          simpa using this
        have := (hall j (by omega)).1
        rw [show (⟨b, off, none⟩ : Addr).add j = ⟨b, off + j, none⟩ by simp only [Addr.add]; split <;> simp_all] at this
        rw [this]
        simp [hj2] at hj
        rw [hj]
    · intro j u hj
      have hj2 : j < len := by
        have := (List.getElem?_eq_some_iff.1 hj).1
        simpa using this
      simp [hj2] at hj
      subst hj
      obtain ⟨_, k1, k2, k3, k4, k5, k6⟩ := hall j (by omega)
      have hml : (((Z j).take (L j)).map by8).length = L j := by rw [List.length_map, List.length_take]; omega
      have e : ((List.range len).map (fun r => ((Z r).take (L r)).map by8)).getD j [] = ((Z j).take (L j)).map by8 := by
        rw [List.getD_eq_getElem?_getD]; simp [hj2]
      rw [e]
      refine ⟨A j, C j, by rw [hml], by rw [hml]; exact k1, ?_, fun hA => ?_⟩
      · rw [hml]
        refine ⟨by rw [bc_length, hml], ?_⟩
        by_cases h0 : L j = 0
        · exact Or.inl h0
        right
        cases hA : A j with
        | none => have := k5 hA; omega
        | some a2 =>
          obtain ⟨_, hc⟩ := k6 a2 hA
          obtain ⟨b2, off2, spot2⟩ := a2
          have hc0 := hc 0 (by omega)
          have hspot : spot2 = none := by simpa [Addr.add] using World.cell?_spot hc0
          subst hspot
          refine ⟨b2, off2, rfl, ?_, fun i x hi => ?_⟩
          · have := block_lt_of_cell hc0
            simpa [Addr.add] using this
          · have hi2 : i < L j := by
              have := (List.getElem?_eq_some_iff.1 hi).1
              rw [bc_length, hml] at this; exact this
            have := hc i (by omega)
            rw [show (⟨b2, off2, none⟩ : Addr).add i = ⟨b2, off2 + i, none⟩ by simp only [Addr.add]; split <;> simp_all] at this
            rw [this]
            have hz : i < (Z j).length := by omega
            have hwf := k4 (Z j)[i] (List.getElem_mem hz)
            have hb := by8_toNat (Z j)[i]
            have hr : 0 ≤ (Z j)[i] ∧ (Z j)[i] < 256 := by
              have := hwf
              simp [Lit.wf, IntKind.min, IntKind.max, IntKind.signed, IntKind.bits] at this
              omega
            rw [bc, List.getElem?_map, List.getElem?_map, List.getElem?_take, if_pos hi2, List.getElem?_eq_getElem hz] at hi
            simp only [Option.map_some, Option.some.injEq] at hi
            rw [← hi, hb, List.getD_eq_getElem?_getD, List.getElem?_eq_getElem hz]
            simp; omega
      · have := k5 hA
        rw [hml]; omega
    · intro m hm
      simp at hm
      obtain ⟨r, hr, rfl⟩ := hm
      obtain ⟨_, k1, k2, k3, _⟩ := hall r (by omega)
      simp; omega
end Go.Proofs.Ytocfphijheidbaa
