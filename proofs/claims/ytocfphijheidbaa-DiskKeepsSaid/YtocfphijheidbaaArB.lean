/- Slices of bytes that came in. -/
import Derived.Test.YtocfphijheidbaaBRx
import Derived.Test.YtocfphijheidbaaMgW
namespace Go.Proofs.Ytocfphijheidbaa
open Go.RowKit

theorem rowB_of_is {w : World} {a : Option Addr} {len cap : Nat} {zs : List Int} (h : IsRow .u8 w a len cap zs) : RowB w a len ((zs.take len).map by8) ∧ (a = none → len = 0 ∧ cap = 0) ∧ len ≤ cap ∧ cap ≤ maxLen := by
  rcases h with ⟨rfl, rfl, rfl, rfl⟩ | ⟨x, rfl, hl, hm, hz, hcell, hwf⟩
  · exact ⟨⟨rfl, Or.inl rfl⟩, fun _ => ⟨rfl, rfl⟩, Nat.le_refl _, Nat.zero_le _⟩
  · refine ⟨⟨by rw [bc_length, List.length_map, List.length_take]; omega, ?_⟩, (fun h => by cases h), hl, hm⟩
    by_cases h0 : len = 0
    · exact Or.inl h0
    right
    obtain ⟨b, off, spot⟩ := x
    have hc := hcell 0 (by omega)
    have hspot : spot = none := by simpa [Addr.add] using World.cell?_spot hc
    subst hspot
    refine ⟨b, off, rfl, ?_, fun i x hi => ?_⟩
    · have := block_lt_of_cell hc
      simpa [Addr.add] using this
    · have hi2 : i < len := by
        have := (List.getElem?_eq_some_iff.1 hi).1
        rw [bc_length, List.length_map, List.length_take] at this; omega
      have := hcell i (by omega)
      rw [show (⟨b, off, none⟩ : Addr).add i = ⟨b, off + i, none⟩ by simp only [Addr.add]; split <;> simp_all] at this
      rw [this]
      have hz2 : i < zs.length := by omega
      have hwf2 := hwf zs[i] (List.getElem_mem hz2)
      have hb := by8_toNat zs[i]
      have hr : 0 ≤ zs[i] ∧ zs[i] < 256 := by
        have := hwf2
        simp [Lit.wf, IntKind.min, IntKind.max, IntKind.signed, IntKind.bits] at this
        omega
      rw [bc, List.getElem?_map, List.getElem?_map, List.getElem?_take, if_pos hi2, List.getElem?_eq_getElem hz2] at hi
      simp only [Option.map_some, Option.some.injEq] at hi
      rw [← hi, hb, List.getD_eq_getElem?_getD, List.getElem?_eq_getElem hz2]
      simp; omega

theorem valC_of_is {w : World} {a : Option Addr} {len cap : Nat} {zs : List Int} (h : IsRow .u8 w a len cap zs) : ValC w (.slice a len cap) ((zs.take len).map by8) ∧ len ≤ 9223372036854775807 := by
  obtain ⟨h1, h2, h3, h4⟩ := rowB_of_is h
  have hl : ((zs.take len).map by8).length = len := h1.len
  unfold maxLen at h4
  exact ⟨⟨a, cap, by rw [hl], by rw [hl]; exact h3, by rw [hl]; exact h1, by rw [hl]; exact h2⟩, by omega⟩
theorem getD_boundC {w : World} {a : Option Addr} {n : Nat} {M : List (List UInt8)} (h : RowBC w a n M) (hs : ∀ m ∈ M, m.length ≤ maxLen) : ∀ k, k < n → (M.getD k []).length ≤ 9223372036854775807 := by
  intro k hk
  have h2 := h.len
  have hkl : k < M.length := by omega
  have := hs M[k] (List.getElem_mem hkl)
  unfold maxLen at this
  rw [List.getD_eq_getElem?_getD, List.getElem?_eq_getElem hkl]
  simp only [Option.getD_some]
  omega
end Go.Proofs.Ytocfphijheidbaa
