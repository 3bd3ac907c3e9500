/- ZoneCuts: the walk. -/
import Derived.Test.YtfopfplpfhncfaaGreatZnI
namespace Go.Proofs.YtfopfplpfhncfaaGreat
open Go.RowKit

theorem cutI_some {S : List SetP} {P : Nat → ByteArray} : ∀ (r i : Nat) (acc : Option SetP) (X : SetP), cutI S P r i acc = some X → acc = some X ∨ ∃ j, i ≤ j ∧ j < i + r ∧ X.k = ⟨P j, 2, 1⟩
  | 0, i, acc, X, h => Or.inl h
  | r + 1, i, acc, X, h => by
    rw [cutI] at h
    rcases cutI_some r (i + 1) _ X h with h1 | ⟨j, h1, h2, h3⟩
    · split at h1
      · rename_i s hs
        obtain rfl := Option.some.inj h1
        refine Or.inr ⟨i, Nat.le_refl _, by omega, ?_⟩
        rw [findK] at hs
        have := List.find?_some hs
        simpa using this
      · exact Or.inl h1
    · exact Or.inr ⟨j, by omega, by omega, h3⟩
theorem eqB_refl (a : ByteArray) : (a.toList == a.toList) = true := by simp
theorem found_k {S : List SetP} {k : Ky} {s : SetP} (h : findK S k = some s) : s.k = k := by
  rw [findK] at h
  have := List.find?_some h
  simpa using this
end Go.Proofs.YtfopfplpfhncfaaGreat
