/- Find: the first set of a key. -/
import Derived.Test.YtgdhbelcellabaaSkE
namespace Go.Proofs.Ytgdhbelcellabaa
open Go.RowKit

/-- The first set of a key. -/
noncomputable def findK (L : List SetP) (k : Ky) : Option SetP := open Classical in L.find? (fun s => decide (s.k = k))
/-- What Find answers. -/
def Found (L : List SetP) (k : Ky) (B : Nat) (e : Ending) (w' : World) : Prop :=
  (∃ s dv, findK L k = some s ∧ e = .returned (.tuple #[.agg #[.string s.k.n, .int .i64 s.k.t, .int .i64 s.k.c, .int .i64 s.ttl, dv], .bool true]) ∧ w'.ownsRow B 9 1 dv s.data.length (sc s.data)) ∨ (findK L k = none ∧ e = .returned (.tuple #[.agg #[.string ⟨#[]⟩, .int .i64 0, .int .i64 0, .int .i64 0, .slice none 0 0], .bool false]))
theorem findK_none {L : List SetP} {k : Ky} {j : Nat} (h : ∀ s ∈ L.take j, s.k ≠ k) (hj : L.length ≤ j) : findK L k = none := by
  rw [List.take_of_length_le hj] at h
  exact List.find?_eq_none.2 fun s hs => by simpa using h s hs
theorem findK_some {L : List SetP} {k : Ky} {j : Nat} {s : SetP} (h : ∀ s ∈ L.take j, s.k ≠ k) (hs : L[j]? = some s) (hk : s.k = k) : findK L k = some s := by
  obtain ⟨hlt, he⟩ := List.getElem?_eq_some_iff.1 hs
  have h1 : L = L.take j ++ s :: L.drop (j + 1) := by
    rw [← he, ← List.drop_eq_getElem_cons hlt, List.take_append_drop]
  have h2 : (L.take j).find? (fun s => open Classical in decide (s.k = k)) = none := List.find?_eq_none.2 fun s hs => by simpa using h s hs
  rw [h1, findK, List.find?_append, h2]
  simp [hk]

end Go.Proofs.Ytgdhbelcellabaa
