/- Flat: the records of sets. -/
import Derived.Test.YtmhiglhgkgannaaRec
namespace Go.Proofs.Ytmhiglhgkgannaa
open Go.RowKit

theorem flatP_append (A B : List SetP) : flatP (A ++ B) = flatP A ++ flatP B := List.flatMap_append
theorem flatP_take (L : List SetP) (k : Nat) (s : SetP) (h : L[k]? = some s) : flatP (L.take (k + 1)) = flatP (L.take k) ++ recs s := by
  rw [List.take_add_one, h, flatP_append]
  simp [flatP]
theorem flatP_le (L : List SetP) (k : Nat) : (flatP (L.take k)).length ≤ (flatP L).length := by
  have h : flatP L = flatP (L.take k) ++ flatP (L.drop k) := by rw [← flatP_append, List.take_append_drop]
  rw [h, List.length_append]; omega
theorem flatR_append (A B : List R5) : flatR (A ++ B) = flatR A ++ flatR B := List.flatMap_append

end Go.Proofs.Ytmhiglhgkgannaa
