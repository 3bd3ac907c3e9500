/- Contracts of name.Under at any texts, and of the document's (chapter 2), over this seat's translation. -/
import Derived.Test.YtgdbbdbfaglkdaaUnd
import Derived.Test.YtgdbbdbfaglkdaaCpN
namespace Go.Proofs.Ytgdbbdbfaglkdaa
open Go.RowKit

theorem toList_inj {s t : ByteArray} (h : s.toList = t.toList) : s = t := ba_eq (by rw [← Lib.toList_data, ← Lib.toList_data]; exact h)
theorem undL_all (L M : List ByteArray) (h : M.length ≤ L.length) : undL L M = true ↔ ∀ j, j < M.length → tx L (L.length - (j + 1)) = tx M (M.length - (j + 1)) := by
  unfold undL
  rw [decide_eq_true_eq]
  constructor
  · rintro ⟨_, h2⟩ j hj
    have e : tx M (M.length - (j + 1)) = tx L (L.length - M.length + (M.length - (j + 1))) := by
      conv => lhs; rw [← h2]
      rw [tx, tx, List.getD_eq_getElem?_getD, List.getD_eq_getElem?_getD, List.getElem?_drop, List.length_drop]
      congr 3; omega
    rw [e]; congr 1; omega
  · intro h2
    refine ⟨h, List.ext_getElem (by rw [List.length_drop]; omega) ?_⟩
    intro i h3 h4
    have h5 := h2 (M.length - (i + 1)) (by omega)
    rw [show M.length - (M.length - (i + 1) + 1) = i by omega, show L.length - (M.length - (i + 1) + 1) = L.length - M.length + i by omega] at h5
    rw [tx, tx, List.getD_eq_getElem?_getD, List.getD_eq_getElem?_getD, List.getElem?_eq_getElem h4, List.getElem?_eq_getElem (by omega)] at h5
    rw [List.getElem_drop]
    exact h5

end Go.Proofs.Ytgdbbdbfaglkdaa
