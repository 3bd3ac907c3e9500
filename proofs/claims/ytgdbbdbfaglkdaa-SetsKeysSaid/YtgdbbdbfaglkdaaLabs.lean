/- Plain facts: the labels of a name; the order of any two texts. -/
import Derived.Test.YtgdbbdbfaglkdaaOrd
namespace Go.Proofs.Ytgdbbdbfaglkdaa
open Go.RowKit

/-- The labels of a name. -/
noncomputable def labs (s : ByteArray) : List ByteArray := if h : mayN s = true then Classical.choose (may_labels h) else []
theorem labs_spec {s : ByteArray} (h : mayN s = true) : OkL (labs s) ∧ off (labs s) (labs s).length ≤ 254 ∧ s = nameB (labs s) := by
  have h2 := Classical.choose_spec (may_labels h)
  rw [labs, dif_pos h]
  exact h2
theorem labs_no {s : ByteArray} (h : mayN s = false) : labs s = [] := by rw [labs, dif_neg (by rw [h]; simp)]
theorem labs_name {L : List ByteArray} (hL : OkL L) (hz : off L L.length ≤ 254) : labs (nameB L) = L := by
  obtain ⟨h1, h2, h3⟩ := labs_spec (labels_may hL hz)
  exact nameB_inj h1 hL h3.symm
theorem labs_eq {s : ByteArray} {L : List ByteArray} (hL : OkL L) (hz : off L L.length ≤ 254) (h : s = nameB L) : labs s = L := by rw [h]; exact labs_name hL hz
/-- The order of any two texts. -/
noncomputable def cmpS (a b : ByteArray) : Int := if mayN a = true then (if mayN b = true then cmpN (labs a) (labs b) else -1) else if mayN b = true then 1 else cmpB a b
noncomputable def undS (a b : ByteArray) : Bool := mayN a && mayN b && undL (labs a) (labs b)
end Go.Proofs.Ytgdbbdbfaglkdaa
