/- The contract of name.Common (chapter 2), over this seat's translation. -/
import Derived.Test.YtgdbbdbfaglkdaaUn2
namespace Go.Proofs.Ytgdbbdbfaglkdaa
open Go.RowKit

noncomputable def comS (n : ByteArray) (ms : List ByteArray) : ByteArray := if (mayN n && ms.all mayN) = true then nameB (comN (labs n) (ms.map labs)) else ⟨#[]⟩
theorem off_drop (L : List ByteArray) (k : Nat) (hk : k ≤ L.length) : off (L.drop k) (L.drop k).length ≤ off L L.length := by
  have h := congrArg List.length (name_drop L k hk)
  rw [nameL_length, List.length_drop, size_data, nameB_size] at h
  omega
theorem comN_ok {L : List ByteArray} (hL : OkL L) (hz : off L L.length ≤ 254) (Ms : List (List ByteArray)) : OkL (comN L Ms) ∧ off (comN L Ms) (comN L Ms).length ≤ 254 := by
  obtain ⟨k, hk, h1, _⟩ := comN_drop L Ms
  rw [h1]
  exact ⟨drop_ok hL k, Nat.le_trans (off_drop L k hk) hz⟩
theorem tail_ok {L : List ByteArray} (hL : OkL L) (hz : off L L.length ≤ 254) (h : L ≠ []) : OkL L.tail ∧ off L.tail L.tail.length ≤ 254 ∧ parS L = nameB L.tail ∧ (nameB L.tail).size < (nameB L).size := by
  cases L with
  | nil => exact absurd rfl h
  | cons s L =>
    have h1 := off_drop (s :: L) 1 (by simp)
    refine ⟨okL_tail hL, Nat.le_trans h1 hz, rfl, ?_⟩
    have e1 : (nameB L).size = (nameL L).length := by rw [nameB, bs_size]
    have e2 : (nameB (s :: L)).size = (nameL (s :: L)).length := by rw [nameB, bs_size]
    show (nameB L).size < _
    rw [e1, e2, nameL_cons]
    simp; omega

end Go.Proofs.Ytgdbbdbfaglkdaa
