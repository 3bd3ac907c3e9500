/- Contracts of name.Under, and of the document's (chapter 2), over this seat's translation. -/
import Derived.Test.YtgdbbdbfaglkdaaPar
import Derived.Test.YtgdbbdbfaglkdaaLabs
import Derived.Lib.Walk
namespace Go.Proofs.Ytgdbbdbfaglkdaa
open Go.RowKit

theorem nameL_length (L : List ByteArray) : (nameL L).length = off L L.length + 1 := by rw [nameL]; simp [off]
theorem off_lt (L : List ByteArray) (hL : OkL L) {i j : Nat} (h : i < j) (hj : j ≤ L.length) : off L i < off L j := by
  have h1 := off_succ L i
  obtain ⟨g, _, _⟩ := hL i (by omega)
  have h2 := off_mono L (show i + 1 ≤ j by omega)
  omega
theorem drop_ok {L : List ByteArray} (hL : OkL L) (k : Nat) : OkL (L.drop k) := by
  intro j hj
  have e : tx (L.drop k) j = tx L (k + j) := by rw [tx, tx, List.getD_eq_getElem?_getD, List.getD_eq_getElem?_getD, List.getElem?_drop]
  rw [e]
  exact hL _ (by rw [List.length_drop] at hj; omega)
/-- Under by bytes: an end of the bytes that begins where a label begins. -/
theorem und_suffix {L M : List ByteArray} (h : undL L M = true) : Lib.hasSuffix (nameL L) (nameL M) = true := by
  obtain ⟨k, hk, rfl⟩ := (undL_iff _ _).1 h
  have := name_drop L k hk
  show (nameL (L.drop k)).isSuffixOf (nameL L) = true
  rw [List.isSuffixOf_iff_suffix, ← this]
  exact List.drop_suffix _ _
theorem suffix_drop {L M : List ByteArray} (h : Lib.hasSuffix (nameL L) (nameL M) = true) : (nameL M).length ≤ (nameL L).length ∧ (nameL L).drop ((nameL L).length - (nameL M).length) = nameL M := by
  have h1 : nameL M <:+ nameL L := List.isSuffixOf_iff_suffix.1 h
  obtain ⟨t, ht⟩ := h1
  refine ⟨by rw [← ht]; simp, ?_⟩
  rw [← ht]
  simp
theorem suffix_und {L M : List ByteArray} (hL : OkL L) (hM : OkL M) (h : Lib.hasSuffix (nameL L) (nameL M) = true) {k : Nat} (hk : k ≤ L.length) (he : off L k + off M M.length = off L L.length) : undL L M = true := by
  obtain ⟨h1, h2⟩ := suffix_drop h
  refine (undL_iff _ _).2 ⟨k, hk, ?_⟩
  have h3 := name_drop L k hk
  rw [nameL_length, nameL_length, show off L L.length + 1 - (off M M.length + 1) = off L k by omega] at h2
  have h4 : nameL (L.drop k) = nameL M := h3.symm.trans h2
  exact nameL_inj (drop_ok hL k) hM h4
theorem und_off {L M : List ByteArray} (h : undL L M = true) : ∃ k, k ≤ L.length ∧ off L k + off M M.length = off L L.length := by
  obtain ⟨k, hk, rfl⟩ := (undL_iff _ _).1 h
  refine ⟨k, hk, ?_⟩
  have h3 := congrArg List.length (name_drop L k hk)
  rw [nameL_length, List.length_drop] at h3
  have h4 : (nameB L).data.toList.length = off L L.length + 1 := by rw [size_data, nameB_size]
  have := off_mono L hk
  omega

end Go.Proofs.Ytgdbbdbfaglkdaa
