/- Plain facts: two lists of labels. -/
import Derived.Test.YtngncdmmlkcekaaJn
import Derived.Test.YtngncdmmlkcekaaTreP
namespace Go.Proofs.Ytngncdmmlkcekaa
open Go.RowKit

theorem tx_left {A B : List ByteArray} {k : Nat} (h : k < A.length) : tx (A ++ B) k = tx A k := by rw [tx, tx, List.getD_eq_getElem?_getD, List.getD_eq_getElem?_getD, List.getElem?_append_left h]
theorem tx_right (A B : List ByteArray) (k : Nat) : tx (A ++ B) (A.length + k) = tx B k := by
  rw [tx, tx, List.getD_eq_getElem?_getD, List.getD_eq_getElem?_getD, List.getElem?_append_right (by omega), Nat.add_sub_cancel_left]
theorem txt_left (A B : List ByteArray) : ∀ k, k ≤ A.length → txtTo (A ++ B) k = txtTo A k := by
  intro k
  induction k with
  | zero => intro _; rfl
  | succ k ih => intro h; rw [txtTo, txtTo, ih (by omega), tx_left (by omega)]
theorem txt_right (A B : List ByteArray) : ∀ k, txtTo (A ++ B) (A.length + k) = txtTo A A.length ++ txtTo B k := by
  intro k
  induction k with
  | zero => rw [Nat.add_zero, txt_left A B _ (Nat.le_refl _)]; simp [txtTo]
  | succ k ih => rw [← Nat.add_assoc, txtTo, ih, tx_right, txtTo, List.append_assoc]
theorem off_both (A B : List ByteArray) : off (A ++ B) (A ++ B).length = off A A.length + off B B.length := by
  rw [off, List.length_append, txt_right, List.length_append]; rfl
theorem nameL_both (A B : List ByteArray) : nameL (A ++ B) = txtTo A A.length ++ nameL B := by rw [nameL, nameL, List.length_append, txt_right, List.append_assoc]
theorem jScan_both (A B : List ByteArray) : jScan (A ++ B) = if jScan A = 0 then jScan B else jScan A := by
  induction A with
  | nil => rfl
  | cons s A ih =>
    have e1 : jScan (s :: A ++ B) = if s.size = 0 then 4 else if 63 < s.size then 3 else jScan (A ++ B) := rfl
    have e2 : jScan (s :: A) = if s.size = 0 then 4 else if 63 < s.size then 3 else jScan A := rfl
    by_cases h1 : s.size = 0
    · rw [if_pos h1] at e1 e2; rw [e1, e2]; rfl
    · rw [if_neg h1] at e1 e2
      by_cases h2 : 63 < s.size
      · rw [if_pos h2] at e1 e2; rw [e1, e2]; rfl
      · rw [if_neg h2] at e1 e2; rw [e1, e2]; exact ih
theorem jScan_all {L : List ByteArray} (h : jScan L = 0) : ∀ k, k < L.length → 1 ≤ (tx L k).size ∧ (tx L k).size ≤ 63 := by
  induction L with
  | nil => intro k hk; simp at hk
  | cons s L ih =>
    simp only [jScan] at h
    by_cases h1 : s.size = 0
    · rw [if_pos h1] at h; cases h
    · rw [if_neg h1] at h
      by_cases h2 : 63 < s.size
      · rw [if_pos h2] at h; cases h
      · rw [if_neg h2] at h
        intro k hk
        cases k with
        | zero => rw [tx_cons_zero]; omega
        | succ k => rw [tx_cons_succ]; exact ih h k (by simpa using hk)
/-- Two lists' errors. -/
theorem join_no2 (A B : List ByteArray) (h : joinE2 A ≠ 0 ∨ joinE2 B ≠ 0) : joinE2 (A ++ B) ≠ 0 := by
  unfold joinE2 at *
  rw [jScan_both, off_both]
  by_cases h1 : jScan A = 0
  · rw [if_pos h1] at h ⊢
    by_cases h2 : jScan B = 0
    · rw [if_pos h2] at h ⊢
      rw [if_pos]
      · decide
      · rcases h with h | h
        · by_cases h3 : 255 < off A A.length + 1
          · omega
          · rw [if_neg h3] at h; exact absurd rfl h
        · by_cases h3 : 255 < off B B.length + 1
          · omega
          · rw [if_neg h3] at h; exact absurd rfl h
    · rw [if_neg h2]; exact h2
  · rw [if_neg h1, if_neg h1]; exact h1
theorem join_ok {L : List ByteArray} (h : joinE2 L = 0) : jScan L = 0 ∧ off L L.length ≤ 254 ∧ joinS2 L = lowS (nameB L) := by
  have hs : joinS2 L = lowS (nameB L) := by rw [joinS2, if_pos h]
  unfold joinE2 at h
  by_cases h1 : jScan L = 0
  · rw [if_pos h1] at h
    by_cases h2 : 255 < off L L.length + 1
    · rw [if_pos h2] at h; cases h
    · exact ⟨h1, by omega, hs⟩
  · rw [if_neg h1] at h; exact absurd h h1
theorem join_two {A B : List ByteArray} (hA : joinE2 A = 0) (hB : joinE2 B = 0) : joinE2 (A ++ B) = if 255 < off A A.length + off B B.length + 1 then 3 else 0 := by
  obtain ⟨a1, _, _⟩ := join_ok hA
  obtain ⟨b1, _, _⟩ := join_ok hB
  unfold joinE2
  rw [jScan_both, if_pos a1, if_pos b1, off_both]
theorem low1_small {b : UInt8} (h : b.toNat < 65) : low1 b = b := low1_no (by simp [great]; omega)
theorem low_txt (L : List ByteArray) : ∀ k, k ≤ L.length → (∀ j, j < k → (tx L j).size ≤ 63) → (txtTo L k).map low1 = txtTo (L.map lowS) k := by
  intro k
  induction k with
  | zero => intro _ _; rfl
  | succ k ih =>
    intro hk h
    have e : tx (L.map lowS) k = lowS (tx L k) := by
      rw [tx, tx, List.getD_eq_getElem?_getD, List.getD_eq_getElem?_getD, List.getElem?_map, List.getElem?_eq_getElem (by omega)]
      rfl
    have h2 := h k (by omega)
    rw [txtTo, txtTo, List.map_append, ih (by omega) (fun j hj => h j (by omega)), e, List.map_cons, lowS_size, low1_small]
    · rfl
    · rw [UInt8.toNat_ofNat_of_lt' (by have : UInt8.size = 256 := rfl; omega)]; omega
theorem low_name {L : List ByteArray} (h : ∀ j, j < L.length → (tx L j).size ≤ 63) : lowS (nameB L) = nameB (L.map lowS) := by
  have h1 := low_txt L L.length (Nat.le_refl _) h
  have h2 : ((nameB L).data.toList).map low1 = nameL (L.map lowS) := by
    show (nameL L).map low1 = _
    rw [nameL, nameL, List.map_append, h1, List.length_map]
    rfl
  rw [lowS, h2]
  rfl
theorem great_low (b : UInt8) : great (low1 b).toNat = false := by
  cases h : great b.toNat
  · rw [low1_no h]; exact h
  · have h2 := low1_yes h
    simp only [great, decide_eq_true_eq] at h
    rw [h2]
    simp [great]; omega
theorem anyG_low (s : ByteArray) : ∀ k, anyG (lowS s) 0 k = false := by
  intro k
  induction k with
  | zero => rfl
  | succ k ih =>
    rw [anyG, ih, Bool.false_or, Nat.zero_add]
    by_cases hk : k < s.size
    · have hk' : k < s.data.toList.length := by rw [size_data]; exact hk
      have : byteAt (lowS s) k = (low1 (s.data.toList[k])).toNat := by
        rw [lowS, byteAt_bs, List.getD_eq_getElem?_getD, List.getElem?_map, List.getElem?_eq_getElem hk']
        rfl
      rw [this]; exact great_low _
    · have : byteAt (lowS s) k = 0 := by
        rw [lowS, byteAt_bs, List.getD_eq_getElem?_getD, List.getElem?_eq_none (by rw [List.length_map, size_data]; omega)]
        rfl
      rw [this]; rfl
theorem low_ok {L : List ByteArray} (h : ∀ j, j < L.length → 1 ≤ (tx L j).size ∧ (tx L j).size ≤ 63) : OkL (L.map lowS) := by
  intro k hk
  rw [List.length_map] at hk
  have e : tx (L.map lowS) k = lowS (tx L k) := by
    rw [tx, tx, List.getD_eq_getElem?_getD, List.getD_eq_getElem?_getD, List.getElem?_map, List.getElem?_eq_getElem hk]
    rfl
  have h2 := h k hk
  rw [e, lowS_size]
  exact ⟨h2.1, h2.2, anyG_low _ _⟩
theorem low_off {L : List ByteArray} (h : ∀ j, j < L.length → (tx L j).size ≤ 63) : off (L.map lowS) (L.map lowS).length = off L L.length := by
  have h1 := congrArg List.length (low_txt L L.length (Nat.le_refl _) h)
  rw [List.length_map] at h1
  rw [off, List.length_map, ← h1]
  rfl
/-- What two lists make. -/
theorem parts_fact {A B : List ByteArray} (hA : joinE2 A = 0) (hB : joinE2 B = 0) (hz : off A A.length + off B B.length ≤ 254) :
    joinS2 (A ++ B) = (joinS2 A).extract 0 ((joinS2 A).size - 1) ++ joinS2 B ∧ undS (joinS2 (A ++ B)) (joinS2 B) = true ∧ ∃ L, OkL L ∧ off L L.length ≤ 254 ∧ joinS2 (A ++ B) = nameB L ∧ L.length = A.length + B.length := by
  have hAB : joinE2 (A ++ B) = 0 := by rw [join_two hA hB, if_neg (by omega)]
  obtain ⟨a1, a2, a3⟩ := join_ok hA
  obtain ⟨b1, b2, b3⟩ := join_ok hB
  obtain ⟨c1, c2, c3⟩ := join_ok hAB
  have sA := jScan_all a1
  have sB := jScan_all b1
  have sC := jScan_all c1
  have nB := low_name (L := B) (fun j hj => (sB j hj).2)
  have nC := low_name (L := A ++ B) (fun j hj => (sC j hj).2)
  have oB := low_off (L := B) (fun j hj => (sB j hj).2)
  have oC := low_off (L := A ++ B) (fun j hj => (sC j hj).2)
  have kB := low_ok sB
  have kC := low_ok sC
  refine ⟨?_, ?_, (A ++ B).map lowS, kC, by rw [oC]; exact c2, by rw [c3, nC], by rw [List.length_map, List.length_append]⟩
  · rw [c3, a3, b3]
    apply ba_eq
    rw [ByteArray.data_append, Array.toList_append, extract_toList, lowS_size]
    show (nameL (A ++ B)).map low1 = ((((nameL A).map low1).drop 0).take ((nameB A).size - 1 - 0)) ++ ((nameL B).map low1)
    rw [nameL_both, List.map_append, List.drop_zero, nameB_size, nameL, List.map_append]
    have e : ((txtTo A A.length).map low1).length = off A A.length + 1 - 1 - 0 := by rw [List.length_map]; rfl
    rw [← e, show List.map low1 (nameL A) = List.map low1 (txtTo A A.length) ++ List.map low1 [0] by rw [nameL, List.map_append], List.take_left]
  · rw [c3, b3, nC, nB, undS, labels_may kC (by rw [oC]; exact c2), labels_may kB (by rw [oB]; exact b2), labs_name kC (by rw [oC]; exact c2), labs_name kB (by rw [oB]; exact b2)]
    simp only [Bool.true_and]
    refine (undL_iff _ _).2 ⟨A.length, by simp, ?_⟩
    rw [List.map_append, List.drop_left' (by simp)]
end Go.Proofs.Ytngncdmmlkcekaa
