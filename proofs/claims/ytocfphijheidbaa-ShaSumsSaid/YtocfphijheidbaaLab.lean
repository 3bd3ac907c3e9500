/- Plain facts: a name is its labels. -/
import Derived.Test.YtocfphijheidbaaNm
import Derived.Test.YtocfphijheidbaaTx
namespace Go.Proofs.Ytocfphijheidbaa
open Go.RowKit

def strOf : Value → Nat
  | .string x => x.size
  | _ => 0
/-- The name of labels. -/
def nameL (L : List ByteArray) : List UInt8 := txtTo L L.length ++ [0]
def nameB (L : List ByteArray) : ByteArray := bs (nameL L)
/-- Where the k-th label begins. -/
def off (L : List ByteArray) (k : Nat) : Nat := (txtTo L k).length
def OkL (L : List ByteArray) : Prop := ∀ k, k < L.length → 1 ≤ (tx L k).size ∧ (tx L k).size ≤ 63 ∧ anyG (tx L k) 0 (tx L k).size = false

theorem off_succ (L : List ByteArray) (k : Nat) : off L (k + 1) = off L k + 1 + (tx L k).size := txtTo_len L k
theorem off_zero (L : List ByteArray) : off L 0 = 0 := rfl
theorem off_mono (L : List ByteArray) {k n : Nat} (h : k ≤ n) : off L k ≤ off L n := by
  induction n with
  | zero =>
    have : k = 0 := by omega
    subst this; exact Nat.le_refl _
  | succ n ih =>
    by_cases e : k = n + 1
    · subst e; exact Nat.le_refl _
    · have := ih (by omega)
      rw [off_succ]; omega
theorem nameB_size (L : List ByteArray) : (nameB L).size = off L L.length + 1 := by rw [nameB, bs_size, nameL]; simp [off]
theorem tx_cons_zero (s : ByteArray) (L : List ByteArray) : tx (s :: L) 0 = s := rfl
theorem tx_cons_succ (s : ByteArray) (L : List ByteArray) (k : Nat) : tx (s :: L) (k + 1) = tx L k := by simp [tx]
theorem txtTo_cons (s : ByteArray) (L : List ByteArray) (k : Nat) : txtTo (s :: L) (k + 1) = UInt8.ofNat s.size :: (s.data.toList ++ txtTo L k) := by
  induction k with
  | zero => simp [txtTo, tx_cons_zero]
  | succ k ih =>
    rw [txtTo, ih, tx_cons_succ, txtTo]
    simp
theorem nameL_cons (s : ByteArray) (L : List ByteArray) : nameL (s :: L) = UInt8.ofNat s.size :: (s.data.toList ++ nameL L) := by
  rw [nameL, nameL, List.length_cons, txtTo_cons]
  simp
theorem byteAt_drop (s : ByteArray) (a j : Nat) : byteAt s (a + j) = ((s.data.toList.drop a).getD j 0).toNat := by
  rw [byteAt, List.getD_eq_getElem?_getD, List.getD_eq_getElem?_getD, List.getElem?_drop]
theorem extract_toList (s : ByteArray) (a b : Nat) : (s.extract a b).data.toList = (s.data.toList.drop a).take (b - a) := by
  rw [ByteArray.data_extract, Array.toList_extract, List.extract_eq_take_drop]
theorem ba_eq {s t : ByteArray} (h : s.data.toList = t.data.toList) : s = t := ByteArray.ext (Array.toList_inj.1 h)
theorem size_data (s : ByteArray) : s.data.toList.length = s.size := by simp

theorem okL_cons {s : ByteArray} {L : List ByteArray} (h1 : 1 ≤ s.size ∧ s.size ≤ 63 ∧ anyG s 0 s.size = false) (h : OkL L) : OkL (s :: L) := by
  intro k hk
  cases k with
  | zero => exact h1
  | succ k => rw [tx_cons_succ]; exact h k (by simpa using hk)
theorem okL_tail {s : ByteArray} {L : List ByteArray} (h : OkL (s :: L)) : OkL L := by
  intro k hk
  have := h (k + 1) (by simpa using hk)
  rwa [tx_cons_succ] at this

/-- A run that ends well is labels. -/
theorem run_labels (s : ByteArray) : ∀ d at', s.size - at' ≤ d → at' < s.size → mayRun s s.size at' = true → ∃ L, OkL L ∧ s.data.toList.drop at' = nameL L := by
  intro d
  induction d with
  | zero => intro at' h1 h2; omega
  | succ d ih =>
    intro at' h1 h2 hm
    by_cases hlt : at' + 1 < s.size
    · rw [mayRun_step s at' hlt, Bool.and_eq_true] at hm
      obtain ⟨hok, hm⟩ := hm
      obtain ⟨b, hb⟩ : ∃ b, byteAt s at' = b := ⟨_, rfl⟩
      rw [okStep, hb] at hok
      simp only [Bool.and_eq_true, decide_eq_true_eq, Bool.not_eq_true'] at hok
      obtain ⟨⟨⟨k1, k2⟩, k3⟩, k4⟩ := hok
      rw [hb] at hm
      obtain ⟨L, hL, hd⟩ := ih (at' + 1 + b) (by omega) k3 hm
      have hsz : (s.extract (at' + 1) (at' + 1 + b)).size = b := by rw [extract_size _ _ _ (by omega)]; omega
      refine ⟨s.extract (at' + 1) (at' + 1 + b) :: L, okL_cons ⟨by omega, by omega, ?_⟩ hL, ?_⟩
      · rw [hsz, ← k4]
        refine anyG_congr fun j hj => ?_
        rw [Nat.zero_add, byteAt_extract _ _ _ _ (by omega) (by omega)]
      · rw [nameL_cons, hsz, extract_toList, ← hd]
        have hl : at' < s.data.toList.length := by rw [size_data]; omega
        rw [List.drop_eq_getElem_cons hl]
        have hb' : s.data.toList[at'] = UInt8.ofNat b := by
          rw [← hb, byteAt, List.getD_eq_getElem?_getD, List.getElem?_eq_getElem hl]
          simp
        rw [hb', show at' + 1 + b - (at' + 1) = b by omega]
        congr 1
        have := (List.take_append_drop b (s.data.toList.drop (at' + 1))).symm
        rw [List.drop_drop] at this
        exact this
    · rw [mayRun_end s _ at' hlt, beq_iff_eq] at hm
      refine ⟨[], fun k hk => by simp at hk, ?_⟩
      have hl : at' < s.data.toList.length := by rw [size_data]; omega
      rw [List.drop_eq_getElem_cons hl]
      have h0 : s.data.toList[at'] = 0 := by
        rw [byteAt, List.getD_eq_getElem?_getD, List.getElem?_eq_getElem hl] at hm
        exact UInt8.toNat_inj.1 hm
      rw [h0, List.drop_eq_nil_of_le (by rw [size_data]; omega)]
      rfl
theorem may_labels {s : ByteArray} (h : mayN s = true) : ∃ L, OkL L ∧ off L L.length ≤ 254 ∧ s = nameB L := by
  simp only [mayN, Bool.and_eq_true, decide_eq_true_eq] at h
  obtain ⟨⟨h1, h2⟩, h3⟩ := h
  obtain ⟨L, hL, hd⟩ := run_labels s s.size 0 (by omega) (by omega) h3
  have hs : s = nameB L := ba_eq (by rw [List.drop_zero] at hd; rw [hd, nameB]; rfl)
  refine ⟨L, hL, ?_, hs⟩
  have := nameB_size L
  rw [← hs] at this
  omega

theorem name_drop (L : List ByteArray) (k : Nat) (hk : k ≤ L.length) : (nameB L).data.toList.drop (off L k) = nameL (L.drop k) := by
  induction k generalizing L with
  | zero => rfl
  | succ k ih =>
    cases L with
    | nil => simp at hk
    | cons s L =>
      have h1 := ih L (by simpa using hk)
      have e : off (s :: L) (k + 1) = (s.size + off L k) + 1 := by
        rw [off, txtTo_cons, off]; simp
      rw [e]
      show (nameL (s :: L)).drop _ = _
      rw [nameL_cons, List.drop_succ_cons, ← List.drop_drop]
      have : (s.data.toList ++ nameL L).drop s.size = nameL L := by
        rw [← size_data, List.drop_left]
      rw [this]
      exact h1
theorem drop_cons_tx (L : List ByteArray) (k : Nat) (hk : k < L.length) : L.drop k = tx L k :: L.drop (k + 1) := by
  rw [List.drop_eq_getElem_cons hk, tx, List.getD_eq_getElem?_getD, List.getElem?_eq_getElem hk]
  rfl
/-- What stands at a label's beginning. -/
theorem name_byte (L : List ByteArray) (k : Nat) (hk : k < L.length) (h : (tx L k).size ≤ 255) : byteAt (nameB L) (off L k) = (tx L k).size := by
  have := byteAt_drop (nameB L) (off L k) 0
  rw [Nat.add_zero] at this
  rw [this, name_drop L k (by omega), drop_cons_tx L k hk, nameL_cons]
  exact UInt8.toNat_ofNat_of_lt' (by have : UInt8.size = 256 := rfl; omega)
theorem name_end (L : List ByteArray) : byteAt (nameB L) (off L L.length) = 0 := by
  have := byteAt_drop (nameB L) (off L L.length) 0
  rw [Nat.add_zero] at this
  rw [this, name_drop L _ (Nat.le_refl _), List.drop_length]
  rfl
theorem name_label (L : List ByteArray) (k : Nat) (hk : k < L.length) : (nameB L).extract (off L k + 1) (off L k + 1 + (tx L k).size) = tx L k := by
  apply ba_eq
  rw [extract_toList, ← List.drop_drop, name_drop L k (by omega), drop_cons_tx L k hk, nameL_cons]
  rw [show off L k + 1 + (tx L k).size - (off L k + 1) = (tx L k).data.toList.length by rw [size_data]; omega]
  rw [List.drop_succ_cons, List.drop_zero, List.take_left]
theorem name_suffix (L : List ByteArray) (k : Nat) (hk : k ≤ L.length) : (nameB L).extract (off L k) (nameB L).size = nameB (L.drop k) := by
  apply ba_eq
  rw [extract_toList, name_drop L k hk, List.take_of_length_le]
  · rfl
  · rw [← name_drop L k hk, List.length_drop, size_data]; omega

theorem labels_run (L : List ByteArray) (h : OkL L) : ∀ d k, L.length - k = d → k ≤ L.length → mayRun (nameB L) (nameB L).size (off L k) = true := by
  intro d
  induction d with
  | zero =>
    intro k h1 h2
    have : k = L.length := by omega
    subst this
    rw [mayRun_end _ _ _ (by rw [nameB_size]; omega), name_end]
    rfl
  | succ d ih =>
    intro k h1 h2
    have hk : k < L.length := by omega
    obtain ⟨g1, g2, g3⟩ := h k hk
    have hs := off_succ L k
    have hm := off_mono L (show k + 1 ≤ L.length by omega)
    rw [mayRun_step _ _ (by rw [nameB_size]; omega), name_byte L k hk (by omega), show off L k + 1 + (tx L k).size = off L (k + 1) by omega, ih (k + 1) (by omega) (by omega), Bool.and_true]
    rw [okStep, name_byte L k hk (by omega)]
    simp only [Bool.and_eq_true, decide_eq_true_eq, Bool.not_eq_true']
    refine ⟨⟨⟨g1, g2⟩, by rw [nameB_size]; omega⟩, ?_⟩
    rw [← g3]
    refine anyG_congr fun j hj => ?_
    rw [Nat.zero_add, ← byteAt_extract (nameB L) (off L k + 1) (off L k + 1 + (tx L k).size) j (by rw [nameB_size]; omega) (by omega), name_label L k hk]
theorem labels_may {L : List ByteArray} (h : OkL L) (hsz : off L L.length ≤ 254) : mayN (nameB L) = true := by
  have hz := nameB_size L
  simp only [mayN, Bool.and_eq_true, decide_eq_true_eq]
  exact ⟨by omega, labels_run L h L.length 0 (by omega) (by omega)⟩
/-- One name, one list of labels. -/
theorem nameL_inj {L M : List ByteArray} (hL : OkL L) (hM : OkL M) (h : nameL L = nameL M) : L = M := by
  induction L generalizing M with
  | nil =>
    cases M with
    | nil => rfl
    | cons t M =>
      obtain ⟨g1, g2, _⟩ := hM 0 (by simp)
      rw [tx_cons_zero] at g1 g2
      rw [nameL_cons] at h
      have h0 : (0 : UInt8) = UInt8.ofNat t.size := (List.cons.inj h).1
      have := congrArg UInt8.toNat h0
      rw [UInt8.toNat_ofNat_of_lt' (by have : UInt8.size = 256 := rfl; omega)] at this
      simp at this
      exact absurd this (by omega)
  | cons s L ih =>
    obtain ⟨g1, g2, _⟩ := hL 0 (by simp)
    rw [tx_cons_zero] at g1 g2
    cases M with
    | nil =>
      rw [nameL_cons] at h
      have h0 : UInt8.ofNat s.size = 0 := (List.cons.inj h).1
      have := congrArg UInt8.toNat h0
      rw [UInt8.toNat_ofNat_of_lt' (by have : UInt8.size = 256 := rfl; omega)] at this
      have h9 : (0 : UInt8).toNat = 0 := rfl
      omega
    | cons t M =>
      obtain ⟨f1, f2, _⟩ := hM 0 (by simp)
      rw [tx_cons_zero] at f1 f2
      rw [nameL_cons, nameL_cons] at h
      obtain ⟨h0, h1⟩ := List.cons.inj h
      have h2 := congrArg UInt8.toNat h0
      rw [UInt8.toNat_ofNat_of_lt' (by have : UInt8.size = 256 := rfl; omega), UInt8.toNat_ofNat_of_lt' (by have : UInt8.size = 256 := rfl; omega)] at h2
      obtain ⟨k1, k2⟩ := List.append_inj h1 (by rw [size_data, size_data]; exact h2)
      rw [ba_eq k1, ih (okL_tail hL) (okL_tail hM) k2]
theorem nameB_inj {L M : List ByteArray} (hL : OkL L) (hM : OkL M) (h : nameB L = nameB M) : L = M := by
  apply nameL_inj hL hM
  have := congrArg (fun s : ByteArray => s.data.toList) h
  exact this
end Go.Proofs.Ytocfphijheidbaa
