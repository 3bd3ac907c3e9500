/- Plain facts: the order of names, what is under what, what many have in common. -/
import Derived.Test.YtgdbbdbfaglkdaaLab
import Derived.Lib.Bytealg
import Derived.Lib.Small
namespace Go.Proofs.Ytgdbbdbfaglkdaa
open Go.RowKit

def cmpB (a b : ByteArray) : Int := Lib.compareBytes a.data.toList b.data.toList
/-- Labels from the end, one behind the other. -/
def cmpLab : List ByteArray → List ByteArray → Int
  | [], [] => 0
  | [], _ :: _ => -1
  | _ :: _, [] => 1
  | a :: x, b :: y => if cmpB a b = 0 then cmpLab x y else cmpB a b
def cmpN (L M : List ByteArray) : Int := cmpLab L.reverse M.reverse
theorem take_rev (L : List ByteArray) (k : Nat) (hk : k < L.length) : (L.take (k + 1)).reverse = tx L k :: (L.take k).reverse := by
  rw [List.take_succ_eq_append_getElem hk, List.reverse_append, List.reverse_singleton, List.singleton_append, tx, List.getD_eq_getElem?_getD, List.getElem?_eq_getElem hk]
  rfl
theorem cmp_step (L M : List ByteArray) (i j : Nat) (hi : i < L.length) (hj : j < M.length) : cmpLab (L.take (i + 1)).reverse (M.take (j + 1)).reverse = if cmpB (tx L i) (tx M j) = 0 then cmpLab (L.take i).reverse (M.take j).reverse else cmpB (tx L i) (tx M j) := by
  rw [take_rev L i hi, take_rev M j hj]; rfl
theorem cmp_end (L M : List ByteArray) (i j : Nat) (hi : i ≤ L.length) (hj : j ≤ M.length) (h : i = 0 ∨ j = 0) : cmpLab (L.take i).reverse (M.take j).reverse = Lib.compareInt i j := by
  cases i with
  | zero =>
    cases j with
    | zero => rfl
    | succ j => rw [take_rev M j (by omega)]; simp only [List.take_zero, List.reverse_nil, cmpLab, Lib.compareInt]; rw [if_pos (by omega)]
  | succ i =>
    have : j = 0 := by omega
    subst this
    rw [take_rev L i (by omega)]
    simp only [List.take_zero, List.reverse_nil, cmpLab, Lib.compareInt]
    rw [if_neg (by omega), if_pos (by omega)]
theorem cmpN_all (L M : List ByteArray) : cmpN L M = cmpLab (L.take L.length).reverse (M.take M.length).reverse := by rw [List.take_length, List.take_length]; rfl

/-- Are the last labels of L those of M? -/
def undL (L M : List ByteArray) : Bool := decide (M.length ≤ L.length ∧ L.drop (L.length - M.length) = M)
theorem undL_iff (L M : List ByteArray) : undL L M = true ↔ ∃ k, k ≤ L.length ∧ L.drop k = M := by
  unfold undL
  rw [decide_eq_true_eq]
  constructor
  · rintro ⟨_, h2⟩
    exact ⟨_, by omega, h2⟩
  · rintro ⟨k, hk, rfl⟩
    rw [List.length_drop]
    refine ⟨by omega, ?_⟩
    rw [show L.length - (L.length - k) = k by omega]
theorem undL_refl (L : List ByteArray) : undL L L = true := (undL_iff L L).2 ⟨0, by omega, rfl⟩
theorem undL_nil (L : List ByteArray) : undL L [] = true := (undL_iff L []).2 ⟨L.length, by omega, by simp⟩
theorem undL_tail {L : List ByteArray} {a : ByteArray} {M : List ByteArray} (h : undL L (a :: M) = true) : undL L M = true := by
  obtain ⟨k, hk, h⟩ := (undL_iff _ _).1 h
  refine (undL_iff _ _).2 ⟨k + 1, ?_, ?_⟩
  · have := congrArg List.length h
    simp at this
    omega
  · rw [← List.drop_drop, h]
    rfl
theorem undL_drop {L M : List ByteArray} (h : undL L M = true) (k : Nat) : undL L (M.drop k) = true := by
  obtain ⟨j, hj, rfl⟩ := (undL_iff _ _).1 h
  rw [List.drop_drop]
  by_cases h : j + k ≤ L.length
  · exact (undL_iff _ _).2 ⟨_, h, rfl⟩
  · rw [List.drop_eq_nil_of_le (by omega)]; exact undL_nil L

/-- The longest end of L that all are under. -/
def comN : List ByteArray → List (List ByteArray) → List ByteArray
  | [], _ => []
  | a :: L, Ms => if Ms.all (fun M => undL M (a :: L)) = true then a :: L else comN L Ms
theorem comN_yes {L : List ByteArray} {Ms : List (List ByteArray)} (h : Ms.all (fun M => undL M L) = true) : comN L Ms = L := by
  cases L with
  | nil => rfl
  | cons a L => rw [comN, if_pos h]
theorem comN_no {L : List ByteArray} {Ms : List (List ByteArray)} (h : Ms.all (fun M => undL M L) = false) : comN L Ms = comN L.tail Ms := by
  cases L with
  | nil => rfl
  | cons a L => rw [comN, h]; rfl
theorem comN_drop (L : List ByteArray) (Ms : List (List ByteArray)) : ∃ k, k ≤ L.length ∧ comN L Ms = L.drop k ∧ Ms.all (fun M => undL M (L.drop k)) = true := by
  induction L with
  | nil => exact ⟨0, by simp, rfl, by simp only [List.drop_nil, List.all_eq_true]; intro M _; exact undL_nil M⟩
  | cons a L ih =>
    cases h : Ms.all (fun M => undL M (a :: L))
    · obtain ⟨k, hk, h1, h2⟩ := ih
      exact ⟨k + 1, by simp; omega, by rw [comN_no h]; exact h1, h2⟩
    · exact ⟨0, by simp, comN_yes h, h⟩
theorem comN_nil (L : List ByteArray) : comN L [] = L := comN_yes rfl
/-- One more. -/
theorem comN_more (L : List ByteArray) (A : List (List ByteArray)) (M : List ByteArray) : comN L (A ++ [M]) = comN (comN L A) [M] := by
  induction L with
  | nil => rfl
  | cons a L ih =>
    cases h : A.all (fun M => undL M (a :: L))
    · have h2 : (A ++ [M]).all (fun M => undL M (a :: L)) = false := by rw [List.all_append, h]; rfl
      rw [comN_no h, comN_no h2]
      exact ih
    · rw [comN_yes h]
      cases h3 : undL M (a :: L)
      · have h2 : (A ++ [M]).all (fun M => undL M (a :: L)) = false := by rw [List.all_append, h]; simp [h3]
        have h4 : [M].all (fun M => undL M (a :: L)) = false := by simp [h3]
        rw [comN_no h2, comN_no h4]
        -- all that were under the longer one are under the shorter
        have key : ∀ N : List ByteArray, A.all (fun M => undL M N) = true → comN N (A ++ [M]) = comN N [M] := by
          intro N
          induction N with
          | nil => intro _; rfl
          | cons b N ihN =>
            intro hN
            have hN2 : A.all (fun M => undL M N) = true := by
              rw [List.all_eq_true] at hN ⊢
              intro x hx
              exact undL_tail (hN x hx)
            cases h5 : undL M (b :: N)
            · rw [comN_no (show (A ++ [M]).all (fun M => undL M (b :: N)) = false by rw [List.all_append, hN]; simp [h5]), comN_no (show [M].all (fun M => undL M (b :: N)) = false by simp [h5])]
              exact ihN hN2
            · rw [comN_yes (show (A ++ [M]).all (fun M => undL M (b :: N)) = true by rw [List.all_append, hN]; simp [h5]), comN_yes (show [M].all (fun M => undL M (b :: N)) = true by simp [h5])]
        apply key
        rw [List.all_eq_true] at h ⊢
        intro x hx
        exact undL_tail (h x hx)
      · have h2 : (A ++ [M]).all (fun M => undL M (a :: L)) = true := by rw [List.all_append, h]; simp [h3]
        have h4 : [M].all (fun M => undL M (a :: L)) = true := by simp [h3]
        rw [comN_yes h2, comN_yes h4]
end Go.Proofs.Ytgdbbdbfaglkdaa
