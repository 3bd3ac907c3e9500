/- What the writer of messages lays down for a name, and the places that it keeps (plain). -/
import Derived.Test.YtgppkpdjpcegbaaMgA
import Derived.Test.YtgppkpdjpcegbaaMgC
import Derived.Maps.OwnSet
namespace Go.Proofs.Ytgppkpdjpcegbaa
open Go.RowKit

/-- Where a name (its labels) was first written. -/
abbrev Pls := List ByteArray → Option Nat
def setPl (f : Pls) (L : List ByteArray) (p : Nat) : Pls := fun M => if M = L then some p else f M
theorem setPl_same (f : Pls) (L : List ByteArray) (p : Nat) : setPl f L p L = some p := if_pos rfl
theorem setPl_other (f : Pls) {L M : List ByteArray} (p : Nat) (h : M ≠ L) : setPl f L p M = f M := if_neg h
/-- .. if it can be told by its place. -/
def putPl (f : Pls) (L : List ByteArray) (n : Nat) : Pls := if n < 16384 then setPl f L n else f
theorem putPl_other (f : Pls) {L M : List ByteArray} (n : Nat) (h : M ≠ L) : putPl f L n M = f M := by
  unfold putPl
  split
  · exact setPl_other f n h
  · rfl
/-- The row and the places behind a name. -/
def wNm : Pls → List UInt8 → List ByteArray → List UInt8 × Pls
  | f, X, [] => (X ++ [0], f)
  | f, X, s :: L => match f (s :: L) with
    | some p => (X ++ joinL 2 [(49152 : Int) + p], f)
    | none => wNm (putPl f (s :: L) X.length) (X ++ (UInt8.ofNat s.size :: s.data.toList)) L
theorem wNm_yes {f : Pls} {X : List UInt8} {s : ByteArray} {L : List ByteArray} {p : Nat} (h : f (s :: L) = some p) : wNm f X (s :: L) = (X ++ joinL 2 [(49152 : Int) + p], f) := by rw [wNm, h]
theorem wNm_no {f : Pls} {X : List UInt8} {s : ByteArray} {L : List ByteArray} (h : f (s :: L) = none) : wNm f X (s :: L) = wNm (putPl f (s :: L) X.length) (X ++ (UInt8.ofNat s.size :: s.data.toList)) L := by rw [wNm, h]
theorem fits_place {p : Nat} (h : p < 16384) : fits ((49152 : Int) + p) 2 = true := by
  unfold fits
  have e : (2 : Int) ^ (8 * (2 : Int).toNat) = 65536 := by decide
  simp only [decide_eq_true_eq]
  refine ⟨by omega, by omega, by omega, ?_⟩
  rw [e]; omega
theorem place_len {p : Nat} (h : p < 16384) : (joinL 2 [(49152 : Int) + p]).length = 2 := by
  have hj : joinOk 2 [(49152 : Int) + p] = true := join_yes (by omega) (fun j hj => by
    have : j = 0 := by simp at hj; omega
    subst this
    exact fits_place h)
  rw [joinL, if_pos hj, joinTo_length]
  rfl
/-- How much a name takes whose end C was told ahead, and no longer end of it. -/
theorem wNm_len (C : List ByteArray) : ∀ (A : List ByteArray) (f : Pls) (X : List UInt8), (∀ k, k < A.length → f (A.drop k ++ C) = none) → (C = [] ∨ ∃ p, p < 16384 ∧ f C = some p) →
    (wNm f X (A ++ C)).1.length = X.length + (txtTo A A.length).length + (if C = [] then 1 else 2)
  | [], f, X, _, hC => by
    cases C with
    | nil => simp [wNm, txtTo]
    | cons s L =>
      rcases hC with hC | ⟨p, hp, hf⟩
      · cases hC
      · show (wNm f X (s :: L)).1.length = _
        rw [wNm_yes hf, List.length_append, place_len hp, if_neg (by simp)]
        simp [txtTo]
  | s :: A, f, X, hA, hC => by
    have h0 : f (s :: (A ++ C)) = none := hA 0 (by simp)
    show (wNm f X (s :: (A ++ C))).1.length = _
    rw [wNm_no h0, wNm_len C A _ _ (fun k hk => by
        rw [putPl_other _ _ (fun e => by
          have := congrArg List.length e
          simp at this
          omega)]
        exact hA (k + 1) (by simp; omega))
      (hC.imp id (fun ⟨p, hp, hf⟩ => ⟨p, hp, by
        rw [putPl_other _ _ (fun e => by
          have := congrArg List.length e
          simp at this
          omega)]
        exact hf⟩))]
    simp only [List.length_cons, List.length_append, txtTo_cons]
    omega
/-- The places behind a name whose ends were not told ahead. -/
theorem wNm_pls : ∀ (L : List ByteArray) (f : Pls) (X : List UInt8), (∀ k, k < L.length → f (L.drop k) = none) → X.length + (txtTo L L.length).length ≤ 16384 →
    (∀ k, k < L.length → (wNm f X L).2 (L.drop k) = some (X.length + (txtTo L k).length)) ∧ ∀ M, (∀ k, k < L.length → M ≠ L.drop k) → (wNm f X L).2 M = f M
  | [], f, X, _, _ => ⟨fun k hk => by simp at hk, fun M _ => rfl⟩
  | s :: L, f, X, hf, hz => by
    have h0 : f (s :: L) = none := hf 0 (by simp)
    have hl : (txtTo (s :: L) (s :: L).length).length = 1 + s.data.toList.length + (txtTo L L.length).length := by
      show (txtTo (s :: L) (L.length + 1)).length = _
      rw [txtTo_cons]; simp only [List.length_cons, List.length_append]; omega
    rw [hl] at hz
    obtain ⟨g1, g2⟩ := wNm_pls L (putPl f (s :: L) X.length) (X ++ (UInt8.ofNat s.size :: s.data.toList)) (fun k hk => by
        rw [putPl_other _ _ (fun e => by
          have := congrArg List.length e
          simp at this
          omega)]
        exact hf (k + 1) (by simp; omega)) (by simp only [List.length_cons, List.length_append]; omega)
    rw [wNm_no h0]
    refine ⟨fun k hk => ?_, fun M hM => ?_⟩
    · cases k with
      | zero =>
        show (wNm _ _ L).2 (s :: L) = _
        rw [g2 _ (fun k hk e => by
          have := congrArg List.length e
          simp at this
          omega)]
        unfold putPl
        rw [if_pos (by omega), setPl_same]
        rfl
      | succ k =>
        show (wNm _ _ L).2 (L.drop k) = _
        rw [g1 k (by simpa using hk), txtTo_cons]
        simp only [List.length_cons, List.length_append]
        congr 1
        omega
    · rw [g2 M (fun k hk => hM (k + 1) (by simp; omega))]
      exact putPl_other _ _ (hM 0 (by simp))
end Go.Proofs.Ytgppkpdjpcegbaa
