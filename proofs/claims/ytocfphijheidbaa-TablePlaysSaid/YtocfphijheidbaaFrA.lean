/- Plain facts of chapter 7: messages one behind the other, each with its length ahead. -/
import Derived.Test.YtocfphijheidbaaMgW
namespace Go.Proofs.Ytocfphijheidbaa
open Go.RowKit

def head2 (m : List UInt8) : List UInt8 := [UInt8.ofNat (m.length / 256), UInt8.ofNat m.length]
def frameL (M : List (List UInt8)) : List UInt8 := M.flatMap fun m => head2 m ++ m
/-- The bytes of all. -/
def sumL (M : List (List UInt8)) : Nat := (M.map List.length).foldr (· + ·) 0
theorem sumL_cons (m : List UInt8) (M : List (List UInt8)) : sumL (m :: M) = m.length + sumL M := rfl
theorem sumL_append (A B : List (List UInt8)) : sumL (A ++ B) = sumL A + sumL B := by
  induction A with
  | nil => show sumL B = 0 + sumL B; omega
  | cons m A ih => rw [List.cons_append, sumL_cons, sumL_cons, ih]; omega
/-- The bytes of all, each message's counted up to a bound. -/
def capL (M : List (List UInt8)) : Nat := (M.map fun m => min m.length 70001).foldr (· + ·) 0
theorem capL_cons (m : List UInt8) (M : List (List UInt8)) : capL (m :: M) = min m.length 70001 + capL M := rfl
theorem capL_append (A B : List (List UInt8)) : capL (A ++ B) = capL A + capL B := by
  induction A with
  | nil => show capL B = 0 + capL B; omega
  | cons m A ih => rw [List.cons_append, capL_cons, capL_cons, ih]; omega
theorem cap_take {M : List (List UInt8)} {k : Nat} (hk : k < M.length) : capL (M.take (k + 1)) = capL (M.take k) + min (M.getD k []).length 70001 := by
  rw [List.take_succ_eq_append_getElem hk, capL_append, List.getD_eq_getElem?_getD, List.getElem?_eq_getElem hk]
  rfl
theorem cap_le (M : List (List UInt8)) (k : Nat) : capL (M.take k) ≤ capL M := by
  have := capL_append (M.take k) (M.drop k)
  rw [List.take_append_drop] at this
  omega
def allFit (M : List (List UInt8)) : Bool := M.all fun m => decide (m.length ≤ 65535)
def frS (M : List (List UInt8)) : List UInt8 := if allFit M = true then frameL M else []
def frE (M : List (List UInt8)) : Int := if allFit M = true then 0 else 3
theorem cap_fit {M : List (List UInt8)} (h : allFit M = true) : capL M = sumL M := by
  induction M with
  | nil => rfl
  | cons m M ih =>
    rw [allFit, List.all_cons, Bool.and_eq_true, decide_eq_true_eq] at h
    rw [capL_cons, sumL_cons, ih h.2]; omega
theorem frameL_append (A B : List (List UInt8)) : frameL (A ++ B) = frameL A ++ frameL B := by simp [frameL]
theorem frameL_cons (m : List UInt8) (M : List (List UInt8)) : frameL (m :: M) = head2 m ++ (m ++ frameL M) := by
  show (head2 m ++ m) ++ frameL M = _
  rw [List.append_assoc]
theorem frameL_len (M : List (List UInt8)) : (frameL M).length = 2 * M.length + sumL M := by
  induction M with
  | nil => rfl
  | cons m M ih => rw [frameL_cons, List.length_append, List.length_append, ih, sumL_cons, List.length_cons]; simp [head2]; omega
theorem allFit_append (A B : List (List UInt8)) : allFit (A ++ B) = (allFit A && allFit B) := by simp [allFit]
theorem fit_take {M : List (List UInt8)} {k : Nat} (hk : k < M.length) : allFit (M.take (k + 1)) = (allFit (M.take k) && decide ((M.getD k []).length ≤ 65535)) := by
  rw [List.take_succ_eq_append_getElem hk, allFit_append, List.getD_eq_getElem?_getD, List.getElem?_eq_getElem hk]
  simp [allFit]
theorem fit_no {M : List (List UInt8)} {k : Nat} (hk : k < M.length) (h : ¬ (M.getD k []).length ≤ 65535) : allFit M = false := by
  rw [allFit, List.all_eq_false]
  refine ⟨M[k], List.getElem_mem hk, ?_⟩
  rw [List.getD_eq_getElem?_getD, List.getElem?_eq_getElem hk] at h
  simpa using h
theorem frame_take {M : List (List UInt8)} {k : Nat} (hk : k < M.length) : frameL (M.take (k + 1)) = frameL (M.take k) ++ (head2 (M.getD k []) ++ M.getD k []) := by
  rw [List.take_succ_eq_append_getElem hk, frameL_append, List.getD_eq_getElem?_getD, List.getElem?_eq_getElem hk]
  simp [frameL]
theorem sum_take {M : List (List UInt8)} {k : Nat} (hk : k < M.length) : sumL (M.take (k + 1)) = sumL (M.take k) + (M.getD k []).length := by
  rw [List.take_succ_eq_append_getElem hk, sumL_append, List.getD_eq_getElem?_getD, List.getElem?_eq_getElem hk]
  rfl
theorem sum_le (M : List (List UInt8)) (k : Nat) : sumL (M.take k) ≤ sumL M := by
  have := sumL_append (M.take k) (M.drop k)
  rw [List.take_append_drop] at this
  omega

/-- The length that stands ahead. -/
def hd2 (r : List UInt8) : Nat := (r.getD 0 0).toNat * 256 + (r.getD 1 0).toNat
/-- The messages that are whole, and where the last one ends. -/
def tk : Nat → List UInt8 → List (List UInt8) × Nat
  | 0, _ => ([], 0)
  | f + 1, r => if r.length < 2 then ([], 0) else if r.length - 2 < hd2 r then ([], 0) else
      (((r.drop 2).take (hd2 r)) :: (tk f (r.drop (2 + hd2 r))).1, 2 + hd2 r + (tk f (r.drop (2 + hd2 r))).2)
def TK (r : List UInt8) : List (List UInt8) × Nat := tk r.length r
theorem tk_more : ∀ (f : Nat) (r : List UInt8), r.length ≤ f → tk (f + 1) r = tk f r := by
  intro f
  induction f with
  | zero =>
    intro r h
    show (if r.length < 2 then _ else _) = _
    rw [if_pos (by omega)]; rfl
  | succ f ih =>
    intro r h
    rw [tk]
    conv => rhs; rw [tk]
    by_cases h1 : r.length < 2
    · rw [if_pos h1, if_pos h1]
    · rw [if_neg h1, if_neg h1]
      by_cases h2 : r.length - 2 < hd2 r
      · rw [if_pos h2, if_pos h2]
      · rw [if_neg h2, if_neg h2, ih _ (by rw [List.length_drop]; omega)]
theorem tk_any (f : Nat) (r : List UInt8) (h : r.length ≤ f) : tk f r = TK r := by
  induction f with
  | zero =>
    have : r = [] := List.eq_nil_of_length_eq_zero (by omega)
    subst this; rfl
  | succ f ih =>
    by_cases e : r.length = f + 1
    · rw [TK, e]
    · rw [tk_more f r (by omega), ih (by omega)]
theorem TK_step (r : List UInt8) : TK r = if r.length < 2 then ([], 0) else if r.length - 2 < hd2 r then ([], 0) else
      (((r.drop 2).take (hd2 r)) :: (TK (r.drop (2 + hd2 r))).1, 2 + hd2 r + (TK (r.drop (2 + hd2 r))).2) := by
  rw [← tk_any (r.length + 1) r (by omega), tk]
  by_cases h1 : r.length < 2
  · rw [if_pos h1, if_pos h1]
  · rw [if_neg h1, if_neg h1, tk_any _ _ (by rw [List.length_drop]; omega)]
theorem hd2_frame (m r : List UInt8) (h : m.length ≤ 65535) : hd2 (head2 m ++ r) = m.length := by
  show (UInt8.ofNat (m.length / 256)).toNat * 256 + (UInt8.ofNat m.length).toNat = _
  rw [UInt8.toNat_ofNat', UInt8.toNat_ofNat']
  omega
/-- What is framed is taken. -/
theorem TK_frame (M : List (List UInt8)) (r : List UInt8) (h : allFit M = true) : TK (frameL M ++ r) = (M ++ (TK r).1, (frameL M).length + (TK r).2) := by
  induction M with
  | nil =>
    show TK ([] ++ r) = ([] ++ (TK r).1, 0 + (TK r).2)
    simp
  | cons m M ih =>
    rw [allFit, List.all_cons, Bool.and_eq_true, decide_eq_true_eq] at h
    have ih' := ih h.2
    have e1 : frameL (m :: M) ++ r = head2 m ++ (m ++ (frameL M ++ r)) := by rw [frameL_cons, List.append_assoc, List.append_assoc]
    have h2 := hd2_frame m (m ++ (frameL M ++ r)) h.1
    have e2 : (head2 m ++ (m ++ (frameL M ++ r))).drop 2 = m ++ (frameL M ++ r) := rfl
    have e3 : (head2 m ++ (m ++ (frameL M ++ r))).drop (2 + m.length) = frameL M ++ r := by rw [← List.drop_drop, e2, List.drop_left]
    rw [e1, TK_step, h2, e2, e3, ih', if_neg (by simp [head2]), if_neg (by simp [head2]), List.take_left, frameL_cons]
    simp [head2]
    omega
theorem TK_le (r : List UInt8) : (TK r).2 ≤ r.length := by
  have : ∀ (f : Nat) (r : List UInt8), (tk f r).2 ≤ r.length := by
    intro f
    induction f with
    | zero => intro r; exact Nat.zero_le _
    | succ f ih =>
      intro r
      rw [tk]
      by_cases h1 : r.length < 2
      · rw [if_pos h1]; exact Nat.zero_le _
      · rw [if_neg h1]
        by_cases h2 : r.length - 2 < hd2 r
        · rw [if_pos h2]; exact Nat.zero_le _
        · rw [if_neg h2]
          have := ih (r.drop (2 + hd2 r))
          rw [List.length_drop] at this
          show 2 + hd2 r + _ ≤ _
          omega
  exact this r.length r
theorem TK_count (r : List UInt8) : 2 * (TK r).1.length ≤ r.length := by
  have : ∀ (f : Nat) (r : List UInt8), 2 * (tk f r).1.length ≤ r.length := by
    intro f
    induction f with
    | zero => intro r; exact Nat.zero_le _
    | succ f ih =>
      intro r
      rw [tk]
      by_cases h1 : r.length < 2
      · rw [if_pos h1]; exact Nat.zero_le _
      · rw [if_neg h1]
        by_cases h2 : r.length - 2 < hd2 r
        · rw [if_pos h2]; exact Nat.zero_le _
        · rw [if_neg h2]
          have := ih (r.drop (2 + hd2 r))
          rw [List.length_drop] at this
          show 2 * ((tk f (r.drop (2 + hd2 r))).1.length + 1) ≤ _
          omega
  exact this r.length r
end Go.Proofs.Ytocfphijheidbaa
