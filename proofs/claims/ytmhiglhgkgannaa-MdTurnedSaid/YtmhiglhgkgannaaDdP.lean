/- Plain: a list without what stands twice side by side. -/
import Derived.Test.YtmhiglhgkgannaaMgA
namespace Go.Proofs.Ytmhiglhgkgannaa

/-- A list without what stands twice side by side. -/
def dd {α : Type} [DecidableEq α] : List α → List α
  | [] => []
  | [x] => [x]
  | x :: y :: l => if x = y then dd (y :: l) else x :: dd (y :: l)
theorem dd_snoc {α : Type} [DecidableEq α] : ∀ (L : List α) (y x : α), dd (L ++ [y, x]) = if y = x then dd (L ++ [y]) else dd (L ++ [y]) ++ [x]
  | [], y, x => by
    by_cases h : y = x
    · simp [dd, h]
    · simp [dd, h]
  | [a], y, x => by
    show dd (a :: y :: [x]) = if y = x then dd (a :: y :: []) else dd (a :: y :: []) ++ [x]
    by_cases h : y = x <;> by_cases h2 : a = y <;> simp [h, h2, dd]
  | a :: b :: L, y, x => by
    have ih := dd_snoc (b :: L) y x
    show dd (a :: b :: (L ++ [y, x])) = if y = x then dd (a :: b :: (L ++ [y])) else dd (a :: b :: (L ++ [y])) ++ [x]
    rw [dd, dd]
    simp only [List.cons_append] at ih
    rw [ih]
    by_cases h : y = x <;> by_cases h2 : a = b <;> simp [h, h2]
theorem take_snoc2 {α : Type} {l : List α} {k : Nat} {y x : α} (hy : l[k]? = some y) (hx : l[k + 1]? = some x) : l.take (k + 2) = l.take k ++ [y, x] ∧ l.take (k + 1) = l.take k ++ [y] := by
  have h1 : l.take (k + 1) = l.take k ++ [y] := by rw [List.take_add_one, hy]; rfl
  refine ⟨?_, h1⟩
  rw [List.take_add_one, hx, h1]; simp
theorem dd_take {α : Type} [DecidableEq α] {l : List α} {k : Nat} {y x : α} (hy : l[k]? = some y) (hx : l[k + 1]? = some x) : dd (l.take (k + 2)) = if y = x then dd (l.take (k + 1)) else dd (l.take (k + 1)) ++ [x] := by
  obtain ⟨h1, h2⟩ := take_snoc2 hy hx
  rw [h1, h2, dd_snoc]
theorem dd_same {α : Type} [DecidableEq α] (l : List α) : ∀ k, k ≤ l.length → (∀ j, j + 1 < k → l[j]? ≠ l[j + 1]?) → dd (l.take k) = l.take k
  | 0, _, _ => by simp [dd]
  | 1, _, _ => by
    cases l with
    | nil => simp [dd]
    | cons a l => simp [dd]
  | k + 2, hk, h => by
    have hy : l[k]? = some l[k] := List.getElem?_eq_getElem (by omega)
    have hx : l[k + 1]? = some l[k + 1] := List.getElem?_eq_getElem (by omega)
    have h1 := h k (by omega)
    rw [hy, hx] at h1
    rw [dd_take hy hx, if_neg (fun e => h1 (by rw [e])), dd_same l (k + 1) (by omega) (fun j hj => h j (by omega)), (take_snoc2 hy hx).2]
    refine Eq.trans ?_ (take_snoc2 hy hx).1.symm
    rw [List.append_assoc]; rfl
theorem dd_len {α : Type} [DecidableEq α] : ∀ l : List α, (dd l).length ≤ l.length
  | [] => Nat.le_refl _
  | [_] => Nat.le_refl _
  | x :: y :: l => by
    have ih := dd_len (y :: l)
    rw [dd]
    split
    · simp only [List.length_cons] at ih ⊢; omega
    · simp only [List.length_cons] at ih ⊢; omega
theorem dd_mem {α : Type} [DecidableEq α] (z : α) : ∀ l : List α, z ∈ dd l ↔ z ∈ l
  | [] => Iff.rfl
  | [_] => Iff.rfl
  | x :: y :: l => by
    have ih := dd_mem z (y :: l)
    rw [dd]
    split
    · rename_i h
      rw [ih, h]; simp
    · simp only [List.mem_cons] at ih ⊢
      rw [ih]
/-- The scan behind the first that stands twice. -/
structure CmI {α : Type} [DecidableEq α] (l : List α) (m kw : Nat) (C : List α) : Prop where
  len : C.length = l.length
  kwe : kw = (dd (l.take m)).length
  pre : C.take kw = dd (l.take m)
  less : kw + 1 ≤ m
  rest : ∀ j, m ≤ j + 1 → C[j]? = l[j]?
theorem CmI.start {α : Type} [DecidableEq α] {l : List α} {k : Nat} {y x : α} (hne : ∀ j, j + 1 < k + 1 → l[j]? ≠ l[j + 1]?) (hy : l[k]? = some y) (hx : l[k + 1]? = some x) (he : y = x) : CmI l (k + 2) (k + 1) l := by
  have hl : k + 1 < l.length := (List.getElem?_eq_some_iff.1 hx).1
  have h1 : dd (l.take (k + 2)) = l.take (k + 1) := by rw [dd_take hy hx, if_pos he, dd_same l (k + 1) (by omega) hne]
  refine ⟨rfl, ?_, ?_, by omega, fun _ _ => rfl⟩
  · rw [h1, List.length_take]; omega
  · rw [h1]
theorem CmI.skip {α : Type} [DecidableEq α] {l C : List α} {m kw : Nat} {y x : α} (h : CmI l (m + 1) kw C) (hy : l[m]? = some y) (hx : l[m + 1]? = some x) (he : y = x) : CmI l (m + 2) kw C := by
  have h1 := dd_take hy hx
  rw [if_pos he] at h1
  exact ⟨h.len, by rw [h1]; exact h.kwe, by rw [h1]; exact h.pre, by have := h.less; omega, fun j hj => h.rest j (by omega)⟩
theorem CmI.keep {α : Type} [DecidableEq α] {l C : List α} {m kw : Nat} {y x : α} (h : CmI l (m + 1) kw C) (hy : l[m]? = some y) (hx : l[m + 1]? = some x) (he : y ≠ x) : CmI l (m + 2) (kw + 1) (C.set kw x) := by
  have hl : m + 1 < l.length := (List.getElem?_eq_some_iff.1 hx).1
  have h1 := dd_take hy hx
  rw [if_neg he] at h1
  have h2 := h.less
  refine ⟨by rw [List.length_set, h.len], ?_, ?_, by omega, fun j hj => ?_⟩
  · rw [h1, List.length_append, ← h.kwe]; rfl
  · rw [h1, ← h.pre]
    apply List.ext_getElem?
    intro i
    rcases Nat.lt_trichotomy i kw with hi | hi | hi
    · rw [List.getElem?_take_of_lt (by omega), List.getElem?_set_ne (by omega), List.getElem?_append_left (by rw [List.length_take, h.len]; omega), List.getElem?_take_of_lt hi]
    · subst hi
      rw [List.getElem?_take_of_lt (by omega), List.getElem?_set_self (by rw [h.len]; omega), List.getElem?_append_right (by rw [List.length_take, h.len]; omega), List.length_take, h.len, Nat.min_eq_left (by omega), Nat.sub_self]
      rfl
    · rw [List.getElem?_take_eq_none (by omega), List.getElem?_eq_none (by rw [List.length_append, List.length_take, h.len, List.length_singleton]; omega)]
  · rw [List.getElem?_set_ne (by omega)]; exact h.rest j (by omega)
theorem dd_short {α : Type} [DecidableEq α] (l : List α) (h : l.length < 2) : dd l = l := by
  match l, h with
  | [], _ => rfl
  | [_], _ => rfl
  | _ :: _ :: _, h => simp at h; omega
end Go.Proofs.Ytmhiglhgkgannaa
