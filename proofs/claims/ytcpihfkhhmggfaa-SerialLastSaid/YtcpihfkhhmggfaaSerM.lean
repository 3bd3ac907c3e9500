/- Plain facts on the last of many serials. -/
import Derived.Test.YtcpihfkhhmggfaaSer
namespace Go.Proofs.Ytcpihfkhhmggfaa

theorem newer_asym {a b : Int} (h : newerB a b = true) : newerB b a = false := by
  simp [newerB, mayB] at *; omega
theorem newer_irr (a : Int) : newerB a a = false := by simp [newerB]

/-- The one that is held after some. -/
def cand (c : Int) (l : List Int) : Int := l.foldl (fun last n => if newerB n last = true then n else last) c
def topB (x : Int) (l : List Int) : Bool := l.all fun n => n == x || newerB x n
def lastC (l : List Int) : Int := cand (l.getD 0 0) l
def lastOk (l : List Int) : Bool := !l.isEmpty && l.all mayB && topB (lastC l) l
def lastN (l : List Int) : Int := if lastOk l = true then lastC l else 0

theorem cand_snoc (c : Int) (l : List Int) (n : Int) : cand c (l ++ [n]) = if newerB n (cand c l) = true then n else cand c l := by unfold cand; rw [List.foldl_append]; rfl
theorem topB_of {x : Int} {l : List Int} : topB x l = true ↔ ∀ n ∈ l, n = x ∨ newerB x n = true := by simp [topB]

theorem cand_stay (x : Int) (l : List Int) (h : ∀ n ∈ l, n = x ∨ newerB x n = true) : cand x l = x := by
  induction l with
  | nil => rfl
  | cons n l ih =>
    have e : cand x (n :: l) = cand (if newerB n x = true then n else x) l := rfl
    have hn : newerB n x = false := by
      rcases h n (by simp) with rfl | h1
      · exact newer_irr _
      · exact newer_asym h1
    rw [e, hn]
    exact ih fun m hm => h m (by simp [hm])

theorem cand_top (x c : Int) (l : List Int) (hx : x ∈ l) (hc : c = x ∨ newerB x c = true) (h : ∀ n ∈ l, n = x ∨ newerB x n = true) : cand c l = x := by
  induction l generalizing c with
  | nil => simp at hx
  | cons n l ih =>
    have e : cand c (n :: l) = cand (if newerB n c = true then n else c) l := rfl
    rw [e]
    by_cases hn : n = x
    · subst hn
      have h2 : (if newerB n c = true then n else c) = n := by
        rcases hc with rfl | hc
        · simp
        · simp [hc]
      rw [h2]
      exact cand_stay n l fun m hm => h m (by simp [hm])
    · have hx' : x ∈ l := by simpa [Ne.symm hn] using hx
      have hn' : newerB x n = true := by rcases h n (by simp) with h1 | h1; exact absurd h1 hn; exact h1
      refine ih _ hx' ?_ fun m hm => h m (by simp [hm])
      split
      · exact Or.inr hn'
      · exact hc

theorem cand_mem (c : Int) (l : List Int) : cand c l = c ∨ cand c l ∈ l := by
  induction l generalizing c with
  | nil => exact Or.inl rfl
  | cons n l ih =>
    have e : cand c (n :: l) = cand (if newerB n c = true then n else c) l := rfl
    rw [e]
    rcases ih (if newerB n c = true then n else c) with h | h
    · rw [h]; split <;> simp
    · simp [h]

theorem head_mem {l : List Int} (h : l ≠ []) : l.getD 0 0 ∈ l := by
  cases l with
  | nil => exact absurd rfl h
  | cons a l => simp

theorem lastC_mem {l : List Int} (h : l ≠ []) : lastC l ∈ l := by
  rcases cand_mem (l.getD 0 0) l with h1 | h1
  · unfold lastC; rw [h1]; exact head_mem h
  · exact h1

/-- Who is newer than all others is the one that is held. -/
theorem lastC_top {x : Int} {l : List Int} (hx : x ∈ l) (h : topB x l = true) : lastC l = x := by
  have h' := topB_of.1 h
  have hne : l ≠ [] := by intro h0; subst h0; simp at hx
  refine cand_top x _ l hx ?_ h'
  exact h' _ (head_mem hne)

theorem lastOk_iff {l : List Int} : lastOk l = true ↔ (∀ n ∈ l, mayB n = true) ∧ ∃ x ∈ l, topB x l = true := by
  unfold lastOk
  constructor
  · intro h
    simp only [Bool.and_eq_true, Bool.not_eq_true', List.all_eq_true] at h
    obtain ⟨⟨h1, h2⟩, h3⟩ := h
    have hne : l ≠ [] := by intro h0; subst h0; simp at h1
    exact ⟨h2, _, lastC_mem hne, h3⟩
  · rintro ⟨h1, x, hx, hx2⟩
    have hne : l.isEmpty = false := by cases l with
      | nil => simp at hx
      | cons a l => rfl
    rw [lastC_top hx hx2, hx2, hne]
    simpa using h1

theorem lastN_of {x : Int} {l : List Int} (hm : ∀ n ∈ l, mayB n = true) (hx : x ∈ l) (h : topB x l = true) : lastN l = x ∧ lastOk l = true := by
  have h1 : lastOk l = true := lastOk_iff.2 ⟨hm, x, hx, h⟩
  refine ⟨?_, h1⟩
  unfold lastN
  rw [if_pos h1, lastC_top hx h]
theorem lastN_no {l : List Int} (h : lastOk l = false) : lastN l = 0 := by unfold lastN; simp [h]
end Go.Proofs.Ytcpihfkhhmggfaa
