/- Slices of slices of slices of bytes that came in, and of what bulk they are. -/
import Derived.Test.YtngncdmmlkcekaaBul
import Derived.Test.YtngncdmmlkcekaaFPd
namespace Go.Proofs.Ytngncdmmlkcekaa
open Go.RowKit

/-- The slices of slices of a slice. -/
def RowB3 (w : World) (a : Option Addr) (n : Nat) (T : List (List (List UInt8))) : Prop :=
  T.length = n ∧ (n = 0 ∨ ∃ b off, a = some ⟨b, off, none⟩ ∧ b < w.heap.size ∧ ∀ j, j < n → ∃ ai ci, w.cell? ⟨b, off + j, none⟩ = some (.slice ai (T.getD j []).length ci) ∧ RowBB w ai (T.getD j []).length (T.getD j []))
theorem RowB3.below {w w' : World} {a : Option Addr} {n : Nat} {T : List (List (List UInt8))} (h : RowB3 w a n T) (hb : Below w.heap.size w w') : RowB3 w' a n T := by
  refine ⟨h.1, ?_⟩
  rcases h.2 with h0 | ⟨b, off, rfl, hlt, hc⟩
  · exact Or.inl h0
  · refine Or.inr ⟨b, off, rfl, Nat.lt_of_lt_of_le hlt hb.size, fun j hj => ?_⟩
    obtain ⟨ai, ci, h1, h2⟩ := hc j hj
    exact ⟨ai, ci, by rw [hb.cell hlt]; exact h1, h2.below hb⟩
theorem RowB3.at {w : World} {a : Option Addr} {n : Nat} {T : List (List (List UInt8))} (h : RowB3 w a n T) (j : Nat) (hj : j < n) : ∃ b off ai ci, a = some ⟨b, off, none⟩ ∧ b < w.heap.size ∧ w.cell? ⟨b, off + j, none⟩ = some (.slice ai (T.getD j []).length ci) ∧ RowBB w ai (T.getD j []).length (T.getD j []) := by
  rcases h.2 with h0 | ⟨b, off, rfl, hlt, hc⟩
  · omega
  · obtain ⟨ai, ci, h1, h2⟩ := hc j hj
    exact ⟨b, off, ai, ci, rfl, hlt, h1, h2⟩
/-- How many bytes there are. -/
def sum3 (T : List (List (List UInt8))) : Nat := (T.map sumL).foldr (· + ·) 0
theorem sum3_cons (M : List (List UInt8)) (T : List (List (List UInt8))) : sum3 (M :: T) = sumL M + sum3 T := rfl
theorem sum3_append (A B : List (List (List UInt8))) : sum3 (A ++ B) = sum3 A + sum3 B := by
  induction A with
  | nil => simp [sum3]
  | cons x A ih => rw [List.cons_append, sum3_cons, sum3_cons, ih]; omega
theorem sum3_take {T : List (List (List UInt8))} {k : Nat} (hk : k < T.length) : sum3 (T.take (k + 1)) = sum3 (T.take k) + sumL (T.getD k []) := by
  rw [List.take_succ_eq_append_getElem hk, sum3_append, List.getD_eq_getElem?_getD, List.getElem?_eq_getElem hk]
  simp [sum3]
theorem sum3_le (T : List (List (List UInt8))) (k : Nat) : sum3 (T.take k) ≤ sum3 T := by
  have := sum3_append (T.take k) (T.drop k)
  rw [List.take_append_drop] at this
  omega

/-- What the reading gives, and of what bulk it is. -/
theorem open_rows3 {H : Type} {enc : TypeId × Value → H} {w : World} {base : Nat} {held : Bool} {fuel : Nat} {a : Option Addr} {len cap : Nat} {x : DataW H × List MemPlace} (h : DataW.trod enc Try.prog w base (fun _ => true) held fuel 55 (Value.slice a len cap).cells.toList = some x) :
    len ≤ maxLen ∧ ∃ T, RowB3 w a len T ∧ (∀ M ∈ T, M.length ≤ maxLen ∧ ∀ m ∈ M, m.length ≤ maxLen) ∧ sum3 T ≤ Rows.uptoBulk x.1 := by
  rcases Go.Deep.open_slice1 Try.underlying55 (by kernel_rfl) h with ⟨hcs, hx⟩ | ⟨a', len', cap', m, n, V, D, Pl, hcs, hb, hl, hm, hmm, hxe, hx⟩
  · simp [Value.cells] at hcs
    obtain ⟨rfl, rfl, rfl⟩ := hcs
    exact ⟨Nat.zero_le _, [], ⟨rfl, Or.inl rfl⟩, by simp, by simp [sum3]⟩
  · simp [Value.cells] at hcs
    obtain ⟨rfl, rfl, rfl⟩ := hcs
    have hmm2 : m = cap := by rw [hmm]; rfl
    subst hmm2
    have each : ∀ i, i < len → ∃ y : Option Addr × Nat × Nat × List (List UInt8), V i = .slice y.1 y.2.1 y.2.2.1 ∧ RowBB w y.1 y.2.1 y.2.2.2 ∧ y.2.1 ≤ maxLen ∧ (∀ m ∈ y.2.2.2, m.length ≤ maxLen) ∧ sumL y.2.2.2 ≤ Rows.uptoBulk (D i) := by
      intro i hi
      have h1 := (hx i (by omega)).2
      have h2 : ∃ ai li ci, V i = .slice ai li ci := by
        rcases Go.Deep.open_int_rows Try.underlying44 Try.underlying43 Try.underlying5 (by kernel_rfl) (by kernel_rfl) h1 with ⟨hcs, _⟩ | ⟨a', len', cap', A, L, C, Z, hcs, _⟩
        · exact ⟨none, 0, 0, by simpa using hcs⟩
        · exact ⟨some a', len', cap', by simpa using hcs⟩
      obtain ⟨ai, li, ci, e⟩ := h2
      rw [e] at h1
      obtain ⟨_, q2, M, q3, q4, q5⟩ := open_rowsBU (a := ai) (len := li) (cap := ci) h1
      exact ⟨(ai, li, ci, M), e, q3, q2, q4, show sumL M ≤ Rows.uptoBulk (D i) from Nat.le_trans (by omega) q5⟩
    obtain ⟨y, hy⟩ := Go.Deep.choose_lt each
    have hg : ∀ j, j < len → ((List.range len).map fun i => (y i).2.2.2).getD j [] = (y j).2.2.2 := fun j hj => by
      rw [List.getD_eq_getElem?_getD]; simp [hj]
    have hlen : ∀ j, j < len → (y j).2.2.2.length = (y j).2.1 := fun j hj => by
      obtain ⟨_, _, h2, _⟩ := (hy j hj).2.1; exact h2
    have hsum : ∀ l : List Nat, (∀ r ∈ l, r < len) → sum3 (l.map fun i => (y i).2.2.2) ≤ Rows.uptoBulkAll (l.map D) := by
      intro l
      induction l with
      | nil => intro _; simp [Rows.uptoBulkAll, sum3]
      | cons r l ih =>
        intro h9
        have h1 := ih (fun q hq => h9 q (by simp [hq]))
        have h2 := (hy r (h9 r (by simp))).2.2.2.2
        simp only [List.map_cons, Rows.uptoBulkAll, sum3_cons]; omega
    refine ⟨by omega, (List.range len).map fun i => (y i).2.2.2, ⟨by simp, ?_⟩, ?_, ?_⟩
    · by_cases h0 : len = 0
      · exact Or.inl h0
      right
      obtain ⟨b, off, spot⟩ := a'
      have hc := (hx 0 (by omega)).1
      have hspot : spot = none := by simpa [Addr.add] using World.cell?_spot hc
      subst hspot
      refine ⟨b, off, rfl, ?_, fun j hj => ?_⟩
      · have := block_lt_of_cell hc
        simpa [Addr.add] using this
      · have h1 := (hx j (by omega)).1
        rw [Addr.add_mid, (hy j hj).1] at h1
        rw [hg j hj, hlen j hj]
        exact ⟨(y j).1, (y j).2.2.1, h1, (hy j hj).2.1⟩
    · intro M hM
      obtain ⟨i, hi, rfl⟩ := List.mem_map.1 hM
      have hi2 := List.mem_range.1 hi
      exact ⟨by rw [hlen i hi2]; exact (hy i hi2).2.2.1, (hy i hi2).2.2.2.1⟩
    · have h9 := hsum (List.range len) (fun r hr => List.mem_range.1 hr)
      rw [hxe]
      simp only [Rows.uptoBulk]
      omega
end Go.Proofs.Ytngncdmmlkcekaa
