/- What the writer lays down for data (plain). -/
import Derived.Test.YtgppkpdjpcegbaaWsN
import Derived.Test.YtgppkpdjpcegbaaMgC
import Derived.Test.YtgppkpdjpcegbaaMgB
namespace Go.Proofs.Ytgppkpdjpcegbaa
open Go.RowKit

/-- One name of data: the row, the places, what is left of the data. -/
noncomputable def wD1 (a : List UInt8 × Pls × ByteArray) (n : ByteArray) : List UInt8 × Pls × ByteArray := ((wNm a.2.1 a.1 (labs n)).1, (wNm a.2.1 a.1 (labs n)).2, a.2.2.extract n.size a.2.2.size)
def datX (X : List UInt8) (k : Int) (s : ByteArray) : List UInt8 := if k = 15 then X ++ (s.extract 0 2).data.toList else X
def datR (k : Int) (s : ByteArray) : ByteArray := if k = 15 then s.extract 2 s.size else s
/-- The row and the places behind data. -/
noncomputable def wDat (f : Pls) (X : List UInt8) (k : Int) (s : ByteArray) : List UInt8 × Pls :=
  let a := (nmL k s).foldl wD1 (datX X k s, f, datR k s)
  (a.1 ++ a.2.2.data.toList, a.2.1)
/-- Names that stand ahead, one behind the other. -/
def FitD : ByteArray → List ByteArray → Prop
  | _, [] => True
  | r, n :: l => mayN n = true ∧ n.size ≤ r.size ∧ FitD (r.extract n.size r.size) l
theorem headOk_head {s : ByteArray} (h : headOk s = true) : mayN (head1 s) = true ∧ (head1 s).size ≤ s.size ∧ s.extract (head1 s).size s.size = rest1 s := by
  simp only [headOk, Bool.and_eq_true, decide_eq_true_eq] at h
  have hz : (head1 s).size = hN s + 1 := by unfold head1; rw [extract_size _ _ _ (by omega)]; omega
  exact ⟨h.2, by rw [hz]; omega, by rw [hz]; rfl⟩
theorem fitD {k : Int} {s : ByteArray} (h : mayD k s = true ∨ k = 41) : FitD (datR k s) (nmL k s) := by
  by_cases h6 : k = 6
  · subst h6
    rcases h with h | h
    · have h2 : soaOk s = true := by simp [mayD, mayKR] at h; exact h.2
      have hn : nmL 6 s = [soaM s, soaR s] := by rw [nmL, h2]; rfl
      simp only [soaOk, Bool.and_eq_true, decide_eq_true_eq] at h2
      obtain ⟨a1, a2, a3⟩ := headOk_head h2.1.1
      obtain ⟨b1, b2, b3⟩ := headOk_head h2.1.2
      rw [hn]
      show mayN (soaM s) = true ∧ (soaM s).size ≤ (datR 6 s).size ∧ mayN (soaR s) = true ∧ (soaR s).size ≤ ((datR 6 s).extract (soaM s).size (datR 6 s).size).size ∧ True
      have e : datR 6 s = s := rfl
      have e2 : s.extract (soaM s).size s.size = rest1 s := a3
      rw [e, e2]
      exact ⟨a1, a2, b1, b2, trivial⟩
    · omega
  · by_cases ht : tgB k s = true
    · have hn : nmL k s = [tgS k s] := by rw [nmL, if_neg h6, if_pos ht]
      have ht2 := ht
      simp only [tgB, Bool.and_eq_true, decide_eq_true_eq] at ht2
      obtain ⟨hm, hk⟩ := ht2
      have hs : tgS k s = datR k s := by rw [tgS, if_pos ht]; rfl
      rw [hn, hs]
      refine ⟨?_, Nat.le_refl _, trivial⟩
      rcases hk with rfl | rfl | rfl
      · simp [mayD, mayKR] at hm; exact hm.2
      · simp [mayD, mayKR] at hm; exact hm.2
      · exact (mayD_15 hm).2
    · have hn : nmL k s = [] := by rw [nmL, if_neg h6, if_neg ht]
      rw [hn]; exact trivial
theorem wD1_le (a : List UInt8 × Pls × ByteArray) (n : ByteArray) (h : mayN n = true) : (wD1 a n).1.length ≤ a.1.length + 256 := by
  have := wNm_le (labs n) a.2.1 a.1
  have h2 := (labs_spec h).2.1
  show (wNm a.2.1 a.1 (labs n)).1.length ≤ _
  omega
theorem nmL_len (k : Int) (s : ByteArray) : (nmL k s).length ≤ 2 := by
  unfold nmL
  repeat' split
  all_goals simp
theorem fitD_drop : ∀ (l : List ByteArray) (a : List UInt8 × Pls × ByteArray) (j : Nat), FitD a.2.2 l → FitD ((l.take j).foldl wD1 a).2.2 (l.drop j)
  | [], a, j, _ => by simp [FitD]
  | n :: l, a, 0, h => h
  | n :: l, a, j + 1, h => fitD_drop l (wD1 a n) j h.2.2
theorem fold_le : ∀ (l : List ByteArray) (a : List UInt8 × Pls × ByteArray) (j : Nat), FitD a.2.2 l → ((l.take j).foldl wD1 a).1.length ≤ a.1.length + 256 * j
  | [], a, j, _ => by simp
  | n :: l, a, 0, h => by simp
  | n :: l, a, j + 1, h => by
    have h1 := fold_le l (wD1 a n) j h.2.2
    have h2 := wD1_le a n h.1
    show (((l.take j)).foldl wD1 (wD1 a n)).1.length ≤ _
    omega
theorem fold_rest : ∀ (l : List ByteArray) (a : List UInt8 × Pls × ByteArray) (j : Nat), ((l.take j).foldl wD1 a).2.2.size ≤ a.2.2.size
  | [], a, j => by simp
  | n :: l, a, 0 => by simp
  | n :: l, a, j + 1 => by
    have h1 := fold_rest l (wD1 a n) j
    have h2 : (wD1 a n).2.2.size ≤ a.2.2.size := by
      show (a.2.2.extract n.size a.2.2.size).size ≤ _
      rw [extract_size _ _ _ (Nat.le_refl _)]; omega
    show (((l.take j)).foldl wD1 (wD1 a n)).2.2.size ≤ _
    omega
end Go.Proofs.Ytgppkpdjpcegbaa
