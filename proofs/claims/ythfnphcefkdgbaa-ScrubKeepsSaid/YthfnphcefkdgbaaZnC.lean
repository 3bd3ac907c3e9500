/- Zones: Cut. -/
import Derived.Test.YthfnphcefkdgbaaZnB
import Derived.Test.YthfnphcefkdgbaaMgB
import Derived.Test.YthfnphcefkdgbaaLst
namespace Go.Proofs.Ythfnphcefkdgbaa
open Go.RowKit

def sZ : SetP := ⟨⟨⟨#[]⟩, 0, 0⟩, 0, []⟩
/-- The uppermost of the names P i .. that has an NS set. -/
noncomputable def cutI (S : List SetP) (P : Nat → ByteArray) : Nat → Nat → Option SetP → Option SetP
  | 0, _, acc => acc
  | r + 1, i, acc => cutI S P r (i + 1) (match findK S ⟨P i, 2, 1⟩ with | some s => some s | none => acc)
/-- The set of the uppermost cut. -/
noncomputable def cutP (S : List SetP) (apex n : ByteArray) : Option SetP :=
  if undS n apex = true then cutI S (fun i => nameB ((labs n).drop i)) ((labs n).length - (labs apex).length) 0 none else none
/-- The names from n up to the apex. -/
structure Path (apex n : ByteArray) (P : Nat → ByteArray) (d : Nat) : Prop where
  zero : P 0 = n
  mid : ∀ k, k < d → ((P k).toList == apex.toList) = false ∧ undS (P k) apex = true ∧ (P k).size ≤ 1000000 ∧ ∃ L, P k = nameB L ∧ OkL L ∧ off L L.length ≤ 254 ∧ parS L = P (k + 1) ∧ parB L = true
  last : P d = apex ∧ undS n apex = true ∨ undS (P d) apex = false ∧ d = 0
  size : (P d).size ≤ 1000000
  up : ∀ k, k < d → undS n (P k) = true
theorem cut_path (S : List SetP) (apex n : ByteArray) (hn : n.size ≤ 1000000) : ∃ P d, Path apex n P d ∧ cutP S apex n = cutI S P d 0 none := by
  by_cases hu : undS n apex = true
  · have hu2 := hu
    rw [undS, Bool.and_eq_true, Bool.and_eq_true] at hu2
    obtain ⟨⟨hm, ha⟩, hul⟩ := hu2
    obtain ⟨hL, hlz, hnl⟩ := labs_spec hm
    obtain ⟨hA, haz, hal⟩ := labs_spec ha
    unfold undL at hul
    obtain ⟨h1, h2⟩ := of_decide_eq_true hul
    obtain ⟨L, hLe⟩ : ∃ x, labs n = x := ⟨_, rfl⟩
    obtain ⟨M, hMe⟩ : ∃ x, labs apex = x := ⟨_, rfl⟩
    refine ⟨fun i => nameB ((labs n).drop i), (labs n).length - (labs apex).length, ⟨?_, ?_, ?_, ?_, ?_⟩, if_pos hu⟩
    · show nameB ((labs n).drop 0) = n
      rw [List.drop_zero]; exact hnl.symm
    · rw [hLe] at hL hlz
      rw [hLe, hMe] at h1 h2 ⊢
      rw [hMe] at hA haz hal
      intro k hk
      have hkl : k < L.length := by omega
      have ho := drop_ok hL k
      have hoz := Nat.le_trans (off_drop L k (by omega)) hlz
      have hcons := drop_cons_tx L k hkl
      refine ⟨?_, ?_, ?_, L.drop k, rfl, ho, hoz, by rw [hcons]; rfl, by rw [hcons]; rfl⟩
      · rw [beq_eq_false_iff_ne]
        intro h
        have h3 := nameB_inj ho hA ((toList_inj h).trans hal)
        have h4 := congrArg List.length h3
        rw [List.length_drop] at h4
        omega
      · rw [undS, labels_may ho hoz, ha, labs_name ho hoz, hMe]
        simp only [Bool.true_and]
        refine (undL_iff _ _).2 ⟨L.length - M.length - k, by rw [List.length_drop]; omega, ?_⟩
        rw [List.drop_drop, show k + (L.length - M.length - k) = L.length - M.length by omega]
        exact h2
      · show (nameB (L.drop k)).size ≤ _
        rw [nameB_size]; omega
    · refine Or.inl ⟨?_, hu⟩
      show nameB ((labs n).drop _) = apex
      rw [h2]; exact hal.symm
    · show (nameB ((labs n).drop _)).size ≤ _
      rw [h2, nameB_size]; omega
    · rw [hLe] at hL hlz
      rw [hLe, hMe]
      intro k hk
      have ho := drop_ok hL k
      have hoz := Nat.le_trans (off_drop L k (by omega)) hlz
      show undS n (nameB (L.drop k)) = true
      rw [undS, hm, labels_may ho hoz, labs_name ho hoz, hLe]
      simp only [Bool.true_and]
      exact (undL_iff _ _).2 ⟨k, by omega, rfl⟩
  · have hu' : undS n apex = false := by simpa using hu
    exact ⟨fun _ => n, 0, ⟨rfl, fun k hk => absurd hk (by omega), Or.inr ⟨hu', rfl⟩, hn, fun k hk => absurd hk (by omega)⟩, if_neg hu⟩
end Go.Proofs.Ythfnphcefkdgbaa
