/- How much a second name takes (plain). -/
import Derived.Test.YtkoafkajmfodkaaWnP
import Derived.Test.YtkoafkajmfodkaaMgB
namespace Go.Proofs.Ytkoafkajmfodkaa
open Go.RowKit

theorem off_split (A C : List ByteArray) : off (A ++ C) (A ++ C).length = (txtTo A A.length).length + off C C.length := by
  induction A with
  | nil => simp [txtTo, off]
  | cons s A ih =>
    have e : off ((s :: A) ++ C) ((s :: A) ++ C).length = (txtTo (s :: (A ++ C)) ((A ++ C).length + 1)).length := rfl
    rw [e, txtTo_cons]
    have e2 : (txtTo (s :: A) (s :: A).length) = UInt8.ofNat s.size :: (s.data.toList ++ txtTo A A.length) := txtTo_cons s A A.length
    rw [e2]
    have ih' : (txtTo (A ++ C) (A ++ C).length).length = (txtTo A A.length).length + off C C.length := ih
    simp only [List.length_cons, List.length_append] at ih' ⊢
    omega
theorem off_pos {C : List ByteArray} (h : OkL C) (hn : C ≠ []) : 2 ≤ off C C.length := by
  cases C with
  | nil => exact absurd rfl hn
  | cons s C =>
    have h1 := h 0 (by simp)
    rw [tx_cons_zero] at h1
    have e : off (s :: C) (s :: C).length = (txtTo (s :: C) (C.length + 1)).length := rfl
    rw [e, txtTo_cons]
    simp only [List.length_cons, List.length_append, size_data]
    omega
/-- How long the name of M is behind that of L. -/
theorem two_len (L M : List ByteArray) (X Y : List UInt8) (hz : X.length + off L L.length ≤ 16384) :
    (wNm (wNm (fun _ => none) X L).2 Y M).1.length + off (comN L [M]) (comN L [M]).length = Y.length + off M M.length + (if comN L [M] = [] then 1 else 2) := by
  obtain ⟨g1, g2⟩ := wNm_pls L (fun _ => none) X (fun _ _ => rfl) hz
  obtain ⟨u1, u2⟩ := comN_und L M
  obtain ⟨C, hC⟩ : ∃ C, comN L [M] = C := ⟨_, rfl⟩
  have hmost : ∀ D, undL L D = true → undL M D = true → D.length ≤ C.length := fun D h1 h2 => by rw [← hC]; exact comN_most h1 h2
  rw [hC] at u1 u2 ⊢
  obtain ⟨j, hj, h1⟩ := (undL_iff _ _).1 u2
  obtain ⟨i, hi, h2⟩ := (undL_iff _ _).1 u1
  have hM : M = M.take j ++ C := by rw [← h1, List.take_append_drop]
  have hA : (M.take j).length = j := by rw [List.length_take]; omega
  have key := wNm_len C (M.take j) (wNm (fun _ => none) X L).2 Y (fun k hk => by
      refine (g2 _ (fun i' hi' e => ?_)).trans rfl
      have hd : M.drop k = (M.take j).drop k ++ C := by
        have := congrArg (List.drop k) hM
        rw [List.drop_append_of_le_length (by omega)] at this
        exact this
      have h3 := hmost (M.drop k) ((undL_iff _ _).2 ⟨i', by omega, by rw [hd]; exact e.symm⟩) ((undL_iff _ _).2 ⟨k, by omega, rfl⟩)
      rw [hd] at h3
      simp only [List.length_append, List.length_drop] at h3
      omega) (by
      rcases Nat.lt_or_ge i L.length with h | h
      · refine Or.inr ⟨_, ?_, (by rw [← h2]; exact g1 i h)⟩
        have h5 : off L (i + 1) = off L i + 1 + (tx L i).size := off_succ L i
        have h6 : off L (i + 1) ≤ off L L.length := off_mono L h
        have h7 : (txtTo L i).length = off L i := rfl
        omega
      · exact Or.inl (by rw [← h2]; exact List.drop_eq_nil_of_le h))
  have hs := off_split (M.take j) C
  rw [← hM] at key hs
  rw [hA] at key hs
  rw [key, hs]
  omega
/-- .. that of the first one. -/
theorem one_len (L : List ByteArray) (X : List UInt8) : (wNm (fun _ => none) X L).1.length = X.length + off L L.length + 1 := by
  have h := wNm_len [] L (fun _ => none) X (fun _ _ => rfl) (Or.inl rfl)
  rw [List.append_nil] at h
  rw [h, if_pos rfl]
  rfl
end Go.Proofs.Ytkoafkajmfodkaa
