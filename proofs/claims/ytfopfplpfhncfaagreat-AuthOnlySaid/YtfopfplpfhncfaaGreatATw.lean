/- AuthTwice: the walk. -/
import Derived.Test.YtfopfplpfhncfaaGreatAuF
import Derived.Test.YtfopfplpfhncfaaGreatZCu
namespace Go.Proofs.YtfopfplpfhncfaaGreat
open Go.RowKit

theorem there_in {S : List SetP} {s : SetP} {n : ByteArray} (hs : s ∈ S) (hk : s.k.n = n) (hm : mayN n = true) : thereP S n = true :=
  List.any_eq_true.2 ⟨s, hs, by rw [hk]; exact und_refl hm⟩
theorem und_may {n a : ByteArray} (h : undS n a = true) : mayN n = true := by
  rw [undS, Bool.and_eq_true, Bool.and_eq_true] at h; exact h.1.1
theorem soaL_one {w : World} {z : Nat} {apex : ByteArray} {l : List R5} {S : List SetP} (h : ZOk w z apex l S) : ∃ s, soaL S apex = [s] ∧ s.k.n = apex := by
  obtain ⟨s0, d0, hs, -⟩ := soa_one h
  exact ⟨s0, by rw [soaL, hs]; rfl, by rw [find_key hs]⟩
theorem ans_out {S : List SetP} {apex n : ByteArray} {t c : Int} (h : inQ apex n t c = false) : ansF S apex n t c = ⟨6, 5, [], [], []⟩ := by rw [ansF, if_pos h]
theorem ans_cut {S : List SetP} {apex n : ByteArray} {t c : Int} {x : SetP} (h : inQ apex n t c = true) (hc : cutP S apex n = some x) (ht : ¬ (x.k.n = n ∧ t = 43)) : ansF S apex n t c = ⟨3, 0, [], [x], glueL S [x]⟩ := by
  rw [ansF, if_neg (by rw [h]; simp), hc]; exact if_neg ht
theorem ans_no {S : List SetP} {apex n : ByteArray} {t c : Int} (h : inQ apex n t c = true) (hc : cutP S apex n = none) : ansF S apex n t c = ansT S apex n t := by
  rw [ansF, if_neg (by rw [h]; simp), hc]
theorem ansT_alias {S : List SetP} {apex n : ByteArray} {t : Int} {s : SetP} (h : findK S ⟨n, 5, 1⟩ = some s) (ht : t ≠ 5) : ansT S apex n t = ⟨2, 0, [s], [], []⟩ := by rw [ansT, h]; exact if_neg ht
theorem ansT_k {S : List SetP} {apex n : ByteArray} {t : Int} (h : findK S ⟨n, 5, 1⟩ = none ∨ t = 5) : ansT S apex n t = ansK S apex n t := by
  rw [ansT]
  cases hf : findK S ⟨n, 5, 1⟩ with
  | none => rfl
  | some s =>
    rcases h with h | h
    · rw [hf] at h; cases h
    · exact if_pos h
theorem ansK_yes {S : List SetP} {apex n : ByteArray} {t : Int} {s : SetP} (h : findK S ⟨n, t, 1⟩ = some s) : ansK S apex n t = ⟨1, 0, [s], [], glueL S [s]⟩ := by rw [ansK, h]
theorem ansK_no {S : List SetP} {apex n : ByteArray} {t : Int} (h : findK S ⟨n, t, 1⟩ = none) : ansK S apex n t = if thereP S n = true then ⟨5, 0, [], soaL S apex, []⟩ else ⟨4, 3, [], soaL S apex, []⟩ := by rw [ansK, h]
/-- What is told behind a cut. -/
theorem ansT_kinds {w : World} {z : Nat} {apex : ByteArray} {l : List R5} {S : List SetP} (h : ZOk w z apex l S) {n : ByteArray} (hm : mayN n = true) (t : Int) :
    (thereP S n = false → (ansT S apex n t).kind = 4) ∧ (thereP S n = true →
      ((findK S ⟨n, 5, 1⟩).isSome = true ∧ t ≠ 5 ∧ (ansT S apex n t).kind = 2 ∨ ((findK S ⟨n, 5, 1⟩).isSome = false ∨ t = 5) ∧
        ((findK S ⟨n, t, 1⟩).isSome = true ∧ (ansT S apex n t).kind = 1 ∨ (findK S ⟨n, t, 1⟩).isSome = false ∧ (ansT S apex n t).kind = 5 ∧ ∃ s, (ansT S apex n t).ns = [s] ∧ s.k.n = apex))) := by
  constructor
  · intro ht
    have hno : ∀ t, findK S ⟨n, t, 1⟩ = none := fun t => by
      cases hf : findK S ⟨n, t, 1⟩ with
      | none => rfl
      | some s =>
        have h1 := there_in (find_mem hf) (by rw [find_key hf]) hm
        rw [ht] at h1; cases h1
    rw [ansT_k (Or.inl (hno 5)), ansK_no (hno t), ht]; rfl
  · intro ht
    have hk : ((findK S ⟨n, 5, 1⟩) = none ∨ t = 5) → ((findK S ⟨n, t, 1⟩).isSome = true ∧ (ansT S apex n t).kind = 1 ∨ (findK S ⟨n, t, 1⟩).isSome = false ∧ (ansT S apex n t).kind = 5 ∧ ∃ s, (ansT S apex n t).ns = [s] ∧ s.k.n = apex) := by
      intro h5
      rw [ansT_k h5]
      cases hf : findK S ⟨n, t, 1⟩ with
      | some s => exact Or.inl ⟨rfl, by rw [ansK_yes hf]⟩
      | none =>
        refine Or.inr ⟨rfl, ?_⟩
        rw [ansK_no hf, if_pos ht]
        exact ⟨rfl, soaL_one h⟩
    cases h5 : findK S ⟨n, 5, 1⟩ with
    | none => exact Or.inr ⟨Or.inl rfl, hk (Or.inl h5)⟩
    | some s =>
      by_cases ht5 : t = 5
      · exact Or.inr ⟨Or.inr ht5, hk (Or.inr ht5)⟩
      · exact Or.inl ⟨rfl, ht5, by rw [ansT_alias h5 ht5]⟩
def TwiceP (S : List SetP) (apex n : ByteArray) (a b : Int) : Prop :=
  (undS n apex = false ∧ (ansF S apex n a 1).kind = 6 ∧ (ansF S apex n b 1).kind = 6) ∨
  (undS n apex = true ∧ (ansF S apex n a 1).kind = 6) ∨ (undS n apex = true ∧ (ansF S apex n a 1).kind ≠ 6 ∧ (ansF S apex n b 1).kind = 6) ∨
  (undS n apex = true ∧ (ansF S apex n b 1).kind ≠ 6 ∧ ((ansF S apex n a 1).kind = 3 ∧ (ansF S apex n b 1).kind = 3 ∨ (ansF S apex n a 1).kind = 4 ∧ (ansF S apex n b 1).kind = 4)) ∨
  (undS n apex = true ∧ ((ansF S apex n a 1).kind ≠ 6 ∧ (ansF S apex n a 1).kind ≠ 3 ∧ (ansF S apex n a 1).kind ≠ 4) ∧
    ((findK S ⟨n, 5, 1⟩).isSome = true ∧ b ≠ 5 ∧ (ansF S apex n b 1).kind = 2 ∨ ((findK S ⟨n, 5, 1⟩).isSome = false ∨ b = 5) ∧
        ((findK S ⟨n, b, 1⟩).isSome = true ∧ (ansF S apex n b 1).kind = 1 ∨ (findK S ⟨n, b, 1⟩).isSome = false ∧ (ansF S apex n b 1).kind = 5 ∧ ∃ s, (ansF S apex n b 1).ns = [s] ∧ s.k.n = apex)))
theorem twiceP {w : World} {z : Nat} {apex : ByteArray} {l : List R5} {S : List SetP} (h : ZOk w z apex l S) (n : ByteArray) (a b : Int) (ha : a ≠ 43) (hb : b ≠ 43) : TwiceP S apex n a b := by
  cases hu : undS n apex with
  | false =>
    have h1 : ∀ t, inQ apex n t 1 = false := fun t => by rw [inQ, hu]; simp
    exact Or.inl ⟨hu, by rw [ans_out (h1 a)], by rw [ans_out (h1 b)]⟩
  | true =>
    cases ia : inQ apex n a 1 with
    | false => exact Or.inr (Or.inl ⟨hu, by rw [ans_out ia]⟩)
    | true =>
      have hka : (ansF S apex n a 1).kind ≠ 6 ∧ True := ⟨by
        cases hc : cutP S apex n with
        | some x => rw [ans_cut ia hc (fun h => ha h.2)]; show (3 : Int) ≠ 6; decide
        | none =>
          rw [ans_no ia hc]
          obtain ⟨k1, k2⟩ := ansT_kinds h (und_may hu) a
          cases ht : thereP S n with
          | false => rw [k1 ht]; decide
          | true =>
            rcases k2 ht with ⟨-, -, k⟩ | ⟨-, ⟨-, k⟩ | ⟨-, k, -⟩⟩ <;> rw [k] <;> decide, trivial⟩
      cases ib : inQ apex n b 1 with
      | false => exact Or.inr (Or.inr (Or.inl ⟨hu, hka.1, by rw [ans_out ib]⟩))
      | true =>
        cases hc : cutP S apex n with
        | some x =>
          refine Or.inr (Or.inr (Or.inr (Or.inl ⟨hu, ?_, Or.inl ⟨?_, ?_⟩⟩)))
          · rw [ans_cut ib hc (fun h => hb h.2)]; show (3 : Int) ≠ 6; decide
          · rw [ans_cut ia hc (fun h => ha h.2)]
          · rw [ans_cut ib hc (fun h => hb h.2)]
        | none =>
          unfold TwiceP
          rw [ans_no ia hc, ans_no ib hc]
          obtain ⟨a1, a2⟩ := ansT_kinds h (und_may hu) a
          obtain ⟨b1, b2⟩ := ansT_kinds h (und_may hu) b
          cases ht : thereP S n with
          | false => exact Or.inr (Or.inr (Or.inr (Or.inl ⟨hu, by rw [b1 ht]; decide, Or.inr ⟨a1 ht, b1 ht⟩⟩)))
          | true =>
            refine Or.inr (Or.inr (Or.inr (Or.inr ⟨hu, ?_, b2 ht⟩)))
            rcases a2 ht with ⟨-, -, k⟩ | ⟨-, ⟨-, k⟩ | ⟨-, k, -⟩⟩ <;> rw [k] <;> decide
end Go.Proofs.YtfopfplpfhncfaaGreat
