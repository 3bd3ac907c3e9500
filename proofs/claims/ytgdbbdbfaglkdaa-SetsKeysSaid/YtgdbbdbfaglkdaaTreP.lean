/- Plain facts: the order of texts is one; what is common is what both are under. -/
import Derived.Test.YtgdbbdbfaglkdaaCom
namespace Go.Proofs.Ytgdbbdbfaglkdaa
open Go.RowKit

structure IsOrd {α : Type} (f : α → α → Int) : Prop where
  rng : ∀ a b, f a b = -1 ∨ f a b = 0 ∨ f a b = 1
  anti : ∀ a b, f b a = - f a b
  zero : ∀ a b, f a b = 0 ↔ a = b
  trans : ∀ a b c, f a b ≤ 0 → f b c ≤ 0 → f a c ≤ 0

theorem ord_bytes : IsOrd Lib.compareBytes where
  rng := by
    intro a
    induction a with
    | nil => intro b; cases b <;> simp [Lib.compareBytes]
    | cons x a ih =>
      intro b
      cases b with
      | nil => simp [Lib.compareBytes]
      | cons y b =>
        simp only [Lib.compareBytes]
        split
        · exact Or.inl rfl
        · split
          · exact Or.inr (Or.inr rfl)
          · exact ih b
  anti := by
    intro a
    induction a with
    | nil => intro b; cases b <;> simp [Lib.compareBytes]
    | cons x a ih =>
      intro b
      cases b with
      | nil => simp [Lib.compareBytes]
      | cons y b =>
        simp only [Lib.compareBytes]
        by_cases h1 : x < y
        · have h2 : ¬ y < x := fun h => UInt8.lt_irrefl x (UInt8.lt_trans h1 h)
          rw [if_neg h2, if_pos h1, if_pos h1]; rfl
        · by_cases h2 : y < x
          · rw [if_pos h2, if_neg h1, if_pos h2]
          · rw [if_neg h2, if_neg h1, if_neg h1, if_neg h2]; exact ih b
  zero := by
    intro a
    induction a with
    | nil => intro b; cases b <;> simp [Lib.compareBytes]
    | cons x a ih =>
      intro b
      cases b with
      | nil => simp [Lib.compareBytes]
      | cons y b =>
        simp only [Lib.compareBytes]
        by_cases h1 : x < y
        · rw [if_pos h1]
          constructor
          · intro h; cases h
          · intro h
            obtain ⟨rfl, _⟩ := List.cons.inj h
            exact absurd h1 (UInt8.lt_irrefl x)
        · rw [if_neg h1]
          by_cases h2 : y < x
          · rw [if_pos h2]
            constructor
            · intro h; cases h
            · intro h
              obtain ⟨rfl, _⟩ := List.cons.inj h
              exact absurd h2 (UInt8.lt_irrefl x)
          · rw [if_neg h2, ih b]
            have e : x = y := by
              have k1 : ¬ x.toNat < y.toNat := fun h => h1 (UInt8.lt_iff_toNat_lt.2 h)
              have k2 : ¬ y.toNat < x.toNat := fun h => h2 (UInt8.lt_iff_toNat_lt.2 h)
              exact UInt8.toNat_inj.1 (by omega)
            subst e
            simp
  trans := by
    intro a
    induction a with
    | nil => intro b c _ _; cases c <;> simp [Lib.compareBytes]
    | cons x a ih =>
      intro b c h1 h2
      cases b with
      | nil => simp [Lib.compareBytes] at h1
      | cons y b =>
        cases c with
        | nil => simp [Lib.compareBytes] at h2
        | cons z c =>
          simp only [Lib.compareBytes] at h1 h2 ⊢
          have n1 := @UInt8.lt_iff_toNat_lt x y
          have n2 := @UInt8.lt_iff_toNat_lt y x
          have n3 := @UInt8.lt_iff_toNat_lt y z
          have n4 := @UInt8.lt_iff_toNat_lt z y
          have n5 := @UInt8.lt_iff_toNat_lt x z
          have n6 := @UInt8.lt_iff_toNat_lt z x
          by_cases c1 : x < z
          · rw [if_pos c1]; decide
          · rw [if_neg c1]
            by_cases k1 : x < y
            · by_cases k3 : y < z
              · exact absurd (UInt8.lt_trans k1 k3) c1
              · rw [if_neg k3] at h2
                by_cases k4 : z < y
                · rw [if_pos k4] at h2; exact absurd h2 (by decide)
                · exfalso; apply c1; rw [n5]; rw [n1] at k1; rw [n3] at k3; rw [n4] at k4; omega
            · rw [if_neg k1] at h1
              by_cases k2 : y < x
              · rw [if_pos k2] at h1; exact absurd h1 (by decide)
              · rw [if_neg k2] at h1
                by_cases k3 : y < z
                · exfalso; apply c1; rw [n5]; rw [n1] at k1; rw [n2] at k2; rw [n3] at k3; omega
                · rw [if_neg k3] at h2
                  by_cases k4 : z < y
                  · rw [if_pos k4] at h2; exact absurd h2 (by decide)
                  · rw [if_neg k4] at h2
                    have c2 : ¬ z < x := by rw [n6]; rw [n1] at k1; rw [n2] at k2; rw [n3] at k3; rw [n4] at k4; omega
                    rw [if_neg c2]
                    exact ih b c h1 h2

theorem ord_cmpB : IsOrd cmpB where
  rng a b := ord_bytes.rng _ _
  anti a b := ord_bytes.anti _ _
  zero a b := (ord_bytes.zero _ _).trans ⟨ba_eq, fun h => by rw [h]⟩
  trans a b c := ord_bytes.trans _ _ _

theorem ord_cmpLab : IsOrd cmpLab where
  rng := by
    intro a
    induction a with
    | nil => intro b; cases b <;> simp [cmpLab]
    | cons x a ih =>
      intro b
      cases b with
      | nil => simp [cmpLab]
      | cons y b =>
        simp only [cmpLab]
        split
        · exact ih b
        · exact ord_cmpB.rng x y
  anti := by
    intro a
    induction a with
    | nil => intro b; cases b <;> simp [cmpLab]
    | cons x a ih =>
      intro b
      cases b with
      | nil => simp [cmpLab]
      | cons y b =>
        simp only [cmpLab]
        have h := ord_cmpB.anti x y
        by_cases h1 : cmpB x y = 0
        · rw [if_pos h1, if_pos (by omega)]; exact ih b
        · rw [if_neg h1, if_neg (by omega)]; exact h
  zero := by
    intro a
    induction a with
    | nil => intro b; cases b <;> simp [cmpLab]
    | cons x a ih =>
      intro b
      cases b with
      | nil => simp [cmpLab]
      | cons y b =>
        simp only [cmpLab]
        have h := ord_cmpB.zero x y
        by_cases h1 : cmpB x y = 0
        · rw [if_pos h1, ih b, h.1 h1]; simp
        · rw [if_neg h1]
          constructor
          · intro h2; exact absurd h2 h1
          · intro h2; exact absurd (h.2 (List.cons.inj h2).1) h1
  trans := by
    intro a
    induction a with
    | nil => intro b c _ _; cases c <;> simp [cmpLab]
    | cons x a ih =>
      intro b c h1 h2
      cases b with
      | nil => simp [cmpLab] at h1
      | cons y b =>
        cases c with
        | nil => simp [cmpLab] at h2
        | cons z c =>
          simp only [cmpLab] at h1 h2 ⊢
          have t1 := ord_cmpB.trans x y z
          by_cases k1 : cmpB x y = 0
          · rw [if_pos k1] at h1
            have e1 := (ord_cmpB.zero x y).1 k1
            subst e1
            by_cases k2 : cmpB x z = 0
            · rw [if_pos k2] at h2
              rw [if_pos k2]
              exact ih b c h1 h2
            · rw [if_neg k2] at h2
              rw [if_neg k2]
              exact h2
          · rw [if_neg k1] at h1
            by_cases k2 : cmpB y z = 0
            · have e2 := (ord_cmpB.zero y z).1 k2
              subst e2
              rw [if_neg k1]
              exact h1
            · rw [if_neg k2] at h2
              have h3 := t1 h1 h2
              by_cases k3 : cmpB x z = 0
              · have e3 := (ord_cmpB.zero x z).1 k3
                subst e3
                have := ord_cmpB.anti x y
                omega
              · rw [if_neg k3]; exact h3

theorem ord_cmpS : IsOrd cmpS where
  rng a b := by
    unfold cmpS
    split
    · split
      · exact ord_cmpLab.rng _ _
      · exact Or.inl rfl
    · split
      · exact Or.inr (Or.inr rfl)
      · exact ord_cmpB.rng _ _
  anti a b := by
    unfold cmpS
    cases h1 : mayN a <;> cases h2 : mayN b <;> simp
    · exact ord_cmpB.anti a b
    · exact ord_cmpLab.anti _ _
  zero a b := by
    unfold cmpS
    cases h1 : mayN a <;> cases h2 : mayN b <;> simp
    · exact ord_cmpB.zero a b
    · rintro rfl; rw [h1] at h2; cases h2
    · rintro rfl; rw [h1] at h2; cases h2
    · rw [cmpN, ord_cmpLab.zero, List.reverse_inj]
      obtain ⟨_, _, k1⟩ := labs_spec h1
      obtain ⟨_, _, k2⟩ := labs_spec h2
      constructor
      · intro h; rw [k1, k2, h]
      · intro h; rw [h]
  trans a b c := by
    unfold cmpS
    cases h1 : mayN a <;> cases h2 : mayN b <;> cases h3 : mayN c <;> simp
    · exact ord_cmpB.trans a b c
    · exact ord_cmpLab.trans _ _ _
theorem cmpS_ge (a b c : ByteArray) (h1 : 0 ≤ cmpS a b) (h2 : 0 ≤ cmpS b c) : 0 ≤ cmpS a c := by
  have := ord_cmpS.trans c b a (by rw [ord_cmpS.anti b c]; omega) (by rw [ord_cmpS.anti a b]; omega)
  rw [ord_cmpS.anti a c] at this
  omega

/-- What is under comes behind. -/
theorem und_cmp {L M : List ByteArray} (h : undL L M = true) : 0 ≤ cmpN L M := by
  obtain ⟨k, _, rfl⟩ := (undL_iff _ _).1 h
  have e : L.reverse = (L.drop k).reverse ++ (L.take k).reverse := by rw [← List.reverse_append, List.take_append_drop]
  rw [cmpN, e]
  have key : ∀ x y : List ByteArray, 0 ≤ cmpLab (x ++ y) x := by
    intro x
    induction x with
    | nil => intro y; cases y <;> simp [cmpLab]
    | cons a x ih => intro y; simp only [List.cons_append, cmpLab]; rw [if_pos ((ord_cmpB.zero a a).2 rfl)]; exact ih y
  exact key _ _

/-- The longest that both are under. -/
theorem comN_most {L M D : List ByteArray} (h1 : undL L D = true) (h2 : undL M D = true) : D.length ≤ (comN L [M]).length := by
  induction L with
  | nil =>
    obtain ⟨k, _, rfl⟩ := (undL_iff _ _).1 h1
    simp
  | cons a L ih =>
    cases h : undL M (a :: L)
    · rw [comN_no (by simp [h])]
      obtain ⟨k, hk, rfl⟩ := (undL_iff _ _).1 h1
      cases k with
      | zero => rw [List.drop_zero] at h2; rw [h2] at h; cases h
      | succ k => exact ih ((undL_iff _ _).2 ⟨k, by simpa using hk, rfl⟩)
    · rw [comN_yes (by simp [h])]
      obtain ⟨k, _, rfl⟩ := (undL_iff _ _).1 h1
      simp
theorem comN_und (L M : List ByteArray) : undL L (comN L [M]) = true ∧ undL M (comN L [M]) = true := by
  obtain ⟨k, hk, h1, h2⟩ := comN_drop L [M]
  rw [h1]
  exact ⟨(undL_iff _ _).2 ⟨k, hk, rfl⟩, by simpa using h2⟩
theorem und_len {L A B : List ByteArray} (h1 : undL L A = true) (h2 : undL L B = true) (h : A.length = B.length) : A = B := by
  obtain ⟨j, hj, rfl⟩ := (undL_iff _ _).1 h1
  obtain ⟨k, hk, rfl⟩ := (undL_iff _ _).1 h2
  rw [List.length_drop, List.length_drop] at h
  rw [show j = k by omega]
theorem comN_sym (L M : List ByteArray) : comN L [M] = comN M [L] := by
  obtain ⟨a1, a2⟩ := comN_und L M
  obtain ⟨b1, b2⟩ := comN_und M L
  have h1 := comN_most a2 a1
  have h2 := comN_most b2 b1
  exact und_len a1 b2 (by omega)
theorem comN_is (L M : List ByteArray) : undL L M = true ↔ comN L [M] = M := by
  obtain ⟨a1, a2⟩ := comN_und L M
  constructor
  · intro h
    have h1 := comN_most h (undL_refl M)
    obtain ⟨k, hk, h2⟩ := (undL_iff _ _).1 a2
    have h3 := congrArg List.length h2
    rw [List.length_drop] at h3
    exact und_len a2 (undL_refl M) (by omega)
  · intro h; rw [h] at a1; exact a1
end Go.Proofs.Ytgdbbdbfaglkdaa
