/- Plain: a record laid into sets, wherever it belongs. -/
import Derived.Test.YtfopfplpfhncfaaCmo
namespace Go.Proofs.Ytfopfplpfhncfaa
open Go.RowKit

theorem mem_mid {α : Type} {A D : List α} {x t : α} : t ∈ A ++ x :: D ↔ t ∈ A ∨ t = x ∨ t ∈ D := by
  rw [List.mem_append, List.mem_cons]
theorem canon_ins_new {l : List R5} {A D : List SetP} {r : R5} (h : Canon l (A ++ D)) (hA : ∀ a ∈ A, kcmp a.k r.k < 0) (hD : ∀ x ∈ D, kcmp r.k x.k < 0) : Canon (l ++ [r]) (A ++ ⟨r.k, r.ttl, [r.d]⟩ :: D) := by
  have hne : ∀ t ∈ A ++ D, ¬ t.k = r.k := fun t ht e => by
    rcases List.mem_append.1 ht with ht | ht
    · have h1 := hA t ht
      have h2 := (ord_kcmp.zero t.k r.k).2 e
      omega
    · have h1 := hD t ht
      have h2 := (ord_kcmp.zero r.k t.k).2 e.symm
      omega
  obtain ⟨k1, k2, k3⟩ := List.pairwise_append.1 h.keys
  have hin : ∀ t, t ∈ A ++ D → t ∈ A ++ (⟨r.k, r.ttl, [r.d]⟩ : SetP) :: D := fun t ht => by
    rcases List.mem_append.1 ht with ht | ht
    · exact mem_mid.2 (Or.inl ht)
    · exact mem_mid.2 (Or.inr (Or.inr ht))
  have hout : ∀ t, t ∈ A ++ (⟨r.k, r.ttl, [r.d]⟩ : SetP) :: D → t ∈ A ++ D ∨ t = ⟨r.k, r.ttl, [r.d]⟩ := fun t ht => by
    rcases mem_mid.1 ht with ht | ht | ht
    · exact Or.inl (List.mem_append_left _ ht)
    · exact Or.inr ht
    · exact Or.inl (List.mem_append_right _ ht)
  refine ⟨?_, ?_, ?_, ?_, ?_⟩
  · refine List.pairwise_append.2 ⟨k1, List.pairwise_cons.2 ⟨fun x hx => hD x hx, k2⟩, fun a ha x hx => ?_⟩
    rcases List.mem_cons.1 hx with rfl | hx
    · exact hA a ha
    · exact k3 a ha x hx
  · intro t ht
    rcases hout t ht with ht | rfl
    · exact h.rise t ht
    · exact List.pairwise_singleton _ _
  · intro k d
    constructor
    · rintro ⟨t, ht, hk, hd⟩
      rcases hout t ht with ht | rfl
      · obtain ⟨q, hq, h1, h2⟩ := (h.mem k d).1 ⟨t, ht, hk, hd⟩
        exact ⟨q, List.mem_append_left _ hq, h1, h2⟩
      · exact ⟨r, by simp, hk, (List.mem_singleton.1 hd).symm⟩
    · rintro ⟨q, hq, h1, h2⟩
      rcases List.mem_append.1 hq with hq | hq
      · obtain ⟨t, ht, hk, hd⟩ := (h.mem k d).2 ⟨q, hq, h1, h2⟩
        exact ⟨t, hin t ht, hk, hd⟩
      · obtain rfl := List.mem_singleton.1 hq
        exact ⟨_, mem_mid.2 (Or.inr (Or.inl rfl)), h1, by rw [← h2]; exact List.mem_singleton_self _⟩
  · intro t ht
    rcases hout t ht with ht | rfl
    · exact h.non t ht
    · simp
  · intro t ht
    rcases hout t ht with ht | rfl
    · obtain ⟨⟨q, hq, h1, h2⟩, h3⟩ := h.low t ht
      refine ⟨⟨q, List.mem_append_left _ hq, h1, h2⟩, fun q hq hk => ?_⟩
      rcases List.mem_append.1 hq with hq | hq
      · exact h3 q hq hk
      · rw [List.mem_singleton.1 hq] at hk
        exact absurd hk.symm (hne t ht)
    · refine ⟨⟨r, by simp, rfl, rfl⟩, fun q hq hk => ?_⟩
      rcases List.mem_append.1 hq with hq | hq
      · obtain ⟨t, ht, h1, _⟩ := (h.mem q.k q.d).2 ⟨q, hq, rfl, rfl⟩
        exact absurd (h1.trans hk) (hne t ht)
      · rw [List.mem_singleton.1 hq]; exact Int.le_refl _
theorem canon_ins_same {l : List R5} {A D : List SetP} {s : SetP} {r : R5} {data' : List ByteArray} (h : Canon l (A ++ s :: D)) (hk : s.k = r.k) (hm : ∀ d, d ∈ data' ↔ d ∈ s.data ∨ d = r.d) (hr : data'.Pairwise (fun x y => cmpB x y < 0)) : Canon (l ++ [r]) (A ++ ⟨s.k, min s.ttl r.ttl, data'⟩ :: D) := by
  have hs : s ∈ A ++ s :: D := mem_mid.2 (Or.inr (Or.inl rfl))
  obtain ⟨k1, k2, k3⟩ := List.pairwise_append.1 h.keys
  obtain ⟨k4, k5⟩ := List.pairwise_cons.1 k2
  have hne : ∀ t, t ∈ A ∨ t ∈ D → ¬ t.k = r.k := fun t ht e => by
    rcases ht with ht | ht
    · have h1 := k3 t ht s List.mem_cons_self
      have h2 := (ord_kcmp.zero t.k s.k).2 (e.trans hk.symm)
      omega
    · have h1 := k4 t ht
      have h2 := (ord_kcmp.zero s.k t.k).2 (hk.trans e.symm)
      omega
  have old : ∀ t, t ∈ A ∨ t ∈ D → t ∈ A ++ s :: D := fun t ht => by
    rcases ht with ht | ht
    · exact mem_mid.2 (Or.inl ht)
    · exact mem_mid.2 (Or.inr (Or.inr ht))
  have hout : ∀ t, t ∈ A ++ (⟨s.k, min s.ttl r.ttl, data'⟩ : SetP) :: D → (t ∈ A ∨ t ∈ D) ∨ t = ⟨s.k, min s.ttl r.ttl, data'⟩ := fun t ht => by
    rcases mem_mid.1 ht with ht | ht | ht
    · exact Or.inl (Or.inl ht)
    · exact Or.inr ht
    · exact Or.inl (Or.inr ht)
  refine ⟨?_, ?_, ?_, ?_, ?_⟩
  · refine List.pairwise_append.2 ⟨k1, List.pairwise_cons.2 ⟨fun x hx => k4 x hx, k5⟩, fun a ha x hx => ?_⟩
    rcases List.mem_cons.1 hx with rfl | hx
    · exact k3 a ha s List.mem_cons_self
    · exact k3 a ha x (List.mem_cons_of_mem _ hx)
  · intro t ht
    rcases hout t ht with ht | rfl
    · exact h.rise t (old t ht)
    · exact hr
  · intro k d
    constructor
    · rintro ⟨t, ht, hkt, hd⟩
      rcases hout t ht with ht | rfl
      · obtain ⟨q, hq, h1, h2⟩ := (h.mem k d).1 ⟨t, old t ht, hkt, hd⟩
        exact ⟨q, List.mem_append_left _ hq, h1, h2⟩
      · rcases (hm d).1 hd with hd | rfl
        · obtain ⟨q, hq, h1, h2⟩ := (h.mem k d).1 ⟨s, hs, hkt, hd⟩
          exact ⟨q, List.mem_append_left _ hq, h1, h2⟩
        · exact ⟨r, by simp, hk.symm.trans hkt, rfl⟩
    · rintro ⟨q, hq, h1, h2⟩
      rcases List.mem_append.1 hq with hq | hq
      · obtain ⟨t, ht, hkt, hd⟩ := (h.mem k d).2 ⟨q, hq, h1, h2⟩
        rcases mem_mid.1 ht with ht | rfl | ht
        · exact ⟨t, mem_mid.2 (Or.inl ht), hkt, hd⟩
        · exact ⟨_, mem_mid.2 (Or.inr (Or.inl rfl)), hkt, (hm d).2 (Or.inl hd)⟩
        · exact ⟨t, mem_mid.2 (Or.inr (Or.inr ht)), hkt, hd⟩
      · obtain rfl := List.mem_singleton.1 hq
        exact ⟨_, mem_mid.2 (Or.inr (Or.inl rfl)), hk.trans h1, (hm d).2 (Or.inr h2.symm)⟩
  · intro t ht
    rcases hout t ht with ht | rfl
    · exact h.non t (old t ht)
    · intro e
      have h1 := (hm r.d).2 (Or.inr rfl)
      have e : data' = [] := e
      rw [e] at h1; cases h1
  · intro t ht
    rcases hout t ht with ht | rfl
    · obtain ⟨⟨q, hq, h1, h2⟩, h3⟩ := h.low t (old t ht)
      refine ⟨⟨q, List.mem_append_left _ hq, h1, h2⟩, fun q hq hkq => ?_⟩
      rcases List.mem_append.1 hq with hq | hq
      · exact h3 q hq hkq
      · rw [List.mem_singleton.1 hq] at hkq
        exact absurd hkq.symm (hne t ht)
    · obtain ⟨⟨q, hq, h1, h2⟩, h3⟩ := h.low s hs
      constructor
      · by_cases hm : s.ttl ≤ r.ttl
        · exact ⟨q, List.mem_append_left _ hq, h1, by show q.ttl = min s.ttl r.ttl; omega⟩
        · exact ⟨r, by simp, hk.symm, by show r.ttl = min s.ttl r.ttl; omega⟩
      · intro q hq hkq
        show min s.ttl r.ttl ≤ q.ttl
        rcases List.mem_append.1 hq with hq | hq
        · have := h3 q hq hkq; omega
        · rw [List.mem_singleton.1 hq]; omega
/-- A datum laid into a list that rises. -/
theorem rise_ins {X Y : List ByteArray} {d : ByteArray} (h : (X ++ Y).Pairwise (fun x y => cmpB x y < 0)) (hX : ∀ x ∈ X, cmpB x d < 0) (hY : ∀ y ∈ Y, cmpB d y < 0) : (X ++ d :: Y).Pairwise (fun x y => cmpB x y < 0) := by
  obtain ⟨k1, k2, k3⟩ := List.pairwise_append.1 h
  refine List.pairwise_append.2 ⟨k1, List.pairwise_cons.2 ⟨hY, k2⟩, fun a ha x hx => ?_⟩
  rcases List.mem_cons.1 hx with rfl | hx
  · exact hX a ha
  · exact k3 a ha x hx
/-- The first of what is behind is the least of it. -/
theorem drop_gt {α : Type} {f : α → α → Int} (hf : IsPre f) {l : List α} (h : l.Pairwise (fun a b => f a b < 0)) {k : Nat} {x y : α} (hx : l[k]? = some x) (hlt : f y x < 0) : ∀ z ∈ l.drop k, f y z < 0 := by
  intro z hz
  obtain ⟨hk, he⟩ := List.getElem?_eq_some_iff.1 hx
  rw [List.drop_eq_getElem_cons hk, he] at hz
  rcases List.mem_cons.1 hz with rfl | hz
  · exact hlt
  · have h1 : (l.drop k).Pairwise (fun a b => f a b < 0) := h.drop
    rw [List.drop_eq_getElem_cons hk, he] at h1
    have h2 := (List.pairwise_cons.1 h1).1 z hz
    exact hf.lt_le hlt (by omega)
end Go.Proofs.Ytfopfplpfhncfaa
