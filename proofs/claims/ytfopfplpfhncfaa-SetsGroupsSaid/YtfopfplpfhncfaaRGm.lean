/- The document's Group: rows of sets that a call owns, changed in their midst. -/
import Derived.Test.YtfopfplpfhncfaaCpR
import Derived.Test.YtfopfplpfhncfaaGrW
namespace Go.Proofs.Ytfopfplpfhncfaa
open Go.RowKit

def OwnRS (w : World) (B : Nat) (v : Value) (L : List (SetP × Value)) : Prop :=
  w.ownsRow B 37 5 v L.length (flatS L) ∧ (∀ p ∈ L, w.ownsRow B 9 1 p.2 p.1.data.length (sc p.1.data)) ∧ L.Pairwise (fun p q => ∀ g, p.2.ownBlock = some g → q.2.ownBlock ≠ some g)
theorem OwnRS.nil (w : World) (B : Nat) : OwnRS w B (.slice none 0 0) [] := ⟨World.ownsRow_nil _ _ _ _, (fun p h => by cases h), List.Pairwise.nil⟩
theorem OwnRS.below {w w' : World} {B : Nat} {v : Value} {L : List (SetP × Value)} (h : OwnRS w B v L) (hb : Below w.heap.size w w') : OwnRS w' B v L :=
  ⟨own_below' h.1 hb, fun p hp => own_below' (h.2.1 p hp) hb, h.2.2⟩
theorem OwnRS.data {w : World} {B : Nat} {v : Value} {L : List (SetP × Value)} (h : OwnRS w B v L) : ∀ p ∈ L, DataAt w p := fun p hp => by
  obtain ⟨a, c, h1, h2, h3⟩ := rowS_of_own (h.2.1 p hp)
  exact ⟨a, c, h1, h2, h3⟩
theorem OwnRS.at {w : World} {B : Nat} {v : Value} {L : List (SetP × Value)} (h : OwnRS w B v L) : ∃ a c, v = .slice a L.length c ∧ SetsAt w a L.length (L.map Prod.fst) ∧ (a = none → L.length = 0 ∧ c = 0) := setsAt_own h.1 h.data
/-- The first elements of a row that is owned. -/
theorem own_prefix {w : World} {B g c n size : Nat} {e : TypeId} {xs : List Value} (h : w.ownsRow B e size (.slice (some ⟨g, 0, none⟩) n c) n xs) (k : Nat) (hk : k ≤ n) : w.ownsRow B e size (.slice (some ⟨g, 0, none⟩) k c) k (xs.take (k * size)) := by
  have h0 := h.1
  have hkn : k * size ≤ n * size := Nat.mul_le_mul_right _ hk
  rcases h.2 with ⟨h', _⟩ | ⟨g', cap', cur, h', hb, hg, hnc, hcm, hcs, htake⟩
  · cases h'
  · injection h' with h1 h2 h3
    injection h1 with h1
    injection h1 with h1
    subst h1 h3
    refine ⟨by rw [List.length_take, h0]; omega, Or.inr ⟨g, c, cur, rfl, hb, hg, by omega, hcm, hcs, ?_⟩⟩
    rw [← htake, List.take_take, Nat.min_eq_left hkn]
theorem flatS_mid (A D : List (SetP × Value)) (p : SetP × Value) : flatS (A ++ p :: D) = flatS A ++ (encS p ++ flatS D) := by
  rw [flatS_append]; rfl
theorem flatS_take (A D : List (SetP × Value)) : (flatS (A ++ D)).take (A.length * 5) = flatS A := by
  rw [flatS_append, List.take_append_of_le_length (by rw [flatS_len]; exact Nat.le_refl _), List.take_of_length_le (by rw [flatS_len]; exact Nat.le_refl _)]
theorem flatS_set (A D : List (SetP × Value)) (p p' : SetP × Value) (j : Nat) (u : Value) (hj : j < 5) (h : (encS p).set j u = encS p') : (flatS (A ++ p :: D)).set (A.length * 5 + j) u = flatS (A ++ p' :: D) := by
  rw [flatS_mid, flatS_mid, List.set_append_right _ _ (by rw [flatS_len]; omega), flatS_len, Nat.add_sub_cancel_left, List.set_append_left _ _ (by rw [encS_len]; exact hj), h]
theorem OwnRS.shape {w : World} {B : Nat} {v : Value} {L : List (SetP × Value)} (h : OwnRS w B v L) (h0 : 0 < L.length) : ∃ g c, v = .slice (some ⟨g, 0, none⟩) L.length c ∧ B ≤ g ∧ g < w.heap.size := by
  rcases h.1.2 with ⟨_, h1⟩ | ⟨g, cap, cur, rfl, hb, hg, _⟩
  · omega
  · exact ⟨g, cap, rfl, hb, (Array.getElem?_eq_some_iff.1 hg).1⟩
theorem OwnRS.cells {w : World} {B g n c : Nat} {A D : List (SetP × Value)} {s : SetP} {dv : Value} (h : OwnRS w B (.slice (some ⟨g, 0, none⟩) n c) (A ++ (s, dv) :: D)) : (∀ j u, j < 5 → (encS (s, dv))[j]? = some u → w.cell? ⟨g, A.length * 5 + j, none⟩ = some u) ∧ (∀ j, w.frozen? ⟨g, j, none⟩ = false) ∧ w.ownsRow B 9 1 dv s.data.length (sc s.data) ∧ n = (A ++ (s, dv) :: D).length := by
  have hn : n = (A ++ (s, dv) :: D).length := by
    have h2 := h.1.2
    rcases h2 with ⟨h', _⟩ | ⟨g', cap', cur, h', _⟩
    · cases h'
    · injection h'
  subst hn
  refine ⟨fun j u hj hu => ownsRow_at h.1 _ _ ?_, fun j => h.1.frozenAt j, h.2.1 (s, dv) (by simp), rfl⟩
  rw [flatS_mid, List.getElem?_append_right (by rw [flatS_len]; omega), flatS_len, Nat.add_sub_cancel_left, List.getElem?_append_left (by rw [encS_len]; exact hj)]
  exact hu
/-- A set in the midst is written. -/
theorem OwnRS.put {w w1 : World} {B g n c : Nat} {A D : List (SetP × Value)} {s s' : SetP} {dv dv' : Value} (h : OwnRS w B (.slice (some ⟨g, 0, none⟩) n c) (A ++ (s, dv) :: D)) (hg : w.grownBy w1 dv.ownBlock) (ho : w1.ownsRow B 9 1 dv' s'.data.length (sc s'.data)) (hd : dv'.ownBlock = dv.ownBlock ∨ ∃ k, dv'.ownBlock = some k ∧ w.heap.size ≤ k) (j : Nat) (u : Value) (hj : j < 5) (he : (encS (s, dv)).set j u = encS (s', dv')) : OwnRS (w1.setCell ⟨g, A.length * 5 + j, none⟩ u) B (.slice (some ⟨g, 0, none⟩) n c) (A ++ (s', dv') :: D) ∧ w1.grownBy (w1.setCell ⟨g, A.length * 5 + j, none⟩ u) (some g) := by
  obtain ⟨_, _, _, hn⟩ := h.cells
  have hlen : (A ++ (s', dv') :: D).length = n := by rw [hn]; simp
  have hall : ∀ p, p ∈ A ∨ p ∈ D → p ∈ A ++ (s, dv) :: D := fun p hp => by
    rcases hp with hp | hp
    · exact List.mem_append_left _ hp
    · exact List.mem_append_right _ (List.mem_cons_of_mem _ hp)
  have hdv := h.2.1 (s, dv) (by simp)
  have h1 : w.ownsRow B 37 5 (.slice (some ⟨g, 0, none⟩) n c) n (flatS (A ++ (s, dv) :: D)) := by
    have := h.1; rw [← hn] at this; exact this
  have h2 := h1.kept hg (own_ne2 (by decide) h1 hdv)
  obtain ⟨k1, k2⟩ := h2.stored (A.length * 5 + j) u
  rw [flatS_set A D (s, dv) (s', dv') j u hj he] at k1
  obtain ⟨pA, pD, pX⟩ := List.pairwise_append.1 h.2.2
  obtain ⟨pS, pD'⟩ := List.pairwise_cons.1 pD
  have hne : ∀ p, p ∈ A ∨ p ∈ D → p.2.ownBlock = none ∨ p.2.ownBlock ≠ dv.ownBlock := fun p hp => by
    cases e : p.2.ownBlock with
    | none => exact Or.inl rfl
    | some x =>
      right
      intro e2
      rcases hp with hp | hp
      · exact pX p hp (s, dv) List.mem_cons_self x e e2.symm
      · exact pS p hp x e2.symm e
  have hnew : ∀ p, p ∈ A ∨ p ∈ D → ∀ x, p.2.ownBlock = some x → dv'.ownBlock ≠ some x := fun p hp x e e2 => by
    rcases hd with h8 | ⟨k, h8, hk⟩
    · rcases hne p hp with h9 | h9
      · rw [h9] at e; cases e
      · exact h9 (by rw [e, ← h8, e2])
    · rw [h8] at e2
      have e3 := Option.some.inj e2
      have h9 := ((h.2.1 p (hall p hp)).lt x e).2
      omega
  refine ⟨⟨by rw [hlen]; exact k1, fun p hp => ?_, ?_⟩, k2⟩
  · have old : p ∈ A ∨ p ∈ D → (w1.setCell ⟨g, A.length * 5 + j, none⟩ u).ownsRow B 9 1 p.2 p.1.data.length (sc p.1.data) := fun hp => by
      have h7 := (h.2.1 p (hall p hp)).kept hg (hne p hp)
      exact h7.kept k2 (own_ne2 (by decide) h7 h2)
    rcases List.mem_append.1 hp with hp | hp
    · exact old (Or.inl hp)
    · rcases List.mem_cons.1 hp with rfl | hp
      · exact ho.kept k2 (own_ne2 (by decide) ho h2)
      · exact old (Or.inr hp)
  · refine List.pairwise_append.2 ⟨pA, List.pairwise_cons.2 ⟨fun q hq x hx => ?_, pD'⟩, fun p hp q hq x hx => ?_⟩
    · intro e
      exact hnew q (Or.inr hq) x e hx
    · rcases List.mem_cons.1 hq with rfl | hq
      · exact hnew p (Or.inl hp) x hx
      · exact pX p hp q (List.mem_cons_of_mem _ hq) x hx
/-- A set more in the midst. -/
theorem OwnRS.ins {w w1 : World} {B : Nat} {v v' : Value} {A D : List (SetP × Value)} {s : SetP} (h : OwnRS w B v (A ++ D)) (hs : s.data = []) (ho : w1.ownsRow B 37 5 v' (A.length + (1 + D.length)) (flatS A ++ (encS (s, .slice none 0 0) ++ flatS D))) (hd : ∀ p ∈ A ++ D, w1.ownsRow B 9 1 p.2 p.1.data.length (sc p.1.data)) : OwnRS w1 B v' (A ++ (s, .slice none 0 0) :: D) := by
  obtain ⟨pA, pD, pX⟩ := List.pairwise_append.1 h.2.2
  refine ⟨?_, fun p hp => ?_, ?_⟩
  · rw [flatS_mid, List.length_append, List.length_cons, Nat.add_comm D.length 1]; exact ho
  · rcases List.mem_append.1 hp with hp | hp
    · exact hd p (List.mem_append_left _ hp)
    · rcases List.mem_cons.1 hp with rfl | hp
      · show w1.ownsRow B 9 1 (.slice none 0 0) s.data.length (sc s.data)
        rw [hs]; exact World.ownsRow_nil _ _ _ _
      · exact hd p (List.mem_append_right _ hp)
  · refine List.pairwise_append.2 ⟨pA, List.pairwise_cons.2 ⟨(fun q hq x hx => by cases hx), pD⟩, fun p hp q hq x hx => ?_⟩
    rcases List.mem_cons.1 hq with rfl | hq
    · intro e; cases e
    · exact pX p hp q hq x hx
end Go.Proofs.Ytfopfplpfhncfaa
