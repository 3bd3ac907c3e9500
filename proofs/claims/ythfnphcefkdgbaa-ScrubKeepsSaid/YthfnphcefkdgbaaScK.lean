/- ScrubKeeps, plain: what a message says keeps to the cut, and to what it holds. -/
import Derived.Test.YthfnphcefkdgbaaScR
namespace Go.Proofs.Ythfnphcefkdgbaa
open Go.RowKit

theorem wiF_in {cut : ByteArray} {l : List R5} {s : SetP} (h : s ∈ wiF cut l) : undS s.k.n cut = true ∧ s.k.c = 1 ∧ s.data ≠ [] ∧ ∀ d ∈ s.data, ∃ r ∈ l, r.k = s.k ∧ r.d = d ∧ s.ttl ≤ r.ttl ∧ mayR5 r = true := by
  have hc := wiF_canon cut l
  obtain ⟨⟨r, hr, hk, -⟩, hlow⟩ := hc.low s h
  have hin := (List.mem_filter.1 hr).2
  simp only [inC, Bool.and_eq_true, decide_eq_true_eq] at hin
  refine ⟨by rw [← hk]; exact hin.2.2, by rw [← hk]; exact hin.1, hc.non s h, fun d hd => ?_⟩
  obtain ⟨r', hr', hk', hd'⟩ := (hc.mem s.k d).1 ⟨s, h, rfl, hd⟩
  have hin' := (List.mem_filter.1 hr').2
  simp only [inC, Bool.and_eq_true, decide_eq_true_eq] at hin'
  exact ⟨r', (List.mem_filter.1 hr').1, hk', hd', hlow r' hr' hk', hin'.2.1⟩
/-- A set that is kept. -/
def KeptS (cut : ByteArray) (L : List R5) (aa : Bool) (kind : Int) (p : SetP × Int) : Prop := undS p.1.k.n cut = true ∧ p.1.k.c = 1 ∧ p.1.data ≠ [] ∧ 1 ≤ p.2 ∧ p.2 ≤ 4 ∧ (decide (p.2 = 4) = (aa && !decide (kind = 3))) ∧ ∀ d ∈ p.1.data, ∃ r ∈ L, r.k = p.1.k ∧ r.d = d ∧ p.1.ttl ≤ r.ttl
/-- What each kind says. -/
def KeptK (cut qn : ByteArray) (qt r : Int) (aa tc : Bool) (O : OutP) : Prop :=
  (O.kind = 1 ∧ O.ttl = 0 ∧ O.next = emB ∧ ∃ s k, O.sets = [(s, k)] ∧ s.k.n = qn ∧ s.k.t = qt) ∨
  (O.kind = 2 ∧ O.ttl = 0 ∧ O.next ≠ emB ∧ ∃ s k, O.sets = [(s, k)] ∧ s.k.n = qn ∧ s.k.t = 5 ∧ O.next ∈ s.data ∧ qt ≠ 5) ∨
  (O.kind = 3 ∧ O.ttl = 0 ∧ O.next = emB ∧ ∃ (b : SetP) (l : List SetP), O.sets = (b, 2) :: l.map (fun s => (s, (1 : Int))) ∧ b.k.t = 2 ∧ b.k.n ≠ cut ∧ undS qn b.k.n = true ∧ ∀ s ∈ l, s.k.t ∈ [(1 : Int), 28] ∧ s.k.n ∈ b.data) ∨
  (O.kind = 4 ∧ O.next = emB ∧ O.sets = [] ∧ r = 3 ∧ aa = true) ∨
  (O.kind = 5 ∧ O.next = emB ∧ O.sets = [] ∧ r = 0 ∧ aa = true) ∨
  (O.kind = 6 ∧ O.ttl = 0 ∧ O.next = emB ∧ O.sets = [] ∧ tc = true) ∨
  (O.kind = 0 ∧ O.ttl = 0 ∧ O.next = emB ∧ O.sets = [] ∧ tc = false)
theorem bel_lead {cut qn : ByteArray} {qt : Int} (l : List SetP) : ∀ b, l.foldl (belS cut qn qt) b = b ∨ (l.foldl (belS cut qn qt) b ∈ l ∧ leadB cut qn qt (l.foldl (belS cut qn qt) b) = true) := by
  induction l with
  | nil => exact fun b => Or.inl rfl
  | cons x l ih =>
    intro b
    rw [List.foldl_cons]
    rcases ih (belS cut qn qt b x) with h | h
    · rw [h]
      unfold belS
      split
      · exact Or.inr ⟨List.mem_cons_self, (by rename_i h9; exact h9.1)⟩
      · exact Or.inl rfl
    · exact Or.inr ⟨List.mem_cons_of_mem _ h.1, h.2⟩
theorem findK_own {S : List SetP} {k : Ky} {s : SetP} (h : findK S k = some s) : s ∈ S ∧ s.k = k := by
  unfold findK at h
  exact ⟨List.mem_of_find?_eq_some h, by have h2 := List.find?_some h; simpa using h2⟩
theorem rankF_four (aa : Bool) : 1 ≤ rankF aa ∧ rankF aa ≤ 4 ∧ decide (rankF aa = 4) = aa := by cases aa <;> decide
theorem tgS_5 {d : ByteArray} (h : mayD 5 d = true) : tgS 5 d = d := by
  rw [tgS, if_pos (by rw [tgB, h]; decide), if_neg (by decide)]
theorem mayD_5 {d : ByteArray} (h : mayD 5 d = true) : mayN d = true := by
  rw [mayD] at h
  simp only [Bool.and_eq_true] at h
  exact h.2
theorem mayN_em : mayN emB = false := by kernel_rfl
theorem keeps_any (cut qn : ByteArray) (qt qc : Int) (m : MsgP) : (∀ p ∈ (sortF cut qn qt qc m).sets, KeptS cut (m.a ++ m.n ++ m.x) m.b2 (sortF cut qn qt qc m).kind p) ∧ KeptK cut qn qt m.r m.b2 m.b3 (sortF cut qn qt qc m) := by
  have inA : ∀ s ∈ wiF cut m.a, undS s.k.n cut = true ∧ s.k.c = 1 ∧ s.data ≠ [] ∧ ∀ d ∈ s.data, ∃ r ∈ m.a ++ m.n ++ m.x, r.k = s.k ∧ r.d = d ∧ s.ttl ≤ r.ttl := fun s hs => by
    obtain ⟨h1, h2, h3, h4⟩ := wiF_in hs
    exact ⟨h1, h2, h3, fun d hd => by obtain ⟨r, hr, a, b, c, -⟩ := h4 d hd; exact ⟨r, by simp [hr], a, b, c⟩⟩
  have inN : ∀ s ∈ wiF cut m.n, undS s.k.n cut = true ∧ s.k.c = 1 ∧ s.data ≠ [] ∧ ∀ d ∈ s.data, ∃ r ∈ m.a ++ m.n ++ m.x, r.k = s.k ∧ r.d = d ∧ s.ttl ≤ r.ttl := fun s hs => by
    obtain ⟨h1, h2, h3, h4⟩ := wiF_in hs
    exact ⟨h1, h2, h3, fun d hd => by obtain ⟨r, hr, a, b, c, -⟩ := h4 d hd; exact ⟨r, by simp [hr], a, b, c⟩⟩
  have inX : ∀ s ∈ wiF cut m.x, undS s.k.n cut = true ∧ s.k.c = 1 ∧ s.data ≠ [] ∧ ∀ d ∈ s.data, ∃ r ∈ m.a ++ m.n ++ m.x, r.k = s.k ∧ r.d = d ∧ s.ttl ≤ r.ttl := fun s hs => by
    obtain ⟨h1, h2, h3, h4⟩ := wiF_in hs
    exact ⟨h1, h2, h3, fun d hd => by obtain ⟨r, hr, a, b, c, -⟩ := h4 d hd; exact ⟨r, by simp [hr], a, b, c⟩⟩
  obtain ⟨f1, f2, f3⟩ := rankF_four m.b2
  have no : ∀ kind : Int, (kind = 4 ∧ m.r = 3 ∨ kind = 5 ∧ m.r = 0) → m.b3 = false → (∀ p ∈ (noO kind qn m.b2 (wiF cut m.n)).sets, KeptS cut (m.a ++ m.n ++ m.x) m.b2 (noO kind qn m.b2 (wiF cut m.n)).kind p) ∧ KeptK cut qn qt m.r m.b2 m.b3 (noO kind qn m.b2 (wiF cut m.n)) := by
    intro kind hk ht
    rw [noO]
    split
    · rename_i ha
      refine ⟨fun p hp => (by cases hp), ?_⟩
      rcases hk with ⟨rfl, h⟩ | ⟨rfl, h⟩
      · exact Or.inr (Or.inr (Or.inr (Or.inl ⟨rfl, rfl, rfl, h, ha⟩)))
      · exact Or.inr (Or.inr (Or.inr (Or.inr (Or.inl ⟨rfl, rfl, rfl, h, ha⟩))))
    · exact ⟨fun p hp => (by cases hp), Or.inr (Or.inr (Or.inr (Or.inr (Or.inr (Or.inr ⟨rfl, rfl, rfl, rfl, ht⟩)))))⟩
  rw [sortF, sortS]
  by_cases ht : m.b3 = true
  · rw [if_pos ht]
    exact ⟨fun p hp => (by cases hp), Or.inr (Or.inr (Or.inr (Or.inr (Or.inr (Or.inl ⟨rfl, rfl, rfl, rfl, ht⟩)))))⟩
  rw [if_neg ht]
  replace ht : m.b3 = false := by simpa using ht
  by_cases hr : m.r = 0 ∨ m.r = 3
  rotate_left
  · rw [if_pos hr]
    exact ⟨fun p hp => (by cases hp), Or.inr (Or.inr (Or.inr (Or.inr (Or.inr (Or.inr ⟨rfl, rfl, rfl, rfl, ht⟩)))))⟩
  rw [if_neg (not_not_intro hr)]
  split
  · rename_i o ho
    rw [ansO] at ho
    split at ho
    · rename_i s hs
      obtain ⟨hm, hk⟩ := findK_own hs
      injection ho with ho
      subst ho
      obtain ⟨g1, g2, g3, g4⟩ := inA s hm
      refine ⟨fun p hp => ?_, Or.inl ⟨rfl, rfl, rfl, s, _, rfl, by rw [hk], by rw [hk]⟩⟩
      obtain rfl := List.mem_singleton.1 hp
      exact ⟨g1, g2, g3, f1, f2, by rw [f3]; simp, g4⟩
    · rw [aliO] at ho
      split at ho
      · cases ho
      · rename_i s hs
        split at ho
        · rename_i hlq
          obtain ⟨hm, hk⟩ := findK_own hs
          injection ho with ho
          subst ho
          obtain ⟨g1, g2, g3, g4⟩ := inA s hm
          obtain ⟨d, hd⟩ : ∃ d, s.data = [d] := List.length_eq_one_iff.1 hlq.1
          obtain ⟨-, -, -, h4⟩ := wiF_in hm
          obtain ⟨r, -, hrk, hrd, -, hmay⟩ := h4 d (by rw [hd]; simp)
          have h5 : mayD 5 d = true := by
            rw [mayR5, mayR] at hmay
            simp only [Bool.and_eq_true] at hmay
            have h9 := hmay.2.2.2.2
            rw [hrk, hk, hrd] at h9
            exact h9
          have htg : tgS 5 (s.data.getD 0 emB) = d := by rw [hd]; exact tgS_5 h5
          refine ⟨fun p hp => ?_, Or.inr (Or.inl ⟨rfl, rfl, ?_, s, _, rfl, by rw [hk], by rw [hk], ?_, hlq.2⟩)⟩
          · obtain rfl := List.mem_singleton.1 hp
            exact ⟨g1, g2, g3, f1, f2, by rw [f3]; simp, g4⟩
          · show tgS 5 (s.data.getD 0 emB) ≠ emB
            rw [htg]
            intro he
            have h6 := mayD_5 h5
            rw [he, mayN_em] at h6
            cases h6
          · show tgS 5 (s.data.getD 0 emB) ∈ s.data
            rw [htg, hd]; simp
        · cases ho
  · split
    · rename_i h3
      exact no 4 (Or.inl ⟨rfl, h3⟩) ht
    · rename_i h3
      have h0 : m.r = 0 := hr.resolve_right h3
      rw [refO]
      split
      · exact no 5 (Or.inr ⟨rfl, h0⟩) ht
      · rename_i hne
        rw [Option.getD_some]
        have hb : belF cut qn qt (wiF cut m.n) ∈ wiF cut m.n ∧ leadB cut qn qt (belF cut qn qt (wiF cut m.n)) = true := by
          rcases bel_lead (cut := cut) (qn := qn) (qt := qt) (wiF cut m.n) sZ with h | h
          · exact absurd (show (belF cut qn qt (wiF cut m.n)).data = [] by rw [belF, h]; rfl) hne
          · exact h
        obtain ⟨b, hbb⟩ : ∃ b, belF cut qn qt (wiF cut m.n) = b := ⟨_, rfl⟩
        rw [hbb] at hb hne ⊢
        obtain ⟨hbm, hbl⟩ := hb
        simp only [leadB, Bool.and_eq_true, decide_eq_true_eq, Bool.not_eq_true', decide_eq_false_iff_not] at hbl
        have hgl : ∀ s ∈ gluF b (wiF cut m.x), s ∈ wiF cut m.x ∧ s.k.t ∈ [(1 : Int), 28] ∧ s.k.n ∈ b.data := fun s hs => by
          obtain ⟨h1, h2⟩ := List.mem_filter.1 hs
          simp only [gluB, Bool.and_eq_true, decide_eq_true_eq] at h2
          refine ⟨h1, h2.1, ?_⟩
          have h4 := h2.2
          by_cases hx : s.k.n ∈ b.data
          · exact hx
          · rw [memS_f hx] at h4; cases h4
        refine ⟨fun p hp => ?_, Or.inr (Or.inr (Or.inl ⟨rfl, rfl, rfl, b, _, rfl, hbl.1, hbl.2.1, hbl.2.2.1, fun s hs => (hgl s hs).2⟩))⟩
        rcases List.mem_cons.1 hp with rfl | hp
        · obtain ⟨g1, g2, g3, g4⟩ := inN b hbm
          exact ⟨g1, g2, g3, (by decide : (1 : Int) ≤ 2), (by decide : (2 : Int) ≤ 4), by cases m.b2 <;> rfl, g4⟩
        · obtain ⟨s, hs, rfl⟩ := List.mem_map.1 hp
          obtain ⟨g1, g2, g3, g4⟩ := inX s (hgl s hs).1
          exact ⟨g1, g2, g3, (by decide : (1 : Int) ≤ 1), (by decide : (1 : Int) ≤ 4), by cases m.b2 <;> rfl, g4⟩
end Go.Proofs.Ythfnphcefkdgbaa
