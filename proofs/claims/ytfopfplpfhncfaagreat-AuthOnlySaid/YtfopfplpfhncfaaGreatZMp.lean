/- ZoneMore, plain: a zone with a record more. -/
import Derived.Test.YtfopfplpfhncfaaGreatZBp
import Derived.Test.YtfopfplpfhncfaaGreatCmo
namespace Go.Proofs.YtfopfplpfhncfaaGreat
open Go.RowKit

theorem names_filter (S : List SetP) (n : ByteArray) : namesN S n = sumD (S.filter (fun s => open Classical in decide (s.k.n = n))) := by
  induction S with
  | nil => rfl
  | cons s S ih =>
    rw [namesN, List.filter_cons, ih]
    by_cases h : s.k.n = n
    · rw [if_pos h, if_pos (by simpa using h), sumD]
    · rw [if_neg h, if_neg (by simpa using h), Nat.zero_add]
theorem soas_filter (S : List SetP) : soasN S = sumD (S.filter (fun s => decide (s.k.t = 6))) := by
  induction S with
  | nil => rfl
  | cons s S ih =>
    rw [soasN, List.filter_cons, ih]
    by_cases h : s.k.t = 6
    · rw [if_pos h, if_pos (by simpa using h), sumD]
    · rw [if_neg h, if_neg (by simpa using h), Nat.zero_add]
theorem more_mem {l : List R5} {r : R5} {A B : List SetP} (ha : Canon l A) (hb : Canon (l ++ [r]) B) {s : SetP} (hk : s.k ≠ r.k) : s ∈ A ↔ s ∈ B := by
  constructor
  · intro hs
    obtain ⟨d, hd⟩ : ∃ d, d ∈ s.data := List.exists_mem_of_ne_nil _ (ha.non s hs)
    obtain ⟨r1, hr1, g1, g2⟩ := (ha.mem s.k d).1 ⟨s, hs, rfl, hd⟩
    obtain ⟨s', hs', k1, k2⟩ := (hb.mem s.k d).2 ⟨r1, List.mem_append_left _ hr1, g1, g2⟩
    have h1 := find_mem (more_other ha hb hs' (by rw [k1]; exact hk))
    rw [ha.uniq hs h1 k1.symm]; exact hs'
  · intro hs
    exact find_mem (more_other ha hb hs hk)
theorem filter_same {l : List R5} {r : R5} {A B : List SetP} (ha : Canon l A) (hb : Canon (l ++ [r]) B) (p : SetP → Bool) (hp : ∀ s, p s = true → s.k ≠ r.k) : A.filter p = B.filter p := by
  refine pw_ext (f := fun s t : SetP => kcmp s.k t.k) (fun _ _ => ord_kcmp.anti _ _) (ha.keys.filter p) (hb.keys.filter p) (fun s => ?_)
  rw [List.mem_filter, List.mem_filter]
  constructor
  · rintro ⟨h1, h2⟩; exact ⟨(more_mem ha hb (hp s h2)).1 h1, h2⟩
  · rintro ⟨h1, h2⟩; exact ⟨(more_mem ha hb (hp s h2)).2 h1, h2⟩
theorem find_some_of {l : List R5} {S : List SetP} (h : Canon l S) {s : SetP} (hs : s ∈ S) : findK S s.k = some s := (findK_iff h s.k s).2 ⟨hs, rfl⟩
/-- A record more under the apex, of a name that has no CNAME, neither a CNAME nor an SOA itself, leaves a zone a zone. -/
theorem whole_more {apex : ByteArray} {l : List R5} {r : R5} {A B : List SetP} (ha : Canon l A) (hb : Canon (l ++ [r]) B) (hw : wholeB apex A = true) (hu : undS r.k.n apex = true) (hc : r.k.c = 1) (h5 : r.k.t ≠ 5) (h6 : r.k.t ≠ 6) (hn : findK A ⟨r.k.n, 5, 1⟩ = none) : wholeB apex B = true := by
  obtain ⟨w1, w2, ⟨s6, f6⟩, ⟨s2, f2⟩, w5⟩ := whole_parts hw
  have hB1 : ∀ s ∈ B, undS s.k.n apex = true ∧ s.k.c = 1 := by
    intro s hs
    by_cases hk : s.k = r.k
    · rw [hk]; exact ⟨hu, hc⟩
    · exact w1 s ((more_mem ha hb hk).2 hs)
  have g6 : findK B ⟨apex, 6, 1⟩ = some s6 := by
    have h1 := find_key f6
    have h2 := (more_mem ha hb (s := s6) (by rw [h1]; intro e; exact h6 (by rw [← e]))).1 (find_mem f6)
    have h3 := find_some_of hb h2
    rw [h1] at h3; exact h3
  have g2 : (findK B ⟨apex, 2, 1⟩).isSome = true := by
    obtain ⟨d, hd⟩ : ∃ d, d ∈ s2.data := List.exists_mem_of_ne_nil _ (ha.non s2 (find_mem f2))
    obtain ⟨r1, hr1, k1, k2⟩ := (ha.mem s2.k d).1 ⟨s2, find_mem f2, rfl, hd⟩
    obtain ⟨s', hs', j1, -⟩ := (hb.mem s2.k d).2 ⟨r1, List.mem_append_left _ hr1, k1, k2⟩
    have h3 := find_some_of hb hs'
    rw [j1, find_key f2] at h3
    rw [h3]; rfl
  have gs : soasN B = 1 := by
    rw [soas_filter, ← filter_same ha hb _ (fun s hs e => h6 (by rw [← e]; simpa using hs)), ← soas_filter]; exact w5
  have hB2 : ∀ s ∈ B, cnB B s = true := by
    intro s hs
    by_cases ht : s.k.t = 5
    · have hk : s.k ≠ r.k := fun e => h5 (by rw [← e]; exact ht)
      have hsA := (more_mem ha hb hk).2 hs
      have hkey : s.k = ⟨s.k.n, 5, 1⟩ := by
        have h1 := (w1 s hsA).2
        obtain ⟨⟨a, b, c⟩, u, d⟩ := s
        simp only at ht h1
        rw [ht, h1]
      have hne : s.k.n ≠ r.k.n := by
        intro e
        have h1 := find_some_of ha hsA
        rw [hkey, e, hn] at h1
        cases h1
      have h2 := w2 s hsA
      have h3 : namesN B s.k.n = namesN A s.k.n := by
        rw [names_filter, names_filter, filter_same ha hb _ (fun t ht e => hne (by
          have h4 : t.k.n = s.k.n := by simpa using ht
          rw [← h4, e]))]
      rw [cnB, h3]; exact h2
    · rw [cnB, show (s.k.t == 5) = false from beq_eq_false_iff_ne.2 ht]; rfl
  rw [whole_yes (fun s hs => by rw [undB, (hB1 s hs).1, (hB1 s hs).2]; rfl) hB2, g6, g2, gs]
  rfl
end Go.Proofs.YtfopfplpfhncfaaGreat
