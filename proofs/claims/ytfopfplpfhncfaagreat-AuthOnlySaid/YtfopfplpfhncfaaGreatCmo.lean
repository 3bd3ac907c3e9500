/- Plain: a record more, whatever the order. -/
import Derived.Test.YtfopfplpfhncfaaGreatSBa
namespace Go.Proofs.YtfopfplpfhncfaaGreat
open Go.RowKit

/-- Two sets of one key, of the same records of that key, are the same. -/
theorem canon_at {l l' : List R5} {S S' : List SetP} (h : Canon l S) (h' : Canon l' S') {s s' : SetP} (hs : s ∈ S) (hs' : s' ∈ S') (hk : s'.k = s.k) (hm : ∀ r, r.k = s.k → (r ∈ l ↔ r ∈ l')) : s = s' := by
  have mem1 : ∀ d, d ∈ s.data → d ∈ s'.data := fun x hx => by
    obtain ⟨r, hr, h1, h2⟩ := (h.mem s.k x).1 ⟨s, hs, rfl, hx⟩
    obtain ⟨t, ht, hkt, hxt⟩ := (h'.mem s.k x).2 ⟨r, (hm r h1).1 hr, h1, h2⟩
    rw [h'.uniq hs' ht (hk.trans hkt.symm)]; exact hxt
  have mem2 : ∀ d, d ∈ s'.data → d ∈ s.data := fun x hx => by
    obtain ⟨r, hr, h1, h2⟩ := (h'.mem s.k x).1 ⟨s', hs', hk, hx⟩
    obtain ⟨t, ht, hkt, hxt⟩ := (h.mem s.k x).2 ⟨r, (hm r h1).2 hr, h1, h2⟩
    rw [h.uniq hs ht hkt.symm]; exact hxt
  have hdat : s.data = s'.data := pw_ext ord_cmpB.anti (h.rise s hs) (h'.rise s' hs') fun x => ⟨mem1 x, mem2 x⟩
  have httl : s.ttl = s'.ttl := by
    obtain ⟨⟨r, hr, h1, h2⟩, h3⟩ := h.low s hs
    obtain ⟨⟨r', hr', h1', h2'⟩, h3'⟩ := h'.low s' hs'
    have a1 := h3' r ((hm r h1).1 hr) (h1.trans hk.symm)
    have a2 := h3 r' ((hm r' (h1'.trans hk)).2 hr') (h1'.trans hk)
    omega
  obtain ⟨a, b, c⟩ := s
  obtain ⟨a', b', c'⟩ := s'
  simp only at hk hdat httl
  rw [hk, hdat, httl]
theorem nodup_le {α : Type} : ∀ {A B : List α}, A.Nodup → (∀ x, x ∈ A → x ∈ B) → A.length ≤ B.length := by
  intro A
  induction A with
  | nil => intro B _ _; exact Nat.zero_le _
  | cons a A ih =>
    intro B hn hs
    obtain ⟨B1, B2, rfl⟩ := List.append_of_mem (hs a List.mem_cons_self)
    obtain ⟨h1, h2⟩ := List.nodup_cons.1 hn
    have := ih (B := B1 ++ B2) h2 fun x hx => by
      rcases List.mem_append.1 (hs x (List.mem_cons_of_mem _ hx)) with h | h
      · exact List.mem_append_left _ h
      · rcases List.mem_cons.1 h with rfl | h
        · exact absurd hx h1
        · exact List.mem_append_right _ h
    simp only [List.length_append, List.length_cons] at this ⊢
    omega
theorem rise_nodup {α : Type} {f : α → α → Int} (anti : ∀ a b, f b a = - f a b) {l : List α} (h : l.Pairwise (fun a b => f a b < 0)) : l.Nodup := by
  refine h.imp ?_
  intro a b hab e
  subst e
  have := anti a a
  omega
theorem Canon.keys_nodup {l : List R5} {S : List SetP} (h : Canon l S) : (S.map SetP.k).Nodup := by
  refine rise_nodup ord_kcmp.anti ?_
  rw [List.pairwise_map]
  exact h.keys
theorem Canon.key_mem {l : List R5} {S : List SetP} (h : Canon l S) (k : Ky) : k ∈ S.map SetP.k ↔ ∃ r ∈ l, r.k = k := by
  rw [List.mem_map]
  constructor
  · rintro ⟨s, hs, rfl⟩
    obtain ⟨⟨r, hr, h1, _⟩, _⟩ := h.low s hs
    exact ⟨r, hr, h1⟩
  · rintro ⟨r, hr, rfl⟩
    obtain ⟨s, hs, hk, _⟩ := (h.mem r.k r.d).2 ⟨r, hr, rfl, rfl⟩
    exact ⟨s, hs, hk⟩
theorem findK_iff {l : List R5} {S : List SetP} (h : Canon l S) (k : Ky) (s : SetP) : findK S k = some s ↔ s ∈ S ∧ s.k = k := by
  constructor
  · intro hf
    exact ⟨List.mem_of_find?_eq_some hf, by simpa using List.find?_some hf⟩
  · rintro ⟨hs, hk⟩
    cases hf : findK S k with
    | none =>
      have h1 := List.find?_eq_none.1 hf s hs
      simp [hk] at h1
    | some t =>
      have h1 : t.k = k := by simpa using List.find?_some hf
      rw [h.uniq hs (List.mem_of_find?_eq_some hf) (hk.trans h1.symm)]
/-- A record more: its set. -/
theorem more_own {l : List R5} {r : R5} {A B : List SetP} (ha : Canon l A) (hb : Canon (l ++ [r]) B) {s : SetP} (hs : s ∈ B) (hk : s.k = r.k) : r.d ∈ s.data ∧ s.ttl ≤ r.ttl ∧ ∀ q, findK A s.k = some q → s.ttl ≤ q.ttl ∧ s.data.length ≤ q.data.length + 1 := by
  have hr : r ∈ l ++ [r] := by simp
  refine ⟨?_, (hb.low s hs).2 r hr hk.symm, fun q hq => ?_⟩
  · obtain ⟨t, ht, hkt, hd⟩ := (hb.mem r.k r.d).2 ⟨r, hr, rfl, rfl⟩
    rw [hb.uniq hs ht (hk.trans hkt.symm)]; exact hd
  · obtain ⟨hqA, hqk⟩ := (findK_iff ha _ _).1 hq
    constructor
    · obtain ⟨⟨p, hp, h1, h2⟩, _⟩ := ha.low q hqA
      have := (hb.low s hs).2 p (List.mem_append_left _ hp) (h1.trans hqk)
      omega
    · have := nodup_le (A := s.data) (B := r.d :: q.data) (rise_nodup ord_cmpB.anti (hb.rise s hs)) fun x hx => by
        obtain ⟨p, hp, h1, h2⟩ := (hb.mem s.k x).1 ⟨s, hs, rfl, hx⟩
        rcases List.mem_append.1 hp with hp | hp
        · obtain ⟨t, ht, hkt, hxt⟩ := (ha.mem s.k x).2 ⟨p, hp, h1, h2⟩
          rw [ha.uniq hqA ht (hqk.trans hkt.symm)]
          exact List.mem_cons_of_mem _ hxt
        · obtain rfl := List.mem_singleton.1 hp
          rw [← h2]; exact List.mem_cons_self
      simpa using this
/-- A record more: all other sets stay. -/
theorem more_other {l : List R5} {r : R5} {A B : List SetP} (ha : Canon l A) (hb : Canon (l ++ [r]) B) {s : SetP} (hs : s ∈ B) (hk : ¬ s.k = r.k) : findK A s.k = some s := by
  have hm : ∀ p : R5, p.k = s.k → (p ∈ l ++ [r] ↔ p ∈ l) := fun p hp => by
    rw [List.mem_append, List.mem_singleton]
    constructor
    · rintro (h | h)
      · exact h
      · subst h; exact absurd hp.symm hk
    · exact Or.inl
  obtain ⟨⟨p, hp, h1, _⟩, _⟩ := hb.low s hs
  obtain ⟨s', hs', hk', _⟩ := (ha.mem s.k p.d).2 ⟨p, (hm p h1).1 hp, h1, rfl⟩
  have : s = s' := canon_at hb ha hs hs' hk' hm
  subst this
  exact (findK_iff ha _ _).2 ⟨hs', rfl⟩
/-- A record more: how many sets. -/
theorem more_count {l : List R5} {r : R5} {A B : List SetP} (ha : Canon l A) (hb : Canon (l ++ [r]) B) : B.length = A.length + (if (findK A r.k).isSome then 0 else 1) := by
  have la : (A.map SetP.k).length = A.length := List.length_map ..
  have lb : (B.map SetP.k).length = B.length := List.length_map ..
  have hmb : ∀ k, k ∈ B.map SetP.k ↔ k ∈ A.map SetP.k ∨ k = r.k := fun k => by
    rw [hb.key_mem, ha.key_mem]
    constructor
    · rintro ⟨p, hp, h1⟩
      rcases List.mem_append.1 hp with hp | hp
      · exact Or.inl ⟨p, hp, h1⟩
      · obtain rfl := List.mem_singleton.1 hp
        exact Or.inr h1.symm
    · rintro (⟨p, hp, h1⟩ | rfl)
      · exact ⟨p, List.mem_append_left _ hp, h1⟩
      · exact ⟨r, by simp, rfl⟩
  have hab := nodup_le ha.keys_nodup (B := B.map SetP.k) fun k hk => (hmb k).2 (Or.inl hk)
  cases hf : findK A r.k with
  | some q =>
    obtain ⟨hq, hqk⟩ := (findK_iff ha _ _).1 hf
    have hba := nodup_le hb.keys_nodup (B := A.map SetP.k) fun k hk => by
      rcases (hmb k).1 hk with h | rfl
      · exact h
      · exact List.mem_map.2 ⟨q, hq, hqk⟩
    simp only [Option.isSome_some, if_true]
    omega
  | none =>
    have hno : ¬ r.k ∈ A.map SetP.k := fun h => by
      obtain ⟨q, hq, hqk⟩ := List.mem_map.1 h
      rw [(findK_iff ha _ _).2 ⟨hq, hqk⟩] at hf; cases hf
    have h1 := nodup_le (A := r.k :: A.map SetP.k) (B := B.map SetP.k) (List.nodup_cons.2 ⟨hno, ha.keys_nodup⟩) fun k hk => by
      rcases List.mem_cons.1 hk with rfl | h
      · exact (hmb _).2 (Or.inr rfl)
      · exact (hmb _).2 (Or.inl h)
    have h2 := nodup_le hb.keys_nodup (B := r.k :: A.map SetP.k) fun k hk => by
      rcases (hmb k).1 hk with h | rfl
      · exact List.mem_cons_of_mem _ h
      · exact List.mem_cons_self
    simp only [List.length_cons] at h1 h2
    simp only [Option.isSome_none, Bool.false_eq_true, if_false]
    omega
/-- A list turned round. -/
def turned (l : List R5) (m k : Nat) : List R5 := (List.range k).map fun i => l.getD ((i + m) % l.length) rr0
theorem turned_len (l : List R5) (m k : Nat) : (turned l m k).length = k := by simp [turned]
theorem turned_next (l : List R5) (m k : Nat) : turned l m (k + 1) = turned l m k ++ [l.getD ((k + m) % l.length) rr0] := by
  simp [turned, List.range_succ]
theorem turned_mem (l : List R5) (m : Nat) (hm : m < l.length ∨ l.length = 0) (x : R5) : x ∈ turned l m l.length ↔ x ∈ l := by
  rw [turned, List.mem_map]
  constructor
  · rintro ⟨i, hi, rfl⟩
    have hi := List.mem_range.1 hi
    have : (i + m) % l.length < l.length := Nat.mod_lt _ (by omega)
    rw [List.getD_eq_getElem?_getD, List.getElem?_eq_getElem this]
    exact List.getElem_mem _
  · intro hx
    obtain ⟨j, hj⟩ := List.getElem?_of_mem hx
    obtain ⟨hjl, _⟩ := List.getElem?_eq_some_iff.1 hj
    have hm : m < l.length := by omega
    refine ⟨(j + (l.length - m)) % l.length, List.mem_range.2 (Nat.mod_lt _ (by omega)), ?_⟩
    have : ((j + (l.length - m)) % l.length + m) % l.length = j := by
      rw [Nat.mod_add_mod, show j + (l.length - m) + m = j + l.length by omega, Nat.add_mod_right, Nat.mod_eq_of_lt hjl]
    rw [this, List.getD_eq_getElem?_getD, hj]
    rfl
end Go.Proofs.YtfopfplpfhncfaaGreat
