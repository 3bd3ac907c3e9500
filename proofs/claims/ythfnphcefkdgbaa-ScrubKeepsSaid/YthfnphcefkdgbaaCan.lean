/- Plain: what the sets of Group are, in whatever order the records came. -/
import Derived.Test.YthfnphcefkdgbaaMgE
import Derived.Test.YthfnphcefkdgbaaGrW
namespace Go.Proofs.Ythfnphcefkdgbaa
open Go.RowKit

/-- Lists that rise and have the same members are the same. -/
theorem pw_ext {α : Type} {f : α → α → Int} (anti : ∀ a b, f b a = - f a b) : ∀ {l l' : List α}, l.Pairwise (fun a b => f a b < 0) → l'.Pairwise (fun a b => f a b < 0) → (∀ x, x ∈ l ↔ x ∈ l') → l = l' := by
  intro l
  induction l with
  | nil =>
    intro l' _ _ h
    cases l' with
    | nil => rfl
    | cons y l' => exact absurd ((h y).2 List.mem_cons_self) (by simp)
  | cons x l ih =>
    intro l' h1 h2 h
    cases l' with
    | nil => exact absurd ((h x).1 List.mem_cons_self) (by simp)
    | cons y l' =>
      obtain ⟨a1, a2⟩ := List.pairwise_cons.1 h1
      obtain ⟨b1, b2⟩ := List.pairwise_cons.1 h2
      have irr : ∀ z, ¬ f z z < 0 := fun z hz => by have := anti z z; omega
      have hxy : x = y := by
        rcases List.mem_cons.1 ((h x).1 List.mem_cons_self) with e | e
        · exact e
        · rcases List.mem_cons.1 ((h y).2 List.mem_cons_self) with e' | e'
          · exact e'.symm
          · have h3 := b1 x e
            have h4 := a1 y e'
            have := anti x y
            omega
      subst hxy
      have : l = l' := ih a2 b2 fun z => by
        constructor
        · intro hz
          rcases List.mem_cons.1 ((h z).1 (List.mem_cons_of_mem _ hz)) with e | e
          · subst e; exact absurd (a1 _ hz) (irr _)
          · exact e
        · intro hz
          rcases List.mem_cons.1 ((h z).2 (List.mem_cons_of_mem _ hz)) with e | e
          · subst e; exact absurd (b1 _ hz) (irr _)
          · exact e
      rw [this]
theorem pw_uniq {α : Type} {f : α → α → Int} (anti : ∀ a b, f b a = - f a b) : ∀ {l : List α}, l.Pairwise (fun a b => f a b < 0) → ∀ {x y : α}, x ∈ l → y ∈ l → f x y = 0 → x = y := by
  intro l
  induction l with
  | nil => intro _ x y hx; cases hx
  | cons z l ih =>
    intro h x y hx hy he
    obtain ⟨a1, a2⟩ := List.pairwise_cons.1 h
    have := anti x y
    rcases List.mem_cons.1 hx with e | hx1
    · rcases List.mem_cons.1 hy with e' | hy1
      · rw [e, e']
      · have := a1 y hy1; rw [← e] at this; omega
    · rcases List.mem_cons.1 hy with e' | hy1
      · have := a1 x hx1; rw [← e'] at this; omega
      · exact ih a2 hx1 hy1 he
theorem IsPre.lt_le {α : Type} {f : α → α → Int} (h : IsPre f) {a b c : α} (h1 : f a b < 0) (h2 : f b c ≤ 0) : f a c < 0 := by
  have t1 := h.trans a b c
  have t2 := h.trans b c a
  have a1 := h.anti a b
  have a2 := h.anti a c
  omega
theorem rcmp_eq (a b : R5) : rcmp a b = if kcmp a.k b.k = 0 then cmpB a.d b.d else kcmp a.k b.k := by rw [rcmp, or2]

/-- The sets of records: keys rise, data rise, none is empty; just the records' keys and data; the least TTL of each key. -/
structure Canon (l : List R5) (S : List SetP) : Prop where
  keys : S.Pairwise (fun s t => kcmp s.k t.k < 0)
  rise : ∀ s ∈ S, s.data.Pairwise (fun x y => cmpB x y < 0)
  mem : ∀ k d, (∃ s ∈ S, s.k = k ∧ d ∈ s.data) ↔ ∃ r ∈ l, r.k = k ∧ r.d = d
  non : ∀ s ∈ S, s.data ≠ []
  low : ∀ s ∈ S, (∃ r ∈ l, r.k = s.k ∧ r.ttl = s.ttl) ∧ ∀ r ∈ l, r.k = s.k → s.ttl ≤ r.ttl
theorem Canon.nil : Canon [] [] := ⟨List.Pairwise.nil, (fun _ h => by cases h), (fun _ _ => by simp), (fun _ h => by cases h), (fun _ h => by cases h)⟩
theorem Canon.uniq {l : List R5} {S : List SetP} (h : Canon l S) {s t : SetP} (hs : s ∈ S) (ht : t ∈ S) (hk : s.k = t.k) : s = t :=
  pw_uniq (f := fun s t : SetP => kcmp s.k t.k) (fun _ _ => ord_kcmp.anti _ _) h.keys hs ht ((ord_kcmp.zero _ _).2 hk)
theorem Canon.of_mem {l l' : List R5} {S : List SetP} (h : Canon l S) (hm : ∀ r, r ∈ l ↔ r ∈ l') : Canon l' S where
  keys := h.keys
  rise := h.rise
  mem k d := by
    rw [h.mem]
    exact ⟨fun ⟨r, h1, h2⟩ => ⟨r, (hm r).1 h1, h2⟩, fun ⟨r, h1, h2⟩ => ⟨r, (hm r).2 h1, h2⟩⟩
  non := h.non
  low s hs := by
    obtain ⟨⟨r, h1, h2⟩, h3⟩ := h.low s hs
    exact ⟨⟨r, (hm r).1 h1, h2⟩, fun r hr => h3 r ((hm r).2 hr)⟩
theorem Canon.new {l : List R5} {S : List SetP} {r : R5} (h : Canon l S) (hlt : ∀ s ∈ S, kcmp s.k r.k < 0) : Canon (l ++ [r]) (S ++ [⟨r.k, r.ttl, [r.d]⟩]) where
  keys := List.pairwise_append.2 ⟨h.keys, List.pairwise_singleton _ _, fun s hs t ht => by obtain rfl := List.mem_singleton.1 ht; exact hlt s hs⟩
  rise s hs := by
    rcases List.mem_append.1 hs with hs | hs
    · exact h.rise s hs
    · obtain rfl := List.mem_singleton.1 hs; exact List.pairwise_singleton _ _
  mem k d := by
    constructor
    · rintro ⟨s, hs, hk, hd⟩
      rcases List.mem_append.1 hs with hs | hs
      · obtain ⟨q, hq, h1, h2⟩ := (h.mem k d).1 ⟨s, hs, hk, hd⟩
        exact ⟨q, List.mem_append_left _ hq, h1, h2⟩
      · obtain rfl := List.mem_singleton.1 hs
        exact ⟨r, List.mem_append_right _ (List.mem_singleton_self _), hk, (List.mem_singleton.1 hd).symm⟩
    · rintro ⟨q, hq, h1, h2⟩
      rcases List.mem_append.1 hq with hq | hq
      · obtain ⟨s, hs, hk, hd⟩ := (h.mem k d).2 ⟨q, hq, h1, h2⟩
        exact ⟨s, List.mem_append_left _ hs, hk, hd⟩
      · obtain rfl := List.mem_singleton.1 hq
        exact ⟨_, List.mem_append_right _ (List.mem_singleton_self _), h1, by rw [← h2]; exact List.mem_singleton_self _⟩
  non s hs := by
    rcases List.mem_append.1 hs with hs | hs
    · exact h.non s hs
    · obtain rfl := List.mem_singleton.1 hs; simp
  low s hs := by
    rcases List.mem_append.1 hs with hs | hs
    · obtain ⟨⟨q, hq, h1, h2⟩, h3⟩ := h.low s hs
      refine ⟨⟨q, List.mem_append_left _ hq, h1, h2⟩, fun q hq hk => ?_⟩
      rcases List.mem_append.1 hq with hq | hq
      · exact h3 q hq hk
      · rw [List.mem_singleton.1 hq] at hk
        have h4 := hlt s (by assumption)
        have h5 := (ord_kcmp.zero s.k r.k).2 hk.symm
        omega
    · obtain rfl := List.mem_singleton.1 hs
      refine ⟨⟨r, List.mem_append_right _ (List.mem_singleton_self _), rfl, rfl⟩, fun q hq hk => ?_⟩
      rcases List.mem_append.1 hq with hq | hq
      · obtain ⟨s, hs, h1, _⟩ := (h.mem q.k q.d).2 ⟨q, hq, rfl, rfl⟩
        have h4 := hlt s hs
        have h5 := (ord_kcmp.zero s.k r.k).2 (h1.trans hk)
        omega
      · obtain rfl := List.mem_singleton.1 hq; exact Int.le_refl _
theorem addD_k (s : SetP) (r : R5) : (addD s r).k = s.k := by unfold addD; split <;> rfl
theorem addD_ttl (s : SetP) (r : R5) : (addD s r).ttl = s.ttl := by unfold addD; split <;> rfl
theorem addD_mem (s : SetP) (r : R5) (d : ByteArray) : d ∈ (addD s r).data ↔ d ∈ s.data ∨ d = r.d := by
  unfold addD
  split
  · rename_i h
    constructor
    · exact Or.inl
    · rintro (h1 | rfl)
      · exact h1
      · exact List.mem_of_getLast? h
  · simp
theorem addD_last (s : SetP) (r : R5) : (addD s r).data.getLast? = some r.d := by
  unfold addD
  split
  · assumption
  · simp
theorem addD_rise {s : SetP} {r : R5} {x : ByteArray} (h : s.data.Pairwise (fun x y => cmpB x y < 0)) (hx : s.data.getLast? = some x) (hle : cmpB x r.d ≤ 0) : (addD s r).data.Pairwise (fun x y => cmpB x y < 0) := by
  unfold addD
  split
  · exact h
  · rename_i hne
    have hxd : cmpB x r.d < 0 := by
      have h0 := ord_cmpB.zero x r.d
      have h1 : x ≠ r.d := fun e => hne (by rw [hx, e])
      have h2 : cmpB x r.d ≠ 0 := fun e => h1 (h0.1 e)
      omega
    refine List.pairwise_append.2 ⟨h, List.pairwise_singleton _ _, fun y hy z hz => ?_⟩
    obtain rfl := List.mem_singleton.1 hz
    rcases List.eq_nil_or_concat s.data with h0 | ⟨ini, x', hix⟩
    · rw [h0] at hx; cases hx
    · rw [List.concat_eq_append] at hix
      have hxx : x' = x := by rw [hix] at hx; simpa using hx
      subst hxx
      rw [hix] at h hy
      rcases List.mem_append.1 hy with hy | hy
      · exact ord_cmpB.pre.lt_le ((List.pairwise_append.1 h).2.2 y hy x' (List.mem_singleton_self _)) (by omega)
      · obtain rfl := List.mem_singleton.1 hy; exact hxd
theorem Canon.same {l : List R5} {S : List SetP} {s : SetP} {r : R5} {x : ByteArray} (h : Canon l (S ++ [s])) (hk : s.k = r.k) (hx : s.data.getLast? = some x) (hle : cmpB x r.d ≤ 0) : Canon (l ++ [r]) (S ++ [addD { s with ttl := min s.ttl r.ttl } r]) := by
  obtain ⟨s', hs'⟩ : ∃ y, addD { s with ttl := min s.ttl r.ttl } r = y := ⟨_, rfl⟩
  have e1 : s'.k = s.k := by rw [← hs', addD_k]
  have e2 : s'.ttl = min s.ttl r.ttl := by rw [← hs', addD_ttl]
  have e3 : ∀ d, d ∈ s'.data ↔ d ∈ s.data ∨ d = r.d := fun d => by rw [← hs', addD_mem]
  have e4 : s'.data.Pairwise (fun x y => cmpB x y < 0) := by
    rw [← hs']
    exact addD_rise (x := x) (h.rise s (by simp)) hx hle
  have e5 : s'.data ≠ [] := fun e => by
    have := (e3 r.d).2 (Or.inr rfl)
    rw [e] at this; cases this
  rw [hs']
  clear hs'
  have hin : s ∈ S ++ [s] := by simp
  refine ⟨?_, ?_, ?_, ?_, ?_⟩
  · obtain ⟨a1, _, a3⟩ := List.pairwise_append.1 h.keys
    refine List.pairwise_append.2 ⟨a1, List.pairwise_singleton _ _, fun t ht u hu => ?_⟩
    obtain rfl := List.mem_singleton.1 hu
    rw [e1]
    exact a3 t ht s (List.mem_singleton_self _)
  · intro t ht
    rcases List.mem_append.1 ht with ht | ht
    · exact h.rise t (List.mem_append_left _ ht)
    · obtain rfl := List.mem_singleton.1 ht; exact e4
  · intro k d
    constructor
    · rintro ⟨t, ht, hkt, hd⟩
      rcases List.mem_append.1 ht with ht | ht
      · obtain ⟨q, hq, h1, h2⟩ := (h.mem k d).1 ⟨t, List.mem_append_left _ ht, hkt, hd⟩
        exact ⟨q, List.mem_append_left _ hq, h1, h2⟩
      · obtain rfl := List.mem_singleton.1 ht
        rcases (e3 d).1 hd with hd | rfl
        · obtain ⟨q, hq, h1, h2⟩ := (h.mem k d).1 ⟨s, hin, by rw [← e1]; exact hkt, hd⟩
          exact ⟨q, List.mem_append_left _ hq, h1, h2⟩
        · exact ⟨r, List.mem_append_right _ (List.mem_singleton_self _), by rw [← hk, ← e1]; exact hkt, rfl⟩
    · rintro ⟨q, hq, h1, h2⟩
      rcases List.mem_append.1 hq with hq | hq
      · obtain ⟨t, ht, hkt, hd⟩ := (h.mem k d).2 ⟨q, hq, h1, h2⟩
        rcases List.mem_append.1 ht with ht | ht
        · exact ⟨t, List.mem_append_left _ ht, hkt, hd⟩
        · obtain rfl := List.mem_singleton.1 ht
          exact ⟨s', List.mem_append_right _ (List.mem_singleton_self _), by rw [e1]; exact hkt, (e3 d).2 (Or.inl hd)⟩
      · obtain rfl := List.mem_singleton.1 hq
        exact ⟨s', List.mem_append_right _ (List.mem_singleton_self _), by rw [e1, hk]; exact h1, (e3 d).2 (Or.inr h2.symm)⟩
  · intro t ht
    rcases List.mem_append.1 ht with ht | ht
    · exact h.non t (List.mem_append_left _ ht)
    · obtain rfl := List.mem_singleton.1 ht; exact e5
  · intro t ht
    rcases List.mem_append.1 ht with ht | ht
    · obtain ⟨⟨q, hq, h1, h2⟩, h3⟩ := h.low t (List.mem_append_left _ ht)
      refine ⟨⟨q, List.mem_append_left _ hq, h1, h2⟩, fun q hq hkq => ?_⟩
      rcases List.mem_append.1 hq with hq | hq
      · exact h3 q hq hkq
      · obtain rfl := List.mem_singleton.1 hq
        have h4 := (List.pairwise_append.1 h.keys).2.2 t ht s (List.mem_singleton_self _)
        have h5 := (ord_kcmp.zero t.k s.k).2 (by rw [hk]; exact hkq.symm)
        omega
    · obtain rfl := List.mem_singleton.1 ht
      obtain ⟨⟨q, hq, h1, h2⟩, h3⟩ := h.low s hin
      rw [e1, e2]
      constructor
      · by_cases hm : s.ttl ≤ r.ttl
        · exact ⟨q, List.mem_append_left _ hq, h1, by omega⟩
        · exact ⟨r, List.mem_append_right _ (List.mem_singleton_self _), hk.symm, by omega⟩
      · intro q hq hkq
        rcases List.mem_append.1 hq with hq | hq
        · have := h3 q hq hkq; omega
        · obtain rfl := List.mem_singleton.1 hq; omega
theorem addD_nil (k : Ky) (t : Int) (r : R5) : addD ⟨k, t, []⟩ r = ⟨k, t, [r.d]⟩ := by
  unfold addD
  rw [if_neg (by simp)]; rfl
/-- What Group makes of records that are in order. -/
theorem canon_grp (l : List R5) (hs : SortedR l) : ∀ k, k ≤ l.length → Canon (l.take k) (grpK l k) ∧ (0 < k → ∃ S s p, grpK l k = S ++ [s] ∧ l[k - 1]? = some p ∧ s.k = p.k ∧ s.data.getLast? = some p.d) := by
  intro k
  induction k with
  | zero => intro _; exact ⟨by simpa [grpK] using Canon.nil, fun h => absurd h (by omega)⟩
  | succ k ih =>
    intro hk
    obtain ⟨hc, hl⟩ := ih (by omega)
    obtain ⟨r, hr⟩ : ∃ r, l[k]? = some r := ⟨_, List.getElem?_eq_getElem (by omega)⟩
    have hrk : l[k] = r := by rw [List.getElem?_eq_getElem (by omega)] at hr; exact Option.some.inj hr
    have ht : l.take (k + 1) = l.take k ++ [r] := by rw [List.take_succ_eq_append_getElem (by omega), hrk]
    rw [ht]
    have hord : ∀ p, l[k - 1]? = some p → 0 < k → rcmp p r ≤ 0 := fun p hp h0 => by
      have h1 := (List.pairwise_iff_getElem.1 hs) (k - 1) k (by omega) (by omega) (by omega)
      rw [List.getElem?_eq_getElem (by omega)] at hp
      rw [Option.some.inj hp, hrk] at h1
      exact h1
    rw [grpK, hr]
    dsimp only
    by_cases hcond : 0 < k ∧ (l[k - 1]?.map R5.k) = some r.k
    · rw [if_pos hcond]
      obtain ⟨S, s, p, hg, hp, hsk, hd⟩ := hl hcond.1
      have hpk : p.k = r.k := by
        have := hcond.2
        rw [hp] at this
        simpa using this
      have hlast : lastOr (grpK l k) r = s := by rw [lastOr, hg]; simp
      rw [hlast, hg, List.dropLast_concat]
      rw [hg] at hc
      have hle : cmpB p.d r.d ≤ 0 := by
        have h1 := hord p hp hcond.1
        rw [rcmp_eq, if_pos ((ord_kcmp.zero _ _).2 hpk)] at h1
        exact h1
      refine ⟨hc.same (hsk.trans hpk) hd hle, fun _ => ⟨S, _, r, rfl, by simpa using hr, ?_, addD_last _ _⟩⟩
      rw [addD_k]
      exact hsk.trans hpk
    · rw [if_neg hcond, addD_nil]
      refine ⟨hc.new fun s hsin => ?_, fun _ => ⟨_, _, r, rfl, by simpa using hr, rfl, rfl⟩⟩
      by_cases h0 : 0 < k
      · obtain ⟨S, s1, p, hg, hp, hsk, hd⟩ := hl h0
        have hpk : ¬ p.k = r.k := fun e => hcond ⟨h0, by rw [hp]; simp [e]⟩
        have h1 := hord p hp h0
        have h2 : ¬ kcmp p.k r.k = 0 := fun e => hpk ((ord_kcmp.zero _ _).1 e)
        rw [rcmp_eq, if_neg h2] at h1
        have h3 : kcmp s1.k r.k < 0 := by rw [hsk]; omega
        rw [hg] at hsin hc
        rcases List.mem_append.1 hsin with h | h
        · exact ord_kcmp.pre.lt_le ((List.pairwise_append.1 hc.keys).2.2 s h s1 (List.mem_singleton_self _)) (by omega)
        · obtain rfl := List.mem_singleton.1 h; exact h3
      · have h00 : k = 0 := by omega
        subst h00
        rw [grpK] at hsin; cases hsin
/-- The sets of records that came in whatever order. -/
theorem canon_group {l l' : List R5} {n : Nat} (hp : l'.Perm l) (hs : SortedR l') (hn : l.length = n) : Canon l (grpK l' n) := by
  have h := (canon_grp l' hs n (by rw [hp.length_eq]; omega)).1
  rw [List.take_of_length_le (by rw [hp.length_eq]; omega)] at h
  exact h.of_mem fun r => hp.mem_iff
/-- Records with the same keys, data and least TTLs have the same sets. -/
theorem canon_eq {l l' : List R5} {S S' : List SetP} (h : Canon l S) (h' : Canon l' S') (hm : ∀ k d, (∃ r ∈ l, r.k = k ∧ r.d = d) ↔ ∃ r ∈ l', r.k = k ∧ r.d = d) (hlo : ∀ k t, (∃ r ∈ l, r.k = k ∧ r.ttl ≤ t) ↔ ∃ r ∈ l', r.k = k ∧ r.ttl ≤ t) : S = S' := by
  have one : ∀ {l l' : List R5} {S S' : List SetP}, Canon l S → Canon l' S' → (∀ k d, (∃ r ∈ l, r.k = k ∧ r.d = d) ↔ ∃ r ∈ l', r.k = k ∧ r.d = d) → (∀ k t, (∃ r ∈ l, r.k = k ∧ r.ttl ≤ t) ↔ ∃ r ∈ l', r.k = k ∧ r.ttl ≤ t) → ∀ s ∈ S, s ∈ S' := by
    intro l l' S S' h h' hm hlo s hs
    obtain ⟨d, hd⟩ : ∃ d, d ∈ s.data := List.exists_mem_of_ne_nil _ (h.non s hs)
    obtain ⟨s', hs', hk, _⟩ := (h'.mem s.k d).2 ((hm s.k d).1 ((h.mem s.k d).1 ⟨s, hs, rfl, hd⟩))
    have hdat : s.data = s'.data := by
      refine pw_ext ord_cmpB.anti (h.rise s hs) (h'.rise s' hs') fun x => ?_
      constructor
      · intro hx
        obtain ⟨t, ht, hkt, hxt⟩ := (h'.mem s.k x).2 ((hm s.k x).1 ((h.mem s.k x).1 ⟨s, hs, rfl, hx⟩))
        rw [h'.uniq hs' ht (hk.trans hkt.symm)]; exact hxt
      · intro hx
        obtain ⟨t, ht, hkt, hxt⟩ := (h.mem s.k x).2 ((hm s.k x).2 ((h'.mem s.k x).1 ⟨s', hs', hk, hx⟩))
        rw [h.uniq hs ht hkt.symm]; exact hxt
    have httl : s.ttl = s'.ttl := by
      obtain ⟨⟨r, hr, h1, h2⟩, h3⟩ := h.low s hs
      obtain ⟨⟨r', hr', h1', h2'⟩, h3'⟩ := h'.low s' hs'
      obtain ⟨q, hq, hq1, hq2⟩ := (hlo s.k s.ttl).1 ⟨r, hr, h1, by omega⟩
      obtain ⟨p, hp, hp1, hp2⟩ := (hlo s.k s'.ttl).2 ⟨r', hr', by rw [h1', hk], by omega⟩
      have := h3' q hq (by rw [hq1, hk])
      have := h3 p hp hp1
      omega
    have : s = s' := by
      obtain ⟨a, b, c⟩ := s
      obtain ⟨a', b', c'⟩ := s'
      simp only at hk hdat httl
      rw [hk, hdat, httl]
    rw [this]; exact hs'
  exact pw_ext (f := fun s t : SetP => kcmp s.k t.k) (fun _ _ => ord_kcmp.anti _ _) h.keys h'.keys fun s => ⟨one h h' hm hlo s, one h' h (fun k d => (hm k d).symm) (fun k t => (hlo k t).symm) s⟩
theorem mem_flatP {S : List SetP} {r : R5} : r ∈ flatP S ↔ ∃ s ∈ S, r.k = s.k ∧ r.ttl = s.ttl ∧ r.d ∈ s.data := by
  rw [flatP, List.mem_flatMap]
  constructor
  · rintro ⟨s, hs, hr⟩
    obtain ⟨d, hd, rfl⟩ := List.mem_map.1 hr
    exact ⟨s, hs, rfl, rfl, hd⟩
  · rintro ⟨s, hs, h1, h2, h3⟩
    exact ⟨s, hs, List.mem_map.2 ⟨r.d, h3, by rw [← h1, ← h2]⟩⟩
theorem Canon.flat {l : List R5} {S : List SetP} (h : Canon l S) : Canon (flatP S) S where
  keys := h.keys
  rise := h.rise
  mem k d := by
    constructor
    · rintro ⟨s, hs, hk, hd⟩
      exact ⟨⟨s.k, s.ttl, d⟩, mem_flatP.2 ⟨s, hs, rfl, rfl, hd⟩, hk, rfl⟩
    · rintro ⟨r, hr, hk, hd⟩
      obtain ⟨s, hs, h1, h2, h3⟩ := mem_flatP.1 hr
      exact ⟨s, hs, by rw [← h1]; exact hk, by rw [← hd]; exact h3⟩
  non := h.non
  low s hs := by
    obtain ⟨d, hd⟩ : ∃ d, d ∈ s.data := List.exists_mem_of_ne_nil _ (h.non s hs)
    refine ⟨⟨⟨s.k, s.ttl, d⟩, mem_flatP.2 ⟨s, hs, rfl, rfl, hd⟩, rfl, rfl⟩, fun r hr hk => ?_⟩
    obtain ⟨t, ht, h1, h2, h3⟩ := mem_flatP.1 hr
    rw [h.uniq hs ht (by rw [← hk, h1]), h2]
    exact Int.le_refl _
def sumD : List SetP → Nat
  | [] => 0
  | s :: S => s.data.length + sumD S
theorem sumD_append (A B : List SetP) : sumD (A ++ B) = sumD A + sumD B := by
  induction A with
  | nil => simp [sumD]
  | cons x A ih => rw [List.cons_append, sumD, sumD, ih]; omega
theorem flatP_length (S : List SetP) : (flatP S).length = sumD S := by
  induction S with
  | nil => rfl
  | cons s S ih => rw [flatP, List.flatMap_cons, List.length_append, sumD, ← ih]; simp [recs, flatP]
theorem grpK_sum (l : List R5) : ∀ k, sumD (grpK l k) ≤ k := by
  intro k
  induction k with
  | zero => exact Nat.le_refl _
  | succ k ih =>
    have had : ∀ (s : SetP) (r : R5), (addD s r).data.length ≤ s.data.length + 1 := fun s r => by
      unfold addD
      split
      · omega
      · simp only [List.length_append, List.length_singleton]; omega
    rw [grpK]
    split
    · omega
    · rename_i r hr
      split
      · rw [sumD_append]
        have h1 := had { (lastOr (grpK l k) r) with ttl := min (lastOr (grpK l k) r).ttl r.ttl } r
        have h2 : sumD (grpK l k).dropLast + (lastOr (grpK l k) r).data.length ≤ sumD (grpK l k) := by
          rcases List.eq_nil_or_concat (grpK l k) with h0 | ⟨S, s, h0⟩
          · rw [h0]; simp [lastOr, sumD]
          · rw [List.concat_eq_append] at h0
            rw [h0, List.dropLast_concat, sumD_append, lastOr]
            simp [sumD]
        simp only [sumD] at h1 ⊢
        omega
      · rw [sumD_append]
        have h1 := had ⟨r.k, r.ttl, []⟩ r
        simp only [sumD] at h1 ⊢
        simp only [List.length_nil] at h1
        omega
end Go.Proofs.Ythfnphcefkdgbaa
