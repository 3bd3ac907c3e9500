/- Texts that others rest on, one behind the other: Can, Fla, Few4, Fs4, SBa, Cmo, RGp, FrG. -/
import Derived.Test.YthfnphcefkdgbaaGreatMgE
import Derived.Test.YthfnphcefkdgbaaGreatMgL
import Derived.Test.YthfnphcefkdgbaaGreatMgK
section
namespace Go.Proofs.YthfnphcefkdgbaaGreat
open Go.RowKit
theorem pw_ext {α : Type} {f : α → α → Int} (anti : ∀ a b, f b a = - f a b) : ∀ {l l' : List α}, l.Pairwise (fun a b => f a b < 0) → l'.Pairwise (fun a b => f a b < 0) → (∀ x, x ∈ l ↔ x ∈ l') → l = l' := by
 intro l
 induction l with
 | nil =>
  intro l' _ _ h
  cases l' with
  | nil => rfl
  | cons y l' => exact absurd ((h y).2 List.mem_cons_self) (by simp)
 | cons x l ih =>
  intro l' h1 h2 h
  cases l' with
  | nil => exact absurd ((h x).1 List.mem_cons_self) (by simp)
  | cons y l' =>
   obtain ⟨a1, a2⟩ := List.pairwise_cons.1 h1
   obtain ⟨b1, b2⟩ := List.pairwise_cons.1 h2
   have irr : ∀ z, ¬ f z z < 0 := fun z hz => by have := anti z z; omega
   have hxy : x = y := by
    rcases List.mem_cons.1 ((h x).1 List.mem_cons_self) with e | e
    · exact e
    · rcases List.mem_cons.1 ((h y).2 List.mem_cons_self) with e' | e'
      · exact e'.symm
      · have h3 := b1 x e
        have h4 := a1 y e'
        have := anti x y
        omega
   subst hxy
   have : l = l' := ih a2 b2 fun z => by
    constructor
    · intro hz
      rcases List.mem_cons.1 ((h z).1 (List.mem_cons_of_mem _ hz)) with e | e
      · subst e; exact absurd (a1 _ hz) (irr _)
      · exact e
    · intro hz
      rcases List.mem_cons.1 ((h z).2 (List.mem_cons_of_mem _ hz)) with e | e
      · subst e; exact absurd (b1 _ hz) (irr _)
      · exact e
   rw [this]
theorem pw_uniq {α : Type} {f : α → α → Int} (anti : ∀ a b, f b a = - f a b) : ∀ {l : List α}, l.Pairwise (fun a b => f a b < 0) → ∀ {x y : α}, x ∈ l → y ∈ l → f x y = 0 → x = y := by
 intro l
 induction l with
 | nil => intro _ x y hx; cases hx
 | cons z l ih =>
  intro h x y hx hy he
  obtain ⟨a1, a2⟩ := List.pairwise_cons.1 h
  have := anti x y
  rcases List.mem_cons.1 hx with e | hx1
  · rcases List.mem_cons.1 hy with e' | hy1
    · rw [e, e']
    · have := a1 y hy1; rw [← e] at this; omega
  · rcases List.mem_cons.1 hy with e' | hy1
    · have := a1 x hx1; rw [← e'] at this; omega
    · exact ih a2 hx1 hy1 he
theorem IsPre.lt_le {α : Type} {f : α → α → Int} (h : IsPre f) {a b c : α} (h1 : f a b < 0) (h2 : f b c ≤ 0) : f a c < 0 := by
 have t1 := h.trans a b c
 have t2 := h.trans b c a
 have a1 := h.anti a b
 have a2 := h.anti a c
 omega
theorem rcmp_eq (a b : R5) : rcmp a b = if kcmp a.k b.k = 0 then cmpB a.d b.d else kcmp a.k b.k := by rw [rcmp, or2]
structure Canon (l : List R5) (S : List SetP) : Prop where
 keys : S.Pairwise (fun s t => kcmp s.k t.k < 0)
 rise : ∀ s ∈ S, s.data.Pairwise (fun x y => cmpB x y < 0)
 mem : ∀ k d, (∃ s ∈ S, s.k = k ∧ d ∈ s.data) ↔ ∃ r ∈ l, r.k = k ∧ r.d = d
 non : ∀ s ∈ S, s.data ≠ []
 low : ∀ s ∈ S, (∃ r ∈ l, r.k = s.k ∧ r.ttl = s.ttl) ∧ ∀ r ∈ l, r.k = s.k → s.ttl ≤ r.ttl
theorem Canon.nil : Canon [] [] := ⟨List.Pairwise.nil, (fun _ h => by cases h), (fun _ _ => by simp), (fun _ h => by cases h), (fun _ h => by cases h)⟩
theorem Canon.uniq {l : List R5} {S : List SetP} (h : Canon l S) {s t : SetP} (hs : s ∈ S) (ht : t ∈ S) (hk : s.k = t.k) : s = t :=
 pw_uniq (f := fun s t : SetP => kcmp s.k t.k) (fun _ _ => ord_kcmp.anti _ _) h.keys hs ht ((ord_kcmp.zero _ _).2 hk)
theorem Canon.of_mem {l l' : List R5} {S : List SetP} (h : Canon l S) (hm : ∀ r, r ∈ l ↔ r ∈ l') : Canon l' S where
 keys := h.keys
 rise := h.rise
 mem k d := by
  rw [h.mem]
  exact ⟨fun ⟨r, h1, h2⟩ => ⟨r, (hm r).1 h1, h2⟩, fun ⟨r, h1, h2⟩ => ⟨r, (hm r).2 h1, h2⟩⟩
 non := h.non
 low s hs := by
  obtain ⟨⟨r, h1, h2⟩, h3⟩ := h.low s hs
  exact ⟨⟨r, (hm r).1 h1, h2⟩, fun r hr => h3 r ((hm r).2 hr)⟩
theorem Canon.new {l : List R5} {S : List SetP} {r : R5} (h : Canon l S) (hlt : ∀ s ∈ S, kcmp s.k r.k < 0) : Canon (l ++ [r]) (S ++ [⟨r.k, r.ttl, [r.d]⟩]) where
 keys := List.pairwise_append.2 ⟨h.keys, List.pairwise_singleton _ _, fun s hs t ht => by obtain rfl := List.mem_singleton.1 ht; exact hlt s hs⟩
 rise s hs := by
  rcases List.mem_append.1 hs with hs | hs
  · exact h.rise s hs
  · obtain rfl := List.mem_singleton.1 hs; exact List.pairwise_singleton _ _
 mem k d := by
  constructor
  · rintro ⟨s, hs, hk, hd⟩
    rcases List.mem_append.1 hs with hs | hs
    · obtain ⟨q, hq, h1, h2⟩ := (h.mem k d).1 ⟨s, hs, hk, hd⟩
      exact ⟨q, List.mem_append_left _ hq, h1, h2⟩
    · obtain rfl := List.mem_singleton.1 hs
      exact ⟨r, List.mem_append_right _ (List.mem_singleton_self _), hk, (List.mem_singleton.1 hd).symm⟩
  · rintro ⟨q, hq, h1, h2⟩
    rcases List.mem_append.1 hq with hq | hq
    · obtain ⟨s, hs, hk, hd⟩ := (h.mem k d).2 ⟨q, hq, h1, h2⟩
      exact ⟨s, List.mem_append_left _ hs, hk, hd⟩
    · obtain rfl := List.mem_singleton.1 hq
      exact ⟨_, List.mem_append_right _ (List.mem_singleton_self _), h1, by rw [← h2]; exact List.mem_singleton_self _⟩
 non s hs := by
  rcases List.mem_append.1 hs with hs | hs
  · exact h.non s hs
  · obtain rfl := List.mem_singleton.1 hs; simp
 low s hs := by
  rcases List.mem_append.1 hs with hs | hs
  · obtain ⟨⟨q, hq, h1, h2⟩, h3⟩ := h.low s hs
    refine ⟨⟨q, List.mem_append_left _ hq, h1, h2⟩, fun q hq hk => ?_⟩
    rcases List.mem_append.1 hq with hq | hq
    · exact h3 q hq hk
    · rw [List.mem_singleton.1 hq] at hk
      have h4 := hlt s (by assumption)
      have h5 := (ord_kcmp.zero s.k r.k).2 hk.symm
      omega
  · obtain rfl := List.mem_singleton.1 hs
    refine ⟨⟨r, List.mem_append_right _ (List.mem_singleton_self _), rfl, rfl⟩, fun q hq hk => ?_⟩
    rcases List.mem_append.1 hq with hq | hq
    · obtain ⟨s, hs, h1, _⟩ := (h.mem q.k q.d).2 ⟨q, hq, rfl, rfl⟩
      have h4 := hlt s hs
      have h5 := (ord_kcmp.zero s.k r.k).2 (h1.trans hk)
      omega
    · obtain rfl := List.mem_singleton.1 hq; exact Int.le_refl _
theorem addD_k (s : SetP) (r : R5) : (addD s r).k = s.k := by unfold addD; split <;> rfl
theorem addD_ttl (s : SetP) (r : R5) : (addD s r).ttl = s.ttl := by unfold addD; split <;> rfl
theorem addD_mem (s : SetP) (r : R5) (d : ByteArray) : d ∈ (addD s r).data ↔ d ∈ s.data ∨ d = r.d := by
 unfold addD
 split
 · rename_i h
   constructor
   · exact Or.inl
   · rintro (h1 | rfl)
     · exact h1
     · exact List.mem_of_getLast? h
 · simp
theorem addD_last (s : SetP) (r : R5) : (addD s r).data.getLast? = some r.d := by
 unfold addD
 split
 · assumption
 · simp
theorem addD_rise {s : SetP} {r : R5} {x : ByteArray} (h : s.data.Pairwise (fun x y => cmpB x y < 0)) (hx : s.data.getLast? = some x) (hle : cmpB x r.d ≤ 0) : (addD s r).data.Pairwise (fun x y => cmpB x y < 0) := by
 unfold addD
 split
 · exact h
 · rename_i hne
   have hxd : cmpB x r.d < 0 := by
     have h0 := ord_cmpB.zero x r.d
     have h1 : x ≠ r.d := fun e => hne (by rw [hx, e])
     have h2 : cmpB x r.d ≠ 0 := fun e => h1 (h0.1 e)
     omega
   refine List.pairwise_append.2 ⟨h, List.pairwise_singleton _ _, fun y hy z hz => ?_⟩
   obtain rfl := List.mem_singleton.1 hz
   rcases List.eq_nil_or_concat s.data with h0 | ⟨ini, x', hix⟩
   · rw [h0] at hx; cases hx
   · rw [List.concat_eq_append] at hix
     have hxx : x' = x := by rw [hix] at hx; simpa using hx
     subst hxx
     rw [hix] at h hy
     rcases List.mem_append.1 hy with hy | hy
     · exact ord_cmpB.pre.lt_le ((List.pairwise_append.1 h).2.2 y hy x' (List.mem_singleton_self _)) (by omega)
     · obtain rfl := List.mem_singleton.1 hy; exact hxd
theorem Canon.same {l : List R5} {S : List SetP} {s : SetP} {r : R5} {x : ByteArray} (h : Canon l (S ++ [s])) (hk : s.k = r.k) (hx : s.data.getLast? = some x) (hle : cmpB x r.d ≤ 0) : Canon (l ++ [r]) (S ++ [addD { s with ttl := min s.ttl r.ttl } r]) := by
 obtain ⟨s', hs'⟩ : ∃ y, addD { s with ttl := min s.ttl r.ttl } r = y := ⟨_, rfl⟩
 have e1 : s'.k = s.k := by rw [← hs', addD_k]
 have e2 : s'.ttl = min s.ttl r.ttl := by rw [← hs', addD_ttl]
 have e3 : ∀ d, d ∈ s'.data ↔ d ∈ s.data ∨ d = r.d := fun d => by rw [← hs', addD_mem]
 have e4 : s'.data.Pairwise (fun x y => cmpB x y < 0) := by
   rw [← hs']
   exact addD_rise (x := x) (h.rise s (by simp)) hx hle
 have e5 : s'.data ≠ [] := fun e => by
   have := (e3 r.d).2 (Or.inr rfl)
   rw [e] at this; cases this
 rw [hs']
 clear hs'
 have hin : s ∈ S ++ [s] := by simp
 refine ⟨?_, ?_, ?_, ?_, ?_⟩
 · obtain ⟨a1, _, a3⟩ := List.pairwise_append.1 h.keys
   refine List.pairwise_append.2 ⟨a1, List.pairwise_singleton _ _, fun t ht u hu => ?_⟩
   obtain rfl := List.mem_singleton.1 hu
   rw [e1]
   exact a3 t ht s (List.mem_singleton_self _)
 · intro t ht
   rcases List.mem_append.1 ht with ht | ht
   · exact h.rise t (List.mem_append_left _ ht)
   · obtain rfl := List.mem_singleton.1 ht; exact e4
 · intro k d
   constructor
   · rintro ⟨t, ht, hkt, hd⟩
     rcases List.mem_append.1 ht with ht | ht
     · obtain ⟨q, hq, h1, h2⟩ := (h.mem k d).1 ⟨t, List.mem_append_left _ ht, hkt, hd⟩
       exact ⟨q, List.mem_append_left _ hq, h1, h2⟩
     · obtain rfl := List.mem_singleton.1 ht
       rcases (e3 d).1 hd with hd | rfl
       · obtain ⟨q, hq, h1, h2⟩ := (h.mem k d).1 ⟨s, hin, by rw [← e1]; exact hkt, hd⟩
         exact ⟨q, List.mem_append_left _ hq, h1, h2⟩
       · exact ⟨r, List.mem_append_right _ (List.mem_singleton_self _), by rw [← hk, ← e1]; exact hkt, rfl⟩
   · rintro ⟨q, hq, h1, h2⟩
     rcases List.mem_append.1 hq with hq | hq
     · obtain ⟨t, ht, hkt, hd⟩ := (h.mem k d).2 ⟨q, hq, h1, h2⟩
       rcases List.mem_append.1 ht with ht | ht
       · exact ⟨t, List.mem_append_left _ ht, hkt, hd⟩
       · obtain rfl := List.mem_singleton.1 ht
         exact ⟨s', List.mem_append_right _ (List.mem_singleton_self _), by rw [e1]; exact hkt, (e3 d).2 (Or.inl hd)⟩
     · obtain rfl := List.mem_singleton.1 hq
       exact ⟨s', List.mem_append_right _ (List.mem_singleton_self _), by rw [e1, hk]; exact h1, (e3 d).2 (Or.inr h2.symm)⟩
 · intro t ht
   rcases List.mem_append.1 ht with ht | ht
   · exact h.non t (List.mem_append_left _ ht)
   · obtain rfl := List.mem_singleton.1 ht; exact e5
 · intro t ht
   rcases List.mem_append.1 ht with ht | ht
   · obtain ⟨⟨q, hq, h1, h2⟩, h3⟩ := h.low t (List.mem_append_left _ ht)
     refine ⟨⟨q, List.mem_append_left _ hq, h1, h2⟩, fun q hq hkq => ?_⟩
     rcases List.mem_append.1 hq with hq | hq
     · exact h3 q hq hkq
     · obtain rfl := List.mem_singleton.1 hq
       have h4 := (List.pairwise_append.1 h.keys).2.2 t ht s (List.mem_singleton_self _)
       have h5 := (ord_kcmp.zero t.k s.k).2 (by rw [hk]; exact hkq.symm)
       omega
   · obtain rfl := List.mem_singleton.1 ht
     obtain ⟨⟨q, hq, h1, h2⟩, h3⟩ := h.low s hin
     rw [e1, e2]
     constructor
     · by_cases hm : s.ttl ≤ r.ttl
       · exact ⟨q, List.mem_append_left _ hq, h1, by omega⟩
       · exact ⟨r, List.mem_append_right _ (List.mem_singleton_self _), hk.symm, by omega⟩
     · intro q hq hkq
       rcases List.mem_append.1 hq with hq | hq
       · have := h3 q hq hkq; omega
       · obtain rfl := List.mem_singleton.1 hq; omega
theorem addD_nil (k : Ky) (t : Int) (r : R5) : addD ⟨k, t, []⟩ r = ⟨k, t, [r.d]⟩ := by
 unfold addD
 rw [if_neg (by simp)]; rfl
theorem canon_grp (l : List R5) (hs : SortedR l) : ∀ k, k ≤ l.length → Canon (l.take k) (grpK l k) ∧ (0 < k → ∃ S s p, grpK l k = S ++ [s] ∧ l[k - 1]? = some p ∧ s.k = p.k ∧ s.data.getLast? = some p.d) := by
 intro k
 induction k with
 | zero => intro _; exact ⟨by simpa [grpK] using Canon.nil, fun h => absurd h (by omega)⟩
 | succ k ih =>
  intro hk
  obtain ⟨hc, hl⟩ := ih (by omega)
  obtain ⟨r, hr⟩ : ∃ r, l[k]? = some r := ⟨_, List.getElem?_eq_getElem (by omega)⟩
  have hrk : l[k] = r := by rw [List.getElem?_eq_getElem (by omega)] at hr; exact Option.some.inj hr
  have ht : l.take (k + 1) = l.take k ++ [r] := by rw [List.take_succ_eq_append_getElem (by omega), hrk]
  rw [ht]
  have hord : ∀ p, l[k - 1]? = some p → 0 < k → rcmp p r ≤ 0 := fun p hp h0 => by
    have h1 := (List.pairwise_iff_getElem.1 hs) (k - 1) k (by omega) (by omega) (by omega)
    rw [List.getElem?_eq_getElem (by omega)] at hp
    rw [Option.some.inj hp, hrk] at h1
    exact h1
  rw [grpK, hr]
  dsimp only
  by_cases hcond : 0 < k ∧ (l[k - 1]?.map R5.k) = some r.k
  · rw [if_pos hcond]
    obtain ⟨S, s, p, hg, hp, hsk, hd⟩ := hl hcond.1
    have hpk : p.k = r.k := by
      have := hcond.2
      rw [hp] at this
      simpa using this
    have hlast : lastOr (grpK l k) r = s := by rw [lastOr, hg]; simp
    rw [hlast, hg, List.dropLast_concat]
    rw [hg] at hc
    have hle : cmpB p.d r.d ≤ 0 := by
      have h1 := hord p hp hcond.1
      rw [rcmp_eq, if_pos ((ord_kcmp.zero _ _).2 hpk)] at h1
      exact h1
    refine ⟨hc.same (hsk.trans hpk) hd hle, fun _ => ⟨S, _, r, rfl, by simpa using hr, ?_, addD_last _ _⟩⟩
    rw [addD_k]
    exact hsk.trans hpk
  · rw [if_neg hcond, addD_nil]
    refine ⟨hc.new fun s hsin => ?_, fun _ => ⟨_, _, r, rfl, by simpa using hr, rfl, rfl⟩⟩
    by_cases h0 : 0 < k
    · obtain ⟨S, s1, p, hg, hp, hsk, hd⟩ := hl h0
      have hpk : ¬ p.k = r.k := fun e => hcond ⟨h0, by rw [hp]; simp [e]⟩
      have h1 := hord p hp h0
      have h2 : ¬ kcmp p.k r.k = 0 := fun e => hpk ((ord_kcmp.zero _ _).1 e)
      rw [rcmp_eq, if_neg h2] at h1
      have h3 : kcmp s1.k r.k < 0 := by rw [hsk]; omega
      rw [hg] at hsin hc
      rcases List.mem_append.1 hsin with h | h
      · exact ord_kcmp.pre.lt_le ((List.pairwise_append.1 hc.keys).2.2 s h s1 (List.mem_singleton_self _)) (by omega)
      · obtain rfl := List.mem_singleton.1 h; exact h3
    · have h00 : k = 0 := by omega
      subst h00
      rw [grpK] at hsin; cases hsin
theorem canon_group {l l' : List R5} {n : Nat} (hp : l'.Perm l) (hs : SortedR l') (hn : l.length = n) : Canon l (grpK l' n) := by
 have h := (canon_grp l' hs n (by rw [hp.length_eq]; omega)).1
 rw [List.take_of_length_le (by rw [hp.length_eq]; omega)] at h
 exact h.of_mem fun r => hp.mem_iff
theorem canon_eq {l l' : List R5} {S S' : List SetP} (h : Canon l S) (h' : Canon l' S') (hm : ∀ k d, (∃ r ∈ l, r.k = k ∧ r.d = d) ↔ ∃ r ∈ l', r.k = k ∧ r.d = d) (hlo : ∀ k t, (∃ r ∈ l, r.k = k ∧ r.ttl ≤ t) ↔ ∃ r ∈ l', r.k = k ∧ r.ttl ≤ t) : S = S' := by
 have one : ∀ {l l' : List R5} {S S' : List SetP}, Canon l S → Canon l' S' → (∀ k d, (∃ r ∈ l, r.k = k ∧ r.d = d) ↔ ∃ r ∈ l', r.k = k ∧ r.d = d) → (∀ k t, (∃ r ∈ l, r.k = k ∧ r.ttl ≤ t) ↔ ∃ r ∈ l', r.k = k ∧ r.ttl ≤ t) → ∀ s ∈ S, s ∈ S' := by
  intro l l' S S' h h' hm hlo s hs
  obtain ⟨d, hd⟩ : ∃ d, d ∈ s.data := List.exists_mem_of_ne_nil _ (h.non s hs)
  obtain ⟨s', hs', hk, _⟩ := (h'.mem s.k d).2 ((hm s.k d).1 ((h.mem s.k d).1 ⟨s, hs, rfl, hd⟩))
  have hdat : s.data = s'.data := by
   refine pw_ext ord_cmpB.anti (h.rise s hs) (h'.rise s' hs') fun x => ?_
   constructor
   · intro hx
     obtain ⟨t, ht, hkt, hxt⟩ := (h'.mem s.k x).2 ((hm s.k x).1 ((h.mem s.k x).1 ⟨s, hs, rfl, hx⟩))
     rw [h'.uniq hs' ht (hk.trans hkt.symm)]; exact hxt
   · intro hx
     obtain ⟨t, ht, hkt, hxt⟩ := (h.mem s.k x).2 ((hm s.k x).2 ((h'.mem s.k x).1 ⟨s', hs', hk, hx⟩))
     rw [h.uniq hs ht hkt.symm]; exact hxt
  have httl : s.ttl = s'.ttl := by
   obtain ⟨⟨r, hr, h1, h2⟩, h3⟩ := h.low s hs
   obtain ⟨⟨r', hr', h1', h2'⟩, h3'⟩ := h'.low s' hs'
   obtain ⟨q, hq, hq1, hq2⟩ := (hlo s.k s.ttl).1 ⟨r, hr, h1, by omega⟩
   obtain ⟨p, hp, hp1, hp2⟩ := (hlo s.k s'.ttl).2 ⟨r', hr', by rw [h1', hk], by omega⟩
   have := h3' q hq (by rw [hq1, hk])
   have := h3 p hp hp1
   omega
  have : s = s' := by
   obtain ⟨a, b, c⟩ := s
   obtain ⟨a', b', c'⟩ := s'
   simp only at hk hdat httl
   rw [hk, hdat, httl]
  rw [this]; exact hs'
 exact pw_ext (f := fun s t : SetP => kcmp s.k t.k) (fun _ _ => ord_kcmp.anti _ _) h.keys h'.keys fun s => ⟨one h h' hm hlo s, one h' h (fun k d => (hm k d).symm) (fun k t => (hlo k t).symm) s⟩
theorem mem_flatP {S : List SetP} {r : R5} : r ∈ flatP S ↔ ∃ s ∈ S, r.k = s.k ∧ r.ttl = s.ttl ∧ r.d ∈ s.data := by
 rw [flatP, List.mem_flatMap]
 constructor
 · rintro ⟨s, hs, hr⟩
   obtain ⟨d, hd, rfl⟩ := List.mem_map.1 hr
   exact ⟨s, hs, rfl, rfl, hd⟩
 · rintro ⟨s, hs, h1, h2, h3⟩
   exact ⟨s, hs, List.mem_map.2 ⟨r.d, h3, by rw [← h1, ← h2]⟩⟩
def sumD : List SetP → Nat
 | [] => 0
 | s :: S => s.data.length + sumD S
theorem sumD_append (A B : List SetP) : sumD (A ++ B) = sumD A + sumD B := by
 induction A with
 | nil => simp [sumD]
 | cons x A ih => rw [List.cons_append, sumD, sumD, ih]; omega
theorem flatP_length (S : List SetP) : (flatP S).length = sumD S := by
 induction S with
 | nil => rfl
 | cons s S ih => rw [flatP, List.flatMap_cons, List.length_append, sumD, ← ih]; simp [recs, flatP]
theorem grpK_sum (l : List R5) : ∀ k, sumD (grpK l k) ≤ k := by
 intro k
 induction k with
 | zero => exact Nat.le_refl _
 | succ k ih =>
  have had : ∀ (s : SetP) (r : R5), (addD s r).data.length ≤ s.data.length + 1 := fun s r => by
    unfold addD
    split
    · omega
    · simp only [List.length_append, List.length_singleton]; omega
  rw [grpK]
  split
  · omega
  · rename_i r hr
    split
    · rw [sumD_append]
      have h1 := had { (lastOr (grpK l k) r) with ttl := min (lastOr (grpK l k) r).ttl r.ttl } r
      have h2 : sumD (grpK l k).dropLast + (lastOr (grpK l k) r).data.length ≤ sumD (grpK l k) := by
       rcases List.eq_nil_or_concat (grpK l k) with h0 | ⟨S, s, h0⟩
       · rw [h0]; simp [lastOr, sumD]
       · rw [List.concat_eq_append] at h0
         rw [h0, List.dropLast_concat, sumD_append, lastOr]
         simp [sumD]
      simp only [sumD] at h1 ⊢
      omega
    · rw [sumD_append]
      have h1 := had ⟨r.k, r.ttl, []⟩ r
      simp only [sumD] at h1 ⊢
      simp only [List.length_nil] at h1
      omega
end Go.Proofs.YthfnphcefkdgbaaGreat
end
section
namespace Go.Proofs.YthfnphcefkdgbaaGreat
open Go.RowKit
theorem flatP_append (A B : List SetP) : flatP (A ++ B) = flatP A ++ flatP B := List.flatMap_append
theorem flatP_take (L : List SetP) (k : Nat) (s : SetP) (h : L[k]? = some s) : flatP (L.take (k + 1)) = flatP (L.take k) ++ recs s := by
 rw [List.take_add_one, h, flatP_append]
 simp [flatP]
theorem flatP_le (L : List SetP) (k : Nat) : (flatP (L.take k)).length ≤ (flatP L).length := by
 have h : flatP L = flatP (L.take k) ++ flatP (L.drop k) := by rw [← flatP_append, List.take_append_drop]
 rw [h, List.length_append]; omega
theorem flatR_append (A B : List R5) : flatR (A ++ B) = flatR A ++ flatR B := List.flatMap_append
set_option maxRecDepth 100000 in
set_option maxHeartbeats 1600000 in
theorem flat_any (a : Option Addr) (len cap : Nat) (L : List SetP) (w : World) (h : SetsAt w a len L) (hlen : len ≤ 100000) (hsum : (flatP L).length ≤ 100000) :
  Calls Tryz.prog 35 #[.slice a len cap] w fun e w' => ∃ v, e = .returned v ∧ w'.ownsRow w.heap.size 111 5 v (flatP L).length (flatR (flatP L)) ∧ Below w.heap.size w w' := by
 obtain ⟨i0, hi, hz0, hz1, hz2⟩ := info_parts infoRR
 have HR := Lib.hid h
 have HL := Lib.hid h.1
 clear h
 go_enter Tryz.func35, Tryz.ntmps35
 go_wp2_with fail
 go_loopw [3, 8] (fun v i wr => ∃ k m : Nat, k ≤ len ∧ i = .int .i64 k ∧ Hid ((flatP (L.take k)).length = m) ∧ Hid (wr.ownsRow w.heap.size 111 5 v m (flatR (flatP (L.take k)))) ∧ Hid (Below w.heap.size w wr)) (fun _ i _ => len - (intOf i).toNat)
 case atStart => exact ⟨0, 0, Nat.zero_le _, rfl, rfl, World.ownsRow_nil _ _ _ _, Below.refl _ _⟩
 case round =>
  obtain ⟨k, m, hk, rfl, hm, ho, hbw⟩ := hrel
  by_cases hlt : k < len
  · rcases (HR.out.below hbw.out).2 with h9 | ⟨b, o, rfl, hbl, hc⟩
    · omega
    obtain ⟨p, c, hs⟩ := hc k hlt
    have hLk : L[k]? = some (L.getD k ssD) := by
      rw [List.getD_eq_getElem?_getD, List.getElem?_eq_getElem (by have := HL.out; omega)]; rfl
    obtain ⟨s, hss⟩ : ∃ s, L.getD k ssD = s := ⟨_, rfl⟩
    rw [hss] at hs hLk
    obtain ⟨⟨sn, st, sc1⟩, su, sd⟩ := s
    obtain ⟨dl, hdl2⟩ : ∃ x, sd.length = x := ⟨_, rfl⟩
    obtain ⟨c0, c1, c2, c3, c4, hrow, hnil⟩ := hs
    replace c0 : wr.cell? ⟨b, o + k * 5, none⟩ = some (.string sn) := c0
    replace c1 : wr.cell? ⟨b, o + k * 5 + 1, none⟩ = some (.int .i64 st) := c1
    replace c2 : wr.cell? ⟨b, o + k * 5 + 2, none⟩ = some (.int .i64 sc1) := c2
    replace c3 : wr.cell? ⟨b, o + k * 5 + 3, none⟩ = some (.int .i64 su) := c3
    replace c4 : wr.cell? ⟨b, o + k * 5 + 4, none⟩ = some (.slice p sd.length c) := c4
    replace hrow : RowS wr p sd.length sd := hrow
    rw [hdl2] at c4 hrow
    have hft := flatP_take L k _ hLk
    have hlr : (recs ⟨⟨sn, st, sc1⟩, su, sd⟩).length = dl := by rw [recs, List.length_map]; exact hdl2
    have hle := flatP_le L (k + 1)
    rw [hft, List.length_append, hlr, hm.out] at hle
    have HFT := Lib.hid hft
    have HLR := Lib.hid hlr
    have HROW := Lib.hid hrow
    have hb1 := (Below.refl wr.heap.size wr).alloc (Nat.le_refl _) (.cells #[.string sn, .int .i64 st, .int .i64 sc1, .int .i64 su, .slice p dl c] 38)
    have HB1 := Lib.hid hb1
    have HBX := Lib.hid (hbw.out.trans (hb1.mono hbw.out.size))
    have HO1 := Lib.hid (own_below' ho.out hb1)
    have hdlb : dl ≤ 100000 := by omega
    have hmb : m + dl ≤ 1000000 := by omega
    clear hc hss hdl2 hrow hnil hLk hb1 hft hlr hle
    go_wp2_with fail
    refine (records_any sn st sc1 su sd p dl c _ (HROW.out.below HB1.out) hdlb).mono ?_; rintro e w2 ⟨v2, rfl, hown, hb⟩
    obtain ⟨a2, cc2, rfl, hrr, hnn⟩ := rowR_own hown
    have HRR := Lib.hid hrr
    have HNN := Lib.hid hnn
    have HO2 := Lib.hid (own_below' HO1.out hb)
    have HB2 := Lib.hid (HBX.out.trans (hb.mono HBX.out.size))
    clear hb hown hrr hnn c0 c1 c2 c3 c4
    go_wp2_with (at_builtin; refine append_cellsK rfl _ _ 22 111 rfl i0 _ 5 56 Tryz.underlying22 hi hz0 hz1 hz2 rfl (by decide) w.heap.size _ m _ rfl HO2.out a2 dl cc2 (flatR (recs ⟨⟨sn, st, sc1⟩, su, sd⟩)) rfl HNN.out HRR.out.2 (flatR_one _) hmb (by decide) HB2.out.size ?_)
    intro v' w3 hown' hgrow'
    have HO3 := Lib.hid hown'
    have HB3 := Lib.hid (HB2.out.grown hgrow' HB2.out.size (fun k hk => (HO2.out.lt k hk).1))
    clear hown' hgrow'
    go_wp2
    go_roundw
    case rel => exact ⟨k + 1, m + dl, by omega, by go_num, Lib.hid (by rw [HFT.out, List.length_append, hm.out, HLR.out]), Lib.hid (by rw [HFT.out, flatR_append]; exact HO3.out), HB3⟩
    case measure => simp [intOf]; omega
  · have HF := Lib.hid (show wr.ownsRow w.heap.size 111 5 u3 (flatP L).length (flatR (flatP L)) by
      have h1 := ho.out
      have h2 := hm.out
      rw [List.take_of_length_le (by rw [HL.out]; omega)] at h1 h2
      rw [h2]; exact h1)
    clear ho hm
    go_wp2
    go_ret
    exact ⟨_, rfl, HF.out, hbw.out⟩
end Go.Proofs.YthfnphcefkdgbaaGreat
end
section
namespace Go.Proofs.YthfnphcefkdgbaaGreat
open Go.RowKit
def SmR (r : R5) : Prop := r.k.n.size ≤ 60000 ∧ r.d.size ≤ 60000
def SzR (r : R5) : Prop := r.k.n.size ≤ 9223372036854775807 ∧ r.d.size ≤ 9223372036854775807
set_option maxRecDepth 100000 in
set_option maxHeartbeats 1600000 in
theorem few4 (a : Option Addr) (len cap : Nat) (l : List R5) (w : World) (h : RowR w a len l) (hlen : len ≤ 9223372036854775807) (hsz : ∀ r ∈ l, SzR r) :
  Calls Tryz.prog 51 #[.slice a len cap] w fun e w' => (e = .returned (.bool false) ∨ e = .returned (.bool true) ∧ len ≤ 400 ∧ ∀ r ∈ l, SmR r) ∧ ∃ m, w' = w.drewN m := by
 have HR := Lib.hid h
 have HSZ := Lib.hid hsz
 have HL := Lib.hid h.1
 clear h hsz
 go_enter Tryz.func51, Tryz.ntmps51
 go_wp2
 go_loopw [3, 4] (fun n i wr => ∃ k S m : Nat, k ≤ len ∧ k ≤ 400 ∧ S ≤ 60000 ∧ n = .int .i64 S ∧ i = .int .i64 k ∧ Hid (∀ r ∈ l.take k, SmR r) ∧ wr = w.drewN m) (fun _ i _ => len - (intOf i).toNat)
 case atStart => exact ⟨0, 0, 0, Nat.zero_le _, Nat.zero_le _, Nat.zero_le _, rfl, rfl, (fun r hr => by simp at hr), rfl⟩
 case round =>
  obtain ⟨k, S, m, hk, hk60, hS, rfl, rfl, hall, rfl⟩ := hrel
  by_cases hlt : k < len ∧ k < 400
  · obtain ⟨l1, l2⟩ := hlt
    obtain ⟨b, o, r, rfl, hbl, hr, c0, c1, c2, c3, c4⟩ := HR.out.at k l1
    have hz := HSZ.out r (List.mem_of_getElem? hr)
    obtain ⟨⟨rn, rt, rc⟩, ru, rd⟩ := r
    replace c0 : w.cell? ⟨b, o + k * 5, none⟩ = some (.string rn) := c0
    replace c4 : w.cell? ⟨b, o + k * 5 + 4, none⟩ = some (.string rd) := c4
    have z1 : rn.size ≤ 9223372036854775807 := hz.1
    have z2 : rd.size ≤ 9223372036854775807 := hz.2
    obtain ⟨v, hv, hv1, hv2⟩ := min60 rn
    obtain ⟨u, hu, hu1, hu2⟩ := min60 rd
    have HV2 := Lib.hid hv2
    have HU2 := Lib.hid hu2
    have HN := Lib.hid (show S + v + u ≤ 60000 → ∀ r ∈ l.take (k + 1), SmR r from fun h r hr2 => by
      rw [List.take_succ_eq_append_getElem (by have := HL.out; omega)] at hr2
      rcases List.mem_append.1 hr2 with h1 | h1
      · exact hall.out r h1
      · obtain rfl := List.mem_singleton.1 h1
        have hkl : k < l.length := by have := HL.out; omega
        have h2 : l[k]? = some (l[k]'hkl) := List.getElem?_eq_getElem hkl
        rw [hr] at h2
        rw [← Option.some.inj h2]
        exact ⟨HV2.out (by omega), HU2.out (by omega)⟩)
    clear c1 c2 c3 hr hz hv2 hu2
    have i1 : (0 : Int) ≤ (k : Int) := by omega
    have i2 : (k : Int) < (len : Int) := by omega
    by_cases hov : 60000 < S + v + u
    · have d5 := dT (p := (60000 : Int) < (S : Int) + (v : Int) + (u : Int)) (by omega)
      go_wp2_with fail
      go_quiet (fail)
      go_wp2
      go_ret
      rename_i nq
      exact ⟨Or.inl rfl, ⟨m + nq, by first | rfl | exact drewN_add _ _ _⟩⟩
    · have d5 := dF (p := (60000 : Int) < (S : Int) + (v : Int) + (u : Int)) (by omega)
      go_wp2_with fail
      go_quiet (fail)
      go_wp2
      rename_i nq
      go_roundw
      case rel => exact ⟨k + 1, S + v + u, m + nq, by omega, by omega, by omega, by go_num, by go_num, HN.out (by omega), by first | rfl | exact drewN_add _ _ _⟩
      case measure => simp [intOf]; omega
  · have hd : decide (k < len) = false ∨ decide (k < len) = true ∧ decide ((k : Int) < 400) = false := by
      simp only [decide_eq_true_eq, decide_eq_false_iff_not]; omega
    by_cases h6 : len ≤ 400
    · have e6 := dT (p := (len : Int) ≤ 400) (by omega)
      have HF := Lib.hid (show ∀ r ∈ l, SmR r from fun r hr => by
        have h1 := hall.out r
        rw [show k = len by omega, ← HL.out, List.take_length] at h1
        exact h1 hr)
      rcases hd with d1 | ⟨d1, d2⟩
      all_goals
        go_wp2
        go_ret
        exact ⟨by first | exact Or.inr ⟨rfl, h6, HF.out⟩ | exact Or.inr ⟨rfl, HF.out⟩, ⟨m, rfl⟩⟩
    · have e6 := dF (p := (len : Int) ≤ 400) (by omega)
      rcases hd with d1 | ⟨d1, d2⟩
      all_goals
        go_wp2
        go_ret
        exact ⟨by first | exact Or.inl rfl | rfl, ⟨m, rfl⟩⟩
end Go.Proofs.YthfnphcefkdgbaaGreat
end
section
namespace Go.Proofs.YthfnphcefkdgbaaGreat
open Go.RowKit
end Go.Proofs.YthfnphcefkdgbaaGreat
end
section
namespace Go.Proofs.YthfnphcefkdgbaaGreat
open Go.RowKit
theorem bytesLess_cmp : ∀ (x y : List UInt8), Op.bytesLess x y = decide (Lib.compareBytes x y < 0)
 | [], [] => by simp [Op.bytesLess, Lib.compareBytes]
 | [], b :: y => by simp [Op.bytesLess, Lib.compareBytes]
 | a :: x, [] => by simp [Op.bytesLess, Lib.compareBytes]
 | a :: x, b :: y => by
  rw [Op.bytesLess, bytesLess_cmp x y, Lib.compareBytes]
  by_cases h1 : a < b
  · simp [h1]
  · by_cases h2 : b < a
    · have h3 : ¬ a = b := fun e => by subst e; exact absurd h2 h1
      simp [h1, h2, h3]
    · have h3 : a = b := by
       rw [UInt8.lt_iff_toNat_lt] at h1 h2
       exact UInt8.toNat_inj.1 (by omega)
      subst h3
      simp [h1]
theorem less_of_cmp {x y : ByteArray} (h : cmpB x y < 0) : Op.bytesLess x.toList y.toList = true ∧ Op.bytesLess y.toList x.toList = false ∧ (y.toList == x.toList) = false ∧ (x.toList == y.toList) = false := by
 have h1 := ord_cmpB.anti x y
 have hne : ¬ x = y := fun e => by
   have := (ord_cmpB.zero x y).2 e
   omega
 refine ⟨?_, ?_, ?_, ?_⟩
 · rw [bytesLess_cmp, Lib.toList_data, Lib.toList_data]; exact dT h
 · rw [bytesLess_cmp, Lib.toList_data, Lib.toList_data]
   refine dF ?_
   show ¬ cmpB y x < 0
   omega
 · rw [beq_eq_false_iff_ne]; exact fun e => hne (toList_inj4 e).symm
 · rw [beq_eq_false_iff_ne]; exact fun e => hne (toList_inj4 e)
theorem OwnSets.data {w : World} {B : Nat} {v : Value} {L : List (SetP × Value)} (h : OwnSets w B v L) : ∀ p ∈ L, DataAt w p := fun p hp => by
 obtain ⟨a, c, h1, h2, h3⟩ := rowS_of_own (h.2.1 p hp)
 exact ⟨a, c, h1, h2, h3⟩
theorem OwnSets.at {w : World} {B : Nat} {v : Value} {L : List (SetP × Value)} (h : OwnSets w B v L) : ∃ a c, v = .slice a L.length c ∧ SetsAt w a L.length (L.map Prod.fst) ∧ (a = none → L.length = 0 ∧ c = 0) := setsAt_own h.1 h.data
theorem Canon.size {l : List R5} {S : List SetP} (h : Canon l S) {b1 b2 : Nat} (hk : ∀ r ∈ l, r.k.n.size ≤ b1) (hd : ∀ r ∈ l, r.d.size ≤ b2) {s : SetP} (hs : s ∈ S) : s.k.n.size ≤ b1 ∧ ∀ d ∈ s.data, d.size ≤ b2 := by
 constructor
 · obtain ⟨⟨r, hr, h1, _⟩, _⟩ := h.low s hs
   rw [← h1]; exact hk r hr
 · intro d hds
   obtain ⟨r, hr, _, h2⟩ := (h.mem s.k d).1 ⟨s, hs, rfl, hds⟩
   rw [← h2]; exact hd r hr
theorem data_le_sum : ∀ {S : List SetP} {s : SetP}, s ∈ S → s.data.length ≤ sumD S
 | [], _, h => by cases h
 | t :: S, s, h => by
  rw [sumD]
  rcases List.mem_cons.1 h with rfl | h
  · omega
  · have := data_le_sum h; omega
end Go.Proofs.YthfnphcefkdgbaaGreat
end
section
namespace Go.Proofs.YthfnphcefkdgbaaGreat
open Go.RowKit
end Go.Proofs.YthfnphcefkdgbaaGreat
end
section
namespace Go.Proofs.YthfnphcefkdgbaaGreat
open Go.RowKit
theorem mem_mid {α : Type} {A D : List α} {x t : α} : t ∈ A ++ x :: D ↔ t ∈ A ∨ t = x ∨ t ∈ D := by
 rw [List.mem_append, List.mem_cons]
theorem canon_ins_new {l : List R5} {A D : List SetP} {r : R5} (h : Canon l (A ++ D)) (hA : ∀ a ∈ A, kcmp a.k r.k < 0) (hD : ∀ x ∈ D, kcmp r.k x.k < 0) : Canon (l ++ [r]) (A ++ ⟨r.k, r.ttl, [r.d]⟩ :: D) := by
 have hne : ∀ t ∈ A ++ D, ¬ t.k = r.k := fun t ht e => by
   rcases List.mem_append.1 ht with ht | ht
   · have h1 := hA t ht
     have h2 := (ord_kcmp.zero t.k r.k).2 e
     omega
   · have h1 := hD t ht
     have h2 := (ord_kcmp.zero r.k t.k).2 e.symm
     omega
 obtain ⟨k1, k2, k3⟩ := List.pairwise_append.1 h.keys
 have hin : ∀ t, t ∈ A ++ D → t ∈ A ++ (⟨r.k, r.ttl, [r.d]⟩ : SetP) :: D := fun t ht => by
   rcases List.mem_append.1 ht with ht | ht
   · exact mem_mid.2 (Or.inl ht)
   · exact mem_mid.2 (Or.inr (Or.inr ht))
 have hout : ∀ t, t ∈ A ++ (⟨r.k, r.ttl, [r.d]⟩ : SetP) :: D → t ∈ A ++ D ∨ t = ⟨r.k, r.ttl, [r.d]⟩ := fun t ht => by
   rcases mem_mid.1 ht with ht | ht | ht
   · exact Or.inl (List.mem_append_left _ ht)
   · exact Or.inr ht
   · exact Or.inl (List.mem_append_right _ ht)
 refine ⟨?_, ?_, ?_, ?_, ?_⟩
 · refine List.pairwise_append.2 ⟨k1, List.pairwise_cons.2 ⟨fun x hx => hD x hx, k2⟩, fun a ha x hx => ?_⟩
   rcases List.mem_cons.1 hx with rfl | hx
   · exact hA a ha
   · exact k3 a ha x hx
 · intro t ht
   rcases hout t ht with ht | rfl
   · exact h.rise t ht
   · exact List.pairwise_singleton _ _
 · intro k d
   constructor
   · rintro ⟨t, ht, hk, hd⟩
     rcases hout t ht with ht | rfl
     · obtain ⟨q, hq, h1, h2⟩ := (h.mem k d).1 ⟨t, ht, hk, hd⟩
       exact ⟨q, List.mem_append_left _ hq, h1, h2⟩
     · exact ⟨r, by simp, hk, (List.mem_singleton.1 hd).symm⟩
   · rintro ⟨q, hq, h1, h2⟩
     rcases List.mem_append.1 hq with hq | hq
     · obtain ⟨t, ht, hk, hd⟩ := (h.mem k d).2 ⟨q, hq, h1, h2⟩
       exact ⟨t, hin t ht, hk, hd⟩
     · obtain rfl := List.mem_singleton.1 hq
       exact ⟨_, mem_mid.2 (Or.inr (Or.inl rfl)), h1, by rw [← h2]; exact List.mem_singleton_self _⟩
 · intro t ht
   rcases hout t ht with ht | rfl
   · exact h.non t ht
   · simp
 · intro t ht
   rcases hout t ht with ht | rfl
   · obtain ⟨⟨q, hq, h1, h2⟩, h3⟩ := h.low t ht
     refine ⟨⟨q, List.mem_append_left _ hq, h1, h2⟩, fun q hq hk => ?_⟩
     rcases List.mem_append.1 hq with hq | hq
     · exact h3 q hq hk
     · rw [List.mem_singleton.1 hq] at hk
       exact absurd hk.symm (hne t ht)
   · refine ⟨⟨r, by simp, rfl, rfl⟩, fun q hq hk => ?_⟩
     rcases List.mem_append.1 hq with hq | hq
     · obtain ⟨t, ht, h1, _⟩ := (h.mem q.k q.d).2 ⟨q, hq, rfl, rfl⟩
       exact absurd (h1.trans hk) (hne t ht)
     · rw [List.mem_singleton.1 hq]; exact Int.le_refl _
theorem canon_ins_same {l : List R5} {A D : List SetP} {s : SetP} {r : R5} {data' : List ByteArray} (h : Canon l (A ++ s :: D)) (hk : s.k = r.k) (hm : ∀ d, d ∈ data' ↔ d ∈ s.data ∨ d = r.d) (hr : data'.Pairwise (fun x y => cmpB x y < 0)) : Canon (l ++ [r]) (A ++ ⟨s.k, min s.ttl r.ttl, data'⟩ :: D) := by
 have hs : s ∈ A ++ s :: D := mem_mid.2 (Or.inr (Or.inl rfl))
 obtain ⟨k1, k2, k3⟩ := List.pairwise_append.1 h.keys
 obtain ⟨k4, k5⟩ := List.pairwise_cons.1 k2
 have hne : ∀ t, t ∈ A ∨ t ∈ D → ¬ t.k = r.k := fun t ht e => by
   rcases ht with ht | ht
   · have h1 := k3 t ht s List.mem_cons_self
     have h2 := (ord_kcmp.zero t.k s.k).2 (e.trans hk.symm)
     omega
   · have h1 := k4 t ht
     have h2 := (ord_kcmp.zero s.k t.k).2 (hk.trans e.symm)
     omega
 have old : ∀ t, t ∈ A ∨ t ∈ D → t ∈ A ++ s :: D := fun t ht => by
   rcases ht with ht | ht
   · exact mem_mid.2 (Or.inl ht)
   · exact mem_mid.2 (Or.inr (Or.inr ht))
 have hout : ∀ t, t ∈ A ++ (⟨s.k, min s.ttl r.ttl, data'⟩ : SetP) :: D → (t ∈ A ∨ t ∈ D) ∨ t = ⟨s.k, min s.ttl r.ttl, data'⟩ := fun t ht => by
   rcases mem_mid.1 ht with ht | ht | ht
   · exact Or.inl (Or.inl ht)
   · exact Or.inr ht
   · exact Or.inl (Or.inr ht)
 refine ⟨?_, ?_, ?_, ?_, ?_⟩
 · refine List.pairwise_append.2 ⟨k1, List.pairwise_cons.2 ⟨fun x hx => k4 x hx, k5⟩, fun a ha x hx => ?_⟩
   rcases List.mem_cons.1 hx with rfl | hx
   · exact k3 a ha s List.mem_cons_self
   · exact k3 a ha x (List.mem_cons_of_mem _ hx)
 · intro t ht
   rcases hout t ht with ht | rfl
   · exact h.rise t (old t ht)
   · exact hr
 · intro k d
   constructor
   · rintro ⟨t, ht, hkt, hd⟩
     rcases hout t ht with ht | rfl
     · obtain ⟨q, hq, h1, h2⟩ := (h.mem k d).1 ⟨t, old t ht, hkt, hd⟩
       exact ⟨q, List.mem_append_left _ hq, h1, h2⟩
     · rcases (hm d).1 hd with hd | rfl
       · obtain ⟨q, hq, h1, h2⟩ := (h.mem k d).1 ⟨s, hs, hkt, hd⟩
         exact ⟨q, List.mem_append_left _ hq, h1, h2⟩
       · exact ⟨r, by simp, hk.symm.trans hkt, rfl⟩
   · rintro ⟨q, hq, h1, h2⟩
     rcases List.mem_append.1 hq with hq | hq
     · obtain ⟨t, ht, hkt, hd⟩ := (h.mem k d).2 ⟨q, hq, h1, h2⟩
       rcases mem_mid.1 ht with ht | rfl | ht
       · exact ⟨t, mem_mid.2 (Or.inl ht), hkt, hd⟩
       · exact ⟨_, mem_mid.2 (Or.inr (Or.inl rfl)), hkt, (hm d).2 (Or.inl hd)⟩
       · exact ⟨t, mem_mid.2 (Or.inr (Or.inr ht)), hkt, hd⟩
     · obtain rfl := List.mem_singleton.1 hq
       exact ⟨_, mem_mid.2 (Or.inr (Or.inl rfl)), hk.trans h1, (hm d).2 (Or.inr h2.symm)⟩
 · intro t ht
   rcases hout t ht with ht | rfl
   · exact h.non t (old t ht)
   · intro e
     have h1 := (hm r.d).2 (Or.inr rfl)
     have e : data' = [] := e
     rw [e] at h1; cases h1
 · intro t ht
   rcases hout t ht with ht | rfl
   · obtain ⟨⟨q, hq, h1, h2⟩, h3⟩ := h.low t (old t ht)
     refine ⟨⟨q, List.mem_append_left _ hq, h1, h2⟩, fun q hq hkq => ?_⟩
     rcases List.mem_append.1 hq with hq | hq
     · exact h3 q hq hkq
     · rw [List.mem_singleton.1 hq] at hkq
       exact absurd hkq.symm (hne t ht)
   · obtain ⟨⟨q, hq, h1, h2⟩, h3⟩ := h.low s hs
     constructor
     · by_cases hm : s.ttl ≤ r.ttl
       · exact ⟨q, List.mem_append_left _ hq, h1, by show q.ttl = min s.ttl r.ttl; omega⟩
       · exact ⟨r, by simp, hk.symm, by show r.ttl = min s.ttl r.ttl; omega⟩
     · intro q hq hkq
       show min s.ttl r.ttl ≤ q.ttl
       rcases List.mem_append.1 hq with hq | hq
       · have := h3 q hq hkq; omega
       · rw [List.mem_singleton.1 hq]; omega
theorem rise_ins {X Y : List ByteArray} {d : ByteArray} (h : (X ++ Y).Pairwise (fun x y => cmpB x y < 0)) (hX : ∀ x ∈ X, cmpB x d < 0) (hY : ∀ y ∈ Y, cmpB d y < 0) : (X ++ d :: Y).Pairwise (fun x y => cmpB x y < 0) := by
 obtain ⟨k1, k2, k3⟩ := List.pairwise_append.1 h
 refine List.pairwise_append.2 ⟨k1, List.pairwise_cons.2 ⟨hY, k2⟩, fun a ha x hx => ?_⟩
 rcases List.mem_cons.1 hx with rfl | hx
 · exact hX a ha
 · exact k3 a ha x hx
theorem drop_gt {α : Type} {f : α → α → Int} (hf : IsPre f) {l : List α} (h : l.Pairwise (fun a b => f a b < 0)) {k : Nat} {x y : α} (hx : l[k]? = some x) (hlt : f y x < 0) : ∀ z ∈ l.drop k, f y z < 0 := by
 intro z hz
 obtain ⟨hk, he⟩ := List.getElem?_eq_some_iff.1 hx
 rw [List.drop_eq_getElem_cons hk, he] at hz
 rcases List.mem_cons.1 hz with rfl | hz
 · exact hlt
 · have h1 : (l.drop k).Pairwise (fun a b => f a b < 0) := h.drop
   rw [List.drop_eq_getElem_cons hk, he] at h1
   have h2 := (List.pairwise_cons.1 h1).1 z hz
   exact hf.lt_le hlt (by omega)
end Go.Proofs.YthfnphcefkdgbaaGreat
end
section
namespace Go.Proofs.YthfnphcefkdgbaaGreat
open Go.RowKit
theorem run_append_fg (w : World) (t ty e : TypeId) (i : TypeInfo) (z : Value) (size bytes : Nat) (ht : Tryz.prog.underlying t = some (.slice e)) (hi : Tryz.prog.info? e = some i) (hz : i.zero = some z) (hsize : i.size = size) (hby : i.bytes = bytes) (hzs : z.cells.size = size) (hsz : 0 < size)
   (v : Value) (n : Nat) (xs : List Value) (hown : w.ownsRow 0 e size v n xs) (a : Addr) (m c : Nat) (news : List Value) (hl : news.length = m * size) (hnews : ∀ (j : Nat) (u : Value), news[j]? = some u → w.cell? (a.add j) = some u) (h1 : ∀ u ∈ news, u.oneCell' = true)
   (h63 : n + m ≤ maxLen) (hbytes : (n + m) * bytes ≤ 140737488355328) :
   ∃ v' w', (Builtin.append_ #[t, t] ty #[v, .slice (some a) m c]).run Tryz.prog w = .ok v' w' ∧ w'.ownsRow 0 e size v' (n + m) (xs ++ news) ∧ w.grownBy w' v.ownBlock ∧ ∀ g, v'.ownBlock = some g → v.ownBlock = some g ∨ w.heap.size ≤ g := by
 obtain ⟨v', w', hr, ho, hg, -⟩ := run_append_own (P := Tryz.prog) w 0 t ty e i z size bytes ht hi hz hsize hby hzs hsz v n xs hown a m c news hl hnews h1 h63 hbytes (Nat.zero_le _)
 refine ⟨v', w', hr, ho, hg, fun g hvg => ?_⟩
 rcases hown.2 with ⟨rfl, rfl⟩ | ⟨g0, cap, cur, rfl, h2, h3, h4, h5, h6, h7⟩
 · obtain ⟨v2, w2, hr2, ho2, -, -⟩ := run_append_own (P := Tryz.prog) w w.heap.size t ty e i z size bytes ht hi hz hsize hby hzs hsz (.slice none 0 0) 0 xs ⟨hown.1, Or.inl ⟨rfl, rfl⟩⟩ a m c news hl hnews h1 h63 hbytes (Nat.le_refl _)
   rw [hr] at hr2
   injection hr2 with e1 e2
   subst e1; subst e2
   rcases ho2.2 with ⟨rfl, _⟩ | ⟨g1, c1, cur1, rfl, hb1, _⟩
   · cases hvg
   · injection hvg with hvg
     exact Or.inr (by subst hvg; exact hb1)
 · by_cases hroom : n + m ≤ cap
   · obtain ⟨w2, hr2, -, -⟩ := run_append_fits (P := Tryz.prog) w 0 t ty e i size ht hi hsize g0 n cap xs hown a m c news hl hnews h1 hroom
     rw [hr] at hr2
     injection hr2 with e1 e2
     subst e1
     exact Or.inl hvg
   · have holds : ∀ (j : Nat) (u : Value), xs[j]? = some u → w.cell? ((⟨g0, 0, none⟩ : Addr).add j) = some u := hown.cells (g := g0) rfl
     have hm : n + m ≤ 9223372036854775807 := by unfold maxLen at h63; omega
     have hr2 := run_append_grow (P := Tryz.prog) w t ty e i z ht hi hz ⟨g0, 0, none⟩ n cap xs (by rw [hsize]; exact hown.1) holds a m c news (by rw [hsize]; exact hl) hnews (by omega) (by omega) (growslice_fits (by omega) (by rw [hby]; exact hbytes))
     rw [hr] at hr2
     injection hr2 with e1 e2
     subst e1
     injection hvg with hvg
     exact Or.inr (by rw [← hvg]; exact Nat.le_refl _)
theorem step_append_fg {w : World} {ops : Array Oper} {o : Oper} {act : Act} {K : Act → World → Prop} {Q : Exit → Act → World → Prop} {E : Prop} (hgd : o.guard = none) (s x : Operand) (t e : TypeId)
  (ho : o.op = .call { callee := .builtin .append, args := #[s, x], argTypes := #[t, t] })
  (i : TypeInfo) (z : Value) (size bytes : Nat) (ht : Tryz.prog.underlying t = some (.slice e)) (hi : Tryz.prog.info? e = some i) (hz : i.zero = some z) (hsize : i.size = size) (hby : i.bytes = bytes) (hzs : z.cells.size = size) (h0 : 0 < size)
  (v : Value) (n : Nat) (xs : List Value) (hs : act.eval s = v) (hown : w.ownsRow 0 e size v n xs)
  (a : Addr) (len cap : Nat) (cs : List Value) (hx : act.eval x = .slice (some a) len cap) (hr : CellsAt w (some a) (len * size) cs) (h1 : ∀ u ∈ cs, u.oneCell' = true)
  (hb : n + len ≤ 20000) (hb2 : bytes ≤ 3200)
  (h : ∀ v' w', w'.ownsRow 0 e size v' (n + len) (xs ++ cs) → w.grownBy w' v.ownBlock → (∀ g, v'.ownBlock = some g → v.ownBlock = some g ∨ w.heap.size ≤ g) → K (act.put o.dst v') w') : if Region.wanted o (yielded ops act.tmps) = true then Oper.wp Tryz.prog o act w K Q else E := by
 have hw : Region.wanted o (yielded ops act.tmps) = true := by simp [Region.wanted, hgd]
 rw [if_pos hw]
 have hm : (n + len) * bytes ≤ 20000 * 3200 := Nat.mul_le_mul hb hb2
 have hcs : ∀ (j : Nat) (u : Value), cs[j]? = some u → w.cell? (a.add j) = some u := by
  intro j u hj
  rcases hr.2 with h0' | ⟨b, off, hab, _, hc⟩
  · have h3 := hr.1
    have h4 := (List.getElem?_eq_some_iff.1 hj).1
    omega
  · simp only [Option.some.injEq] at hab
    subst hab
    rw [Addr.add_mid]
    exact hc j u hj
 obtain ⟨v', w', hrun, h2, h3, h4⟩ := run_append_fg w t o.type e i z size bytes ht hi hz hsize hby hzs h0 v n xs hown a len cap cs hr.1 hcs h1 (by unfold maxLen; omega) (by omega)
 unfold Oper.wp
 simp [execOp, ho, resolve, invoke, builtin, hs, hx, hrun, Result.andThen]
 exact h v' w' h2 h3 h4
end Go.Proofs.YthfnphcefkdgbaaGreat
end
