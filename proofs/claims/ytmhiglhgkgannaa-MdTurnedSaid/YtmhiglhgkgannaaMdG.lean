/- Plain: lists in order, each once. -/
import Derived.Test.YtmhiglhgkgannaaMgB
import Derived.Test.YtmhiglhgkgannaaDdP
namespace Go.Proofs.Ytmhiglhgkgannaa

theorem rise_ext {α : Type} {f : α → α → Int} (h : IsOrd f) : ∀ {a b : List α}, a.Pairwise (fun x y => f x y < 0) → b.Pairwise (fun x y => f x y < 0) → (∀ x, x ∈ a ↔ x ∈ b) → a = b
  | [], [], _, _, _ => rfl
  | [], y :: b, _, _, hm => absurd ((hm y).2 (List.mem_cons_self ..)) (by simp)
  | x :: a, [], _, _, hm => absurd ((hm x).1 (List.mem_cons_self ..)) (by simp)
  | x :: a, y :: b, ha, hb, hm => by
    obtain ⟨ha1, ha2⟩ := List.pairwise_cons.1 ha
    obtain ⟨hb1, hb2⟩ := List.pairwise_cons.1 hb
    have hxx : ∀ z, f z z = 0 := fun z => (h.zero z z).2 rfl
    have hxy : x = y := by
      rcases List.mem_cons.1 ((hm x).1 (List.mem_cons_self ..)) with e | hx
      · exact e
      · rcases List.mem_cons.1 ((hm y).2 (List.mem_cons_self ..)) with e | hy
        · exact e.symm
        · have h1 := hb1 x hx
          have h2 := ha1 y hy
          have h3 := h.anti x y
          omega
    subst hxy
    refine congrArg (x :: ·) (rise_ext h ha2 hb2 (fun z => ?_))
    constructor
    · intro hz
      rcases List.mem_cons.1 ((hm z).1 (List.mem_cons_of_mem _ hz)) with e | hz'
      · subst e
        have h1 := ha1 z hz
        have h2 := hxx z
        omega
      · exact hz'
    · intro hz
      rcases List.mem_cons.1 ((hm z).2 (List.mem_cons_of_mem _ hz)) with e | hz'
      · subst e
        have h1 := hb1 z hz
        have h2 := hxx z
        omega
      · exact hz'
theorem dd_rise {α : Type} [DecidableEq α] {f : α → α → Int} (h : IsOrd f) : ∀ (l : List α), l.Pairwise (fun a b => f a b ≤ 0) → (dd l).Pairwise (fun a b => f a b < 0)
  | [], _ => by simp [dd]
  | [x], _ => by simp [dd]
  | x :: y :: l, hp => by
    obtain ⟨hp1, hp2⟩ := List.pairwise_cons.1 hp
    have ih := dd_rise h (y :: l) hp2
    rw [dd]; split
    · exact ih
    · rename_i hne
      refine List.pairwise_cons.2 ⟨fun z hz => ?_, ih⟩
      rw [dd_mem] at hz
      have h1 := hp1 z hz
      have h2 := hp1 y (List.mem_cons_self ..)
      rcases Int.lt_or_eq_of_le h1 with h3 | h3
      · exact h3
      · exfalso
        have e := (h.zero x z).1 h3
        subst e
        rcases List.mem_cons.1 hz with e | hz
        · exact hne e
        · have h4 := (List.pairwise_cons.1 hp2).1 x hz
          have h5 := h.anti x y
          exact hne ((h.zero x y).1 (by omega))
/-- Those of l that are asked for, each once, in order. -/
structure OnceP {α : Type} (f : α → α → Int) (p : α → Bool) (l o : List α) : Prop where
  rise : o.Pairwise (fun a b => f a b < 0)
  mem : ∀ r, r ∈ o ↔ r ∈ l ∧ p r = true
theorem OnceP.uniq {α : Type} {f : α → α → Int} (hf : IsOrd f) {p q : α → Bool} {l m o o' : List α} (h : OnceP f p l o) (h' : OnceP f q m o') (he : ∀ r, (r ∈ l ∧ p r = true) ↔ (r ∈ m ∧ q r = true)) : o = o' :=
  rise_ext hf h.rise h'.rise (fun x => (h.mem x).trans ((he x).trans (h'.mem x).symm))
theorem OnceP.of_sorted {α : Type} [DecidableEq α] {f : α → α → Int} (hf : IsOrd f) {p : α → Bool} {l l' : List α} (hp : l'.Perm (l.filter p)) (hs : l'.Pairwise (fun a b => f a b ≤ 0)) : OnceP f p l (dd l') :=
  ⟨dd_rise hf l' hs, fun r => by rw [dd_mem, hp.mem_iff, List.mem_filter]⟩
theorem once_ex {α : Type} [DecidableEq α] {f : α → α → Int} (hf : IsOrd f) (p : α → Bool) (l : List α) : ∃ o, OnceP f p l o := by
  have hp := List.mergeSort_perm (l.filter p) (fun a b => decide (f a b ≤ 0))
  have hs := List.pairwise_mergeSort (le := fun a b => decide (f a b ≤ 0)) (fun a b c h1 h2 => by
    have h1 := of_decide_eq_true h1
    have h2 := of_decide_eq_true h2
    exact decide_eq_true (hf.trans a b c h1 h2)) (fun a b => by
    have h1 := hf.anti a b
    by_cases h : f a b ≤ 0
    · simp [h]
    · have : f b a ≤ 0 := by omega
      simp [this]) (l.filter p)
  exact ⟨_, OnceP.of_sorted hf hp (hs.imp (fun h => of_decide_eq_true h))⟩
open Classical in
noncomputable def onceF {α : Type} (f : α → α → Int) (p : α → Bool) (l : List α) : List α := if h : ∃ o, OnceP f p l o then h.choose else []
theorem onceF_ok {α : Type} [DecidableEq α] {f : α → α → Int} (hf : IsOrd f) (p : α → Bool) (l : List α) : OnceP f p l (onceF f p l) := by
  unfold onceF
  rw [dif_pos (once_ex hf p l)]
  exact (once_ex hf p l).choose_spec
theorem OnceP.eqF {α : Type} [DecidableEq α] {f : α → α → Int} (hf : IsOrd f) {p : α → Bool} {l o : List α} (h : OnceP f p l o) : o = onceF f p l := h.uniq hf (onceF_ok hf p l) (fun _ => Iff.rfl)
theorem onceF_congr {α : Type} [DecidableEq α] {f : α → α → Int} (hf : IsOrd f) {p q : α → Bool} {l m : List α} (he : ∀ r, (r ∈ l ∧ p r = true) ↔ (r ∈ m ∧ q r = true)) : onceF f p l = onceF f q m := (onceF_ok hf p l).uniq hf (onceF_ok hf q m) he
theorem OnceP.one {α : Type} {f : α → α → Int} (hf : IsOrd f) {p : α → Bool} {l o : List α} (h : OnceP f p l o) {x : α} (hx : ∀ r, (r ∈ l ∧ p r = true) ↔ r = x) : o = [x] :=
  rise_ext hf h.rise (List.pairwise_singleton _ _) (fun r => by rw [h.mem, hx]; simp)
theorem OnceP.none {α : Type} {f : α → α → Int} {p : α → Bool} {l o : List α} (h : OnceP f p l o) (hx : ∀ r ∈ l, p r = false) : o = [] := by
  cases o with
  | nil => rfl
  | cons y o =>
    obtain ⟨h1, h2⟩ := (h.mem y).1 (List.mem_cons_self ..)
    rw [hx y h1] at h2; cases h2
theorem OnceP.len {α : Type} {f : α → α → Int} {p : α → Bool} {l o : List α} (h : OnceP f p l o) (hx : o.length = 1) : ∃ x, o = [x] ∧ x ∈ l ∧ p x = true ∧ ∀ r ∈ l, p r = true → r = x := by
  match o, hx with
  | [x], _ =>
    obtain ⟨h1, h2⟩ := (h.mem x).1 (List.mem_cons_self ..)
    refine ⟨x, rfl, h1, h2, fun r hr hp => ?_⟩
    have := (h.mem r).2 ⟨hr, hp⟩
    simpa using this
end Go.Proofs.Ytmhiglhgkgannaa
