/- Plain: the orders of keys and of records. -/
import Derived.Test.YtgdhbelcellabaaMgB
import Derived.Test.YtgdhbelcellabaaGrC
import Derived.Sort.Statements
namespace Go.Proofs.Ytgdhbelcellabaa
open Go.RowKit

structure IsPre {α : Type} (f : α → α → Int) : Prop where
  rng : ∀ a b, f a b = -1 ∨ f a b = 0 ∨ f a b = 1
  anti : ∀ a b, f b a = - f a b
  trans : ∀ a b c, f a b ≤ 0 → f b c ≤ 0 → f a c ≤ 0
theorem IsOrd.pre {α : Type} {f : α → α → Int} (h : IsOrd f) : IsPre f := ⟨h.rng, h.anti, h.trans⟩
theorem IsPre.comap {α β : Type} {f : α → α → Int} (h : IsPre f) (g : β → α) : IsPre (fun a b => f (g a) (g b)) := ⟨fun _ _ => h.rng _ _, fun _ _ => h.anti _ _, fun _ _ _ => h.trans _ _ _⟩
theorem IsPre.lex {α : Type} {f g : α → α → Int} (hf : IsPre f) (hg : IsPre g) : IsPre (fun a b => if f a b = 0 then g a b else f a b) where
  rng a b := by
    split
    · exact hg.rng a b
    · exact hf.rng a b
  anti a b := by
    have := hf.anti a b
    by_cases h : f a b = 0
    · rw [if_pos h, if_pos (by omega)]; exact hg.anti a b
    · rw [if_neg h, if_neg (by omega)]; exact this
  trans a b c := by
    intro h1 h2
    have a1 := hf.anti a b
    have a2 := hf.anti b c
    have a3 := hf.anti a c
    have t1 := hf.trans a b c
    have t2 := hf.trans c a b
    have t3 := hf.trans b c a
    have t4 := hf.trans c b a
    have g1 := hg.trans a b c
    by_cases k1 : f a b = 0
    · rw [if_pos k1] at h1
      by_cases k2 : f b c = 0
      · rw [if_pos k2] at h2
        rw [if_pos (by omega)]
        exact g1 h1 h2
      · rw [if_neg k2] at h2
        rw [if_neg (by omega)]
        omega
    · rw [if_neg k1] at h1
      by_cases k2 : f b c = 0
      · rw [if_neg (by omega)]
        omega
      · rw [if_neg k2] at h2
        rw [if_neg (by omega)]
        omega
theorem ord_int : IsOrd Lib.compareInt where
  rng a b := by unfold Lib.compareInt; (repeat' split) <;> simp
  anti a b := by unfold Lib.compareInt; (repeat' split) <;> omega
  zero a b := by unfold Lib.compareInt; (repeat' split) <;> omega
  trans a b c := by unfold Lib.compareInt; (repeat' split) <;> omega
theorem or2 (x y : Int) : orI [x, y] = if x = 0 then y else x := by
  simp only [orI]
  split
  · split <;> omega
  · rfl
theorem or3 (x y z : Int) : orI [x, y, z] = if x = 0 then (if y = 0 then z else y) else x := by
  rw [← or2 y z]; rfl
theorem ord_kcmp : IsOrd kcmp := by
  have h := (ord_cmpS.pre.comap Ky.n).lex ((ord_int.pre.comap Ky.c).lex (ord_int.pre.comap Ky.t))
  have e : kcmp = fun a b => if cmpS a.n b.n = 0 then (if Lib.compareInt a.c b.c = 0 then Lib.compareInt a.t b.t else Lib.compareInt a.c b.c) else cmpS a.n b.n := by
    funext a b; rw [kcmp, or3]
  refine ⟨by rw [e]; exact h.rng, by rw [e]; exact h.anti, fun a b => ?_, by rw [e]; exact h.trans⟩
  rw [e]
  show (if cmpS a.n b.n = 0 then (if Lib.compareInt a.c b.c = 0 then Lib.compareInt a.t b.t else Lib.compareInt a.c b.c) else cmpS a.n b.n) = 0 ↔ a = b
  obtain ⟨an, at1, ac⟩ := a
  obtain ⟨bn, bt, bk⟩ := b
  have h1 := ord_cmpS.zero an bn
  have h2 := ord_int.zero ac bk
  have h3 := ord_int.zero at1 bt
  simp only [Ky.mk.injEq]
  constructor
  · intro h
    by_cases k1 : cmpS an bn = 0
    · rw [if_pos k1] at h
      by_cases k2 : Lib.compareInt ac bk = 0
      · rw [if_pos k2] at h
        exact ⟨h1.1 k1, h3.1 h, h2.1 k2⟩
      · rw [if_neg k2] at h; exact absurd h k2
    · rw [if_neg k1] at h; exact absurd h k1
  · rintro ⟨rfl, rfl, rfl⟩
    rw [if_pos (h1.2 rfl), if_pos (h2.2 rfl)]
    exact h3.2 rfl
theorem pre_rcmp : IsPre rcmp := by
  have h := (ord_kcmp.pre.comap R5.k).lex (ord_cmpB.pre.comap R5.d)
  have e : rcmp = fun a b => if kcmp a.k b.k = 0 then cmpB a.d b.d else kcmp a.k b.k := by
    funext a b; rw [rcmp, or2]
  rw [e]; exact h
theorem IsPre.swo {α : Type} {f : α → α → Int} (h : IsPre f) : Sort.SWO (fun a b => decide (f a b < 0)) where
  irrefl x := by
    have := h.anti x x
    exact decide_eq_false (by omega)
  trans x y z h1 h2 := by
    have h1 := of_decide_eq_true h1
    have h2 := of_decide_eq_true h2
    have t1 := h.trans x y z
    have t2 := h.trans z x y
    have a1 := h.anti x z
    have a2 := h.anti y z
    exact decide_eq_true (by omega)
  ntrans x y z h1 h2 := by
    have h1 := of_decide_eq_false h1
    have h2 := of_decide_eq_false h2
    have t1 := h.trans z y x
    have a1 := h.anti x y
    have a2 := h.anti y z
    have a3 := h.anti x z
    exact decide_eq_false (by omega)
end Go.Proofs.Ytgdhbelcellabaa
