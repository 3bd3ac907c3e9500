/- A row of bytes in the midst of a block of the call's own: append onto it. -/
import Derived.Test.YtngncdmmlkcekaaFrE
import Derived.Deep.MidRow
import Derived.Deep.AppendSrc
import Derived.Deep.Upon
namespace Go.Proofs.Ytngncdmmlkcekaa
open Go.RowKit

/-- A slice of bytes that a call may append to, wherever in its block it begins. -/
def OwnM (w : World) (v : Value) (n : Nat) (l : List UInt8) : Prop :=
  l.length = n ∧ ((v = .slice none 0 0 ∧ n = 0) ∨ ∃ g off cap, v = .slice (some ⟨g, off, none⟩) n cap ∧ g < w.heap.size ∧ n ≤ cap ∧ cap ≤ maxLen ∧ w.rangeAt g off (bc l) ∧ w.there g off cap)
theorem OwnM.nil (w : World) : OwnM w (.slice none 0 0) 0 [] := ⟨rfl, Or.inl ⟨rfl, rfl⟩⟩
theorem OwnM.row {w : World} {v : Value} {n : Nat} {l : List UInt8} (h : OwnM w v n l) : ∃ a c, v = .slice a n c ∧ RowB w a n l ∧ (a = none → n = 0 ∧ c = 0) ∧ n ≤ c ∧ c ≤ maxLen := by
  rcases h.2 with ⟨rfl, rfl⟩ | ⟨g, off, cap, rfl, h1, h2, h3, h4, h5⟩
  · have : l = [] := List.eq_nil_of_length_eq_zero h.1
    subst this
    exact ⟨none, 0, rfl, ⟨rfl, Or.inl rfl⟩, fun _ => ⟨rfl, rfl⟩, Nat.le_refl _, Nat.zero_le _⟩
  · exact ⟨_, _, rfl, ⟨by rw [bc_length]; exact h.1, Or.inr ⟨g, off, rfl, h1, h4⟩⟩, (fun h => by cases h), h2, h3⟩
/-- What is unchanged behind writes to one block. -/
theorem OwnM.kept {w w' : World} {v : Value} {n : Nat} {l : List UInt8} (h : OwnM w v n l) (hs : w.heap.size ≤ w'.heap.size) (hk : ∀ g, v.ownBlock = some g → w'.heap[g]? = w.heap[g]?) : OwnM w' v n l := by
  refine ⟨h.1, ?_⟩
  rcases h.2 with h0 | ⟨g, off, cap, rfl, h1, h2, h3, h4, h5⟩
  · exact Or.inl h0
  · have hg := hk g rfl
    refine Or.inr ⟨g, off, cap, rfl, Nat.lt_of_lt_of_le h1 hs, h2, h3, fun j u hj => ?_, fun j hj => ?_⟩
    · rw [World.cell?_of_block (w := w) hg]; exact h4 j u hj
    · rw [World.cell?_of_block (w := w) hg, World.frozen?_of_block (w := w) hg]; exact h5 j hj
/-- The rest of such a slice. -/
theorem OwnM.cut {w : World} {g off n cap : Nat} {l : List UInt8} (h : OwnM w (.slice (some ⟨g, off, none⟩) n cap) n l) (k : Nat) (hk : k ≤ n) (hc : k < cap) : OwnM w (.slice (some ⟨g, off + k, none⟩) (n - k) (cap - k)) (n - k) (l.drop k) := by
  rcases h.2 with ⟨h0, _⟩ | ⟨g', off', cap', he, h1, h2, h3, h4, h5⟩
  · cases h0
  · injection he with e1 e2 e3
    injection e1 with e1
    injection e1 with e1 e4
    subst e1 e4 e3
    refine ⟨by rw [List.length_drop, h.1], Or.inr ⟨g, off + k, cap - k, rfl, h1, by omega, by omega, fun j u hj => ?_, fun j hj => ?_⟩⟩
    · rw [Nat.add_assoc]
      refine h4 (k + j) u ?_
      rw [bc, List.getElem?_map] at hj ⊢
      rw [List.getElem?_drop] at hj
      exact hj
    · rw [Nat.add_assoc]
      exact h5 (k + j) (by omega)
theorem below_setCells' {B : Nat} {w w' : World} (h : Below B w w') {b : Nat} (hb : B ≤ b) (o : Nat) (vs : List Value) : Below B w (w'.setCells b o vs) := by
  induction vs generalizing o w' with
  | nil => exact h
  | cons v vs ih => exact ih (h.setCell hb v) (o + 1)

theorem grown_setCells (w : World) (g o : Nat) (vs : List Value) : w.grownBy (w.setCells g o vs) (some g) := by
  have hb := below_setCells' (Below.refl 0 w) (Nat.zero_le g) o vs
  exact ⟨hb.os, hb.tape, hb.output, hb.size, fun k hk hne => World.heap_setCells_other w g o vs hk (fun e => hne (by rw [e]))⟩
/-- append onto it. -/
theorem run_append_mid {w : World} (ty : TypeId) {v : Value} {n : Nat} {l k : List UInt8} (h : OwnM w v n l) (a : Option Addr) (m c : Nat) (hx : RowB w a m k) (hn : a = none → m = 0 ∧ c = 0) (h63 : n + m ≤ 1000000) :
    ∃ v' w', (Builtin.append_ #[43, 43] ty #[v, .slice a m c]).run Try.prog w = .ok v' w' ∧ OwnM w' v' (n + m) (l ++ k) ∧ w.grownBy w' v.ownBlock ∧ (v'.ownBlock = v.ownBlock ∨ v'.ownBlock = some w.heap.size) := by
  obtain ⟨i0, hi, hz0, hz1, hz2⟩ := info_parts infoU8
  have hml := hx.len
  have hll := h.1
  have hsrc : Src Try.prog i0.size 43 (.slice a m c) m (bc k) w := by
    rw [hz1]
    cases a with
    | none =>
      obtain ⟨h1, h2⟩ := hn rfl
      subst h1 h2
      have : k = [] := List.eq_nil_of_length_eq_zero hml
      subst this
      exact Src.ofNil (P := Try.prog) w Try.underlying43 0
    | some x =>
      refine Src.ofSlice (P := Try.prog) w Try.underlying43 x m c (bc k) (by rw [bc_length, hml, Nat.mul_one]) ?_ (bc_oneCell k)
      intro j u hj
      rcases hx.2 with h0 | ⟨b, off, he, _, hc⟩
      · have := (List.getElem?_eq_some_iff.1 hj).1
        rw [bc_length] at this; omega
      · injection he with he
        subst he
        rw [Addr.add_mid]; exact hc j u hj
  have newrow : ∀ (old : Nat), old < n + m →
      OwnM (w.drew.alloc (.cells ((bc l ++ bc k).toArray ++ Builtin.zeroCells (Value.int .u8 0).cells (grownCap w (n + m) old 5 - (n + m))) 5)) (.slice (some ⟨w.heap.size, 0, none⟩) (n + m) (grownCap w (n + m) old 5)) (n + m) (l ++ k) := by
    intro old ho
    have hge := grownCap_ge w (n + m) old 5
    have hcm : grownCap w (n + m) old 5 ≤ maxLen := grownCap_le_maxLen w (n + m) old 5 (by unfold maxLen; omega)
    generalize grownCap w (n + m) old 5 = cap at *
    have hlen : (bc l ++ bc k).length = n + m := by rw [List.length_append, bc_length, bc_length]; omega
    have hsz : ((bc l ++ bc k).toArray ++ Builtin.zeroCells (Value.int .u8 0).cells (cap - (n + m))).size = cap := by
      rw [Array.size_append, List.size_toArray, hlen, size_zeroCells]
      show n + m + (cap - (n + m)) * 1 = cap
      omega
    have hcell : ∀ j, (w.drew.alloc (.cells ((bc l ++ bc k).toArray ++ Builtin.zeroCells (Value.int .u8 0).cells (cap - (n + m))) 5)).cell? ⟨w.heap.size, j, none⟩ = ((bc l ++ bc k).toArray ++ Builtin.zeroCells (Value.int .u8 0).cells (cap - (n + m)))[j]? := fun j => World.cell?_alloc_new w.drew _ _ j
    refine ⟨by rw [List.length_append]; omega, Or.inr ⟨w.heap.size, 0, cap, rfl, by simp, hge, hcm, fun j u hj => ?_, fun j hj => ?_⟩⟩
    · rw [Nat.zero_add, hcell]
      have hj2 : j < n + m := by
        have := (List.getElem?_eq_some_iff.1 hj).1
        rw [bc_length, List.length_append] at this; omega
      rw [bc_append] at hj
      rw [Array.getElem?_append_left (by rw [List.size_toArray, hlen]; exact hj2)]
      simpa using hj
    · rw [Nat.zero_add]
      refine ⟨?_, World.frozen?_alloc_new w.drew _ _ j⟩
      rw [hcell, Array.getElem?_eq_getElem (by rw [hsz]; exact hj)]; rfl
  have hgnew : ∀ (o : Obj) (row : Option Nat), w.grownBy (w.drew.alloc o) row := fun o row => ⟨rfl, rfl, rfl, by simp, fun q hq _ => heap_alloc_old w.drew _ hq⟩
  rcases h.2 with ⟨rfl, rfl⟩ | ⟨g, off, cap, rfl, h1, h2, h3, h4, h5⟩
  · have hl0 : l = [] := List.eq_nil_of_length_eq_zero hll
    subst hl0
    by_cases hm : m = 0
    · subst hm
      have hk0 : k = [] := List.eq_nil_of_length_eq_zero hml
      subst hk0
      have hc0 : (Builtin.firstCells 1 0 (.slice a 0 c)).run Try.prog w = .ok #[] w := by have := hsrc.cells; rw [hz1] at this; exact this
      refine ⟨.slice none 0 0, w, ?_, OwnM.nil w, World.grownBy.refl _ _, Or.inl rfl⟩
      simp [Builtin.append_, run_underlying Try.underlying43, sizeOf, typeInfo, hi, Builtin.lenOf, hz1, hc0]
    · have hr := run_append_grow_src (P := Try.prog) w 43 43 ty 5 i0 (.int .u8 0) Try.underlying43 hi hz0 none 0 0 [] (run_firstCells_none w.drew _ _ _ _) (.slice a m c) m (bc k) hsrc (by omega) (by omega) (by rw [hz2]; exact growslice_fits (by omega) (by omega))
      have hnr := newrow 0 (by omega)
      simp only [Nat.zero_add] at hr hnr ⊢
      exact ⟨_, _, hr, hnr, hgnew _ _, Or.inr rfl⟩
  · by_cases hroom : n + m ≤ cap
    · have hr := run_append_room_src (P := Try.prog) w 43 43 ty 5 i0 Try.underlying43 hi g off n cap (.slice a m c) m (bc k) hsrc hroom
        (fun j hj => by rw [bc_length] at hj; rw [hz1, Nat.mul_one, Nat.add_assoc]; exact (h5 (n + j) (by omega)).1)
        (fun j hj => by rw [bc_length] at hj; rw [hz1, Nat.mul_one, Nat.add_assoc]; exact (h5 (n + j) (by omega)).2)
      rw [hz1, Nat.mul_one] at hr
      refine ⟨_, _, hr, ⟨by rw [List.length_append]; omega, Or.inr ⟨g, off, cap, rfl, ?_, hroom, h3, ?_, World.there_setCells h5 g (off + n) (bc k)⟩⟩, grown_setCells w g _ _, Or.inl rfl⟩
      · exact Nat.lt_of_lt_of_le h1 (grown_setCells w g (off + n) (bc k)).size
      · intro j u hj
        rw [bc_append] at hj
        by_cases hj2 : j < n
        · rw [List.getElem?_append_left (by rw [bc_length]; omega)] at hj
          exact World.rangeAt_setCells_apart h4 g (off + n) (bc k) (Or.inr (Or.inl (by rw [bc_length]; omega))) j u hj
        · rw [List.getElem?_append_right (by rw [bc_length]; omega), bc_length, hll] at hj
          have ht : w.there g (off + n) (bc k).length := fun i hi' => by
            rw [bc_length] at hi'
            rw [Nat.add_assoc]; exact h5 (n + i) (by omega)
          have := World.rangeAt_setCells_same w g (off + n) (bc k) ht (j - n) u hj
          rw [show off + n + (j - n) = off + j by omega] at this
          exact this
    · have hold : (Builtin.firstCells i0.size n (.slice (some ⟨g, off, none⟩) n cap)).run Try.prog w.drew = .ok (bc l).toArray w.drew := by
        rw [hz1]
        refine run_firstCells_some w.drew 1 n ⟨g, off, none⟩ n cap (bc l) (by rw [bc_length, hll, Nat.mul_one]) (fun j u hj => ?_)
        rw [Addr.add_mid]
        have := h4 j u hj
        simpa using this
      have hr := run_append_grow_src (P := Try.prog) w 43 43 ty 5 i0 (.int .u8 0) Try.underlying43 hi hz0 (some ⟨g, off, none⟩) n cap (bc l) hold (.slice a m c) m (bc k) hsrc (by omega) (by omega) (by rw [hz2]; exact growslice_fits (by omega) (by omega))
      exact ⟨_, _, hr, newrow cap (by omega), hgnew _ _, Or.inr rfl⟩
end Go.Proofs.Ytngncdmmlkcekaa
