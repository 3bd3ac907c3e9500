/- Questions: rows, slices.Clone. -/
import Derived.Test.YtkoafkajmfodkaaClR5
namespace Go.Proofs.Ytkoafkajmfodkaa
open Go.RowKit

def flatQ (l : List Ky) : List Value := l.flatMap encK
theorem encK_len (r : Ky) : (encK r).length = 3 := rfl
theorem flatQ_len (l : List Ky) : (flatQ l).length = l.length * 3 := by
  induction l with
  | nil => rfl
  | cons x l ih => rw [flatQ, List.flatMap_cons, List.length_append, encK_len]; show 3 + (flatQ l).length = _; rw [ih, List.length_cons]; omega
/-- The questions of a slice. -/
def RowQ (w : World) (a : Option Addr) (n : Nat) (l : List Ky) : Prop := l.length = n ∧ CellsAt w a (n * 3) (flatQ l)
theorem RowQ.below {w w' : World} {a : Option Addr} {n : Nat} {l : List Ky} (h : RowQ w a n l) (hb : Below w.heap.size w w') : RowQ w' a n l := ⟨h.1, h.2.below hb⟩
theorem RowQ.at {w : World} {a : Option Addr} {n : Nat} {l : List Ky} (h : RowQ w a n l) (j : Nat) (hj : j < n) : ∃ b off r, a = some ⟨b, off, none⟩ ∧ b < w.heap.size ∧ l[j]? = some r ∧ w.cell? ⟨b, off + j * 3, none⟩ = some (.string r.n) ∧ w.cell? ⟨b, off + j * 3 + 1, none⟩ = some (.int .i64 r.t) ∧ w.cell? ⟨b, off + j * 3 + 2, none⟩ = some (.int .i64 r.c) := by
  obtain ⟨h1, h2, h3⟩ := h
  rcases h3 with h0 | ⟨b, off, rfl, hlt, hc⟩
  · omega
  obtain ⟨r, hr⟩ : ∃ r, l[j]? = some r := ⟨l[j]'(by omega), List.getElem?_eq_getElem (by omega)⟩
  have hg : ∀ i, i < 3 → ∀ u, (encK r)[i]? = some u → w.cell? ⟨b, off + j * 3 + i, none⟩ = some u := fun i hi u hu => by
    have h4 := hc (j * 3 + i) u (by
      rw [flatQ, flatMap_get encK 3 encK_len (by omega), show (j * 3 + i) / 3 = j by omega, show (j * 3 + i) % 3 = i by omega, hr]
      exact hu)
    rw [Nat.add_assoc]; exact h4
  exact ⟨b, off, r, rfl, hlt, hr, hg 0 (by omega) _ rfl, hg 1 (by omega) _ rfl, hg 2 (by omega) _ rfl⟩
theorem flatQ_one (l : List Ky) : ∀ u ∈ flatQ l, u.oneCell' = true := by
  intro u hu
  obtain ⟨r, _, hr⟩ := List.mem_flatMap.1 hu
  simp only [encK, List.mem_cons, List.not_mem_nil, or_false] at hr
  rcases hr with rfl | rfl | rfl <;> rfl
theorem rowQ_own {w : World} {B n : Nat} {v : Value} {l : List Ky} (h : w.ownsRow B 70 3 v n (flatQ l)) : ∃ a c, v = .slice a n c ∧ RowQ w a n l ∧ (a = none → n = 0 ∧ c = 0) := by
  obtain ⟨a, c, e, h1, h2⟩ := cellsK_own h
  exact ⟨a, c, e, ⟨by have := h.1; rw [flatQ_len] at this; omega, h1⟩, h2⟩
theorem infoQ : (Try.prog.info? 70).map (fun i => (i.zero, i.size, i.bytes)) = some (some (.agg #[.string ⟨#[]⟩, .int .i64 0, .int .i64 0]), 3, 32) := by kernel_rfl

set_option maxRecDepth 100000 in
theorem cloneQ (a : Option Addr) (n c : Nat) (l : List Ky) (w : World) (h : RowQ w a n l) (hn : a = none → n = 0 ∧ c = 0) (hlen : n ≤ 100000) :
    Calls Try.prog 75 #[.slice a n c] w fun e w' => ∃ v, e = .returned v ∧ w'.ownsRow w.heap.size 70 3 v n (flatQ l) ∧ Below w.heap.size w w' := by
  obtain ⟨i0, hi, hz0, hz1, hz2⟩ := info_parts infoQ
  have HR := Lib.hid h
  have HN := Lib.hid hn
  cases a with
  | none =>
    obtain ⟨rfl, rfl⟩ := hn rfl
    have hl0 : l = [] := List.eq_nil_of_length_eq_zero h.1
    subst hl0
    clear h hn
    have he : (binOp .eql 24 (.slice none 0 0) (.slice none 0 0)).run Try.prog w = .ok (.bool true) w := Lib.run_eql_slice_nil w 24 70 none 0 0 0 0 Try.underlying24
    go_enter Try.func75, Try.ntmps75
    go_wp2
    go_ret
    exact ⟨_, rfl, World.ownsRow_nil _ _ _ _, Below.refl _ _⟩
  | some ad =>
    have HH := Lib.hid (show RowQ (w.alloc (.cells #[] 70)) (some ad) n l from h.below ((Below.refl _ _).alloc (Nat.le_refl _) _))
    have HO := Lib.hid (show (w.alloc (.cells #[] 70)).ownsRow w.heap.size 70 3 (.slice (some ⟨w.heap.size, 0, none⟩) 0 0) 0 [] from World.ownsRow_made w #[] 0 (Nat.le_refl _) (Nat.zero_le _) rfl)
    have HB := Lib.hid ((Below.refl w.heap.size w).alloc (Nat.le_refl _) (.cells #[] 70))
    clear h hn
    have he : (binOp .eql 24 (.slice (some ad) n c) (.slice none 0 0)).run Try.prog w = .ok (.bool false) w := Lib.run_eql_slice_nil w 24 70 (some ad) n c 0 0 Try.underlying24
    go_enter Try.func75, Try.ntmps75
    go_wp2_with (first | (at_builtin; refine append_cellsK rfl _ _ 24 70 rfl i0 _ 3 32 Try.underlying24 hi hz0 hz1 hz2 rfl (by decide) w.heap.size _ 0 _ rfl HO.out (some ad) n c (flatQ l) rfl HN.out HH.out.2 (flatQ_one l) (by omega) (by decide) (by simp) ?_))
    intro v' w' ho hg
    go_wp2
    go_ret
    exact ⟨v', rfl, ho, HB.out.grown hg (by simp) (fun k hk => (HO.out.lt k hk).1)⟩
end Go.Proofs.Ytkoafkajmfodkaa
