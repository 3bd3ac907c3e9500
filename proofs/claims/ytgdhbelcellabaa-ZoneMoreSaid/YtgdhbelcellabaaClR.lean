/- slices.Clone at records; the rows of records that came in. -/
import Derived.Test.YtgdhbelcellabaaCeK
import Derived.Test.YtgdhbelcellabaaGrC
import Derived.Lib.SliceRun
namespace Go.Proofs.Ytgdhbelcellabaa
open Go.RowKit

def flatR (l : List R5) : List Value := l.flatMap encR
theorem encR_len (r : R5) : (encR r).length = 5 := rfl
theorem flatR_len (l : List R5) : (flatR l).length = l.length * 5 := by
  induction l with
  | nil => rfl
  | cons x l ih => rw [flatR, List.flatMap_cons, List.length_append, encR_len]; show 5 + (flatR l).length = _; rw [ih, List.length_cons]; omega
theorem flatMap_get {α : Type} (enc : α → List Value) (k : Nat) (hk : ∀ x, (enc x).length = k) (k0 : 0 < k) : ∀ (l : List α) (t : Nat), (l.flatMap enc)[t]? = (l[t / k]?).bind (fun x => (enc x)[t % k]?) := by
  intro l
  induction l with
  | nil => intro t; simp
  | cons x l ih =>
    intro t
    rw [List.flatMap_cons]
    by_cases h : t < k
    · rw [List.getElem?_append_left (by rw [hk]; exact h), Nat.div_eq_of_lt h, Nat.mod_eq_of_lt h]
      simp
    · rw [List.getElem?_append_right (by rw [hk]; omega), hk, ih]
      obtain ⟨s, rfl⟩ : ∃ s, t = s + k := ⟨t - k, by omega⟩
      rw [Nat.add_sub_cancel, Nat.add_div_right _ k0, Nat.add_mod_right]
      simp
/-- The records of a slice. -/
def RowR (w : World) (a : Option Addr) (n : Nat) (l : List R5) : Prop := l.length = n ∧ CellsAt w a (n * 5) (flatR l)
theorem RowR.below {w w' : World} {a : Option Addr} {n : Nat} {l : List R5} (h : RowR w a n l) (hb : Below w.heap.size w w') : RowR w' a n l := ⟨h.1, h.2.below hb⟩
theorem RowR.at {w : World} {a : Option Addr} {n : Nat} {l : List R5} (h : RowR w a n l) (j : Nat) (hj : j < n) : ∃ b off r, a = some ⟨b, off, none⟩ ∧ b < w.heap.size ∧ l[j]? = some r ∧ w.cell? ⟨b, off + j * 5, none⟩ = some (.string r.k.n) ∧ w.cell? ⟨b, off + j * 5 + 1, none⟩ = some (.int .i64 r.k.t) ∧ w.cell? ⟨b, off + j * 5 + 2, none⟩ = some (.int .i64 r.k.c) ∧ w.cell? ⟨b, off + j * 5 + 3, none⟩ = some (.int .i64 r.ttl) ∧ w.cell? ⟨b, off + j * 5 + 4, none⟩ = some (.string r.d) := by
  obtain ⟨h1, h2, h3⟩ := h
  rcases h3 with h0 | ⟨b, off, rfl, hlt, hc⟩
  · omega
  obtain ⟨r, hr⟩ : ∃ r, l[j]? = some r := ⟨l[j]'(by omega), List.getElem?_eq_getElem (by omega)⟩
  have hg : ∀ i, i < 5 → ∀ u, (encR r)[i]? = some u → w.cell? ⟨b, off + j * 5 + i, none⟩ = some u := fun i hi u hu => by
    have h4 := hc (j * 5 + i) u (by
      rw [flatR, flatMap_get encR 5 encR_len (by omega), show (j * 5 + i) / 5 = j by omega, show (j * 5 + i) % 5 = i by omega, hr]
      exact hu)
    rw [Nat.add_assoc]; exact h4
  exact ⟨b, off, r, rfl, hlt, hr, hg 0 (by omega) _ rfl, hg 1 (by omega) _ rfl, hg 2 (by omega) _ rfl, hg 3 (by omega) _ rfl, hg 4 (by omega) _ rfl⟩
theorem flatR_one (l : List R5) : ∀ u ∈ flatR l, u.oneCell' = true := by
  intro u hu
  obtain ⟨r, _, hr⟩ := List.mem_flatMap.1 hu
  simp only [encR, List.mem_cons, List.not_mem_nil, or_false] at hr
  rcases hr with rfl | rfl | rfl | rfl | rfl <;> rfl
theorem rowR_own {w : World} {B n : Nat} {v : Value} {l : List R5} (h : w.ownsRow B 45 5 v n (flatR l)) : ∃ a c, v = .slice a n c ∧ RowR w a n l ∧ (a = none → n = 0 ∧ c = 0) := by
  obtain ⟨a, c, e, h1, h2⟩ := cellsK_own h
  exact ⟨a, c, e, ⟨by have := h.1; rw [flatR_len] at this; omega, h1⟩, h2⟩
theorem infoRR : (Try.prog.info? 45).map (fun i => (i.zero, i.size, i.bytes)) = some (some (.agg #[.string ⟨#[]⟩, .int .i64 0, .int .i64 0, .int .i64 0, .string ⟨#[]⟩]), 5, 56) := by kernel_rfl

set_option maxRecDepth 100000 in
theorem cloneRR (a : Option Addr) (n c : Nat) (l : List R5) (w : World) (h : RowR w a n l) (hn : a = none → n = 0 ∧ c = 0) (hlen : n ≤ 100000) :
    Calls Try.prog 69 #[.slice a n c] w fun e w' => ∃ v, e = .returned v ∧ w'.ownsRow w.heap.size 45 5 v n (flatR l) ∧ Below w.heap.size w w' := by
  obtain ⟨i0, hi, hz0, hz1, hz2⟩ := info_parts infoRR
  have HR := Lib.hid h
  have HN := Lib.hid hn
  cases a with
  | none =>
    obtain ⟨rfl, rfl⟩ := hn rfl
    have hl0 : l = [] := List.eq_nil_of_length_eq_zero h.1
    subst hl0
    clear h hn
    have he : (binOp .eql 22 (.slice none 0 0) (.slice none 0 0)).run Try.prog w = .ok (.bool true) w := Lib.run_eql_slice_nil w 22 45 none 0 0 0 0 Try.underlying22
    go_enter Try.func69, Try.ntmps69
    go_wp2
    go_ret
    exact ⟨_, rfl, World.ownsRow_nil _ _ _ _, Below.refl _ _⟩
  | some ad =>
    have HH := Lib.hid (show RowR (w.alloc (.cells #[] 45)) (some ad) n l from h.below ((Below.refl _ _).alloc (Nat.le_refl _) _))
    have HO := Lib.hid (show (w.alloc (.cells #[] 45)).ownsRow w.heap.size 45 5 (.slice (some ⟨w.heap.size, 0, none⟩) 0 0) 0 [] from World.ownsRow_made w #[] 0 (Nat.le_refl _) (Nat.zero_le _) rfl)
    have HB := Lib.hid ((Below.refl w.heap.size w).alloc (Nat.le_refl _) (.cells #[] 45))
    clear h hn
    have he : (binOp .eql 22 (.slice (some ad) n c) (.slice none 0 0)).run Try.prog w = .ok (.bool false) w := Lib.run_eql_slice_nil w 22 45 (some ad) n c 0 0 Try.underlying22
    go_enter Try.func69, Try.ntmps69
    go_wp2_with (first | (at_builtin; refine append_cellsK rfl _ _ 22 45 rfl i0 _ 5 56 Try.underlying22 hi hz0 hz1 hz2 rfl (by decide) w.heap.size _ 0 _ rfl HO.out (some ad) n c (flatR l) rfl HN.out HH.out.2 (flatR_one l) (by omega) (by decide) (by simp) ?_))
    intro v' w' ho hg
    go_wp2
    go_ret
    exact ⟨v', rfl, ho, HB.out.grown hg (by simp) (fun k hk => (HO.out.lt k hk).1)⟩
end Go.Proofs.Ytgdhbelcellabaa
