/- Sets as records, grouped again: what the walk needs. -/
import Derived.Test.YthfnphcefkdgbaaCan
import Derived.Test.YthfnphcefkdgbaaMgK
import Derived.Test.YthfnphcefkdgbaaMgE
import Derived.Test.YthfnphcefkdgbaaPlS
import Derived.Test.YthfnphcefkdgbaaFew4
import Derived.Test.YthfnphcefkdgbaaFs4
namespace Go.Proofs.Ythfnphcefkdgbaa
open Go.RowKit

theorem bytesLess_cmp : ∀ (x y : List UInt8), Op.bytesLess x y = decide (Lib.compareBytes x y < 0)
  | [], [] => by simp [Op.bytesLess, Lib.compareBytes]
  | [], b :: y => by simp [Op.bytesLess, Lib.compareBytes]
  | a :: x, [] => by simp [Op.bytesLess, Lib.compareBytes]
  | a :: x, b :: y => by
    rw [Op.bytesLess, bytesLess_cmp x y, Lib.compareBytes]
    by_cases h1 : a < b
    · simp [h1]
    · by_cases h2 : b < a
      · have h3 : ¬ a = b := fun e => by subst e; exact absurd h2 h1
        simp [h1, h2, h3]
      · have h3 : a = b := by
          rw [UInt8.lt_iff_toNat_lt] at h1 h2
          exact UInt8.toNat_inj.1 (by omega)
        subst h3
        simp [h1]
theorem less_of_cmp {x y : ByteArray} (h : cmpB x y < 0) : Op.bytesLess x.toList y.toList = true ∧ Op.bytesLess y.toList x.toList = false ∧ (y.toList == x.toList) = false ∧ (x.toList == y.toList) = false := by
  have h1 := ord_cmpB.anti x y
  have hne : ¬ x = y := fun e => by
    have := (ord_cmpB.zero x y).2 e
    omega
  refine ⟨?_, ?_, ?_, ?_⟩
  · rw [bytesLess_cmp, Lib.toList_data, Lib.toList_data]; exact dT h
  · rw [bytesLess_cmp, Lib.toList_data, Lib.toList_data]
    refine dF ?_
    show ¬ cmpB y x < 0
    omega
  · rw [beq_eq_false_iff_ne]; exact fun e => hne (toList_inj4 e).symm
  · rw [beq_eq_false_iff_ne]; exact fun e => hne (toList_inj4 e)
theorem OwnSets.data {w : World} {B : Nat} {v : Value} {L : List (SetP × Value)} (h : OwnSets w B v L) : ∀ p ∈ L, DataAt w p := fun p hp => by
  obtain ⟨a, c, h1, h2, h3⟩ := rowS_of_own (h.2.1 p hp)
  exact ⟨a, c, h1, h2, h3⟩
theorem OwnSets.at {w : World} {B : Nat} {v : Value} {L : List (SetP × Value)} (h : OwnSets w B v L) : ∃ a c, v = .slice a L.length c ∧ SetsAt w a L.length (L.map Prod.fst) ∧ (a = none → L.length = 0 ∧ c = 0) := setsAt_own h.1 h.data
/-- What Group answers. -/
def Grp (l : List R5) (w : World) (e : Ending) (w' : World) : Prop := ∃ a c S, e = .returned (.slice a S.length c) ∧ Canon l S ∧ sumD S ≤ l.length ∧ S.length ≤ l.length ∧ SetsAt w' a S.length S ∧ Below w.heap.size w w'
theorem group_any (a : Option Addr) (n c : Nat) (l : List R5) (w : World) (h : RowR w a n l) (hn : a = none → n = 0 ∧ c = 0) (hlen : n ≤ 100000) (hl : ∀ r ∈ l, r.k.n.size ≤ 1000000) :
    Calls Try.prog 116 #[.slice a n c] w fun e w' => Grp l w e w' := by
  refine (groupLoop a n c l w h hn hlen hl).mono ?_
  rintro e w' ⟨v, l', L, rfl, hp, hs, hos, hL, hb⟩
  obtain ⟨a', c', hv, hsa, _⟩ := hos.at
  have hc : Canon l (L.map Prod.fst) := by rw [hL]; exact canon_group hp hs h.1
  have hsum : sumD (L.map Prod.fst) ≤ l.length := by rw [hL, h.1]; exact grpK_sum l' n
  have hlen2 : L.length ≤ l.length := by
    have h1 := grpK_len l' n
    rw [← hL, List.length_map] at h1
    rw [h.1]; exact h1
  have e9 : (L.map Prod.fst).length = L.length := List.length_map ..
  refine ⟨a', c', L.map Prod.fst, by rw [e9, hv], hc, hsum, by omega, by rw [e9]; exact hsa, hb⟩
theorem Canon.size {l : List R5} {S : List SetP} (h : Canon l S) {b1 b2 : Nat} (hk : ∀ r ∈ l, r.k.n.size ≤ b1) (hd : ∀ r ∈ l, r.d.size ≤ b2) {s : SetP} (hs : s ∈ S) : s.k.n.size ≤ b1 ∧ ∀ d ∈ s.data, d.size ≤ b2 := by
  constructor
  · obtain ⟨⟨r, hr, h1, _⟩, _⟩ := h.low s hs
    rw [← h1]; exact hk r hr
  · intro d hds
    obtain ⟨r, hr, _, h2⟩ := (h.mem s.k d).1 ⟨s, hs, rfl, hds⟩
    rw [← h2]; exact hd r hr
theorem data_le_sum : ∀ {S : List SetP} {s : SetP}, s ∈ S → s.data.length ≤ sumD S
  | [], _, h => by cases h
  | t :: S, s, h => by
    rw [sumD]
    rcases List.mem_cons.1 h with rfl | h
    · omega
    · have := data_le_sum h; omega
/-- What is found of a record's key. -/
theorem Canon.found {l : List R5} {S : List SetP} (h : Canon l S) {r : R5} (hr : r ∈ l) : ∃ s, findK S r.k = some s ∧ s ∈ S ∧ s.k = r.k ∧ r.d ∈ s.data ∧ s.ttl ≤ r.ttl := by
  obtain ⟨s, hs, hk, hd⟩ := (h.mem r.k r.d).2 ⟨r, hr, rfl, rfl⟩
  cases hf : findK S r.k with
  | none =>
    have h1 := List.find?_eq_none.1 hf s hs
    simp [hk] at h1
  | some t =>
    have h1 := List.find?_some hf
    have h2 := List.mem_of_find?_eq_some hf
    have hk2 : t.k = r.k := by simpa using h1
    have h3 := h.uniq hs h2 (hk.trans hk2.symm)
    subst h3
    exact ⟨s, rfl, hs, hk, hd, (h.low s hs).2 r hr hk.symm⟩
theorem rise_at {α : Type} {f : α → α → Int} {l : List α} (h : l.Pairwise (fun a b => f a b < 0)) {d : α} {k : Nat} (hk : k + 1 < l.length) : f (l.getD k d) (l.getD (k + 1) d) < 0 := by
  have h1 := (List.pairwise_iff_getElem.1 h) k (k + 1) (by omega) hk (by omega)
  rw [List.getD_eq_getElem?_getD, List.getD_eq_getElem?_getD, List.getElem?_eq_getElem (by omega), List.getElem?_eq_getElem hk]
  exact h1
end Go.Proofs.Ythfnphcefkdgbaa
