/- Sets as records, grouped again: what the walk needs. -/
import Derived.Test.YtmhiglhgkgannaaCan
import Derived.Test.YtmhiglhgkgannaaFla
import Derived.Test.YtmhiglhgkgannaaMgE
import Derived.Test.YtmhiglhgkgannaaPlS
import Derived.Test.YtmhiglhgkgannaaFew4
import Derived.Test.YtmhiglhgkgannaaFs4
namespace Go.Proofs.Ytmhiglhgkgannaa
open Go.RowKit

theorem bytesLess_cmp : ∀ (x y : List UInt8), Op.bytesLess x y = decide (Lib.compareBytes x y < 0)
  | [], [] => by simp [Op.bytesLess, Lib.compareBytes]
  | [], b :: y => by simp [Op.bytesLess, Lib.compareBytes]
  | a :: x, [] => by simp [Op.bytesLess, Lib.compareBytes]
  | a :: x, b :: y => by
    rw [Op.bytesLess, bytesLess_cmp x y, Lib.compareBytes]
    by_cases h1 : a < b
    · simp [h1]
    · by_cases h2 : b < a
      · have h3 : ¬ a = b := fun e => by subst e; exact absurd h2 h1
        simp [h1, h2, h3]
      · have h3 : a = b := by
          rw [UInt8.lt_iff_toNat_lt] at h1 h2
          exact UInt8.toNat_inj.1 (by omega)
        subst h3
        simp [h1]
theorem less_of_cmp {x y : ByteArray} (h : cmpB x y < 0) : Op.bytesLess x.toList y.toList = true ∧ Op.bytesLess y.toList x.toList = false ∧ (y.toList == x.toList) = false ∧ (x.toList == y.toList) = false := by
  have h1 := ord_cmpB.anti x y
  have hne : ¬ x = y := fun e => by
    have := (ord_cmpB.zero x y).2 e
    omega
  refine ⟨?_, ?_, ?_, ?_⟩
  · rw [bytesLess_cmp, Lib.toList_data, Lib.toList_data]; exact dT h
  · rw [bytesLess_cmp, Lib.toList_data, Lib.toList_data]
    refine dF ?_
    show ¬ cmpB y x < 0
    omega
  · rw [beq_eq_false_iff_ne]; exact fun e => hne (toList_inj4 e).symm
  · rw [beq_eq_false_iff_ne]; exact fun e => hne (toList_inj4 e)
/-- What Group answers. -/
def Grp (l : List R5) (w : World) (e : Ending) (w' : World) : Prop := ∃ a c S, e = .returned (.slice a S.length c) ∧ Canon l S ∧ sumD S ≤ l.length ∧ S.length ≤ l.length ∧ SetsAt w' a S.length S ∧ Below w.heap.size w w'
theorem Canon.size {l : List R5} {S : List SetP} (h : Canon l S) {b1 b2 : Nat} (hk : ∀ r ∈ l, r.k.n.size ≤ b1) (hd : ∀ r ∈ l, r.d.size ≤ b2) {s : SetP} (hs : s ∈ S) : s.k.n.size ≤ b1 ∧ ∀ d ∈ s.data, d.size ≤ b2 := by
  constructor
  · obtain ⟨⟨r, hr, h1, _⟩, _⟩ := h.low s hs
    rw [← h1]; exact hk r hr
  · intro d hds
    obtain ⟨r, hr, _, h2⟩ := (h.mem s.k d).1 ⟨s, hs, rfl, hds⟩
    rw [← h2]; exact hd r hr
theorem data_le_sum : ∀ {S : List SetP} {s : SetP}, s ∈ S → s.data.length ≤ sumD S
  | [], _, h => by cases h
  | t :: S, s, h => by
    rw [sumD]
    rcases List.mem_cons.1 h with rfl | h
    · omega
    · have := data_le_sum h; omega
/-- What is found of a record's key. -/
theorem Canon.found {l : List R5} {S : List SetP} (h : Canon l S) {r : R5} (hr : r ∈ l) : ∃ s, findK S r.k = some s ∧ s ∈ S ∧ s.k = r.k ∧ r.d ∈ s.data ∧ s.ttl ≤ r.ttl := by
  obtain ⟨s, hs, hk, hd⟩ := (h.mem r.k r.d).2 ⟨r, hr, rfl, rfl⟩
  cases hf : findK S r.k with
  | none =>
    have h1 := List.find?_eq_none.1 hf s hs
    simp [hk] at h1
  | some t =>
    have h1 := List.find?_some hf
    have h2 := List.mem_of_find?_eq_some hf
    have hk2 : t.k = r.k := by simpa using h1
    have h3 := h.uniq hs h2 (hk.trans hk2.symm)
    subst h3
    exact ⟨s, rfl, hs, hk, hd, (h.low s hs).2 r hr hk.symm⟩
theorem rise_at {α : Type} {f : α → α → Int} {l : List α} (h : l.Pairwise (fun a b => f a b < 0)) {d : α} {k : Nat} (hk : k + 1 < l.length) : f (l.getD k d) (l.getD (k + 1) d) < 0 := by
  have h1 := (List.pairwise_iff_getElem.1 h) k (k + 1) (by omega) hk (by omega)
  rw [List.getD_eq_getElem?_getD, List.getD_eq_getElem?_getD, List.getElem?_eq_getElem (by omega), List.getElem?_eq_getElem hk]
  exact h1
end Go.Proofs.Ytmhiglhgkgannaa
