/- AuthOnly, plain: whatever is answered stands in the zone. -/
import Derived.Test.YtfopfplpfhncfaaGreatAGp
import Derived.Test.YtfopfplpfhncfaaGreatATw
namespace Go.Proofs.YtfopfplpfhncfaaGreat
open Go.RowKit

theorem cutI_find {S : List SetP} {P : Nat → ByteArray} : ∀ (r i : Nat) (acc : Option SetP) (x : SetP), cutI S P r i acc = some x → acc = some x ∨ ∃ j, i ≤ j ∧ j < i + r ∧ findK S ⟨P j, 2, 1⟩ = some x
  | 0, _, _, _, h => Or.inl h
  | r + 1, i, acc, x, h => by
    rw [cutI] at h
    rcases cutI_find r (i + 1) _ x h with h1 | ⟨j, h1, h2, h3⟩
    · cases hf : findK S ⟨P i, 2, 1⟩ with
      | none => rw [hf] at h1; exact Or.inl h1
      | some s =>
        rw [hf] at h1
        obtain rfl : s = x := Option.some.inj h1
        exact Or.inr ⟨i, Nat.le_refl _, by omega, hf⟩
    · exact Or.inr ⟨j, by omega, by omega, h3⟩
theorem cut_facts {S : List SetP} {apex n : ByteArray} {x : SetP} (hn : n.size ≤ 1000000) (h : cutP S apex n = some x) : x.k.t = 2 ∧ undS n x.k.n = true ∧ (x.k.n.toList == apex.toList) = false ∧ findK S x.k = some x := by
  obtain ⟨P, d, hp, he⟩ := cut_path S apex n hn
  rw [he] at h
  rcases cutI_find d 0 none x h with h1 | ⟨j, -, h2, h3⟩
  · cases h1
  · have hk := find_key h3
    rw [hk]
    exact ⟨rfl, hp.up j (by omega), (hp.mid j (by omega)).1, h3⟩
theorem soa_found {w : World} {z : Nat} {apex : ByteArray} {l : List R5} {S : List SetP} (h : ZOk w z apex l S) : ∃ s, soaL S apex = [s] ∧ findK S s.k = some s ∧ s.k.t = 6 := by
  obtain ⟨s0, d0, hs, -⟩ := soa_one h
  have hk := find_key hs
  exact ⟨s0, by rw [soaL, hs]; rfl, by rw [hk]; exact hs, by rw [hk]⟩
/-- The kinds of an answer, and what goes with each. -/
def OnlyP (S : List SetP) (apex qn : ByteArray) (qt : Int) (R : RepP) : Prop :=
  (∀ g ∈ R.an ++ R.ns ++ R.ar, findK S g.k = some g) ∧
  ((R.kind = 1 ∧ R.rc = 0 ∧ ∃ s, R.an = [s] ∧ s.k.n = qn ∧ s.k.t = qt) ∨
   (R.kind = 2 ∧ qt ≠ 5 ∧ R.ns = [] ∧ ∃ s, R.an = [s] ∧ s.k.n = qn ∧ s.k.t = 5) ∨
   (R.kind = 3 ∧ R.an = [] ∧ ∃ x, R.ns = [x] ∧ x.k.t = 2 ∧ undS qn x.k.n = true ∧ (x.k.n.toList == apex.toList) = false) ∨
   (R.kind = 4 ∧ R.rc = 3 ∧ R.an = [] ∧ thereP S qn = false ∧ ∃ x, R.ns = [x] ∧ x.k.t = 6) ∨
   (R.kind = 5 ∧ R.rc = 0 ∧ R.an = [] ∧ undS qn apex = true ∧ thereP S qn = true ∧ ∃ x, R.ns = [x] ∧ x.k.t = 6) ∨
   (R.kind = 6 ∧ R.rc = 5 ∧ R.an = [] ∧ R.ns = [] ∧ R.ar = []))
theorem glueL_found {S L : List SetP} : ∀ g ∈ glueL S L, findK S g.k = some g := fun _ hg => (glue_in hg).1
theorem onlyT {w : World} {z : Nat} {apex : ByteArray} {l : List R5} {S : List SetP} (h : ZOk w z apex l S) {qn : ByteArray} (hu : undS qn apex = true) (qt : Int) : OnlyP S apex qn qt (ansT S apex qn qt) := by
  have hK : OnlyP S apex qn qt (ansK S apex qn qt) := by
    cases hf : findK S ⟨qn, qt, 1⟩ with
    | some s =>
      have hk := find_key hf
      rw [ansK_yes hf]
      refine ⟨fun g hg => ?_, Or.inl ⟨rfl, rfl, s, rfl, by rw [hk], by rw [hk]⟩⟩
      rcases List.mem_append.1 hg with hg | hg
      · obtain rfl : g = s := by simpa using hg
        rw [hk]; exact hf
      · exact glueL_found g hg
    | none =>
      obtain ⟨x, hx, hxf, hx6⟩ := soa_found h
      rw [ansK_no hf]
      have hg : ∀ k r : Int, ∀ g ∈ (⟨k, r, [], soaL S apex, []⟩ : RepP).an ++ (⟨k, r, [], soaL S apex, []⟩ : RepP).ns ++ (⟨k, r, [], soaL S apex, []⟩ : RepP).ar, findK S g.k = some g := fun k r g hg => by
        obtain rfl : g = x := by simpa [hx] using hg
        exact hxf
      cases ht : thereP S qn with
      | true =>
        rw [if_pos rfl]
        exact ⟨hg 5 0, Or.inr (Or.inr (Or.inr (Or.inr (Or.inl ⟨rfl, rfl, rfl, hu, ht, x, hx, hx6⟩))))⟩
      | false =>
        rw [if_neg (by simp)]
        exact ⟨hg 4 3, Or.inr (Or.inr (Or.inr (Or.inl ⟨rfl, rfl, rfl, ht, x, hx, hx6⟩)))⟩
  cases h5 : findK S ⟨qn, 5, 1⟩ with
  | none => rw [ansT_k (Or.inl h5)]; exact hK
  | some s =>
    by_cases ht : qt = 5
    · rw [ansT_k (Or.inr ht)]; exact hK
    · have hk := find_key h5
      rw [ansT_alias h5 ht]
      refine ⟨fun g hg => ?_, Or.inr (Or.inl ⟨rfl, ht, rfl, s, rfl, by rw [hk], by rw [hk]⟩)⟩
      obtain rfl : g = s := by simpa using hg
      rw [hk]; exact h5
theorem onlyP {w : World} {z : Nat} {apex : ByteArray} {l : List R5} {S : List SetP} (h : ZOk w z apex l S) {qn : ByteArray} (hn : qn.size ≤ 1000000) (qt qc : Int) : OnlyP S apex qn qt (ansF S apex qn qt qc) := by
  cases hq : inQ apex qn qt qc with
  | false =>
    rw [ans_out hq]
    exact ⟨fun g hg => by simp at hg, Or.inr (Or.inr (Or.inr (Or.inr (Or.inr ⟨rfl, rfl, rfl, rfl, rfl⟩))))⟩
  | true =>
    have hu : undS qn apex = true := by
      rw [inQ, Bool.and_eq_true, Bool.and_eq_true] at hq
      exact hq.2.1
    cases hc : cutP S apex qn with
    | none => rw [ans_no hq hc]; exact onlyT h hu qt
    | some x =>
      by_cases hd : x.k.n = qn ∧ qt = 43
      · have e : ansF S apex qn qt qc = ansT S apex qn qt := by rw [ansF, if_neg (by rw [hq]; simp), hc]; exact if_pos hd
        rw [e]; exact onlyT h hu qt
      · obtain ⟨c1, c2, c3, c4⟩ := cut_facts hn hc
        rw [ans_cut hq hc hd]
        refine ⟨fun g hg => ?_, Or.inr (Or.inr (Or.inl ⟨rfl, rfl, x, rfl, c1, c2, c3⟩))⟩
        rcases List.mem_append.1 hg with hg | hg
        · obtain rfl : g = x := by simpa using hg
          exact c4
        · exact glueL_found g hg
end Go.Proofs.YtfopfplpfhncfaaGreat
