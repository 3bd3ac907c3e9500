/- Contracts of name.Labels, and of the document's (chapter 2), over this seat's translation. -/
import Derived.Test.YtocfphijheidbaaStA
import Derived.Test.YtocfphijheidbaaMayN
import Derived.OwnWalk
import Derived.Outline
namespace Go.Proofs.Ytocfphijheidbaa
open Go.RowKit

/-- Texts as cells. -/
def sc (l : List ByteArray) : List Value := l.map Value.string
theorem sc_oneCell (l : List ByteArray) : ∀ u ∈ sc l, u.oneCell' = true := by
  intro u hu
  simp only [sc, List.mem_map] at hu
  obtain ⟨_, _, rfl⟩ := hu
  rfl
theorem sc_append (l m : List ByteArray) : sc (l ++ m) = sc l ++ sc m := by simp [sc]
theorem infoStr : (Try.prog.info? 9).map (fun i => (i.zero, i.size, i.bytes)) = some (some (.string ⟨#[]⟩), 1, 16) := by kernel_rfl
theorem rowS_of_own {w : World} {B n : Nat} {v : Value} {l : List ByteArray} (h : w.ownsRow B 9 1 v n (sc l)) : ∃ a c, v = .slice a n c ∧ RowS w a n l ∧ (a = none → n = 0 ∧ c = 0) := by
  have hl : l.length = n := by have := h.1; simp only [sc, List.length_map, Nat.mul_one] at this; exact this
  rcases h.2 with ⟨rfl, rfl⟩ | ⟨g, cap, cur, rfl, hb, hg, rest⟩
  · exact ⟨none, 0, rfl, ⟨hl, Or.inl rfl⟩, fun _ => ⟨rfl, rfl⟩⟩
  · refine ⟨_, _, rfl, ⟨hl, Or.inr ⟨g, 0, rfl, (Array.getElem?_eq_some_iff.1 hg).1, fun j hj => ?_⟩⟩, fun h => by cases h⟩
    rw [Nat.zero_add, h.cellAt j (by omega)]
    simp [sc, show j < l.length by omega]
theorem one_str (s : ByteArray) : ∀ u ∈ [Value.string s], u.oneCell' = true := by
  intro u hu
  simp only [List.mem_cons, List.not_mem_nil, or_false] at hu
  subst hu
  rfl
theorem below_appendS {w wr w' : World} {v : Value} {B n : Nat} {xs : List Value} {o : Obj} (hb : Below B w wr) (hB : B ≤ wr.heap.size) (hown : wr.ownsRow B 9 1 v n xs) (hg : (wr.alloc o).grownBy w' v.ownBlock) : Below B w w' :=
  (hb.alloc hB o).grown hg (by simp; omega) (fun k hk => (hown.lt k hk).1)
/-- Some labels laid, the others not yet. -/
def halfL (L : List ByteArray) (k : Nat) : List Value := sc (L.take k) ++ List.replicate (L.length - k) (.string ⟨#[]⟩)
theorem halfL_next (L : List ByteArray) (k : Nat) (hk : k < L.length) : (halfL L k).set k (.string (tx L k)) = halfL L (k + 1) := by
  have e1 : (sc (L.take k)).length = k := by simp [sc]; omega
  rw [halfL, List.set_append_right _ _ (by omega), e1, Nat.sub_self, show L.length - k = (L.length - (k + 1)) + 1 by omega, List.replicate_succ, List.set_cons_zero, halfL, List.take_succ_eq_append_getElem hk, sc_append]
  simp [sc, tx, List.getD_eq_getElem?_getD, List.getElem?_eq_getElem hk]
theorem halfL_at (L : List ByteArray) (k : Nat) (hk : k < L.length) : (halfL L k)[k]? = some (.string ⟨#[]⟩) := by
  have e1 : (sc (L.take k)).length = k := by simp [sc]; omega
  rw [halfL, List.getElem?_append_right (by omega), e1, Nat.sub_self, show L.length - k = (L.length - (k + 1)) + 1 by omega, List.replicate_succ]
  rfl
theorem halfL_end (L : List ByteArray) : halfL L L.length = sc L := by simp [halfL]

end Go.Proofs.Ytocfphijheidbaa
