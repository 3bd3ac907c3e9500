/- Contracts of name.starts, name.label (chapter 2), over this seat's translation. -/
import Derived.Test.YtocfphijheidbaaLab
import Derived.Deep.MidRow
import Derived.Laws.ResultCell
namespace Go.Proofs.Ytocfphijheidbaa
open Go.RowKit

/-- An array of bytes in a block. -/
def ArrAt (w : World) (q : Nat) (f : Nat → Int) : Prop := ∀ j, j < 127 → w.cell? ⟨q, j, none⟩ = some (.int .u8 (f j)) ∧ w.frozen? ⟨q, j, none⟩ = false
def arrL (f : Nat → Int) : List Value := (List.range 127).map fun j => Value.int .u8 (f j)
theorem arrL_length (f : Nat → Int) : (arrL f).length = 127 := by simp [arrL]
theorem arrL_at (f : Nat → Int) (j : Nat) (v : Value) (h : (arrL f)[j]? = some v) : j < 127 ∧ v = .int .u8 (f j) := by
  have hj : j < 127 := by
    have := (List.getElem?_eq_some_iff.1 h).1
    rwa [arrL_length] at this
  refine ⟨hj, ?_⟩
  simp [arrL, hj] at h
  exact h.symm
theorem arrL_get (f : Nat → Int) (j : Nat) (h : j < 127) : (arrL f)[j]? = some (.int .u8 (f j)) := by simp [arrL, h]
theorem ArrAt.range {w : World} {q : Nat} {f : Nat → Int} (h : ArrAt w q f) : w.rangeAt q 0 (arrL f) := by
  intro j v hv
  obtain ⟨h1, rfl⟩ := arrL_at f j v hv
  rw [Nat.zero_add]
  exact (h j h1).1
theorem ArrAt.there {w : World} {q : Nat} {f : Nat → Int} (h : ArrAt w q f) : w.there q 0 127 := by
  intro j hj
  rw [Nat.zero_add, (h j hj).1, (h j hj).2]
  exact ⟨rfl, rfl⟩
theorem arr_one (f : Nat → Int) : (arrL f).toArray.all (·.oneCell') = true := by
  refine all_oneCell_toArray ?_
  intro v hv
  simp only [arrL, List.mem_map] at hv
  obtain ⟨_, _, rfl⟩ := hv
  rfl
theorem arr_stored {w : World} {q : Nat} {f g : Nat → Int} (h : ArrAt w q g) : ArrAt (w.setCells q 0 (arrL f)) q f := by
  have ht := h.there
  have h1 := World.rangeAt_setCells_same w q 0 (arrL f) (by rw [arrL_length]; exact ht)
  have h2 := World.there_setCells ht q 0 (arrL f)
  intro j hj
  have k1 := h1 j _ (arrL_get f j hj)
  have k2 := (h2 j hj).2
  rw [Nat.zero_add] at k1 k2
  exact ⟨k1, k2⟩
theorem ArrAt.below {w w' : World} {q : Nat} {f : Nat → Int} (h : ArrAt w q f) (hb : Below w.heap.size w w') : ArrAt w' q f := by
  intro j hj
  obtain ⟨h1, h2⟩ := h j hj
  have hlt : q < w.heap.size := block_lt_of_cell h1
  exact ⟨by rw [hb.cell hlt]; exact h1, by rw [hb.frozen hlt]; exact h2⟩
theorem ArrAt.set {w : World} {q : Nat} {f : Nat → Int} (h : ArrAt w q f) {k : Nat} (hk : k < 127) (v : Int) : ArrAt (w.setCell ⟨q, k, none⟩ (.int .u8 v)) q (fun j => if j = k then v else f j) := by
  intro j hj
  obtain ⟨h1, h2⟩ := h j hj
  refine ⟨?_, by simpa using h2⟩
  show _ = some (Value.int .u8 (if j = k then v else f j))
  by_cases e : j = k
  · subst e
    rw [if_pos rfl]
    exact World.cell?_setCell_same _ _ _ h1
  · rw [if_neg e, World.cell?_setCell_other _ _ _ _ (by simp)]
    exact h1
theorem ArrAt.other {w : World} {q : Nat} {f : Nat → Int} (h : ArrAt w q f) {p : Addr} (hk : p.block ≠ q) (v : Value) : ArrAt (w.setCell p v) q f := by
  intro j hj
  obtain ⟨h1, h2⟩ := h j hj
  refine ⟨?_, by simpa using h2⟩
  rw [World.cell?_setCell_other _ _ _ _ (by rintro rfl; exact hk rfl)]
  exact h1
theorem below_setCells {B : Nat} {w w' : World} (h : Below B w w') {b : Nat} (hb : B ≤ b) (o : Nat) (vs : List Value) : Below B w (w'.setCells b o vs) := by
  induction vs generalizing o w' with
  | nil => exact h
  | cons v vs ih => exact ih (h.setCell hb v) (o + 1)
/-- A whole array stored: a world. -/
theorem store_arr {w : World} {q : Nat} {g : Nat → Int} (h : ArrAt w q g) (f : Nat → Int) {B : Nat} {w0 : World} (hb : Below B w0 w) (hB : B ≤ q) :
    ∃ w2, (storeCells ⟨q, 0, none⟩ (arrL f)).run Try.prog w = .ok () w2 ∧ ArrAt w2 q f ∧ Below B w0 w2 := by
  refine ⟨w.setCells q 0 (arrL f), ?_, arr_stored h, below_setCells hb hB 0 (arrL f)⟩
  have h1 := run_storeCells_cells (P := Try.prog) q 0 (arrL f) 0 w ?_ ?_ ?_
  · simpa using h1
  · intro j hj
    rw [arrL_length] at hj
    simp only [Nat.zero_add, (h j hj).1]; rfl
  · intro j hj
    rw [arrL_length] at hj
    simp only [Nat.zero_add, (h j hj).2]
  · intro v hv
    simp only [arrL, List.mem_map] at hv
    obtain ⟨_, _, rfl⟩ := hv
    rfl

def stF (L : List ByteArray) (k j : Nat) : Int := if j < k then (off L j : Int) else 0
theorem stF_next (L : List ByteArray) (k : Nat) : (fun j => if j = k then (off L k : Int) else stF L k j) = stF L (k + 1) := by
  funext j
  unfold stF
  by_cases e : j = k
  · subst e; rw [if_pos rfl, if_pos (by omega)]
  · rw [if_neg e]
    by_cases h : j < k
    · rw [if_pos h, if_pos (by omega)]
    · rw [if_neg h, if_neg (by omega)]
theorem off_ge (L : List ByteArray) (hL : OkL L) (k : Nat) (hk : k ≤ L.length) : 2 * k ≤ off L k := by
  induction k with
  | zero => exact Nat.zero_le _
  | succ k ih =>
    have := ih (by omega)
    have := off_succ L k
    obtain ⟨g, _, _⟩ := hL k (by omega)
    omega

end Go.Proofs.Ytocfphijheidbaa
