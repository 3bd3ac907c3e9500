/- Plain facts: texts laid one behind the other, each with its length ahead. -/
import Derived.Test.YtocfphijheidbaaStr
namespace Go.Proofs.Ytocfphijheidbaa
open Go.RowKit

theorem own_shape {w : World} {B n : Nat} {e : TypeId} {v : Value} {xs : List Value} (h : w.ownsRow B e 1 v n xs) : ∃ a c, v = .slice a n c := by
  rcases h.2 with ⟨rfl, rfl⟩ | ⟨g, cap, cur, rfl, _⟩
  · exact ⟨none, 0, rfl⟩
  · exact ⟨_, _, rfl⟩

def tx (l : List ByteArray) (k : Nat) : ByteArray := l.getD k ByteArray.empty
/-- The data of the first k texts. -/
def txtTo (l : List ByteArray) : Nat → List UInt8
  | 0 => []
  | k + 1 => txtTo l k ++ (UInt8.ofNat (tx l k).size :: (tx l k).data.toList)
def okTx (l : List ByteArray) : Nat → Bool
  | 0 => true
  | k + 1 => okTx l k && (decide ((tx l k).size ≤ 255) && decide ((txtTo l k).length + 1 + (tx l k).size ≤ 1000))
theorem txtTo_len (l : List ByteArray) (k : Nat) : (txtTo l (k + 1)).length = (txtTo l k).length + 1 + (tx l k).size := by
  simp [txtTo]
  omega
theorem okTx_le {l : List ByteArray} {k : Nat} (h : okTx l k = true) : (txtTo l k).length ≤ 1000 := by
  cases k with
  | zero => simp [txtTo]
  | succ k =>
    simp only [okTx, Bool.and_eq_true, decide_eq_true_eq] at h
    rw [txtTo_len]
    omega
theorem okTx_no {l : List ByteArray} {k n : Nat} (hk : k < n) (h : okTx l (k + 1) = false) : okTx l n = false := by
  induction n with
  | zero => omega
  | succ n ih =>
    by_cases e : k = n
    · subst e; exact h
    · simp only [okTx, ih (by omega), Bool.false_and]
theorem okTx_at {l : List ByteArray} {k n : Nat} (hk : k < n) (h : okTx l n = true) : (tx l k).size ≤ 255 := by
  cases h2 : okTx l (k + 1)
  · have := okTx_no hk h2
    rw [h] at this
    exact absurd this (by simp)
  · simp only [okTx, Bool.and_eq_true, decide_eq_true_eq] at h2
    omega
theorem txt_bc (l : List ByteArray) (k : Nat) (s : ByteArray) (hs : tx l k = s) (h : s.size ≤ 255) : bc (txtTo l k) ++ Value.int .u8 (s.size : Int) :: Lib.strCells s = bc (txtTo l (k + 1)) := by
  subst hs
  rw [txtTo, strCells_bc, bc_append]
  have e : ((UInt8.ofNat (tx l k).size).toNat : Int) = ((tx l k).size : Int) := by rw [UInt8.toNat_ofNat_of_lt' (by have : UInt8.size = 256 := rfl; omega)]
  simp only [bc, List.map_cons, e]

theorem txtTo_pre (l : List ByteArray) (k n : Nat) (h : k ≤ n) : ∃ r, txtTo l n = txtTo l k ++ r := by
  induction n with
  | zero =>
    have : k = 0 := by omega
    subst this
    exact ⟨[], by simp⟩
  | succ n ih =>
    by_cases e : k = n + 1
    · subst e; exact ⟨[], by simp⟩
    · obtain ⟨r, hr⟩ := ih (by omega)
      exact ⟨r ++ _, by rw [txtTo, hr, List.append_assoc]⟩
theorem txt_byte (l : List ByteArray) (k n : Nat) (h : k < n) (hs : (tx l k).size ≤ 255) : (txtTo l k).length < (bs (txtTo l n)).size ∧ byteAt (bs (txtTo l n)) (txtTo l k).length = (tx l k).size := by
  obtain ⟨r, hr⟩ := txtTo_pre l (k + 1) n h
  rw [txtTo, List.append_assoc] at hr
  constructor
  · rw [bs_size, hr]; simp
  · rw [byteAt_bs, hr, List.getD_eq_getElem?_getD, List.getElem?_append_right (Nat.le_refl _)]
    simp only [Nat.sub_self, List.cons_append, List.getElem?_cons_zero, Option.getD_some]
    exact UInt8.toNat_ofNat_of_lt' (by have : UInt8.size = 256 := rfl; omega)
end Go.Proofs.Ytocfphijheidbaa
