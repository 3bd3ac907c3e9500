/- Contracts of package num's Get (chapter 1), and of its document's answers, over this seat's translation. -/
import Derived.Test.YtocfphijheidbaaNum
namespace Go.Proofs.Ytocfphijheidbaa
open Go.RowKit

theorem wraps_i64R (n : Int) (h₀ : 0 ≤ n) (h₁ : n < 2 ^ 62) : IntKind.i64.wrap n = n := by rw [IntKind.wrap_i64]; omega
theorem or_join (n c : Int) (h0 : 0 ≤ n) (h1 : n < 1099511627776) (h2 : 0 ≤ c) (h3 : c < 256) : bits .or .i64 (n * 256) c = n * 256 + c :=
  bits_join .i64 62 (by decide) wraps_i64R 8 _ _ (by omega) (by omega) (by omega) h2 (by omega) (by omega)

/-- The number of the first k bytes from a place. -/
def getTo (s : ByteArray) (A : Nat) : Nat → Int
  | 0 => 0
  | k + 1 => getTo s A k * 256 + byteAt s (A + k)
theorem getTo_bd (s : ByteArray) (A k : Nat) : 0 ≤ getTo s A k ∧ getTo s A k < 256 ^ k := by
  induction k with
  | zero => simp [getTo]
  | succ k ih =>
    have := byteAt_lt s (A + k)
    simp only [getTo]
    rw [Int.pow_succ]
    omega
theorem getTo_bd40 (s : ByteArray) (A k : Nat) (hk : k < 6) : 0 ≤ getTo s A k ∧ getTo s A k < 1099511627776 := by
  have h := getTo_bd s A k
  rcases (by omega : k = 0 ∨ k = 1 ∨ k = 2 ∨ k = 3 ∨ k = 4 ∨ k = 5) with rfl | rfl | rfl | rfl | rfl | rfl <;> simp at h <;> omega

def getN (s : ByteArray) (A W : Int) : Int := if 1 ≤ W ∧ W ≤ 6 ∧ 0 ≤ A ∧ A + W ≤ (s.size : Int) then getTo s A.toNat W.toNat else 0
def getE (s : ByteArray) (A W : Int) : Int := if 1 ≤ W ∧ W ≤ 6 ∧ 0 ≤ A ∧ A ≤ (s.size : Int) then (if A + W ≤ (s.size : Int) then 0 else 2) else 1

end Go.Proofs.Ytocfphijheidbaa
