/- The document's roots and primes, plain. -/
import Derived.Test.YtocfphijheidbaaShF
import Derived.Laws.BitsAllLaws
namespace Go.Proofs.Ytocfphijheidbaa
open Go.RowKit

def upd (f : Nat → Int) (i : Nat) (v : Int) : Nat → Int := fun j => if j = i then v else f j
/-- The product's digits and what is carried, behind so many steps of a row. -/
def mulI (a b : Nat → Int) (i : Nat) (out : Nat → Int) : Nat → (Nat → Int) × Int
  | 0 => (out, 0)
  | k + 1 =>
    let r := mulI a b i out k
    let x := (a i * b k + r.1 (i + k) + r.2) % 18446744073709551616
    (upd r.1 (i + k) (x % 4294967296), x / 4294967296)
def mulO (a b : Nat → Int) (lb : Nat) : Nat → (Nat → Int)
  | 0 => fun _ => 0
  | i + 1 =>
    let r := mulI a b i (mulO a b lb i) lb
    upd r.1 (i + lb) ((r.1 (i + lb) + r.2) % 18446744073709551616)
/-- The greatest digits, and whether one of the others is not 0; behind so many of n digits. -/
def abV (f : Nat → Int) (n h : Nat) : Nat → Int × Bool
  | 0 => (0, false)
  | t + 1 =>
    let r := abV f n h t
    let i := n - 1 - t
    if h ≤ i then (min (bits .or .u64 (r.1 * 4294967296 % 18446744073709551616) (f i)) 2147483648, r.2) else (r.1, r.2 || f i != 0)
def abB (f : Nat → Int) (n : Nat) (p : Int) (k : Nat) : Bool :=
  let r := abV f n (2 * k) n
  decide (p < r.1) || (r.1 == p && r.2)
def powF (k : Nat) (x : Nat → Int) : Nat → Int := if k = 3 then mulO (mulO x x 3 3) x 3 7 else mulO x x 3 3
def rootX (p : Int) (k : Nat) : Nat → (Nat → Int)
  | 0 => fun _ => 0
  | t + 1 =>
    let x := rootX p k t
    let b := 66 - t
    let y := upd x (b / 32) (bits .or .u64 (x (b / 32)) (2 ^ (b % 32)))
    if abB (powF k y) (if k = 3 then 11 else 7) p k = true then upd y (b / 32) (bits .xor .u64 (y (b / 32)) (2 ^ (b % 32))) else y
def rootF (p : Int) (k : Nat) : Int := bits .or .u64 (IntKind.u64.wrap (rootX p k 67 1 * 4294967296)) (rootX p k 67 0)
theorem and_low (X : Int) (h0 : 0 ≤ X) (h1 : X < 18446744073709551616) : bits .and .u64 X 4294967295 = X % 4294967296 := by
  obtain ⟨n, rfl⟩ : ∃ n : Nat, X = (n : Int) := ⟨X.toNat, by omega⟩
  have h := u64_and_nat n 4294967295 (by omega) (by omega)
  have h2 : n &&& 4294967295 = n % 4294967296 := Nat.and_two_pow_sub_one_eq_mod n 32
  rw [h2] at h
  show bits .and .u64 (n : Int) ((4294967295 : Nat) : Int) = _
  rw [h]
  omega
theorem mul_wrap (a b o c : Int) : IntKind.u64.wrap (IntKind.u64.wrap (IntKind.u64.wrap (a * b) + o) + c) = (a * b + o + c) % 18446744073709551616 := by
  simp only [IntKind.wrap_u64]
  generalize a * b = y
  omega
end Go.Proofs.Ytocfphijheidbaa
