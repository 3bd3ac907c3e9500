/- The digest's plain side: turns, blocks, what ends a message. -/
import Derived.Test.YtocfphijheidbaaShC
import Derived.Test.YtocfphijheidbaaMgW
namespace Go.Proofs.Ytocfphijheidbaa
open Go.RowKit

def cmp64 (x : Int) : Int := bits .xor .u64 IntKind.u64.max x
def chS (a b c : Int) : Int := bits .xor .u64 (bits .and .u64 a b) (bits .and .u64 (cmp64 a) c)
def maS (a b c : Int) : Int := bits .xor .u64 (bits .xor .u64 (bits .and .u64 a b) (bits .and .u64 a c)) (bits .and .u64 b c)
def tA (v : Nat → Int) (k w : Int) : Int := IntKind.u64.wrap (IntKind.u64.wrap (IntKind.u64.wrap (IntKind.u64.wrap (v 7 + turn3 (v 4) 14 18 41) + chS (v 4) (v 5) (v 6)) + k) + w)
def stpF (v : Nat → Int) (k w : Int) : Nat → Int := fun j => if j = 0 then IntKind.u64.wrap (IntKind.u64.wrap (tA v k w + turn3 (v 0) 28 34 39) + maS (v 0) (v 1) (v 2)) else if j = 4 then IntKind.u64.wrap (v 3 + tA v k w) else v (j - 1)
/-- The words behind so many turns. -/
def rnd (h w : Nat → Int) : Nat → (Nat → Int)
  | 0 => h
  | t + 1 => stpF (rnd h w t) (kayF t) (w t)
/-- A block mixed in. -/
def mixF (h b : Nat → Int) : Nat → Int := fun j => IntKind.u64.wrap (h j + rnd h (sch2 b 64) 80 j)
/-- The bytes of the k-th block. -/
def blk (l : List UInt8) (k j : Nat) : Int := ((l.getD (128 * k + j) 0).toNat : Int)
/-- The words behind so many blocks. -/
def hsh (l : List UInt8) : Nat → (Nat → Int)
  | 0 => iniF
  | k + 1 => mixF (hsh l k) (blk l k)
theorem sch1_congr {b c : Nat → Int} (h : ∀ j, j < 128 → b j = c j) : ∀ k, k ≤ 128 → sch1 b k = sch1 c k
  | 0, _ => rfl
  | k + 1, hk => by
    have ih := sch1_congr h k (by omega)
    funext j
    simp only [sch1]
    rw [ih, h k (by omega)]
theorem sch2_congr {b c : Nat → Int} (h : ∀ j, j < 128 → b j = c j) : ∀ m, sch2 b m = sch2 c m
  | 0 => by simp only [sch2]; exact sch1_congr h 128 (Nat.le_refl _)
  | m + 1 => by
    have ih := sch2_congr h m
    funext j
    simp only [sch2]
    rw [ih]
theorem mixF_congr {g b c : Nat → Int} (h : ∀ j, j < 128 → b j = c j) : mixF g b = mixF g c := by
  funext j
  simp only [mixF, sch2_congr h]
theorem blk_app {l m : List UInt8} {k j : Nat} (h : 128 * k + j < l.length) : blk (l ++ m) k j = blk l k j := by
  simp only [blk, List.getD_eq_getElem?_getD, List.getElem?_append_left h]
theorem hsh_app (l m : List UInt8) : ∀ k, 128 * k ≤ l.length → hsh (l ++ m) k = hsh l k
  | 0, _ => rfl
  | k + 1, hk => by
    simp only [hsh]
    rw [hsh_app l m k (by omega)]
    exact mixF_congr fun j hj => blk_app (by omega)
theorem wrap_rng (x : Int) : 0 ≤ IntKind.u64.wrap x ∧ IntKind.u64.wrap x < 18446744073709551616 := by
  rw [IntKind.wrap_u64]; omega
/-- How many 0 follow the bit 1. -/
def padN (n : Nat) : Nat := (111 + 128 - n % 128) % 128
theorem pad_end (n k : Nat) (hk : k ≤ padN n) : (n + (1 + k) + 16) % 128 = 0 ↔ k = padN n := by
  unfold padN at *
  omega
/-- What ends a message of n bytes. -/
def endL (n : Nat) : List UInt8 := (0x80 : UInt8) :: (List.replicate (padN n + 10) 0 ++ (List.range 6).map fun i => by8 ((8 * (n : Int)) / 2 ^ (8 * (5 - i))))
theorem endL_length (n : Nat) : (endL n).length = padN n + 17 := by simp [endL]
/-- All the blocks of a message. -/
def whole (l : List UInt8) : List UInt8 := l ++ endL l.length
theorem whole_length (l : List UInt8) : (whole l).length % 128 = 0 := by
  simp only [whole, List.length_append, endL_length, padN]
  omega
def words (h : Nat → Int) (k : Nat) : List UInt8 := (List.range k).map fun i => by8 (h (i / 8) / 2 ^ (56 - 8 * (i % 8)))
/-- A list's digest. -/
def shaL (l : List UInt8) : List UInt8 := words (hsh (whole l) ((whole l).length / 128)) 48
theorem words_length (h : Nat → Int) (k : Nat) : (words h k).length = k := by simp [words]
theorem shaL_length (l : List UInt8) : (shaL l).length = 48 := words_length _ _
theorem words_succ (h : Nat → Int) (k : Nat) : words h (k + 1) = words h k ++ [by8 (h (k / 8) / 2 ^ (56 - 8 * (k % 8)))] := by simp [words, List.range_succ]
end Go.Proofs.Ytocfphijheidbaa
