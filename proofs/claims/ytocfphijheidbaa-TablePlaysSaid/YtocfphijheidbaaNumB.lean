/- Contracts of package num's Crc (chapter 1), and of its document's answer, over this seat's translation. -/
import Derived.Test.YtocfphijheidbaaGet
namespace Go.Proofs.Ytocfphijheidbaa
open Go.RowKit

/-- One bit's step of the check sum. -/
def cStep (c : Nat) : Nat := if c % 2 = 1 then (c / 2) ^^^ 3988292384 else c / 2
def cSteps (c : Nat) : Nat → Nat
  | 0 => c
  | k + 1 => cStep (cSteps c k)
/-- One byte's. -/
def cByte (c b : Nat) : Nat := cSteps (c ^^^ b) 8
def cTo (s : ByteArray) : Nat → Nat
  | 0 => 4294967295
  | k + 1 => cByte (cTo s k) (byteAt s k)
def crcN (s : ByteArray) : Nat := 4294967295 ^^^ cTo s s.size

theorem xor_lt {a b : Nat} (ha : a < 4294967296) (hb : b < 4294967296) : a ^^^ b < 4294967296 := Nat.xor_lt_two_pow (n := 32) ha hb
theorem cStep_lt {c : Nat} (h : c < 4294967296) : cStep c < 4294967296 := by
  unfold cStep
  split
  · exact xor_lt (by omega) (by decide)
  · omega
theorem cSteps_lt {c : Nat} (h : c < 4294967296) (k : Nat) : cSteps c k < 4294967296 := by
  induction k with
  | zero => exact h
  | succ k ih => exact cStep_lt ih
theorem cTo_lt (s : ByteArray) (k : Nat) : cTo s k < 4294967296 := by
  induction k with
  | zero => simp [cTo]
  | succ k ih => exact cSteps_lt (xor_lt ih (by have := byteAt_lt s k; omega)) 8
theorem and1 {c : Nat} (h1 : c < 4294967296) : bits .and .u32 (c : Int) 1 = ((c % 2 : Nat) : Int) := by
  have := u32_and_nat c 1 h1 (by decide)
  rw [nat_mask1] at this
  exact this
theorem step0 {c : Nat} (h : c < 4294967296) (h2 : c % 2 = 0) : bits .xor .u32 ((c : Int) / 2) (bits .and .u32 3988292384 0) = ((cStep c : Nat) : Int) := by
  have e : bits .and .u32 3988292384 0 = ((0 : Nat) : Int) := by decide
  rw [e, show ((c : Int) / 2) = ((c / 2 : Nat) : Int) from rfl, u32_xor_nat _ _ (by omega) (by decide)]
  simp [cStep, h2]
theorem step1 {c : Nat} (h : c < 4294967296) (h2 : c % 2 = 1) : bits .xor .u32 ((c : Int) / 2) (bits .and .u32 3988292384 4294967295) = ((cStep c : Nat) : Int) := by
  have e : bits .and .u32 3988292384 4294967295 = ((3988292384 : Nat) : Int) := by decide
  rw [e, show ((c : Int) / 2) = ((c / 2 : Nat) : Int) from rfl, u32_xor_nat _ _ (by omega) (by decide)]
  simp [cStep, h2]
theorem step1' {c : Nat} (h : c < 4294967296) (h2 : c % 2 = 1) : bits .xor .u32 ((c : Int) / 2) 3988292384 = ((cStep c : Nat) : Int) := by
  rw [show (3988292384 : Int) = ((3988292384 : Nat) : Int) from rfl, show ((c : Int) / 2) = ((c / 2 : Nat) : Int) from rfl, u32_xor_nat _ _ (by omega) (by decide)]
  simp [cStep, h2]
theorem step0' {c : Nat} (h2 : c % 2 = 0) : ((c : Int) / 2) = ((cStep c : Nat) : Int) := by
  simp [cStep, h2]

end Go.Proofs.Ytocfphijheidbaa
