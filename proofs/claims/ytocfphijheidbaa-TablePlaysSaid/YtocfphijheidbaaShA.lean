/- Turned words: contracts (chapter 8), over this seat's translation. -/
import Derived.Test.YtocfphijheidbaaMgW
namespace Go.Proofs.Ytocfphijheidbaa
open Go.RowKit

/-- A word turned right. -/
def rotr (x : Int) (k : Nat) : Int := bits .or .u64 (IntKind.u64.wrap (x * 2 ^ (64 - k))) (x / 2 ^ k)
theorem or_comm64 (a b : Int) : bits .or .u64 a b = bits .or .u64 b a := by
  simp only [bits, BitVec.or_comm]
theorem rot1 (x : Int) (w : World) : Calls Try.prog 106 #[.int .u64 x, .int .i64 (-1)] w fun e w' => e = .returned (.int .u64 (rotr x 1)) ∧ w = w' := by
  have h1 : IntKind.u64.wrap (-1) = 18446744073709551615 := by decide +kernel
  have h2 : bits .and .u64 18446744073709551615 63 = 63 := by decide +kernel
  go_enter Try.func106, Try.ntmps106
  go_wp2
  go_ret
  exact ⟨rfl, rfl⟩
theorem rot8 (x : Int) (w : World) : Calls Try.prog 106 #[.int .u64 x, .int .i64 (-8)] w fun e w' => e = .returned (.int .u64 (rotr x 8)) ∧ w = w' := by
  have h1 : IntKind.u64.wrap (-8) = 18446744073709551608 := by decide +kernel
  have h2 : bits .and .u64 18446744073709551608 63 = 56 := by decide +kernel
  go_enter Try.func106, Try.ntmps106
  go_wp2
  go_ret
  exact ⟨rfl, rfl⟩
theorem rot14 (x : Int) (w : World) : Calls Try.prog 106 #[.int .u64 x, .int .i64 (-14)] w fun e w' => e = .returned (.int .u64 (rotr x 14)) ∧ w = w' := by
  have h1 : IntKind.u64.wrap (-14) = 18446744073709551602 := by decide +kernel
  have h2 : bits .and .u64 18446744073709551602 63 = 50 := by decide +kernel
  go_enter Try.func106, Try.ntmps106
  go_wp2
  go_ret
  exact ⟨rfl, rfl⟩
theorem rot18 (x : Int) (w : World) : Calls Try.prog 106 #[.int .u64 x, .int .i64 (-18)] w fun e w' => e = .returned (.int .u64 (rotr x 18)) ∧ w = w' := by
  have h1 : IntKind.u64.wrap (-18) = 18446744073709551598 := by decide +kernel
  have h2 : bits .and .u64 18446744073709551598 63 = 46 := by decide +kernel
  go_enter Try.func106, Try.ntmps106
  go_wp2
  go_ret
  exact ⟨rfl, rfl⟩
theorem rot19 (x : Int) (w : World) : Calls Try.prog 106 #[.int .u64 x, .int .i64 (-19)] w fun e w' => e = .returned (.int .u64 (rotr x 19)) ∧ w = w' := by
  have h1 : IntKind.u64.wrap (-19) = 18446744073709551597 := by decide +kernel
  have h2 : bits .and .u64 18446744073709551597 63 = 45 := by decide +kernel
  go_enter Try.func106, Try.ntmps106
  go_wp2
  go_ret
  exact ⟨rfl, rfl⟩
theorem rot28 (x : Int) (w : World) : Calls Try.prog 106 #[.int .u64 x, .int .i64 (-28)] w fun e w' => e = .returned (.int .u64 (rotr x 28)) ∧ w = w' := by
  have h1 : IntKind.u64.wrap (-28) = 18446744073709551588 := by decide +kernel
  have h2 : bits .and .u64 18446744073709551588 63 = 36 := by decide +kernel
  go_enter Try.func106, Try.ntmps106
  go_wp2
  go_ret
  exact ⟨rfl, rfl⟩
theorem rot34 (x : Int) (w : World) : Calls Try.prog 106 #[.int .u64 x, .int .i64 (-34)] w fun e w' => e = .returned (.int .u64 (rotr x 34)) ∧ w = w' := by
  have h1 : IntKind.u64.wrap (-34) = 18446744073709551582 := by decide +kernel
  have h2 : bits .and .u64 18446744073709551582 63 = 30 := by decide +kernel
  go_enter Try.func106, Try.ntmps106
  go_wp2
  go_ret
  exact ⟨rfl, rfl⟩
theorem rot39 (x : Int) (w : World) : Calls Try.prog 106 #[.int .u64 x, .int .i64 (-39)] w fun e w' => e = .returned (.int .u64 (rotr x 39)) ∧ w = w' := by
  have h1 : IntKind.u64.wrap (-39) = 18446744073709551577 := by decide +kernel
  have h2 : bits .and .u64 18446744073709551577 63 = 25 := by decide +kernel
  go_enter Try.func106, Try.ntmps106
  go_wp2
  go_ret
  exact ⟨rfl, rfl⟩
theorem rot41 (x : Int) (w : World) : Calls Try.prog 106 #[.int .u64 x, .int .i64 (-41)] w fun e w' => e = .returned (.int .u64 (rotr x 41)) ∧ w = w' := by
  have h1 : IntKind.u64.wrap (-41) = 18446744073709551575 := by decide +kernel
  have h2 : bits .and .u64 18446744073709551575 63 = 23 := by decide +kernel
  go_enter Try.func106, Try.ntmps106
  go_wp2
  go_ret
  exact ⟨rfl, rfl⟩
theorem rot61 (x : Int) (w : World) : Calls Try.prog 106 #[.int .u64 x, .int .i64 (-61)] w fun e w' => e = .returned (.int .u64 (rotr x 61)) ∧ w = w' := by
  have h1 : IntKind.u64.wrap (-61) = 18446744073709551555 := by decide +kernel
  have h2 : bits .and .u64 18446744073709551555 63 = 3 := by decide +kernel
  go_enter Try.func106, Try.ntmps106
  go_wp2
  go_ret
  exact ⟨rfl, rfl⟩
theorem rrot1 (x : Int) (w : World) : Calls Try.prog 93 #[.int .u64 x, .int .u64 1] w fun e w' => e = .returned (.int .u64 (rotr x 1)) ∧ w = w' := by
  have HC := Lib.hid (or_comm64 (x / 2) (IntKind.u64.wrap (x * 9223372036854775808)))
  go_enter Try.func93, Try.ntmps93
  go_wp2
  go_ret
  exact ⟨congrArg (fun z => Ending.returned (.int .u64 z)) HC.out, rfl⟩
theorem rrot8 (x : Int) (w : World) : Calls Try.prog 93 #[.int .u64 x, .int .u64 8] w fun e w' => e = .returned (.int .u64 (rotr x 8)) ∧ w = w' := by
  have HC := Lib.hid (or_comm64 (x / 256) (IntKind.u64.wrap (x * 72057594037927936)))
  go_enter Try.func93, Try.ntmps93
  go_wp2
  go_ret
  exact ⟨congrArg (fun z => Ending.returned (.int .u64 z)) HC.out, rfl⟩
theorem rrot14 (x : Int) (w : World) : Calls Try.prog 93 #[.int .u64 x, .int .u64 14] w fun e w' => e = .returned (.int .u64 (rotr x 14)) ∧ w = w' := by
  have HC := Lib.hid (or_comm64 (x / 16384) (IntKind.u64.wrap (x * 1125899906842624)))
  go_enter Try.func93, Try.ntmps93
  go_wp2
  go_ret
  exact ⟨congrArg (fun z => Ending.returned (.int .u64 z)) HC.out, rfl⟩
theorem rrot18 (x : Int) (w : World) : Calls Try.prog 93 #[.int .u64 x, .int .u64 18] w fun e w' => e = .returned (.int .u64 (rotr x 18)) ∧ w = w' := by
  have HC := Lib.hid (or_comm64 (x / 262144) (IntKind.u64.wrap (x * 70368744177664)))
  go_enter Try.func93, Try.ntmps93
  go_wp2
  go_ret
  exact ⟨congrArg (fun z => Ending.returned (.int .u64 z)) HC.out, rfl⟩
theorem rrot19 (x : Int) (w : World) : Calls Try.prog 93 #[.int .u64 x, .int .u64 19] w fun e w' => e = .returned (.int .u64 (rotr x 19)) ∧ w = w' := by
  have HC := Lib.hid (or_comm64 (x / 524288) (IntKind.u64.wrap (x * 35184372088832)))
  go_enter Try.func93, Try.ntmps93
  go_wp2
  go_ret
  exact ⟨congrArg (fun z => Ending.returned (.int .u64 z)) HC.out, rfl⟩
theorem rrot28 (x : Int) (w : World) : Calls Try.prog 93 #[.int .u64 x, .int .u64 28] w fun e w' => e = .returned (.int .u64 (rotr x 28)) ∧ w = w' := by
  have HC := Lib.hid (or_comm64 (x / 268435456) (IntKind.u64.wrap (x * 68719476736)))
  go_enter Try.func93, Try.ntmps93
  go_wp2
  go_ret
  exact ⟨congrArg (fun z => Ending.returned (.int .u64 z)) HC.out, rfl⟩
theorem rrot34 (x : Int) (w : World) : Calls Try.prog 93 #[.int .u64 x, .int .u64 34] w fun e w' => e = .returned (.int .u64 (rotr x 34)) ∧ w = w' := by
  have HC := Lib.hid (or_comm64 (x / 17179869184) (IntKind.u64.wrap (x * 1073741824)))
  go_enter Try.func93, Try.ntmps93
  go_wp2
  go_ret
  exact ⟨congrArg (fun z => Ending.returned (.int .u64 z)) HC.out, rfl⟩
theorem rrot39 (x : Int) (w : World) : Calls Try.prog 93 #[.int .u64 x, .int .u64 39] w fun e w' => e = .returned (.int .u64 (rotr x 39)) ∧ w = w' := by
  have HC := Lib.hid (or_comm64 (x / 549755813888) (IntKind.u64.wrap (x * 33554432)))
  go_enter Try.func93, Try.ntmps93
  go_wp2
  go_ret
  exact ⟨congrArg (fun z => Ending.returned (.int .u64 z)) HC.out, rfl⟩
theorem rrot41 (x : Int) (w : World) : Calls Try.prog 93 #[.int .u64 x, .int .u64 41] w fun e w' => e = .returned (.int .u64 (rotr x 41)) ∧ w = w' := by
  have HC := Lib.hid (or_comm64 (x / 2199023255552) (IntKind.u64.wrap (x * 8388608)))
  go_enter Try.func93, Try.ntmps93
  go_wp2
  go_ret
  exact ⟨congrArg (fun z => Ending.returned (.int .u64 z)) HC.out, rfl⟩
theorem rrot61 (x : Int) (w : World) : Calls Try.prog 93 #[.int .u64 x, .int .u64 61] w fun e w' => e = .returned (.int .u64 (rotr x 61)) ∧ w = w' := by
  have HC := Lib.hid (or_comm64 (x / 2305843009213693952) (IntKind.u64.wrap (x * 8)))
  go_enter Try.func93, Try.ntmps93
  go_wp2
  go_ret
  exact ⟨congrArg (fun z => Ending.returned (.int .u64 z)) HC.out, rfl⟩
/-- A word turned in three ways, each laid over the others. -/
def turn3 (x : Int) (a b c : Nat) : Int := bits .xor .u64 (bits .xor .u64 (rotr x a) (rotr x b)) (rotr x c)
theorem turn14 (x : Int) (w : World) : Calls Try.prog 104 #[.int .u64 x, .int .i64 14, .int .i64 18, .int .i64 41] w fun e w' => e = .returned (.int .u64 (turn3 x 14 18 41)) ∧ w = w' := by
  go_enter Try.func104, Try.ntmps104
  go_wp2_with fail
  refine (rot14 _ _).mono ?_; rintro e w1 ⟨rfl, rfl⟩
  go_wp2_with fail
  refine (rot18 _ _).mono ?_; rintro e w1 ⟨rfl, rfl⟩
  go_wp2_with fail
  refine (rot41 _ _).mono ?_; rintro e w1 ⟨rfl, rfl⟩
  go_wp2
  go_ret
  exact ⟨rfl, rfl⟩
theorem turn28 (x : Int) (w : World) : Calls Try.prog 104 #[.int .u64 x, .int .i64 28, .int .i64 34, .int .i64 39] w fun e w' => e = .returned (.int .u64 (turn3 x 28 34 39)) ∧ w = w' := by
  go_enter Try.func104, Try.ntmps104
  go_wp2_with fail
  refine (rot28 _ _).mono ?_; rintro e w1 ⟨rfl, rfl⟩
  go_wp2_with fail
  refine (rot34 _ _).mono ?_; rintro e w1 ⟨rfl, rfl⟩
  go_wp2_with fail
  refine (rot39 _ _).mono ?_; rintro e w1 ⟨rfl, rfl⟩
  go_wp2
  go_ret
  exact ⟨rfl, rfl⟩
end Go.Proofs.Ytocfphijheidbaa
