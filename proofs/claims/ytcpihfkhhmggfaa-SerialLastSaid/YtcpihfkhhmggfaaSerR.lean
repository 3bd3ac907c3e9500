/- Contracts of the document's answers of chapter 12 over this seat's translation. -/
import Derived.Test.YtcpihfkhhmggfaaSerL
namespace Go.Proofs.Ytcpihfkhhmggfaa
open Go.RowKit

theorem mask32 (n : Int) : bits .and .i64 n 4294967295 = n % 4294967296 := by
  have hm : (BitVec.ofInt 64 4294967295).toNat = 2 ^ 32 - 1 := by decide
  have key : (BitVec.ofInt 64 n &&& BitVec.ofInt 64 4294967295).toNat = (n % ((2 ^ 64 : Nat) : Int)).toNat % 2 ^ 32 := by
    rw [BitVec.toNat_and, BitVec.toNat_ofInt, hm, Nat.and_two_pow_sub_one_eq_mod]
  show IntKind.i64.wrap ((BitVec.ofInt 64 n &&& BitVec.ofInt 64 4294967295).toNat : Nat) = n % 4294967296
  rw [key, IntKind.wrap_i64]
  omega

theorem radd_any (a n : Int) (w : World) : Calls Try.prog 29 #[.int .i64 a, .int .i64 n] w fun e w' => e = .returned (.tuple #[.int .i64 (addN a n), .int .i64 (addE a n)]) ∧ w = w' := by
  by_cases ha : mayB a = true
  · obtain ⟨a0, a1⟩ := may_of ha
    go_enter Try.func29, Try.ntmps29
    go_wp2_with (first | (go_at_call 42; refine (rmay_any _ _).mono ?_; rintro e w' ⟨rfl, rfl⟩))
    all_goals (go_ret2; refine ⟨ret_ii ?_ ?_, rfl⟩ <;> simp only [addN, addE, ha, true_and, mask32] <;> split <;> omega)
  · have ha' : mayB a = false := by simpa using ha
    go_enter Try.func29, Try.ntmps29
    go_wp2_with (first | (go_at_call 42; refine (rmay_any _ _).mono ?_; rintro e w' ⟨rfl, rfl⟩))
    all_goals (go_ret2; refine ⟨ret_ii ?_ ?_, rfl⟩ <;> simp [addN, addE, ha'])

theorem rnewer_any (a b : Int) (w : World) : Calls Try.prog 33 #[.int .i64 a, .int .i64 b] w fun e w' => e = .returned (.bool (newerB a b)) ∧ w = w' := by
  by_cases ha : mayB a = true
  · by_cases hb : mayB b = true
    · obtain ⟨a0, a1⟩ := may_of ha
      obtain ⟨b0, b1⟩ := may_of hb
      have hc : newerB a b = decide (0 < (a - b) % 4294967296 ∧ (a - b) % 4294967296 < 2147483648) := by simp [newerB, ha, hb]
      rw [hc]
      clear hc
      have hM := Lib.hid (mask32 (a - b))
      obtain ⟨d, hd⟩ : ∃ d, bits .and .i64 (a - b) 4294967295 = d := ⟨_, rfl⟩
      go_enter Try.func33, Try.ntmps33
      go_wp2_with (first | (go_at_call 42; refine (rmay_any _ _).mono ?_; rintro e w' ⟨rfl, rfl⟩))
      all_goals (go_ret; refine ⟨ret_bool ?_, rfl⟩; have h1 := hM.out; rw [hd] at h1; rw [← h1, Bool.eq_iff_iff]; simp; try omega)
    · have hb' : mayB b = false := by simpa using hb
      have hc : newerB a b = false := by simp [newerB, hb']
      rw [hc]
      clear hc hb
      go_enter Try.func33, Try.ntmps33
      go_wp2_with (first | (go_at_call 42; refine (rmay_any _ _).mono ?_; rintro e w' ⟨rfl, rfl⟩))
      all_goals (go_ret; exact ⟨rfl, rfl⟩)
  · have ha' : mayB a = false := by simpa using ha
    have hc : newerB a b = false := by simp [newerB, ha']
    rw [hc]
    clear hc ha
    go_enter Try.func33, Try.ntmps33
    go_wp2_with (first | (go_at_call 42; refine (rmay_any _ _).mono ?_; rintro e w' ⟨rfl, rfl⟩))
    all_goals (go_ret; exact ⟨rfl, rfl⟩)

theorem rclip_any (n l m : Int) (w : World) : Calls Try.prog 35 #[.int .i64 n, .int .i64 l, .int .i64 m] w fun e w' => e = .returned (.int .i64 (clipI n l m)) ∧ w = w' := by
  go_enter Try.func35, Try.ntmps35
  go_wp2
  all_goals (go_ret; refine ⟨ret_int ?_, rfl⟩; simp only [clipI]; split <;> split <;> omega)

theorem rfresh_any (n s l : Int) (w : World) : Calls Try.prog 37 #[.int .i64 n, .int .i64 s, .int .i64 l] w fun e w' => e = .returned (.bool (freshB n s l)) ∧ w = w' := by
  go_enter Try.func37, Try.ntmps37
  go_wp2
  all_goals (go_ret; refine ⟨ret_bool ?_, rfl⟩; rw [Bool.eq_iff_iff]; simp [freshB]; try omega)
end Go.Proofs.Ytcpihfkhhmggfaa
