/- Contracts of package serial's functions (chapter 12), and of its document's answers, over this seat's translation. -/
import Derived.Test.YtcpihfkhhmggfaaBase
namespace Go.Proofs.Ytcpihfkhhmggfaa
open Go.RowKit

def mayB (n : Int) : Bool := decide (0 ≤ n ∧ n < 4294967296)

theorem may_yes (n : Int) (w : World) (h0 : 0 ≤ n) (h1 : n < 4294967296) : Calls Try.prog 41 #[.int .i64 n] w fun e w' => e = .returned (.bool true) ∧ w = w' := by
  go_enter Try.func41, Try.ntmps41
  go_wp2
  go_ret
  exact ⟨rfl, rfl⟩

theorem may_any (n : Int) (w : World) : Calls Try.prog 41 #[.int .i64 n] w fun e w' => e = .returned (.bool (mayB n)) ∧ w = w' := by
  go_enter Try.func41, Try.ntmps41
  go_wp2
  all_goals (go_ret; refine ⟨ret_bool ?_, rfl⟩; simp [mayB]; try omega)

theorem rmay_any (n : Int) (w : World) : Calls Try.prog 42 #[.int .i64 n] w fun e w' => e = .returned (.bool (mayB n)) ∧ w = w' := by
  go_enter Try.func42, Try.ntmps42
  go_wp2
  all_goals (go_ret; refine ⟨ret_bool ?_, rfl⟩; simp [mayB]; try omega)

def newerB (a b : Int) : Bool := mayB a && mayB b && decide (0 < (a - b) % 4294967296 ∧ (a - b) % 4294967296 < 2147483648)

theorem may_of {n : Int} (h : mayB n = true) : 0 ≤ n ∧ n < 4294967296 := by simpa [mayB] using h

theorem newer_any (a b : Int) (w : World) : Calls Try.prog 32 #[.int .i64 a, .int .i64 b] w fun e w' => e = .returned (.bool (newerB a b)) ∧ w = w' := by
  by_cases ha : mayB a = true
  · by_cases hb : mayB b = true
    · obtain ⟨a0, a1⟩ := may_of ha
      obtain ⟨b0, b1⟩ := may_of hb
      have hc : newerB a b = decide (0 < (a - b) % 4294967296 ∧ (a - b) % 4294967296 < 2147483648) := by simp [newerB, ha, hb]
      rw [hc]
      clear hc ha hb
      go_enter Try.func32, Try.ntmps32
      go_wp2_with (first | (go_at_call 41; refine (may_yes _ _ (by omega) (by omega)).mono ?_; rintro e w' ⟨rfl, rfl⟩))
      all_goals (go_ret; refine ⟨ret_bool ?_, rfl⟩; simp; try omega)
    · have hb' : mayB b = false := by simpa using hb
      have hc : newerB a b = false := by simp [newerB, hb']
      rw [hc]
      clear hc hb
      go_enter Try.func32, Try.ntmps32
      go_wp2_with (first | (go_at_call 41; refine (may_any _ _).mono ?_; rintro e w' ⟨rfl, rfl⟩))
      all_goals (go_ret; exact ⟨rfl, rfl⟩)
  · have ha' : mayB a = false := by simpa using ha
    have hc : newerB a b = false := by simp [newerB, ha']
    rw [hc]
    clear hc ha
    go_enter Try.func32, Try.ntmps32
    go_wp2_with (first | (go_at_call 41; refine (may_any _ _).mono ?_; rintro e w' ⟨rfl, rfl⟩))
    all_goals (go_ret; exact ⟨rfl, rfl⟩)

def clipI (n l m : Int) : Int := if (if n < l then l else n) < m then (if n < l then l else n) else m

theorem clip_any (n l m : Int) (w : World) : Calls Try.prog 34 #[.int .i64 n, .int .i64 l, .int .i64 m] w fun e w' => e = .returned (.int .i64 (clipI n l m)) ∧ w = w' := by
  go_enter Try.func34, Try.ntmps34
  go_wp2
  all_goals (go_ret; refine ⟨ret_int ?_, rfl⟩; simp only [clipI]; split <;> split <;> omega)

def addN (a n : Int) : Int := if mayB a = true ∧ 0 ≤ n ∧ n < 2147483648 then (a + n) % 4294967296 else 0
def addE (a n : Int) : Int := if mayB a = true ∧ 0 ≤ n ∧ n < 2147483648 then 0 else 1

theorem add_any (a n : Int) (w : World) : Calls Try.prog 28 #[.int .i64 a, .int .i64 n] w fun e w' => e = .returned (.tuple #[.int .i64 (addN a n), .int .i64 (addE a n)]) ∧ w = w' := by
  by_cases ha : mayB a = true
  · obtain ⟨a0, a1⟩ := may_of ha
    go_enter Try.func28, Try.ntmps28
    go_wp2_with (first | (go_at_call 41; refine (may_any _ _).mono ?_; rintro e w' ⟨rfl, rfl⟩))
    all_goals (go_ret2; refine ⟨ret_ii ?_ ?_, rfl⟩ <;> simp only [addN, addE, ha, true_and] <;> split <;> omega)
  · have ha' : mayB a = false := by simpa using ha
    go_enter Try.func28, Try.ntmps28
    go_wp2_with (first | (go_at_call 41; refine (may_any _ _).mono ?_; rintro e w' ⟨rfl, rfl⟩))
    all_goals (go_ret2; refine ⟨ret_ii ?_ ?_, rfl⟩ <;> simp [addN, addE, ha'])

def freshB (n s l : Int) : Bool := decide (0 ≤ n ∧ n ≤ 1099511627776 ∧ 0 ≤ s ∧ s ≤ 1099511627776 ∧ 0 ≤ l ∧ l ≤ 1099511627776 ∧ s ≤ n ∧ n - s < l)
def timeB (n : Int) : Bool := decide (0 ≤ n ∧ n ≤ 1099511627776)

theorem time_any (n : Int) (w : World) : Calls Try.prog 43 #[.int .i64 n] w fun e w' => e = .returned (.bool (timeB n)) ∧ w = w' := by
  go_enter Try.func43, Try.ntmps43
  go_wp2
  all_goals (go_ret; refine ⟨ret_bool ?_, rfl⟩; simp [timeB]; try omega)

theorem fresh_any (n s l : Int) (w : World) : Calls Try.prog 36 #[.int .i64 n, .int .i64 s, .int .i64 l] w fun e w' => e = .returned (.bool (freshB n s l)) ∧ w = w' := by
  by_cases h : 0 ≤ n ∧ n ≤ 1099511627776 ∧ 0 ≤ s ∧ s ≤ 1099511627776 ∧ 0 ≤ l ∧ l ≤ 1099511627776
  · obtain ⟨n0, n1, s0, s1, l0, l1⟩ := h
    have tn : timeB n = true := by simp [timeB]; omega
    have ts : timeB s = true := by simp [timeB]; omega
    have tl : timeB l = true := by simp [timeB]; omega
    go_enter Try.func36, Try.ntmps36
    go_wp2_with (first | (go_at_call 43; refine (time_any _ _).mono ?_; rintro e w' ⟨rfl, rfl⟩))
    all_goals (go_ret; refine ⟨ret_bool ?_, rfl⟩; rw [Bool.eq_iff_iff]; simp [freshB]; try omega)
  · have hc : freshB n s l = false := by simp [freshB]; omega
    have ht : timeB n = false ∨ timeB s = false ∨ timeB l = false := by simp [timeB]; omega
    rw [hc]
    clear hc h
    rcases ht with ht | ht | ht
    all_goals
      go_enter Try.func36, Try.ntmps36
      go_wp2_with (first | (go_at_call 43; refine (time_any _ _).mono ?_; rintro e w' ⟨rfl, rfl⟩))
    all_goals (go_ret; exact ⟨rfl, rfl⟩)

theorem sfirst (w : World) : Calls Try.prog 27 #[] w fun e w' => e = .returned (.bool true) ∧ w = w' := by
  have h1 : newerB 1 4294967295 = true := by decide
  have h2 : newerB 2147483648 0 = false := by decide
  go_enter Try.func27, Try.ntmps27
  go_wp2_with (first | (go_at_call 32; refine (newer_any _ _ _).mono ?_; rintro e w' ⟨rfl, rfl⟩))
  go_ret
  exact ⟨rfl, rfl⟩
end Go.Proofs.Ytcpihfkhhmggfaa
