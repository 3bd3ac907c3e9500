/- Contracts of rdata.Text, Addr, and May of TXT, A and AAAA (chapter 3), over this seat's translation. -/
import Derived.Test.YtgdbbdbfaglkdaaJoin
import Derived.Test.YtgdbbdbfaglkdaaStr
namespace Go.Proofs.Ytgdbbdbfaglkdaa
open Go.RowKit

/-- Where the texts end that begin at a place. -/
def runT (s : ByteArray) : Nat → Nat → Nat
  | 0, at' => at'
  | f + 1, at' => if at' < s.size then runT s f (at' + 1 + byteAt s at') else at'
theorem runT_done (s : ByteArray) (f at' : Nat) (h : s.size ≤ at') : runT s f at' = at' := by
  cases f with
  | zero => rfl
  | succ f => rw [runT, if_neg (by omega)]
theorem runT_more (s : ByteArray) : ∀ (f at' : Nat), s.size ≤ at' + f → runT s (f + 1) at' = runT s f at' := by
  intro f
  induction f with
  | zero => intro at' h; rw [runT_done s 1 at' (by omega), runT_done s 0 at' (by omega)]
  | succ f ih =>
    intro at' h
    show (if at' < s.size then runT s (f + 1) (at' + 1 + byteAt s at') else at') = (if at' < s.size then runT s f (at' + 1 + byteAt s at') else at')
    split
    · exact ih _ (by omega)
    · rfl
theorem runT_step (s : ByteArray) (at' : Nat) (h : at' < s.size) : runT s s.size at' = runT s s.size (at' + 1 + byteAt s at') := by
  have h1 : runT s (s.size + 1) at' = runT s s.size at' := runT_more s s.size at' (by omega)
  rw [← h1, runT, if_pos h]
def mayTx (s : ByteArray) : Bool := runT s s.size 0 == s.size && decide (0 < s.size)

theorem mayText_any (s : ByteArray) (w : World) (hs : s.size ≤ 1000000) : Calls Try.prog 74 #[.string s] w fun e w' => e = .returned (.bool (mayTx s)) ∧ w = w' := by
  go_enter Try.func74, Try.ntmps74
  go_wp2
  go_loop [3] (fun i => ∃ k : Nat, k ≤ 2000000 ∧ Hid (runT s s.size 0 = runT s s.size k) ∧ i = .int .i64 k) (fun i => s.size - (intOf i).toNat)
  case atStart => exact ⟨0, by omega, rfl, rfl⟩
  case round =>
    obtain ⟨k, hk, hr, rfl⟩ := hrel
    by_cases hlt : k < s.size
    · have hb := byte_get hlt
      have hb2 := byteAt_lt s k
      have HR := Lib.hid (hr.out.trans (runT_step s k hlt))
      go_wp2
      go_round
      case rel => exact ⟨k + (1 + byteAt s k), by omega, (by rw [← Nat.add_assoc]; exact HR.out), by go_num⟩
      case measure => simp [intOf]; omega
    · have he := runT_done s s.size k (by omega)
      have h1 : mayTx s = (decide (k = s.size) && decide (0 < k)) := by
        unfold mayTx
        rw [hr.out, he, Bool.eq_iff_iff]
        simp
        omega
      have HM := Lib.hid h1
      clear he h1 hr
      by_cases e1 : k = s.size
      · have d1 : ((k : Int) == (s.size : Int)) = true := eT (by omega)
        go_wp2
        all_goals (go_ret; exact ⟨ret_bool (by rw [HM.out, Bool.eq_iff_iff]; simp; try omega), rfl⟩)
      · have d1 : ((k : Int) == (s.size : Int)) = false := eF (by omega)
        go_wp2
        all_goals (go_ret; exact ⟨ret_bool (by rw [HM.out, Bool.eq_iff_iff]; simp; try omega), rfl⟩)

theorem has16_any (n : Int) (w : World) : Calls Try.prog 72 #[.int .i64 n] w fun e w' => e = .returned (.bool (decide (0 ≤ n ∧ n ≤ 65535))) ∧ w = w' := by
  go_enter Try.func72, Try.ntmps72
  go_wp2
  all_goals (go_ret; refine ⟨ret_bool ?_, rfl⟩; rw [Bool.eq_iff_iff]; simp; try omega)

/-- May, where no name is within. -/
theorem may_long (k : Int) (s : ByteArray) (w : World) (hs : s.size ≤ 1000000) (h : 1000 < s.size) (hk : 0 ≤ k ∧ k ≤ 65535) : Calls Try.prog 20 #[.int .i64 k, .string s] w fun e w' => e = .returned (.bool false) ∧ w = w' := by
  have d := dT hk
  have d2 := dT (p := (1000 : Int) < (s.size : Int)) (by omega)
  clear hk
  go_enter Try.func20, Try.ntmps20
  go_wp2_with (first | (go_at_call 72; refine (has16_any _ _).mono ?_; rintro e w' ⟨rfl, rfl⟩))
  go_ret
  exact ⟨rfl, rfl⟩
theorem may_a (s : ByteArray) (w : World) (hs : s.size ≤ 1000) : Calls Try.prog 20 #[.int .i64 1, .string s] w fun e w' => e = .returned (.bool ((s.size : Int) == 4)) ∧ w = w' := by
  have d : decide ((0 : Int) ≤ 1 ∧ (1 : Int) ≤ 65535) = true := by decide
  have d2 := dF (p := (1000 : Int) < (s.size : Int)) (by omega)
  go_enter Try.func20, Try.ntmps20
  go_wp2_with (first | (go_at_call 72; refine (has16_any _ _).mono ?_; rintro e w' ⟨rfl, rfl⟩))
  go_ret
  exact ⟨rfl, rfl⟩
theorem may_aaaa (s : ByteArray) (w : World) (hs : s.size ≤ 1000) : Calls Try.prog 20 #[.int .i64 28, .string s] w fun e w' => e = .returned (.bool ((s.size : Int) == 16)) ∧ w = w' := by
  have d : decide ((0 : Int) ≤ 28 ∧ (28 : Int) ≤ 65535) = true := by decide
  have d2 := dF (p := (1000 : Int) < (s.size : Int)) (by omega)
  go_enter Try.func20, Try.ntmps20
  go_wp2_with (first | (go_at_call 72; refine (has16_any _ _).mono ?_; rintro e w' ⟨rfl, rfl⟩))
  go_ret
  exact ⟨rfl, rfl⟩
theorem may_txt (s : ByteArray) (w : World) (hs : s.size ≤ 1000) : Calls Try.prog 20 #[.int .i64 16, .string s] w fun e w' => e = .returned (.bool (mayTx s)) ∧ w = w' := by
  have d : decide ((0 : Int) ≤ 16 ∧ (16 : Int) ≤ 65535) = true := by decide
  have d2 := dF (p := (1000 : Int) < (s.size : Int)) (by omega)
  go_enter Try.func20, Try.ntmps20
  go_wp2_with (first | (go_at_call 72; refine (has16_any _ _).mono ?_; rintro e w' ⟨rfl, rfl⟩) | (go_at_call 74; refine (mayText_any _ _ (by omega)).mono ?_; rintro e w' ⟨rfl, rfl⟩))
  go_ret
  exact ⟨rfl, rfl⟩

/-- An address's data. -/
def addrL (l : List Int) : List UInt8 := if l.length = 4 ∨ l.length = 16 then joinL 1 l else []
def addrE (l : List Int) : Int := if l.length = 4 ∨ l.length = 16 then joinE 1 l else 1
theorem addr_any (a : Option Addr) (len cap : Nat) (l : List Int) (w : World) (h : Row w a len l) (hlen : len ≤ 100000) :
    Calls Try.prog 33 #[.slice a len cap] w fun e w' => e = .returned (.tuple #[.string (bs (addrL l)), .int .i64 (addrE l)]) ∧ Below w.heap.size w w' := by
  have HR := Lib.hid h
  have hl := h.1
  by_cases h4 : len = 4 ∨ len = 16
  · have hd : ((len : Int) != 4) = false ∨ ((len : Int) != 4) = true ∧ ((len : Int) != 16) = false := by
      simp only [bne_iff_ne, ne_eq, bne_eq_false_iff_eq]; omega
    rw [addrL, addrE, if_pos (by omega), if_pos (by omega)]
    clear h h4 hl
    rcases hd with d1 | ⟨d1, d2⟩
    all_goals
      go_enter Try.func33, Try.ntmps33
      go_wp2_with fail
      refine (join_any _ _ _ _ l _ HR.out (by omega)).mono ?_; rintro e w' ⟨rfl, hb⟩
      have HB := Lib.hid hb
      clear hb
      go_wp2
      go_ret2
      exact ⟨rfl, HB.out⟩
  · have d1 : ((len : Int) != 4) = true := nT (by omega)
    have d2 : ((len : Int) != 16) = true := nT (by omega)
    rw [addrL, addrE, if_neg (by omega), if_neg (by omega)]
    clear h h4 hl
    go_enter Try.func33, Try.ntmps33
    go_wp2
    go_ret2
    exact ⟨rfl, Below.refl _ _⟩
end Go.Proofs.Ytgdbbdbfaglkdaa
