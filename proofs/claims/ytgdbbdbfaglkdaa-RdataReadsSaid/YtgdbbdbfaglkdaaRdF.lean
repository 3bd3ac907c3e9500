/- Contracts of rdata.head, GetSoa, mayMd (chapter 3), over this seat's translation. -/
import Derived.Test.YtgdbbdbfaglkdaaRdE
import Derived.Test.YtgdbbdbfaglkdaaGet
namespace Go.Proofs.Ytgdbbdbfaglkdaa
open Go.RowKit

def headV (s : ByteArray) : Value := if headOk s = true then .tuple #[.string (head1 s), .string (rest1 s), .bool true] else .tuple #[.string ⟨#[]⟩, .string ⟨#[]⟩, .bool false]
set_option maxRecDepth 100000 in
theorem head_any (s : ByteArray) (w : World) (hs : s.size ≤ 1000000) : Calls Try.prog 68 #[.string s] w fun e w' => e = .returned (headV s) ∧ ∃ n, w' = w.drewN n := by
  go_enter Try.func68, Try.ntmps68
  go_wp2
  go_loop [5] (fun i => ∃ k : Nat, k ≤ 2000000 ∧ Hid (hN s = hRun s s.size k) ∧ i = .int .i64 k) (fun i => s.size - (intOf i).toNat)
  case atStart => exact ⟨0, by omega, rfl, rfl⟩
  case round =>
    obtain ⟨k, hk, hr, rfl⟩ := hrel
    have hst := hRun_step s k
    by_cases hlt : k < s.size
    · rw [if_pos hlt] at hst
      have hb := byte_get hlt
      have hb2 := byteAt_lt s k
      have HB := Lib.hid (show ∃ b, byteAt s k = b from ⟨_, rfl⟩)
      have hbe := HB.out
      obtain ⟨b, hbe⟩ := hbe
      rw [hbe] at hb hb2 hst
      by_cases h0 : b = 0
      · subst h0
        rw [if_pos rfl] at hst
        have hN' : hN s = k := hr.out.trans hst
        have d : (decide ((s.size : Int) ≤ (k : Int))) = false := dF (by omega)
        have he : headOk s = mayN (s.extract 0 (k + 1)) := by rw [headOk, hN', dT hlt, Bool.true_and]
        have h1 : head1 s = s.extract 0 (k + 1) := by rw [head1, hN']
        have h2 : rest1 s = s.extract (k + 1) s.size := by rw [rest1, hN']
        have hv : headV s = if mayN (s.extract 0 (k + 1)) = true then .tuple #[.string (s.extract 0 (k + 1)), .string (s.extract (k + 1) s.size), .bool true] else .tuple #[.string ⟨#[]⟩, .string ⟨#[]⟩, .bool false] := by
          rw [headV, he, h1, h2]
        clear hst hbe HB hr hN' he h1 h2
        have hsz : (s.extract 0 (k + 1)).size ≤ 1000000 := by rw [extract_size _ _ _ (by omega)]; omega
        cases hm : mayN (s.extract 0 (k + 1))
        · rw [hm] at hv
          have HM := Lib.hid hm
          have HV := Lib.hid hv
          clear hm hv
          go_wp2_with fail
          refine (nmay_any _ _ hsz).mono ?_; rintro e w' ⟨rfl, rfl⟩
          rw [HM.out]
          go_wp2
          go_returns
          exact ⟨by rw [HV.out]; rfl, 0, rfl⟩
        · rw [hm] at hv
          have HM := Lib.hid hm
          have HV := Lib.hid hv
          clear hm hv
          go_wp2_with fail
          refine (nmay_any _ _ hsz).mono ?_; rintro e w' ⟨rfl, rfl⟩
          rw [HM.out]
          go_wp2
          go_region
          go_wp2
          go_returns
          exact ⟨by rw [HV.out]; rfl, 1, rfl⟩
      · rw [if_neg h0] at hst
        have e0 : ((b : Int) != 0) = true := nT (by omega)
        have HR := Lib.hid (hr.out.trans hst)
        clear hst hbe HB hr
        go_wp2
        go_round
        case rel => exact ⟨k + 1 + b, by omega, HR.out, by go_num⟩
        case measure => simp [intOf]; omega
    · rw [if_neg hlt] at hst
      have hN' : hN s = k := hr.out.trans hst
      have he : headOk s = false := by rw [headOk, hN', dF hlt, Bool.false_and]
      have d : (decide ((s.size : Int) ≤ (k : Int))) = true := dT (by omega)
      have HV := Lib.hid (show headV s = .tuple #[.string ⟨#[]⟩, .string ⟨#[]⟩, .bool false] by rw [headV, he]; rfl)
      clear hst hr hN' he
      go_wp2
      go_returns
      exact ⟨by rw [HV.out]; rfl, 0, rfl⟩

def mayMdN (s : ByteArray) : Bool := decide (18 ≤ s.size) && (byteAt s 4 != 1 || byteAt s 5 != 1 || decide (s.size = 54))
set_option maxRecDepth 100000 in
theorem mayMd_any (s : ByteArray) (w : World) (hs : s.size ≤ 1000000) : Calls Try.prog 75 #[.string s] w fun e w' => e = .returned (.bool (mayMdN s)) ∧ w = w' := by
  by_cases h : s.size < 18
  · have d := dT (p := (s.size : Int) < 18) (by omega)
    have e : mayMdN s = false := by rw [mayMdN, dF (p := 18 ≤ s.size) (by omega)]; rfl
    rw [e]
    clear e h
    go_enter Try.func75, Try.ntmps75
    go_wp2
    go_ret
    exact ⟨rfl, rfl⟩
  · have d := dF (p := (s.size : Int) < 18) (by omega)
    have e : mayMdN s = (byteAt s 4 != 1 || byteAt s 5 != 1 || decide (s.size = 54)) := by rw [mayMdN, dT (p := 18 ≤ s.size) (by omega)]; rfl
    rw [e]
    have i4 : 4 < s.size := by omega
    have i5 : 5 < s.size := by omega
    have b4 := byte_get i4
    have b5 := byte_get i5
    have l4 := byteAt_lt s 4
    have l5 := byteAt_lt s 5
    obtain ⟨x, hx⟩ : ∃ x, byteAt s 4 = x := ⟨_, rfl⟩
    obtain ⟨y, hy⟩ : ∃ y, byteAt s 5 = y := ⟨_, rfl⟩
    rw [hx] at b4 l4 ⊢
    rw [hy] at b5 l5 ⊢
    clear e hx hy h
    go_enter Try.func75, Try.ntmps75
    go_wp2
    all_goals (go_ret; refine ⟨ret_bool ?_, rfl⟩; rw [Bool.eq_iff_iff]; simp; try omega)
end Go.Proofs.Ytgdbbdbfaglkdaa
