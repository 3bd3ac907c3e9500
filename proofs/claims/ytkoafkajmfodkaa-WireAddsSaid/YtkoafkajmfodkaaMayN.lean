/- The contract of the document's MayName (chapter 2), its walk. -/
import Derived.Test.YtkoafkajmfodkaaMayR
namespace Go.Proofs.Ytkoafkajmfodkaa
open Go.RowKit

theorem anyG_up {s : ByteArray} {a n m : Nat} (h : anyG s a n = true) (hnm : n ≤ m) : anyG s a m = true := by
  induction m with
  | zero => have : n = 0 := by omega
            subst this; exact h
  | succ m ih =>
    by_cases e : n = m + 1
    · subst e; exact h
    · simp only [anyG]; rw [ih (by omega)]; simp

set_option maxRecDepth 100000 in
theorem rmay_any (s : ByteArray) (w : World) (hs : s.size ≤ 1000000) : Calls Try.prog 76 #[.string s] w fun e w' => e = .returned (.bool (mayN s)) ∧ w = w' := by
  have HM := Lib.hid (ref_may s)
  go_enter Try.func76, Try.ntmps76
  go_wp2
  go_loop [3] (fun i => ∃ k : Nat, k ≤ 1000300 ∧ Hid (gRun s s.size 0 = gRun s s.size k) ∧ i = .int .i64 k) (fun i => s.size - (intOf i).toNat)
  case atStart => exact ⟨0, by omega, rfl, rfl⟩
  case round =>
    obtain ⟨k, hk, hr, rfl⟩ := hrel
    by_cases hlt : k < s.size
    · have hb := byte_get hlt
      have hb2 := byteAt_lt s k
      have hst := gRun_step s k
      rw [if_pos hlt] at hst
      have HB := Lib.hid (show ∃ b, byteAt s k = b from ⟨_, rfl⟩)
      have hbe := HB.out
      obtain ⟨b, hbe⟩ := hbe
      rw [hbe] at hb hb2 hst
      have HS := Lib.hid hst
      have HR := hr
      clear hst hr HB hbe
      go_wp2
      go_loop [5] (fun j => ∃ m : Nat, k + 1 ≤ m ∧ m ≤ k + 1 + b ∧ m ≤ s.size ∧ Hid (anyG s (k + 1) (m - (k + 1)) = false) ∧ j = .int .i64 m) (fun j => s.size - (intOf j).toNat)
      case atStart => exact ⟨k + 1, by omega, by omega, by omega, (by rw [Nat.sub_self]; rfl), by go_num⟩
      case round =>
        obtain ⟨m, hm1, hm2, hm3, hg, rfl⟩ := hrel
        by_cases t1 : m ≤ k + b
        · by_cases t2 : m < s.size
          · have hc := byte_get t2
            have hc2 := byteAt_lt s m
            have hnext : anyG s (k + 1) (m + 1 - (k + 1)) = (anyG s (k + 1) (m - (k + 1)) || great (byteAt s m)) := by
              have e : m + 1 - (k + 1) = (m - (k + 1)) + 1 := by omega
              have e2 : k + 1 + (m - (k + 1)) = m := by omega
              rw [e]; simp only [anyG]; rw [e2]
            have HC := Lib.hid (show ∃ c, byteAt s m = c from ⟨_, rfl⟩)
            have hce := HC.out
            obtain ⟨c, hce⟩ := hce
            rw [hce] at hc hc2 hnext
            by_cases hgr : 65 ≤ c ∧ c ≤ 90
            · have e1 := dT (p := (65 : Int) ≤ (c : Int)) (by omega)
              have e2 := dT (p := (c : Int) ≤ (90 : Int)) (by omega)
              have hgt : great c = true := by simp [great]; omega
              rw [hgt, Bool.or_true] at hnext
              have hall : gRun s s.size k = true := by
                rw [HS.out, anyG_up hnext (by omega)]; rfl
              have HF := Lib.hid (show mayN s = false by rw [← HM.out, HR.out, hall]; rfl)
              clear hnext hall hgt hce HC hgr
              go_wp2
              go_ret
              exact ⟨ret_bool HF.out.symm, rfl⟩
            · have hgt : great c = false := by simp [great]; omega
              rw [hgt, Bool.or_false, hg.out] at hnext
              have HN := Lib.hid hnext
              clear hnext hgt hce HC hg
              by_cases h65 : 65 ≤ c
              · have e1 := dT (p := (65 : Int) ≤ (c : Int)) (by omega)
                have e2 := dF (p := (c : Int) ≤ (90 : Int)) (by omega)
                clear hgr
                go_wp2
                go_round
                case rel => exact ⟨m + 1, by omega, by omega, by omega, HN.out, by go_num⟩
                case measure => simp [intOf]; omega
              · have e1 := dF (p := (65 : Int) ≤ (c : Int)) (by omega)
                clear hgr
                go_wp2
                go_round
                case rel => exact ⟨m + 1, by omega, by omega, by omega, HN.out, by go_num⟩
                case measure => simp [intOf]; omega
          · have hms : m = s.size := by omega
            have HN := Lib.hid (show gRun s s.size 0 = gRun s s.size (k + b + 1) by
              rw [HR.out, HS.out, Nat.min_eq_right (by omega), ← hms, hg.out]; rfl)
            subst hms
            clear hg
            go_wp2
            go_round
            case rel => exact ⟨k + b + 1, by omega, HN.out, by go_num⟩
            case measure => simp [intOf]; omega
        · have hmb : m - (k + 1) = b := by omega
          have HN := Lib.hid (show gRun s s.size 0 = gRun s s.size (k + b + 1) by
            rw [HR.out, HS.out, Nat.min_eq_left (by omega), ← hmb, hg.out]; rfl)
          clear hg hmb
          go_wp2
          go_round
          case rel => exact ⟨k + b + 1, by omega, HN.out, by go_num⟩
          case measure => simp [intOf]; omega
    · have hst := gRun_step s k
      rw [if_neg hlt] at hst
      have HF := Lib.hid (show mayN s = (endRun s 0 s.size 0 == (s.size : Int)) by rw [← HM.out, hr.out, hst]; rfl)
      clear hst hr
      go_wp2_with (go_at_call 102; refine (rend_any s 0 _ hs (by omega)).mono ?_; rintro e w' ⟨rfl, rfl⟩)
      go_ret
      exact ⟨ret_bool (by rw [HF.out]), rfl⟩
end Go.Proofs.Ytkoafkajmfodkaa
