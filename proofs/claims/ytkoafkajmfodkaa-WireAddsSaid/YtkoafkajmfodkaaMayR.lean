/- The contract of the document's MayName (chapter 2) over this seat's translation. -/
import Derived.Test.YtkoafkajmfodkaaNm
namespace Go.Proofs.Ytkoafkajmfodkaa
open Go.RowKit

def endRun (s : ByteArray) (A : Nat) : Nat → Nat → Int
  | 0, _ => -1
  | f + 1, i => if i < s.size then (if byteAt s i = 0 then (if 255 < i + 1 - A then -1 else ((i + 1 : Nat) : Int)) else if 63 < byteAt s i then -1 else endRun s A f (i + byteAt s i + 1)) else -1
def gRun (s : ByteArray) : Nat → Nat → Bool
  | 0, _ => false
  | f + 1, i => if i < s.size then anyG s (i + 1) (min (byteAt s i) (s.size - (i + 1))) || gRun s f (i + byteAt s i + 1) else false

theorem endRun_more (s : ByteArray) (A : Nat) : ∀ (f i : Nat), s.size ≤ i + f → endRun s A (f + 1) i = endRun s A f i := by
  intro f
  induction f with
  | zero => intro i h; show (if i < s.size then _ else _) = _; rw [if_neg (by omega)]; rfl
  | succ f ih =>
    intro i h
    show (if i < s.size then (if byteAt s i = 0 then (if 255 < i + 1 - A then -1 else ((i + 1 : Nat) : Int)) else if 63 < byteAt s i then -1 else endRun s A (f + 1) (i + byteAt s i + 1)) else -1) = (if i < s.size then (if byteAt s i = 0 then (if 255 < i + 1 - A then -1 else ((i + 1 : Nat) : Int)) else if 63 < byteAt s i then -1 else endRun s A f (i + byteAt s i + 1)) else -1)
    rw [ih _ (by omega)]
theorem endRun_step (s : ByteArray) (A i : Nat) : endRun s A s.size i = if i < s.size then (if byteAt s i = 0 then (if 255 < i + 1 - A then -1 else ((i + 1 : Nat) : Int)) else if 63 < byteAt s i then -1 else endRun s A s.size (i + byteAt s i + 1)) else -1 := by
  rw [← endRun_more s A s.size i (by omega)]
  rfl
theorem gRun_more (s : ByteArray) : ∀ (f i : Nat), s.size ≤ i + f → gRun s (f + 1) i = gRun s f i := by
  intro f
  induction f with
  | zero => intro i h; show (if i < s.size then _ else _) = _; rw [if_neg (by omega)]; rfl
  | succ f ih =>
    intro i h
    show (if i < s.size then anyG s (i + 1) (min (byteAt s i) (s.size - (i + 1))) || gRun s (f + 1) (i + byteAt s i + 1) else false) = (if i < s.size then anyG s (i + 1) (min (byteAt s i) (s.size - (i + 1))) || gRun s f (i + byteAt s i + 1) else false)
    rw [ih _ (by omega)]
theorem gRun_step (s : ByteArray) (i : Nat) : gRun s s.size i = if i < s.size then anyG s (i + 1) (min (byteAt s i) (s.size - (i + 1))) || gRun s s.size (i + byteAt s i + 1) else false := by
  rw [← gRun_more s s.size i (by omega)]
  rfl

theorem ref_run (s : ByteArray) (h255 : s.size ≤ 255) : ∀ (d i : Nat), i < s.size → s.size - i ≤ d → (!gRun s s.size i && endRun s 0 s.size i == (s.size : Int)) = mayRun s s.size i := by
  intro d
  induction d with
  | zero => intro i h1 h2; omega
  | succ d ih =>
    intro i h1 h2
    rw [gRun_step, endRun_step, if_pos h1, if_pos h1]
    by_cases hl : i + 1 < s.size
    · rw [mayRun_step s i hl]
      by_cases k0 : byteAt s i = 0
      · rw [if_pos k0, if_neg (by omega), okStep, k0]
        simp
        intros
        omega
      · rw [if_neg k0]
        by_cases k63 : 63 < byteAt s i
        · rw [if_pos k63, okStep, dF (p := byteAt s i ≤ 63) (by omega)]
          simp
        · rw [if_neg k63]
          by_cases kn : i + 1 + byteAt s i < s.size
          · have hi := ih (i + byteAt s i + 1) (by omega) (by omega)
            have e : i + 1 + byteAt s i = i + byteAt s i + 1 := by omega
            rw [e, ← hi, okStep, dT (p := 1 ≤ byteAt s i) (by omega), dT (p := byteAt s i ≤ 63) (by omega), dT kn, Nat.min_eq_left (by omega)]
            cases anyG s (i + 1) (byteAt s i) <;> simp
          · rw [endRun_step, if_neg (by omega), okStep, dF kn]
            simp
    · rw [mayRun_end s s.size i hl]
      by_cases k0 : byteAt s i = 0
      · rw [if_pos k0, if_neg (by omega), gRun_step, if_neg (by omega), k0]
        simp [anyG]
        omega
      · have e : (byteAt s i == 0) = false := by simpa using k0
        have e2 : endRun s 0 s.size (i + byteAt s i + 1) = -1 := by rw [endRun_step, if_neg (by omega)]
        rw [if_neg k0, e, e2]
        split <;> simp

theorem endRun_255 (s : ByteArray) : ∀ (f i : Nat), endRun s 0 f i ≤ 255 := by
  intro f
  induction f with
  | zero => intro i; simp [endRun]
  | succ f ih =>
    intro i
    simp only [endRun]
    repeat' split
    all_goals first | omega | exact ih _

theorem ref_may (s : ByteArray) : (!gRun s s.size 0 && endRun s 0 s.size 0 == (s.size : Int)) = mayN s := by
  by_cases h0 : s.size = 0
  · rw [endRun_step, if_neg (by omega), mayN, dF (p := 1 ≤ s.size ∧ s.size ≤ 255) (by omega)]
    simp
  · by_cases h : s.size ≤ 255
    · rw [ref_run s h s.size 0 (by omega) (by omega), mayN, dT (p := 1 ≤ s.size ∧ s.size ≤ 255) (by omega)]
      rfl
    · have := endRun_255 s s.size 0
      rw [mayN, dF (p := 1 ≤ s.size ∧ s.size ≤ 255) (by omega)]
      simp
      omega

theorem rend_any (s : ByteArray) (A : Nat) (w : World) (hs : s.size ≤ 1000000) (hA : A ≤ 1000000) : Calls Try.prog 102 #[.string s, .int .i64 A] w fun e w' => e = .returned (.int .i64 (endRun s A s.size A)) ∧ w = w' := by
  go_enter Try.func102, Try.ntmps102
  go_wp2
  go_loop [5] (fun i => ∃ k : Nat, A ≤ k ∧ k ≤ 1000300 ∧ Hid (endRun s A s.size A = endRun s A s.size k) ∧ i = .int .i64 k) (fun i => s.size - (intOf i).toNat)
  case atStart => exact ⟨A, Nat.le_refl _, by omega, rfl, rfl⟩
  case round =>
    obtain ⟨k, hA2, hk, hr, rfl⟩ := hrel
    by_cases hlt : k < s.size
    · have hb := byte_get hlt
      have hb2 := byteAt_lt s k
      have hst := endRun_step s A k
      rw [if_pos hlt] at hst
      obtain ⟨b, hbe⟩ : ∃ b, byteAt s k = b := ⟨_, rfl⟩
      rw [hbe] at hb hb2 hst
      by_cases k0 : b = 0
      · subst k0
        rw [if_pos rfl] at hst
        by_cases kl : 255 < k + 1 - A
        · rw [if_pos kl] at hst
          have e1 := dT (p := (255 : Int) < (k : Int) + 1 - (A : Int)) (by omega)
          have HF := Lib.hid (hr.out.trans hst)
          clear hst hbe kl hr
          go_wp2
          go_ret
          exact ⟨ret_int HF.out.symm, rfl⟩
        · rw [if_neg kl] at hst
          have e1 := dF (p := (255 : Int) < (k : Int) + 1 - (A : Int)) (by omega)
          have HF := Lib.hid (hr.out.trans hst)
          clear hst hbe kl hr
          go_wp2
          go_ret
          exact ⟨ret_int (by rw [HF.out]; omega), rfl⟩
      · rw [if_neg k0] at hst
        have e0 : ((b : Int) == 0) = false := eF (by omega)
        by_cases k63 : 63 < b
        · rw [if_pos k63] at hst
          have e1 := dT (p := (63 : Int) < (b : Int)) (by omega)
          have HF := Lib.hid (hr.out.trans hst)
          clear hst hbe hr k0
          go_wp2
          go_ret
          exact ⟨ret_int HF.out.symm, rfl⟩
        · rw [if_neg k63] at hst
          have e1 := dF (p := (63 : Int) < (b : Int)) (by omega)
          have HF := Lib.hid (hr.out.trans hst)
          clear hst hbe hr k0
          go_wp2
          go_round
          case rel => exact ⟨k + b + 1, by omega, by omega, HF.out, by go_num⟩
          case measure => simp [intOf]; omega
    · have hst := endRun_step s A k
      rw [if_neg hlt] at hst
      have HF := Lib.hid (hr.out.trans hst)
      clear hst hr
      go_wp2
      go_ret
      exact ⟨ret_int HF.out.symm, rfl⟩
end Go.Proofs.Ytkoafkajmfodkaa
