/- Contracts of package num's functions (chapter 1), and of its document's answers, over this seat's translation: Put. -/
import Derived.Test.YtkoafkajmfodkaaNumA5
import Derived.Test.YtkoafkajmfodkaaMgA
namespace Go.Proofs.Ytkoafkajmfodkaa
open Go.RowKit

set_option maxRecDepth 100000 in
set_option maxHeartbeats 400000 in
theorem rput_yes (n : Int) (W : Nat) (w : World) (h1 : 1 ≤ W) (h2 : W ≤ 6) (h3 : 0 ≤ n) (h4 : decide (0 < n / 2 ^ (8 * W)) = false) : Calls Try.prog 108 #[.int .i64 n, .int .i64 W] w fun e w' => e = .returned (.tuple #[.string (bs (putTo n W W)), .int .i64 0]) ∧ Below w.heap.size w w' := by
  have d3 := dF (p := n < 0) (by omega)
  have d1 := dF (p := (W : Int) < 1) (by omega)
  have d2 := dF (p := 6 < (W : Int)) (by omega)
  obtain ⟨i0, hi, hz0, hz1, hz2⟩ := info_parts infoU8
  have HI := Lib.hid hi
  have HZ0 := Lib.hid hz0
  have HZ1 := Lib.hid hz1
  have HZ2 := Lib.hid hz2
  clear hi hz0 hz1 hz2
  go_enter Try.func108, Try.ntmps108
  go_wp2
  go_loopw [6, 7] (fun v i wr => ∃ k m : Nat, k + m = W ∧ i = .int .i64 ((m : Int) - 1) ∧ wr.ownsRow w.heap.size 5 1 v k (bc (putTo n W k)) ∧ Below w.heap.size w wr) (fun _ i _ => ((intOf i) + 1).toNat)
  case atStart => exact ⟨0, W, by omega, rfl, World.ownsRow_nil _ _ _ _, Below.refl _ _⟩
  case round =>
    obtain ⟨k, m, hk, rfl, hown1, hbel⟩ := hrel
    have HO := Lib.hid hown1
    have HBL := Lib.hid hbel
    have HK := Lib.hid hk
    have hm6 : m ≤ 6 := by omega
    have hk6 : k ≤ 6 := by omega
    by_cases hm : 1 ≤ m
    · clear hown1 hbel hk
      go_wp2_with (first | (at_builtin; refine wpList_append_own _ rfl _ _ 35 rfl w.heap.size 5 i0 (.int .u8 0) 1 1 Try.underlying35 HI.out HZ0.out HZ1.out HZ2.out rfl (by decide) _ _ _ rfl (HO.out.alloc _) ⟨wr.heap.size, 0, none⟩ 1 1 [.int .u8 (n / 2 ^ (8 * (m - 1)) % 256)] rfl rfl ?c1 ?c2 ?c3 ?c4 ?c5 ?_))
      case c1 => exact cell_one_new _ _ _
      case c2 => exact one_int _ _
      case c3 => unfold maxLen; omega
      case c4 => omega
      case c5 => have := HBL.out.size; simp; omega
      intro v' w' hown' hgrow _
      have hbel' := below_append HBL.out (by have := HBL.out.size; omega) HO.out hgrow
      have e : bc (putTo n W k) ++ [Value.int IntKind.u8 (n / 2 ^ (8 * (m - 1)) % 256)] = bc (putTo n W (k + 1)) := by
        rw [putTo_succ, bc_append, bc_one, show W - 1 - k = m - 1 by have := HK.out; omega]
      rw [e] at hown'
      have HO2 := Lib.hid hown'
      have HBL2 := Lib.hid hbel'
      clear hown' hgrow hbel' e
      go_wp2
      go_roundw
      case rel => exact ⟨k + 1, m - 1, by have := HK.out; omega, by go_num, HO2.out, HBL2.out⟩
      case measure => simp [intOf]; omega
    · have hm0 : m = 0 := by omega
      subst hm0
      have hkW : k = W := by omega
      subst hkW
      have hconv := conv_own hown1
      clear hown1 hbel hk
      go_wp2
      go_ret2
      exact ⟨rfl, HBL.out⟩

theorem rput_no (n W : Int) (w : World) (h : fits n W = false) : Calls Try.prog 108 #[.int .i64 n, .int .i64 W] w fun e w' => e = .returned (.tuple #[.string ⟨#[]⟩, .int .i64 1]) ∧ w = w' := by
  by_cases hw : 1 ≤ W ∧ W ≤ 6
  · obtain ⟨K, rfl⟩ := Int.eq_ofNat_of_zero_le (show 0 ≤ W by omega)
    have k1 := dF (p := (K : Int) < 1) (by omega)
    have k2 := dF (p := 6 < (K : Int)) (by omega)
    have b1 := hw.2
    by_cases hn : n < 0
    · have d2 := dT hn
      clear h
      go_enter Try.func108, Try.ntmps108
      go_wp2
      go_ret2
      exact ⟨rfl, rfl⟩
    · have d2 := dF hn
      have d3 : decide (0 < n / 2 ^ (8 * K)) = true := by
        simp [fits] at h
        simp
        have := h (by omega) (by omega) (by omega)
        omega
      clear h
      go_enter Try.func108, Try.ntmps108
      go_wp2
      go_ret2
      exact ⟨rfl, rfl⟩
  · have hd : decide (W < 1) = true ∨ decide (W < 1) = false ∧ decide (6 < W) = true := by
      simp only [decide_eq_true_eq, decide_eq_false_iff_not]; omega
    clear h hw
    rcases hd with d1 | ⟨d1, d2⟩
    all_goals
      go_enter Try.func108, Try.ntmps108
      go_wp2
      go_ret2
      exact ⟨rfl, rfl⟩

theorem rput_any (n W : Int) (w : World) : Calls Try.prog 108 #[.int .i64 n, .int .i64 W] w fun e w' => e = .returned (.tuple #[.string (bs (putL n W)), .int .i64 (putE_n n W)]) ∧ Below w.heap.size w w' := by
  by_cases h : fits n W = true
  · have hh := h
    simp [fits] at hh
    obtain ⟨h1, h2, h3, h4⟩ := hh
    rw [putL, putE_n, if_pos h, if_pos h]
    obtain ⟨K, rfl⟩ := Int.eq_ofNat_of_zero_le (show 0 ≤ W by omega)
    rw [Int.toNat_natCast] at *
    exact rput_yes n K w (by omega) (by omega) h3 (dF (by omega))
  · rw [putL, putE_n, if_neg h, if_neg h]
    exact (rput_no n W w (by simpa using h)).mono fun e w' ⟨h, g⟩ => ⟨h, g ▸ Below.refl _ _⟩
end Go.Proofs.Ytkoafkajmfodkaa
