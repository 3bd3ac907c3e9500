/- Plain facts on numbers' bytes; NumOrder: the walk. -/
import Derived.Test.YtcpihfkhhmggfaaNumE
namespace Go.Proofs.Ytcpihfkhhmggfaa
open Go.RowKit

theorem putTo_cons (n : Int) (W : Nat) : putTo n (W + 1) (W + 1) = by8 (n / 2 ^ (8 * W)) :: putTo n W W := by
  unfold putTo
  rw [List.range_succ_eq_map]
  simp only [List.map_cons, List.map_map, Nat.add_sub_cancel, Nat.sub_zero]
  congr 1
  apply List.map_congr_left
  intro i hi
  simp only [Function.comp_apply, Nat.succ_eq_add_one]
  rw [show W - (i + 1) = W - 1 - i by omega]

theorem pow8 (W : Nat) : (2 : Int) ^ (8 * (W + 1)) = 256 * 2 ^ (8 * W) := by
  rw [show 8 * (W + 1) = 8 * W + 8 by omega, Int.pow_add]
  omega
theorem pow8_pos (W : Nat) : (0 : Int) < 2 ^ (8 * W) := Int.pow_pos (by decide)

theorem by8_lt {m n : Int} (hm : 0 ≤ m ∧ m < 256) (hn : 0 ≤ n ∧ n < 256) : (by8 m < by8 n ↔ m < n) ∧ (by8 m = by8 n ↔ m = n) := by
  have h1 := by8_toNat m
  have h2 := by8_toNat n
  refine ⟨?_, ?_⟩
  · rw [UInt8.lt_iff_toNat_lt]; omega
  · constructor
    · intro h
      rw [h] at h1
      omega
    · intro h; rw [h]

/-- The bytes of a number depend on what is left of it alone. -/
theorem putTo_mod (n : Int) (W : Nat) : putTo n W W = putTo (n % 2 ^ (8 * W)) W W := by
  unfold putTo
  apply List.map_congr_left
  intro i hi
  have hi' : i < W := by simpa using hi
  have hp : (2 : Int) ^ (8 * W) = 2 ^ (8 * (W - 1 - i)) * (256 * 2 ^ (8 * i)) := by
    rw [← pow8, ← Int.pow_add]
    congr 1
    omega
  have hq := pow8_pos (W - 1 - i)
  generalize (2 : Int) ^ (8 * (W - 1 - i)) = q at *
  generalize (2 : Int) ^ (8 * i) = r at *
  unfold by8
  congr 2
  rw [hp]
  have e := Int.emod_add_mul_ediv n (q * (256 * r))
  generalize n % (q * (256 * r)) = m at *
  generalize n / (q * (256 * r)) = k at *
  have e2 : n = m + q * (256 * (r * k)) := by rw [← e]; simp only [Int.mul_assoc]
  rw [e2, Int.add_mul_ediv_left _ _ (by omega), Int.add_mul_emod_self_left]

theorem ltPow (n : Int) (W : Nat) (h0 : 0 ≤ n) (h1 : n < 2 ^ (8 * (W + 1))) : 0 ≤ n / 2 ^ (8 * W) ∧ n / 2 ^ (8 * W) < 256 ∧ 0 ≤ n % 2 ^ (8 * W) ∧ n % 2 ^ (8 * W) < 2 ^ (8 * W) := by
  have hp := pow8_pos W
  refine ⟨Int.ediv_nonneg h0 (by omega), ?_, Int.emod_nonneg _ (by omega), Int.emod_lt_of_pos _ hp⟩
  rw [pow8] at h1
  exact Int.ediv_lt_of_lt_mul hp h1

theorem divmod_lt (a b P : Int) (hP : 0 < P) : (a < b ↔ a / P < b / P ∨ a / P = b / P ∧ a % P < b % P) ∧ (a = b ↔ a / P = b / P ∧ a % P = b % P) := by
  have ha := Int.emod_add_mul_ediv a P
  have hb := Int.emod_add_mul_ediv b P
  have ha0 := Int.emod_nonneg a (show P ≠ 0 by omega)
  have hb0 := Int.emod_nonneg b (show P ≠ 0 by omega)
  have ha1 := Int.emod_lt_of_pos a hP
  have hb1 := Int.emod_lt_of_pos b hP
  generalize a / P = qa at *
  generalize b / P = qb at *
  generalize a % P = ra at *
  generalize b % P = rb at *
  subst ha hb
  rcases Int.lt_trichotomy qa qb with h | h | h
  · have h2 : P * (qa + 1) ≤ P * qb := Int.mul_le_mul_of_nonneg_left (by omega) (by omega)
    rw [Int.mul_add] at h2
    omega
  · subst h; omega
  · have h2 : P * (qb + 1) ≤ P * qa := Int.mul_le_mul_of_nonneg_left (by omega) (by omega)
    rw [Int.mul_add] at h2
    omega

theorem put_order (W : Nat) : ∀ a b : Int, 0 ≤ a → a < 2 ^ (8 * W) → 0 ≤ b → b < 2 ^ (8 * W) →
    Op.bytesLess (putTo a W W) (putTo b W W) = decide (a < b) ∧ (putTo a W W == putTo b W W) = (a == b) := by
  induction W with
  | zero =>
    intro a b a0 a1 b0 b1
    have : a = 0 := by simp at a1; omega
    have : b = 0 := by simp at b1; omega
    subst a b
    decide
  | succ W ih =>
    intro a b a0 a1 b0 b1
    obtain ⟨x0, x1, x2, x3⟩ := ltPow a W a0 a1
    obtain ⟨y0, y1, y2, y3⟩ := ltPow b W b0 b1
    obtain ⟨h1, h2⟩ := ih _ _ x2 x3 y2 y3
    rw [← putTo_mod, ← putTo_mod] at h1 h2
    obtain ⟨g1, g2⟩ := by8_lt ⟨x0, x1⟩ ⟨y0, y1⟩
    obtain ⟨k1, k2⟩ := divmod_lt a b _ (pow8_pos W)
    rw [putTo_cons, putTo_cons]
    constructor
    · rw [Op.bytesLess, h1, Bool.eq_iff_iff]
      simp only [Bool.or_eq_true, Bool.and_eq_true, decide_eq_true_eq, beq_iff_eq, g1, g2, k1]
    · rw [Bool.eq_iff_iff, List.cons_beq_cons, Bool.and_eq_true, h2]
      simp only [beq_iff_eq, g2, k2]

theorem fits_iff (n : Int) (W : Nat) : fits n W = true ↔ 1 ≤ W ∧ W ≤ 6 ∧ 0 ≤ n ∧ n < 2 ^ (8 * W) := by
  have hp := pow8_pos W
  simp only [fits, decide_eq_true_eq, Int.toNat_natCast]
  constructor
  · rintro ⟨h1, h2, h3, h4⟩
    refine ⟨by omega, by omega, h3, ?_⟩
    have := Int.lt_mul_ediv_self_add (x := n) hp
    have h5 : n / 2 ^ (8 * W) = 0 := by have := Int.ediv_nonneg h3 (Int.le_of_lt hp); omega
    rw [h5] at this
    omega
  · rintro ⟨h1, h2, h3, h4⟩
    exact ⟨by omega, by omega, h3, by rw [Int.ediv_eq_zero_of_lt h3 h4]; omega⟩

theorem wrapPow (K : Nat) (h : K ≤ 6) : wrap64 ((2 : Int) ^ (8 * K)) = 2 ^ (8 * K) := by
  rcases (by omega : K = 0 ∨ K = 1 ∨ K = 2 ∨ K = 3 ∨ K = 4 ∨ K = 5 ∨ K = 6) with rfl | rfl | rfl | rfl | rfl | rfl | rfl <;> exact IntWalk.wrap64_in _ ⟨by simp, by simp⟩

theorem putN_len (n : Int) (K : Nat) : (bs (putTo n K K)).size = K := by rw [bs_size, putTo_length]

set_option maxRecDepth 100000 in
set_option maxHeartbeats 1000000 in
theorem walkOrderIn (a b : Int) (K : Nat) (w : World) (k1 : 1 ≤ K) (k6 : K ≤ 6) :
    Calls Try.prog 7 #[.int .i64 a, .int .i64 b, .int .i64 K] w fun e w' => e = .returned (.bool true) ∧ Below w.heap.size w w' := by
  have d1 := dT (p := 1 ≤ K) (by omega)
  have d2 := dT (p := (K : Int) ≤ 6) (by omega)
  have hcase : (fits a K = false ∧ putE a K = 1 ∧ putL a K = [] ∧ (decide (0 ≤ a) = false ∨ decide (0 ≤ a) = true ∧ decide (a < wrap64 (2 ^ (8 * K))) = false)) ∨
      (fits a K = true ∧ putE a K = 0 ∧ putL a K = putTo a K K ∧ decide (0 ≤ a) = true ∧ decide (a < wrap64 (2 ^ (8 * K))) = true) := by
    have hi := fits_iff a K
    rw [wrapPow K k6]
    cases hf : fits a K
    · left
      refine ⟨rfl, by simp [putE, hf], by simp [putL, hf], ?_⟩
      rw [hf] at hi
      simp only [decide_eq_true_eq, decide_eq_false_iff_not]
      have : ¬ (0 ≤ a ∧ a < 2 ^ (8 * K)) := fun h => by
        have := hi.2 ⟨k1, k6, h.1, h.2⟩
        exact absurd this (by simp)
      omega
    · right
      have := hi.1 hf
      exact ⟨rfl, by simp [putE, hf], by simp [putL, hf], dT this.2.2.1, dT this.2.2.2⟩
  have hcb : (putE b K = 1 ∧ putL b K = []) ∨ (fits b K = true ∧ putE b K = 0 ∧ putL b K = putTo b K K) := by
    cases hf : fits b K
    · left; simp [putE, putL, hf]
    · right; simp [putE, putL, hf]
  have z0 : (bs []).toList = [] := bs_toList _
  rcases hcase with ⟨_, e1, e2, hd⟩ | ⟨hfa, e1, e2, hd1, hd2⟩
  · rcases hcb with ⟨e3, e4⟩ | ⟨_, e3, e4⟩
    · rcases hd with hd | ⟨hd, hd2⟩
      all_goals
        go_enter Try.func7, Try.ntmps7
        go_wp2_with fail
        refine (nfirst _).mono ?_; rintro e w1 ⟨rfl, hb⟩
        have HB1 := Lib.hid hb; clear hb
        go_wp2_with fail
        refine (put_any _ _ _).mono ?_; rintro e w2 ⟨rfl, hb⟩
        have HB2 := Lib.hid (HB1.out.trans (hb.mono HB1.out.size)); clear hb
        go_wp2_with fail
        refine (put_any _ _ _).mono ?_; rintro e w3 ⟨rfl, hb⟩
        have HB3 := Lib.hid (HB2.out.trans (hb.mono HB2.out.size)); clear hb
        go_wp2_with fail
        refine (nfirst _).mono ?_; rintro e w4 ⟨rfl, hb⟩
        have HB4 := Lib.hid (HB3.out.trans (hb.mono HB3.out.size)); clear hb
        go_wp2
        go_ret
        exact ⟨rfl, HB4.out⟩
    · rcases hd with hd | ⟨hd, hd2⟩
      all_goals
        go_enter Try.func7, Try.ntmps7
        go_wp2_with fail
        refine (nfirst _).mono ?_; rintro e w1 ⟨rfl, hb⟩
        have HB1 := Lib.hid hb; clear hb
        go_wp2_with fail
        refine (put_any _ _ _).mono ?_; rintro e w2 ⟨rfl, hb⟩
        have HB2 := Lib.hid (HB1.out.trans (hb.mono HB1.out.size)); clear hb
        go_wp2_with fail
        refine (put_any _ _ _).mono ?_; rintro e w3 ⟨rfl, hb⟩
        have HB3 := Lib.hid (HB2.out.trans (hb.mono HB2.out.size)); clear hb
        go_wp2_with fail
        refine (nfirst _).mono ?_; rintro e w4 ⟨rfl, hb⟩
        have HB4 := Lib.hid (HB3.out.trans (hb.mono HB3.out.size)); clear hb
        go_wp2
        go_ret
        exact ⟨rfl, HB4.out⟩
  · rcases hcb with ⟨e3, e4⟩ | ⟨hfb, e3, e4⟩
    · clear hfa
      go_enter Try.func7, Try.ntmps7
      go_wp2_with fail
      refine (nfirst _).mono ?_; rintro e w1 ⟨rfl, hb⟩
      have HB1 := Lib.hid hb; clear hb
      go_wp2_with fail
      refine (put_any _ _ _).mono ?_; rintro e w2 ⟨rfl, hb⟩
      have HB2 := Lib.hid (HB1.out.trans (hb.mono HB1.out.size)); clear hb
      go_wp2_with fail
      refine (put_any _ _ _).mono ?_; rintro e w3 ⟨rfl, hb⟩
      have HB3 := Lib.hid (HB2.out.trans (hb.mono HB2.out.size)); clear hb
      go_wp2_with fail
      refine (nfirst _).mono ?_; rintro e w4 ⟨rfl, hb⟩
      have HB4 := Lib.hid (HB3.out.trans (hb.mono HB3.out.size)); clear hb
      go_wp2
      go_ret
      exact ⟨rfl, HB4.out⟩
    · obtain ⟨_, _, a0, a1⟩ := (fits_iff a K).1 hfa
      obtain ⟨_, _, b0, b1⟩ := (fits_iff b K).1 hfb
      obtain ⟨o1, o2⟩ := put_order K a b a0 a1 b0 b1
      have s1 := putN_len a K
      have s2 := putN_len b K
      have t1 : Op.bytesLess (bs (putTo a K K)).toList (bs (putTo b K K)).toList = decide (a < b) := by rw [bs_toList, bs_toList]; exact o1
      have t2 : ((bs (putTo a K K)).toList == (bs (putTo b K K)).toList) = (a == b) := by rw [bs_toList, bs_toList]; exact o2
      clear hfa hfb a1 b0 b1 o1 o2
      obtain ⟨x, hx⟩ : ∃ x, decide (a < b) = x := ⟨_, rfl⟩
      obtain ⟨y, hy⟩ : ∃ y, (a == b) = y := ⟨_, rfl⟩
      rw [hx] at t1
      rw [hy] at t2
      go_enter Try.func7, Try.ntmps7
      go_wp2_with fail
      refine (nfirst _).mono ?_; rintro e w1 ⟨rfl, hb⟩
      have HB1 := Lib.hid hb; clear hb
      go_wp2_with fail
      refine (put_any _ _ _).mono ?_; rintro e w2 ⟨rfl, hb⟩
      have HB2 := Lib.hid (HB1.out.trans (hb.mono HB1.out.size)); clear hb
      go_wp2_with fail
      refine (put_any _ _ _).mono ?_; rintro e w3 ⟨rfl, hb⟩
      have HB3 := Lib.hid (HB2.out.trans (hb.mono HB2.out.size)); clear hb
      go_wp2_with fail
      refine (nfirst _).mono ?_; rintro e w4 ⟨rfl, hb⟩
      have HB4 := Lib.hid (HB3.out.trans (hb.mono HB3.out.size)); clear hb
      go_wp2
      go_ret
      exact ⟨rfl, HB4.out⟩

set_option maxRecDepth 100000 in
set_option maxHeartbeats 1000000 in
theorem walkOrderOut (a b W : Int) (w : World) (hW : ¬ (1 ≤ W ∧ W ≤ 6)) :
    Calls Try.prog 7 #[.int .i64 a, .int .i64 b, .int .i64 W] w fun e w' => e = .returned (.bool true) ∧ Below w.heap.size w w' := by
  have hf : ∀ n, fits n W = false := fun n => by simp [fits]; omega
  have e1 : putE a W = 1 := by simp [putE, hf]
  have e2 : putL a W = [] := by simp [putL, hf]
  have e3 : putE b W = 1 := by simp [putE, hf]
  have e4 : putL b W = [] := by simp [putL, hf]
  have z0 : (bs []).toList = [] := bs_toList _
  have hd : decide (1 ≤ W) = false ∨ decide (1 ≤ W) = true ∧ decide (W ≤ 6) = false := by
    simp only [decide_eq_true_eq, decide_eq_false_iff_not]; omega
  clear hf hW
  rcases hd with hd | ⟨hd, hd2⟩
  all_goals
    go_enter Try.func7, Try.ntmps7
    go_wp2_with fail
    refine (nfirst _).mono ?_; rintro e w1 ⟨rfl, hb⟩
    have HB1 := Lib.hid hb; clear hb
    go_wp2_with fail
    refine (put_any _ _ _).mono ?_; rintro e w2 ⟨rfl, hb⟩
    have HB2 := Lib.hid (HB1.out.trans (hb.mono HB1.out.size)); clear hb
    go_wp2_with fail
    refine (put_any _ _ _).mono ?_; rintro e w3 ⟨rfl, hb⟩
    have HB3 := Lib.hid (HB2.out.trans (hb.mono HB2.out.size)); clear hb
    go_wp2_with fail
    refine (nfirst _).mono ?_; rintro e w4 ⟨rfl, hb⟩
    have HB4 := Lib.hid (HB3.out.trans (hb.mono HB3.out.size)); clear hb
    go_wp2
    go_ret
    exact ⟨rfl, HB4.out⟩
end Go.Proofs.Ytcpihfkhhmggfaa
