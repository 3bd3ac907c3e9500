/- Contracts of package num's Get and Crc (chapter 1), and of its document's answers, over this seat's translation. -/
import Derived.Test.YtcpihfkhhmggfaaNum
namespace Go.Proofs.Ytcpihfkhhmggfaa
open Go.RowKit

theorem wraps_i64 (n : Int) (h₀ : 0 ≤ n) (h₁ : n < 2 ^ 62) : IntKind.i64.wrap n = n := by rw [IntKind.wrap_i64]; omega
theorem or_join (n c : Int) (h0 : 0 ≤ n) (h1 : n < 1099511627776) (h2 : 0 ≤ c) (h3 : c < 256) : bits .or .i64 (n * 256) c = n * 256 + c :=
  bits_join .i64 62 (by decide) wraps_i64 8 _ _ (by omega) (by omega) (by omega) h2 (by omega) (by omega)

def byteAt (s : ByteArray) (i : Nat) : Nat := (s.data.toList.getD i 0).toNat
theorem byteAt_lt (s : ByteArray) (i : Nat) : byteAt s i < 256 := (s.data.toList.getD i 0).toNat_lt
theorem byte_get {s : ByteArray} {i : Nat} (h : i < s.size) : (s[i]).toNat = byteAt s i := by
  have h' : i < s.data.toList.length := by simpa using h
  unfold byteAt
  rw [List.getD_eq_getElem?_getD, List.getElem?_eq_getElem h']
  rfl

/-- The number of the first k bytes from a place. -/
def getTo (s : ByteArray) (A : Nat) : Nat → Int
  | 0 => 0
  | k + 1 => getTo s A k * 256 + byteAt s (A + k)
theorem getTo_bd (s : ByteArray) (A k : Nat) : 0 ≤ getTo s A k ∧ getTo s A k < 256 ^ k := by
  induction k with
  | zero => simp [getTo]
  | succ k ih =>
    have := byteAt_lt s (A + k)
    simp only [getTo]
    rw [Int.pow_succ]
    omega
theorem getTo_bd40 (s : ByteArray) (A k : Nat) (hk : k < 6) : 0 ≤ getTo s A k ∧ getTo s A k < 1099511627776 := by
  have h := getTo_bd s A k
  rcases (by omega : k = 0 ∨ k = 1 ∨ k = 2 ∨ k = 3 ∨ k = 4 ∨ k = 5) with rfl | rfl | rfl | rfl | rfl | rfl <;> simp at h <;> omega

def getN (s : ByteArray) (A W : Int) : Int := if 1 ≤ W ∧ W ≤ 6 ∧ 0 ≤ A ∧ A + W ≤ (s.size : Int) then getTo s A.toNat W.toNat else 0
def getE (s : ByteArray) (A W : Int) : Int := if 1 ≤ W ∧ W ≤ 6 ∧ 0 ≤ A ∧ A ≤ (s.size : Int) then (if A + W ≤ (s.size : Int) then 0 else 2) else 1

set_option maxHeartbeats 400000 in
theorem get_yes (s : ByteArray) (A W : Nat) (w : World) (h1 : 1 ≤ W) (h2 : W ≤ 6) (h3 : A + W ≤ s.size) (h4 : s.size ≤ 9223372036854775807) : Calls Try.prog 19 #[.string s, .int .i64 A, .int .i64 W] w fun e w' => e = .returned (.tuple #[.int .i64 (getTo s A W), .int .i64 0]) ∧ w = w' := by
  have d : decide ((1 : Int) ≤ (W : Int) ∧ (W : Int) ≤ 6) = true := dT (by omega)
  have d1 := dF (p := (A : Int) < 0) (by omega)
  have d2 := dF (p := s.size < A) (by omega)
  have d3 := dF (p := (s.size : Int) - (A : Int) < (W : Int)) (by omega)
  go_enter Try.func19, Try.ntmps19
  go_wp2_with (first | (go_at_call 38; refine (mayWidth_any _ _).mono ?_; rintro e w' ⟨rfl, rfl⟩))
  go_loop [8, 30] (fun v i => ∃ k : Nat, k ≤ W ∧ i = .int .i64 k ∧ v = .int .i64 (getTo s A k)) (fun _ i => W - (intOf i).toNat)
  case atStart => exact ⟨0, Nat.zero_le _, rfl, rfl⟩
  case round =>
    obtain ⟨k, hk, rfl, rfl⟩ := hrel
    by_cases hlt : k < W
    · have hidx : A + k < s.size := by omega
      obtain ⟨n0, n1⟩ := getTo_bd40 s A k (by omega)
      have hb := byte_get hidx
      have hb2 := byteAt_lt s (A + k)
      have hj := or_join (getTo s A k) (byteAt s (A + k)) n0 n1 (by omega) (by omega)
      go_wp2
      go_round
      case rel => exact ⟨k + 1, by omega, by go_num, rfl⟩
      case measure => simp [intOf]; omega
    · have hkl : k = W := by omega
      subst hkl
      go_wp2
      go_ret2
      exact ⟨rfl, rfl⟩

theorem get_any (s : ByteArray) (A W : Int) (w : World) (h4 : s.size ≤ 9223372036854775807) : Calls Try.prog 19 #[.string s, .int .i64 A, .int .i64 W] w fun e w' => e = .returned (.tuple #[.int .i64 (getN s A W), .int .i64 (getE s A W)]) ∧ w = w' := by
  by_cases h : 1 ≤ W ∧ W ≤ 6 ∧ 0 ≤ A ∧ A ≤ (s.size : Int)
  · by_cases hs : A + W ≤ (s.size : Int)
    · obtain ⟨K, rfl⟩ := Int.eq_ofNat_of_zero_le (show 0 ≤ W by omega)
      obtain ⟨B, rfl⟩ := Int.eq_ofNat_of_zero_le (show 0 ≤ A by omega)
      rw [getN, getE, if_pos (by omega), if_pos h, if_pos hs, Int.toNat_natCast, Int.toNat_natCast]
      exact get_yes s B K w (by omega) (by omega) (by omega) h4
    · rw [getN, getE, if_neg (by omega), if_pos h, if_neg hs]
      obtain ⟨k1, k2, k3, k4⟩ := h
      have d : decide (1 ≤ W ∧ W ≤ 6) = true := dT ⟨k1, k2⟩
      have d1 := dF (p := A < 0) (by omega)
      have d2 := dF (p := (s.size : Int) < A) (by omega)
      have d3 := dT (p := (s.size : Int) - A < W) (by omega)
      clear hs
      go_enter Try.func19, Try.ntmps19
      go_wp2_with (first | (go_at_call 38; refine (mayWidth_any _ _).mono ?_; rintro e w' ⟨rfl, rfl⟩))
      go_ret2
      exact ⟨rfl, rfl⟩
  · rw [getN, getE, if_neg (by omega), if_neg h]
    have hd : decide (1 ≤ W ∧ W ≤ 6) = false ∨ decide (1 ≤ W ∧ W ≤ 6) = true ∧ (decide (A < 0) = true ∨ decide (A < 0) = false ∧ decide ((s.size : Int) < A) = true) := by
      simp only [decide_eq_true_eq, decide_eq_false_iff_not]; omega
    clear h
    rcases hd with d | ⟨d, d1 | ⟨d1, d2⟩⟩
    all_goals
      go_enter Try.func19, Try.ntmps19
      go_wp2_with (first | (go_at_call 38; refine (mayWidth_any _ _).mono ?_; rintro e w' ⟨rfl, rfl⟩))
      go_ret2
      exact ⟨rfl, rfl⟩

set_option maxHeartbeats 400000 in
theorem rget_yes (s : ByteArray) (A W : Nat) (w : World) (h1 : 1 ≤ W) (h2 : W ≤ 6) (h3 : A + W ≤ s.size) (h4 : s.size ≤ 9223372036854775807) : Calls Try.prog 20 #[.string s, .int .i64 A, .int .i64 W] w fun e w' => e = .returned (.tuple #[.int .i64 (getTo s A W), .int .i64 0]) ∧ w = w' := by
  have d := dF (p := (W : Int) < 1) (by omega)
  have d0 := dF (p := 6 < (W : Int)) (by omega)
  have d1 := dF (p := (A : Int) < 0) (by omega)
  have d2 := dF (p := s.size < A) (by omega)
  have d3 := dF (p := (s.size : Int) - (A : Int) < (W : Int)) (by omega)
  go_enter Try.func20, Try.ntmps20
  go_wp2
  go_loop [8, 9] (fun v i => ∃ k : Nat, k ≤ W ∧ i = .int .i64 k ∧ v = .int .i64 (getTo s A k)) (fun _ i => W - (intOf i).toNat)
  case atStart => exact ⟨0, Nat.zero_le _, rfl, rfl⟩
  case round =>
    obtain ⟨k, hk, rfl, rfl⟩ := hrel
    by_cases hlt : k < W
    · have hidx : A + k < s.size := by omega
      obtain ⟨n0, n1⟩ := getTo_bd40 s A k (by omega)
      have hb := byte_get hidx
      have hb2 := byteAt_lt s (A + k)
      have hj := or_join (getTo s A k) (byteAt s (A + k)) n0 n1 (by omega) (by omega)
      go_wp2
      go_round
      case rel => exact ⟨k + 1, by omega, by go_num, rfl⟩
      case measure => simp [intOf]; omega
    · have hkl : k = W := by omega
      subst hkl
      go_wp2
      go_ret2
      exact ⟨rfl, rfl⟩

theorem rget_any (s : ByteArray) (A W : Int) (w : World) (h4 : s.size ≤ 9223372036854775807) : Calls Try.prog 20 #[.string s, .int .i64 A, .int .i64 W] w fun e w' => e = .returned (.tuple #[.int .i64 (getN s A W), .int .i64 (getE s A W)]) ∧ w = w' := by
  by_cases h : 1 ≤ W ∧ W ≤ 6 ∧ 0 ≤ A ∧ A ≤ (s.size : Int)
  · by_cases hs : A + W ≤ (s.size : Int)
    · obtain ⟨K, rfl⟩ := Int.eq_ofNat_of_zero_le (show 0 ≤ W by omega)
      obtain ⟨B, rfl⟩ := Int.eq_ofNat_of_zero_le (show 0 ≤ A by omega)
      rw [getN, getE, if_pos (by omega), if_pos h, if_pos hs, Int.toNat_natCast, Int.toNat_natCast]
      exact rget_yes s B K w (by omega) (by omega) (by omega) h4
    · rw [getN, getE, if_neg (by omega), if_pos h, if_neg hs]
      obtain ⟨k1, k2, k3, k4⟩ := h
      have d := dF (p := W < 1) (by omega)
      have d0 := dF (p := 6 < W) (by omega)
      have d1 := dF (p := A < 0) (by omega)
      have d2 := dF (p := (s.size : Int) < A) (by omega)
      have d3 := dT (p := (s.size : Int) - A < W) (by omega)
      clear hs
      go_enter Try.func20, Try.ntmps20
      go_wp2
      go_ret2
      exact ⟨rfl, rfl⟩
  · rw [getN, getE, if_neg (by omega), if_neg h]
    have hd : decide (W < 1) = true ∨ decide (W < 1) = false ∧ (decide (6 < W) = true ∨ decide (6 < W) = false ∧ (decide (A < 0) = true ∨ decide (A < 0) = false ∧ decide ((s.size : Int) < A) = true)) := by
      simp only [decide_eq_true_eq, decide_eq_false_iff_not]; omega
    clear h
    rcases hd with d | ⟨d, d0 | ⟨d0, d1 | ⟨d1, d2⟩⟩⟩
    all_goals
      go_enter Try.func20, Try.ntmps20
      go_wp2
      go_ret2
      exact ⟨rfl, rfl⟩

/-- One bit's step of the check sum. -/
def cStep (c : Nat) : Nat := if c % 2 = 1 then (c / 2) ^^^ 3988292384 else c / 2
def cSteps (c : Nat) : Nat → Nat
  | 0 => c
  | k + 1 => cStep (cSteps c k)
/-- One byte's. -/
def cByte (c b : Nat) : Nat := cSteps (c ^^^ b) 8
def cTo (s : ByteArray) : Nat → Nat
  | 0 => 4294967295
  | k + 1 => cByte (cTo s k) (byteAt s k)
def crcN (s : ByteArray) : Nat := 4294967295 ^^^ cTo s s.size

theorem xor_lt {a b : Nat} (ha : a < 4294967296) (hb : b < 4294967296) : a ^^^ b < 4294967296 := Nat.xor_lt_two_pow (n := 32) ha hb
theorem cStep_lt {c : Nat} (h : c < 4294967296) : cStep c < 4294967296 := by
  unfold cStep
  split
  · exact xor_lt (by omega) (by decide)
  · omega
theorem cSteps_lt {c : Nat} (h : c < 4294967296) (k : Nat) : cSteps c k < 4294967296 := by
  induction k with
  | zero => exact h
  | succ k ih => exact cStep_lt ih
theorem cTo_lt (s : ByteArray) (k : Nat) : cTo s k < 4294967296 := by
  induction k with
  | zero => simp [cTo]
  | succ k ih => exact cSteps_lt (xor_lt ih (by have := byteAt_lt s k; omega)) 8
theorem and1 {c : Nat} (h1 : c < 4294967296) : bits .and .u32 (c : Int) 1 = ((c % 2 : Nat) : Int) := by
  have := u32_and_nat c 1 h1 (by decide)
  rw [nat_mask1] at this
  exact this
theorem step0 {c : Nat} (h : c < 4294967296) (h2 : c % 2 = 0) : bits .xor .u32 ((c : Int) / 2) (bits .and .u32 3988292384 0) = ((cStep c : Nat) : Int) := by
  have e : bits .and .u32 3988292384 0 = ((0 : Nat) : Int) := by decide
  rw [e, show ((c : Int) / 2) = ((c / 2 : Nat) : Int) from rfl, u32_xor_nat _ _ (by omega) (by decide)]
  simp [cStep, h2]
theorem step1 {c : Nat} (h : c < 4294967296) (h2 : c % 2 = 1) : bits .xor .u32 ((c : Int) / 2) (bits .and .u32 3988292384 4294967295) = ((cStep c : Nat) : Int) := by
  have e : bits .and .u32 3988292384 4294967295 = ((3988292384 : Nat) : Int) := by decide
  rw [e, show ((c : Int) / 2) = ((c / 2 : Nat) : Int) from rfl, u32_xor_nat _ _ (by omega) (by decide)]
  simp [cStep, h2]
theorem step1' {c : Nat} (h : c < 4294967296) (h2 : c % 2 = 1) : bits .xor .u32 ((c : Int) / 2) 3988292384 = ((cStep c : Nat) : Int) := by
  rw [show (3988292384 : Int) = ((3988292384 : Nat) : Int) from rfl, show ((c : Int) / 2) = ((c / 2 : Nat) : Int) from rfl, u32_xor_nat _ _ (by omega) (by decide)]
  simp [cStep, h2]
theorem step0' {c : Nat} (h2 : c % 2 = 0) : ((c : Int) / 2) = ((cStep c : Nat) : Int) := by
  simp [cStep, h2]

theorem crc_any (s : ByteArray) (w : World) (h4 : s.size ≤ 9223372036854775807) : Calls Try.prog 25 #[.string s] w fun e w' => e = .returned (.int .u32 (crcN s : Nat)) ∧ w = w' := by
  go_enter Try.func25, Try.ntmps25
  go_wp2
  go_loop [3, 7] (fun c i => ∃ k : Nat, k ≤ s.size ∧ i = .int .i64 k ∧ c = .int .u32 (cTo s k : Nat)) (fun _ i => s.size - (intOf i).toNat)
  case atStart => exact ⟨0, Nat.zero_le _, rfl, rfl⟩
  case round =>
    obtain ⟨k, hk, rfl, rfl⟩ := hrel
    by_cases hlt : k < s.size
    · have n1 := cTo_lt s k
      have hb := byte_get hlt
      have hb2 := byteAt_lt s k
      have hx := u32_xor_nat (cTo s k) (byteAt s k) n1 (by omega)
      obtain ⟨x, hxe⟩ : ∃ x, cTo s k ^^^ byteAt s k = x := ⟨_, rfl⟩
      have hxl : x < 4294967296 := by rw [← hxe]; exact xor_lt n1 (by omega)
      have HX := Lib.hid hxe
      rw [hxe] at hx
      clear hxe
      go_wp2
      go_loop [3, 16] (fun c i => ∃ j : Nat, j ≤ 8 ∧ i = .int .i64 j ∧ c = .int .u32 (cSteps x j : Nat)) (fun _ i => 8 - (intOf i).toNat)
      case atStart => exact ⟨0, Nat.zero_le _, rfl, rfl⟩
      case round =>
        obtain ⟨j, hj, rfl, rfl⟩ := hrel
        by_cases hlj : j < 8
        · have hc := cSteps_lt hxl j
          have ha := and1 hc
          rcases (by omega : cSteps x j % 2 = 0 ∨ cSteps x j % 2 = 1) with h2 | h2
          · rw [h2] at ha
            have H2 := Lib.hid h2
            clear h2
            go_wp2
            go_round
            case rel => exact ⟨j + 1, by omega, by go_num, by rw [step0 hc H2.out]; rfl⟩
            case measure => simp [intOf]; omega
          · rw [h2] at ha
            have H2 := Lib.hid h2
            clear h2
            go_wp2
            go_round
            case rel => exact ⟨j + 1, by omega, by go_num, by rw [step1 hc H2.out]; rfl⟩
            case measure => simp [intOf]; omega
        · have : j = 8 := by omega
          subst this
          go_wp2
          go_round
          case rel => exact ⟨k + 1, by omega, by go_num, by rw [← HX.out]; rfl⟩
          case measure => simp [intOf]; omega
    · have hkl : k = s.size := by omega
      subst hkl
      have hx := u32_xor_nat 4294967295 (cTo s s.size) (by decide) (cTo_lt s _)
      go_wp2
      go_ret
      exact ⟨ret_int hx, rfl⟩

theorem rcrc_any (s : ByteArray) (w : World) (h4 : s.size ≤ 9223372036854775807) : Calls Try.prog 26 #[.string s] w fun e w' => e = .returned (.int .u32 (crcN s : Nat)) ∧ w = w' := by
  go_enter Try.func26, Try.ntmps26
  go_wp2
  go_loop [3, 4] (fun c i => ∃ k : Nat, k ≤ s.size ∧ i = .int .i64 k ∧ c = .int .u32 (cTo s k : Nat)) (fun _ i => s.size - (intOf i).toNat)
  case atStart => exact ⟨0, Nat.zero_le _, rfl, rfl⟩
  case round =>
    obtain ⟨k, hk, rfl, rfl⟩ := hrel
    by_cases hlt : k < s.size
    · have n1 := cTo_lt s k
      have hb := byte_get hlt
      have hb2 := byteAt_lt s k
      have hx := u32_xor_nat (cTo s k) (byteAt s k) n1 (by omega)
      obtain ⟨x, hxe⟩ : ∃ x, cTo s k ^^^ byteAt s k = x := ⟨_, rfl⟩
      have hxl : x < 4294967296 := by rw [← hxe]; exact xor_lt n1 (by omega)
      have HX := Lib.hid hxe
      rw [hxe] at hx
      clear hxe
      go_wp2
      go_loop [3, 5] (fun c i => ∃ j : Nat, j ≤ 8 ∧ i = .int .i64 j ∧ c = .int .u32 (cSteps x j : Nat)) (fun _ i => 8 - (intOf i).toNat)
      case atStart => exact ⟨0, Nat.zero_le _, rfl, rfl⟩
      case round =>
        obtain ⟨j, hj, rfl, rfl⟩ := hrel
        by_cases hlj : j < 8
        · have hc := cSteps_lt hxl j
          have ha := and1 hc
          rcases (by omega : cSteps x j % 2 = 0 ∨ cSteps x j % 2 = 1) with h2 | h2
          · rw [h2] at ha
            have H2 := Lib.hid h2
            clear h2
            go_wp2
            go_round
            case rel => exact ⟨j + 1, by omega, by go_num, by rw [step0' H2.out]; rfl⟩
            case measure => simp [intOf]; omega
          · rw [h2] at ha
            have H2 := Lib.hid h2
            clear h2
            go_wp2
            go_round
            case rel => exact ⟨j + 1, by omega, by go_num, by rw [step1' hc H2.out]; rfl⟩
            case measure => simp [intOf]; omega
        · have : j = 8 := by omega
          subst this
          go_wp2
          go_round
          case rel => exact ⟨k + 1, by omega, by go_num, by rw [← HX.out]; rfl⟩
          case measure => simp [intOf]; omega
    · have hkl : k = s.size := by omega
      subst hkl
      have hx := u32_xor_nat 4294967295 (cTo s s.size) (by decide) (cTo_lt s _)
      go_wp2
      go_ret
      exact ⟨ret_int hx, rfl⟩
end Go.Proofs.Ytcpihfkhhmggfaa
