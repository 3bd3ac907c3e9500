/- Texts that others rest on, one behind the other: RdE, NumA, Num, Get, RdF, RdG, Join, RdA, RdH, RdI, RdK, RdL, RdM, RdN, RdB, RdO, RdC, RdD, RdP, GetP, RdQ, RdR, RdT, RdU. -/
import Derived.Test.YthfnphcefkdgbaaMgA
import Derived.Deep.RegionWith
section
namespace Go.Proofs.Ythfnphcefkdgbaa
open Go.RowKit

/-- Where the name that stands ahead has its end. -/
def hRun (s : ByteArray) : Nat → Nat → Nat
  | 0, i => i
  | f + 1, i => if i < s.size then (if byteAt s i = 0 then i else hRun s f (i + 1 + byteAt s i)) else i
def hN (s : ByteArray) : Nat := hRun s s.size 0
theorem hRun_more (s : ByteArray) : ∀ (f i : Nat), s.size ≤ i + f → hRun s (f + 1) i = hRun s f i := by
  intro f
  induction f with
  | zero => intro i h; show (if i < s.size then _ else _) = _; rw [if_neg (by omega)]; rfl
  | succ f ih =>
    intro i h
    show (if i < s.size then (if byteAt s i = 0 then i else hRun s (f + 1) (i + 1 + byteAt s i)) else i) = (if i < s.size then (if byteAt s i = 0 then i else hRun s f (i + 1 + byteAt s i)) else i)
    rw [ih _ (by omega)]
theorem hRun_step (s : ByteArray) (i : Nat) : hRun s s.size i = if i < s.size then (if byteAt s i = 0 then i else hRun s s.size (i + 1 + byteAt s i)) else i := by
  rw [← hRun_more s s.size i (by omega)]
  rfl

/-- The first bytes of a text. -/
def Pre (t s : ByteArray) : Prop := t.size ≤ s.size ∧ ∀ j, j < t.size → byteAt t j = byteAt s j
theorem hRun_pre {t s : ByteArray} (h : Pre t s) : ∀ (d i : Nat), t.size - i ≤ d → hRun t t.size i < t.size → hRun s s.size i = hRun t t.size i := by
  intro d
  induction d with
  | zero =>
    intro i h1 h2
    rw [hRun_step, if_neg (by omega)] at h2
    omega
  | succ d ih =>
    intro i h1 h2
    by_cases hi : i < t.size
    · have hb := h.2 i hi
      have hs := h.1
      rw [hRun_step t, if_pos hi] at h2 ⊢
      rw [hRun_step s, if_pos (by omega), ← hb]
      by_cases h0 : byteAt t i = 0
      · rw [if_pos h0, if_pos h0]
      · rw [if_neg h0] at h2
        rw [if_neg h0, if_neg h0]
        exact ih _ (by omega) h2
    · rw [hRun_step, if_neg hi] at h2
      omega
theorem hN_pre {t s : ByteArray} (h : Pre t s) (h2 : hN t < t.size) : hN s = hN t := hRun_pre h t.size 0 (by omega) h2

theorem mayRun_hRun (s : ByteArray) : ∀ (d i : Nat), s.size - i ≤ d → i < s.size → mayRun s s.size i = true → hRun s s.size i = s.size - 1 := by
  intro d
  induction d with
  | zero => intro i h1 h2; omega
  | succ d ih =>
    intro i h1 h2 h3
    by_cases hi : i + 1 < s.size
    · rw [mayRun_step s i hi] at h3
      simp only [okStep, Bool.and_eq_true, decide_eq_true_eq] at h3
      obtain ⟨⟨⟨⟨k1, k2⟩, k3⟩, _⟩, k5⟩ := h3
      rw [hRun_step, if_pos h2, if_neg (by omega)]
      exact ih _ (by omega) k3 k5
    · rw [mayRun_end s s.size i hi] at h3
      rw [hRun_step, if_pos h2, if_pos (by simpa using h3)]
      omega
theorem mayN_size {s : ByteArray} (h : mayN s = true) : 1 ≤ s.size ∧ s.size ≤ 255 := by
  simp only [mayN, Bool.and_eq_true, decide_eq_true_eq] at h
  exact h.1
theorem mayN_hN {s : ByteArray} (h : mayN s = true) : hN s = s.size - 1 := by
  have h1 := mayN_size h
  simp only [mayN, Bool.and_eq_true, decide_eq_true_eq] at h
  exact mayRun_hRun s s.size 0 (by omega) (by omega) h.2
theorem name_pre {t s : ByteArray} (h : Pre t s) (ht : mayN t = true) (hs : mayN s = true) : t.size = s.size := by
  have h1 := mayN_hN ht
  have h2 := mayN_hN hs
  have h3 := mayN_size ht
  have h4 := mayN_size hs
  have h5 := hN_pre h (by omega)
  omega

/-- The parts of an SOA's data. -/
def headOk (s : ByteArray) : Bool := decide (hN s < s.size) && mayN (s.extract 0 (hN s + 1))
def rest1 (s : ByteArray) : ByteArray := s.extract (hN s + 1) s.size
def head1 (s : ByteArray) : ByteArray := s.extract 0 (hN s + 1)
def soaOk (s : ByteArray) : Bool := headOk s && headOk (rest1 s) && decide ((rest1 (rest1 s)).size = 20)
theorem headOk_lt {s : ByteArray} (h : headOk s = true) : hN s < s.size := by
  simp only [headOk, Bool.and_eq_true, decide_eq_true_eq] at h
  exact h.1
theorem headOk_may {s : ByteArray} (h : headOk s = true) : mayN (head1 s) = true := by
  simp only [headOk, Bool.and_eq_true, decide_eq_true_eq] at h
  exact h.2
theorem rest1_size (s : ByteArray) : (rest1 s).size = s.size - (hN s + 1) := extract_size _ _ _ (Nat.le_refl _)
theorem pre_tail {t s : ByteArray} (h : Pre t s) (k : Nat) : Pre (t.extract k t.size) (s.extract k s.size) := by
  have h1 := h.1
  constructor
  · rw [extract_size _ _ _ (Nat.le_refl _), extract_size _ _ _ (Nat.le_refl _)]; omega
  · intro j hj
    rw [extract_size _ _ _ (Nat.le_refl _)] at hj
    rw [byteAt_extract _ _ _ _ (Nat.le_refl _) (by omega), byteAt_extract _ _ _ _ (Nat.le_refl _) (by omega)]
    exact h.2 _ (by omega)
theorem soa_pre {t s : ByteArray} (h : Pre t s) (ht : soaOk t = true) (hs : soaOk s = true) : t.size = s.size := by
  simp only [soaOk, Bool.and_eq_true, decide_eq_true_eq] at ht hs
  obtain ⟨⟨t1, t2⟩, t3⟩ := ht
  obtain ⟨⟨s1, s2⟩, s3⟩ := hs
  have a1 := headOk_lt t1
  have a2 := headOk_lt t2
  have e1 := hN_pre h a1
  have hp : Pre (rest1 t) (rest1 s) := by unfold rest1; rw [e1]; exact pre_tail h _
  have e2 := hN_pre hp a2
  have a3 := headOk_lt s1
  have a4 := headOk_lt s2
  rw [rest1_size] at t3 s3
  rw [rest1_size] at t3 s3 a2 a4
  omega
theorem pre_cut (s : ByteArray) (c : Nat) (h : c ≤ s.size) : Pre (s.extract 0 c) s := by
  constructor
  · rw [extract_size _ _ _ h]; omega
  · intro j hj
    rw [extract_size _ _ _ h] at hj
    rw [byteAt_extract _ _ _ _ h (by omega), Nat.zero_add]
theorem byteAt_append_left (s t : ByteArray) (j : Nat) (h : j < s.size) : byteAt (s ++ t) j = byteAt s j := by
  have h' : j < s.data.toList.length := by simpa using h
  unfold byteAt
  rw [ByteArray.data_append, Array.toList_append, List.getD_eq_getElem?_getD, List.getD_eq_getElem?_getD, List.getElem?_append_left h']
theorem byteAt_append_right (s t : ByteArray) (j : Nat) : byteAt (s ++ t) (s.size + j) = byteAt t j := by
  have h' : s.data.toList.length = s.size := by simp
  unfold byteAt
  rw [ByteArray.data_append, Array.toList_append, List.getD_eq_getElem?_getD, List.getD_eq_getElem?_getD, List.getElem?_append_right (by omega)]
  congr 2
  simp
theorem pre_add (s t : ByteArray) : Pre s (s ++ t) := by
  constructor
  · rw [ByteArray.size_append]; omega
  · intro j hj
    rw [byteAt_append_left s t j hj]
/-- Two texts of the same bytes. -/
theorem byteAt_ext {s t : ByteArray} (h : s.size = t.size) (hb : ∀ j, j < s.size → byteAt s j = byteAt t j) : s = t := by
  apply ByteArray.ext
  apply Array.ext
  · exact h
  · intro i h1 h2
    have e1 := byte_get (s := s) (i := i) h1
    have e2 := byte_get (s := t) (i := i) h2
    have := hb i h1
    rw [← e1, ← e2] at this
    exact UInt8.toNat_inj.mp this
end Go.Proofs.Ythfnphcefkdgbaa
end

section
namespace Go.Proofs.Ythfnphcefkdgbaa
open Go.RowKit

theorem mayWidth_any (n : Int) (w : World) : Calls Try.prog 134 #[.int .i64 n] w fun e w' => e = .returned (.bool (decide (1 ≤ n ∧ n ≤ 6))) ∧ w = w' := by
  go_enter Try.func134, Try.ntmps134
  go_wp2
  all_goals (go_ret; refine ⟨ret_bool ?_, rfl⟩; simp; try omega)

/-- The first k of the W bytes of n. -/
def putTo (n : Int) (W k : Nat) : List UInt8 := (List.range k).map fun i => by8 (n / 2 ^ (8 * (W - 1 - i)))
theorem putTo_length (n : Int) (W k : Nat) : (putTo n W k).length = k := by simp [putTo]
theorem putTo_succ (n : Int) (W k : Nat) : putTo n W (k + 1) = putTo n W k ++ [by8 (n / 2 ^ (8 * (W - 1 - k)))] := by simp [putTo, List.range_succ]

/-- May n stand in W bytes? -/
def fits (n W : Int) : Bool := decide (1 ≤ W ∧ W ≤ 6 ∧ 0 ≤ n ∧ n / 2 ^ (8 * W.toNat) ≤ 0)
def putL (n W : Int) : List UInt8 := if fits n W = true then putTo n W.toNat W.toNat else []
def putE (n W : Int) : Int := if fits n W = true then 0 else 1

theorem put_step (n : Int) (W k : Nat) (h : k < W) (v : Value) (hv : v = .int .u8 (n / 2 ^ (8 * (W - 1 - k)) % 256)) :
    (bc (putTo n W k ++ List.replicate (W - k) 0)).set k v = bc (putTo n W (k + 1) ++ List.replicate (W - (k + 1)) 0) := by
  have e : W - k = (W - (k + 1)) + 1 := by omega
  rw [e, List.replicate_succ, putTo_succ, bc_append, List.set_append_right _ _ (by simp [bc_length, putTo_length])]
  simp [putTo_length, bc, by8_toNat, hv]

end Go.Proofs.Ythfnphcefkdgbaa
end

section
namespace Go.Proofs.Ythfnphcefkdgbaa
open Go.RowKit

end Go.Proofs.Ythfnphcefkdgbaa
end

section
namespace Go.Proofs.Ythfnphcefkdgbaa
open Go.RowKit

theorem wraps_i64R (n : Int) (h₀ : 0 ≤ n) (h₁ : n < 2 ^ 62) : IntKind.i64.wrap n = n := by rw [IntKind.wrap_i64]; omega
theorem or_join (n c : Int) (h0 : 0 ≤ n) (h1 : n < 1099511627776) (h2 : 0 ≤ c) (h3 : c < 256) : bits .or .i64 (n * 256) c = n * 256 + c :=
  bits_join .i64 62 (by decide) wraps_i64R 8 _ _ (by omega) (by omega) (by omega) h2 (by omega) (by omega)

/-- The number of the first k bytes from a place. -/
def getTo (s : ByteArray) (A : Nat) : Nat → Int
  | 0 => 0
  | k + 1 => getTo s A k * 256 + byteAt s (A + k)
theorem getTo_bd (s : ByteArray) (A k : Nat) : 0 ≤ getTo s A k ∧ getTo s A k < 256 ^ k := by
  induction k with
  | zero => simp [getTo]
  | succ k ih =>
    have := byteAt_lt s (A + k)
    simp only [getTo]
    rw [Int.pow_succ]
    omega
theorem getTo_bd40 (s : ByteArray) (A k : Nat) (hk : k < 6) : 0 ≤ getTo s A k ∧ getTo s A k < 1099511627776 := by
  have h := getTo_bd s A k
  rcases (by omega : k = 0 ∨ k = 1 ∨ k = 2 ∨ k = 3 ∨ k = 4 ∨ k = 5) with rfl | rfl | rfl | rfl | rfl | rfl <;> simp at h <;> omega

def getN (s : ByteArray) (A W : Int) : Int := if 1 ≤ W ∧ W ≤ 6 ∧ 0 ≤ A ∧ A + W ≤ (s.size : Int) then getTo s A.toNat W.toNat else 0
def getE (s : ByteArray) (A W : Int) : Int := if 1 ≤ W ∧ W ≤ 6 ∧ 0 ≤ A ∧ A ≤ (s.size : Int) then (if A + W ≤ (s.size : Int) then 0 else 2) else 1

set_option maxRecDepth 100000 in
set_option maxHeartbeats 400000 in
theorem get_yes (s : ByteArray) (A W : Nat) (w : World) (h1 : 1 ≤ W) (h2 : W ≤ 6) (h3 : A + W ≤ s.size) (h4 : s.size ≤ 9223372036854775807) : Calls Try.prog 119 #[.string s, .int .i64 A, .int .i64 W] w fun e w' => e = .returned (.tuple #[.int .i64 (getTo s A W), .int .i64 0]) ∧ w = w' := by
  have d : decide ((1 : Int) ≤ (W : Int) ∧ (W : Int) ≤ 6) = true := dT (by omega)
  have d1 := dF (p := (A : Int) < 0) (by omega)
  have d2 := dF (p := s.size < A) (by omega)
  have d3 := dF (p := (s.size : Int) - (A : Int) < (W : Int)) (by omega)
  go_enter Try.func119, Try.ntmps119
  go_wp2_with (first | (go_at_call 134; refine (mayWidth_any _ _).mono ?_; rintro e w' ⟨rfl, rfl⟩))
  go_loop [8, 30] (fun v i => ∃ k : Nat, k ≤ W ∧ i = .int .i64 k ∧ v = .int .i64 (getTo s A k)) (fun _ i => W - (intOf i).toNat)
  case atStart => exact ⟨0, Nat.zero_le _, rfl, rfl⟩
  case round =>
    obtain ⟨k, hk, rfl, rfl⟩ := hrel
    by_cases hlt : k < W
    · have hidx : A + k < s.size := by omega
      obtain ⟨n0, n1⟩ := getTo_bd40 s A k (by omega)
      have hb := byte_get hidx
      have hb2 := byteAt_lt s (A + k)
      have hj := or_join (getTo s A k) (byteAt s (A + k)) n0 n1 (by omega) (by omega)
      go_wp2
      go_round
      case rel => exact ⟨k + 1, by omega, by go_num, rfl⟩
      case measure => simp [intOf]; omega
    · have hkl : k = W := by omega
      subst hkl
      go_wp2
      go_ret2
      exact ⟨rfl, rfl⟩

theorem get_any (s : ByteArray) (A W : Int) (w : World) (h4 : s.size ≤ 9223372036854775807) : Calls Try.prog 119 #[.string s, .int .i64 A, .int .i64 W] w fun e w' => e = .returned (.tuple #[.int .i64 (getN s A W), .int .i64 (getE s A W)]) ∧ w = w' := by
  by_cases h : 1 ≤ W ∧ W ≤ 6 ∧ 0 ≤ A ∧ A ≤ (s.size : Int)
  · by_cases hs : A + W ≤ (s.size : Int)
    · obtain ⟨K, rfl⟩ := Int.eq_ofNat_of_zero_le (show 0 ≤ W by omega)
      obtain ⟨B, rfl⟩ := Int.eq_ofNat_of_zero_le (show 0 ≤ A by omega)
      rw [getN, getE, if_pos (by omega), if_pos h, if_pos hs, Int.toNat_natCast, Int.toNat_natCast]
      exact get_yes s B K w (by omega) (by omega) (by omega) h4
    · rw [getN, getE, if_neg (by omega), if_pos h, if_neg hs]
      obtain ⟨k1, k2, k3, k4⟩ := h
      have d : decide (1 ≤ W ∧ W ≤ 6) = true := dT ⟨k1, k2⟩
      have d1 := dF (p := A < 0) (by omega)
      have d2 := dF (p := (s.size : Int) < A) (by omega)
      have d3 := dT (p := (s.size : Int) - A < W) (by omega)
      clear hs
      go_enter Try.func119, Try.ntmps119
      go_wp2_with (first | (go_at_call 134; refine (mayWidth_any _ _).mono ?_; rintro e w' ⟨rfl, rfl⟩))
      go_ret2
      exact ⟨rfl, rfl⟩
  · rw [getN, getE, if_neg (by omega), if_neg h]
    have hd : decide (1 ≤ W ∧ W ≤ 6) = false ∨ decide (1 ≤ W ∧ W ≤ 6) = true ∧ (decide (A < 0) = true ∨ decide (A < 0) = false ∧ decide ((s.size : Int) < A) = true) := by
      simp only [decide_eq_true_eq, decide_eq_false_iff_not]; omega
    clear h
    rcases hd with d | ⟨d, d1 | ⟨d1, d2⟩⟩
    all_goals
      go_enter Try.func119, Try.ntmps119
      go_wp2_with (first | (go_at_call 134; refine (mayWidth_any _ _).mono ?_; rintro e w' ⟨rfl, rfl⟩))
      go_ret2
      exact ⟨rfl, rfl⟩

end Go.Proofs.Ythfnphcefkdgbaa
end

section
namespace Go.Proofs.Ythfnphcefkdgbaa
open Go.RowKit

def headV (s : ByteArray) : Value := if headOk s = true then .tuple #[.string (head1 s), .string (rest1 s), .bool true] else .tuple #[.string ⟨#[]⟩, .string ⟨#[]⟩, .bool false]
set_option maxRecDepth 100000 in
theorem head_any (s : ByteArray) (w : World) (hs : s.size ≤ 1000000) : Calls Try.prog 118 #[.string s] w fun e w' => e = .returned (headV s) ∧ ∃ n, w' = w.drewN n := by
  go_enter Try.func118, Try.ntmps118
  go_wp2
  go_loop [5] (fun i => ∃ k : Nat, k ≤ 2000000 ∧ Hid (hN s = hRun s s.size k) ∧ i = .int .i64 k) (fun i => s.size - (intOf i).toNat)
  case atStart => exact ⟨0, by omega, rfl, rfl⟩
  case round =>
    obtain ⟨k, hk, hr, rfl⟩ := hrel
    have hst := hRun_step s k
    by_cases hlt : k < s.size
    · rw [if_pos hlt] at hst
      have hb := byte_get hlt
      have hb2 := byteAt_lt s k
      have HB := Lib.hid (show ∃ b, byteAt s k = b from ⟨_, rfl⟩)
      have hbe := HB.out
      obtain ⟨b, hbe⟩ := hbe
      rw [hbe] at hb hb2 hst
      by_cases h0 : b = 0
      · subst h0
        rw [if_pos rfl] at hst
        have hN' : hN s = k := hr.out.trans hst
        have d : (decide ((s.size : Int) ≤ (k : Int))) = false := dF (by omega)
        have he : headOk s = mayN (s.extract 0 (k + 1)) := by rw [headOk, hN', dT hlt, Bool.true_and]
        have h1 : head1 s = s.extract 0 (k + 1) := by rw [head1, hN']
        have h2 : rest1 s = s.extract (k + 1) s.size := by rw [rest1, hN']
        have hv : headV s = if mayN (s.extract 0 (k + 1)) = true then .tuple #[.string (s.extract 0 (k + 1)), .string (s.extract (k + 1) s.size), .bool true] else .tuple #[.string ⟨#[]⟩, .string ⟨#[]⟩, .bool false] := by
          rw [headV, he, h1, h2]
        clear hst hbe HB hr hN' he h1 h2
        have hsz : (s.extract 0 (k + 1)).size ≤ 1000000 := by rw [extract_size _ _ _ (by omega)]; omega
        cases hm : mayN (s.extract 0 (k + 1))
        · rw [hm] at hv
          have HM := Lib.hid hm
          have HV := Lib.hid hv
          clear hm hv
          go_wp2_with fail
          refine (nmay_any _ _ hsz).mono ?_; rintro e w' ⟨rfl, rfl⟩
          rw [HM.out]
          go_wp2
          go_returns
          exact ⟨by rw [HV.out]; rfl, 0, rfl⟩
        · rw [hm] at hv
          have HM := Lib.hid hm
          have HV := Lib.hid hv
          clear hm hv
          go_wp2_with fail
          refine (nmay_any _ _ hsz).mono ?_; rintro e w' ⟨rfl, rfl⟩
          rw [HM.out]
          go_wp2
          go_region
          go_wp2
          go_returns
          exact ⟨by rw [HV.out]; rfl, 1, rfl⟩
      · rw [if_neg h0] at hst
        have e0 : ((b : Int) != 0) = true := nT (by omega)
        have HR := Lib.hid (hr.out.trans hst)
        clear hst hbe HB hr
        go_wp2
        go_round
        case rel => exact ⟨k + 1 + b, by omega, HR.out, by go_num⟩
        case measure => simp [intOf]; omega
    · rw [if_neg hlt] at hst
      have hN' : hN s = k := hr.out.trans hst
      have he : headOk s = false := by rw [headOk, hN', dF hlt, Bool.false_and]
      have d : (decide ((s.size : Int) ≤ (k : Int))) = true := dT (by omega)
      have HV := Lib.hid (show headV s = .tuple #[.string ⟨#[]⟩, .string ⟨#[]⟩, .bool false] by rw [headV, he]; rfl)
      clear hst hr hN' he
      go_wp2
      go_returns
      exact ⟨by rw [HV.out]; rfl, 0, rfl⟩

def mayMdN (s : ByteArray) : Bool := decide (18 ≤ s.size) && (byteAt s 4 != 1 || byteAt s 5 != 1 || decide (s.size = 54))
set_option maxRecDepth 100000 in
theorem mayMd_any (s : ByteArray) (w : World) (hs : s.size ≤ 1000000) : Calls Try.prog 127 #[.string s] w fun e w' => e = .returned (.bool (mayMdN s)) ∧ w = w' := by
  by_cases h : s.size < 18
  · have d := dT (p := (s.size : Int) < 18) (by omega)
    have e : mayMdN s = false := by rw [mayMdN, dF (p := 18 ≤ s.size) (by omega)]; rfl
    rw [e]
    clear e h
    go_enter Try.func127, Try.ntmps127
    go_wp2
    go_ret
    exact ⟨rfl, rfl⟩
  · have d := dF (p := (s.size : Int) < 18) (by omega)
    have e : mayMdN s = (byteAt s 4 != 1 || byteAt s 5 != 1 || decide (s.size = 54)) := by rw [mayMdN, dT (p := 18 ≤ s.size) (by omega)]; rfl
    rw [e]
    have i4 : 4 < s.size := by omega
    have i5 : 5 < s.size := by omega
    have b4 := byte_get i4
    have b5 := byte_get i5
    have l4 := byteAt_lt s 4
    have l5 := byteAt_lt s 5
    obtain ⟨x, hx⟩ : ∃ x, byteAt s 4 = x := ⟨_, rfl⟩
    obtain ⟨y, hy⟩ : ∃ y, byteAt s 5 = y := ⟨_, rfl⟩
    rw [hx] at b4 l4 ⊢
    rw [hy] at b5 l5 ⊢
    clear e hx hy h
    go_enter Try.func127, Try.ntmps127
    go_wp2
    all_goals (go_ret; refine ⟨ret_bool ?_, rfl⟩; rw [Bool.eq_iff_iff]; simp; try omega)
end Go.Proofs.Ythfnphcefkdgbaa
end

section
namespace Go.Proofs.Ythfnphcefkdgbaa
open Go.RowKit

def soaM (s : ByteArray) : ByteArray := head1 s
def soaR (s : ByteArray) : ByteArray := head1 (rest1 s)
def soaT (s : ByteArray) : ByteArray := rest1 (rest1 s)
def getSoaV (s : ByteArray) : Value := if soaOk s = true then .tuple #[.agg #[.string (soaM s), .string (soaR s), .int .i64 (getN (soaT s) 0 4), .int .i64 (getN (soaT s) 4 4), .int .i64 (getN (soaT s) 8 4), .int .i64 (getN (soaT s) 12 4), .int .i64 (getN (soaT s) 16 4)], .bool true] else .tuple #[.agg #[.string ⟨#[]⟩, .string ⟨#[]⟩, .int .i64 0, .int .i64 0, .int .i64 0, .int .i64 0, .int .i64 0], .bool false]

theorem set7_below {B b : Nat} {w wr : World} (h : Below B w wr) (hB : B ≤ b) (v0 v1 v2 v3 v4 v5 v6 : Value) : Below B w (((((((wr.setCell ⟨b, 0, none⟩ v0).setCell ⟨b, 1, none⟩ v1).setCell ⟨b, 2, none⟩ v2).setCell ⟨b, 3, none⟩ v3).setCell ⟨b, 4, none⟩ v4).setCell ⟨b, 5, none⟩ v5).setCell ⟨b, 6, none⟩ v6) :=
  ((((((h.setCell hB _).setCell hB _).setCell hB _).setCell hB _).setCell hB _).setCell hB _).setCell hB _
theorem set5_below {B b : Nat} {w wr : World} (h : Below B w wr) (hB : B ≤ b) (v0 v1 v2 v3 v4 : Value) : Below B w (((((wr.setCell ⟨b, 0, none⟩ v0).setCell ⟨b, 1, none⟩ v1).setCell ⟨b, 2, none⟩ v2).setCell ⟨b, 3, none⟩ v3).setCell ⟨b, 4, none⟩ v4) :=
  ((((h.setCell hB _).setCell hB _).setCell hB _).setCell hB _).setCell hB _

set_option maxRecDepth 100000 in
set_option maxHeartbeats 1600000 in
theorem getSoa_any (s : ByteArray) (w : World) (hs : s.size ≤ 1000000) : Calls Try.prog 96 #[.string s] w fun e w' => e = .returned (getSoaV s) ∧ Below w.heap.size w w' := by
  have hr := rest1_size s
  cases h1 : headOk s
  · have HV := Lib.hid (show getSoaV s = .tuple #[.agg #[.string ⟨#[]⟩, .string ⟨#[]⟩, .int .i64 0, .int .i64 0, .int .i64 0, .int .i64 0, .int .i64 0], .bool false] by rw [getSoaV, soaOk, h1]; rfl)
    have HH := Lib.hid (show headV s = .tuple #[.string ⟨#[]⟩, .string ⟨#[]⟩, .bool false] by rw [headV, h1]; rfl)
    clear h1 hr
    go_enter Try.func96, Try.ntmps96
    go_wp2_with fail
    refine (head_any _ _ hs).mono ?_; rintro e w1 ⟨rfl, n1, rfl⟩
    rw [HH.out]
    go_wp2
    refine bodyPost_ret (v := .tuple #[.agg #[.string ⟨#[]⟩, .string ⟨#[]⟩, .int .i64 0, .int .i64 0, .int .i64 0, .int .i64 0, .int .i64 0], .bool false]) (by simp [results, Try.results96, go_sem]) rfl ⟨by rw [HV.out], ?_⟩
    exact set7_below (below_drewN ((Below.refl _ _).alloc (Nat.le_refl _) _) _) (Nat.le_refl _) _ _ _ _ _ _ _
  · have HH := Lib.hid (show headV s = .tuple #[.string (head1 s), .string (rest1 s), .bool true] by rw [headV, h1]; rfl)
    cases h2 : headOk (rest1 s)
    · have HV := Lib.hid (show getSoaV s = .tuple #[.agg #[.string ⟨#[]⟩, .string ⟨#[]⟩, .int .i64 0, .int .i64 0, .int .i64 0, .int .i64 0, .int .i64 0], .bool false] by rw [getSoaV, soaOk, h1, h2]; rfl)
      have HH2 := Lib.hid (show headV (rest1 s) = .tuple #[.string ⟨#[]⟩, .string ⟨#[]⟩, .bool false] by rw [headV, h2]; rfl)
      have hz : (rest1 s).size ≤ 1000000 := by omega
      obtain ⟨S1, hS1⟩ : ∃ S1, rest1 s = S1 := ⟨_, rfl⟩
      obtain ⟨M, hM⟩ : ∃ M, head1 s = M := ⟨_, rfl⟩
      rw [hS1] at HH HH2 hz
      rw [hM] at HH
      clear h1 h2 hr hS1 hM
      go_enter Try.func96, Try.ntmps96
      go_wp2_with fail
      refine (head_any _ _ hs).mono ?_; rintro e w1 ⟨rfl, n1, rfl⟩
      rw [HH.out]
      go_wp2_with fail
      refine (head_any _ _ hz).mono ?_; rintro e w1 ⟨rfl, n2, rfl⟩
      rw [HH2.out]
      go_wp2
      refine bodyPost_ret (v := .tuple #[.agg #[.string ⟨#[]⟩, .string ⟨#[]⟩, .int .i64 0, .int .i64 0, .int .i64 0, .int .i64 0, .int .i64 0], .bool false]) (by simp [results, Try.results96, go_sem]) rfl ⟨by rw [HV.out], ?_⟩
      exact set7_below (below_drewN ((Below.refl _ _).alloc (Nat.le_refl _) _) _) (Nat.le_refl _) _ _ _ _ _ _ _
    · have HH2 := Lib.hid (show headV (rest1 s) = .tuple #[.string (head1 (rest1 s)), .string (rest1 (rest1 s)), .bool true] by rw [headV, h2]; rfl)
      have hz : (rest1 s).size ≤ 1000000 := by omega
      have hz2 : (rest1 (rest1 s)).size ≤ 1000000 := by rw [rest1_size]; omega
      by_cases h3 : (rest1 (rest1 s)).size = 20
      · have HV := Lib.hid (show getSoaV s = .tuple #[.agg #[.string (head1 s), .string (head1 (rest1 s)), .int .i64 (getN (rest1 (rest1 s)) 0 4), .int .i64 (getN (rest1 (rest1 s)) 4 4), .int .i64 (getN (rest1 (rest1 s)) 8 4), .int .i64 (getN (rest1 (rest1 s)) 12 4), .int .i64 (getN (rest1 (rest1 s)) 16 4)], .bool true] by rw [getSoaV, soaOk, h1, h2, dT h3]; rfl)
        have d : (((rest1 (rest1 s)).size : Int) != 20) = false := nF (by omega)
        obtain ⟨T, hT⟩ : ∃ T, rest1 (rest1 s) = T := ⟨_, rfl⟩
        rw [hT] at HH2 HV hz2 d
        obtain ⟨R, hR⟩ : ∃ R, head1 (rest1 s) = R := ⟨_, rfl⟩
        rw [hR] at HH2 HV
        obtain ⟨S1, hS1⟩ : ∃ S1, rest1 s = S1 := ⟨_, rfl⟩
        obtain ⟨M, hM⟩ : ∃ M, head1 s = M := ⟨_, rfl⟩
        rw [hS1] at HH HH2 hz
        rw [hM] at HH HV
        clear h1 h2 hr hS1 hM hT hR h3
        go_enter Try.func96, Try.ntmps96
        go_wp2_with fail
        refine (head_any _ _ hs).mono ?_; rintro e w1 ⟨rfl, n1, rfl⟩
        rw [HH.out]
        go_wp2_with fail
        refine (head_any _ _ hz).mono ?_; rintro e w1 ⟨rfl, n2, rfl⟩
        rw [HH2.out]
        go_wp2_with fail
        refine wp_loop_rounds 6 ?_
        iterate 6 (rw [rounds_succ]; go_wp2_with (first | (go_at_call 119; refine (get_any T _ _ _ (by omega)).mono ?_; rintro e w' ⟨rfl, rfl⟩)))
        refine bodyPost_ret (v := .tuple #[.agg #[.string M, .string R, .int .i64 (getN T 0 4), .int .i64 (getN T 4 4), .int .i64 (getN T 8 4), .int .i64 (getN T 12 4), .int .i64 (getN T 16 4)], .bool true]) (by simp [results, Try.results96, go_sem]) rfl ⟨by rw [HV.out], ?_⟩
        have h7 := set7_below (below_drewN ((Below.refl w.heap.size w).alloc (Nat.le_refl _) (.cells #[.string ⟨#[]⟩, .string ⟨#[]⟩, .int .i64 0, .int .i64 0, .int .i64 0, .int .i64 0, .int .i64 0] 149)) (n1 + n2)) (Nat.le_refl _) (.string M) (.string R) (.int .i64 (getN T 0 4)) (.int .i64 (getN T 4 4)) (.int .i64 (getN T 8 4)) (.int .i64 (getN T 12 4)) (.int .i64 (getN T 16 4))
        exact h7.alloc h7.size _
      · have HV := Lib.hid (show getSoaV s = .tuple #[.agg #[.string ⟨#[]⟩, .string ⟨#[]⟩, .int .i64 0, .int .i64 0, .int .i64 0, .int .i64 0, .int .i64 0], .bool false] by rw [getSoaV, soaOk, h1, h2, dF h3]; rfl)
        have d : (((rest1 (rest1 s)).size : Int) != 20) = true := nT (by omega)
        obtain ⟨T, hT⟩ : ∃ T, rest1 (rest1 s) = T := ⟨_, rfl⟩
        rw [hT] at HH2 d
        obtain ⟨R, hR⟩ : ∃ R, head1 (rest1 s) = R := ⟨_, rfl⟩
        rw [hR] at HH2
        obtain ⟨S1, hS1⟩ : ∃ S1, rest1 s = S1 := ⟨_, rfl⟩
        obtain ⟨M, hM⟩ : ∃ M, head1 s = M := ⟨_, rfl⟩
        rw [hS1] at HH HH2 hz
        rw [hM] at HH
        clear h1 h2 hr hS1 hM hT hR h3
        go_enter Try.func96, Try.ntmps96
        go_wp2_with fail
        refine (head_any _ _ hs).mono ?_; rintro e w1 ⟨rfl, n1, rfl⟩
        rw [HH.out]
        go_wp2_with fail
        refine (head_any _ _ hz).mono ?_; rintro e w1 ⟨rfl, n2, rfl⟩
        rw [HH2.out]
        go_wp2
        refine bodyPost_ret (v := .tuple #[.agg #[.string ⟨#[]⟩, .string ⟨#[]⟩, .int .i64 0, .int .i64 0, .int .i64 0, .int .i64 0, .int .i64 0], .bool false]) (by simp [results, Try.results96, go_sem]) rfl ⟨by rw [HV.out], ?_⟩
        exact set7_below (below_drewN ((Below.refl _ _).alloc (Nat.le_refl _) _) _) (Nat.le_refl _) _ _ _ _ _ _ _
end Go.Proofs.Ythfnphcefkdgbaa
end

section
namespace Go.Proofs.Ythfnphcefkdgbaa
open Go.RowKit

theorem own_below {w w' : World} {base : Nat} {e : TypeId} {size : Nat} {v : Value} {n : Nat} {xs : List Value} (h : w.ownsRow base e size v n xs) (hb : Below w.heap.size w w') : w'.ownsRow base e size v n xs :=
  h.kept (row := none) ⟨hb.os, hb.tape, hb.output, hb.size, fun k hk _ => hb.block k hk⟩ (by cases hv : v.ownBlock with
    | none => exact Or.inl rfl
    | some x => exact Or.inr (by simp))

/-- The bytes of the first k numbers. -/
def joinTo (W : Nat) (l : List Int) : Nat → List UInt8
  | 0 => []
  | k + 1 => joinTo W l k ++ putTo (l.getD k 0) W W
theorem joinTo_length (W : Nat) (l : List Int) (k : Nat) : (joinTo W l k).length = W * k := by
  induction k with
  | zero => rfl
  | succ k ih => simp only [joinTo, List.length_append, ih, putTo_length]; rw [Nat.mul_succ]
def AllFit (W : Int) (l : List Int) (k : Nat) : Prop := ∀ j, j < k → fits (l.getD j 0) W = true
theorem allFit_next {W : Int} {l : List Int} {k : Nat} (h : AllFit W l k) (h1 : fits (l.getD k 0) W = true) : AllFit W l (k + 1) := by
  intro j hj
  by_cases e : j = k
  · subst e; exact h1
  · exact h j (by omega)
def joinOk (W : Int) (l : List Int) : Bool := decide (1 ≤ W ∧ W ≤ 6) && l.all fun n => fits n W
def joinL (W : Int) (l : List Int) : List UInt8 := if joinOk W l = true then joinTo W.toNat l l.length else []
def joinE (W : Int) (l : List Int) : Int := if joinOk W l = true then 0 else 1
theorem join_yes {W : Int} {l : List Int} (hW : 1 ≤ W ∧ W ≤ 6) (h : AllFit W l l.length) : joinOk W l = true := by
  simp only [joinOk, Bool.and_eq_true, decide_eq_true_eq, List.all_eq_true]
  refine ⟨hW, fun n hn => ?_⟩
  obtain ⟨j, hj, rfl⟩ := List.getElem_of_mem hn
  have := h j hj
  rwa [List.getD_eq_getElem?_getD, List.getElem?_eq_getElem hj] at this
theorem join_no {W : Int} {l : List Int} {k : Nat} (hk : k < l.length) (h : fits (l.getD k 0) W = false) : joinOk W l = false := by
  cases hj : joinOk W l with
  | false => rfl
  | true =>
    simp only [joinOk, Bool.and_eq_true, decide_eq_true_eq, List.all_eq_true] at hj
    have := hj.2 l[k] (List.getElem_mem hk)
    rw [List.getD_eq_getElem?_getD, List.getElem?_eq_getElem hk] at h
    simp only [Option.getD_some] at h
    rw [h] at this
    exact absurd this (by simp)
theorem join_nW {W : Int} {l : List Int} (hW : ¬ (1 ≤ W ∧ W ≤ 6)) : joinOk W l = false := by
  simp only [joinOk, Bool.and_eq_false_iff, decide_eq_false_iff_not]
  exact Or.inl hW

theorem joinTo_bc (W : Nat) (l : List Int) (k : Nat) (n : Int) (hn : l.getD k 0 = n) : bc (joinTo W l k) ++ Lib.strCells (bs (putTo n W W)) = bc (joinTo W l (k + 1)) := by
  subst hn
  rw [strCells_bs, ← bc_append]
  rfl

theorem row_lit2 (w : World) (x y : Int) (t : TypeId) : Row (w.alloc (.cells #[.int .i64 x, .int .i64 y] t)) (some ⟨w.heap.size, 0, none⟩) 2 [x, y] := by
  refine ⟨rfl, Or.inr ⟨w.heap.size, 0, rfl, by simp, ?_⟩⟩
  intro j hj
  rcases (by omega : j = 0 ∨ j = 1) with rfl | rfl <;> simp [World.cell?_alloc_at]

end Go.Proofs.Ythfnphcefkdgbaa
end

section
namespace Go.Proofs.Ythfnphcefkdgbaa
open Go.RowKit

/-- Where the texts end that begin at a place. -/
def runT (s : ByteArray) : Nat → Nat → Nat
  | 0, at' => at'
  | f + 1, at' => if at' < s.size then runT s f (at' + 1 + byteAt s at') else at'
theorem runT_done (s : ByteArray) (f at' : Nat) (h : s.size ≤ at') : runT s f at' = at' := by
  cases f with
  | zero => rfl
  | succ f => rw [runT, if_neg (by omega)]
theorem runT_more (s : ByteArray) : ∀ (f at' : Nat), s.size ≤ at' + f → runT s (f + 1) at' = runT s f at' := by
  intro f
  induction f with
  | zero => intro at' h; rw [runT_done s 1 at' (by omega), runT_done s 0 at' (by omega)]
  | succ f ih =>
    intro at' h
    show (if at' < s.size then runT s (f + 1) (at' + 1 + byteAt s at') else at') = (if at' < s.size then runT s f (at' + 1 + byteAt s at') else at')
    split
    · exact ih _ (by omega)
    · rfl
theorem runT_step (s : ByteArray) (at' : Nat) (h : at' < s.size) : runT s s.size at' = runT s s.size (at' + 1 + byteAt s at') := by
  have h1 : runT s (s.size + 1) at' = runT s s.size at' := runT_more s s.size at' (by omega)
  rw [← h1, runT, if_pos h]
def mayTx (s : ByteArray) : Bool := runT s s.size 0 == s.size && decide (0 < s.size)

theorem mayText_any (s : ByteArray) (w : World) (hs : s.size ≤ 1000000) : Calls Try.prog 126 #[.string s] w fun e w' => e = .returned (.bool (mayTx s)) ∧ w = w' := by
  go_enter Try.func126, Try.ntmps126
  go_wp2
  go_loop [3] (fun i => ∃ k : Nat, k ≤ 2000000 ∧ Hid (runT s s.size 0 = runT s s.size k) ∧ i = .int .i64 k) (fun i => s.size - (intOf i).toNat)
  case atStart => exact ⟨0, by omega, rfl, rfl⟩
  case round =>
    obtain ⟨k, hk, hr, rfl⟩ := hrel
    by_cases hlt : k < s.size
    · have hb := byte_get hlt
      have hb2 := byteAt_lt s k
      have HR := Lib.hid (hr.out.trans (runT_step s k hlt))
      go_wp2
      go_round
      case rel => exact ⟨k + (1 + byteAt s k), by omega, (by rw [← Nat.add_assoc]; exact HR.out), by go_num⟩
      case measure => simp [intOf]; omega
    · have he := runT_done s s.size k (by omega)
      have h1 : mayTx s = (decide (k = s.size) && decide (0 < k)) := by
        unfold mayTx
        rw [hr.out, he, Bool.eq_iff_iff]
        simp
        omega
      have HM := Lib.hid h1
      clear he h1 hr
      by_cases e1 : k = s.size
      · have d1 : ((k : Int) == (s.size : Int)) = true := eT (by omega)
        go_wp2
        all_goals (go_ret; exact ⟨ret_bool (by rw [HM.out, Bool.eq_iff_iff]; simp; try omega), rfl⟩)
      · have d1 : ((k : Int) == (s.size : Int)) = false := eF (by omega)
        go_wp2
        all_goals (go_ret; exact ⟨ret_bool (by rw [HM.out, Bool.eq_iff_iff]; simp; try omega), rfl⟩)

theorem has16_anyR (n : Int) (w : World) : Calls Try.prog 113 #[.int .i64 n] w fun e w' => e = .returned (.bool (decide (0 ≤ n ∧ n ≤ 65535))) ∧ w = w' := by
  go_enter Try.func113, Try.ntmps113
  go_wp2
  all_goals (go_ret; refine ⟨ret_bool ?_, rfl⟩; rw [Bool.eq_iff_iff]; simp; try omega)

/-- May, where no name is within. -/
theorem may_long (k : Int) (s : ByteArray) (w : World) (hs : s.size ≤ 1000000) (h : 1000 < s.size) (hk : 0 ≤ k ∧ k ≤ 65535) : Calls Try.prog 114 #[.int .i64 k, .string s] w fun e w' => e = .returned (.bool false) ∧ w = w' := by
  have d := dT hk
  have d2 := dT (p := (1000 : Int) < (s.size : Int)) (by omega)
  clear hk
  go_enter Try.func114, Try.ntmps114
  go_wp2_with (first | (go_at_call 113; refine (has16_anyR _ _).mono ?_; rintro e w' ⟨rfl, rfl⟩))
  go_ret
  exact ⟨rfl, rfl⟩
theorem may_a (s : ByteArray) (w : World) (hs : s.size ≤ 1000) : Calls Try.prog 114 #[.int .i64 1, .string s] w fun e w' => e = .returned (.bool ((s.size : Int) == 4)) ∧ w = w' := by
  have d : decide ((0 : Int) ≤ 1 ∧ (1 : Int) ≤ 65535) = true := by decide
  have d2 := dF (p := (1000 : Int) < (s.size : Int)) (by omega)
  go_enter Try.func114, Try.ntmps114
  go_wp2_with (first | (go_at_call 113; refine (has16_anyR _ _).mono ?_; rintro e w' ⟨rfl, rfl⟩))
  go_ret
  exact ⟨rfl, rfl⟩
theorem may_aaaa (s : ByteArray) (w : World) (hs : s.size ≤ 1000) : Calls Try.prog 114 #[.int .i64 28, .string s] w fun e w' => e = .returned (.bool ((s.size : Int) == 16)) ∧ w = w' := by
  have d : decide ((0 : Int) ≤ 28 ∧ (28 : Int) ≤ 65535) = true := by decide
  have d2 := dF (p := (1000 : Int) < (s.size : Int)) (by omega)
  go_enter Try.func114, Try.ntmps114
  go_wp2_with (first | (go_at_call 113; refine (has16_anyR _ _).mono ?_; rintro e w' ⟨rfl, rfl⟩))
  go_ret
  exact ⟨rfl, rfl⟩
theorem may_txt (s : ByteArray) (w : World) (hs : s.size ≤ 1000) : Calls Try.prog 114 #[.int .i64 16, .string s] w fun e w' => e = .returned (.bool (mayTx s)) ∧ w = w' := by
  have d : decide ((0 : Int) ≤ 16 ∧ (16 : Int) ≤ 65535) = true := by decide
  have d2 := dF (p := (1000 : Int) < (s.size : Int)) (by omega)
  go_enter Try.func114, Try.ntmps114
  go_wp2_with (first | (go_at_call 113; refine (has16_anyR _ _).mono ?_; rintro e w' ⟨rfl, rfl⟩) | (go_at_call 126; refine (mayText_any _ _ (by omega)).mono ?_; rintro e w' ⟨rfl, rfl⟩))
  go_ret
  exact ⟨rfl, rfl⟩

/-- An address's data. -/
def addrL (l : List Int) : List UInt8 := if l.length = 4 ∨ l.length = 16 then joinL 1 l else []
def addrE (l : List Int) : Int := if l.length = 4 ∨ l.length = 16 then joinE 1 l else 1
end Go.Proofs.Ythfnphcefkdgbaa
end

section
namespace Go.Proofs.Ythfnphcefkdgbaa
open Go.RowKit

def mayKR (k : Int) (s : ByteArray) : Bool :=
  if k = 1 then (s.size : Int) == 4 else if k = 28 then (s.size : Int) == 16 else if k = 2 ∨ k = 5 then mayN s else if k = 6 then soaOk s else if k = 15 then decide (2 < s.size) && mayN (s.extract 2 s.size) else if k = 16 then mayTx s else if k = 63 then mayMdN s else true
def mayD (k : Int) (s : ByteArray) : Bool := decide (0 ≤ k ∧ k ≤ 65535) && decide (s.size ≤ 1000) && mayKR k s

theorem mayD_no {k : Int} {s : ByteArray} (h : ¬ (0 ≤ k ∧ k ≤ 65535)) : mayD k s = false := by rw [mayD, dF h]; rfl
theorem mayD_long {k : Int} {s : ByteArray} (h : ¬ s.size ≤ 1000) : mayD k s = false := by rw [mayD, dF h, Bool.and_false, Bool.false_and]
theorem mayD_is {k : Int} {s : ByteArray} (h : 0 ≤ k ∧ k ≤ 65535) (h2 : s.size ≤ 1000) : mayD k s = mayKR k s := by rw [mayD, dT h, dT h2]; rfl

set_option maxRecDepth 100000 in
set_option maxHeartbeats 1600000 in
theorem may_any (k : Int) (s : ByteArray) (w : World) (hs : s.size ≤ 1000000) : Calls Try.prog 114 #[.int .i64 k, .string s] w fun e w' => e = .returned (.bool (mayD k s)) ∧ Below w.heap.size w w' := by
  by_cases h : 0 ≤ k ∧ k ≤ 65535
  · have d := dT h
    by_cases h2 : s.size ≤ 1000
    · have d2 := dF (p := (1000 : Int) < (s.size : Int)) (by omega)
      have HE := Lib.hid (mayD_is h h2)
      have hc : k = 1 ∨ k = 28 ∨ k = 2 ∨ k = 5 ∨ k = 6 ∨ k = 15 ∨ k = 16 ∨ k = 63 ∨ (k ≠ 1 ∧ k ≠ 28 ∧ k ≠ 2 ∧ k ≠ 5 ∧ k ≠ 6 ∧ k ≠ 15 ∧ k ≠ 16 ∧ k ≠ 63) := by omega
      rcases hc with rfl | rfl | rfl | rfl | rfl | rfl | rfl | rfl | hc
      case inl =>
        exact (may_a s w h2).mono fun e w' ⟨h1, h2⟩ => ⟨by rw [h1, HE.out]; rfl, h2 ▸ Below.refl _ _⟩
      case inr.inl =>
        exact (may_aaaa s w h2).mono fun e w' ⟨h1, h2⟩ => ⟨by rw [h1, HE.out]; rfl, h2 ▸ Below.refl _ _⟩
      case inr.inr.inl =>
        go_enter Try.func114, Try.ntmps114
        go_wp2_with (first | (go_at_call 113; refine (has16_anyR _ _).mono ?_; rintro e w' ⟨rfl, rfl⟩) | (go_at_call 61; refine (nmay_any _ _ (by omega)).mono ?_; rintro e w' ⟨rfl, rfl⟩))
        go_ret
        exact ⟨ret_bool (by rw [HE.out]; rfl), Below.refl _ _⟩
      case inr.inr.inr.inl =>
        go_enter Try.func114, Try.ntmps114
        go_wp2_with (first | (go_at_call 113; refine (has16_anyR _ _).mono ?_; rintro e w' ⟨rfl, rfl⟩) | (go_at_call 61; refine (nmay_any _ _ (by omega)).mono ?_; rintro e w' ⟨rfl, rfl⟩))
        go_ret
        exact ⟨ret_bool (by rw [HE.out]; rfl), Below.refl _ _⟩
      case inr.inr.inr.inr.inl =>
        obtain ⟨b, hb⟩ : ∃ b, soaOk s = b := ⟨_, rfl⟩
        have HM := Lib.hid (show mayD 6 s = b by rw [HE.out]; exact hb)
        have HV : Hid (∃ x0 x1 x2 x3 x4 x5 x6, getSoaV s = .tuple #[.agg #[.string x0, .string x1, .int .i64 x2, .int .i64 x3, .int .i64 x4, .int .i64 x5, .int .i64 x6], .bool b]) := Lib.hid (by
          cases b
          · exact ⟨_, _, _, _, _, _, _, by rw [getSoaV, hb]; rfl⟩
          · exact ⟨_, _, _, _, _, _, _, by rw [getSoaV, hb]; rfl⟩)
        clear hb
        go_enter Try.func114, Try.ntmps114
        go_wp2_with (first | (go_at_call 113; refine (has16_anyR _ _).mono ?_; rintro e w' ⟨rfl, rfl⟩))
        refine (getSoa_any _ _ (by omega)).mono ?_; rintro e w1 ⟨rfl, hb⟩
        have HB := Lib.hid hb; clear hb
        obtain ⟨x0, x1, x2, x3, x4, x5, x6, hv⟩ := HV.out
        rw [hv]
        clear hv
        go_wp2
        go_ret
        exact ⟨ret_bool HM.out.symm, HB.out.alloc HB.out.size _⟩
      case inr.inr.inr.inr.inr.inl =>
        by_cases h3 : 2 < s.size
        · have d3 := dT (p := (2 : Int) < (s.size : Int)) (by omega)
          have HM := Lib.hid (show mayD 15 s = mayN (s.extract 2 s.size) by rw [HE.out]; show (decide (2 < s.size) && mayN (s.extract 2 s.size)) = _; rw [dT h3, Bool.true_and])
          have hz : (s.extract 2 s.size).size ≤ 1000000 := by rw [extract_size _ _ _ (Nat.le_refl _)]; omega
          go_enter Try.func114, Try.ntmps114
          go_wp2_with (first | (go_at_call 113; refine (has16_anyR _ _).mono ?_; rintro e w' ⟨rfl, rfl⟩) | (go_at_call 61; refine (nmay_any _ _ hz).mono ?_; rintro e w' ⟨rfl, rfl⟩))
          go_ret
          exact ⟨ret_bool HM.out.symm, Below.refl _ _⟩
        · have d3 := dF (p := (2 : Int) < (s.size : Int)) (by omega)
          have HM := Lib.hid (show mayD 15 s = false by rw [HE.out]; show (decide (2 < s.size) && mayN (s.extract 2 s.size)) = _; rw [dF h3, Bool.false_and])
          go_enter Try.func114, Try.ntmps114
          go_wp2_with (first | (go_at_call 113; refine (has16_anyR _ _).mono ?_; rintro e w' ⟨rfl, rfl⟩))
          go_ret
          exact ⟨ret_bool HM.out.symm, Below.refl _ _⟩
      case inr.inr.inr.inr.inr.inr.inl =>
        exact (may_txt s w h2).mono fun e w' ⟨h1, h2⟩ => ⟨by rw [h1, HE.out]; rfl, h2 ▸ Below.refl _ _⟩
      case inr.inr.inr.inr.inr.inr.inr.inl =>
        go_enter Try.func114, Try.ntmps114
        go_wp2_with (first | (go_at_call 113; refine (has16_anyR _ _).mono ?_; rintro e w' ⟨rfl, rfl⟩) | (go_at_call 127; refine (mayMd_any _ _ (by omega)).mono ?_; rintro e w' ⟨rfl, rfl⟩))
        go_ret
        exact ⟨ret_bool (by rw [HE.out]; rfl), Below.refl _ _⟩
      case inr.inr.inr.inr.inr.inr.inr.inr =>
        obtain ⟨c1, c2, c3, c4, c5, c6, c7, c8⟩ := hc
        have HM := Lib.hid (show mayD k s = true by rw [HE.out]; unfold mayKR; rw [if_neg c1, if_neg c2, if_neg (by omega), if_neg c5, if_neg c6, if_neg c7, if_neg c8])
        have e1 := eF c1
        have e2 := eF c2
        have e3 := eF c3
        have e4 := eF c4
        have e5 := eF c5
        have e6 := eF c6
        have e7 := eF c7
        have e8 := eF c8
        clear c1 c2 c3 c4 c5 c6 c7 c8 h
        go_enter Try.func114, Try.ntmps114
        go_wp2_with (first | (go_at_call 113; refine (has16_anyR _ _).mono ?_; rintro e w' ⟨rfl, rfl⟩))
        go_ret
        exact ⟨ret_bool HM.out.symm, Below.refl _ _⟩
    · rw [mayD_long h2]
      exact (may_long k s w hs (by omega) h).mono fun e w' ⟨h1, h2⟩ => ⟨h1, h2 ▸ Below.refl _ _⟩
  · have d := dF h
    have HM := Lib.hid (mayD_no (s := s) h)
    clear h
    go_enter Try.func114, Try.ntmps114
    go_wp2_with (first | (go_at_call 113; refine (has16_anyR _ _).mono ?_; rintro e w' ⟨rfl, rfl⟩))
    go_ret
    exact ⟨ret_bool HM.out.symm, Below.refl _ _⟩
end Go.Proofs.Ythfnphcefkdgbaa
end

section
namespace Go.Proofs.Ythfnphcefkdgbaa
open Go.RowKit

def tgB (k : Int) (s : ByteArray) : Bool := mayD k s && decide (k = 2 ∨ k = 5 ∨ k = 15)
def tgS (k : Int) (s : ByteArray) : ByteArray := if tgB k s = true then (if k = 15 then s.extract 2 s.size else s) else ⟨#[]⟩
theorem mayD_15 {s : ByteArray} (h : mayD 15 s = true) : 2 < s.size ∧ mayN (s.extract 2 s.size) = true := by
  simp [mayD, mayKR] at h
  exact h.2

set_option maxRecDepth 100000 in
set_option maxHeartbeats 1600000 in
theorem target_any (k : Int) (s : ByteArray) (w : World) (hs : s.size ≤ 1000000) : Calls Try.prog 94 #[.int .i64 k, .string s] w fun e w' => e = .returned (.tuple #[.string (tgS k s), .bool (tgB k s)]) ∧ Below w.heap.size w w' := by
  cases hm : mayD k s
  · have h1 : tgB k s = false := by rw [tgB, hm]; rfl
    have h2 : tgS k s = ⟨#[]⟩ := by rw [tgS, h1]; rfl
    rw [h1, h2]
    have HM := Lib.hid hm
    clear hm h1 h2
    go_enter Try.func94, Try.ntmps94
    go_wp2_with fail
    refine (may_any _ _ _ hs).mono ?_; rintro e w1 ⟨rfl, hb⟩
    have HB := Lib.hid hb; clear hb
    rw [HM.out]
    go_wp2
    go_ret2
    exact ⟨rfl, HB.out⟩
  · have hc : k = 2 ∨ k = 5 ∨ k = 15 ∨ (k ≠ 2 ∧ k ≠ 5 ∧ k ≠ 15) := by omega
    have HM := Lib.hid hm
    rcases hc with rfl | rfl | rfl | ⟨c1, c2, c3⟩
    · have h1 : tgB 2 s = true := by rw [tgB, hm]; rfl
      have h2 : tgS 2 s = s := by rw [tgS, h1]; rfl
      rw [h1, h2]
      clear hm h1 h2
      go_enter Try.func94, Try.ntmps94
      go_wp2_with fail
      refine (may_any _ _ _ hs).mono ?_; rintro e w1 ⟨rfl, hb⟩
      have HB := Lib.hid hb; clear hb
      rw [HM.out]
      go_wp2
      go_ret2
      exact ⟨rfl, HB.out⟩
    · have h1 : tgB 5 s = true := by rw [tgB, hm]; rfl
      have h2 : tgS 5 s = s := by rw [tgS, h1]; rfl
      rw [h1, h2]
      clear hm h1 h2
      go_enter Try.func94, Try.ntmps94
      go_wp2_with fail
      refine (may_any _ _ _ hs).mono ?_; rintro e w1 ⟨rfl, hb⟩
      have HB := Lib.hid hb; clear hb
      rw [HM.out]
      go_wp2
      go_ret2
      exact ⟨rfl, HB.out⟩
    · have h1 : tgB 15 s = true := by rw [tgB, hm]; rfl
      have h2 : tgS 15 s = s.extract 2 s.size := by rw [tgS, h1]; rfl
      have h3 := (mayD_15 hm).1
      rw [h1, h2]
      clear hm h1 h2
      go_enter Try.func94, Try.ntmps94
      go_wp2_with fail
      refine (may_any _ _ _ hs).mono ?_; rintro e w1 ⟨rfl, hb⟩
      have HB := Lib.hid hb; clear hb
      rw [HM.out]
      go_wp2
      go_ret2
      exact ⟨rfl, HB.out⟩
    · have h1 : tgB k s = false := by rw [tgB, dF (p := k = 2 ∨ k = 5 ∨ k = 15) (by omega), Bool.and_false]
      have h2 : tgS k s = ⟨#[]⟩ := by rw [tgS, h1]; rfl
      have e1 := eF c1
      have e2 := eF c2
      have e3 := eF c3
      rw [h1, h2]
      clear hm h1 h2 c1 c2 c3
      go_enter Try.func94, Try.ntmps94
      go_wp2_with fail
      refine (may_any _ _ _ hs).mono ?_; rintro e w1 ⟨rfl, hb⟩
      have HB := Lib.hid hb; clear hb
      rw [HM.out]
      go_wp2
      go_ret2
      exact ⟨rfl, HB.out⟩

def nmL (k : Int) (s : ByteArray) : List ByteArray := if k = 6 then (if soaOk s = true then [soaM s, soaR s] else []) else if tgB k s = true then [tgS k s] else []
theorem rowS_1 (w : World) (s : ByteArray) (t : TypeId) : RowS (w.alloc (.cells #[.string s] t)) (some ⟨w.heap.size, 0, none⟩) 1 [s] := by
  refine ⟨rfl, Or.inr ⟨w.heap.size, 0, rfl, by simp, ?_⟩⟩
  intro j hj
  have : j = 0 := by omega
  subst this
  simp [World.cell?_alloc_at]
theorem rowS_2 (w : World) (s r : ByteArray) (t : TypeId) (b : Nat) (hb : b = w.heap.size) : RowS (w.alloc (.cells #[.string s, .string r] t)) (some ⟨b, 0, none⟩) 2 [s, r] := by
  subst hb
  refine ⟨rfl, Or.inr ⟨w.heap.size, 0, rfl, by simp, ?_⟩⟩
  intro j hj
  rcases (by omega : j = 0 ∨ j = 1) with rfl | rfl <;> simp [World.cell?_alloc_at]

end Go.Proofs.Ythfnphcefkdgbaa
end

section
namespace Go.Proofs.Ythfnphcefkdgbaa
open Go.RowKit

theorem endRun_hRun (s : ByteArray) (A : Nat) : ∀ (d i : Nat), s.size - i ≤ d → 0 ≤ endRun s A s.size i → endRun s A s.size i = (hRun s s.size i : Int) + 1 ∧ hRun s s.size i < s.size := by
  intro d
  induction d with
  | zero =>
    intro i h1 h2
    rw [endRun_step, if_neg (by omega)] at h2
    omega
  | succ d ih =>
    intro i h1 h2
    rw [endRun_step] at h2 ⊢
    rw [hRun_step]
    by_cases hi : i < s.size
    · rw [if_pos hi] at h2 ⊢
      rw [if_pos hi]
      by_cases h0 : byteAt s i = 0
      · rw [if_pos h0] at h2 ⊢
        rw [if_pos h0]
        split at h2
        · omega
        · rw [if_neg (by assumption)]
          omega
      · rw [if_neg h0] at h2 ⊢
        rw [if_neg h0]
        split at h2
        · omega
        · rw [if_neg (by assumption)]
          have e : i + byteAt s i + 1 = i + 1 + byteAt s i := by omega
          rw [e] at h2 ⊢
          exact ih _ (by omega) h2
    · rw [if_neg hi] at h2
      omega

theorem endRun_pre {p s : ByteArray} (A : Nat) (h : Pre p s) : ∀ (d i : Nat), p.size - i ≤ d → 0 ≤ endRun p A p.size i → endRun s A s.size i = endRun p A p.size i := by
  intro d
  induction d with
  | zero =>
    intro i h1 h2
    rw [endRun_step, if_neg (by omega)] at h2
    omega
  | succ d ih =>
    intro i h1 h2
    rw [endRun_step] at h2
    rw [endRun_step s, endRun_step p]
    by_cases hi : i < p.size
    · have hs := h.1
      rw [if_pos hi] at h2 ⊢
      rw [if_pos (by omega), ← h.2 i hi]
      by_cases h0 : byteAt p i = 0
      · rw [if_pos h0, if_pos h0]
      · rw [if_neg h0] at h2 ⊢
        rw [if_neg h0]
        split at h2
        · omega
        · rw [if_neg (by assumption), if_neg (by assumption)]
          exact ih _ (by omega) h2
    · rw [if_neg hi] at h2
      omega

theorem endRun_shift (s : ByteArray) (A : Nat) : ∀ (d i : Nat), s.size - (A + i) ≤ d → endRun s A s.size (A + i) = if endRun (s.extract A s.size) 0 (s.extract A s.size).size i < 0 then -1 else A + endRun (s.extract A s.size) 0 (s.extract A s.size).size i := by
  intro d
  have hz : (s.extract A s.size).size = s.size - A := extract_size _ _ _ (Nat.le_refl _)
  induction d with
  | zero =>
    intro i h1
    rw [endRun_step s, if_neg (by omega), endRun_step (s.extract A s.size), if_neg (c := i < (s.extract A s.size).size) (by omega)]
    rfl
  | succ d ih =>
    intro i h1
    rw [endRun_step s, endRun_step (s.extract A s.size)]
    by_cases hi : A + i < s.size
    · rw [if_pos hi, if_pos (c := i < (s.extract A s.size).size) (by omega), byteAt_extract s A s.size i (Nat.le_refl _) hi]
      by_cases h0 : byteAt s (A + i) = 0
      · rw [if_pos h0, if_pos h0]
        have e : A + i + 1 - A = i + 1 - 0 := by omega
        rw [e]
        split
        · rfl
        · rw [if_neg (by omega)]; omega
      · rw [if_neg h0, if_neg h0]
        split
        · rfl
        · have e : A + i + byteAt s (A + i) + 1 = A + (i + byteAt s (A + i) + 1) := by omega
          rw [e]
          exact ih _ (by omega)
    · rw [if_neg hi, if_neg (c := i < (s.extract A s.size).size) (by omega)]
      rfl

/-- Where the name ahead ends, in the document's words. -/
def endN (s : ByteArray) : Int := endRun s 0 s.size 0
theorem mayN_end {p : ByteArray} (h : mayN p = true) : endN p = p.size := by
  have := ref_may p
  rw [h] at this
  simp only [Bool.and_eq_true, beq_iff_eq] at this
  exact this.2
theorem endN_head {s : ByteArray} (h : headOk s = true) : endN s = (hN s : Int) + 1 := by
  have hl := headOk_lt h
  have hp := pre_cut s (hN s + 1) (by omega)
  have hm := mayN_end (headOk_may h)
  have hz : (head1 s).size = hN s + 1 := by rw [head1, extract_size _ _ _ (by omega)]; omega
  have := endRun_pre 0 hp (head1 s).size 0 (Nat.le_of_eq rfl) (by show 0 ≤ endN (head1 s); omega)
  show endRun s 0 s.size 0 = _
  rw [this]
  show endN (head1 s) = _
  omega
theorem endN_no {s : ByteArray} (h : endN s < 0) : headOk s = false := by
  cases hh : headOk s
  · rfl
  · have := endN_head hh; omega
theorem endN_yes {s : ByteArray} (h : 0 ≤ endN s) : endN s = (hN s : Int) + 1 ∧ hN s < s.size ∧ headOk s = mayN (s.extract 0 (hN s + 1)) := by
  obtain ⟨h1, h2⟩ := endRun_hRun s 0 s.size 0 (by omega) h
  exact ⟨h1, h2, by rw [headOk, dT (p := hN s < s.size) h2, Bool.true_and]⟩
theorem endN_from (s : ByteArray) (A : Nat) : endRun s A s.size A = if endN (s.extract A s.size) < 0 then -1 else A + endN (s.extract A s.size) := endRun_shift s A s.size 0 (by omega)

/-- The three ways of an SOA's data in the document's words. -/
theorem soa_ways (s : ByteArray) : (endN s < 0 ∧ soaOk s = false) ∨ (∃ A : Nat, endN s = A ∧ 1 ≤ A ∧ A ≤ s.size ∧ endRun s A s.size A = -1 ∧ soaOk s = false) ∨
    ∃ A B : Nat, endN s = A ∧ 1 ≤ A ∧ A < B ∧ B ≤ s.size ∧ endRun s A s.size A = B ∧ soaOk s = (mayN (s.extract 0 A) && mayN (s.extract A B) && decide (s.size = B + 20)) ∧ head1 s = s.extract 0 A ∧ head1 (rest1 s) = s.extract A B ∧ rest1 (rest1 s) = s.extract B s.size := by
  by_cases h : endN s < 0
  · left
    exact ⟨h, by rw [soaOk, endN_no h]; rfl⟩
  · right
    obtain ⟨h1, h2, h3⟩ := endN_yes (s := s) (by omega)
    have hr : rest1 s = s.extract (hN s + 1) s.size := rfl
    have hf := endN_from s (hN s + 1)
    rw [← hr] at hf
    by_cases h' : endN (rest1 s) < 0
    · left
      rw [if_pos h'] at hf
      exact ⟨hN s + 1, by omega, by omega, by omega, hf, by rw [soaOk, endN_no h', Bool.and_false]; rfl⟩
    · right
      rw [if_neg h'] at hf
      obtain ⟨k1, k2, k3⟩ := endN_yes (s := rest1 s) (by omega)
      have hz := rest1_size s
      have hz2 := rest1_size (rest1 s)
      have e1 : (rest1 s).extract 0 (hN (rest1 s) + 1) = s.extract (hN s + 1) (hN s + 1 + (hN (rest1 s) + 1)) := by
        refine byteAt_ext ?_ ?_
        · rw [extract_size _ _ _ (by omega), extract_size _ _ _ (by omega)]; omega
        · intro j hj
          rw [extract_size _ _ _ (by omega)] at hj
          have q1 := byteAt_extract (rest1 s) 0 (hN (rest1 s) + 1) j (by omega) (by omega)
          have q2 : byteAt (rest1 s) j = byteAt s (hN s + 1 + j) := byteAt_extract s (hN s + 1) s.size j (Nat.le_refl _) (by omega)
          have q3 := byteAt_extract s (hN s + 1) (hN s + 1 + (hN (rest1 s) + 1)) j (by omega) (by omega)
          rw [q1, q3, Nat.zero_add, q2]
      have e2 : rest1 (rest1 s) = s.extract (hN s + 1 + (hN (rest1 s) + 1)) s.size := by
        have hq : rest1 (rest1 s) = (rest1 s).extract (hN (rest1 s) + 1) (rest1 s).size := rfl
        rw [hq]
        refine byteAt_ext ?_ ?_
        · rw [extract_size _ _ _ (Nat.le_refl _), extract_size _ _ _ (Nat.le_refl _)]; omega
        · intro j hj
          rw [extract_size _ _ _ (Nat.le_refl _)] at hj
          have q1 := byteAt_extract (rest1 s) (hN (rest1 s) + 1) (rest1 s).size j (Nat.le_refl _) (by omega)
          have q2 : byteAt (rest1 s) (hN (rest1 s) + 1 + j) = byteAt s (hN s + 1 + (hN (rest1 s) + 1 + j)) := byteAt_extract s (hN s + 1) s.size (hN (rest1 s) + 1 + j) (Nat.le_refl _) (by omega)
          have q3 := byteAt_extract s (hN s + 1 + (hN (rest1 s) + 1)) s.size j (Nat.le_refl _) (by omega)
          have e9 : hN s + 1 + (hN (rest1 s) + 1) + j = hN s + 1 + (hN (rest1 s) + 1 + j) := by omega
          rw [q1, q3, q2, e9]
      refine ⟨hN s + 1, hN s + 1 + (hN (rest1 s) + 1), by omega, by omega, by omega, by omega, by rw [hf, k1]; omega, ?_, rfl, e1, e2⟩
      have e3 : decide ((rest1 (rest1 s)).size = 20) = decide (s.size = hN s + 1 + (hN (rest1 s) + 1) + 20) := by
        rw [decide_eq_decide]
        omega
      rw [soaOk, h3, k3, e1, e3]
end Go.Proofs.Ythfnphcefkdgbaa
end

section
namespace Go.Proofs.Ythfnphcefkdgbaa
open Go.RowKit

theorem texts_any (s : ByteArray) (w : World) (hs : s.size ≤ 1000000) : Calls Try.prog 98 #[.string s] w fun e w' => e = .returned (.bool (mayTx s)) ∧ w = w' := by
  go_enter Try.func98, Try.ntmps98
  go_wp2
  go_loop [3] (fun i => ∃ k : Nat, k ≤ 2000000 ∧ Hid (runT s s.size 0 = runT s s.size k) ∧ i = .int .i64 k) (fun i => s.size - (intOf i).toNat)
  case atStart => exact ⟨0, by omega, rfl, rfl⟩
  case round =>
    obtain ⟨k, hk, hr, rfl⟩ := hrel
    by_cases hlt : k < s.size
    · have hb := byte_get hlt
      have hb2 := byteAt_lt s k
      have HR := Lib.hid (hr.out.trans (runT_step s k hlt))
      go_wp2
      go_round
      case rel => exact ⟨k + 1 + byteAt s k, by omega, HR.out, by go_num⟩
      case measure => simp [intOf]; omega
    · have he := runT_done s s.size k (by omega)
      have h1 : mayTx s = (decide (0 < s.size) && decide (k = s.size)) := by
        unfold mayTx
        rw [hr.out, he, Bool.eq_iff_iff]
        simp
        omega
      have HM := Lib.hid h1
      clear he h1 hr
      by_cases e1 : 0 < s.size
      · have d1 := dT (p := (0 : Int) < (s.size : Int)) (by omega)
        go_wp2
        all_goals (go_ret; exact ⟨ret_bool (by rw [HM.out, Bool.eq_iff_iff]; simp; try omega), rfl⟩)
      · have d1 := dF (p := (0 : Int) < (s.size : Int)) (by omega)
        go_wp2
        all_goals (go_ret; exact ⟨ret_bool (by rw [HM.out, Bool.eq_iff_iff]; simp; try omega), rfl⟩)

set_option maxRecDepth 100000 in
set_option maxHeartbeats 1600000 in
theorem rmay_soa (s : ByteArray) (w : World) (h2 : s.size ≤ 1000) : Calls Try.prog 75 #[.int .i64 6, .string s] w fun e w' => e = .returned (.bool (soaOk s)) ∧ w = w' := by
  have d2 := dF (p := (1000 : Int) < (s.size : Int)) (by omega)
  rcases soa_ways s with ⟨k1, k2⟩ | ⟨A, k1, k2, k3, k4, k5⟩ | ⟨A, B, k1, k2, k3, k4, k5, k6, _, _, _⟩
  · have d3 := dT (p := endN s < 0) k1
    have e1 : endRun s 0 s.size 0 = endN s := rfl
    obtain ⟨E, hE⟩ : ∃ E, endN s = E := ⟨_, rfl⟩
    rw [hE] at e1 d3
    have E1 := Lib.hid e1
    rw [k2]
    clear k1 k2 hE e1
    go_enter Try.func75, Try.ntmps75
    go_wp2_with fail
    refine (rend_any s 0 _ (by omega) (by omega)).mono ?_; rintro e w' ⟨rfl, rfl⟩
    rw [E1.out]
    go_wp2
    go_ret
    exact ⟨rfl, rfl⟩
  · have E1 := Lib.hid (show endRun s 0 s.size 0 = (A : Int) from k1)
    have E2 := Lib.hid k4
    rw [k5]
    clear k1 k4 k5
    go_enter Try.func75, Try.ntmps75
    go_wp2_with fail
    refine (rend_any s 0 _ (by omega) (by omega)).mono ?_; rintro e w' ⟨rfl, rfl⟩
    rw [E1.out]
    go_wp2_with fail
    refine (rend_any s A _ (by omega) (by omega)).mono ?_; rintro e w' ⟨rfl, rfl⟩
    rw [E2.out]
    go_wp2
    go_ret
    exact ⟨rfl, rfl⟩
  · have E1 := Lib.hid (show endRun s 0 s.size 0 = (A : Int) from k1)
    have E2 := Lib.hid k5
    have d4 := dT (p := (0 : Int) < (B : Int)) (by omega)
    have z1 : (s.extract 0 A).size ≤ 1000000 := by rw [extract_size _ _ _ (by omega)]; omega
    have z2 : (s.extract A B).size ≤ 1000000 := by rw [extract_size _ _ _ (by omega)]; omega
    rw [k6]
    clear k1 k5 k6
    cases m1 : mayN (s.extract 0 A)
    · have M1 := Lib.hid m1
      clear m1
      go_enter Try.func75, Try.ntmps75
      go_wp2_with fail
      refine (rend_any s 0 _ (by omega) (by omega)).mono ?_; rintro e w' ⟨rfl, rfl⟩
      rw [E1.out]
      go_wp2_with fail
      refine (rend_any s A _ (by omega) (by omega)).mono ?_; rintro e w' ⟨rfl, rfl⟩
      rw [E2.out]
      go_wp2_with fail
      refine (rmay_any _ _ z1).mono ?_; rintro e w' ⟨rfl, rfl⟩
      rw [M1.out]
      go_wp2
      go_ret
      exact ⟨rfl, rfl⟩
    · have M1 := Lib.hid m1
      clear m1
      cases m2 : mayN (s.extract A B)
      · have M2 := Lib.hid m2
        clear m2
        go_enter Try.func75, Try.ntmps75
        go_wp2_with fail
        refine (rend_any s 0 _ (by omega) (by omega)).mono ?_; rintro e w' ⟨rfl, rfl⟩
        rw [E1.out]
        go_wp2_with fail
        refine (rend_any s A _ (by omega) (by omega)).mono ?_; rintro e w' ⟨rfl, rfl⟩
        rw [E2.out]
        go_wp2_with fail
        refine (rmay_any _ _ z1).mono ?_; rintro e w' ⟨rfl, rfl⟩
        rw [M1.out]
        go_wp2_with fail
        refine (rmay_any _ _ z2).mono ?_; rintro e w' ⟨rfl, rfl⟩
        rw [M2.out]
        go_wp2
        go_ret
        exact ⟨rfl, rfl⟩
      · have M2 := Lib.hid m2
        clear m2
        go_enter Try.func75, Try.ntmps75
        go_wp2_with fail
        refine (rend_any s 0 _ (by omega) (by omega)).mono ?_; rintro e w' ⟨rfl, rfl⟩
        rw [E1.out]
        go_wp2_with fail
        refine (rend_any s A _ (by omega) (by omega)).mono ?_; rintro e w' ⟨rfl, rfl⟩
        rw [E2.out]
        go_wp2_with fail
        refine (rmay_any _ _ z1).mono ?_; rintro e w' ⟨rfl, rfl⟩
        rw [M1.out]
        go_wp2_with fail
        refine (rmay_any _ _ z2).mono ?_; rintro e w' ⟨rfl, rfl⟩
        rw [M2.out]
        go_wp2
        go_ret
        exact ⟨ret_bool (by rw [Bool.eq_iff_iff]; simp; try omega), rfl⟩

set_option maxRecDepth 100000 in
set_option maxHeartbeats 1600000 in
theorem rmayD_any (k : Int) (s : ByteArray) (w : World) (hs : s.size ≤ 1000000) : Calls Try.prog 75 #[.int .i64 k, .string s] w fun e w' => e = .returned (.bool (mayD k s)) ∧ w = w' := by
  by_cases h : 0 ≤ k ∧ k ≤ 65535
  · by_cases h2 : s.size ≤ 1000
    · have d2 := dF (p := (1000 : Int) < (s.size : Int)) (by omega)
      have HE := Lib.hid (mayD_is h h2)
      have hc : k = 1 ∨ k = 28 ∨ k = 2 ∨ k = 5 ∨ k = 6 ∨ k = 15 ∨ k = 16 ∨ k = 63 ∨ (k ≠ 1 ∧ k ≠ 28 ∧ k ≠ 2 ∧ k ≠ 5 ∧ k ≠ 6 ∧ k ≠ 15 ∧ k ≠ 16 ∧ k ≠ 63) := by omega
      rcases hc with rfl | rfl | rfl | rfl | rfl | rfl | rfl | rfl | hc
      case inr.inr.inr.inr.inl =>
        exact (rmay_soa s w h2).mono fun e w' ⟨h1, h2⟩ => ⟨by rw [h1, HE.out]; rfl, h2⟩
      case inr.inr.inr.inr.inr.inl =>
        by_cases h3 : 2 < s.size
        · have d3 := dT (p := (2 : Int) < (s.size : Int)) (by omega)
          have HM := Lib.hid (show mayD 15 s = mayN (s.extract 2 s.size) by rw [HE.out]; show (decide (2 < s.size) && mayN (s.extract 2 s.size)) = _; rw [dT h3, Bool.true_and])
          have hz : (s.extract 2 s.size).size ≤ 1000000 := by rw [extract_size _ _ _ (Nat.le_refl _)]; omega
          go_enter Try.func75, Try.ntmps75
          go_wp2_with (first | (go_at_call 25; refine (rmay_any _ _ hz).mono ?_; rintro e w' ⟨rfl, rfl⟩))
          go_ret
          exact ⟨ret_bool HM.out.symm, rfl⟩
        · have d3 := dF (p := (2 : Int) < (s.size : Int)) (by omega)
          have HM := Lib.hid (show mayD 15 s = false by rw [HE.out]; show (decide (2 < s.size) && mayN (s.extract 2 s.size)) = _; rw [dF h3, Bool.false_and])
          go_enter Try.func75, Try.ntmps75
          go_wp2
          go_ret
          exact ⟨ret_bool HM.out.symm, rfl⟩
      case inr.inr.inr.inr.inr.inr.inr.inl =>
        by_cases h3 : s.size < 18
        · have d := dF (p := (18 : Int) ≤ (s.size : Int)) (by omega)
          have HM := Lib.hid (show mayD 63 s = false by rw [HE.out]; show mayMdN s = _; rw [mayMdN, dF (p := 18 ≤ s.size) (by omega)]; rfl)
          clear h h3
          go_enter Try.func75, Try.ntmps75
          go_wp2
          go_ret
          exact ⟨ret_bool HM.out.symm, rfl⟩
        · have d := dT (p := (18 : Int) ≤ (s.size : Int)) (by omega)
          have e : mayD 63 s = (byteAt s 4 != 1 || byteAt s 5 != 1 || decide (s.size = 54)) := by rw [HE.out]; show mayMdN s = _; rw [mayMdN, dT (p := 18 ≤ s.size) (by omega)]; rfl
          have i4 : 4 < s.size := by omega
          have i5 : 5 < s.size := by omega
          have b4 := byte_get i4
          have b5 := byte_get i5
          have l4 := byteAt_lt s 4
          have l5 := byteAt_lt s 5
          obtain ⟨x, hx⟩ : ∃ x, byteAt s 4 = x := ⟨_, rfl⟩
          obtain ⟨y, hy⟩ : ∃ y, byteAt s 5 = y := ⟨_, rfl⟩
          rw [hx] at b4 l4 e
          rw [hy] at b5 l5 e
          have HM := Lib.hid e
          clear e hx hy h h3
          go_enter Try.func75, Try.ntmps75
          go_wp2
          all_goals (go_ret; refine ⟨ret_bool ?_, rfl⟩; rw [HM.out, Bool.eq_iff_iff]; simp; try omega)
      case inr.inr.inr.inr.inr.inr.inr.inr =>
        obtain ⟨c1, c2, c3, c4, c5, c6, c7, c8⟩ := hc
        have HM := Lib.hid (show mayD k s = true by rw [HE.out]; unfold mayKR; rw [if_neg c1, if_neg c2, if_neg (by omega), if_neg c5, if_neg c6, if_neg c7, if_neg c8])
        have e1 := eF c1
        have e2 := eF c2
        have e3 := eF c3
        have e4 := eF c4
        have e5 := eF c5
        have e6 := eF c6
        have e7 := eF c7
        have e8 := eF c8
        have d0 := dF (p := k < 0) (by omega)
        have d1 := dF (p := 65535 < k) (by omega)
        clear c1 c2 c3 c4 c5 c6 c7 c8 h
        go_enter Try.func75, Try.ntmps75
        go_wp2
        go_ret
        exact ⟨ret_bool HM.out.symm, rfl⟩
      all_goals
        go_enter Try.func75, Try.ntmps75
        go_wp2_with (first | (go_at_call 25; refine (rmay_any _ _ (by omega)).mono ?_; rintro e w' ⟨rfl, rfl⟩) | (go_at_call 98; refine (texts_any _ _ (by omega)).mono ?_; rintro e w' ⟨rfl, rfl⟩))
        go_ret
        exact ⟨ret_bool (by rw [HE.out]; rfl), rfl⟩
    · have d0 := dF (p := k < 0) (by omega)
      have d1 := dF (p := 65535 < k) (by omega)
      have d2 := dT (p := (1000 : Int) < (s.size : Int)) (by omega)
      have HM := Lib.hid (mayD_long (k := k) h2)
      clear h h2
      go_enter Try.func75, Try.ntmps75
      go_wp2
      go_ret
      exact ⟨ret_bool HM.out.symm, rfl⟩
  · have hd : decide (k < 0) = true ∨ decide (k < 0) = false ∧ decide (65535 < k) = true := by
      simp only [decide_eq_true_eq, decide_eq_false_iff_not]; omega
    have HM := Lib.hid (mayD_no (s := s) h)
    clear h
    rcases hd with d | ⟨d, d1⟩
    all_goals
      go_enter Try.func75, Try.ntmps75
      go_wp2
      go_ret
      exact ⟨ret_bool HM.out.symm, rfl⟩
end Go.Proofs.Ythfnphcefkdgbaa
end

section
namespace Go.Proofs.Ythfnphcefkdgbaa
open Go.RowKit

theorem row_lit5 (w : World) (x y z v u : Int) (t : TypeId) (b : Nat) (hb : b = w.heap.size) : Row (w.alloc (.cells #[.int .i64 x, .int .i64 y, .int .i64 z, .int .i64 v, .int .i64 u] t)) (some ⟨b, 0, none⟩) 5 [x, y, z, v, u] := by
  subst hb
  refine ⟨rfl, Or.inr ⟨w.heap.size, 0, rfl, by simp, ?_⟩⟩
  intro j hj
  rcases (by omega : j = 0 ∨ j = 1 ∨ j = 2 ∨ j = 3 ∨ j = 4) with rfl | rfl | rfl | rfl | rfl <;> simp [World.cell?_alloc_at]

def putSoaS (M R : ByteArray) (l : List Int) : ByteArray := if (mayN M && mayN R) = true then (if joinOk 4 l = true then M ++ R ++ bs (joinL 4 l) else ⟨#[]⟩) else ⟨#[]⟩
def putSoaE (M R : ByteArray) (l : List Int) : Int := if (mayN M && mayN R) = true then joinE 4 l else 10

end Go.Proofs.Ythfnphcefkdgbaa
end

section
namespace Go.Proofs.Ythfnphcefkdgbaa
open Go.RowKit

theorem row_lit2' (w : World) (x y : Int) (t : TypeId) (b : Nat) (hb : b = w.heap.size) : Row (w.alloc (.cells #[.int .i64 x, .int .i64 y] t)) (some ⟨b, 0, none⟩) 2 [x, y] := by
  subst hb
  exact row_lit2 w x y t

def mdData (a b c : Int) (D : ByteArray) : ByteArray := bs (putL a 4) ++ bs (joinL 1 [b, c]) ++ D
def putMdS (a b c : Int) (D : ByteArray) : ByteArray := if (fits a 4 && joinOk 1 [b, c]) = true then (if mayD 63 (mdData a b c D) = true then mdData a b c D else ⟨#[]⟩) else ⟨#[]⟩
def putMdE (a b c : Int) (D : ByteArray) : Int := if (fits a 4 && joinOk 1 [b, c]) = true then (if mayD 63 (mdData a b c D) = true then 0 else 4) else 1

end Go.Proofs.Ythfnphcefkdgbaa
end

section
namespace Go.Proofs.Ythfnphcefkdgbaa
open Go.RowKit

def textE (l : List ByteArray) : Int := if l = [] then 4 else if okTx l l.length = true then 0 else 3
def textL (l : List ByteArray) : List UInt8 := if okTx l l.length = true then txtTo l l.length else []

end Go.Proofs.Ythfnphcefkdgbaa
end

section
namespace Go.Proofs.Ythfnphcefkdgbaa
open Go.RowKit

/-- All of the first k texts are short enough for a length byte. -/
def Sh (l : List ByteArray) (k : Nat) : Prop := ∀ j, j < k → (tx l j).size ≤ 255
theorem sh_next {l : List ByteArray} {k : Nat} (h : Sh l k) (h1 : (tx l k).size ≤ 255) : Sh l (k + 1) := by
  intro j hj
  by_cases e : j = k
  · subst e; exact h1
  · exact h j (by omega)
theorem txtTo_mono (l : List ByteArray) (k n : Nat) (h : k ≤ n) : (txtTo l k).length ≤ (txtTo l n).length := by
  induction n with
  | zero =>
    have : k = 0 := by omega
    subst this
    exact Nat.le_refl _
  | succ n ih =>
    by_cases e : k = n + 1
    · subst e; exact Nat.le_refl _
    · have := ih (by omega)
      rw [txtTo_len]
      omega
theorem okTx_yes {l : List ByteArray} {k : Nat} (h : Sh l k) (h1 : (txtTo l k).length ≤ 1000) : okTx l k = true := by
  induction k with
  | zero => rfl
  | succ k ih =>
    have h2 := txtTo_len l k
    have h3 := h k (by omega)
    simp only [okTx, Bool.and_eq_true, decide_eq_true_eq]
    exact ⟨ih (fun j hj => h j (by omega)) (by omega), h3, by omega⟩
theorem okTx_bad {l : List ByteArray} {k n : Nat} (hk : k ≤ n) (h : 1000 < (txtTo l k).length) : okTx l n = false := by
  cases h2 : okTx l n
  · rfl
  · have := okTx_le h2
    have := txtTo_mono l k n hk
    omega
theorem okTx_wide {l : List ByteArray} {k n : Nat} (hk : k < n) (h : 255 < (tx l k).size) : okTx l n = false := by
  cases h2 : okTx l n
  · rfl
  · have := okTx_at hk h2
    omega
/-- string([]byte{n}). -/
theorem conv_one (w : World) (n : Nat) (h : n < 256) :
    (convert 123 9 (.slice (some ⟨w.heap.size, 0, none⟩) 1 1)).run Try.prog (w.alloc (.cells #[.int .u8 (n : Int)] 5)).drew = .ok (.string (bs [UInt8.ofNat n])) (w.alloc (.cells #[.int .u8 (n : Int)] 5)).drew := by
  refine run_convert_bytes_back _ _ _ 5 ⟨w.heap.size, 0, none⟩ 1 [UInt8.ofNat n] Try.underlying123 Try.underlying5 Try.underlying9 ?_
  intro j hj
  have : j = 0 := by simpa using hj
  subst this
  have e : (UInt8.ofNat n).toNat = n := UInt8.toNat_ofNat_of_lt' (by have : UInt8.size = 256 := rfl; omega)
  simp [World.cell?_alloc_at, e, Addr.add]

end Go.Proofs.Ythfnphcefkdgbaa
end

section
namespace Go.Proofs.Ythfnphcefkdgbaa
open Go.RowKit

theorem mayTx_txt (l : List ByteArray) (n : Nat) (h0 : 0 < n) (h : okTx l n = true) : mayTx (bs (txtTo l n)) = true := by
  have key : ∀ d k, k + d = n → runT (bs (txtTo l n)) (bs (txtTo l n)).size (txtTo l k).length = (bs (txtTo l n)).size := by
    intro d
    induction d with
    | zero =>
      intro k hk
      have : k = n := by omega
      subst this
      rw [runT_done _ _ _ (by rw [bs_size]; exact Nat.le_refl _), bs_size]
    | succ d ih =>
      intro k hk
      obtain ⟨h1, h2⟩ := txt_byte l k n (by omega) (okTx_at (by omega) h)
      rw [runT_step _ _ h1, h2, ← txtTo_len]
      exact ih (k + 1) (by omega)
  have h1 := key n 0 (by omega)
  have h2 := (txt_byte l 0 n h0 (okTx_at h0 h)).1
  simp only [txtTo, List.length_nil] at h1 h2
  simp only [mayTx, Bool.and_eq_true, beq_iff_eq, decide_eq_true_eq]
  exact ⟨h1, by omega⟩

theorem join1_at (l : List Int) (hf : AllFit 1 l l.length) (i : Nat) (hi : i < l.length) : (byteAt (bs (joinTo 1 l l.length)) i : Int) = l.getD i 0 := by
  have hp : ∀ n, n ≤ l.length → i < n → (joinTo 1 l n).getD i 0 = by8 (l.getD i 0) := by
    intro n
    induction n with
    | zero => intro _ h; omega
    | succ n ih =>
      intro hn h
      have hl := joinTo_length 1 l n
      simp only [joinTo, List.getD_eq_getElem?_getD] at *
      by_cases e : i = n
      · subst e
        rw [List.getElem?_append_right (by omega), hl]
        simp [putTo]
      · rw [List.getElem?_append_left (by omega)]
        exact ih (by omega) (by omega)
  rw [byteAt_bs, hp _ (Nat.le_refl _) hi, by8_toNat]
  have := hf i hi
  simp [fits] at this
  rw [List.getD_eq_getElem?_getD]
  omega

theorem row_lit4 (w : World) (x y z v : Int) (t : TypeId) : Row (w.alloc (.cells #[.int .i64 x, .int .i64 y, .int .i64 z, .int .i64 v] t)) (some ⟨w.heap.size, 0, none⟩) 4 [x, y, z, v] := by
  refine ⟨rfl, Or.inr ⟨w.heap.size, 0, rfl, by simp, ?_⟩⟩
  intro j hj
  rcases (by omega : j = 0 ∨ j = 1 ∨ j = 2 ∨ j = 3) with rfl | rfl | rfl | rfl <;> simp [World.cell?_alloc_at]
theorem rowS_lit1 (w : World) (s : ByteArray) (t : TypeId) : RowS (w.alloc (.cells #[.string s] t)) (some ⟨w.heap.size, 0, none⟩) 1 [s] := by
  refine ⟨rfl, Or.inr ⟨w.heap.size, 0, rfl, by simp, ?_⟩⟩
  intro j hj
  have : j = 0 := by omega
  subst this
  simp [World.cell?_alloc_at]

end Go.Proofs.Ythfnphcefkdgbaa
end

section
namespace Go.Proofs.Ythfnphcefkdgbaa
open Go.RowKit

def Short (l : List ByteArray) (k : Nat) : Prop := ∀ j, j < k → (tx l j).size ≤ 1200
theorem short_next {l : List ByteArray} {k : Nat} (h : Short l k) (h1 : (tx l k).size ≤ 1200) : Short l (k + 1) := by
  intro j hj
  by_cases e : j = k
  · subst e; exact h1
  · exact h j (by omega)
theorem short_len {l : List ByteArray} {k : Nat} (h : Short l k) : (txtTo l k).length ≤ 1201 * k := by
  induction k with
  | zero => simp [txtTo]
  | succ k ih =>
    have := ih fun j hj => h j (by omega)
    have := h k (by omega)
    rw [txtTo_len]
    omega

end Go.Proofs.Ythfnphcefkdgbaa
end

section
namespace Go.Proofs.Ythfnphcefkdgbaa
open Go.RowKit

/-- An SOA's fields, a digest's, in a block. -/
def SoaAt (w : World) (q : Nat) (M R : ByteArray) (a b c d f : Int) : Prop := q < w.heap.size ∧ w.cell? ⟨q, 0, none⟩ = some (.string M) ∧ w.cell? ⟨q, 1, none⟩ = some (.string R) ∧ w.cell? ⟨q, 2, none⟩ = some (.int .i64 a) ∧ w.cell? ⟨q, 3, none⟩ = some (.int .i64 b) ∧ w.cell? ⟨q, 4, none⟩ = some (.int .i64 c) ∧ w.cell? ⟨q, 5, none⟩ = some (.int .i64 d) ∧ w.cell? ⟨q, 6, none⟩ = some (.int .i64 f)
def MdAt (w : World) (q : Nat) (a b c : Int) (D : ByteArray) : Prop := q < w.heap.size ∧ w.cell? ⟨q, 0, none⟩ = some (.int .i64 a) ∧ w.cell? ⟨q, 1, none⟩ = some (.int .i64 b) ∧ w.cell? ⟨q, 2, none⟩ = some (.int .i64 c) ∧ w.cell? ⟨q, 3, none⟩ = some (.string D)
theorem SoaAt.below {w w' : World} {q : Nat} {M R : ByteArray} {a b c d f : Int} (h : SoaAt w q M R a b c d f) (hb : Below w.heap.size w w') : SoaAt w' q M R a b c d f := by
  obtain ⟨h0, h1, h2, h3, h4, h5, h6, h7⟩ := h
  exact ⟨Nat.lt_of_lt_of_le h0 hb.size, by rw [hb.cell h0]; exact h1, by rw [hb.cell h0]; exact h2, by rw [hb.cell h0]; exact h3, by rw [hb.cell h0]; exact h4, by rw [hb.cell h0]; exact h5, by rw [hb.cell h0]; exact h6, by rw [hb.cell h0]; exact h7⟩
theorem MdAt.below {w w' : World} {q : Nat} {a b c : Int} {D : ByteArray} (h : MdAt w q a b c D) (hb : Below w.heap.size w w') : MdAt w' q a b c D := by
  obtain ⟨h0, h1, h2, h3, h4⟩ := h
  exact ⟨Nat.lt_of_lt_of_le h0 hb.size, by rw [hb.cell h0]; exact h1, by rw [hb.cell h0]; exact h2, by rw [hb.cell h0]; exact h3, by rw [hb.cell h0]; exact h4⟩
theorem two_boxes (w : World) (M R : ByteArray) (a b c d f : Int) (x y z : Int) (D : ByteArray) (t u : TypeId) : SoaAt ((w.alloc (.cells #[.string M, .string R, .int .i64 a, .int .i64 b, .int .i64 c, .int .i64 d, .int .i64 f] t)).alloc (.cells #[.int .i64 x, .int .i64 y, .int .i64 z, .string D] u)) w.heap.size M R a b c d f ∧ MdAt ((w.alloc (.cells #[.string M, .string R, .int .i64 a, .int .i64 b, .int .i64 c, .int .i64 d, .int .i64 f] t)).alloc (.cells #[.int .i64 x, .int .i64 y, .int .i64 z, .string D] u)) (w.heap.size + 1) x y z D := by
  refine ⟨⟨by simp; omega, ?_, ?_, ?_, ?_, ?_, ?_, ?_⟩, ⟨by simp, ?_, ?_, ?_, ?_⟩⟩ <;> simp

theorem tx_bound {l : List ByteArray} {len : Nat} (hl : l.length = len) (hsz : ∀ s ∈ l, s.size ≤ maxLen) (k : Nat) (hk : k < len) : (tx l k).size ≤ 9223372036854775807 := by
  have hkl : k < l.length := by omega
  have := hsz l[k] (List.getElem_mem hkl)
  unfold maxLen at this
  rw [tx, List.getD_eq_getElem?_getD, List.getElem?_eq_getElem hkl]
  simp only [Option.getD_some]
  omega

end Go.Proofs.Ythfnphcefkdgbaa
end

section
namespace Go.Proofs.Ythfnphcefkdgbaa
open Go.RowKit

theorem pow8 (W : Nat) : (2 : Int) ^ (8 * (W + 1)) = 256 * 2 ^ (8 * W) := by
  rw [show 8 * (W + 1) = 8 * W + 8 by omega, Int.pow_add]
  omega

theorem pow8_pos (W : Nat) : (0 : Int) < 2 ^ (8 * W) := Int.pow_pos (by decide)

theorem fits_iff (n : Int) (W : Nat) : fits n W = true ↔ 1 ≤ W ∧ W ≤ 6 ∧ 0 ≤ n ∧ n < 2 ^ (8 * W) := by
  have hp := pow8_pos W
  simp only [fits, decide_eq_true_eq, Int.toNat_natCast]
  constructor
  · rintro ⟨h1, h2, h3, h4⟩
    refine ⟨by omega, by omega, h3, ?_⟩
    have := Int.lt_mul_ediv_self_add (x := n) hp
    have h5 : n / 2 ^ (8 * W) = 0 := by have := Int.ediv_nonneg h3 (Int.le_of_lt hp); omega
    rw [h5] at this
    omega
  · rintro ⟨h1, h2, h3, h4⟩
    exact ⟨by omega, by omega, h3, by rw [Int.ediv_eq_zero_of_lt h3 h4]; omega⟩

theorem joinTo_at (W : Nat) (l : List Int) (n i j : Nat) (hi : i < n) (hj : j < W) : (joinTo W l n).getD (i * W + j) 0 = (putTo (l.getD i 0) W W).getD j 0 := by
  induction n with
  | zero => omega
  | succ n ih =>
    have hl := joinTo_length W l n
    have hm : i * W + W ≤ n * W ∨ i = n := by
      rcases (by omega : i + 1 ≤ n ∨ i = n) with h | h
      · left
        have := Nat.mul_le_mul_right W h
        rwa [Nat.succ_mul] at this
      · exact Or.inr h
    have hc : W * n = n * W := Nat.mul_comm _ _
    simp only [joinTo, List.getD_eq_getElem?_getD] at *
    rcases hm with hm | rfl
    · rw [List.getElem?_append_left (by omega)]
      have hin : i < n := by
        rcases Nat.lt_or_ge i n with h | h
        · exact h
        · have := Nat.mul_le_mul_right W h; omega
      exact ih hin
    · rw [List.getElem?_append_right (by omega)]
      congr 2
      omega

theorem putTo_at (n : Int) (W j : Nat) (hj : j < W) : (putTo n W W).getD j 0 = by8 (n / 2 ^ (8 * (W - 1 - j))) := by
  simp [putTo, List.getD_eq_getElem?_getD, hj]

theorem getTo_put (s : ByteArray) (A W : Nat) (n : Int) (h0 : 0 ≤ n) (h1 : n < 2 ^ (8 * W)) (hs : ∀ j, j < W → (byteAt s (A + j) : Int) = n / 2 ^ (8 * (W - 1 - j)) % 256) :
    ∀ k, k ≤ W → getTo s A k = n / 2 ^ (8 * (W - k)) := by
  intro k
  induction k with
  | zero => intro _; simp only [getTo, Nat.sub_zero]; rw [Int.ediv_eq_zero_of_lt h0 h1]
  | succ k ih =>
    intro hk
    simp only [getTo]
    rw [ih (by omega), hs k (by omega)]
    have e1 : W - k = (W - 1 - k) + 1 := by omega
    have e2 : W - (k + 1) = W - 1 - k := by omega
    rw [e1, e2, pow8, Int.mul_comm 256, ← Int.ediv_ediv_of_nonneg (Int.le_of_lt (pow8_pos _))]
    generalize n / 2 ^ (8 * (W - 1 - k)) = q
    omega

theorem get_join (W : Nat) (l : List Int) (i : Nat) (hi : i < l.length) (h1 : 1 ≤ W) (h2 : W ≤ 6) (hf : AllFit W l l.length) :
    getN (bs (joinTo W l l.length)) ((i : Int) * (W : Int)) W = l.getD i 0 ∧ getE (bs (joinTo W l l.length)) ((i : Int) * (W : Int)) W = 0 := by
  have hs : (bs (joinTo W l l.length)).size = W * l.length := by rw [bs_size, joinTo_length]
  have hfi := (fits_iff _ W).1 (hf i hi)
  have hm : (i : Int) * (W : Int) + W ≤ ((W * l.length : Nat) : Int) := by
    have := Nat.mul_le_mul_right W hi
    rw [Nat.succ_mul, Nat.mul_comm l.length] at this
    rw [← Int.natCast_mul]
    omega
  have hn : 0 ≤ (i : Int) * (W : Int) := Int.mul_nonneg (by omega) (by omega)
  constructor
  · rw [getN, hs, if_pos (by omega)]
    have e : ((i : Int) * (W : Int)).toNat = i * W := by rw [← Int.natCast_mul]; rfl
    rw [e, Int.toNat_natCast]
    have := getTo_put (bs (joinTo W l l.length)) (i * W) W (l.getD i 0) hfi.2.2.1 hfi.2.2.2 (fun j hj => by
      rw [byteAt_bs, joinTo_at W l l.length i j hi hj, putTo_at _ _ _ hj, by8_toNat]) W (Nat.le_refl _)
    rw [this]
    simp
  · rw [getE, hs, if_pos (by omega), if_pos (by omega)]

theorem getTo4 (s : ByteArray) (A : Nat) : getTo s A 4 = (((byteAt s A : Int) * 256 + byteAt s (A + 1)) * 256 + byteAt s (A + 2)) * 256 + byteAt s (A + 3) := by
  simp [getTo]
theorem getTo4_fits (s : ByteArray) (A : Nat) : fits (getTo s A 4) 4 = true := by
  have := getTo4 s A
  have h0 := byteAt_lt s A
  have h1 := byteAt_lt s (A + 1)
  have h2 := byteAt_lt s (A + 2)
  have h3 := byteAt_lt s (A + 3)
  have := (fits_iff (getTo s A 4) 4).2 ⟨by decide, by decide, by omega, by omega⟩
  exact this
theorem put_get4_at (s : ByteArray) (A j : Nat) (hj : j < 4) : byteAt (bs (putTo (getTo s A 4) 4 4)) j = byteAt s (A + j) := by
  have he := getTo4 s A
  have h0 := byteAt_lt s A
  have h1 := byteAt_lt s (A + 1)
  have h2 := byteAt_lt s (A + 2)
  have h3 := byteAt_lt s (A + 3)
  rw [byteAt_bs, putTo_at _ _ _ hj]
  have h4 := by8_toNat (getTo s A 4 / 2 ^ (8 * (4 - 1 - j)))
  rcases (by omega : j = 0 ∨ j = 1 ∨ j = 2 ∨ j = 3) with rfl | rfl | rfl | rfl <;> simp at h4 ⊢ <;> omega
end Go.Proofs.Ythfnphcefkdgbaa
end

section
namespace Go.Proofs.Ythfnphcefkdgbaa
open Go.RowKit

theorem get20 (T : ByteArray) (hz : T.size = 20) : getN T 0 4 = getTo T 0 4 ∧ getN T 4 4 = getTo T 4 4 ∧ getN T 8 4 = getTo T 8 4 ∧ getN T 12 4 = getTo T 12 4 ∧ getN T 16 4 = getTo T 16 4 := by
  refine ⟨?_, ?_, ?_, ?_, ?_⟩ <;> (rw [getN, if_pos (by omega)]; rfl)
theorem join20 (T : ByteArray) (hz : T.size = 20) : bs (joinTo 4 [getTo T 0 4, getTo T 4 4, getTo T 8 4, getTo T 12 4, getTo T 16 4] 5) = T := by
  refine byteAt_ext ?_ ?_
  · rw [bs_size, joinTo_length, hz]
  · intro j hj
    rw [bs_size, joinTo_length] at hj
    have e : j = j / 4 * 4 + j % 4 := by omega
    have hi : j / 4 < 5 := by omega
    have hr : j % 4 < 4 := by omega
    rw [byteAt_bs, e]
    rw [joinTo_at 4 _ 5 _ _ hi hr, ← byteAt_bs]
    rcases (by omega : j / 4 = 0 ∨ j / 4 = 1 ∨ j / 4 = 2 ∨ j / 4 = 3 ∨ j / 4 = 4) with h | h | h | h | h
    all_goals
      rw [h]
      exact put_get4_at T _ _ hr
theorem join20_ok (T : ByteArray) : joinOk 4 [getTo T 0 4, getTo T 4 4, getTo T 8 4, getTo T 12 4, getTo T 16 4] = true := by
  simp [joinOk, getTo4_fits]

theorem head_app (M X : ByteArray) (h : mayN M = true) : headOk (M ++ X) = true ∧ head1 (M ++ X) = M ∧ rest1 (M ++ X) = X := by
  have h1 := mayN_size h
  have h2 := mayN_hN h
  have h3 := hN_pre (pre_add M X) (by omega)
  have hz : (M ++ X).size = M.size + X.size := ByteArray.size_append
  have e : hN (M ++ X) + 1 = M.size := by omega
  have hh : (M ++ X).extract 0 M.size = M := by
    refine byteAt_ext ?_ ?_
    · rw [extract_size _ _ _ (by omega)]; omega
    · intro j hj
      rw [extract_size _ _ _ (by omega)] at hj
      rw [byteAt_extract _ _ _ _ (by omega) (by omega), Nat.zero_add, byteAt_append_left _ _ _ (by omega)]
  refine ⟨?_, ?_, ?_⟩
  · rw [headOk, e, hh, h, dT (p := hN (M ++ X) < (M ++ X).size) (by omega)]; rfl
  · rw [head1, e, hh]
  · rw [rest1, e]
    refine byteAt_ext ?_ ?_
    · rw [extract_size _ _ _ (Nat.le_refl _)]; omega
    · intro j hj
      rw [extract_size _ _ _ (Nat.le_refl _)] at hj
      rw [byteAt_extract _ _ _ _ (Nat.le_refl _) (by omega), byteAt_append_right]
theorem head_join {s : ByteArray} (h : headOk s = true) : head1 s ++ rest1 s = s := by
  have h1 := headOk_lt h
  have z1 : (head1 s).size = hN s + 1 := by rw [head1, extract_size _ _ _ (by omega)]; omega
  have z2 := rest1_size s
  refine byteAt_ext ?_ ?_
  · rw [ByteArray.size_append]; omega
  · intro j hj
    rw [ByteArray.size_append] at hj
    by_cases hlt : j < (head1 s).size
    · rw [byteAt_append_left _ _ _ hlt, head1, byteAt_extract _ _ _ _ (by omega) (by omega), Nat.zero_add]
    · have e : j = (head1 s).size + (j - (head1 s).size) := by omega
      have q := byteAt_append_right (head1 s) (rest1 s) (j - (head1 s).size)
      rw [← e] at q
      have q2 : byteAt (rest1 s) (j - (head1 s).size) = byteAt s (hN s + 1 + (j - (head1 s).size)) := byteAt_extract s (hN s + 1) s.size _ (Nat.le_refl _) (by omega)
      rw [q, q2]
      congr 1
      omega

theorem soaOk_parts {s : ByteArray} (h : soaOk s = true) : headOk s = true ∧ headOk (rest1 s) = true ∧ (soaT s).size = 20 := by
  simp only [soaOk, Bool.and_eq_true, decide_eq_true_eq] at h
  exact ⟨h.1.1, h.1.2, h.2⟩
theorem soaOk_size {s : ByteArray} (h : soaOk s = true) : s.size ≤ 530 := by
  obtain ⟨h1, h2, h3⟩ := soaOk_parts h
  have z1 := congrArg ByteArray.size (head_join h1)
  have z2 := congrArg ByteArray.size (head_join h2)
  have m1 := mayN_size (headOk_may h1)
  have m2 := mayN_size (headOk_may h2)
  rw [ByteArray.size_append] at z1 z2
  have : (rest1 (rest1 s)).size = 20 := h3
  omega
theorem mayD_6 (s : ByteArray) : mayD 6 s = soaOk s := by
  cases h : soaOk s
  · have : mayKR 6 s = false := h
    rw [mayD, this, Bool.and_false]
  · have hz := soaOk_size h
    rw [mayD_is (by omega) (by omega)]
    exact h

/-- F1: what is put is got. -/
theorem soa_put (M R : ByteArray) (a b c d f : Int) (h1 : mayN M = true) (h2 : mayN R = true) (h3 : joinOk 4 [a, b, c, d, f] = true) :
    soaOk (M ++ R ++ bs (joinL 4 [a, b, c, d, f])) = true ∧ getSoaV (M ++ R ++ bs (joinL 4 [a, b, c, d, f])) = .tuple #[.agg #[.string M, .string R, .int .i64 a, .int .i64 b, .int .i64 c, .int .i64 d, .int .i64 f], .bool true] := by
  have hL : joinL 4 [a, b, c, d, f] = joinTo 4 [a, b, c, d, f] 5 := by rw [joinL, if_pos h3]; rfl
  have hz : (bs (joinTo 4 [a, b, c, d, f] 5)).size = 20 := by rw [bs_size, joinTo_length]
  have hf : AllFit 4 [a, b, c, d, f] [a, b, c, d, f].length := by
    simp only [joinOk, Bool.and_eq_true, decide_eq_true_eq, List.all_eq_true] at h3
    intro j hj
    rw [List.getD_eq_getElem?_getD, List.getElem?_eq_getElem hj]
    exact h3.2 _ (List.getElem_mem hj)
  have g0 : getN (bs (joinTo 4 [a, b, c, d, f] 5)) 0 4 = a := (get_join 4 [a, b, c, d, f] 0 (by simp) (by omega) (by omega) hf).1
  have g1 : getN (bs (joinTo 4 [a, b, c, d, f] 5)) 4 4 = b := (get_join 4 [a, b, c, d, f] 1 (by simp) (by omega) (by omega) hf).1
  have g2 : getN (bs (joinTo 4 [a, b, c, d, f] 5)) 8 4 = c := (get_join 4 [a, b, c, d, f] 2 (by simp) (by omega) (by omega) hf).1
  have g3 : getN (bs (joinTo 4 [a, b, c, d, f] 5)) 12 4 = d := (get_join 4 [a, b, c, d, f] 3 (by simp) (by omega) (by omega) hf).1
  have g4 : getN (bs (joinTo 4 [a, b, c, d, f] 5)) 16 4 = f := (get_join 4 [a, b, c, d, f] 4 (by simp) (by omega) (by omega) hf).1
  rw [hL]
  obtain ⟨T, hT⟩ : ∃ T, bs (joinTo 4 [a, b, c, d, f] 5) = T := ⟨_, rfl⟩
  rw [hT] at hz g0 g1 g2 g3 g4 ⊢
  rw [ByteArray.append_assoc]
  obtain ⟨k1, k2, k3⟩ := head_app M (R ++ T) h1
  obtain ⟨j1, j2, j3⟩ := head_app R T h2
  have hok : soaOk (M ++ (R ++ T)) = true := by rw [soaOk, k1, k3, j1, j3, dT hz]; rfl
  refine ⟨hok, ?_⟩
  have e1 : soaM (M ++ (R ++ T)) = M := k2
  have e2 : soaR (M ++ (R ++ T)) = R := by rw [soaR, k3, j2]
  have e3 : soaT (M ++ (R ++ T)) = T := by rw [soaT, k3, j3]
  rw [getSoaV, if_pos hok, e1, e2, e3, g0, g1, g2, g3, g4]

/-- F5: what is got is put again the same. -/
theorem soa_back {s : ByteArray} (h : soaOk s = true) :
    putSoaE (soaM s) (soaR s) [getN (soaT s) 0 4, getN (soaT s) 4 4, getN (soaT s) 8 4, getN (soaT s) 12 4, getN (soaT s) 16 4] = 0 ∧ putSoaS (soaM s) (soaR s) [getN (soaT s) 0 4, getN (soaT s) 4 4, getN (soaT s) 8 4, getN (soaT s) 12 4, getN (soaT s) 16 4] = s := by
  obtain ⟨h1, h2, h3⟩ := soaOk_parts h
  obtain ⟨g0, g1, g2, g3, g4⟩ := get20 _ h3
  have hm : (mayN (soaM s) && mayN (soaR s)) = true := by
    rw [Bool.and_eq_true]; exact ⟨headOk_may h1, headOk_may h2⟩
  rw [g0, g1, g2, g3, g4]
  have hj := join20_ok (soaT s)
  refine ⟨by rw [putSoaE, if_pos hm, joinE, if_pos hj], ?_⟩
  rw [putSoaS, if_pos hm, if_pos hj, joinL, if_pos hj]
  have := join20 _ h3
  show soaM s ++ soaR s ++ bs (joinTo 4 [getTo (soaT s) 0 4, getTo (soaT s) 4 4, getTo (soaT s) 8 4, getTo (soaT s) 12 4, getTo (soaT s) 16 4] 5) = s
  rw [this, ByteArray.append_assoc]
  have e1 := head_join h2
  have e2 := head_join h1
  show head1 s ++ (head1 (rest1 s) ++ rest1 (rest1 s)) = s
  rw [e1, e2]

def getMdV (s : ByteArray) : Value := if mayD 63 s = true then .tuple #[.agg #[.int .i64 (getN s 0 4), .int .i64 (byteAt s 4 : Int), .int .i64 (byteAt s 5 : Int), .string (s.extract 6 s.size)], .bool true] else .tuple #[.agg #[.int .i64 0, .int .i64 0, .int .i64 0, .string ⟨#[]⟩], .bool false]
theorem mayD_63 {s : ByteArray} (h : mayD 63 s = true) : 18 ≤ s.size ∧ s.size ≤ 1000 := by
  simp [mayD, mayKR, mayMdN] at h
  omega

theorem join2 (b c : Int) (h : joinOk 1 [b, c] = true) : (bs (joinL 1 [b, c])).size = 2 ∧ (byteAt (bs (joinL 1 [b, c])) 0 : Int) = b ∧ (byteAt (bs (joinL 1 [b, c])) 1 : Int) = c := by
  have hf : AllFit 1 [b, c] [b, c].length := by
    simp only [joinOk, Bool.and_eq_true, decide_eq_true_eq, List.all_eq_true] at h
    intro j hj
    rw [List.getD_eq_getElem?_getD, List.getElem?_eq_getElem hj]
    exact h.2 _ (List.getElem_mem hj)
  have hL : joinL 1 [b, c] = joinTo 1 [b, c] [b, c].length := by rw [joinL, if_pos h]; rfl
  rw [hL]
  exact ⟨by rw [bs_size, joinTo_length]; rfl, join1_at [b, c] hf 0 (by simp), join1_at [b, c] hf 1 (by simp)⟩
theorem put4 (a : Int) (h : fits a 4 = true) : (bs (putL a 4)).size = 4 ∧ getTo (bs (putL a 4)) 0 4 = a := by
  have hf := (fits_iff a 4).1 h
  have hL : putL a 4 = putTo a 4 4 := by rw [putL, if_pos h]; rfl
  rw [hL]
  refine ⟨by rw [bs_size, putTo_length], ?_⟩
  have := getTo_put (bs (putTo a 4 4)) 0 4 a hf.2.2.1 hf.2.2.2 (fun j hj => by
    rw [byteAt_bs, Nat.zero_add, putTo_at _ _ _ hj, by8_toNat]) 4 (Nat.le_refl _)
  rw [this]
  simp
theorem getTo_congr {s t : ByteArray} {A B : Nat} : ∀ k, (∀ j, j < k → byteAt s (A + j) = byteAt t (B + j)) → getTo s A k = getTo t B k := by
  intro k
  induction k with
  | zero => intro _; rfl
  | succ k ih => intro h; simp only [getTo]; rw [ih fun j hj => h j (by omega), h k (by omega)]

/-- F2. -/
theorem md_put (a b c : Int) (D : ByteArray) (h1 : fits a 4 = true) (h2 : joinOk 1 [b, c] = true) (h3 : mayD 63 (mdData a b c D) = true) :
    getMdV (mdData a b c D) = .tuple #[.agg #[.int .i64 a, .int .i64 b, .int .i64 c, .string D], .bool true] := by
  obtain ⟨p1, p2⟩ := put4 a h1
  obtain ⟨j1, j2, j3⟩ := join2 b c h2
  rw [getMdV, if_pos h3]
  have hd : mdData a b c D = bs (putL a 4) ++ bs (joinL 1 [b, c]) ++ D := rfl
  obtain ⟨P, hP⟩ : ∃ P, bs (putL a 4) = P := ⟨_, rfl⟩
  obtain ⟨J, hJ⟩ : ∃ J, bs (joinL 1 [b, c]) = J := ⟨_, rfl⟩
  rw [hP] at hd p1 p2
  rw [hJ] at hd j1 j2 j3
  rw [hd]
  have hz : (P ++ J ++ D).size = 6 + D.size := by rw [ByteArray.size_append, ByteArray.size_append]; omega
  have hzp : (P ++ J).size = 6 := by rw [ByteArray.size_append]; omega
  have e0 : getN (P ++ J ++ D) 0 4 = a := by
    rw [getN, if_pos (by omega), ← p2]
    refine getTo_congr 4 ?_
    intro j hj
    rw [byteAt_append_left _ _ _ (by rw [hzp]; show 0 + j < 6; omega), byteAt_append_left _ _ _ (by show 0 + j < P.size; omega)]
    rfl
  have e4 : (byteAt (P ++ J ++ D) 4 : Int) = b := by
    rw [byteAt_append_left _ _ _ (by omega)]
    have := byteAt_append_right P J 0
    rw [p1] at this
    rw [← j2]
    exact congrArg _ this
  have e5 : (byteAt (P ++ J ++ D) 5 : Int) = c := by
    rw [byteAt_append_left _ _ _ (by omega)]
    have := byteAt_append_right P J 1
    rw [p1] at this
    rw [← j3]
    exact congrArg _ this
  have e6 : (P ++ J ++ D).extract 6 (P ++ J ++ D).size = D := by
    refine byteAt_ext ?_ ?_
    · rw [extract_size _ _ _ (Nat.le_refl _)]; omega
    · intro j hj
      rw [extract_size _ _ _ (Nat.le_refl _)] at hj
      rw [byteAt_extract _ _ _ _ (Nat.le_refl _) (by omega), ← hzp, byteAt_append_right]
  rw [e0, e4, e5, e6]

/-- F6. -/
theorem md_back {s : ByteArray} (h : mayD 63 s = true) : putMdE (getN s 0 4) (byteAt s 4) (byteAt s 5) (s.extract 6 s.size) = 0 ∧ putMdS (getN s 0 4) (byteAt s 4) (byteAt s 5) (s.extract 6 s.size) = s := by
  have hz := mayD_63 h
  have l4 := byteAt_lt s 4
  have l5 := byteAt_lt s 5
  have e0 : getN s 0 4 = getTo s 0 4 := by rw [getN, if_pos (by omega)]; rfl
  have f1 : fits (getN s 0 4) 4 = true := by rw [e0]; exact getTo4_fits s 0
  have f2 : joinOk 1 [(byteAt s 4 : Int), (byteAt s 5 : Int)] = true := by
    have k4 := (fits_iff (byteAt s 4 : Int) 1).2 ⟨by decide, by decide, by omega, by omega⟩
    have k5 := (fits_iff (byteAt s 5 : Int) 1).2 ⟨by decide, by decide, by omega, by omega⟩
    have k4' : fits (byteAt s 4 : Int) 1 = true := k4
    have k5' : fits (byteAt s 5 : Int) 1 = true := k5
    simp [joinOk, k4', k5']
  obtain ⟨j1, j2, j3⟩ := join2 _ _ f2
  have p1 := (put4 _ f1).1
  have hd : mdData (getN s 0 4) (byteAt s 4) (byteAt s 5) (s.extract 6 s.size) = s := by
    unfold mdData
    have pz : ∀ j, j < 4 → byteAt (bs (putL (getN s 0 4) 4)) j = byteAt s j := by
      intro j hj
      have hL : putL (getN s 0 4) 4 = putTo (getTo s 0 4) 4 4 := by rw [putL, if_pos f1, e0]; rfl
      rw [hL, put_get4_at s 0 j hj, Nat.zero_add]
    obtain ⟨P, hP⟩ : ∃ P, bs (putL (getN s 0 4) 4) = P := ⟨_, rfl⟩
    obtain ⟨J, hJ⟩ : ∃ J, bs (joinL 1 [(byteAt s 4 : Int), (byteAt s 5 : Int)]) = J := ⟨_, rfl⟩
    rw [hP] at p1 pz ⊢
    rw [hJ] at j1 j2 j3 ⊢
    have hzp : (P ++ J).size = 6 := by rw [ByteArray.size_append]; omega
    have hze : (s.extract 6 s.size).size = s.size - 6 := extract_size _ _ _ (Nat.le_refl _)
    refine byteAt_ext ?_ ?_
    · rw [ByteArray.size_append]; omega
    · intro j hj
      rw [ByteArray.size_append] at hj
      by_cases h6 : j < 6
      · rw [byteAt_append_left _ _ _ (by omega)]
        by_cases h4 : j < 4
        · rw [byteAt_append_left _ _ _ (by omega)]
          exact pz j h4
        · have q0 := byteAt_append_right P J 0
          have q1 := byteAt_append_right P J 1
          rw [p1] at q0 q1
          rcases (by omega : j = 4 ∨ j = 5) with rfl | rfl
          · have : byteAt (P ++ J) 4 = byteAt J 0 := q0
            rw [this]; omega
          · have : byteAt (P ++ J) 5 = byteAt J 1 := q1
            rw [this]; omega
      · have e : j = (P ++ J).size + (j - 6) := by omega
        have q := byteAt_append_right (P ++ J) (s.extract 6 s.size) (j - 6)
        rw [← e] at q
        have q2 := byteAt_extract s 6 s.size (j - 6) (Nat.le_refl _) (by omega)
        rw [q, q2]
        congr 1
        omega
  have hf : (fits (getN s 0 4) 4 && joinOk 1 [(byteAt s 4 : Int), (byteAt s 5 : Int)]) = true := by rw [f1, f2]; rfl
  refine ⟨by rw [putMdE, if_pos hf, hd, if_pos h], by rw [putMdS, if_pos hf, hd, if_pos h]⟩
end Go.Proofs.Ythfnphcefkdgbaa
end

section
namespace Go.Proofs.Ythfnphcefkdgbaa
open Go.RowKit

end Go.Proofs.Ythfnphcefkdgbaa
end

section
namespace Go.Proofs.Ythfnphcefkdgbaa
open Go.RowKit

theorem getN_tail (s : ByteArray) (B : Nat) (hB : B ≤ s.size) (k : Nat) : getN s ((B : Int) + (k : Int)) 4 = getN (s.extract B s.size) (k : Int) 4 := by
  have hz := extract_size s B s.size (Nat.le_refl _)
  by_cases h : B + k + 4 ≤ s.size
  · rw [getN, getN, if_pos (by omega), if_pos (by omega)]
    have e : ((B : Int) + (k : Int)).toNat = B + k := by omega
    rw [e, Int.toNat_natCast]
    refine getTo_congr 4 ?_
    intro j hj
    rw [byteAt_extract _ _ _ _ (Nat.le_refl _) (by omega), Nat.add_assoc]
  · rw [getN, getN, if_neg (by omega), if_neg (by omega)]

end Go.Proofs.Ythfnphcefkdgbaa
end

section
namespace Go.Proofs.Ythfnphcefkdgbaa
open Go.RowKit

theorem nm_one (k : Int) (s : ByteArray) : (tgB k s = true ∧ nmL k s = [tgS k s]) ∨ (tgB k s = false ∧ tgS k s = ⟨#[]⟩ ∧ (nmL k s = [] ∨ ∃ x y, nmL k s = [x, y])) := by
  cases h : tgB k s
  · right
    refine ⟨rfl, by rw [tgS, h]; rfl, ?_⟩
    by_cases h6 : k = 6
    · subst h6
      cases hb : soaOk s
      · left; rw [nmL, hb]; rfl
      · right; exact ⟨soaM s, soaR s, by rw [nmL, hb]; rfl⟩
    · left; rw [nmL, if_neg h6, h]; rfl
  · left
    have h6 : k ≠ 6 := by
      intro h6
      subst h6
      simp [tgB] at h
    exact ⟨rfl, by rw [nmL, if_neg h6, h]; rfl⟩

theorem drewN_addR (w : World) (a b : Nat) : (w.drewN a).drewN b = w.drewN (a + b) := by
  induction b with
  | zero => rfl
  | succ b ih => exact congrArg World.drew ih
theorem row_next {l r : List ByteArray} {k : Nat} (h : ∀ j, j < k → l.getD j ByteArray.empty = r.getD j ByteArray.empty) (h1 : l.getD k ByteArray.empty = r.getD k ByteArray.empty) : ∀ j, j < k + 1 → l.getD j ByteArray.empty = r.getD j ByteArray.empty := by
  intro j hj
  by_cases e : j = k
  · subst e; exact h1
  · exact h j (by omega)

theorem toList_injR {s t : ByteArray} (h : s.toList = t.toList) : s = t := by
  have h2 : s.data.toList = t.data.toList := (bs_toList s.data.toList).symm.trans (Eq.trans h (bs_toList t.data.toList))
  exact ByteArray.ext (Array.toList_inj.1 h2)

/-- Two rows of texts. -/
theorem sameS_any (a b : Option Addr) (n m ca cb : Nat) (l r : List ByteArray) (w : World) (ha : RowS w a n l) (hb : RowS w b m r) (hn : n ≤ 1000000) :
    Calls Try.prog 90 #[.slice a n ca, .slice b m cb] w fun e w' => e = .returned (.bool (decide (l = r))) ∧ ∃ k, w' = w.drewN k := by
  have HA := Lib.hid ha
  have HB := Lib.hid hb
  have hla := ha.1
  have hlb := hb.1
  clear ha hb
  by_cases hnm : n = m
  · subst hnm
    have e0 : ((n : Int) != (n : Int)) = false := nF rfl
    have HLA := Lib.hid hla
    have HLB := Lib.hid hlb
    clear hla hlb
    go_enter Try.func90, Try.ntmps90
    go_wp2
    go_loopw [5] (fun i wr => ∃ k q : Nat, k ≤ n ∧ i = .int .i64 k ∧ (∀ j, j < k → l.getD j ByteArray.empty = r.getD j ByteArray.empty) ∧ wr = w.drewN q) (fun i _ => n - (intOf i).toNat)
    case atStart => exact ⟨0, 0, Nat.zero_le _, rfl, fun j hj => absurd hj (by omega), rfl⟩
    case round =>
      obtain ⟨k, q, hk, rfl, hal, rfl⟩ := hrel
      have HAL := Lib.hid hal
      clear hal
      by_cases hlt : k < n
      · rcases HA.out.2 with h0 | ⟨b1, o1, rfl, _, hc1⟩
        · omega
        rcases HB.out.2 with h0 | ⟨b2, o2, rfl, _, hc2⟩
        · omega
        obtain ⟨s, hs⟩ : ∃ s, l.getD k ByteArray.empty = s := ⟨_, rfl⟩
        obtain ⟨t, ht⟩ : ∃ t, r.getD k ByteArray.empty = t := ⟨_, rfl⟩
        have g1 := hc1 k hlt
        have g2 := hc2 k hlt
        rw [hs] at g1
        rw [ht] at g2
        have HS := Lib.hid hs
        have HT := Lib.hid ht
        clear hc1 hc2 hs ht
        have i1 : (k : Int) < (n : Int) := by omega
        by_cases e : s = t
        · subst e
          go_wp2_with fail
          go_quiet (fail)
          go_wp2
          rename_i nq
          go_roundw
          case rel => exact ⟨k + 1, q + nq, by omega, by go_num, row_next HAL.out (HS.out.trans HT.out.symm), rfl⟩
          case measure => simp [intOf]; omega
        · have eb : (s.toList == t.toList) = false := by
            rw [beq_eq_false_iff_ne]
            intro h
            exact e (toList_injR h)
          have HV := Lib.hid (show decide (l = r) = false by
            apply dF
            intro h
            subst h
            exact e (HS.out.symm.trans HT.out))
          clear e
          go_wp2_with fail
          go_quiet (fail)
          go_wp2
          rename_i nq
          go_returns
          exact ⟨ret_bool HV.out.symm, _, by first | rfl | exact drewN_addR _ _ _⟩
      · have hkn : k = n := by omega
        subst hkn
        have HV := Lib.hid (show decide (l = r) = true by
          apply dT
          refine List.ext_getElem (by rw [HLA.out, HLB.out]) ?_
          intro i h1 h2
          have := HAL.out i (by rw [← HLA.out]; exact h1)
          rw [List.getD_eq_getElem?_getD, List.getD_eq_getElem?_getD, List.getElem?_eq_getElem h1, List.getElem?_eq_getElem h2] at this
          exact this)
        go_wp2
        go_returns
        exact ⟨ret_bool HV.out.symm, q, rfl⟩
  · have e0 : ((n : Int) != (m : Int)) = true := nT (by omega)
    have hne : l ≠ r := by intro e; rw [e] at hla; omega
    have HV := Lib.hid (dF hne)
    clear hne hla hlb
    go_enter Try.func90, Try.ntmps90
    go_wp2
    go_returns
    exact ⟨ret_bool HV.out.symm, 0, rfl⟩

/-- May a record be? -/
def mayR (N : ByteArray) (t c u : Int) (D : ByteArray) : Bool := decide (t ≠ 41 ∧ t ≠ 252 ∧ t ≠ 255) && (mayN N && (decide (0 ≤ c ∧ c ≤ 65535) && (decide (0 ≤ u ∧ u ≤ 2147483647) && mayD t D)))

set_option maxRecDepth 100000 in
set_option maxHeartbeats 1600000 in
theorem mayRR_any (N : ByteArray) (t c u : Int) (D : ByteArray) (w : World) (hN : N.size ≤ 1000000) (hD : D.size ≤ 1000000) : Calls Try.prog 81 #[.agg #[.string N, .int .i64 t, .int .i64 c, .int .i64 u, .string D]] w fun e w' => e = .returned (.bool (mayR N t c u D)) ∧ Below w.heap.size w w' := by
  by_cases h : t ≠ 41 ∧ t ≠ 252 ∧ t ≠ 255
  · obtain ⟨c1, c2, c3⟩ := h
    have e1 := eF c1
    have e2 := eF c2
    have e3 := eF c3
    have hv : mayR N t c u D = (mayN N && (decide (0 ≤ c ∧ c ≤ 65535) && (decide (0 ≤ u ∧ u ≤ 2147483647) && mayD t D))) := by rw [mayR, dT (p := t ≠ 41 ∧ t ≠ 252 ∧ t ≠ 255) ⟨c1, c2, c3⟩, Bool.true_and]
    cases m1 : mayN N
    · have HV := Lib.hid (show mayR N t c u D = false by rw [hv, m1]; rfl)
      have M1 := Lib.hid m1
      clear hv m1 c1 c2 c3
      go_enter Try.func81, Try.ntmps81
      go_wp2_with fail
      refine (nmay_any _ _ hN).mono ?_; rintro e w' ⟨rfl, rfl⟩
      rw [M1.out]
      go_wp2
      go_ret
      exact ⟨ret_bool HV.out.symm, (Below.refl _ _).alloc (Nat.le_refl _) _⟩
    · have M1 := Lib.hid m1
      by_cases h2 : 0 ≤ c ∧ c ≤ 65535
      · have d2 := dT h2
        by_cases h3 : 0 ≤ u ∧ u ≤ 2147483647
        · have d3 := dT (p := (0 : Int) ≤ u) h3.1
          have d4 := dT (p := u ≤ (2147483647 : Int)) h3.2
          have HV := Lib.hid (show mayR N t c u D = mayD t D by rw [hv, m1, d2, dT h3]; rfl)
          clear hv m1 c1 c2 c3 h2 h3
          go_enter Try.func81, Try.ntmps81
          go_wp2_with fail
          refine (nmay_any _ _ hN).mono ?_; rintro e w' ⟨rfl, rfl⟩
          rw [M1.out]
          go_wp2_with (first | (go_at_call 113; refine (has16_anyR _ _).mono ?_; rintro e w' ⟨rfl, rfl⟩))
          refine (may_any _ _ _ hD).mono ?_; rintro e w1 ⟨rfl, hb⟩
          have HB := Lib.hid (((Below.refl w.heap.size w).alloc (Nat.le_refl _) _).trans (hb.mono (by simp))); clear hb
          go_wp2
          go_ret
          exact ⟨ret_bool HV.out.symm, HB.out⟩
        · have hd : decide ((0 : Int) ≤ u) = false ∨ decide ((0 : Int) ≤ u) = true ∧ decide (u ≤ (2147483647 : Int)) = false := by
            simp only [decide_eq_true_eq, decide_eq_false_iff_not]; omega
          have HV := Lib.hid (show mayR N t c u D = false by rw [hv, m1, d2, dF h3]; rfl)
          clear hv m1 c1 c2 c3 h2 h3
          rcases hd with d3 | ⟨d3, d4⟩
          all_goals
            go_enter Try.func81, Try.ntmps81
            go_wp2_with fail
            refine (nmay_any _ _ hN).mono ?_; rintro e w' ⟨rfl, rfl⟩
            rw [M1.out]
            go_wp2_with (first | (go_at_call 113; refine (has16_anyR _ _).mono ?_; rintro e w' ⟨rfl, rfl⟩))
            go_ret
            exact ⟨ret_bool HV.out.symm, (Below.refl _ _).alloc (Nat.le_refl _) _⟩
      · have d2 := dF h2
        have HV := Lib.hid (show mayR N t c u D = false by rw [hv, m1, d2]; rfl)
        clear hv m1 c1 c2 c3 h2
        go_enter Try.func81, Try.ntmps81
        go_wp2_with fail
        refine (nmay_any _ _ hN).mono ?_; rintro e w' ⟨rfl, rfl⟩
        rw [M1.out]
        go_wp2_with (first | (go_at_call 113; refine (has16_anyR _ _).mono ?_; rintro e w' ⟨rfl, rfl⟩))
        go_ret
        exact ⟨ret_bool HV.out.symm, (Below.refl _ _).alloc (Nat.le_refl _) _⟩
  · have HV := Lib.hid (show mayR N t c u D = false by rw [mayR, dF h]; rfl)
    have hd : (t == 41) = true ∨ (t == 41) = false ∧ ((t == 252) = true ∨ (t == 252) = false ∧ (t == 255) = true) := by
      simp only [beq_iff_eq, beq_eq_false_iff_ne, ne_eq]; omega
    clear h
    rcases hd with d1 | ⟨d1, d2 | ⟨d2, d3⟩⟩
    all_goals
      go_enter Try.func81, Try.ntmps81
      go_wp2
      go_ret
      exact ⟨ret_bool HV.out.symm, (Below.refl _ _).alloc (Nat.le_refl _) _⟩
set_option maxRecDepth 100000 in
set_option maxHeartbeats 1600000 in
theorem rmayRR_any (N : ByteArray) (t c u : Int) (D : ByteArray) (w : World) (hN : N.size ≤ 1000000) (hD : D.size ≤ 1000000) : Calls Try.prog 43 #[.agg #[.string N, .int .i64 t, .int .i64 c, .int .i64 u, .string D]] w fun e w' => e = .returned (.bool (mayR N t c u D)) ∧ Below w.heap.size w w' := by
  cases m1 : mayN N
  · have HV := Lib.hid (show mayR N t c u D = false by rw [mayR, m1, Bool.false_and, Bool.and_false])
    have M1 := Lib.hid m1
    clear m1
    go_enter Try.func43, Try.ntmps43
    go_wp2_with fail
    refine (rmay_any _ _ hN).mono ?_; rintro e w' ⟨rfl, rfl⟩
    rw [M1.out]
    go_wp2
    go_ret
    exact ⟨ret_bool HV.out.symm, (Below.refl _ _).alloc (Nat.le_refl _) _⟩
  · have M1 := Lib.hid m1
    by_cases h : 0 ≤ t ∧ t ≤ 65535 ∧ t ≠ 41 ∧ t ≠ 252 ∧ t ≠ 255 ∧ 0 ≤ c ∧ c ≤ 65535 ∧ 0 ≤ u ∧ u < 2147483648
    · obtain ⟨h1, h2, h3, h4, h5, h6, h7, h8, h9⟩ := h
      have HV := Lib.hid (show mayR N t c u D = mayD t D by rw [mayR, m1, dT (p := t ≠ 41 ∧ t ≠ 252 ∧ t ≠ 255) ⟨h3, h4, h5⟩, dT (p := 0 ≤ c ∧ c ≤ 65535) ⟨h6, h7⟩, dT (p := 0 ≤ u ∧ u ≤ 2147483647) (by omega)]; rfl)
      have d1 := dT h1
      have d2 := dT h2
      have d3 := nT h3
      have d4 := nT h4
      have d5 := nT h5
      have d6 := dT h6
      have d7 := dT h7
      have d8 := dT h8
      have d9 := dT h9
      clear m1 h1 h2 h3 h4 h5 h6 h7 h8 h9
      go_enter Try.func43, Try.ntmps43
      go_wp2_with fail
      refine (rmay_any _ _ hN).mono ?_; rintro e w' ⟨rfl, rfl⟩
      rw [M1.out]
      go_wp2_with fail
      refine (rmayD_any _ _ _ hD).mono ?_; rintro e w' ⟨rfl, rfl⟩
      go_wp2
      go_ret
      exact ⟨ret_bool HV.out.symm, (Below.refl _ _).alloc (Nat.le_refl _) _⟩
    · have hv : mayR N t c u D = false := by
        rw [mayR, m1, Bool.true_and]
        by_cases k1 : t ≠ 41 ∧ t ≠ 252 ∧ t ≠ 255
        · by_cases k2 : 0 ≤ c ∧ c ≤ 65535
          · by_cases k3 : 0 ≤ u ∧ u ≤ 2147483647
            · rw [mayD, dF (p := 0 ≤ t ∧ t ≤ 65535) (by omega)]; simp
            · rw [dF k3]; simp
          · rw [dF k2]; simp
        · rw [dF k1]; rfl
      have HV := Lib.hid hv
      have hd : decide ((0 : Int) ≤ t) = false ∨ decide ((0 : Int) ≤ t) = true ∧ (decide (t ≤ (65535 : Int)) = false ∨ decide (t ≤ (65535 : Int)) = true ∧ ((t != 41) = false ∨ (t != 41) = true ∧ ((t != 252) = false ∨ (t != 252) = true ∧ ((t != 255) = false ∨ (t != 255) = true ∧ (decide ((0 : Int) ≤ c) = false ∨ decide ((0 : Int) ≤ c) = true ∧ (decide (c ≤ (65535 : Int)) = false ∨ decide (c ≤ (65535 : Int)) = true ∧ (decide ((0 : Int) ≤ u) = false ∨ decide ((0 : Int) ≤ u) = true ∧ decide (u < (2147483648 : Int)) = false))))))) := by
        simp only [decide_eq_true_eq, decide_eq_false_iff_not, bne_iff_ne, ne_eq, bne_eq_false_iff_eq]; omega
      clear m1 h hv
      rcases hd with d1 | ⟨d1, d2 | ⟨d2, d3 | ⟨d3, d4 | ⟨d4, d5 | ⟨d5, d6 | ⟨d6, d7 | ⟨d7, d8 | ⟨d8, d9⟩⟩⟩⟩⟩⟩⟩⟩
      all_goals
        go_enter Try.func43, Try.ntmps43
        go_wp2_with fail
        refine (rmay_any _ _ hN).mono ?_; rintro e w' ⟨rfl, rfl⟩
        rw [M1.out]
        go_wp2
        go_ret
        exact ⟨ret_bool HV.out.symm, (Below.refl _ _).alloc (Nat.le_refl _) _⟩
end Go.Proofs.Ythfnphcefkdgbaa
end
