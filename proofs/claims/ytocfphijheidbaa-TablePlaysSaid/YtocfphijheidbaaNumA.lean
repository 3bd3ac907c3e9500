/- The contract of num.Put (chapter 1), over this seat's translation. -/
import Derived.Test.YtocfphijheidbaaMgW
namespace Go.Proofs.Ytocfphijheidbaa
open Go.RowKit

theorem mayWidth_any (n : Int) (w : World) : Calls Try.prog 105 #[.int .i64 n] w fun e w' => e = .returned (.bool (decide (1 ≤ n ∧ n ≤ 6))) ∧ w = w' := by
  go_enter Try.func105, Try.ntmps105
  go_wp2
  all_goals (go_ret; refine ⟨ret_bool ?_, rfl⟩; simp; try omega)

/-- The first k of the W bytes of n. -/
def putTo (n : Int) (W k : Nat) : List UInt8 := (List.range k).map fun i => by8 (n / 2 ^ (8 * (W - 1 - i)))
theorem putTo_length (n : Int) (W k : Nat) : (putTo n W k).length = k := by simp [putTo]
theorem putTo_succ (n : Int) (W k : Nat) : putTo n W (k + 1) = putTo n W k ++ [by8 (n / 2 ^ (8 * (W - 1 - k)))] := by simp [putTo, List.range_succ]

/-- May n stand in W bytes? -/
def fits (n W : Int) : Bool := decide (1 ≤ W ∧ W ≤ 6 ∧ 0 ≤ n ∧ n / 2 ^ (8 * W.toNat) ≤ 0)
def putL (n W : Int) : List UInt8 := if fits n W = true then putTo n W.toNat W.toNat else []
def putE (n W : Int) : Int := if fits n W = true then 0 else 1

theorem put_step (n : Int) (W k : Nat) (h : k < W) (v : Value) (hv : v = .int .u8 (n / 2 ^ (8 * (W - 1 - k)) % 256)) :
    (bc (putTo n W k ++ List.replicate (W - k) 0)).set k v = bc (putTo n W (k + 1) ++ List.replicate (W - (k + 1)) 0) := by
  have e : W - k = (W - (k + 1)) + 1 := by omega
  rw [e, List.replicate_succ, putTo_succ, bc_append, List.set_append_right _ _ (by simp [bc_length, putTo_length])]
  simp [putTo_length, bc, by8_toNat, hv]

set_option maxRecDepth 100000 in
set_option maxHeartbeats 400000 in
theorem put_yes (n : Int) (W : Nat) (w : World) (h1 : 1 ≤ W) (h2 : W ≤ 6) (h3 : 0 ≤ n) (h4 : decide (0 < n / 2 ^ (8 * W)) = false) : Calls Try.prog 95 #[.int .i64 n, .int .i64 W] w fun e w' => e = .returned (.tuple #[.string (bs (putTo n W W)), .int .i64 0]) ∧ Below w.heap.size w w' := by
  have d3 := dF (p := n < 0) (by omega)
  have d : decide ((1 : Int) ≤ (W : Int) ∧ (W : Int) ≤ 6) = true := by simp; omega
  obtain ⟨i0, hi, hz0, hz1, hz2⟩ := info_parts infoU8
  have HI := Lib.hid hi
  have HZ0 := Lib.hid hz0
  have HZ1 := Lib.hid hz1
  have HZ2 := Lib.hid hz2
  clear hi hz0 hz1 hz2
  go_enter Try.func95, Try.ntmps95
  go_wp2_with (first | (go_at_call 105; refine (mayWidth_any _ _).mono ?_; rintro e w' ⟨rfl, rfl⟩) | (at_make; refine wpList_make_full _ rfl _ _ 25 rfl w.heap.size 5 i0 (.int .u8 0) 1 Try.underlying25 HI.out HZ0.out HZ1.out .i64 .i64 _ _ W rfl rfl rfl rfl ?b2 ?b3 (Nat.le_refl _) ?_))
  case b2 => rw [HZ2.out]; omega
  case b3 => unfold maxLen; omega
  intro w1 hown hgrow
  have HO1 := Lib.hid hown
  have HG1 := Lib.hid hgrow
  clear hown hgrow
  go_wp2
  go_loopw [26] (fun i wr => ∃ k : Nat, k ≤ W ∧ i = .int .i64 k ∧ wr.ownsRow w.heap.size 5 1 (.slice (some ⟨w.heap.size, 0, none⟩) W W) W (bc (putTo n W k ++ List.replicate (W - k) 0)) ∧ Below w.heap.size w wr) (fun i _ => W - (intOf i).toNat)
  case atStart =>
    refine ⟨0, Nat.zero_le _, rfl, ?_, (Below.refl _ _).grown HG1.out (Nat.le_refl _) (by simp)⟩
    have h := HO1.out
    rw [toList_madeCells_one] at h
    simpa [putTo, bc] using h
  case round =>
    obtain ⟨k, hk, rfl, hown1, hbel⟩ := hrel
    by_cases hlt : k < W
    · have hcell := own_at hown1 k hlt
      have hfr := hown1.frozenAt k
      obtain ⟨c0, hc0⟩ : ∃ c, (((putTo n W k ++ List.replicate (W - k) 0).getD k 0).toNat : Int) = c := ⟨_, rfl⟩
      rw [hc0] at hcell
      have HO := Lib.hid hown1
      have HBL := Lib.hid hbel
      clear hown1 hbel hc0
      go_wp2
      go_roundw
      case rel =>
        refine ⟨k + 1, by omega, by go_num, ?_, HBL.out.setCell (Nat.le_refl _) _⟩
        have := (HO.out.stored k (Value.int IntKind.u8 (n / 2 ^ (8 * (W - 1 - k)) % 256))).1
        rw [put_step n W k hlt _ rfl] at this
        exact this
      case measure => simp [intOf]; omega
    · have hkl : k = W := by omega
      subst hkl
      rw [Nat.sub_self, List.replicate_zero, List.append_nil] at hown1
      have hconv := conv_own hown1
      have HBL := Lib.hid hbel
      clear hown1 hbel
      go_wp2
      go_ret2
      exact ⟨rfl, HBL.out⟩

theorem put_no (n W : Int) (w : World) (h : fits n W = false) : Calls Try.prog 95 #[.int .i64 n, .int .i64 W] w fun e w' => e = .returned (.tuple #[.string ⟨#[]⟩, .int .i64 1]) ∧ w = w' := by
  by_cases hw : 1 ≤ W ∧ W ≤ 6
  · obtain ⟨K, rfl⟩ := Int.eq_ofNat_of_zero_le (show 0 ≤ W by omega)
    have d : decide ((1 : Int) ≤ (K : Int) ∧ (K : Int) ≤ 6) = true := dT hw
    obtain ⟨k1, k2⟩ := hw
    by_cases hn : n < 0
    · have d2 := dT hn
      clear h
      go_enter Try.func95, Try.ntmps95
      go_wp2_with (first | (go_at_call 105; refine (mayWidth_any _ _).mono ?_; rintro e w' ⟨rfl, rfl⟩))
      go_ret2
      exact ⟨rfl, rfl⟩
    · have d2 := dF hn
      have d3 : decide (0 < n / 2 ^ (8 * K)) = true := by
        simp [fits] at h
        simp
        have := h (by omega) (by omega) (by omega)
        omega
      clear h
      go_enter Try.func95, Try.ntmps95
      go_wp2_with (first | (go_at_call 105; refine (mayWidth_any _ _).mono ?_; rintro e w' ⟨rfl, rfl⟩))
      go_ret2
      exact ⟨rfl, rfl⟩
  · have d : decide (1 ≤ W ∧ W ≤ 6) = false := dF hw
    clear h hw
    go_enter Try.func95, Try.ntmps95
    go_wp2_with (first | (go_at_call 105; refine (mayWidth_any _ _).mono ?_; rintro e w' ⟨rfl, rfl⟩))
    go_ret2
    exact ⟨rfl, rfl⟩

theorem put_any (n W : Int) (w : World) : Calls Try.prog 95 #[.int .i64 n, .int .i64 W] w fun e w' => e = .returned (.tuple #[.string (bs (putL n W)), .int .i64 (putE n W)]) ∧ Below w.heap.size w w' := by
  by_cases h : fits n W = true
  · have hh := h
    simp [fits] at hh
    obtain ⟨h1, h2, h3, h4⟩ := hh
    rw [putL, putE, if_pos h, if_pos h]
    obtain ⟨K, rfl⟩ := Int.eq_ofNat_of_zero_le (show 0 ≤ W by omega)
    rw [Int.toNat_natCast] at *
    exact put_yes n K w (by omega) (by omega) h3 (dF (by omega))
  · rw [putL, putE, if_neg h, if_neg h]
    exact (put_no n W w (by simpa using h)).mono fun e w' ⟨h, g⟩ => ⟨h, g ▸ Below.refl _ _⟩
end Go.Proofs.Ytocfphijheidbaa
