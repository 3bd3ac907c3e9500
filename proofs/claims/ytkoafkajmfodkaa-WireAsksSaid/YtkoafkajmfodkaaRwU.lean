/- Unflag, both sides. -/
import Derived.Test.YtkoafkajmfodkaaRwA
namespace Go.Proofs.Ytkoafkajmfodkaa
open Go.RowKit

theorem and1 (x : Nat) (h : x < 65536) : bits .and .i64 (x : Int) 1 = ((x % 2 : Nat) : Int) := by
  have := andI x 1 h (by decide)
  rw [show ((1 : Nat) : Int) = 1 from rfl] at this
  rw [this, show (1 : Nat) = 2 ^ 1 - 1 from rfl, Nat.and_two_pow_sub_one_eq_mod]
theorem bit_eq (x k : Nat) (h : x < 65536) (hk : 2 ^ k < 65536) : (bits .and .i64 ((x / 2 ^ k : Nat) : Int) 1 == 1) = (bits .and .i64 (x : Int) ((2 ^ k : Nat) : Int) != 0) := by
  rw [and_bit x k h hk, and1 _ (Nat.lt_of_le_of_lt (Nat.div_le_self _ _) h)]
  by_cases hb : x / 2 ^ k % 2 = 1
  · rw [hb]; rfl
  · have h0 : x / 2 ^ k % 2 = 0 := by omega
    rw [h0]; rfl
theorem bit_eqI {f : Int} (h : inR f 65535 = true) : (bits .and .i64 (f / 32768) 1 == 1) = (bits .and .i64 f 32768 != 0) ∧ (bits .and .i64 (f / 1024) 1 == 1) = (bits .and .i64 f 1024 != 0) ∧ (bits .and .i64 (f / 512) 1 == 1) = (bits .and .i64 f 512 != 0) ∧ (bits .and .i64 (f / 256) 1 == 1) = (bits .and .i64 f 256 != 0) ∧ (bits .and .i64 (f / 128) 1 == 1) = (bits .and .i64 f 128 != 0) := by
  obtain ⟨h0, h1⟩ := inR_t h
  obtain ⟨x, rfl⟩ : ∃ x : Nat, f = (x : Int) := ⟨f.toNat, by omega⟩
  have hx : x < 65536 := by omega
  refine ⟨?_, ?_, ?_, ?_, ?_⟩
  · exact bit_eq x 15 hx (by decide)
  · exact bit_eq x 10 hx (by decide)
  · exact bit_eq x 9 hx (by decide)
  · exact bit_eq x 8 hx (by decide)
  · exact bit_eq x 7 hx (by decide)
set_option maxRecDepth 100000 in
set_option maxHeartbeats 4000000 in
theorem runflag_no (i f : Int) (w : World) (h : ¬ (0 ≤ i ∧ i ≤ 65535 ∧ 0 ≤ f ∧ f ≤ 65535)) :
    Calls Try.prog 22 #[.int .i64 i, .int .i64 f] w fun e w' => e = .returned (.tuple #[.agg #[.int .i64 0, .int .i64 0, .int .i64 0, .bool false, .bool false, .bool false, .bool false, .bool false], .int .i64 1]) ∧ Below w.heap.size w w' := by
  by_cases g0 : i < 0
  · have d0 := dT g0
    clear g0 h
    go_enter Try.func22, Try.ntmps22
    go_wp2
    refine bodyPost_ret (v := .tuple #[.agg #[.int .i64 0, .int .i64 0, .int .i64 0, .bool false, .bool false, .bool false, .bool false, .bool false], .int .i64 1]) (by simp [results, Try.results22, go_sem]) rfl ⟨rfl, ?_⟩
    repeat (first | exact Below.refl _ _ | refine Below.alloc ?_ (by simp) _ | refine Below.setCell ?_ (by simp) _)
  have d0 := dF g0
  by_cases g1 : 65535 < i
  · have d1 := dT (p := (65535 : Int) < i) g1
    clear g0 g1 h
    go_enter Try.func22, Try.ntmps22
    go_wp2
    refine bodyPost_ret (v := .tuple #[.agg #[.int .i64 0, .int .i64 0, .int .i64 0, .bool false, .bool false, .bool false, .bool false, .bool false], .int .i64 1]) (by simp [results, Try.results22, go_sem]) rfl ⟨rfl, ?_⟩
    repeat (first | exact Below.refl _ _ | refine Below.alloc ?_ (by simp) _ | refine Below.setCell ?_ (by simp) _)
  have d1 := dF (p := (65535 : Int) < i) g1
  by_cases g2 : f < 0
  · have d2 := dT g2
    clear g0 g1 g2 h
    go_enter Try.func22, Try.ntmps22
    go_wp2
    refine bodyPost_ret (v := .tuple #[.agg #[.int .i64 0, .int .i64 0, .int .i64 0, .bool false, .bool false, .bool false, .bool false, .bool false], .int .i64 1]) (by simp [results, Try.results22, go_sem]) rfl ⟨rfl, ?_⟩
    repeat (first | exact Below.refl _ _ | refine Below.alloc ?_ (by simp) _ | refine Below.setCell ?_ (by simp) _)
  have d2 := dF g2
  have d3 := dT (p := (65535 : Int) < f) (by omega)
  clear g0 g1 g2 h
  go_enter Try.func22, Try.ntmps22
  go_wp2
  refine bodyPost_ret (v := .tuple #[.agg #[.int .i64 0, .int .i64 0, .int .i64 0, .bool false, .bool false, .bool false, .bool false, .bool false], .int .i64 1]) (by simp [results, Try.results22, go_sem]) rfl ⟨rfl, ?_⟩
  repeat (first | exact Below.refl _ _ | refine Below.alloc ?_ (by simp) _ | refine Below.setCell ?_ (by simp) _)
set_option maxRecDepth 100000 in
set_option maxHeartbeats 4000000 in
theorem runflag_yes (i f : Int) (w : World) (h1 : inR i 65535 = true) (h2 : inR f 65535 = true) :
    Calls Try.prog 22 #[.int .i64 i, .int .i64 f] w fun e w' => e = .returned (.tuple #[.agg #[.int .i64 i, .int .i64 (bits .and .i64 (f / 2048) 15), .int .i64 (bits .and .i64 f 15), .bool (bits .and .i64 f 32768 != 0), .bool (bits .and .i64 f 1024 != 0), .bool (bits .and .i64 f 512 != 0), .bool (bits .and .i64 f 256 != 0), .bool (bits .and .i64 f 128 != 0)], .int .i64 0]) ∧ Below w.heap.size w w' := by
  have p1 := inR_t h1
  have p2 := inR_t h2
  have d0 := dF (p := i < 0) (by omega)
  have d1 := dF (p := (65535 : Int) < i) (by omega)
  have d2 := dF (p := f < 0) (by omega)
  have d3 := dF (p := (65535 : Int) < f) (by omega)
  obtain ⟨b1, b2, b3, b4, b5⟩ := bit_eqI h2
  rw [← b1, ← b2, ← b3, ← b4, ← b5]
  clear p1 p2 h1 h2 b1 b2 b3 b4 b5
  go_enter Try.func22, Try.ntmps22
  go_wp2
  refine bodyPost_ret (v := .tuple #[.agg #[.int .i64 i, .int .i64 (bits .and .i64 (f / 2048) 15), .int .i64 (bits .and .i64 f 15), .bool (bits .and .i64 (f / 32768) 1 == 1), .bool (bits .and .i64 (f / 1024) 1 == 1), .bool (bits .and .i64 (f / 512) 1 == 1), .bool (bits .and .i64 (f / 256) 1 == 1), .bool (bits .and .i64 (f / 128) 1 == 1)], .int .i64 0]) (by simp [results, Try.results22, go_sem]) rfl ⟨rfl, ?_⟩
  repeat (first | exact Below.refl _ _ | refine Below.alloc ?_ (by simp) _ | refine Below.setCell ?_ (by simp) _)
/-- Both tell the same. -/
theorem unflag_both (i f : Int) : ∃ (a0 a1 a2 : Int) (c1 c2 c3 c4 c5 : Bool) (er : Int), (∀ w, Calls Try.prog 21 #[.int .i64 i, .int .i64 f] w fun e w' => e = .returned (.tuple #[.agg #[.int .i64 a0, .int .i64 a1, .int .i64 a2, .bool c1, .bool c2, .bool c3, .bool c4, .bool c5], .int .i64 er]) ∧ Below w.heap.size w w') ∧ ∀ w, Calls Try.prog 22 #[.int .i64 i, .int .i64 f] w fun e w' => e = .returned (.tuple #[.agg #[.int .i64 a0, .int .i64 a1, .int .i64 a2, .bool c1, .bool c2, .bool c3, .bool c4, .bool c5], .int .i64 er]) ∧ Below w.heap.size w w' := by
  by_cases h : 0 ≤ i ∧ i ≤ 65535 ∧ 0 ≤ f ∧ f ≤ 65535
  · have h1 : inR i 65535 = true := by simp [inR, h.1, h.2.1]
    have h2 : inR f 65535 = true := by simp [inR, h.2.2.1, h.2.2.2]
    exact ⟨_, _, _, _, _, _, _, _, _, fun w => unflag_yes i f w h1 h2, fun w => runflag_yes i f w h1 h2⟩
  · have h1 : (inR i 65535 && inR f 65535) = false := by
      cases hb : (inR i 65535 && inR f 65535)
      · rfl
      · simp only [Bool.and_eq_true] at hb
        have h3 := inR_t hb.1
        have h4 := inR_t hb.2
        omega
    exact ⟨_, _, _, _, _, _, _, _, _, fun w => unflag_no i f w h1, fun w => runflag_no i f w h⟩
end Go.Proofs.Ytkoafkajmfodkaa
