/- What Put writes, Get reads: bits. -/
import Derived.Test.YtkoafkajmfodkaaFs6
namespace Go.Proofs.Ytkoafkajmfodkaa
open Go.RowKit

theorem ofInt_u64' (x : Nat) (h : x < 18446744073709551616) : (BitVec.ofInt 64 (x : Int)).toNat = x := by
  rw [BitVec.toNat_ofInt]; omega
theorem or_shift (i x y : Nat) (hy : y < 2 ^ i) (h : 2 ^ i * x + y < 9223372036854775808) : bits .or .i64 ((2 ^ i * x : Nat) : Int) ((y : Nat) : Int) = ((2 ^ i * x + y : Nat) : Int) := by
  show IntKind.i64.wrap ((BitVec.ofInt 64 (((2 ^ i * x : Nat) : Int)) ||| BitVec.ofInt 64 ((y : Nat) : Int)).toNat : Int) = _
  have h1 := Nat.two_pow_add_eq_or_of_lt (i := i) (b := y) hy x
  rw [BitVec.toNat_or, ofInt_u64' (2 ^ i * x) (by omega), ofInt_u64' y (by omega), ← h1]
  rw [IntKind.wrap_i64]; omega
theorem mask8 (n : Int) : bits .and .i64 n 255 = n % 256 := by
  have hm : (BitVec.ofInt 64 255).toNat = 2 ^ 8 - 1 := by decide
  have key : (BitVec.ofInt 64 n &&& BitVec.ofInt 64 255).toNat = (n % ((2 ^ 64 : Nat) : Int)).toNat % 2 ^ 8 := by
    rw [BitVec.toNat_and, BitVec.toNat_ofInt, hm, Nat.and_two_pow_sub_one_eq_mod]
  show IntKind.i64.wrap ((BitVec.ofInt 64 n &&& BitVec.ofInt 64 255).toNat : Nat) = n % 256
  rw [key, IntKind.wrap_i64]
  omega
theorem bit15 (t c : Nat) (h : t < 9223372036854775808) (hc : t % 65536 = c) (hcc : c = 0 ∨ c = 32768) : bits .and .i64 (t : Int) 32768 = (c : Int) := by
  have hm : (BitVec.ofInt 64 32768).toNat = 32768 := by decide
  have k1 : t &&& 32768 = c := by
    have h1 : (t &&& 32768) % 2 ^ 16 = (t % 2 ^ 16) &&& (32768 % 2 ^ 16) := Nat.and_mod_two_pow
    have h2 : t &&& 32768 ≤ 32768 := Nat.and_le_right
    have h3 : t % 2 ^ 16 = c := hc
    rw [Nat.mod_eq_of_lt (by omega), h3] at h1
    rw [h1]
    rcases hcc with rfl | rfl <;> decide
  show IntKind.i64.wrap ((BitVec.ofInt 64 (t : Int) &&& BitVec.ofInt 64 32768).toNat : Nat) = _
  rw [BitVec.toNat_and, hm, ofInt_u64' t (by omega), k1]
  rw [IntKind.wrap_i64]; omega
theorem putE_rng {o : OptP} (h : putE o = 0) : (0 ≤ o.size ∧ o.size ≤ 65535) ∧ (0 ≤ o.ver ∧ o.ver ≤ 255) ∧ (0 ≤ o.rc ∧ o.rc ≤ 255) ∧ o.data.size ≤ 1000 := by
  unfold putE at h
  split at h
  · rename_i h1
    simp only [Bool.and_eq_true] at h1
    split at h
    · omega
    · exact ⟨inR_t h1.1, inR_t h1.2.1, inR_t h1.2.2, by omega⟩
  · omega
theorem ttlO_val {o : OptP} (h : putE o = 0) : ttlO o = o.rc * 16777216 + o.ver * 65536 + (if o.d then 32768 else 0) := by
  obtain ⟨_, ⟨v0, v1⟩, ⟨r0, r1⟩, _⟩ := putE_rng h
  obtain ⟨v, hv⟩ : ∃ v : Nat, o.ver = (v : Int) := ⟨o.ver.toNat, by omega⟩
  obtain ⟨r, hr⟩ : ∃ r : Nat, o.rc = (r : Int) := ⟨o.rc.toNat, by omega⟩
  have e1 : bits .or .i64 (o.rc * 16777216) (o.ver * 65536) = ((16777216 * r + 65536 * v : Nat) : Int) := by
    have := or_shift 24 r (65536 * v) (by omega) (by omega)
    rw [hv, hr, show (r : Int) * 16777216 = ((2 ^ 24 * r : Nat) : Int) by omega, show (v : Int) * 65536 = ((65536 * v : Nat) : Int) by omega, this]
  unfold ttlO
  rw [e1]
  split
  · have := or_shift 16 (256 * r + v) 32768 (by decide) (by omega)
    rw [show 16777216 * r + 65536 * v = 2 ^ 16 * (256 * r + v) by omega]
    refine Eq.trans this ?_
    omega
  · omega
theorem ttlO_rng {o : OptP} (h : putE o = 0) : 0 ≤ ttlO o ∧ ttlO o ≤ 4294967295 := by
  obtain ⟨_, ⟨v0, v1⟩, ⟨r0, r1⟩, _⟩ := putE_rng h
  rw [ttlO_val h]
  split <;> omega
/-- What Put has made is told as it was. -/
theorem optOf_put {o : OptP} (h : putE o = 0) : optOf (putR o) = o := by
  obtain ⟨_, ⟨v0, v1⟩, ⟨r0, r1⟩, _⟩ := putE_rng h
  have hr := ttlO_rng h
  have hv := ttlO_val h
  obtain ⟨t, ht⟩ : ∃ t : Nat, ttlO o = (t : Int) := ⟨(ttlO o).toNat, by omega⟩
  rw [putR_ok h]
  obtain ⟨sz, ver, rc, d, data⟩ := o
  simp only at *
  simp only [optOf, verT, rcT, doT, mask8, ht, OptP.mk.injEq, true_and, and_true]
  rw [ht] at hv
  cases d
  · simp only [Bool.false_eq_true, if_false] at hv
    refine ⟨by omega, by omega, ?_⟩
    rw [bit15 t 0 (by omega) (by omega) (Or.inl rfl)]; rfl
  · simp only [if_true] at hv
    refine ⟨by omega, by omega, ?_⟩
    rw [bit15 t 32768 (by omega) (by omega) (Or.inr rfl)]; rfl
end Go.Proofs.Ytkoafkajmfodkaa
