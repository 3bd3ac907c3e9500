/- Flags there and back: plain. -/
import Derived.Test.YtkoafkajmfodkaaFb5
namespace Go.Proofs.Ytkoafkajmfodkaa
open Go.RowKit

theorem and112 (x : Nat) : x &&& 112 = 16 * (x / 16 % 8) := by
  have h4 := Nat.shiftRight_and_distrib (a := x) (b := 112) (i := 4)
  have h5 : (x &&& 112) % 2 ^ 4 = (x % 2 ^ 4) &&& (112 % 2 ^ 4) := Nat.and_mod_two_pow
  rw [Nat.shiftRight_eq_div_pow, Nat.shiftRight_eq_div_pow, Nat.shiftRight_eq_div_pow] at h4
  rw [show (112 : Nat) / 2 ^ 4 = 2 ^ 3 - 1 by decide, Nat.and_two_pow_sub_one_eq_mod] at h4
  rw [show (112 : Nat) % 2 ^ 4 = 0 by decide, Nat.and_zero] at h5
  have e4 : (2 : Nat) ^ 4 = 16 := by decide
  have e3 : (2 : Nat) ^ 3 = 8 := by decide
  rw [e4, e3] at h4
  rw [e4] at h5
  omega
theorem wt_le (b : Bool) (n : Int) (h : 0 ≤ n) : 0 ≤ wt b n ∧ wt b n ≤ n := by cases b <;> simp [wt] <;> omega
theorem flag_rng {o r : Int} (h : okF o r = true) (b1 b2 b3 b4 b5 : Bool) : 0 ≤ flagV o r b1 b2 b3 b4 b5 ∧ flagV o r b1 b2 b3 b4 b5 ≤ 65535 := by
  obtain ⟨h1, h2⟩ : inR o 15 = true ∧ inR r 15 = true := by simpa [okF] using h
  obtain ⟨o1, o2⟩ := inR_t h1
  obtain ⟨r1, r2⟩ := inR_t h2
  rw [flagV_val h]
  have a1 := wt_le b1 32768 (by decide)
  have a2 := wt_le b2 1024 (by decide)
  have a3 := wt_le b3 512 (by decide)
  have a4 := wt_le b4 256 (by decide)
  have a5 := wt_le b5 128 (by decide)
  omega
theorem wt_dec (b : Bool) (n : Int) : wt b n = n ∧ b = true ∨ wt b n = 0 ∧ b = false := by cases b <;> simp [wt]
theorem unf {o r : Int} (h : okF o r = true) (b1 b2 b3 b4 b5 : Bool) (V : Int) (hV : flagV o r b1 b2 b3 b4 b5 = V) :
    bits .and .i64 (V / 2048) 15 = o ∧ bits .and .i64 V 15 = r ∧ (bits .and .i64 V 32768 != 0) = b1 ∧ (bits .and .i64 V 1024 != 0) = b2 ∧ (bits .and .i64 V 512 != 0) = b3 ∧ (bits .and .i64 V 256 != 0) = b4 ∧ (bits .and .i64 V 128 != 0) = b5 ∧ bits .and .i64 V 112 = 0 := by
  obtain ⟨v1, v2⟩ := flag_rng h b1 b2 b3 b4 b5
  have hv := flagV_val h b1 b2 b3 b4 b5
  rw [hV] at v1 v2 hv
  obtain ⟨h1, h2⟩ : inR o 15 = true ∧ inR r 15 = true := by simpa [okF] using h
  obtain ⟨o1, o2⟩ := inR_t h1
  obtain ⟨r1, r2⟩ := inR_t h2
  clear h h1 h2 hV
  obtain ⟨v, rfl⟩ := Int.eq_ofNat_of_zero_le v1
  have hb : ∀ (k : Nat) (b : Bool) (m : Int), 2 ^ k < 65536 → ((2 ^ k : Nat) : Int) = m → decide (v / 2 ^ k % 2 = 1) = b → (bits .and .i64 (v : Int) m != 0) = b := fun k b m hk hm hb => by
    rw [← hm, and_bit v k (by omega) hk, hb]
  have k15 : (2 : Nat) ^ 15 = 32768 := by decide
  have k10 : (2 : Nat) ^ 10 = 1024 := by decide
  have k9 : (2 : Nat) ^ 9 = 512 := by decide
  have k8 : (2 : Nat) ^ 8 = 256 := by decide
  have k7 : (2 : Nat) ^ 7 = 128 := by decide
  have a1 := wt_dec b1 32768
  have a2 := wt_dec b2 1024
  have a3 := wt_dec b3 512
  have a4 := wt_dec b4 256
  have a5 := wt_dec b5 128
  refine ⟨?_, ?_, hb 15 b1 _ (by decide) (by rw [k15]; rfl) ?_, hb 10 b2 _ (by decide) (by rw [k10]; rfl) ?_, hb 9 b3 _ (by decide) (by rw [k9]; rfl) ?_, hb 8 b4 _ (by decide) (by rw [k8]; rfl) ?_, hb 7 b5 _ (by decide) (by rw [k7]; rfl) ?_, ?_⟩
  · rw [show (v : Int) / 2048 = ((v / 2048 : Nat) : Int) by omega, and15' _ (by omega)]; omega
  · rw [and15' _ (by omega)]; omega
  · rw [k15]; rcases a1 with ⟨e, rfl⟩ | ⟨e, rfl⟩ <;> simp only [decide_eq_true_eq, decide_eq_false_iff_not] <;> omega
  · rw [k10]; rcases a2 with ⟨e, rfl⟩ | ⟨e, rfl⟩ <;> simp only [decide_eq_true_eq, decide_eq_false_iff_not] <;> omega
  · rw [k9]; rcases a3 with ⟨e, rfl⟩ | ⟨e, rfl⟩ <;> simp only [decide_eq_true_eq, decide_eq_false_iff_not] <;> omega
  · rw [k8]; rcases a4 with ⟨e, rfl⟩ | ⟨e, rfl⟩ <;> simp only [decide_eq_true_eq, decide_eq_false_iff_not] <;> omega
  · rw [k7]; rcases a5 with ⟨e, rfl⟩ | ⟨e, rfl⟩ <;> simp only [decide_eq_true_eq, decide_eq_false_iff_not] <;> omega
  · have := andI v 112 (by omega) (by decide)
    rw [show ((112 : Nat) : Int) = 112 from rfl] at this
    rw [this, and112]
    omega
/-- Flags that are read are written again, but for three bits. -/
theorem ref_flag (f : Int) (h : inR f 65535 = true) : okF (bits .and .i64 (f / 2048) 15) (bits .and .i64 f 15) = true ∧ flagV (bits .and .i64 (f / 2048) 15) (bits .and .i64 f 15) (bits .and .i64 f 32768 != 0) (bits .and .i64 f 1024 != 0) (bits .and .i64 f 512 != 0) (bits .and .i64 f 256 != 0) (bits .and .i64 f 128 != 0) = bits .and .i64 f (-113) := by
  obtain ⟨f1, f2⟩ := inR_t h
  obtain ⟨v, rfl⟩ := Int.eq_ofNat_of_zero_le f1
  clear h
  have e1 : bits .and .i64 ((v : Int) / 2048) 15 = ((v / 2048 % 16 : Nat) : Int) := by
    rw [show (v : Int) / 2048 = ((v / 2048 : Nat) : Int) by omega, and15' _ (by omega)]
  have e2 := and15' v (by omega)
  have hok : okF (bits .and .i64 ((v : Int) / 2048) 15) (bits .and .i64 (v : Int) 15) = true := by
    rw [e1, e2, okF, inR, inR]
    simp only [Bool.and_eq_true, decide_eq_true_eq]
    omega
  refine ⟨hok, ?_⟩
  rw [flagV_val hok, and_not v (by omega), e1, e2]
  have hb : ∀ (k : Nat) (m : Int), 2 ^ k < 65536 → ((2 ^ k : Nat) : Int) = m → wt (bits .and .i64 (v : Int) m != 0) m = ((2 ^ k * (v / 2 ^ k % 2) : Nat) : Int) := fun k m hk hm => by
    rw [← hm, and_bit v k (by omega) hk]
    by_cases hc : v / 2 ^ k % 2 = 1
    · rw [hc]; simp [wt]
    · have : v / 2 ^ k % 2 = 0 := by omega
      rw [this]; simp [wt]
  rw [hb 15 32768 (by decide) (by decide), hb 10 1024 (by decide) (by decide), hb 9 512 (by decide) (by decide), hb 8 256 (by decide) (by decide), hb 7 128 (by decide) (by decide)]
  rw [show (2 : Nat) ^ 15 = 32768 by decide, show (2 : Nat) ^ 10 = 1024 by decide, show (2 : Nat) ^ 9 = 512 by decide, show (2 : Nat) ^ 8 = 256 by decide, show (2 : Nat) ^ 7 = 128 by decide]
  omega
end Go.Proofs.Ytkoafkajmfodkaa
