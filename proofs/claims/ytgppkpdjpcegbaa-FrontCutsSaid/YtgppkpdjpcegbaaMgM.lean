/- Texts that others rest on, one behind the other: Fb5, Fc5, RwA, RwU. -/
import Derived.Test.YtgppkpdjpcegbaaMgI
import Derived.Test.YtgppkpdjpcegbaaMaG
import Derived.Test.YtgppkpdjpcegbaaMgJ
import Derived.Deep.RegionHeld3
section
namespace Go.Proofs.Ytgppkpdjpcegbaa
open Go.RowKit

theorem and_pow (x k : Nat) : x &&& 2 ^ k = 2 ^ k * (x / 2 ^ k % 2) := by
  apply Nat.eq_of_testBit_eq
  intro i
  rw [Nat.testBit_and, Nat.testBit_two_pow]
  have h1 : 2 ^ k * (x / 2 ^ k % 2) = 2 ^ k * (x / 2 ^ k % 2) + 0 := rfl
  rw [h1, Nat.testBit_two_pow_mul_add _ (Nat.two_pow_pos k)]
  by_cases hi : i < k
  · rw [if_pos hi]
    have : ¬ k = i := by omega
    simp [this]
  · rw [if_neg hi]
    have h2 : x / 2 ^ k % 2 = x / 2 ^ k % 2 ^ 1 := rfl
    rw [h2, Nat.testBit_mod_two_pow, Nat.testBit_div_two_pow]
    by_cases he : i = k
    · subst he; simp
    · have h3 : ¬ k = i := fun h => he h.symm
      have h4 : ¬ i - k < 1 := by omega
      simp [h3, h4]
theorem ofNat_toNat (x : Nat) (h : x < 65536) : (BitVec.ofInt 64 (x : Int)).toNat = x := by
  rw [BitVec.toNat_ofInt]; omega
theorem andI (x m : Nat) (h : x < 65536) (hm : m < 65536) : bits .and .i64 (x : Int) (m : Int) = ((x &&& m : Nat) : Int) := by
  show IntKind.i64.wrap ((BitVec.ofInt 64 (x : Int) &&& BitVec.ofInt 64 (m : Int)).toNat : Nat) = _
  have h1 : x &&& m ≤ x := Nat.and_le_left
  rw [BitVec.toNat_and, ofNat_toNat x h, ofNat_toNat m hm, IntKind.wrap_i64]
  omega
theorem and_bit (x k : Nat) (h : x < 65536) (hk : 2 ^ k < 65536) : (bits .and .i64 (x : Int) ((2 ^ k : Nat) : Int) != 0) = decide (x / 2 ^ k % 2 = 1) := by
  rw [andI x _ h hk, and_pow]
  have := Nat.two_pow_pos k
  by_cases hb : x / 2 ^ k % 2 = 1
  · rw [hb, Nat.mul_one]
    simp
    exact_mod_cast Nat.ne_of_gt this
  · have h0 : x / 2 ^ k % 2 = 0 := by omega
    rw [h0]; simp
theorem and15' (x : Nat) (h : x < 65536) : bits .and .i64 (x : Int) 15 = ((x % 16 : Nat) : Int) := by
  have := andI x 15 h (by decide)
  rw [show ((15 : Nat) : Int) = 15 from rfl] at this
  rw [this, show (15 : Nat) = 2 ^ 4 - 1 from rfl, Nat.and_two_pow_sub_one_eq_mod]
/-- All bits but three. -/
theorem and_not (x : Nat) (h : x < 65536) : bits .and .i64 (x : Int) (-113) = ((x / 128 * 128 + x % 16 : Nat) : Int) := by
  have hm : (BitVec.ofInt 64 (-113)).toNat = 2 ^ 64 - 113 := by decide
  have key : x &&& (2 ^ 64 - 113) = x / 128 * 128 + x % 16 := by
    have e : x / 128 * 128 + x % 16 = 2 ^ 7 * (x / 2 ^ 7) + x % 2 ^ 4 := by
      rw [Nat.mul_comm]
    rw [e]
    apply Nat.eq_of_testBit_eq
    intro i
    rw [Nat.testBit_and, Nat.testBit_two_pow_mul_add _ (show x % 2 ^ 4 < 2 ^ 7 by have := Nat.mod_lt x (y := 16) (by decide); omega), Nat.testBit_mod_two_pow, Nat.testBit_div_two_pow]
    by_cases hi : i < 7
    · rw [if_pos hi]
      have : i = 0 ∨ i = 1 ∨ i = 2 ∨ i = 3 ∨ i = 4 ∨ i = 5 ∨ i = 6 := by omega
      rcases this with rfl | rfl | rfl | rfl | rfl | rfl | rfl
      · rw [show (2 ^ 64 - 113 : Nat).testBit 0 = true by decide]; simp
      · rw [show (2 ^ 64 - 113 : Nat).testBit 1 = true by decide]; simp
      · rw [show (2 ^ 64 - 113 : Nat).testBit 2 = true by decide]; simp
      · rw [show (2 ^ 64 - 113 : Nat).testBit 3 = true by decide]; simp
      · rw [show (2 ^ 64 - 113 : Nat).testBit 4 = false by decide]; simp
      · rw [show (2 ^ 64 - 113 : Nat).testBit 5 = false by decide]; simp
      · rw [show (2 ^ 64 - 113 : Nat).testBit 6 = false by decide]; simp
    · rw [if_neg hi, show i - 7 + 7 = i by omega]
      by_cases h64 : i < 16
      · have hc : ∀ j : Fin 16, 7 ≤ j.val → (2 ^ 64 - 113 : Nat).testBit j.val = true := by decide
        rw [hc ⟨i, h64⟩ (by show 7 ≤ i; omega), Bool.and_true]
      · rw [Nat.testBit_lt_two_pow (Nat.lt_of_lt_of_le h (show 65536 ≤ 2 ^ i from Nat.pow_le_pow_right (n := 2) (by decide) (show 16 ≤ i by omega))), Bool.false_and]
  show IntKind.i64.wrap ((BitVec.ofInt 64 (x : Int) &&& BitVec.ofInt 64 (-113)).toNat : Nat) = _
  rw [BitVec.toNat_and, hm, ofNat_toNat x h, key, IntKind.wrap_i64]
  omega
def wt (b : Bool) (n : Int) : Int := if b then n else 0
def chkF (o r : Nat) (b1 b2 b3 b4 b5 : Bool) : Bool := flagV o r b1 b2 b3 b4 b5 == (o : Int) * 2048 + r + wt b1 32768 + wt b2 1024 + wt b3 512 + wt b4 256 + wt b5 128
theorem chk_all : ∀ o : Fin 16, ∀ r : Fin 16, ∀ b1 b2 b3 b4 b5 : Bool, chkF o.val r.val b1 b2 b3 b4 b5 = true := by decide +kernel
theorem flagV_val {o r : Int} (h : okF o r = true) (b1 b2 b3 b4 b5 : Bool) : flagV o r b1 b2 b3 b4 b5 = o * 2048 + r + wt b1 32768 + wt b2 1024 + wt b3 512 + wt b4 256 + wt b5 128 := by
  obtain ⟨h1, h2⟩ : inR o 15 = true ∧ inR r 15 = true := by simpa [okF] using h
  obtain ⟨o1, o2⟩ := inR_t h1
  obtain ⟨r1, r2⟩ := inR_t h2
  obtain ⟨o, rfl⟩ := Int.eq_ofNat_of_zero_le o1
  obtain ⟨r, rfl⟩ := Int.eq_ofNat_of_zero_le r1
  have := chk_all ⟨o, by omega⟩ ⟨r, by omega⟩ b1 b2 b3 b4 b5
  simpa [chkF] using this
end Go.Proofs.Ytgppkpdjpcegbaa
end

section
namespace Go.Proofs.Ytgppkpdjpcegbaa
open Go.RowKit

theorem and112 (x : Nat) : x &&& 112 = 16 * (x / 16 % 8) := by
  have h4 := Nat.shiftRight_and_distrib (a := x) (b := 112) (i := 4)
  have h5 : (x &&& 112) % 2 ^ 4 = (x % 2 ^ 4) &&& (112 % 2 ^ 4) := Nat.and_mod_two_pow
  rw [Nat.shiftRight_eq_div_pow, Nat.shiftRight_eq_div_pow, Nat.shiftRight_eq_div_pow] at h4
  rw [show (112 : Nat) / 2 ^ 4 = 2 ^ 3 - 1 by decide, Nat.and_two_pow_sub_one_eq_mod] at h4
  rw [show (112 : Nat) % 2 ^ 4 = 0 by decide, Nat.and_zero] at h5
  have e4 : (2 : Nat) ^ 4 = 16 := by decide
  have e3 : (2 : Nat) ^ 3 = 8 := by decide
  rw [e4, e3] at h4
  rw [e4] at h5
  omega
theorem wt_le (b : Bool) (n : Int) (h : 0 ≤ n) : 0 ≤ wt b n ∧ wt b n ≤ n := by cases b <;> simp [wt] <;> omega
theorem flag_rng {o r : Int} (h : okF o r = true) (b1 b2 b3 b4 b5 : Bool) : 0 ≤ flagV o r b1 b2 b3 b4 b5 ∧ flagV o r b1 b2 b3 b4 b5 ≤ 65535 := by
  obtain ⟨h1, h2⟩ : inR o 15 = true ∧ inR r 15 = true := by simpa [okF] using h
  obtain ⟨o1, o2⟩ := inR_t h1
  obtain ⟨r1, r2⟩ := inR_t h2
  rw [flagV_val h]
  have a1 := wt_le b1 32768 (by decide)
  have a2 := wt_le b2 1024 (by decide)
  have a3 := wt_le b3 512 (by decide)
  have a4 := wt_le b4 256 (by decide)
  have a5 := wt_le b5 128 (by decide)
  omega
theorem wt_dec (b : Bool) (n : Int) : wt b n = n ∧ b = true ∨ wt b n = 0 ∧ b = false := by cases b <;> simp [wt]
theorem unf {o r : Int} (h : okF o r = true) (b1 b2 b3 b4 b5 : Bool) (V : Int) (hV : flagV o r b1 b2 b3 b4 b5 = V) :
    bits .and .i64 (V / 2048) 15 = o ∧ bits .and .i64 V 15 = r ∧ (bits .and .i64 V 32768 != 0) = b1 ∧ (bits .and .i64 V 1024 != 0) = b2 ∧ (bits .and .i64 V 512 != 0) = b3 ∧ (bits .and .i64 V 256 != 0) = b4 ∧ (bits .and .i64 V 128 != 0) = b5 ∧ bits .and .i64 V 112 = 0 := by
  obtain ⟨v1, v2⟩ := flag_rng h b1 b2 b3 b4 b5
  have hv := flagV_val h b1 b2 b3 b4 b5
  rw [hV] at v1 v2 hv
  obtain ⟨h1, h2⟩ : inR o 15 = true ∧ inR r 15 = true := by simpa [okF] using h
  obtain ⟨o1, o2⟩ := inR_t h1
  obtain ⟨r1, r2⟩ := inR_t h2
  clear h h1 h2 hV
  obtain ⟨v, rfl⟩ := Int.eq_ofNat_of_zero_le v1
  have hb : ∀ (k : Nat) (b : Bool) (m : Int), 2 ^ k < 65536 → ((2 ^ k : Nat) : Int) = m → decide (v / 2 ^ k % 2 = 1) = b → (bits .and .i64 (v : Int) m != 0) = b := fun k b m hk hm hb => by
    rw [← hm, and_bit v k (by omega) hk, hb]
  have k15 : (2 : Nat) ^ 15 = 32768 := by decide
  have k10 : (2 : Nat) ^ 10 = 1024 := by decide
  have k9 : (2 : Nat) ^ 9 = 512 := by decide
  have k8 : (2 : Nat) ^ 8 = 256 := by decide
  have k7 : (2 : Nat) ^ 7 = 128 := by decide
  have a1 := wt_dec b1 32768
  have a2 := wt_dec b2 1024
  have a3 := wt_dec b3 512
  have a4 := wt_dec b4 256
  have a5 := wt_dec b5 128
  refine ⟨?_, ?_, hb 15 b1 _ (by decide) (by rw [k15]; rfl) ?_, hb 10 b2 _ (by decide) (by rw [k10]; rfl) ?_, hb 9 b3 _ (by decide) (by rw [k9]; rfl) ?_, hb 8 b4 _ (by decide) (by rw [k8]; rfl) ?_, hb 7 b5 _ (by decide) (by rw [k7]; rfl) ?_, ?_⟩
  · rw [show (v : Int) / 2048 = ((v / 2048 : Nat) : Int) by omega, and15' _ (by omega)]; omega
  · rw [and15' _ (by omega)]; omega
  · rw [k15]; rcases a1 with ⟨e, rfl⟩ | ⟨e, rfl⟩ <;> simp only [decide_eq_true_eq, decide_eq_false_iff_not] <;> omega
  · rw [k10]; rcases a2 with ⟨e, rfl⟩ | ⟨e, rfl⟩ <;> simp only [decide_eq_true_eq, decide_eq_false_iff_not] <;> omega
  · rw [k9]; rcases a3 with ⟨e, rfl⟩ | ⟨e, rfl⟩ <;> simp only [decide_eq_true_eq, decide_eq_false_iff_not] <;> omega
  · rw [k8]; rcases a4 with ⟨e, rfl⟩ | ⟨e, rfl⟩ <;> simp only [decide_eq_true_eq, decide_eq_false_iff_not] <;> omega
  · rw [k7]; rcases a5 with ⟨e, rfl⟩ | ⟨e, rfl⟩ <;> simp only [decide_eq_true_eq, decide_eq_false_iff_not] <;> omega
  · have := andI v 112 (by omega) (by decide)
    rw [show ((112 : Nat) : Int) = 112 from rfl] at this
    rw [this, and112]
    omega
/-- Flags that are read are written again, but for three bits. -/
theorem ref_flag (f : Int) (h : inR f 65535 = true) : okF (bits .and .i64 (f / 2048) 15) (bits .and .i64 f 15) = true ∧ flagV (bits .and .i64 (f / 2048) 15) (bits .and .i64 f 15) (bits .and .i64 f 32768 != 0) (bits .and .i64 f 1024 != 0) (bits .and .i64 f 512 != 0) (bits .and .i64 f 256 != 0) (bits .and .i64 f 128 != 0) = bits .and .i64 f (-113) := by
  obtain ⟨f1, f2⟩ := inR_t h
  obtain ⟨v, rfl⟩ := Int.eq_ofNat_of_zero_le f1
  clear h
  have e1 : bits .and .i64 ((v : Int) / 2048) 15 = ((v / 2048 % 16 : Nat) : Int) := by
    rw [show (v : Int) / 2048 = ((v / 2048 : Nat) : Int) by omega, and15' _ (by omega)]
  have e2 := and15' v (by omega)
  have hok : okF (bits .and .i64 ((v : Int) / 2048) 15) (bits .and .i64 (v : Int) 15) = true := by
    rw [e1, e2, okF, inR, inR]
    simp only [Bool.and_eq_true, decide_eq_true_eq]
    omega
  refine ⟨hok, ?_⟩
  rw [flagV_val hok, and_not v (by omega), e1, e2]
  have hb : ∀ (k : Nat) (m : Int), 2 ^ k < 65536 → ((2 ^ k : Nat) : Int) = m → wt (bits .and .i64 (v : Int) m != 0) m = ((2 ^ k * (v / 2 ^ k % 2) : Nat) : Int) := fun k m hk hm => by
    rw [← hm, and_bit v k (by omega) hk]
    by_cases hc : v / 2 ^ k % 2 = 1
    · rw [hc]; simp [wt]
    · have : v / 2 ^ k % 2 = 0 := by omega
      rw [this]; simp [wt]
  rw [hb 15 32768 (by decide) (by decide), hb 10 1024 (by decide) (by decide), hb 9 512 (by decide) (by decide), hb 8 256 (by decide) (by decide), hb 7 128 (by decide) (by decide)]
  rw [show (2 : Nat) ^ 15 = 32768 by decide, show (2 : Nat) ^ 10 = 1024 by decide, show (2 : Nat) ^ 9 = 512 by decide, show (2 : Nat) ^ 8 = 256 by decide, show (2 : Nat) ^ 7 = 128 by decide]
  omega
end Go.Proofs.Ytgppkpdjpcegbaa
end

section
namespace Go.Proofs.Ytgppkpdjpcegbaa
open Go.RowKit

theorem okF_no {o r : Int} (h : ¬ (0 ≤ o ∧ o ≤ 15 ∧ 0 ≤ r ∧ r ≤ 15)) : okF o r = false := by
  cases h2 : okF o r
  · rfl
  · simp only [okF, Bool.and_eq_true] at h2
    have h3 := inR_t h2.1
    have h4 := inR_t h2.2
    omega
theorem okF_yes {o r : Int} (h : 0 ≤ o ∧ o ≤ 15 ∧ 0 ≤ r ∧ r ≤ 15) : okF o r = true := by
  simp [okF, inR, h.1, h.2.1, h.2.2.1, h.2.2.2]
theorem cn8w {w : World} {q : Nat} {c0 c1 c2 c3 c4 c5 c6 c7 : Value} (h : CN w q [c0, c1, c2, c3, c4, c5, c6, c7]) : w.cell? ⟨q, 0, none⟩ = some c0 ∧ w.cell? ⟨q, 1, none⟩ = some c1 ∧ w.cell? ⟨q, 2, none⟩ = some c2 ∧ w.cell? ⟨q, 3, none⟩ = some c3 ∧ w.cell? ⟨q, 4, none⟩ = some c4 ∧ w.cell? ⟨q, 5, none⟩ = some c5 ∧ w.cell? ⟨q, 6, none⟩ = some c6 ∧ w.cell? ⟨q, 7, none⟩ = some c7 :=
  ⟨(h.2 0 _ rfl).1, (h.2 1 _ rfl).1, (h.2 2 _ rfl).1, (h.2 3 _ rfl).1, (h.2 4 _ rfl).1, (h.2 5 _ rfl).1, (h.2 6 _ rfl).1, (h.2 7 _ rfl).1⟩
def mayO' (r : R5) : Bool := (r.k.n.toList == [0]) && (inR r.k.c 65535 && (inR r.ttl 4294967295 && decide (r.d.size ≤ 1000)))
theorem mayO_split (r : R5) : mayO r = (decide (r.k.t = 41) && mayO' r) := rfl
end Go.Proofs.Ytgppkpdjpcegbaa
end

section
namespace Go.Proofs.Ytgppkpdjpcegbaa
open Go.RowKit

theorem and1 (x : Nat) (h : x < 65536) : bits .and .i64 (x : Int) 1 = ((x % 2 : Nat) : Int) := by
  have := andI x 1 h (by decide)
  rw [show ((1 : Nat) : Int) = 1 from rfl] at this
  rw [this, show (1 : Nat) = 2 ^ 1 - 1 from rfl, Nat.and_two_pow_sub_one_eq_mod]
theorem bit_eq (x k : Nat) (h : x < 65536) (hk : 2 ^ k < 65536) : (bits .and .i64 ((x / 2 ^ k : Nat) : Int) 1 == 1) = (bits .and .i64 (x : Int) ((2 ^ k : Nat) : Int) != 0) := by
  rw [and_bit x k h hk, and1 _ (Nat.lt_of_le_of_lt (Nat.div_le_self _ _) h)]
  by_cases hb : x / 2 ^ k % 2 = 1
  · rw [hb]; rfl
  · have h0 : x / 2 ^ k % 2 = 0 := by omega
    rw [h0]; rfl
theorem bit_eqI {f : Int} (h : inR f 65535 = true) : (bits .and .i64 (f / 32768) 1 == 1) = (bits .and .i64 f 32768 != 0) ∧ (bits .and .i64 (f / 1024) 1 == 1) = (bits .and .i64 f 1024 != 0) ∧ (bits .and .i64 (f / 512) 1 == 1) = (bits .and .i64 f 512 != 0) ∧ (bits .and .i64 (f / 256) 1 == 1) = (bits .and .i64 f 256 != 0) ∧ (bits .and .i64 (f / 128) 1 == 1) = (bits .and .i64 f 128 != 0) := by
  obtain ⟨h0, h1⟩ := inR_t h
  obtain ⟨x, rfl⟩ : ∃ x : Nat, f = (x : Int) := ⟨f.toNat, by omega⟩
  have hx : x < 65536 := by omega
  refine ⟨?_, ?_, ?_, ?_, ?_⟩
  · exact bit_eq x 15 hx (by decide)
  · exact bit_eq x 10 hx (by decide)
  · exact bit_eq x 9 hx (by decide)
  · exact bit_eq x 8 hx (by decide)
  · exact bit_eq x 7 hx (by decide)
end Go.Proofs.Ytgppkpdjpcegbaa
end
