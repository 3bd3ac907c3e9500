/- Plain facts: digits there and back, numbers there and back. -/
import Derived.Test.YtcpihfkhhmggfaaNumG
namespace Go.Proofs.Ytcpihfkhhmggfaa
open Go.RowKit

theorem byteAt_bs (l : List UInt8) (i : Nat) : byteAt (bs l) i = (l.getD i 0).toNat := rfl
theorem digN_hex : ∀ q, q < 16 → digN (hexN q) = q := by decide

theorem hexTo_at (s : ByteArray) (n k : Nat) (h : k < n) : (hexTo s n).getD (2 * k) 0 = hexB (byteAt s k / 16) ∧ (hexTo s n).getD (2 * k + 1) 0 = hexB (byteAt s k % 16) := by
  induction n with
  | zero => omega
  | succ n ih =>
    have hl := hexTo_length s n
    by_cases e : k = n
    · subst e
      simp [hexTo, List.getD_eq_getElem?_getD, hl]
    · obtain ⟨h1, h2⟩ := ih (by omega)
      simp only [hexTo, List.getD_eq_getElem?_getD] at *
      rw [List.getElem?_append_left (by omega), List.getElem?_append_left (by omega)]
      exact ⟨h1, h2⟩

theorem unTo_hex (s : ByteArray) (n k : Nat) (hk : k ≤ n) (hn : n ≤ s.data.toList.length) : okTo (bs (hexTo s n)) k = true ∧ unTo (bs (hexTo s n)) k = s.data.toList.take k := by
  induction k with
  | zero => exact ⟨rfl, by simp [unTo]⟩
  | succ k ih =>
    obtain ⟨h1, h2⟩ := ih (by omega)
    obtain ⟨g1, g2⟩ := hexTo_at s n k (by omega)
    have b1 : byteAt (bs (hexTo s n)) (2 * k) = hexN (byteAt s k / 16) := by rw [byteAt_bs, g1]; rfl
    have b2 : byteAt (bs (hexTo s n)) (2 * k + 1) = hexN (byteAt s k % 16) := by rw [byteAt_bs, g2]; rfl
    have hb := byteAt_lt s k
    have d1 := digN_hex (byteAt s k / 16) (by omega)
    have d2 := digN_hex (byteAt s k % 16) (by omega)
    refine ⟨?_, ?_⟩
    · simp only [okTo]
      rw [h1, b1, b2, d1, d2]
      simp
      omega
    · simp only [unTo]
      rw [h2, b1, b2, d1, d2, List.take_succ_eq_append_getElem (by omega)]
      congr 2
      have e : ((byteAt s k / 16 : Nat) : Int) * 16 + ((byteAt s k % 16 : Nat) : Int) = (byteAt s k : Int) := by omega
      rw [e]
      apply UInt8.toNat_inj.1
      have h3 := by8_toNat (byteAt s k : Int)
      have h4 : byteAt s k = (s.data.toList[k]'(by omega)).toNat := by
        unfold byteAt
        rw [List.getD_eq_getElem?_getD, List.getElem?_eq_getElem (by omega)]
        rfl
      omega

theorem unhex_hex (s : ByteArray) : unOk (bs (hexTo s s.size)) = true ∧ bs (unL (bs (hexTo s s.size))) = s := by
  have hs : s.size = s.data.toList.length := by simp
  obtain ⟨h1, h2⟩ := unTo_hex s s.size s.size (Nat.le_refl _) (by omega)
  have h3 : (bs (hexTo s s.size)).size = 2 * s.size := by rw [bs_size, hexTo_length]
  obtain ⟨h4, h5⟩ := un_yes h3 h1
  refine ⟨h4, ?_⟩
  rw [h5, h2, List.take_of_length_le (by omega)]
  exact bs_of s

theorem joinTo_at (W : Nat) (l : List Int) (n i j : Nat) (hi : i < n) (hj : j < W) : (joinTo W l n).getD (i * W + j) 0 = (putTo (l.getD i 0) W W).getD j 0 := by
  induction n with
  | zero => omega
  | succ n ih =>
    have hl := joinTo_length W l n
    have hm : i * W + W ≤ n * W ∨ i = n := by
      rcases (by omega : i + 1 ≤ n ∨ i = n) with h | h
      · left
        have := Nat.mul_le_mul_right W h
        rwa [Nat.succ_mul] at this
      · exact Or.inr h
    have hc : W * n = n * W := Nat.mul_comm _ _
    simp only [joinTo, List.getD_eq_getElem?_getD] at *
    rcases hm with hm | rfl
    · rw [List.getElem?_append_left (by omega)]
      have hin : i < n := by
        rcases Nat.lt_or_ge i n with h | h
        · exact h
        · have := Nat.mul_le_mul_right W h; omega
      exact ih hin
    · rw [List.getElem?_append_right (by omega)]
      congr 2
      omega

theorem putTo_at (n : Int) (W j : Nat) (hj : j < W) : (putTo n W W).getD j 0 = by8 (n / 2 ^ (8 * (W - 1 - j))) := by
  simp [putTo, List.getD_eq_getElem?_getD, hj]

theorem getTo_put (s : ByteArray) (A W : Nat) (n : Int) (h0 : 0 ≤ n) (h1 : n < 2 ^ (8 * W)) (hs : ∀ j, j < W → (byteAt s (A + j) : Int) = n / 2 ^ (8 * (W - 1 - j)) % 256) :
    ∀ k, k ≤ W → getTo s A k = n / 2 ^ (8 * (W - k)) := by
  intro k
  induction k with
  | zero => intro _; simp only [getTo, Nat.sub_zero]; rw [Int.ediv_eq_zero_of_lt h0 h1]
  | succ k ih =>
    intro hk
    simp only [getTo]
    rw [ih (by omega), hs k (by omega)]
    have e1 : W - k = (W - 1 - k) + 1 := by omega
    have e2 : W - (k + 1) = W - 1 - k := by omega
    rw [e1, e2, pow8, Int.mul_comm 256, ← Int.ediv_ediv_of_nonneg (Int.le_of_lt (pow8_pos _))]
    generalize n / 2 ^ (8 * (W - 1 - k)) = q
    omega

theorem get_join (W : Nat) (l : List Int) (i : Nat) (hi : i < l.length) (h1 : 1 ≤ W) (h2 : W ≤ 6) (hf : AllFit W l l.length) :
    getN (bs (joinTo W l l.length)) ((i : Int) * (W : Int)) W = l.getD i 0 ∧ getE (bs (joinTo W l l.length)) ((i : Int) * (W : Int)) W = 0 := by
  have hs : (bs (joinTo W l l.length)).size = W * l.length := by rw [bs_size, joinTo_length]
  have hfi := (fits_iff _ W).1 (hf i hi)
  have hm : (i : Int) * (W : Int) + W ≤ ((W * l.length : Nat) : Int) := by
    have := Nat.mul_le_mul_right W hi
    rw [Nat.succ_mul, Nat.mul_comm l.length] at this
    rw [← Int.natCast_mul]
    omega
  have hn : 0 ≤ (i : Int) * (W : Int) := Int.mul_nonneg (by omega) (by omega)
  constructor
  · rw [getN, hs, if_pos (by omega)]
    have e : ((i : Int) * (W : Int)).toNat = i * W := by rw [← Int.natCast_mul]; rfl
    rw [e, Int.toNat_natCast]
    have := getTo_put (bs (joinTo W l l.length)) (i * W) W (l.getD i 0) hfi.2.2.1 hfi.2.2.2 (fun j hj => by
      rw [byteAt_bs, joinTo_at W l l.length i j hi hj, putTo_at _ _ _ hj, by8_toNat]) W (Nat.le_refl _)
    rw [this]
    simp
  · rw [getE, hs, if_pos (by omega), if_pos (by omega)]
end Go.Proofs.Ytcpihfkhhmggfaa
