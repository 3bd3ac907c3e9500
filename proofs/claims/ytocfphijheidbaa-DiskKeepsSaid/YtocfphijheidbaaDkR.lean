/- A fall that is planned, told plainly: what Writes of one byte each make of a disk; one disk and what lies ahead of it. -/
import Derived.Test.YtocfphijheidbaaMgU
namespace Go.Proofs.Ytocfphijheidbaa
open Go.RowKit

structure One (w wx : World) (q : Nat) (c : List Nat) (s : DkP) : Prop where
  dk : DkS wx c q s
  g : ∀ x ∈ c, w.heap.size ≤ x
  bel : Below w.heap.size w wx
theorem One.below {w wx wy : World} {q : Nat} {c : List Nat} {s : DkP} (h : One w wx q c s) (hb : Below wx.heap.size wx wy) : One w wy q c s :=
  ⟨h.dk.below hb, h.g, h.bel.trans (hb.mono h.bel.size)⟩
theorem One.put {w wx wy : World} {q : Nat} {c d : List Nat} {s t : DkP} (h : One w wx q c s) (hs : DkS wy d q t) (hd : ∀ x ∈ d, x ∈ c ∨ wx.heap.size ≤ x) (hf : Frm wx wy c) : One w wy q d t :=
  ⟨hs, fun x hx => (hd x hx).elim (h.g x) (Nat.le_trans h.bel.size), hf.under h.bel h.g h.bel.size⟩
theorem One.same {w wx wy : World} {q : Nat} {c : List Nat} {s t : DkP} (h : One w wx q c s) (hs : DkS wy c q t) (hf : Frm wx wy c) : One w wy q c t :=
  h.put hs (fun _ hx => Or.inl hx) hf
theorem crR_snoc (D : Nat → List UInt8) (P : List (Nat × List UInt8)) (x : Nat × List UInt8) (m : List UInt8) : ∀ i, i ≤ P.length → crR D (P ++ [x]) m i = crR D P m i
  | 0, _ => rfl
  | i + 1, h => by
    have e : (P ++ [x]).getD i (0, []) = P.getD i (0, []) := by
      rw [List.getD_eq_getElem?_getD, List.getD_eq_getElem?_getD, List.getElem?_append_left (by omega)]
    rw [crR, crR, crR_snoc D P x m i (by omega), e]
theorem crR_more (D : Nat → List UInt8) (P : List (Nat × List UInt8)) (x : Nat × List UInt8) (m : List UInt8) (hm : bitM m P.length = true) : crR D (P ++ [x]) m (P ++ [x]).length = updS (crR D P m P.length) x.1 x.2 := by
  have e : (P ++ [x]).getD P.length (0, []) = x := by
    rw [List.getD_eq_getElem?_getD, List.getElem?_append_right (Nat.le_refl _), Nat.sub_self]
    rfl
  rw [List.length_append, List.length_singleton, crR, if_pos hm, e, crR_snoc D P x m P.length (Nat.le_refl _)]
def fullM : List UInt8 := [255, 255, 255, 255, 255, 255, 255]
theorem fullM_bit : ∀ i, i < 56 → bitM fullM i = true := by decide +kernel
def oneB (i : Nat) : List UInt8 := [UInt8.ofNat (i + 1)]
theorem oneB_sec (i : Nat) (hi : i < 200) : (bc (secP (oneB i) 0))[0]? = some (.int .u8 ((i + 1 : Nat) : Int)) := by
  have h : (UInt8.ofNat (i + 1)).toNat = i + 1 := by simp; omega
  show some (Value.int .u8 ((UInt8.ofNat (i + 1)).toNat : Int)) = _
  rw [h]
structure Fal (N i : Nat) (s : DkP) : Prop where
  n : s.n = N
  wr : s.wr = i
  rd : ∀ j, j < i → i ≤ j + N → s.R (j % N) = secP (oneB j) 0
structure FalU (N : Nat) (an : Bool) (F i : Nat) (s : DkP) : Prop extends Fal N i s where
  up : s.down = false
  len : s.P.length = i
  mkl : s.mask.length ≤ 7
  ap : s.R = crR s.D s.P fullM s.P.length
  fl : if an = true then s.fall = 0 else s.fall = (F : Int) - i ∧ i < F ∧ s.mask = fullM
theorem falU_t (N F : Nat) : FalU N true F 0 { ({ newP N with fall := (F : Int), mask := fullM } : DkP) with fall := 0, mask := [] } :=
  ⟨⟨rfl, rfl, fun j h => absurd h (Nat.not_lt_zero j)⟩, rfl, rfl, Nat.zero_le _, rfl, by rw [if_pos rfl]⟩
theorem falU_f (N F : Nat) (hF : 1 ≤ F) : FalU N false F 0 { newP N with fall := (F : Int), mask := fullM } :=
  ⟨⟨rfl, rfl, fun j h => absurd h (Nat.not_lt_zero j)⟩, rfl, rfl, Nat.le_refl 7, rfl, by rw [if_neg Bool.false_ne_true]; exact ⟨by show (F : Int) = (F : Int) - ((0 : Nat) : Int); omega, hF, rfl⟩⟩
theorem mod_ne {i j N : Nat} (h : j < i) (h2 : i < j + N) : j % N ≠ i % N := by
  intro e
  have h3 := Nat.sub_mod_eq_zero_of_mod_eq e.symm
  rw [Nat.mod_eq_of_lt (by omega)] at h3
  omega
theorem fal_rd {N i : Nat} {R : Nat → List UInt8} (h : ∀ j, j < i → i ≤ j + N → R (j % N) = secP (oneB j) 0) : ∀ j, j < i + 1 → i + 1 ≤ j + N → updS R (i % N) (secP (oneB i) 0) (j % N) = secP (oneB j) 0 := by
  intro j hj hN
  unfold updS
  by_cases e : j = i
  · subst e
    rw [if_pos rfl]
  · rw [if_neg (mod_ne (by omega) (by omega))]
    exact h j (by omega) (by omega)
theorem write_one (s : DkP) (k : Nat) (b : UInt8) (hd : s.down = false) (hk : k < s.n) : writeP s (k : Int) [b] = (putD s k (secP [b] 0), if (putD s k (secP [b] 0)).down = true then 9 else 0) := by
  have e : putsP s k [b] 1 = putD s k (secP [b] 0) := by
    rw [putsP, putsP, if_neg (by rw [hd]; exact Bool.false_ne_true)]
    rfl
  rw [writeP, if_neg (by rw [hd]; exact Bool.false_ne_true), if_neg (by rw [show ([b].length + 255) / 256 = 1 by rw [List.length_singleton]]; omega), show ([b].length + 255) / 256 = 1 by rw [List.length_singleton], Int.toNat_natCast, e]
theorem fal_more {N : Nat} {an : Bool} {F i : Nat} {s : DkP} (h : FalU N an F i s) (hN : 0 < N) (hi : i < 50) (hc : an = true ∨ i + 1 < F) : FalU N an F (i + 1) (writeP s ((i % N : Nat) : Int) (oneB i)).1 ∧ (writeP s ((i % N : Nat) : Int) (oneB i)).2 = 0 := by
  obtain ⟨⟨h1, h2, h3⟩, h4, h5, h6, h7, h8⟩ := h
  have hm : i % N < s.n := by rw [h1]; exact Nat.mod_lt _ hN
  unfold oneB
  rw [write_one s _ _ h4 hm]
  have hap : updS s.R (i % N) (secP (oneB i) 0) = crR s.D (s.P ++ [(i % N, secP (oneB i) 0)]) fullM (s.P ++ [(i % N, secP (oneB i) 0)]).length := by
    rw [crR_more _ _ _ _ (fullM_bit _ (by omega)), ← h7]
  cases an with
  | true =>
    rw [if_pos rfl] at h8
    have hp : putD s (i % N) (secP [UInt8.ofNat (i + 1)] 0) = { s with R := updS s.R (i % N) (secP (oneB i) 0), P := s.P ++ [(i % N, secP (oneB i) 0)], wr := s.wr + 1 } := by
      rw [putD, if_pos (by omega)]; rfl
    rw [hp]
    refine ⟨⟨⟨h1, by rw [← h2], fal_rd h3⟩, h4, by simp [h5], h6, hap, by rw [if_pos rfl]; exact h8⟩, ?_⟩
    show (if s.down = true then (9 : Int) else 0) = 0
    rw [h4]; rfl
  | false =>
    rw [if_neg Bool.false_ne_true] at h8
    have hc2 : i + 1 < F := by rcases hc with h | h; exact absurd h Bool.false_ne_true; exact h
    have hp : putD s (i % N) (secP [UInt8.ofNat (i + 1)] 0) = { s with R := updS s.R (i % N) (secP (oneB i) 0), P := s.P ++ [(i % N, secP (oneB i) 0)], wr := s.wr + 1, fall := s.fall - 1 } := by
      rw [putD, if_neg (by omega), if_neg (by omega)]; rfl
    rw [hp]
    refine ⟨⟨⟨h1, by rw [← h2], fal_rd h3⟩, h4, by simp [h5], h6, hap, by rw [if_neg Bool.false_ne_true]; exact ⟨by show s.fall - 1 = _; omega, hc2, h8.2.2⟩⟩, ?_⟩
    show (if s.down = true then (9 : Int) else 0) = 0
    rw [h4]; rfl
theorem fal_last {N : Nat} {F i : Nat} {s : DkP} (h : FalU N false F i s) (hN : 0 < N) (hi : i < 50) (hc : F ≤ i + 1) : Fal N (i + 1) (writeP s ((i % N : Nat) : Int) (oneB i)).1 ∧ (writeP s ((i % N : Nat) : Int) (oneB i)).1.down = true ∧ (writeP s ((i % N : Nat) : Int) (oneB i)).2 = 9 := by
  obtain ⟨⟨h1, h2, h3⟩, h4, h5, h6, h7, h8⟩ := h
  have hm : i % N < s.n := by rw [h1]; exact Nat.mod_lt _ hN
  unfold oneB
  rw [write_one s _ _ h4 hm]
  rw [if_neg Bool.false_ne_true] at h8
  have hap : updS s.R (i % N) (secP (oneB i) 0) = crR s.D (s.P ++ [(i % N, secP (oneB i) 0)]) fullM (s.P ++ [(i % N, secP (oneB i) 0)]).length := by
    rw [crR_more _ _ _ _ (fullM_bit _ (by omega)), ← h7]
  have hp : putD s (i % N) (secP [UInt8.ofNat (i + 1)] 0) = crash { s with R := updS s.R (i % N) (secP (oneB i) 0), P := s.P ++ [(i % N, secP (oneB i) 0)], wr := s.wr + 1, fall := 0 } s.mask := by
    rw [putD, if_neg (by omega), if_pos (by omega)]; rfl
  rw [hp, h8.2.2]
  refine ⟨⟨h1, by rw [← h2]; rfl, ?_⟩, rfl, by rw [if_pos]; rfl⟩
  intro j hj hN2
  show crR s.D (s.P ++ [(i % N, secP (oneB i) 0)]) fullM (s.P ++ [(i % N, secP (oneB i) 0)]).length (j % N) = _
  rw [← hap]
  exact fal_rd h3 j hj hN2
end Go.Proofs.Ytocfphijheidbaa
