/- Writes of a list of operations, told plainly; what a fall leaves of them. -/
import Derived.Test.YtocfphijheidbaaDkT
namespace Go.Proofs.Ytocfphijheidbaa
open Go.RowKit

def F300 : List UInt8 := List.replicate 300 255
theorem F300_bit (i : Nat) (h : i < 2400) : bitM F300 i = true := by
  have h8 : i / 8 < 300 := by omega
  have h1 : F300.length = 300 := List.length_replicate
  have h2 : F300.getD (i / 8) 0 = 255 := by
    rw [F300, List.getD_eq_getElem?_getD, List.getElem?_replicate, if_pos h8]; rfl
  have h3 : ∀ r, r < 8 → (255 : UInt8).toNat / 2 ^ r % 2 = 1 := by decide
  rw [bitM, h1, h2, h3 (i % 8) (Nat.mod_lt _ (by decide))]
  simp [h8]
def Hit (o : OpP) (k : Nat) (b : List UInt8) : Prop := o.kind = 1 ∧ ∃ K : Nat, o.k = (K : Int) ∧ K ≤ k ∧ 256 * (k - K) < o.b.length ∧ b = secP o.b (k - K)
def stepW (s : DkP) (o : OpP) : DkP := if o.kind = 1 then (writeP s o.k o.b).1 else s
def writesP (s : DkP) (L : List OpP) : Nat → DkP
  | 0 => s
  | i + 1 => stepW (writesP s L i) (L.getD i opD)
structure WInv (N : Nat) (D0 : Nat → List UInt8) (A : List OpP) (i : Nat) (s : DkP) : Prop where
  n : s.n = N
  up : s.down = false
  fl : s.fall = 0
  mkl : s.mask = []
  d : s.D = D0
  ap : s.R = crR s.D s.P F300 s.P.length
  src : ∀ x ∈ s.P, ∃ j, j < i ∧ Hit (A.getD j opD) x.1 x.2
theorem newsP_succ (k : Nat) (b : List UInt8) (i : Nat) : newsP k b (i + 1) = newsP k b i ++ [(k + i, secP b i)] := by simp [newsP, List.range_succ]
theorem ups_ap (D : Nat → List UInt8) (P : List (Nat × List UInt8)) (R : Nat → List UInt8) (k : Nat) (b : List UInt8) (hR : R = crR D P F300 P.length) : ∀ i, P.length + i ≤ 2400 → updsS R k b i = crR D (P ++ newsP k b i) F300 (P ++ newsP k b i).length
  | 0, _ => by simpa [updsS, newsP] using hR
  | i + 1, h => by
    rw [newsP_succ, ← List.append_assoc, crR_more _ _ _ _ (F300_bit _ (by rw [List.length_append, newsP_len]; omega)), updsS, ups_ap D P R k b hR i (by omega)]
theorem stepW_inv {N : Nat} {D0 : Nat → List UInt8} {A : List OpP} {i : Nat} {s : DkP} (h : WInv N D0 A i s) (hl : s.P.length + ((A.getD i opD).b.length + 255) / 256 ≤ 2400) : WInv N D0 A (i + 1) (stepW s (A.getD i opD)) ∧ (stepW s (A.getD i opD)).P.length ≤ s.P.length + ((A.getD i opD).b.length + 255) / 256 ∧ (stepW s (A.getD i opD)).wr ≤ s.wr + ((A.getD i opD).b.length + 255) / 256 := by
  have hs : WInv N D0 A (i + 1) s := ⟨h.n, h.up, h.fl, h.mkl, h.d, h.ap, fun x hx => by obtain ⟨j, hj, g⟩ := h.src x hx; exact ⟨j, by omega, g⟩⟩
  obtain ⟨o, ho⟩ : ∃ z, A.getD i opD = z := ⟨_, rfl⟩
  rw [ho] at hl ⊢
  unfold stepW
  by_cases hk : o.kind = 1
  · rw [if_pos hk]
    by_cases hr : o.k < 0 ∨ (s.n : Int) - (((o.b.length + 255) / 256 : Nat) : Int) < o.k
    · rw [writeP_no s o.k o.b h.up hr]
      exact ⟨hs, Nat.le_add_right _ _, Nat.le_add_right _ _⟩
    · obtain ⟨K, hK⟩ : ∃ K : Nat, o.k = (K : Int) := ⟨o.k.toNat, by omega⟩
      rw [hK, writeP_calm s K o.b (by rw [h.fl]; decide) h.up (by omega)]
      refine ⟨⟨h.n, h.up, h.fl, h.mkl, h.d, ups_ap s.D s.P s.R K o.b h.ap _ hl, fun x hx => ?_⟩, by show (s.P ++ newsP K o.b _).length ≤ _; rw [List.length_append, newsP_len]; omega, Nat.le_refl _⟩
      rcases List.mem_append.1 hx with h1 | h1
      · exact hs.src x h1
      · obtain ⟨j, hj, rfl⟩ := List.mem_map.1 h1
        have hj2 := List.mem_range.1 hj
        refine ⟨i, by omega, ?_⟩
        rw [ho]
        exact ⟨hk, K, hK, Nat.le_add_right _ _, by show 256 * (K + j - K) < _; omega, by show secP o.b j = secP o.b (K + j - K); rw [Nat.add_sub_cancel_left]⟩
  · rw [if_neg hk]
    exact ⟨hs, Nat.le_add_right _ _, Nat.le_add_right _ _⟩
theorem writes_inv {N : Nat} {D0 : Nat → List UInt8} {A : List OpP} {s : DkP} (h : WInv N D0 A 0 s) (hp : s.P.length ≤ 300) (n : Nat) (hn : n ≤ 150) (hs : sumB A n ≤ 30000) : ∀ i, i ≤ n → WInv N D0 A i (writesP s A i) ∧ 256 * (writesP s A i).P.length ≤ 256 * s.P.length + sumB A i + 255 * i ∧ 256 * (writesP s A i).wr ≤ 256 * s.wr + sumB A i + 255 * i
  | 0, _ => ⟨h, by simp [writesP, sumB], by simp [writesP, sumB]⟩
  | i + 1, hi => by
    obtain ⟨h1, h2, h3⟩ := writes_inv h hp n hn hs i (by omega)
    have hsi := sumB_le A i n (by omega)
    obtain ⟨g1, g2, g3⟩ := stepW_inv h1 (by omega)
    rw [writesP, sumB]
    exact ⟨g1, by omega, by omega⟩
theorem crR_none (D : Nat → List UInt8) (P : List (Nat × List UInt8)) : ∀ i, crR D P [] i = D
  | 0 => rfl
  | i + 1 => by rw [crR, if_neg (by simp [bitM]), crR_none D P i]
theorem crR_src (D : Nat → List UInt8) (P : List (Nat × List UInt8)) (m : List UInt8) (k : Nat) : ∀ i, i ≤ P.length → crR D P m i k = D k ∨ ∃ x ∈ P, x.1 = k ∧ crR D P m i k = x.2
  | 0, _ => Or.inl rfl
  | i + 1, h => by
    rw [crR]
    split
    · have e : P.getD i (0, []) = P[i]'(by omega) := by rw [List.getD_eq_getElem?_getD, List.getElem?_eq_getElem (by omega)]; rfl
      unfold updS
      split
      · rename_i hk
        right
        exact ⟨P.getD i (0, []), by rw [e]; exact List.getElem_mem _, hk.symm, rfl⟩
      · exact crR_src D P m k i (by omega)
    · exact crR_src D P m k i (by omega)
def flushP (s : DkP) : DkP := { s with D := s.R, P := [] }
theorem flush_inv {N : Nat} {D0 : Nat → List UInt8} {A B : List OpP} {i : Nat} {s : DkP} (h : WInv N D0 A i s) : WInv N s.R B 0 (flushP s) :=
  ⟨h.n, h.up, h.fl, h.mkl, rfl, rfl, fun x hx => by cases hx⟩
theorem new_inv (N : Nat) (A : List OpP) : WInv N (fun _ => zeroS) A 0 (newP N) := ⟨rfl, rfl, rfl, rfl, rfl, rfl, fun x hx => by cases hx⟩
theorem crash_full {N : Nat} {D0 : Nat → List UInt8} {A : List OpP} {i : Nat} {s : DkP} (h : WInv N D0 A i s) : (crash s F300).R = s.R := h.ap.symm
theorem crash_none {N : Nat} {D0 : Nat → List UInt8} {A : List OpP} {i : Nat} {s : DkP} (h : WInv N D0 A i s) : (crash s []).R = D0 := (crR_none _ _ _).trans h.d
theorem crash_src {N : Nat} {D0 : Nat → List UInt8} {A : List OpP} {i : Nat} {s : DkP} (h : WInv N D0 A i s) (m : List UInt8) (k : Nat) : (crash s m).R k = D0 k ∨ ∃ j, j < i ∧ Hit (A.getD j opD) k ((crash s m).R k) := by
  rcases crR_src s.D s.P m k s.P.length (Nat.le_refl _) with h1 | ⟨x, hx, h1, h2⟩
  · left
    show crR s.D s.P m s.P.length k = _
    rw [h1, h.d]
  · right
    obtain ⟨j, hj, hh⟩ := h.src x hx
    refine ⟨j, hj, ?_⟩
    show Hit _ k (crR s.D s.P m s.P.length k)
    rw [h2, ← h1]
    exact hh
end Go.Proofs.Ytocfphijheidbaa
