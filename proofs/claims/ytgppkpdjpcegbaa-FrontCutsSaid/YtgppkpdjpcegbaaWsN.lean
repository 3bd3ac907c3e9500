/- The writer's state: numbers, names. -/
import Derived.Test.YtgppkpdjpcegbaaNmW
namespace Go.Proofs.Ytgppkpdjpcegbaa
open Go.RowKit
open Go.Maps

theorem joinL_le (W : Int) (l : List Int) : (joinL W l).length ≤ 6 * l.length := by
  unfold joinL
  split
  · rename_i h
    rw [joinTo_length]
    simp only [joinOk, Bool.and_eq_true, decide_eq_true_eq] at h
    exact Nat.mul_le_mul_right _ (by omega)
  · exact Nat.zero_le _
theorem joinL_two (l : List Int) : (joinL 2 l).length ≤ 2 * l.length := by
  unfold joinL
  split
  · rw [joinTo_length]; exact Nat.le_refl _
  · exact Nat.zero_le _
theorem wNm_le : ∀ (L : List ByteArray) (f : Pls) (X : List UInt8), (wNm f X L).1.length ≤ X.length + off L L.length + 2
  | [], f, X => by simp [wNm, off, txtTo]
  | s :: L, f, X => by
    have e : off (s :: L) (s :: L).length = 1 + s.size + off L L.length := off_cons s L
    rw [e]
    cases h : f (s :: L) with
    | some p =>
      rw [wNm_yes h, List.length_append]
      have := joinL_two [(49152 : Int) + p]
      simp only [List.length_cons, List.length_nil] at this
      omega
    | none =>
      rw [wNm_no h]
      have := wNm_le L (putPl f (s :: L) X.length) (X ++ (UInt8.ofNat s.size :: s.data.toList))
      rw [List.length_append, List.length_cons, size_data] at this
      omega
theorem map_same {w w' : World} {K : TypeId} {R : Value → Option (DataW Unit × List MemPlace)} {mb n : Nat} {D : DataW Unit} (h : w.ownsMap Try.prog K R mb n D) (hk : w'.heap[mb]? = w.heap[mb]?) : w'.ownsMap Try.prog K R mb n D := by
  obtain ⟨es, ck, hmb, rest⟩ := h
  exact ⟨es, ck, hk.trans hmb, rest⟩
theorem WrS.lt {w : World} {B q mb : Nat} {f : Pls} {X : List UInt8} (h : WrS w B q mb f X) : q < w.heap.size := by
  obtain ⟨_, _, _, hc, _⟩ := h; exact hc.1
theorem WrS.below {w w' : World} {B q mb : Nat} {f : Pls} {X : List UInt8} (h : WrS w B q mb f X) (hb : Below w.heap.size w w') : WrS w' B q mb f X := by
  obtain ⟨bv, D, n, hc, ht, ho, hm, rest⟩ := h
  exact ⟨bv, D, n, hc.below hb, ht.below hb, own_below' ho hb, map_same hm (hb.block mb hm.lt), rest⟩
theorem WrN.mk {w w' : World} {B q mb : Nat} {f : Pls} {X : List UInt8} (h : WrS w' B q mb f X) (hb : Below B w w') (hk : Kp w w') : WrN w B q mb f X w' := ⟨h, hb, hk⟩
set_option maxRecDepth 100000 in
theorem numS (q mb B : Nat) (W : Int) (la : Option Addr) (n c : Nat) (l : List Int) (f : Pls) (X : List UInt8) (w : World) (hr : Row w la n l) (hn : n ≤ 100000) (hs : WrS w B q mb f X) (hB : B ≤ q) (hqm : q ≠ mb) (hm : X.length + (joinL W l).length ≤ 1000000) :
    Calls Try.prog 36 #[.pointer (some ⟨q, 0, none⟩), .int .i64 W, .slice la n c] w fun e w' => e = .returned (.tuple #[]) ∧ WrN w B q mb f (X ++ joinL W l) w' := by
  obtain ⟨bv, D, k, hc, ht, ho, hmp, hD, hf, hk⟩ := hs
  refine (numbers_any q W la n c l bv (.map (some mb)) X X.length B w hr hn hc ht ho hB hm).mono ?_
  rintro e w2 ⟨rfl, bv', hc2, ht2, ho2, hb2, hk2⟩
  exact ⟨rfl, ⟨bv', D, k, hc2, ht2, by rw [List.length_append]; exact ho2, map_same hmp (hk2 mb hmp.lt (fun e => hqm e.symm) (own_map_ne ho hmp)), hD, hf, by rw [List.length_append]; omega⟩, hb2, Kp.num ho ht hk2⟩
end Go.Proofs.Ytgppkpdjpcegbaa
