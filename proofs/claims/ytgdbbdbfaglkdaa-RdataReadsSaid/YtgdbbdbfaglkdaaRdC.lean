/- RdataTexts: the walk. -/
import Derived.Test.YtgdbbdbfaglkdaaRdB
namespace Go.Proofs.Ytgdbbdbfaglkdaa
open Go.RowKit

theorem txtTo_pre (l : List ByteArray) (k n : Nat) (h : k ≤ n) : ∃ r, txtTo l n = txtTo l k ++ r := by
  induction n with
  | zero =>
    have : k = 0 := by omega
    subst this
    exact ⟨[], by simp⟩
  | succ n ih =>
    by_cases e : k = n + 1
    · subst e; exact ⟨[], by simp⟩
    · obtain ⟨r, hr⟩ := ih (by omega)
      exact ⟨r ++ _, by rw [txtTo, hr, List.append_assoc]⟩
theorem txt_byte (l : List ByteArray) (k n : Nat) (h : k < n) (hs : (tx l k).size ≤ 255) : (txtTo l k).length < (bs (txtTo l n)).size ∧ byteAt (bs (txtTo l n)) (txtTo l k).length = (tx l k).size := by
  obtain ⟨r, hr⟩ := txtTo_pre l (k + 1) n h
  rw [txtTo, List.append_assoc] at hr
  constructor
  · rw [bs_size, hr]; simp
  · rw [byteAt_bs, hr, List.getD_eq_getElem?_getD, List.getElem?_append_right (Nat.le_refl _)]
    simp only [Nat.sub_self, List.cons_append, List.getElem?_cons_zero, Option.getD_some]
    exact UInt8.toNat_ofNat_of_lt' (by have : UInt8.size = 256 := rfl; omega)
theorem mayTx_txt (l : List ByteArray) (n : Nat) (h0 : 0 < n) (h : okTx l n = true) : mayTx (bs (txtTo l n)) = true := by
  have key : ∀ d k, k + d = n → runT (bs (txtTo l n)) (bs (txtTo l n)).size (txtTo l k).length = (bs (txtTo l n)).size := by
    intro d
    induction d with
    | zero =>
      intro k hk
      have : k = n := by omega
      subst this
      rw [runT_done _ _ _ (by rw [bs_size]; exact Nat.le_refl _), bs_size]
    | succ d ih =>
      intro k hk
      obtain ⟨h1, h2⟩ := txt_byte l k n (by omega) (okTx_at (by omega) h)
      rw [runT_step _ _ h1, h2, ← txtTo_len]
      exact ih (k + 1) (by omega)
  have h1 := key n 0 (by omega)
  have h2 := (txt_byte l 0 n h0 (okTx_at h0 h)).1
  simp only [txtTo, List.length_nil] at h1 h2
  simp only [mayTx, Bool.and_eq_true, beq_iff_eq, decide_eq_true_eq]
  exact ⟨h1, by omega⟩

theorem join1_at (l : List Int) (hf : AllFit 1 l l.length) (i : Nat) (hi : i < l.length) : (byteAt (bs (joinTo 1 l l.length)) i : Int) = l.getD i 0 := by
  have hp : ∀ n, n ≤ l.length → i < n → (joinTo 1 l n).getD i 0 = by8 (l.getD i 0) := by
    intro n
    induction n with
    | zero => intro _ h; omega
    | succ n ih =>
      intro hn h
      have hl := joinTo_length 1 l n
      simp only [joinTo, List.getD_eq_getElem?_getD] at *
      by_cases e : i = n
      · subst e
        rw [List.getElem?_append_right (by omega), hl]
        simp [putTo]
      · rw [List.getElem?_append_left (by omega)]
        exact ih (by omega) (by omega)
  rw [byteAt_bs, hp _ (Nat.le_refl _) hi, by8_toNat]
  have := hf i hi
  simp [fits] at this
  rw [List.getD_eq_getElem?_getD]
  omega

theorem row_lit4 (w : World) (x y z v : Int) (t : TypeId) : Row (w.alloc (.cells #[.int .i64 x, .int .i64 y, .int .i64 z, .int .i64 v] t)) (some ⟨w.heap.size, 0, none⟩) 4 [x, y, z, v] := by
  refine ⟨rfl, Or.inr ⟨w.heap.size, 0, rfl, by simp, ?_⟩⟩
  intro j hj
  rcases (by omega : j = 0 ∨ j = 1 ∨ j = 2 ∨ j = 3) with rfl | rfl | rfl | rfl <;> simp [World.cell?_alloc_at]
theorem rowS_lit1 (w : World) (s : ByteArray) (t : TypeId) : RowS (w.alloc (.cells #[.string s] t)) (some ⟨w.heap.size, 0, none⟩) 1 [s] := by
  refine ⟨rfl, Or.inr ⟨w.heap.size, 0, rfl, by simp, ?_⟩⟩
  intro j hj
  have : j = 0 := by omega
  subst this
  simp [World.cell?_alloc_at]

set_option maxRecDepth 100000 in
theorem rfirst (w : World) : Calls Try.prog 13 #[] w fun e w' => e = .returned (.bool true) ∧ Below w.heap.size w w' := by
  have h1 : addrL [192, 0, 2, 1] = [192, 0, 2, 1] := by decide
  have h2 : addrE [192, 0, 2, 1] = 0 := by decide
  have h3 : textL [⟨#[97, 98]⟩] = [2, 97, 98] := by decide
  have h4 : textE [⟨#[97, 98]⟩] = 0 := by decide
  have h5 : (bs [192, 0, 2, 1]).toList = [192, 0, 2, 1] := bs_toList _
  have h6 : (bs [2, 97, 98]).toList = [2, 97, 98] := bs_toList _
  have h7 : mayTx ⟨#[]⟩ = false := by decide
  go_enter Try.func13, Try.ntmps13
  go_wp2_with fail
  refine (addr_any _ _ _ _ _ (row_lit4 _ _ _ _ _ _) (by omega)).mono ?_; rintro e w1 ⟨rfl, hb1⟩
  have HB1 := Lib.hid (((Below.refl w.heap.size w).alloc (Nat.le_refl _) _).trans (hb1.mono (by simp)))
  clear hb1
  go_wp2_with fail
  refine (text_any _ _ _ _ _ (rowS_lit1 _ _ _) (by omega) ?_).mono ?_
  · intro k hk
    have : k = 0 := by omega
    subst this
    decide
  rintro e w2 ⟨rfl, hb2⟩
  have HB2 := Lib.hid ((HB1.out.alloc HB1.out.size _).trans (hb2.mono (by have := HB1.out.size; simp; omega)))
  clear hb2
  go_wp2_with (first | (go_at_call 20; refine (may_txt _ _ (by decide)).mono ?_; rintro e w' ⟨rfl, rfl⟩))
  go_ret
  exact ⟨rfl, HB2.out⟩
end Go.Proofs.Ytgdbbdbfaglkdaa
