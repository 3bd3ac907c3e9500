/- Contracts of the document's Addr and Text (chapter 3), over this seat's translation. -/
import Derived.Test.YtgdbbdbfaglkdaaRdN
import Derived.Test.YtgdbbdbfaglkdaaRdB
namespace Go.Proofs.Ytgdbbdbfaglkdaa
open Go.RowKit

theorem raddr_any (a : Option Addr) (len cap : Nat) (l : List Int) (w : World) (h : Row w a len l) (hlen : len ≤ 100000) :
    Calls Try.prog 34 #[.slice a len cap] w fun e w' => e = .returned (.tuple #[.string (bs (addrL l)), .int .i64 (addrE l)]) ∧ Below w.heap.size w w' := by
  have HR := Lib.hid h
  have hl := h.1
  by_cases h4 : len = 4 ∨ len = 16
  · have hd : ((len : Int) != 4) = false ∨ ((len : Int) != 4) = true ∧ ((len : Int) != 16) = false := by
      simp only [bne_iff_ne, ne_eq, bne_eq_false_iff_eq]; omega
    rw [addrL, addrE, if_pos (by omega), if_pos (by omega)]
    clear h h4 hl
    rcases hd with d1 | ⟨d1, d2⟩
    all_goals
      go_enter Try.func34, Try.ntmps34
      go_wp2_with fail
      refine (rjoin_any _ _ _ _ l _ HR.out (by omega)).mono ?_; rintro e w' ⟨rfl, hb⟩
      have HB := Lib.hid hb
      clear hb
      go_wp2
      go_ret2
      exact ⟨rfl, HB.out⟩
  · have d1 : ((len : Int) != 4) = true := nT (by omega)
    have d2 : ((len : Int) != 16) = true := nT (by omega)
    rw [addrL, addrE, if_neg (by omega), if_neg (by omega)]
    clear h h4 hl
    go_enter Try.func34, Try.ntmps34
    go_wp2
    go_ret2
    exact ⟨rfl, Below.refl _ _⟩

/-- All of the first k texts are short enough for a length byte. -/
def Sh (l : List ByteArray) (k : Nat) : Prop := ∀ j, j < k → (tx l j).size ≤ 255
theorem sh_next {l : List ByteArray} {k : Nat} (h : Sh l k) (h1 : (tx l k).size ≤ 255) : Sh l (k + 1) := by
  intro j hj
  by_cases e : j = k
  · subst e; exact h1
  · exact h j (by omega)
theorem txtTo_mono (l : List ByteArray) (k n : Nat) (h : k ≤ n) : (txtTo l k).length ≤ (txtTo l n).length := by
  induction n with
  | zero =>
    have : k = 0 := by omega
    subst this
    exact Nat.le_refl _
  | succ n ih =>
    by_cases e : k = n + 1
    · subst e; exact Nat.le_refl _
    · have := ih (by omega)
      rw [txtTo_len]
      omega
theorem okTx_yes {l : List ByteArray} {k : Nat} (h : Sh l k) (h1 : (txtTo l k).length ≤ 1000) : okTx l k = true := by
  induction k with
  | zero => rfl
  | succ k ih =>
    have h2 := txtTo_len l k
    have h3 := h k (by omega)
    simp only [okTx, Bool.and_eq_true, decide_eq_true_eq]
    exact ⟨ih (fun j hj => h j (by omega)) (by omega), h3, by omega⟩
theorem okTx_bad {l : List ByteArray} {k n : Nat} (hk : k ≤ n) (h : 1000 < (txtTo l k).length) : okTx l n = false := by
  cases h2 : okTx l n
  · rfl
  · have := okTx_le h2
    have := txtTo_mono l k n hk
    omega
theorem okTx_wide {l : List ByteArray} {k n : Nat} (hk : k < n) (h : 255 < (tx l k).size) : okTx l n = false := by
  cases h2 : okTx l n
  · rfl
  · have := okTx_at hk h2
    omega
/-- string([]byte{n}). -/
theorem conv_one (w : World) (n : Nat) (h : n < 256) :
    (convert 117 9 (.slice (some ⟨w.heap.size, 0, none⟩) 1 1)).run Try.prog (w.alloc (.cells #[.int .u8 (n : Int)] 5)).drew = .ok (.string (bs [UInt8.ofNat n])) (w.alloc (.cells #[.int .u8 (n : Int)] 5)).drew := by
  refine run_convert_bytes_back _ _ _ 5 ⟨w.heap.size, 0, none⟩ 1 [UInt8.ofNat n] Try.underlying117 Try.underlying5 Try.underlying9 ?_
  intro j hj
  have : j = 0 := by simpa using hj
  subst this
  have e : (UInt8.ofNat n).toNat = n := UInt8.toNat_ofNat_of_lt' (by have : UInt8.size = 256 := rfl; omega)
  simp [World.cell?_alloc_at, e, Addr.add]

set_option maxRecDepth 100000 in
set_option maxHeartbeats 1600000 in
theorem rtext_some (a : Option Addr) (len cap : Nat) (l : List ByteArray) (w : World) (h : RowS w a len l) (h0 : 0 < len) (hlen : len ≤ 1000) (hsz : ∀ k, k < len → (tx l k).size ≤ 1000000) :
    Calls Try.prog 36 #[.slice a len cap] w fun e w' => e = .returned (.tuple #[.string (bs (textL l)), .int .i64 (textE l)]) ∧ Below w.heap.size w w' := by
  have HR := Lib.hid h
  have HSZ := Lib.hid hsz
  have hll := h.1
  have e0 : ((len : Int) == 0) = false := eF (by omega)
  clear h hsz
  go_enter Try.func36, Try.ntmps36
  go_wp2
  go_loopw [4, 5] (fun s i wr => ∃ k : Nat, k ≤ len ∧ Sh l k ∧ i = .int .i64 k ∧ s = .string (bs (txtTo l k)) ∧ Below w.heap.size w wr) (fun _ i _ => len - (intOf i).toNat)
  case atStart => exact ⟨0, Nat.zero_le _, fun j hj => absurd hj (by omega), rfl, rfl, Below.refl _ _⟩
  case round =>
    obtain ⟨k, hk, hsh, rfl, rfl, hbel⟩ := hrel
    have HBL := Lib.hid hbel
    have HSH := Lib.hid hsh
    have hn0 := txtTo_len l k
    have hb9 := bs_size (txtTo l k)
    obtain ⟨T, hT⟩ : ∃ T, bs (txtTo l k) = T := ⟨_, rfl⟩
    rw [hT] at hb9 ⊢
    have HT := Lib.hid hT
    have hne : l ≠ [] := by intro h; rw [h] at hll; simp at hll; omega
    have hno : okTx l len = false → bs (textL l) = ⟨#[]⟩ ∧ textE l = 3 := by
      intro ho
      rw [← hll] at ho
      exact ⟨by rw [textL, ho]; rfl, by rw [textE, if_neg hne, ho]; rfl⟩
    by_cases hlt : k < len
    · rcases HR.out.2 with hz | ⟨q, off, rfl, hbl, hc⟩
      · omega
      · obtain ⟨s, hs⟩ : ∃ s, tx l k = s := ⟨_, rfl⟩
        have hcell : wr.cell? ⟨q, off + k, none⟩ = some (.string s) := by rw [HBL.out.cell hbl, ← hs]; exact hc k hlt
        have hs9 := HSZ.out k hlt
        rw [hs] at hn0 hs9
        by_cases e : s.size ≤ 255
        · have e1 := dF (p := (255 : Int) < (s.size : Int)) (by omega)
          by_cases e2 : T.size ≤ 1000
          · have e3 := dF (p := (1000 : Int) < (T.size : Int)) (by omega)
            have HX := Lib.hid (sh_next hsh (by rw [hs]; exact e))
            have HN := Lib.hid (show bs (txtTo l (k + 1)) = T ++ (bs [UInt8.ofNat s.size] ++ s) by
              rw [← hT, txtTo, hs, ← bs_append]; congr 1)
            have hq : q < wr.heap.size := Nat.lt_of_lt_of_le hbl hbel.size
            clear hc hs hn0 hsh hbel hb9 hT hno
            go_wp2
            have hcv := conv_one wr s.size (by omega)
            have hx1 := bs_size [UInt8.ofNat s.size]
            obtain ⟨X, hXe⟩ : ∃ X, bs [UInt8.ofNat s.size] = X := ⟨_, rfl⟩
            rw [hXe] at hcv hx1 HN
            have hx2 : X.size = 1 := hx1
            clear hx1 hXe
            go_region
            go_wp2
            go_roundw
            case rel => exact ⟨k + 1, by omega, HX.out, by go_num, by rw [← HN.out], (HBL.out.alloc HBL.out.size _).drew⟩
            case measure => simp [intOf]; omega
          · have e3 := dT (p := (1000 : Int) < (T.size : Int)) (by omega)
            have HZ := Lib.hid (hno (okTx_bad (by omega) (by omega)))
            clear hc hs hn0 hsh hbel hb9 hT hno
            go_wp2
            go_ret2
            exact ⟨by rw [HZ.out.1, HZ.out.2]; rfl, HBL.out⟩
        · have e1 := dT (p := (255 : Int) < (s.size : Int)) (by omega)
          have HZ := Lib.hid (hno (okTx_wide (k := k) (by omega) (by rw [hs]; omega)))
          clear hc hs hn0 hsh hbel hb9 hT hno
          go_wp2
          go_ret2
          exact ⟨by rw [HZ.out.1, HZ.out.2]; rfl, HBL.out⟩
    · have hkl : k = len := by omega
      subst hkl
      by_cases e2 : T.size ≤ 1000
      · have e3 := dF (p := (1000 : Int) < (T.size : Int)) (by omega)
        have hok := okTx_yes hsh (by omega)
        have HZ := Lib.hid (show bs (textL l) = T ∧ textE l = 0 by
          rw [← hll] at hok hT
          exact ⟨by rw [textL, if_pos hok]; exact hT, by rw [textE, if_neg hne, if_pos hok]⟩)
        clear hn0 hsh hbel hb9 hT hno hok
        go_wp2
        go_ret2
        exact ⟨by rw [HZ.out.1, HZ.out.2]; rfl, HBL.out⟩
      · have e3 := dT (p := (1000 : Int) < (T.size : Int)) (by omega)
        have HZ := Lib.hid (hno (okTx_bad (k := k) (by omega) (by omega)))
        clear hn0 hsh hbel hb9 hT hno
        go_wp2
        go_ret2
        exact ⟨by rw [HZ.out.1, HZ.out.2]; rfl, HBL.out⟩

theorem rtext_any (a : Option Addr) (len cap : Nat) (l : List ByteArray) (w : World) (h : RowS w a len l) (hlen : len ≤ 1000) (hsz : ∀ k, k < len → (tx l k).size ≤ 1000000) :
    Calls Try.prog 36 #[.slice a len cap] w fun e w' => e = .returned (.tuple #[.string (bs (textL l)), .int .i64 (textE l)]) ∧ Below w.heap.size w w' := by
  by_cases h0 : 0 < len
  · exact rtext_some a len cap l w h h0 hlen hsz
  · have hl : len = 0 := by omega
    subst hl
    have hn : l = [] := List.eq_nil_of_length_eq_zero h.1
    subst hn
    clear h hsz
    go_enter Try.func36, Try.ntmps36
    go_wp2
    go_ret2
    exact ⟨rfl, Below.refl _ _⟩
end Go.Proofs.Ytgdbbdbfaglkdaa
