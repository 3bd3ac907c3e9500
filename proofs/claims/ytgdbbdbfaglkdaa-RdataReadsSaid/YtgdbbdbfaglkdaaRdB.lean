/- The contract of rdata.Text (chapter 3); RdataTexts: the walk. -/
import Derived.Test.YtgdbbdbfaglkdaaRdA
namespace Go.Proofs.Ytgdbbdbfaglkdaa
open Go.RowKit

theorem own_shape {w : World} {B n : Nat} {e : TypeId} {v : Value} {xs : List Value} (h : w.ownsRow B e 1 v n xs) : ∃ a c, v = .slice a n c := by
  rcases h.2 with ⟨rfl, rfl⟩ | ⟨g, cap, cur, rfl, _⟩
  · exact ⟨none, 0, rfl⟩
  · exact ⟨_, _, rfl⟩

def tx (l : List ByteArray) (k : Nat) : ByteArray := l.getD k ByteArray.empty
/-- The data of the first k texts. -/
def txtTo (l : List ByteArray) : Nat → List UInt8
  | 0 => []
  | k + 1 => txtTo l k ++ (UInt8.ofNat (tx l k).size :: (tx l k).data.toList)
def okTx (l : List ByteArray) : Nat → Bool
  | 0 => true
  | k + 1 => okTx l k && (decide ((tx l k).size ≤ 255) && decide ((txtTo l k).length + 1 + (tx l k).size ≤ 1000))
theorem txtTo_len (l : List ByteArray) (k : Nat) : (txtTo l (k + 1)).length = (txtTo l k).length + 1 + (tx l k).size := by
  simp [txtTo]
  omega
theorem okTx_le {l : List ByteArray} {k : Nat} (h : okTx l k = true) : (txtTo l k).length ≤ 1000 := by
  cases k with
  | zero => simp [txtTo]
  | succ k =>
    simp only [okTx, Bool.and_eq_true, decide_eq_true_eq] at h
    rw [txtTo_len]
    omega
theorem okTx_no {l : List ByteArray} {k n : Nat} (hk : k < n) (h : okTx l (k + 1) = false) : okTx l n = false := by
  induction n with
  | zero => omega
  | succ n ih =>
    by_cases e : k = n
    · subst e; exact h
    · simp only [okTx, ih (by omega), Bool.false_and]
theorem okTx_at {l : List ByteArray} {k n : Nat} (hk : k < n) (h : okTx l n = true) : (tx l k).size ≤ 255 := by
  cases h2 : okTx l (k + 1)
  · have := okTx_no hk h2
    rw [h] at this
    exact absurd this (by simp)
  · simp only [okTx, Bool.and_eq_true, decide_eq_true_eq] at h2
    omega
def textE (l : List ByteArray) : Int := if l = [] then 4 else if okTx l l.length = true then 0 else 3
def textL (l : List ByteArray) : List UInt8 := if okTx l l.length = true then txtTo l l.length else []

theorem txt_bc (l : List ByteArray) (k : Nat) (s : ByteArray) (hs : tx l k = s) (h : s.size ≤ 255) : bc (txtTo l k) ++ Value.int .u8 (s.size : Int) :: Lib.strCells s = bc (txtTo l (k + 1)) := by
  subst hs
  rw [txtTo, strCells_bc, bc_append]
  have e : ((UInt8.ofNat (tx l k).size).toNat : Int) = ((tx l k).size : Int) := by rw [UInt8.toNat_ofNat_of_lt' (by have : UInt8.size = 256 := rfl; omega)]
  simp only [bc, List.map_cons, e]

set_option maxRecDepth 100000 in
set_option maxHeartbeats 800000 in
theorem text_some (a : Option Addr) (len cap : Nat) (l : List ByteArray) (w : World) (h : RowS w a len l) (h0 : 0 < len) (hlen : len ≤ 1000) (hsz : ∀ k, k < len → (tx l k).size ≤ 1000000) :
    Calls Try.prog 35 #[.slice a len cap] w fun e w' => e = .returned (.tuple #[.string (bs (textL l)), .int .i64 (textE l)]) ∧ Below w.heap.size w w' := by
  obtain ⟨i0, hi, hz0, hz1, hz2⟩ := info_parts infoU8
  have HI := Lib.hid hi
  have HZ0 := Lib.hid hz0
  have HZ1 := Lib.hid hz1
  have HZ2 := Lib.hid hz2
  have HR := Lib.hid h
  have HSZ := Lib.hid hsz
  have g0 : ((len : Int) == 0) = false := eF (by omega)
  have hne : l ≠ [] := by intro e; have := h.1; rw [e] at this; simp at this; omega
  have HNE := Lib.hid hne
  clear hi hz0 hz1 hz2 h hsz hne
  go_enter Try.func35, Try.ntmps35
  go_wp2
  go_loopw [4, 12] (fun v i wr => ∃ k : Nat, k ≤ len ∧ i = .int .i64 k ∧ okTx l k = true ∧ wr.ownsRow w.heap.size 5 1 v (txtTo l k).length (bc (txtTo l k)) ∧ Below w.heap.size w wr) (fun _ i _ => len - (intOf i).toNat)
  case atStart => exact ⟨0, Nat.zero_le _, rfl, rfl, World.ownsRow_nil _ _ _ _, Below.refl _ _⟩
  case round =>
    obtain ⟨k, hk, rfl, hok, hown1, hbel⟩ := hrel
    obtain ⟨va, vc, rfl⟩ := own_shape hown1
    have HOK := Lib.hid hok
    have HO := Lib.hid hown1
    have HBL := Lib.hid hbel
    have hsz := hbel.size
    have hle := okTx_le hok
    clear hown1 hbel hok
    by_cases hlt : k < len
    · rcases HR.out.2 with hz | ⟨b, off, rfl, hbl, hc⟩
      · omega
      · obtain ⟨s, hs⟩ : ∃ s, tx l k = s := ⟨_, rfl⟩
        have hcell : wr.cell? ⟨b, off + k, none⟩ = some (.string s) := by rw [HBL.out.cell hbl, ← hs]; exact hc k hlt
        have hs6 : s.size ≤ 1000000 := by rw [← hs]; exact HSZ.out k hlt
        obtain ⟨n, hn⟩ : ∃ n, (txtTo l k).length = n := ⟨_, rfl⟩
        have hst : okTx l (k + 1) = (decide (s.size ≤ 255) && decide (n + 1 + s.size ≤ 1000)) := by simp only [okTx]; rw [HOK.out, hs, hn]; rfl
        have HST := Lib.hid hst
        have HS := Lib.hid hs
        have HLN := Lib.hid (txtTo_len l k)
        rw [hn, hs] at HLN
        rw [hn] at HO hle
        clear hc hs hst
        rw [hn]
        clear hn
        by_cases d1 : s.size ≤ 255
        · have e1 := dF (p := (255 : Int) < (s.size : Int)) (by omega)
          by_cases d2 : n + 1 + s.size ≤ 1000
          · have e2 := dF (p := (1000 : Int) < (n : Int) + 1 + (s.size : Int)) (by omega)
            have HOW := Lib.hid (show okTx l (k + 1) = true by rw [HST.out]; simp [d1, d2])
            go_wp2_with (first | (at_builtin; refine wpList_append_own _ rfl _ _ 117 rfl w.heap.size 5 i0 (.int .u8 0) 1 1 Try.underlying117 HI.out HZ0.out HZ1.out HZ2.out rfl (by decide) _ n _ rfl (HO.out.alloc _) ⟨wr.heap.size, 0, none⟩ 1 1 [.int .u8 (s.size : Int)] rfl rfl ?c1 ?c2 ?c3 ?c4 ?c5 ?_))
            case c1 => exact cell_one_new _ _ _
            case c2 => exact one_int _ _
            case c3 => unfold maxLen; omega
            case c4 => omega
            case c5 => simp; omega
            intro v2 w2 hown2 hgrow2 _
            have HO2 := Lib.hid hown2
            have HB2 := Lib.hid (below_append HBL.out hsz HO.out hgrow2)
            clear hown2 hgrow2
            go_wp2_with (first | (at_builtin; refine Lib.wpList_append_own_string _ rfl _ _ 117 9 rfl w.heap.size 5 i0 Try.underlying117 Try.underlying9 HI.out HZ0.out HZ1.out HZ2.out _ (n + 1) _ rfl HO2.out s rfl ?c6 ?c7 ?c8 ?_))
            case c6 => unfold maxLen; omega
            case c7 => omega
            case c8 => exact HB2.out.size
            intro v3 w3 hown3 hgrow3 _
            have HB3 := Lib.hid (HB2.out.grown hgrow3 HB2.out.size (fun j hj => (HO2.out.lt j hj).1))
            rw [txt_bc l k s HS.out d1, ← HLN.out] at hown3
            have HO3 := Lib.hid hown3
            clear hown3 hgrow3
            go_wp2
            go_roundw
            case rel => exact ⟨k + 1, by omega, by go_num, HOW.out, HO3.out, HB3.out⟩
            case measure => simp [intOf]; omega
          · have e2 := dT (p := (1000 : Int) < (n : Int) + 1 + (s.size : Int)) (by omega)
            have hno := okTx_no (l := l) (n := l.length) (by rw [HR.out.1]; exact hlt) (show okTx l (k + 1) = false by rw [HST.out]; simp [d2])
            have HN := Lib.hid hno
            clear hno d2
            go_wp2
            go_ret2
            rw [textL, textE, if_neg HNE.out, HN.out]
            exact ⟨rfl, HBL.out⟩
        · have e1 := dT (p := (255 : Int) < (s.size : Int)) (by omega)
          have hno := okTx_no (l := l) (n := l.length) (by rw [HR.out.1]; exact hlt) (show okTx l (k + 1) = false by rw [HST.out]; simp [d1])
          have HN := Lib.hid hno
          clear hno d1
          go_wp2
          go_ret2
          rw [textL, textE, if_neg HNE.out, HN.out]
          exact ⟨rfl, HBL.out⟩
    · have hkl : k = len := by omega
      subst hkl
      have hconv := conv_own HO.out
      have hl : l.length = k := HR.out.1
      have HL := Lib.hid hl
      clear hl
      go_wp2
      go_ret2
      rw [textL, textE, if_neg HNE.out, HL.out, HOK.out]
      exact ⟨rfl, HBL.out⟩

theorem text_none (a : Option Addr) (cap : Nat) (w : World) : Calls Try.prog 35 #[.slice a 0 cap] w fun e w' => e = .returned (.tuple #[.string ⟨#[]⟩, .int .i64 4]) ∧ w = w' := by
  go_enter Try.func35, Try.ntmps35
  go_wp2
  go_ret2
  exact ⟨rfl, rfl⟩
theorem text_any (a : Option Addr) (len cap : Nat) (l : List ByteArray) (w : World) (h : RowS w a len l) (hlen : len ≤ 1000) (hsz : ∀ k, k < len → (tx l k).size ≤ 1000000) :
    Calls Try.prog 35 #[.slice a len cap] w fun e w' => e = .returned (.tuple #[.string (bs (textL l)), .int .i64 (textE l)]) ∧ Below w.heap.size w w' := by
  by_cases h0 : len = 0
  · subst h0
    have : l = [] := List.eq_nil_of_length_eq_zero h.1
    subst this
    exact (text_none a cap w).mono fun e w' ⟨h, g⟩ => ⟨h, g ▸ Below.refl _ _⟩
  · exact text_some a len cap l w h (by omega) hlen hsz
end Go.Proofs.Ytgdbbdbfaglkdaa
