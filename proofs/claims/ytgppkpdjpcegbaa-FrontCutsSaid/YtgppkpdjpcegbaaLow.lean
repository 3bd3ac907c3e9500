/- Contracts of name.Lower, and of the document's (chapter 2), over this seat's translation. -/
import Derived.Test.YtgppkpdjpcegbaaMgA
import Derived.Deep.MidRow
namespace Go.Proofs.Ytgppkpdjpcegbaa
open Go.RowKit

/-- Bytes in a block. -/
def BytAt (w : World) (q n : Nat) (f : Nat → Int) : Prop := ∀ j, j < n → w.cell? ⟨q, j, none⟩ = some (.int .u8 (f j)) ∧ w.frozen? ⟨q, j, none⟩ = false
theorem BytAt.below {w w' : World} {q n : Nat} {f : Nat → Int} (h : BytAt w q n f) (hb : Below w.heap.size w w') : BytAt w' q n f := by
  intro j hj
  obtain ⟨h1, h2⟩ := h j hj
  have hlt : q < w.heap.size := block_lt_of_cell h1
  exact ⟨by rw [hb.cell hlt]; exact h1, by rw [hb.frozen hlt]; exact h2⟩
theorem BytAt.set {w : World} {q n : Nat} {f : Nat → Int} (h : BytAt w q n f) {k : Nat} (hk : k < n) (v : Int) : BytAt (w.setCell ⟨q, k, none⟩ (.int .u8 v)) q n (fun j => if j = k then v else f j) := by
  intro j hj
  obtain ⟨h1, h2⟩ := h j hj
  refine ⟨?_, by simpa using h2⟩
  show _ = some (Value.int .u8 (if j = k then v else f j))
  by_cases e : j = k
  · subst e
    rw [if_pos rfl]
    exact World.cell?_setCell_same _ _ _ h1
  · rw [if_neg e, World.cell?_setCell_other _ _ _ _ (by simp)]
    exact h1
theorem conv_at {w : World} {q n cap : Nat} {f : Nat → Int} {l : List UInt8} (h : BytAt w q n f) (hl : l.length = n) (hf : ∀ j, j < n → f j = ((l.getD j 0).toNat : Int)) :
    (convert 22 9 (.slice (some ⟨q, 0, none⟩) n cap)).run Try.prog w = .ok (.string (bs l)) w := by
  subst hl
  refine run_convert_bytes_back w _ _ 5 ⟨q, 0, none⟩ cap l Try.underlying22 Try.underlying5 Try.underlying9 ?_
  intro j hj
  have := (h j hj).1
  rw [hf j hj] at this
  have e : l.getD j 0 = l[j] := by rw [List.getD_eq_getElem?_getD, List.getElem?_eq_getElem hj]; rfl
  rw [e] at this
  rw [show (⟨q, 0, none⟩ : Addr).add j = ⟨q, j, none⟩ by simp only [Addr.add]; split <;> simp_all]
  exact this

/-- A small letter for a great one. -/
def low1 (b : UInt8) : UInt8 := if great b.toNat = true then UInt8.ofNat (b.toNat + 32) else b
def lowS (s : ByteArray) : ByteArray := bs (s.data.toList.map low1)
theorem low1_no {b : UInt8} (h : great b.toNat = false) : low1 b = b := by rw [low1, h]; rfl
theorem low1_yes {b : UInt8} (h : great b.toNat = true) : (low1 b).toNat = b.toNat + 32 := by
  rw [low1, if_pos h]
  simp only [great, decide_eq_true_eq] at h
  exact UInt8.toNat_ofNat_of_lt' (by have : UInt8.size = 256 := rfl; omega)
theorem lowS_size (s : ByteArray) : (lowS s).size = s.size := by rw [lowS, bs_size]; simp
theorem lowS_no {s : ByteArray} (h : anyG s 0 s.size = false) : lowS s = s := by
  have hall : ∀ j, j < s.size → great (byteAt s j) = false := by
    intro j hj
    cases hg : great (byteAt s j)
    · rfl
    · have := anyG_yes (s := s) (at' := 0) (n := s.size) hj (by rw [Nat.zero_add]; exact hg)
      rw [h] at this
      cases this
  have : s.data.toList.map low1 = s.data.toList := by
    apply List.ext_getElem (by simp)
    intro i h1 h2
    rw [List.getElem_map]
    have h3 := hall i (by simpa using h2)
    rw [byteAt, List.getD_eq_getElem?_getD, List.getElem?_eq_getElem h2] at h3
    exact low1_no h3
  rw [lowS, this]
  rfl
/-- Half lowered. -/
def lowF (s : ByteArray) (k j : Nat) : Int := if j < k then ((low1 (s.data.toList.getD j 0)).toNat : Int) else (byteAt s j : Int)
theorem lowF_end (s : ByteArray) (j : Nat) (h : j < s.size) : lowF s s.size j = (((s.data.toList.map low1).getD j 0).toNat : Int) := by
  have hj : j < s.data.toList.length := by simpa using h
  rw [lowF, if_pos h, List.getD_eq_getElem?_getD, List.getD_eq_getElem?_getD, List.getElem?_map, List.getElem?_eq_getElem hj]
  rfl
theorem lowF_at (s : ByteArray) (k : Nat) : lowF s k k = (byteAt s k : Int) := by rw [lowF, if_neg (by omega)]
theorem lowF_no (s : ByteArray) (k : Nat) (h : great (byteAt s k) = false) : lowF s (k + 1) = lowF s k := by
  funext j
  unfold lowF
  by_cases e : j = k
  · subst e
    rw [if_pos (by omega), if_neg (by omega), low1_no h]
    rfl
  · by_cases h : j < k
    · rw [if_pos h, if_pos (by omega)]
    · rw [if_neg h, if_neg (by omega)]
theorem lowF_yes (s : ByteArray) (k : Nat) (h : great (byteAt s k) = true) : (fun j => if j = k then (byteAt s k : Int) + 32 else lowF s k j) = lowF s (k + 1) := by
  funext j
  unfold lowF
  by_cases e : j = k
  · subst e
    rw [if_pos rfl, if_pos (by omega), low1_yes h]
    rfl
  · rw [if_neg e]
    by_cases h : j < k
    · rw [if_pos h, if_pos (by omega)]
    · rw [if_neg h, if_neg (by omega)]

set_option maxRecDepth 100000 in
theorem lower_any (s : ByteArray) (w : World) (hs : s.size ≤ 1000000) : Calls Try.prog 80 #[.string s] w fun e w' => e = .returned (.string (lowS s)) ∧ Below w.heap.size w w' := by
  cases hg : anyG s 0 s.size
  · have HG := Lib.hid hg
    have HV := Lib.hid (lowS_no hg)
    clear hg
    go_enter Try.func80, Try.ntmps80
    go_wp2_with fail
    refine (hasGreat_any _ _ hs).mono ?_; rintro e w' ⟨rfl, rfl⟩
    rw [HG.out]
    go_wp2
    go_ret
    exact ⟨ret_str HV.out.symm, Below.refl _ _⟩
  · have HG := Lib.hid hg
    clear hg
    go_enter Try.func80, Try.ntmps80
    go_wp2_with fail
    refine (hasGreat_any _ _ hs).mono ?_; rintro e w' ⟨rfl, rfl⟩
    rw [HG.out]
    go_wp2_with (first | (refine conv_bytes rfl (.tmp 10) rfl _ rfl ?_))
    intro cap wb hcap hbel hsize hcells hfr
    have hA : BytAt wb w.heap.size s.size (lowF s 0) := fun j hj => ⟨by rw [hcells j hj, lowF, if_neg (by omega), byteAt]; simp, hfr j hj⟩
    have HA := Lib.hid hA
    have HB := Lib.hid hbel
    clear hcells hfr hA hbel
    go_wp2_with fail
    go_loopw [4, 5, 14] (fun _ _ i wr => ∃ k : Nat, k ≤ s.size ∧ i = .int .i64 k ∧ BytAt wr w.heap.size s.size (lowF s k) ∧ Below w.heap.size w wr) (fun _ _ i _ => s.size - (intOf i).toNat)
    case atStart => exact ⟨0, Nat.zero_le _, rfl, HA.out, HB.out⟩
    case round =>
      obtain ⟨k, hk, rfl, ha, hb⟩ := hrel
      have HA := Lib.hid ha
      have HB := Lib.hid hb
      clear ha hb
      by_cases hlt : k < s.size
      · obtain ⟨c1, f1⟩ := HA.out k hlt
        rw [lowF_at] at c1
        have hb2 := byteAt_lt s k
        cases hgr : great (byteAt s k)
        · have HN := Lib.hid (lowF_no s k hgr)
          have HGR := Lib.hid hgr
          clear hgr
          obtain ⟨b, hb⟩ : ∃ b, byteAt s k = b := ⟨_, rfl⟩
          rw [hb] at c1 hb2 HGR
          clear hb
          go_wp2_with (go_at_call 84; refine (isGreat_any _ _ (by omega)).mono ?_; rintro e w' ⟨rfl, rfl⟩; rw [HGR.out])
          go_roundw
          case rel => exact ⟨k + 1, by omega, by go_num, by rw [HN.out]; exact HA.out, HB.out⟩
          case measure => simp [intOf]; omega
        · have HN := Lib.hid (lowF_yes s k hgr)
          have HGR := Lib.hid hgr
          have hr : 65 ≤ byteAt s k ∧ byteAt s k ≤ 90 := by simpa [great] using hgr
          clear hgr
          obtain ⟨b, hb⟩ : ∃ b, byteAt s k = b := ⟨_, rfl⟩
          rw [hb] at c1 hb2 HGR hr HN
          obtain ⟨hr1, hr2⟩ := hr
          clear hb
          go_wp2_with (go_at_call 84; refine (isGreat_any _ _ (by omega)).mono ?_; rintro e w' ⟨rfl, rfl⟩; rw [HGR.out])
          have h1 := HA.out.set hlt ((b : Int) + 32)
          rw [HN.out] at h1
          go_roundw
          case rel =>
            refine ⟨k + 1, by omega, by go_num, ?_, HB.out.setCell (Nat.le_refl _) _⟩
            rw [show (b : Int) - 65 + 97 = b + 32 by omega]; exact h1
          case measure => simp [intOf]; omega
      · have hkl : k = s.size := by omega
        subst hkl
        have hc := conv_at (cap := cap) HA.out (l := s.data.toList.map low1) (by simp) (lowF_end s)
        go_wp2
        go_ret
        exact ⟨rfl, HB.out⟩

end Go.Proofs.Ytgppkpdjpcegbaa
