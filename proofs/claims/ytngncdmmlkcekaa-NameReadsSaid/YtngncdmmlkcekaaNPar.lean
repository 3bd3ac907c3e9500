/- NameParts: the walk. -/
import Derived.Test.YtngncdmmlkcekaaParP
import Derived.Test.YtngncdmmlkcekaaAppS
import Derived.Test.YtngncdmmlkcekaaFst2
import Derived.Test.YtngncdmmlkcekaaFew
import Derived.Test.YtngncdmmlkcekaaNOrd
namespace Go.Proofs.Ytngncdmmlkcekaa
open Go.RowKit

set_option maxRecDepth 100000 in
set_option maxHeartbeats 3200000 in
theorem walkNParts (pa : Option Addr) (la ca : Nat) (A : List ByteArray) (pb : Option Addr) (lb cb : Nat) (B : List ByteArray) (w : World) (hA : RowS w pa la A) (hB : RowS w pb lb B) (nA : pa = none → la = 0 ∧ ca = 0) (nB : pb = none → lb = 0 ∧ cb = 0) (lA : la ≤ 9223372036854775807) (lB : lb ≤ 9223372036854775807) (sA : ∀ k, k < la → (tx A k).size ≤ 9223372036854775807) (sB : ∀ k, k < lb → (tx B k).size ≤ 9223372036854775807) :
    Calls Try.prog 7 #[.slice pa la ca, .slice pb lb cb] w fun e w' => e = .returned (.bool true) ∧ Below w.heap.size w w' := by
  have HA := Lib.hid hA
  have HB := Lib.hid hB
  have NA := Lib.hid nA
  have NB := Lib.hid nB
  have SA := Lib.hid sA
  have SB := Lib.hid sB
  clear hA hB nA nB sA sB
  go_enter Try.func7, Try.ntmps7
  go_wp2_with fail
  refine (first2 _).mono ?_; rintro e w1 ⟨rfl, hb⟩
  have HB1 := Lib.hid hb; clear hb
  go_wp2_with fail
  refine (few_any _ _ _ A _ (HA.out.below HB1.out) lA SA.out).mono ?_; rintro e w' ⟨rfl | ⟨rfl, hl, hs⟩, rfl⟩
  · go_wp2_with fail
    refine (first2 _).mono ?_; rintro e w2 ⟨rfl, hb⟩
    have HB2 := Lib.hid (HB1.out.trans (hb.mono HB1.out.size)); clear hb
    go_wp2
    go_ret
    exact ⟨rfl, HB2.out⟩
  have TA := Lib.hid (show ∀ k, k < la → (tx A k).size ≤ 1000000 from fun k hk => Nat.le_trans (hs k hk) (by omega))
  clear hs
  go_wp2_with fail
  refine (few_any _ _ _ B _ (HB.out.below HB1.out) lB SB.out).mono ?_; rintro e w' ⟨rfl | ⟨rfl, hl2, hs⟩, rfl⟩
  · go_wp2_with fail
    refine (first2 _).mono ?_; rintro e w2 ⟨rfl, hb⟩
    have HB2 := Lib.hid (HB1.out.trans (hb.mono HB1.out.size)); clear hb
    go_wp2
    go_ret
    exact ⟨rfl, HB2.out⟩
  have TB := Lib.hid (show ∀ k, k < lb → (tx B k).size ≤ 1000000 from fun k hk => Nat.le_trans (hs k hk) (by omega))
  have TAB := Lib.hid (show ∀ k, k < la + lb → (tx (A ++ B) k).size ≤ 1000000 by
    intro k hk
    have e := HA.out.1
    by_cases h : k < A.length
    · rw [tx_left h]; exact TA.out k (by omega)
    · obtain ⟨j, rfl⟩ : ∃ j, k = A.length + j := ⟨k - A.length, by omega⟩
      rw [tx_right]; exact TB.out j (by omega))
  have LAB := Lib.hid (show A.length = la ∧ B.length = lb from ⟨HA.out.1, HB.out.1⟩)
  clear hs
  go_wp2_with fail
  refine (joinName_any _ _ _ A _ (HA.out.below HB1.out) (by omega) TA.out).mono ?_; rintro e w2 ⟨rfl, hb⟩
  have HB2 := Lib.hid (HB1.out.trans (hb.mono HB1.out.size)); clear hb
  go_wp2_with fail
  refine (joinName_any _ _ _ B _ (HB.out.below HB2.out) (by omega) TB.out).mono ?_; rintro e w3 ⟨rfl, hb⟩
  have HB3 := Lib.hid (HB2.out.trans (hb.mono HB2.out.size)); clear hb
  go_wp2_with fail
  refine (copyTexts_any _ _ _ A _ (HA.out.below HB3.out) NA.out (by omega)).mono ?_; rintro e w4 ⟨v, rfl, hown, hb⟩
  have HO4 := Lib.hid (own_mono hown HB3.out.size)
  have HB4 := Lib.hid (HB3.out.trans (hb.mono HB3.out.size)); clear hb hown
  go_wp2_with (at_builtin; refine append_rowS rfl _ _ rfl w.heap.size _ la (sc A) rfl HO4.out pb lb cb B rfl NB.out (HB.out.below HB4.out) (by omega) HB4.out.size ?_)
  intro v' w5 hown hgrow
  have HB5 := Lib.hid (HB4.out.grown hgrow HB4.out.size (fun k hk => (HO4.out.lt k hk).1))
  rw [← sc_append] at hown
  obtain ⟨p9, c9, hv, hrow, _⟩ := rowS_of_own hown
  subst hv
  have HR9 := Lib.hid hrow
  clear hown hgrow hrow
  go_wp2_with fail
  refine (joinName_any _ _ _ (A ++ B) _ HR9.out (by omega) TAB.out).mono ?_; rintro e w6 ⟨rfl, hb⟩
  have HB6 := Lib.hid (HB5.out.trans (hb.mono HB5.out.size)); clear hb
  have hno := join_no2 A B
  have htw := fun h1 h2 => join_two (A := A) (B := B) h1 h2
  have hfa := fun h1 h2 h3 => parts_fact (A := A) (B := B) h1 h2 h3
  have hoa := fun h => join_ok (L := A) h
  have hob := fun h => join_ok (L := B) h
  obtain ⟨ea, hea⟩ : ∃ x, joinE2 A = x := ⟨_, rfl⟩
  obtain ⟨eb, heb⟩ : ∃ x, joinE2 B = x := ⟨_, rfl⟩
  obtain ⟨ec, hec⟩ : ∃ x, joinE2 (A ++ B) = x := ⟨_, rfl⟩
  obtain ⟨x, hx⟩ : ∃ x, joinS2 A = x := ⟨_, rfl⟩
  obtain ⟨y, hy⟩ : ∃ x, joinS2 B = x := ⟨_, rfl⟩
  obtain ⟨z, hz⟩ : ∃ x, joinS2 (A ++ B) = x := ⟨_, rfl⟩
  rw [hea, heb, hec] at hno
  rw [hea, heb, hec] at htw
  rw [hea, heb, hx, hy, hz] at hfa
  rw [hea, hx] at hoa
  rw [heb, hy] at hob
  rw [hea, heb, hec, hx, hy, hz]
  clear hea heb hec hx hy hz
  by_cases h0 : ea = 0 ∧ eb = 0
  · obtain ⟨rfl, rfl⟩ := h0
    obtain ⟨_, o1, o2⟩ := hoa rfl
    obtain ⟨_, o3, o4⟩ := hob rfl
    have hxs : x.size = off A A.length + 1 := by rw [o2, lowS_size, nameB_size]
    have hys : y.size = off B B.length + 1 := by rw [o4, lowS_size, nameB_size]
    have htw' := htw rfl rfl
    have hfa' := hfa rfl rfl
    obtain ⟨p1, hp1⟩ : ∃ p, off A A.length = p := ⟨_, rfl⟩
    obtain ⟨p2, hp2⟩ : ∃ p, off B B.length = p := ⟨_, rfl⟩
    rw [hp1] at hxs o1
    rw [hp2] at hys o3
    rw [hp1, hp2] at htw' hfa'
    by_cases hbig : 255 < p1 + p2 + 1
    · rw [if_pos hbig] at htw'
      subst htw'
      have e1 := dT (p := (255 : Int) < (x.size : Int) + (y.size : Int) - 1) (by omega)
      have b1 : x.size ≤ 255 := by omega
      have b2 : y.size ≤ 255 := by omega
      clear hno htw hfa hoa hob o2 o4 hfa' hp1 hp2 hxs hys
      go_wp2_with fail
      refine (first2 _).mono ?_; rintro e w7 ⟨rfl, hb⟩
      have HB7 := Lib.hid (HB6.out.trans (hb.mono HB6.out.size)); clear hb
      go_wp2
      go_ret
      exact ⟨rfl, HB7.out⟩
    · rw [if_neg hbig] at htw'
      subst htw'
      obtain ⟨f1, f2, L, f3, f4, f5, f6⟩ := hfa' (by omega)
      have e1 := dF (p := (255 : Int) < (x.size : Int) + (y.size : Int) - 1) (by omega)
      have b1 : x.size ≤ 255 := by omega
      have b2 : y.size ≤ 255 := by omega
      have b3 : 1 ≤ x.size := by omega
      have F2 := Lib.hid f2
      have f9 : (z.toList == (x.extract 0 (x.size - 1) ++ y).toList) = true := beq_iff_eq.2 (congrArg ByteArray.toList f1)
      have hzs : z.size ≤ 255 := by rw [f5, nameB_size]; omega
      have HLZ := Lib.hid (fun w => labels_yes L w f3 f4)
      rw [← f5] at HLZ
      rw [f6, LAB.out.1, LAB.out.2] at HLZ
      clear hno htw hfa hoa hob o2 o4 hfa' hp1 hp2 hxs hys f1 f2 f3 f4 f5 f6
      go_wp2_with fail
      refine (first2 _).mono ?_; rintro e w7 ⟨rfl, hb⟩
      have HB7 := Lib.hid (HB6.out.trans (hb.mono HB6.out.size)); clear hb
      go_wp2_with fail
      refine (under_any _ _ _ (by omega) (by omega)).mono ?_; rintro e w' ⟨rfl, rfl⟩
      rw [F2.out]
      go_wp2_with fail
      refine (HLZ.out _).mono ?_; rintro e w8 ⟨q9, rfl, _, hb⟩
      have HB8 := Lib.hid (HB7.out.trans (hb.mono HB7.out.size)); clear hb
      go_wp2
      go_ret
      exact ⟨rfl, HB8.out⟩
  · have h1 := hno (by omega)
    have e3 : (ec != 0) = true := nT h1
    have hd : (ea != 0) = true ∨ (ea != 0) = false ∧ (eb != 0) = true := by
      simp only [bne_iff_ne, ne_eq, bne_eq_false_iff_eq]; omega
    clear hno htw hfa hoa hob h0 h1
    rcases hd with d1 | ⟨d1, d2⟩
    all_goals
      go_wp2_with fail
      refine (first2 _).mono ?_; rintro e w7 ⟨rfl, hb⟩
      have HB7 := Lib.hid (HB6.out.trans (hb.mono HB6.out.size)); clear hb
      go_wp2
      go_ret
      exact ⟨rfl, HB7.out⟩
end Go.Proofs.Ytngncdmmlkcekaa
