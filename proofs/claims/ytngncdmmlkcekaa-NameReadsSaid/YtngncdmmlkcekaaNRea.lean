/- NameReads: the walk. -/
import Derived.Test.YtngncdmmlkcekaaRPa
import Derived.Test.YtngncdmmlkcekaaNOrd
import Derived.Test.YtngncdmmlkcekaaNPar
namespace Go.Proofs.Ytngncdmmlkcekaa
open Go.RowKit

/-- What is asked of a name, and of the document, is answered alike. -/
structure Alike2 (n : ByteArray) (T : ByteArray) (E : Int) (P : ByteArray) (pb : Bool) (N : Nat) (L : List ByteArray) : Prop where
  small : N ≤ 1000
  print : ∀ w, Calls Try.prog 20 #[.string n] w fun e w' => e = .returned (.tuple #[.string T, .int .i64 E]) ∧ Below w.heap.size w w'
  rprint : ∀ w, Calls Try.prog 21 #[.string n] w fun e w' => e = .returned (.tuple #[.string T, .int .i64 E]) ∧ Below w.heap.size w w'
  parent : ∀ w, Calls Try.prog 24 #[.string n] w fun e w' => e = .returned (.tuple #[.string P, .bool pb]) ∧ w = w'
  rparent : ∀ w, Calls Try.prog 25 #[.string n] w fun e w' => e = .returned (.tuple #[.string P, .bool pb]) ∧ w = w'
  labels : ∀ w, Calls Try.prog 31 #[.string n] w fun e w' => ∃ a c, e = .returned (.slice a N c) ∧ RowS w' a N L ∧ Below w.heap.size w w'
  rlabels : ∀ w, Calls Try.prog 32 #[.string n] w fun e w' => ∃ a c, e = .returned (.slice a N c) ∧ RowS w' a N L ∧ Below w.heap.size w w'
theorem alike2 (n : ByteArray) (h : n.size ≤ 2000) : ∃ T E P pb N L, Alike2 n T E P pb N L := by
  cases hm : mayN n
  · refine ⟨⟨#[]⟩, 10, ⟨#[]⟩, false, 0, [], by omega, fun w => ?_, fun w => ?_, fun w => parent_no n w hm (by omega), fun w => rparent_no n w hm (by omega), fun w => ?_, fun w => ?_⟩
    · exact (print_no n w hm (by omega)).mono fun _ _ ⟨h1, h2⟩ => ⟨h1, h2 ▸ Below.refl _ _⟩
    · exact (rprint_no n w hm (by omega)).mono fun _ _ ⟨h1, h2⟩ => ⟨h1, h2 ▸ Below.refl _ _⟩
    · exact (labels_no n w hm (by omega)).mono fun _ _ ⟨h1, h2⟩ => ⟨none, 0, h1, ⟨rfl, Or.inl rfl⟩, h2 ▸ Below.refl _ _⟩
    · exact (rlabels_no n w hm (by omega)).mono fun _ _ ⟨h1, h2⟩ => ⟨none, 0, h1, ⟨rfl, Or.inl rfl⟩, h2 ▸ Below.refl _ _⟩
  · obtain ⟨L, hL, hz, rfl⟩ := may_labels hm
    have hge := off_ge L hL L.length (Nat.le_refl _)
    refine ⟨printL L, 0, parS L, parB L, L.length, L, by omega, fun w => print_yes L w hL hz, fun w => rprint_yes L w hL hz, fun w => parent_yes L w hL hz, fun w => rparent_yes L w hL hz, fun w => ?_, fun w => rlabels_yes L w hL hz⟩
    exact (labels_yes L w hL hz).mono fun _ _ ⟨a, h1, h2, h3⟩ => ⟨a, _, h1, h2, h3⟩

set_option maxRecDepth 100000 in
set_option maxHeartbeats 3200000 in
theorem walkNReads (n text : ByteArray) (pa : Option Addr) (la ca : Nat) (A : List ByteArray) (w : World) (h1 : n.size ≤ 9223372036854775807) (h2 : text.size ≤ 9223372036854775807) (hA : RowS w pa la A) (nA : pa = none → la = 0 ∧ ca = 0) (lA : la ≤ 9223372036854775807) (sA : ∀ k, k < la → (tx A k).size ≤ 9223372036854775807) :
    Calls Try.prog 3 #[.string n, .string text, .slice pa la ca] w fun e w' => e = .returned (.bool true) ∧ Below w.heap.size w w' := by
  have HA := Lib.hid hA
  have NA := Lib.hid nA
  have SA := Lib.hid sA
  clear hA nA sA
  by_cases hz : n.size ≤ 2000 ∧ text.size ≤ 2000
  · obtain ⟨z1, z2⟩ := hz
    have d1 := dF (p := (2000 : Int) < (n.size : Int)) (by omega)
    have d2 := dF (p := (2000 : Int) < (text.size : Int)) (by omega)
    obtain ⟨T, E, P, pb, N, L, hal⟩ := alike2 n z1
    have HAL := Lib.hid hal
    have hN := hal.small
    have HP := Lib.hid (fun w => parse_any text w (by omega))
    have HQ := Lib.hid (fun w => rparse_any text w (by omega))
    have HL := Lib.hid (fun w => lower_any text w (by omega))
    have HM := Lib.hid (fun w => rlower_any text w (by omega))
    obtain ⟨tE, htE⟩ : ∃ E, parseE text = E := ⟨_, rfl⟩
    obtain ⟨tM, htM⟩ : ∃ M, parseS text = M := ⟨_, rfl⟩
    obtain ⟨tl, htl⟩ : ∃ M, lowS text = M := ⟨_, rfl⟩
    rw [htE, htM] at HP HQ
    rw [htl] at HL HM
    clear hal htE htM htl
    go_enter Try.func3, Try.ntmps3
    go_wp2_with fail
    refine (first2 _).mono ?_; rintro e w1 ⟨rfl, hb⟩
    have HB1 := Lib.hid hb; clear hb
    go_wp2_with fail
    refine (few_any _ _ _ A _ (HA.out.below HB1.out) lA SA.out).mono ?_; rintro e w' ⟨rfl | ⟨rfl, hl, hs⟩, rfl⟩
    · go_wp2_with fail
      refine (first2 _).mono ?_; rintro e w2 ⟨rfl, hb⟩
      have HB2 := Lib.hid (HB1.out.trans (hb.mono HB1.out.size)); clear hb
      go_wp2
      go_ret
      exact ⟨rfl, HB2.out⟩
    have TA := Lib.hid (show ∀ k, k < la → (tx A k).size ≤ 1000000 from fun k hk => Nat.le_trans (hs k hk) (by omega))
    clear hs
    go_wp2_with fail
    refine (copyTexts_any _ _ _ A _ (HA.out.below HB1.out) NA.out (by omega)).mono ?_; rintro e w2 ⟨v, rfl, hown, hb⟩
    have HB2 := Lib.hid (HB1.out.trans (hb.mono HB1.out.size))
    obtain ⟨p9, c9, rfl, hrow, _⟩ := rowS_of_own hown
    have HR2 := Lib.hid hrow
    clear hb hown hrow
    go_wp2_with fail
    refine (HP.out _).mono ?_; rintro e w3 ⟨rfl, hb⟩
    have HB3 := Lib.hid (HB2.out.trans (hb.mono HB2.out.size))
    have HR3 := Lib.hid (HR2.out.below hb); clear hb HR2
    go_wp2_with fail
    refine (HQ.out _).mono ?_; rintro e w4 ⟨rfl, hb⟩
    have HB4 := Lib.hid (HB3.out.trans (hb.mono HB3.out.size))
    have HR4 := Lib.hid (HR3.out.below hb); clear hb HR3
    go_wp2_with fail
    refine (HAL.out.print _).mono ?_; rintro e w5 ⟨rfl, hb⟩
    have HB5 := Lib.hid (HB4.out.trans (hb.mono HB4.out.size))
    have HR5 := Lib.hid (HR4.out.below hb); clear hb HR4
    go_wp2_with fail
    refine (HAL.out.rprint _).mono ?_; rintro e w6 ⟨rfl, hb⟩
    have HB6 := Lib.hid (HB5.out.trans (hb.mono HB5.out.size))
    have HR6 := Lib.hid (HR5.out.below hb); clear hb HR5
    go_wp2_with fail
    refine (joinName_any _ _ _ A _ HR6.out (by omega) TA.out).mono ?_; rintro e w7 ⟨rfl, hb⟩
    have HB7 := Lib.hid (HB6.out.trans (hb.mono HB6.out.size))
    have HR7 := Lib.hid (HR6.out.below hb); clear hb HR6
    go_wp2_with fail
    refine (rjoinName_any _ _ _ A _ (HA.out.below HB7.out) (by omega) TA.out).mono ?_; rintro e w8 ⟨rfl, hb⟩
    have HB8 := Lib.hid (HB7.out.trans (hb.mono HB7.out.size))
    have HR8 := Lib.hid (HR7.out.below hb); clear hb HR7
    obtain ⟨jE, hjE⟩ : ∃ E, joinE2 A = E := ⟨_, rfl⟩
    obtain ⟨jS, hjS⟩ : ∃ M, joinS2 A = M := ⟨_, rfl⟩
    rw [hjE, hjS]
    clear hjE hjS
    go_wp2_with fail
    refine (HAL.out.parent _).mono ?_; rintro e w' ⟨rfl, rfl⟩
    go_wp2_with fail
    refine (HAL.out.rparent _).mono ?_; rintro e w' ⟨rfl, rfl⟩
    go_wp2_with fail
    refine (first2 _).mono ?_; rintro e w9 ⟨rfl, hb⟩
    have HB9 := Lib.hid (HB8.out.trans (hb.mono HB8.out.size))
    have HR9 := Lib.hid (HR8.out.below hb); clear hb HR8
    go_wp2_with fail
    refine (nmay_any _ _ (by omega)).mono ?_; rintro e w' ⟨rfl, rfl⟩
    obtain ⟨mb, hmb⟩ : ∃ b, mayN n = b := ⟨_, rfl⟩
    go_wp2_with fail
    refine (rmay_any _ _ (by omega)).mono ?_; rintro e w' ⟨rfl, rfl⟩
    rw [hmb]
    clear hmb
    go_wp2_with fail
    refine (HL.out _).mono ?_; rintro e w10 ⟨rfl, hb⟩
    have HB10 := Lib.hid (HB9.out.trans (hb.mono HB9.out.size))
    have HR10 := Lib.hid (HR9.out.below hb); clear hb HR9
    go_wp2_with fail
    refine (HM.out _).mono ?_; rintro e w11 ⟨rfl, hb⟩
    have HB11 := Lib.hid (HB10.out.trans (hb.mono HB10.out.size))
    have HR11 := Lib.hid (HR10.out.below hb); clear hb HR10
    go_wp2_with fail
    refine (HAL.out.labels _).mono ?_; rintro e w12 ⟨ua, uc, rfl, hrow, hb⟩
    have HB12 := Lib.hid (HB11.out.trans (hb.mono HB11.out.size))
    have HU := Lib.hid hrow
    have HR12 := Lib.hid (HR11.out.below hb); clear hb HR11 hrow
    go_wp2_with fail
    refine (HAL.out.rlabels _).mono ?_; rintro e w13 ⟨va, vc, rfl, hrow, hb⟩
    have HB13 := Lib.hid (HB12.out.trans (hb.mono HB12.out.size))
    have HV := Lib.hid hrow
    have HU2 := Lib.hid (HU.out.below hb)
    have HR13 := Lib.hid (HR12.out.below hb); clear hb HR12 hrow HU
    go_wp2_with fail
    refine (texts_any _ _ _ _ _ L _ HU2.out HV.out (by omega)).mono ?_; rintro e w14 ⟨rfl, hb⟩
    have HB14 := Lib.hid (HB13.out.trans (hb.mono HB13.out.size))
    have HR14 := Lib.hid (HR13.out.below hb); clear hb HR13
    go_wp2_with fail
    refine (texts_any _ _ _ _ _ A _ HR14.out (HA.out.below HB14.out) (by omega)).mono ?_; rintro e w15 ⟨rfl, hb⟩
    have HB15 := Lib.hid (HB14.out.trans (hb.mono HB14.out.size)); clear hb
    go_wp2
    go_ret
    exact ⟨rfl, HB15.out⟩
  · have hd : decide ((2000 : Int) < (n.size : Int)) = true ∨ decide ((2000 : Int) < (n.size : Int)) = false ∧ decide ((2000 : Int) < (text.size : Int)) = true := by
      simp only [decide_eq_true_eq, decide_eq_false_iff_not]; omega
    clear hz
    rcases hd with d1 | ⟨d1, d2⟩
    all_goals
      go_enter Try.func3, Try.ntmps3
      go_wp2_with fail
      refine (first2 _).mono ?_; rintro e w1 ⟨rfl, hb⟩
      have HB1 := Lib.hid hb; clear hb
      go_wp2_with fail
      refine (first2 _).mono ?_; rintro e w2 ⟨rfl, hb⟩
      have HB2 := Lib.hid (HB1.out.trans (hb.mono HB1.out.size)); clear hb
      go_wp2
      go_ret
      exact ⟨rfl, HB2.out⟩
end Go.Proofs.Ytngncdmmlkcekaa
