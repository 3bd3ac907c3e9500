/- FrameLimit: the walk. -/
import Derived.Test.YtngncdmmlkcekaaFPd
namespace Go.Proofs.Ytngncdmmlkcekaa
open Go.RowKit

set_option maxRecDepth 100000 in
set_option maxHeartbeats 3200000 in
theorem walkFLimit (pa : Option Addr) (la ca : Nat) (A : List (List UInt8)) (most : Int) (w : World) (hA : RowBB w pa la A) (lA : la ≤ 9223372036854775807) (sA : sumL A ≤ 2000000) :
    Calls Try.prog 14 #[.slice pa la ca, .int .i64 most] w fun e w' => e = .returned (.bool true) ∧ Below w.heap.size w w' := by
  have HA := Lib.hid hA
  have HML := Lib.hid (show A.length = la by obtain ⟨_, _, h2, _⟩ := hA; exact h2)
  have HSL := Lib.hid (fun k => Nat.le_trans (sum_le A k) sA)
  have SA := Lib.hid (fun k (hk : k < la) => show (A.getD k []).length ≤ 9223372036854775807 by
    have h1 := sum_take (M := A) (k := k) (by rw [HML.out]; exact hk)
    have h2 := HSL.out (k + 1)
    omega)
  clear hA sA
  go_enter Try.func14, Try.ntmps14
  go_wp2_with fail
  refine (first7 _).mono ?_; rintro e w1 ⟨rfl, hb⟩
  have HB1 := Lib.hid hb; clear hb
  go_wp2_with fail
  refine (few7_any _ _ _ A _ (HA.out.below HB1.out) lA SA.out).mono ?_; rintro e w' ⟨rfl | ⟨rfl, hl, hs⟩, rfl⟩
  · go_wp2_with fail
    refine (first7 _).mono ?_; rintro e w2 ⟨rfl, hb⟩
    have HB2 := Lib.hid (HB1.out.trans (hb.mono HB1.out.size)); clear hb
    go_wp2
    go_ret
    exact ⟨rfl, HB2.out⟩
  by_cases hneg : most < 0
  · have d1 := dT hneg
    go_wp2_with fail
    refine (first7 _).mono ?_; rintro e w2 ⟨rfl, hb⟩
    have HB2 := Lib.hid (HB1.out.trans (hb.mono HB1.out.size)); clear hb
    go_wp2
    go_ret
    exact ⟨rfl, HB2.out⟩
  obtain ⟨mn, rfl⟩ := Int.eq_ofNat_of_zero_le (show 0 ≤ most by omega)
  by_cases hbig : 20000 < mn
  · have d1 := dF hneg
    have d2 := dT (p := (20000 : Int) < (mn : Int)) (by omega)
    go_wp2_with fail
    refine (first7 _).mono ?_; rintro e w2 ⟨rfl, hb⟩
    have HB2 := Lib.hid (HB1.out.trans (hb.mono HB1.out.size)); clear hb
    go_wp2
    go_ret
    exact ⟨rfl, HB2.out⟩
  have d1 := dF hneg
  have d2 := dF (p := (20000 : Int) < (mn : Int)) (by omega)
  clear hs hneg
  go_wp2_with fail
  refine (newReader_any _ _).mono ?_; rintro e w3 ⟨P, rfl, hPge, hrd, hb⟩
  have HB3 := Lib.hid (HB1.out.trans (hb.mono HB1.out.size))
  have HRD := Lib.hid hrd
  have hwP : w.heap.size ≤ P := Nat.le_trans HB1.out.size hPge
  clear hrd hb
  go_wp2_with fail
  go_loopw [6, 7, 8] (fun h o i wr => ∃ (j H : Nat) (lv : Value) (ln : Nat) (lb : List UInt8), j ≤ la ∧ i = .int .i64 j ∧ h = .int .i64 H ∧ o = .bool (decide (mn < H)) ∧ Hid (H = sumL (A.take j)) ∧ RdrAt wr P mn H lv ∧ Hid ((mn < H ∧ lv = .slice none 0 0) ∨ (H ≤ mn ∧ OwnM wr lv ln lb ∧ ln ≤ H)) ∧ Hid (∀ g, lv.ownBlock = some g → P < g ∧ g < wr.heap.size) ∧ Below w.heap.size w wr) (fun _ _ i _ => la - (intOf i).toNat)
  case atStart => exact ⟨0, 0, .slice none 0 0, 0, [], Nat.zero_le _, rfl, rfl, by simp, rfl, HRD.out, Or.inr ⟨Nat.zero_le _, OwnM.nil _, Nat.le_refl _⟩, (fun g h => by cases h), HB3.out⟩
  case round =>
    obtain ⟨j, H, lv, ln, lb, hj, rfl, rfl, rfl, hH, hrd, hst, hgo, hbel⟩ := hrel
    have HR := Lib.hid hrd
    have HBL := Lib.hid hbel
    clear hrd hbel HRD HB3
    by_cases hlt : j < la
    · obtain ⟨b1, o1, ai, ci, rfl, hbl1, c0, r1, n1⟩ := HA.out.at j hlt
      have c1 := (HBL.out.cell (p := ⟨b1, o1 + j, none⟩) hbl1).trans c0
      have HT := Lib.hid (sum_take (M := A) (k := j) (by rw [HML.out]; exact hlt))
      have hsl := HSL.out (j + 1)
      have HNI := Lib.hid n1
      have HFAR := Lib.hid (show ∀ b off, ai = some ⟨b, off, none⟩ → (A.getD j []).length = 0 ∨ (b ≠ P ∧ some b ≠ lv.ownBlock) from fun b off e => by
        rcases r1.2 with h0 | ⟨b', off', e', hb', _⟩
        · exact Or.inl h0
        · rw [e] at e'
          injection e' with e'; injection e' with e1 e2; subst e1
          exact Or.inr ⟨by omega, fun e3 => by have := hgo.out _ e3.symm; omega⟩)
      have HRI := Lib.hid (CellsAt.below r1 HBL.out)
      obtain ⟨m, hm⟩ : ∃ m, A.getD j [] = m := ⟨_, rfl⟩
      rw [hm] at c1 HNI HFAR HRI HT
      obtain ⟨s, hs2⟩ : ∃ s, m.length = s := ⟨_, rfl⟩
      rw [hs2] at c1 HNI HFAR HRI HT
      rw [HT.out, ← hH.out] at hsl
      have hsl2 : H + s ≤ 2000000 := hsl
      clear hsl r1 n1 hm hs2
      by_cases hov : mn < H + s
      · have hd2 : decide (mn < H + s) = true := by simpa using hov
        have HF := Lib.hid (feed_lit_over P mn H lv ai s ci m wr HR.out (fun g hg => (hgo.out g hg).2) HRI.out HNI.out HFAR.out (by omega) (by omega) (by omega))
        obtain ⟨H2, hH2⟩ : ∃ x, H + s = x := ⟨_, rfl⟩
        have hH3 : (H : Int) + (s : Int) = (H2 : Int) := by omega
        rw [hH3] at HF
        rw [hH2] at hov hd2 hsl2
        have HTT := Lib.hid (show H2 = sumL (A.take (j + 1)) by rw [HT.out, ← hH.out, hH2])
        have hov2 : ((mn : Int) < (H2 : Int)) := by omega
        have d5 := dT hov2
        have d7 : decide ((H2 : Int) < 0) = false := dF (by omega)
        have hsz := HBL.out.size
        clear hH2
        have fin : ∀ w5 : World, RdrAt w5 P mn H2 (.slice none 0 0) → But wr w5 P lv.ownBlock → ∃ (j' H' : Nat) (lv' : Value) (ln' : Nat) (lb' : List UInt8), j' ≤ la ∧ Value.int .i64 ((j : Int) + 1) = .int .i64 j' ∧ Value.int .i64 (H2 : Int) = .int .i64 H' ∧ Value.bool true = .bool (decide (mn < H')) ∧ Hid (H' = sumL (A.take j')) ∧ RdrAt w5 P mn H' lv' ∧ Hid ((mn < H' ∧ lv' = .slice none 0 0) ∨ (H' ≤ mn ∧ OwnM w5 lv' ln' lb' ∧ ln' ≤ H')) ∧ Hid (∀ g, lv'.ownBlock = some g → P < g ∧ g < w5.heap.size) ∧ Below w.heap.size w w5 :=
          fun w5 h1 h2 => ⟨j + 1, H2, .slice none 0 0, 0, [], by omega, rfl, rfl, by rw [hd2], HTT.out, h1, Or.inl ⟨hov, rfl⟩, (fun g hg => by cases hg), HBL.out.trans (Below.ofBut h2 HBL.out.size hwP (fun g hg => by have := hgo.out g hg; omega))⟩
        have FIN := Lib.hid fin
        clear fin
        by_cases hb0 : mn < H
        · have hd1 : decide (mn < H) = true := by simpa using hb0
          rw [hd1]
          clear hst hH hgo hb0
          go_wp2_with fail
          refine HF.out.mono ?_; rintro e w5 ⟨rfl, hrd5, hbut5⟩
          have HR5 := Lib.hid hrd5
          have HBT5 := Lib.hid hbut5
          clear hrd5 hbut5
          go_wp2_with fail
          refine (left_any P mn H2 none 0 0 w5 HR5.out).mono ?_; rintro e w' ⟨rfl, rfl⟩
          go_wp2_with fail
          refine (left_any P mn H2 none 0 0 w5 HR5.out).mono ?_; rintro e w' ⟨rfl, rfl⟩
          go_wp2_with fail
          refine (left_any P mn H2 none 0 0 w5 HR5.out).mono ?_; rintro e w' ⟨rfl, rfl⟩
          go_wp2
          go_roundw
          case rel => exact FIN.out w5 HR5.out HBT5.out
          case measure => simp [intOf]; omega
        · have hd1 : decide (mn < H) = false := by simpa using hb0
          rw [hd1]
          clear hst hH hgo hb0
          go_wp2_with fail
          refine HF.out.mono ?_; rintro e w5 ⟨rfl, hrd5, hbut5⟩
          have HR5 := Lib.hid hrd5
          have HBT5 := Lib.hid hbut5
          clear hrd5 hbut5
          go_wp2_with fail
          refine (left_any P mn H2 none 0 0 w5 HR5.out).mono ?_; rintro e w' ⟨rfl, rfl⟩
          go_wp2_with fail
          refine (left_any P mn H2 none 0 0 w5 HR5.out).mono ?_; rintro e w' ⟨rfl, rfl⟩
          go_wp2_with fail
          refine (left_any P mn H2 none 0 0 w5 HR5.out).mono ?_; rintro e w' ⟨rfl, rfl⟩
          go_wp2
          go_roundw
          case rel => exact FIN.out w5 HR5.out HBT5.out
          case measure => simp [intOf]; omega
      · have hd1 : decide (mn < H) = false := by simp; omega
        have how : OwnM wr lv ln lb ∧ ln ≤ H := by
          rcases hst.out with ⟨h1, _⟩ | ⟨_, h1, h2⟩
          · omega
          · exact ⟨h1, h2⟩
        have HF := Lib.hid (feed_lit_ok P mn H lv ln lb ai s ci m wr HR.out how.1 (fun e => by have := hgo.out _ e; omega) HRI.out HNI.out HFAR.out how.2 (by omega) (by omega))
        have hln := how.2
        obtain ⟨H2, hH2⟩ : ∃ x, H + s = x := ⟨_, rfl⟩
        have hH3 : (H : Int) + (s : Int) = (H2 : Int) := by omega
        rw [hH2] at HF hov hsl2
        have HTT := Lib.hid (show H2 = sumL (A.take (j + 1)) by rw [HT.out, ← hH.out, hH2])
        have hd2 : decide (mn < H2) = false := by simpa using hov
        have d5 : decide ((mn : Int) < (H2 : Int)) = false := dF (by omega)
        have hlnH : ln + s ≤ H2 := by omega
        have hsz := HBL.out.size
        rw [hd1]
        clear hH2 how
        have fin : ∀ (w5 : World) (v' : Value) (n' B0 : Nat) (lb' : List UInt8), RdrAt w5 P mn H2 v' → OwnM w5 v' n' lb' → n' ≤ ln + s → But wr w5 P lv.ownBlock → (v'.ownBlock = lv.ownBlock ∨ ∀ g, v'.ownBlock = some g → wr.heap.size ≤ g) → ∃ (j' H' : Nat) (lv' : Value) (ln' : Nat) (lb' : List UInt8), j' ≤ la ∧ Value.int .i64 ((j : Int) + 1) = .int .i64 j' ∧ Value.int .i64 (H2 : Int) = .int .i64 H' ∧ Value.bool false = .bool (decide (mn < H')) ∧ Hid (H' = sumL (A.take j')) ∧ RdrAt w5 P mn H' lv' ∧ Hid ((mn < H' ∧ lv' = .slice none 0 0) ∨ (H' ≤ mn ∧ OwnM w5 lv' ln' lb' ∧ ln' ≤ H')) ∧ Hid (∀ g, lv'.ownBlock = some g → P < g ∧ g < w5.heap.size) ∧ Below w.heap.size w w5 :=
          fun w5 v' n' B0 lb' h1 h2 h3 h4 h5 => ⟨j + 1, H2, v', n', lb', by omega, rfl, rfl, by rw [hd2], HTT.out, h1, Or.inr ⟨by omega, h2, by omega⟩, (fun g hg => ⟨by
            rcases h5 with e | e
            · exact (hgo.out g (by rw [← e]; exact hg)).1
            · have := e g hg; have := HR.out.lt; omega, own_lt h2 g hg⟩), HBL.out.trans (Below.ofBut h4 HBL.out.size hwP (fun g hg => by have := hgo.out g hg; omega))⟩
        have FIN := Lib.hid fin
        clear fin hst hH hgo
        go_wp2_with fail
        refine HF.out.mono ?_; rintro e w5 ⟨rv, v', n', B, rfl, hrd5, how5, hof5, hbut5, _, _, _, hgg5, hn5⟩
        obtain ⟨a', c', hve, _⟩ := how5.row
        subst hve
        obtain ⟨a5, c5, hv5, _⟩ := hof5.bb.row
        subst hv5
        have HR5 := Lib.hid hrd5
        have hn6 : n' ≤ H2 := by omega
        have d6 : decide ((n' : Int) < 0) = false := dF (by omega)
        have d7 : decide ((H2 : Int) < (n' : Int)) = false := dF (by omega)
        have FIN5 := Lib.hid (FIN.out w5 _ n' B _ hrd5 how5 hn5 hbut5 hgg5)
        clear hrd5 how5 hof5 hbut5 hgg5 hn5
        go_wp2_with fail
        refine (left_any P mn H2 a' n' c' w5 HR5.out).mono ?_; rintro e w' ⟨rfl, rfl⟩
        go_wp2_with fail
        refine (left_any P mn H2 a' n' c' w5 HR5.out).mono ?_; rintro e w' ⟨rfl, rfl⟩
        go_wp2
        go_roundw
        case rel => exact FIN5.out
        case measure => simp [intOf]; omega
    · have hkn : j = la := by omega
      subst hkn
      go_wp2_with fail
      refine (first7 _).mono ?_; rintro e w4 ⟨rfl, hb⟩
      have HB4 := Lib.hid (HBL.out.trans (hb.mono HBL.out.size)); clear hb
      go_wp2
      go_ret
      exact ⟨rfl, HB4.out⟩
end Go.Proofs.Ytngncdmmlkcekaa
