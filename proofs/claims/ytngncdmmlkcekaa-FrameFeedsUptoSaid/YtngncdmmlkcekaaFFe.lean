/- FrameFeeds: the walk. -/
import Derived.Test.YtngncdmmlkcekaaFFa
namespace Go.Proofs.Ytngncdmmlkcekaa
open Go.RowKit

set_option maxRecDepth 100000 in
set_option maxHeartbeats 6400000 in
theorem walkFFeeds (most : Int) (pa : Option Addr) (la ca : Nat) (T : List (List (List UInt8))) (w : World) (hT : RowB3 w pa la T) (lA : la ≤ 9223372036854775807) (sT : sum3 T ≤ 2000000) (lT : ∀ k, k < la → (T.getD k []).length ≤ 9223372036854775807) :
    Calls Try.prog 11 #[.int .i64 most, .slice pa la ca] w fun e w' => e = .returned (.bool true) ∧ Below w.heap.size w w' := by
  have HTT := Lib.hid hT
  have HTL := Lib.hid hT.1
  have HLT := Lib.hid lT
  have HS3 := Lib.hid (fun k => Nat.le_trans (sum3_le T k) sT)
  clear hT sT lT
  go_enter Try.func11, Try.ntmps11
  go_wp2_with fail
  refine (first7 _).mono ?_; rintro e w1 ⟨rfl, hb⟩
  have HB1 := Lib.hid hb; clear hb
  by_cases hbig : 100 < la
  · have d1 := dT (p := (100 : Int) < (la : Int)) (by omega)
    go_wp2_with fail
    refine (first7 _).mono ?_; rintro e w2 ⟨rfl, hb⟩
    have HB2 := Lib.hid (HB1.out.trans (hb.mono HB1.out.size)); clear hb
    go_wp2
    go_ret
    exact ⟨rfl, HB2.out⟩
  have d1 := dF (p := (100 : Int) < (la : Int)) (by omega)
  go_wp2_with fail
  go_loopw [5, 6] (fun nv i wr => ∃ (j S : Nat), j ≤ la ∧ i = .int .i64 j ∧ nv = .int .i64 S ∧ Hid (S = sum3 (T.take j)) ∧ S ≤ 140000 ∧ Hid (∀ q, q < j → (T.getD q []).length ≤ 100) ∧ w1 = wr) (fun _ i _ => la - (intOf i).toNat)
  case atStart => exact ⟨0, 0, Nat.zero_le _, rfl, rfl, rfl, Nat.zero_le _, (fun q h => absurd h (Nat.not_lt_zero q)), rfl⟩
  case round =>
    obtain ⟨j, S, hj, rfl, rfl, hS, hS4, hL, rfl⟩ := hrel
    by_cases hlt : j < la
    · obtain ⟨b1, o1, ai, ci, rfl, hbl1, c0, r0⟩ := HTT.out.at j hlt
      have c1 := (HB1.out.cell (p := ⟨b1, o1 + j, none⟩) hbl1).trans c0
      have HT1 := Lib.hid (sum3_take (T := T) (k := j) (by rw [HTL.out]; exact hlt))
      have HT2 := HS3.out (j + 1)
      rw [HT1.out, ← hS.out] at HT2
      have HR := Lib.hid (r0.below HB1.out)
      have HLj := HLT.out j hlt
      obtain ⟨M, hM⟩ : ∃ x, T.getD j [] = x := ⟨_, rfl⟩
      rw [hM] at c1 HR HLj HT1 HT2
      have HMM := Lib.hid hM
      have HML := Lib.hid (show M.length = M.length from rfl)
      obtain ⟨nl, hnl⟩ : ∃ x, M.length = x := ⟨_, rfl⟩
      rw [hnl] at c1 HR HLj
      have HNL := Lib.hid hnl
      have HSM := Lib.hid (sum_le M)
      have HSZ := Lib.hid (fun k (hk : k < nl) => show (M.getD k []).length ≤ 9223372036854775807 by
        have h1 := sum_take (M := M) (k := k) (by rw [HNL.out]; exact hk)
        have h2 := HSM.out (k + 1)
        omega)
      clear hM hnl c0 r0 HML
      go_wp2_with fail
      refine (few7_any _ _ _ M _ HR.out HLj HSZ.out).mono ?_; rintro e w' ⟨rfl | ⟨rfl, hl, hs⟩, rfl⟩
      · go_wp2_with fail
        refine (first7 _).mono ?_; rintro e w2 ⟨rfl, hb⟩
        have HB2 := Lib.hid (HB1.out.trans (hb.mono HB1.out.size)); clear hb
        go_wp2
        go_ret
        exact ⟨rfl, HB2.out⟩
      · clear hs
        go_wp2_with fail
        go_loopw [5, 7] (fun nv k wr => ∃ (q S2 : Nat), q ≤ nl ∧ k = .int .i64 q ∧ nv = .int .i64 S2 ∧ Hid (S2 = S + sumL (M.take q)) ∧ w1 = wr) (fun _ k _ => nl - (intOf k).toNat)
        case atStart => exact ⟨0, S, Nat.zero_le _, rfl, rfl, rfl, rfl⟩
        case round =>
          obtain ⟨q, S2, hq, rfl, rfl, hS2, rfl⟩ := hrel
          have hSq := HSM.out q
          have hS2b : S2 ≤ 2140000 := by have := hS2.out; omega
          by_cases hlt2 : q < nl
          · obtain ⟨b2, o2, aj, cj, rfl, hbl2, c2, r2, n2⟩ := HR.out.at q hlt2
            have HST := Lib.hid (sum_take (M := M) (k := q) (by rw [HNL.out]; exact hlt2))
            have hSq2 := HSM.out (q + 1)
            rw [HST.out] at hSq2
            obtain ⟨m, hm⟩ : ∃ x, M.getD q [] = x := ⟨_, rfl⟩
            rw [hm] at c2 HST hSq2
            obtain ⟨s, hs⟩ : ∃ x, m.length = x := ⟨_, rfl⟩
            rw [hs] at c2 HST hSq2
            have HE := Lib.hid (show S2 + s = S + sumL (M.take (q + 1)) by rw [HST.out, hS2.out]; omega)
            clear hm hs r2 n2 hSq2 hSq
            have hs9 : s ≤ 2000000 := by have := HE.out; have := HSM.out (q + 1); omega
            go_wp2
            go_roundw
            case rel => exact ⟨q + 1, S2 + s, by omega, by go_num, by go_num, HE.out, trivial⟩
            case measure => simp [intOf]; omega
          · have hqn : nl = q := by omega
            subst hqn
            have HE := Lib.hid (show S2 = sum3 (T.take (j + 1)) by
              have h1 := hS2.out
              rw [← HNL.out, List.take_length] at h1
              rw [h1, HT1.out, ← hS.out])
            by_cases hover : 140000 < S2
            · have d5 := dT (p := (140000 : Int) < (S2 : Int)) (by omega)
              go_wp2_with fail
              refine (first7 _).mono ?_; rintro e w2 ⟨rfl, hb⟩
              have HB2 := Lib.hid (HB1.out.trans (hb.mono HB1.out.size)); clear hb
              go_wp2
              go_ret
              exact ⟨rfl, HB2.out⟩
            · have d5 := dF (p := (140000 : Int) < (S2 : Int)) (by omega)
              have HL2 := Lib.hid (show ∀ q, q < j + 1 → (T.getD q []).length ≤ 100 from fun q hq => by
                by_cases h : q < j
                · exact hL.out q h
                · have : q = j := by omega
                  subst this
                  rw [HMM.out, HNL.out]; exact hl)
              go_wp2
              go_roundw
              case rel => exact ⟨j + 1, S2, by omega, by go_num, rfl, HE.out, by omega, HL2.out, trivial⟩
              case measure => simp [intOf]; omega
    · have hjn : la = j := by omega
      subst hjn
      have HSA := Lib.hid (show sum3 T ≤ 140000 by
        have h1 := hS.out
        rw [← HTL.out, List.take_length] at h1
        omega)
      have HS4 := Lib.hid (fun k => Nat.le_trans (sum3_le T k) HSA.out)
      clear hS hS4 HS3 HLT
      go_wp2_with fail
      refine (newReader_any _ _).mono ?_; rintro e w3 ⟨P, rfl, hPge, hrd, hb⟩
      have HB3 := Lib.hid (HB1.out.trans (hb.mono HB1.out.size))
      have hPlt := hrd.lt
      have HRD := Lib.hid hrd
      clear hrd hb
      go_wp2_with fail
      refine (rnewFrame_any _ _).mono ?_; rintro e w4 ⟨Q, rfl, hQge, hrf, hb⟩
      have HB4 := Lib.hid (HB3.out.trans (hb.mono HB3.out.size))
      have hPQ : P < Q := by omega
      have hwP : w.heap.size ≤ P := Nat.le_trans HB1.out.size hPge
      have HFS := Lib.hid (show FS w4 most P Q 0 (.slice none 0 0) (.slice none 0 0) false from ⟨HRD.out.kept (hb.block P hPlt), hrf, Or.inr ⟨rfl, 0, [], OwnM.nil _, OwnM.nil _, Nat.le_refl _⟩, (fun g h => by cases h), (fun g h => by cases h), (fun g h => by cases h)⟩)
      clear hrf hb HRD HB3
      go_wp2_with fail
      go_loopw [10] (fun i wr => ∃ (j H : Nat) (lv lv2 : Value) (ov : Bool), j ≤ la ∧ i = .int .i64 j ∧ Hid (H = sum3 (T.take j)) ∧ FS wr most P Q H lv lv2 ov ∧ Below w.heap.size w wr) (fun i _ => la - (intOf i).toNat)
      case atStart => exact ⟨0, 0, _, _, false, Nat.zero_le _, rfl, rfl, HFS.out, HB4.out⟩
      case round =>
        obtain ⟨j, H, lv, lv2, ov, hj, rfl, hH, hfs, hbel⟩ := hrel
        have HF := Lib.hid hfs
        have HBL := Lib.hid hbel
        have hsz := hbel.size
        clear hfs hbel HFS HB4
        by_cases hlt : j < la
        · obtain ⟨b1, o1, ai, ci, rfl, hbl1, c0, r0⟩ := HTT.out.at j hlt
          have HCW := Lib.hid (fun wx (hb : Below w.heap.size w wx) => (hb.cell (p := ⟨b1, o1 + j, none⟩) hbl1).trans c0)
          have HT1 := Lib.hid (sum3_take (T := T) (k := j) (by rw [HTL.out]; exact hlt))
          have HT2 := HS4.out (j + 1)
          rw [HT1.out, ← hH.out] at HT2
          have HR := Lib.hid r0
          have hLj := hL.out j hlt
          obtain ⟨M, hM⟩ : ∃ x, T.getD j [] = x := ⟨_, rfl⟩
          rw [hM] at HCW HR hLj HT1 HT2
          obtain ⟨nl, hnl⟩ : ∃ x, M.length = x := ⟨_, rfl⟩
          rw [hnl] at HCW HR hLj
          obtain ⟨s, hs⟩ : ∃ x, sumL M = x := ⟨_, rfl⟩
          rw [hs] at HT1 HT2
          have HSE := Lib.hid hs
          have HE := Lib.hid (show H + s = sum3 (T.take (j + 1)) by rw [HT1.out, ← hH.out])
          have hlvw : ∀ g, lv.ownBlock = some g → w.heap.size ≤ g := fun g hg => by have := (HF.out.2.2.2.1 g hg).1; omega
          have hlvw2 : ∀ g, lv2.ownBlock = some g → w.heap.size ≤ g := fun g hg => by have := (HF.out.2.2.2.2.1 g hg).1; omega
          have HST := Lib.hid (stays_old (P := P) HR.out HBL.out hwP hlvw)
          have HST2 := Lib.hid (fun wx (hb : Below w.heap.size w wx) => stays_old (P := Q) HR.out hb (by omega) hlvw2)
          have c1 := HCW.out wr HBL.out
          clear hM hnl hs c0 r0 HT1
          by_cases hov : most < (H : Int) + s
          · have HFE := Lib.hid (feed_over P most H lv ai nl ci M wr HF.out.1 HST.out (by omega) (by rw [HSE.out]; omega) (by omega) (by rw [HSE.out]; exact hov))
            rw [HSE.out] at HFE
            go_wp2_with fail
            refine HFE.out.mono ?_; rintro e w5 ⟨rfl, hrd5, hbut5⟩
            have HR5 := Lib.hid hrd5
            have HBL5 := Lib.hid (HBL.out.trans (Below.ofBut hbut5 HBL.out.size hwP hlvw))
            have HSC := Lib.hid (HF.out.second hPQ hbut5)
            have HFE2 := Lib.hid (rfeed_over Q most H lv2 ov ai nl ci M w5 HSC.out.1 (HST2.out w5 HBL5.out) (by omega) (by rw [HSE.out]; omega) (by omega) (Or.inr (by rw [HSE.out]; exact hov)))
            rw [HSE.out] at HFE2
            have c5 := HCW.out w5 HBL5.out
            clear hrd5 hbut5 c1 HFE
            go_wp2_with fail
            refine HFE2.out.mono ?_; rintro e w6 ⟨rfl, hrd6, hbut6⟩
            have HF6 := Lib.hid (FS.over HF.out hPQ HR5.out hrd6 hbut6 hov)
            have HBL6 := Lib.hid (HBL5.out.trans (Below.ofBut hbut6 HBL5.out.size (by omega) hlvw2))
            have hnilr : RowBB w6 none 0 [] := ⟨[], ⟨rfl, Or.inl rfl⟩, rfl, fun j u h => by simp at h⟩
            have HNR := Lib.hid hnilr
            clear hrd6 hbut6 c5 HFE2 HF HR5 HBL5 HSC hnilr HBL
            go_wp2_with fail
            refine (lists_same none none 0 0 0 [] w6 HNR.out HNR.out (by omega)).mono ?_; rintro e w7 ⟨rfl, hb⟩
            have HF7 := Lib.hid (HF6.out.below hb)
            have HBL7 := Lib.hid (HBL6.out.trans (hb.mono HBL6.out.size))
            clear hb HF6 HBL6
            go_wp2_with fail
            refine (left_any P most _ none 0 0 w7 HF7.out.1).mono ?_; rintro e w' ⟨rfl, rfl⟩
            go_wp2_with fail
            refine (rleft_any Q most _ none 0 0 true w7 HF7.out.2.1).mono ?_; rintro e w' ⟨rfl, rfl⟩
            go_wp2_with fail
            go_loopw [15] (fun k wr => k = .int .i64 0 ∧ w7 = wr) (fun _ _ => 0)
            case atStart => exact ⟨rfl, rfl⟩
            case round =>
              obtain ⟨rfl, rfl⟩ := hrel
              go_wp2
              go_roundw
              case rel => exact ⟨j + 1, H + s, _, _, true, by omega, by go_num, HE.out, HF7.out, HBL7.out⟩
              case measure => simp [intOf]; omega
          · have hst : ov = false ∧ ∃ ln lb, OwnM wr lv ln lb ∧ OwnM wr lv2 ln lb ∧ ln ≤ H := by
              rcases HF.out.2.2.1 with ⟨_, _, _, h⟩ | h
              · omega
              · exact h
            obtain ⟨rfl, ln, lb, ow1, ow2, hln⟩ := hst
            have HFE := Lib.hid (feed_ok P most H lv ln lb ai nl ci M wr HF.out.1 ow1 (fun e => by have := (HF.out.2.2.2.1 P e).1; omega) HST.out hln (by omega) (by rw [HSE.out]; omega) (by rw [HSE.out]; omega))
            have HLL := Lib.hid (show (lb ++ M.flatten).length = ln + s by rw [List.length_append, ow1.1, sumL_flat, HSE.out])
            have HO2 := Lib.hid ow2
            rw [HSE.out] at HFE
            obtain ⟨L, hL⟩ : ∃ x, lb ++ M.flatten = x := ⟨_, rfl⟩
            rw [hL] at HFE HLL
            have HLE := Lib.hid hL
            have htc := TK_count L
            rw [HLL.out] at htc
            obtain ⟨tm, htm⟩ : ∃ x, (TK L).1 = x := ⟨_, rfl⟩
            rw [htm] at HFE htc
            have HTM := Lib.hid htm
            obtain ⟨rest, hrest⟩ : ∃ x, L.drop (TK L).2 = x := ⟨_, rfl⟩
            rw [hrest] at HFE
            have HRE := Lib.hid hrest
            have hrl : rest.length ≤ ln + s := by rw [← hrest, List.length_drop, HLL.out]; omega
            clear ow1 ow2 hL htm hrest
            go_wp2_with fail
            refine HFE.out.mono ?_; rintro e w5 ⟨rv, v', n', B, rfl, hrd5, how5, hof5, hbut5, hB, hgB, hvP5, hgo5⟩
            have HR5 := Lib.hid hrd5
            have HO5 := Lib.hid how5
            have HF5 := Lib.hid hof5
            have HBT5 := Lib.hid hbut5
            have HGB := Lib.hid hgB
            have HGO5 := Lib.hid hgo5
            have HBL5 := Lib.hid (HBL.out.trans (Below.ofBut hbut5 HBL.out.size hwP hlvw))
            have HSC := Lib.hid (HF.out.second hPQ hbut5)
            have HFE2 := Lib.hid (rfeed_ok Q most H lv2 ln lb ai nl ci M w5 HSC.out.1 (HSC.out.2.1 ln lb HO2.out) (fun e => by have := (HF.out.2.2.2.2.1 Q e).1; omega) (HST2.out w5 HBL5.out) hln (by omega) (by rw [HSE.out]; omega) (by rw [HSE.out]; omega))
            rw [HSE.out, HLE.out, HTM.out, HRE.out] at HFE2
            have c5 := HCW.out w5 HBL5.out
            have hnn' : n' = rest.length := how5.1.symm
            clear hrd5 how5 hof5 hbut5 hgB hvP5 hgo5 c1 HFE HST HST2
            go_wp2_with fail
            refine HFE2.out.mono ?_; rintro e w6 ⟨rv2, v2', n2', B2, rfl, hrf6, how6, hof6, hbut6, hB2, hgo6⟩
            obtain rfl : n2' = n' := by rw [hnn']; exact how6.1.symm
            have hQw : Q < wr.heap.size := HF.out.2.1.lt
            have hlv2B : ∀ g, lv2.ownBlock = some g → g < B := fun g hg => by have := (HF.out.2.2.2.2.1 g hg).2; omega
            have HF6 := Lib.hid (FS.ok HF.out hPQ HR5.out HO5.out HBT5.out HGO5.out hrf6 how6 hbut6 hgo6 (by omega))
            have HBL6 := Lib.hid (HBL5.out.trans (Below.ofBut hbut6 HBL5.out.size (by omega) hlvw2))
            have HG6 := Lib.hid (HF5.out.but hbut6 (by omega) hlv2B)
            have HG62 := Lib.hid hof6
            obtain ⟨a5, c5', fA, fL, fC, hv5, hpm, hfl⟩ := HF5.out.mut2
            have hs56 := hbut6.size
            have HPM6 := Lib.hid (show tm.length = 0 ∨ ∃ b off, a5 = some ⟨b, off, none⟩ ∧ PMut2 w6 B w5.heap.size b off tm.length fA fL fC by
              rcases hpm with h | ⟨b, off, h1, h2⟩
              · exact Or.inl h
              · exact Or.inr ⟨b, off, h1, h2.same (fun k h3 h4 => hbut6.block k h4 (by omega) (fun e => by have := hlv2B k e.symm; omega))⟩)
            have HFL := Lib.hid hfl
            have HGO6 := Lib.hid hgo6
            obtain ⟨a', c', hve', _⟩ := HO5.out.row
            obtain ⟨a2', c2', hve2', _⟩ := how6.row
            have hsw5 := HBT5.out.size
            clear hrf6 how6 hof6 hbut6 hgo6 hpm hfl c5 HFE2 HF HR5 HBT5 HBL5 HSC HBL HF5 HO5 HGO5 HO2
            obtain ⟨N, hN⟩ : ∃ x, tm.length = x := ⟨_, rfl⟩
            obtain ⟨ag, cg, hvg, hrg, _⟩ := HG6.out.bb.row
            obtain ⟨ah, ch, hvh, hrh, _⟩ := HG62.out.bb.row
            rw [hv5] at hvg
            injection hvg with e1 e2 e3
            subst e1 e3
            subst hv5
            subst hvh
            rw [hN] at HPM6 hrg hrh htc
            have HL1 := Lib.hid hrg
            have HL2 := Lib.hid hrh
            have HNN := Lib.hid hN
            rw [hN]
            subst hve'
            subst hve2'
            have e9 : ((n2' : Int) != (n2' : Int)) = false := by simp
            obtain ⟨U, hU⟩ : ∃ x, w5.heap.size = x := ⟨_, rfl⟩
            rw [hU] at HPM6 HGO6 hs56 hsw5
            have hQB : Q < B := by omega
            have hwB : w.heap.size ≤ B := by omega
            clear hrg hrh e2 hN hnn' hrl hB hB2 hQw hlv2B hlvw hlvw2 HG6 HG62
            go_wp2_with fail
            refine (lists_same _ _ _ _ _ tm w6 HL1.out HL2.out (by omega)).mono ?_; rintro e w7 ⟨rfl, hb⟩
            have HF7 := Lib.hid (HF6.out.below hb)
            have HBL7 := Lib.hid (HBL6.out.trans (hb.mono HBL6.out.size))
            have HPM7 := Lib.hid (show N = 0 ∨ ∃ b off, a5 = some ⟨b, off, none⟩ ∧ PMut2 w7 B U b off N fA fL fC by
              rcases HPM6.out with h | ⟨b, off, h1, h2⟩
              · exact Or.inl h
              · exact Or.inr ⟨b, off, h1, h2.same (fun k h3 h4 => hb.block k (by omega))⟩)
            have hs7 : w.heap.size ≤ w7.heap.size := HBL7.out.size
            clear hb HF6 HBL6 HPM6 HL1 HL2 hs56 hsw5
            go_wp2_with fail
            refine (left_any P most _ a' n2' c' w7 HF7.out.1).mono ?_; rintro e w' ⟨rfl, rfl⟩
            go_wp2_with fail
            refine (rleft_any Q most _ a2' n2' c2' false w7 HF7.out.2.1).mono ?_; rintro e w' ⟨rfl, rfl⟩
            go_wp2_with fail
            go_loopw [15] (fun i wr => ∃ j : Nat, j ≤ N ∧ i = .int .i64 j ∧ (N = 0 ∨ ∃ b off, a5 = some ⟨b, off, none⟩ ∧ PMut2 wr B U b off N fA fL fC) ∧ Mid w7 wr B U) (fun i _ => N - (intOf i).toNat)
            case atStart => exact ⟨0, Nat.zero_le _, rfl, HPM7.out, Mid.refl _ _ _⟩
            case round =>
              obtain ⟨k, hk, rfl, hpm, hmid⟩ := hrel
              have HP := Lib.hid hpm
              have HM := Lib.hid hmid
              clear hpm hmid HPM7
              by_cases hlt4 : k < N
              · rcases HP.out with h0 | ⟨b, off, rfl, hpm⟩
                · omega
                have hcell := (hpm.2 k hlt4).1
                have hlj := HFL.out k
                have HPP := Lib.hid hpm
                obtain ⟨lj, hlje⟩ : ∃ x, fL k = x := ⟨_, rfl⟩
                obtain ⟨aj, haje⟩ : ∃ x, fA k = x := ⟨_, rfl⟩
                obtain ⟨cj, hcje⟩ : ∃ x, fC k = x := ⟨_, rfl⟩
                have HLJ := Lib.hid hlje
                have HAJ := Lib.hid haje
                have HCJ := Lib.hid hcje
                rw [hlje, haje, hcje] at hcell
                rw [hlje] at hlj
                clear hpm hlje haje hcje HP
                go_wp2_with fail
                obtain ⟨wo, rfl⟩ : ∃ wo : World, wo = wr := ⟨_, rfl⟩
                go_loopw [16] (fun i wr => ∃ q : Nat, q ≤ lj ∧ i = .int .i64 q ∧ PMut2 wr B U b off N fA fL fC ∧ Mid w7 wr B U) (fun i _ => lj - (intOf i).toNat)
                case atStart => exact ⟨0, Nat.zero_le _, rfl, HPP.out, HM.out⟩
                case round =>
                  obtain ⟨q, hq, rfl, hpm, hmid⟩ := hrel
                  have HP := Lib.hid hpm
                  have HM9 := Lib.hid hmid
                  clear HPP HM
                  have hcell2 := (hpm.2 k hlt4).1
                  have hin := (hpm.2 k hlt4).2
                  rw [HLJ.out, HAJ.out, HCJ.out] at hcell2
                  rw [HLJ.out, HAJ.out] at hin
                  clear hpm hmid
                  by_cases hlt5 : q < lj
                  · obtain ⟨g, o, hae, hBg, z, hz, z0, z1, hf⟩ := hin q hlt5
                    rw [hae] at hcell2
                    clear hin hae
                    have HS := Lib.hid (fun x (h0 : 0 ≤ x) (h1 : x < 256) => HP.out.set hz (z := x) h0 h1)
                    have HBG := Lib.hid hBg
                    clear hBg
                    go_wp2
                    go_roundw
                    case rel => exact ⟨q + 1, by omega, by go_num, HS.out _ (by omega) (by omega), HM9.out.set HBG.out _⟩
                    case measure => simp [intOf]; omega
                  · have hkl : q = lj := by omega
                    subst hkl
                    clear hin
                    go_wp2
                    go_roundw
                    case rel => exact ⟨k + 1, by omega, by go_num, Or.inr ⟨b, off, rfl, HP.out⟩, HM9.out⟩
                    case measure => simp [intOf]; omega
              · have hkN : N = k := by omega
                subst hkN
                go_wp2
                go_roundw
                case rel => exact ⟨j + 1, H + s, _, _, false, by omega, by go_num, HE.out, HF7.out.mid HM.out (by omega) hQB HGB.out HGO6.out, HM.out.below HBL7.out hwB hs7⟩
                case measure => simp [intOf]; omega
        · have hjn2 : la = j := by omega
          subst hjn2
          go_wp2_with fail
          refine (first7 _).mono ?_; rintro e w5 ⟨rfl, hb⟩
          have HB5 := Lib.hid (HBL.out.trans (hb.mono HBL.out.size)); clear hb
          go_wp2
          go_ret
          exact ⟨rfl, HB5.out⟩
end Go.Proofs.Ytngncdmmlkcekaa
