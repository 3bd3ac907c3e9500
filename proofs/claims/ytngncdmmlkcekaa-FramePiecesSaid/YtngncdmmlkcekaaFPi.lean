/- FramePieces: the walk. -/
import Derived.Test.YtngncdmmlkcekaaFPd
import Derived.Test.YtngncdmmlkcekaaFRe
import Derived.Deep.DeepCutAuto
namespace Go.Proofs.Ytngncdmmlkcekaa
open Go.RowKit

set_option maxRecDepth 100000 in
set_option maxHeartbeats 6400000 in
theorem walkFPieces (pa : Option Addr) (la ca : Nat) (A : List (List UInt8)) (pb : Option Addr) (nc cc : Nat) (Z : List Int) (w : World) (hA : RowBB w pa la A) (hZ : Row w pb nc Z) (lA : la ≤ 9223372036854775807) (lZ : nc ≤ 9223372036854775807) (sA : ∀ k, k < la → (A.getD k []).length ≤ 9223372036854775807) :
    Calls Try.prog 12 #[.slice pa la ca, .slice pb nc cc] w fun e w' => e = .returned (.bool true) ∧ Below w.heap.size w w' := by
  have HA := Lib.hid hA
  have HZ := Lib.hid hZ
  have SA := Lib.hid sA
  clear hA hZ sA
  go_enter Try.func12, Try.ntmps12
  go_wp2_with fail
  refine (first7 _).mono ?_; rintro e w1 ⟨rfl, hb⟩
  have HB1 := Lib.hid hb; clear hb
  go_wp2_with fail
  refine (few7_any _ _ _ A _ (HA.out.below HB1.out) lA SA.out).mono ?_; rintro e w' ⟨rfl | ⟨rfl, hl, hs⟩, rfl⟩
  · go_wp2_with fail
    refine (first7 _).mono ?_; rintro e w2 ⟨rfl, hb⟩
    have HB2 := Lib.hid (HB1.out.trans (hb.mono HB1.out.size)); clear hb
    go_wp2
    go_ret
    exact ⟨rfl, HB2.out⟩
  by_cases hbig : 20 < nc
  · have d1 := dT (p := (20 : Int) < (nc : Int)) (by omega)
    go_wp2_with fail
    refine (first7 _).mono ?_; rintro e w2 ⟨rfl, hb⟩
    have HB2 := Lib.hid (HB1.out.trans (hb.mono HB1.out.size)); clear hb
    go_wp2
    go_ret
    exact ⟨rfl, HB2.out⟩
  have d1 := dF (p := (20 : Int) < (nc : Int)) (by omega)
  have CA := Lib.hid hs
  clear hs
  go_wp2_with fail
  refine (nput7 _ _ _ A _ (HA.out.below HB1.out) (by omega) (by have := CA.out; omega) SA.out).mono ?_; rintro e w2 ⟨v2, rfl, hox, hb⟩
  have HB2 := Lib.hid (HB1.out.trans (hb.mono HB1.out.size))
  have hra := fr_rng A
  have hoa := fun h => fr_ok (A := A) h
  have hob : frE A = 3 → frS A = [] := fun h => by
    unfold frE at h
    cases hq : allFit A
    · rw [frS, hq]; rfl
    · rw [hq] at h; cases h
  obtain ⟨ea, hea⟩ : ∃ x, frE A = x := ⟨_, rfl⟩
  obtain ⟨Bl, hBl⟩ : ∃ x, frS A = x := ⟨_, rfl⟩
  obtain ⟨nb, hnb⟩ : ∃ x, Bl.length = x := ⟨_, rfl⟩
  rw [hea] at hra hoa hob ⊢
  rw [hBl] at hoa hob
  rw [hBl, hnb] at hox
  have HX := Lib.hid hox
  have HCX := Lib.hid (fun (a : Option Addr) (c : Nat) (h : v2 = .slice a nb c) => own_cap' (a := a) (c := c) (h ▸ hox))
  obtain ⟨av, cv, hve⟩ := own_shape hox
  have hcx := HCX.out av cv hve
  have HRB := Lib.hid (rowB_own (hve ▸ hox))
  have HLB := Lib.hid (fun g (h : v2.ownBlock = some g) => hox.lt g h)
  rw [hve] at HLB
  subst hve
  have HNB := Lib.hid hnb
  have HHB := Lib.hid hb
  clear hea hBl hnb hox hb HCX
  rcases hra with rfl | rfl
  · by_cases hb2 : 20000 < nb
    · have d2 := dT (p := (20000 : Int) < (nb : Int)) (by omega)
      have hcx2 := hcx.2
      clear hoa hob
      go_wp2_with fail
      refine (first7 _).mono ?_; rintro e w3 ⟨rfl, hb⟩
      have HB3 := Lib.hid (HB2.out.trans (hb.mono HB2.out.size)); clear hb
      go_wp2
      go_ret
      exact ⟨rfl, HB3.out⟩
    have d2 := dF (p := (20000 : Int) < (nb : Int)) (by omega)
    obtain ⟨f1, f2⟩ := hoa rfl
    have HF := Lib.hid (show TK Bl = (A, nb) by rw [f2, TK_all f1, ← f2, HNB.out])
    have hcv := hcx.1
    have hcv2 := hcx.2
    unfold maxLen at hcv
    clear hoa hob f1 f2 hcx
    go_wp2_with fail
    refine (newReader_any _ _).mono ?_; rintro e w3 ⟨P, rfl, hPge, hrd, hb⟩
    have HB3 := Lib.hid (HB2.out.trans (hb.mono HB2.out.size))
    have HRD := Lib.hid hrd
    have HRB3 := Lib.hid (own_below' HX.out hb)
    have HAV := Lib.hid (show av = none ∧ nb = 0 ∧ cv = 0 ∨ ∃ β, av = some ⟨β, 0, none⟩ ∧ β < P from by
      rcases HX.out.2 with ⟨e, e0⟩ | ⟨g, cap, cur, e, _⟩
      · injection e with e1 e2 e3; exact Or.inl ⟨e1, e2, e3⟩
      · injection e with e1 e2 e3
        refine Or.inr ⟨g, e1, ?_⟩
        have := (HLB.out g (by rw [e1]; rfl)).2
        omega)
    have HBP := Lib.hid (show ∀ b off, av = some ⟨b, off, none⟩ → b < P from fun b off h => by
      have := (HLB.out b (by rw [h]; rfl)).2
      omega)
    have hwP : w.heap.size ≤ P := Nat.le_trans HB2.out.size hPge
    clear hrd hb
    go_wp2_with fail
    go_loopw [8, 9, 10] (fun gv at' i wr => ∃ (j p : Nat) (lv : Value) (ln : Nat), j ≤ nc + 1 ∧ i = .int .i64 j ∧ at' = .int .i64 p ∧ p ≤ nb ∧ RdrAt wr P nb p lv ∧ OwnM wr lv ln ((Bl.take p).drop (TK (Bl.take p)).2) ∧ GotS wr w.heap.size gv (TK (Bl.take p)).1 P lv.ownBlock ∧ wr.ownsRow w1.heap.size 5 1 (.slice av nb cv) nb (bc Bl) ∧ Below w.heap.size w wr ∧ Hid (∀ g, lv.ownBlock = some g → P < g) ∧ Hid (j = nc + 1 → p = nb)) (fun _ _ i _ => nc + 1 - (intOf i).toNat)
    case atStart => exact ⟨0, 0, .slice none 0 0, 0, Nat.zero_le _, rfl, rfl, Nat.zero_le _, HRD.out, OwnM.nil _, GotS.nil _ _ _ _, HRB3.out, HB3.out, (fun g h => by cases h), (fun h => by omega)⟩
    case round =>
      obtain ⟨j, p, lv, ln, hj, rfl, rfl, hp, hrd, how, hgs, hrb, hbel, hgP, hend⟩ := hrel
      have HR := Lib.hid hrd
      have HO := Lib.hid how
      have HG := Lib.hid hgs
      have HRB4 := Lib.hid hrb
      have HBL := Lib.hid hbel
      have hPw : P < wr.heap.size := hrd.lt
      have HGW := Lib.hid (show ∀ g, lv.ownBlock = some g → g < wr.heap.size from fun g hg => by
        rcases how.2 with ⟨e, _⟩ | ⟨g', _, _, e, e2, _⟩
        · rw [e] at hg; cases hg
        · rw [e] at hg; simp [Value.ownBlock] at hg; omega)
      have HVP := Lib.hid (show lv.ownBlock ≠ some P from fun e => by have := hgP.out P e; omega)
      clear hrd how hgs hrb hbel HRD HRB3 HB3
      by_cases hlt : j ≤ nc
      · have d3 := dT (p := (j : Int) ≤ (nc : Int)) (by omega)
        go_upto_if 73 with fail
        go_cut [11] (fun k wx => ∃ K : Nat, k = .int .i64 K ∧ p ≤ K ∧ K ≤ nb ∧ Hid (j = nc → K = nb) ∧ wr = wx)
        case first =>
          by_cases hjn : j < nc
          · rcases HZ.out.2 with h0 | ⟨b, off, rfl, hbl, hc⟩
            · omega
            have hcell := (HBL.out.cell (p := ⟨b, off + j, none⟩) hbl).trans (hc j hjn)
            obtain ⟨z, hz⟩ : ∃ z, Z.getD j 0 = z := ⟨_, rfl⟩
            rw [hz] at hcell
            have t1 : (j : Int) < (nc : Int) := by omega
            clear hc hz
            by_cases hz0 : z < 0
            · go_wp2
              go_meet
              exact ⟨p, rfl, Nat.le_refl _, hp, fun h => by omega, rfl⟩
            · obtain ⟨zn, rfl⟩ := Int.eq_ofNat_of_zero_le (show 0 ≤ z by omega)
              by_cases hz1 : zn ≤ nb - p
              · obtain ⟨K, hK⟩ : ∃ K, p + zn = K := ⟨_, rfl⟩
                have hK2 : (p : Int) + (zn : Int) = (K : Int) := by omega
                have hz2 : (zn : Int) ≤ (nb : Int) - (p : Int) := by omega
                have t5 : decide ((nb : Int) - (p : Int) < (zn : Int)) = false := dF (by omega)
                have hK3 : K ≤ nb := by omega
                have hK4 : p ≤ K := by omega
                clear hz1 hz0 hK
                go_wp2
                go_meet
                exact ⟨K, rfl, hK4, hK3, fun h => by omega, rfl⟩
              · have hK2 : (p : Int) + ((nb : Int) - (p : Int)) = (nb : Int) := by omega
                have t5 : decide ((nb : Int) - (p : Int) < (zn : Int)) = true := dT (by omega)
                clear hz0
                go_wp2
                go_meet
                exact ⟨nb, rfl, hp, Nat.le_refl _, fun _ => rfl, rfl⟩
          · have t1 : decide ((j : Int) < (nc : Int)) = false := dF (by omega)
            go_wp2
            go_meet
            exact ⟨nb, rfl, hp, Nat.le_refl _, fun _ => rfl, rfl⟩
        case rest =>
          obtain ⟨K, rfl, hK1, hK2, hK3, rfl⟩ := hcut
          obtain ⟨pf1, pf2⟩ := piece_fact Bl hK1
          have HROW := Lib.hid (rowB_own HRB4.out).1
          have HBW := Lib.hid (show ∀ g, (Value.slice av nb cv).ownBlock = some g → g < P from fun g hg => by have := (HLB.out g hg).2; omega)
          have hcvm : cv ≤ maxLen := by unfold maxLen; omega
          have htc1 := TK_count (Bl.take p)
          have htc2 := TK_count (Bl.take K)
          rw [List.length_take] at htc1 htc2
          have hlnp : ln ≤ p := by
            rw [← HO.out.1, List.length_drop, List.length_take]; omega
          obtain ⟨pc, hpc⟩ : ∃ x, (Bl.drop p).take (K - p) = x := ⟨_, rfl⟩
          obtain ⟨lb, hlb⟩ : ∃ x, (Bl.take p).drop (TK (Bl.take p)).2 = x := ⟨_, rfl⟩
          rw [hlb] at HO
          rw [hpc, hlb] at pf1 pf2
          have PF1 := Lib.hid pf1
          have PF2 := Lib.hid pf2
          have hpl : pc.length = K - p := by rw [← hpc, List.length_take, List.length_drop, HNB.out]; omega
          have HPL := Lib.hid hpl
          have HPC := Lib.hid hpc
          have HFAR := Lib.hid (show ∀ β, β < P → β ≠ P ∧ some β ≠ lv.ownBlock from fun β h => ⟨by omega, fun e => by have := hgP.out β e.symm; omega⟩)
          have k1 : (p : Int) ≤ (K : Int) := by omega
          have k2 : (K : Int) ≤ (cv : Int) := by omega
          have k3 : (0 : Int) ≤ (p : Int) := by omega
          have hnb2 : nb ≤ 20000 := by omega
          clear pf1 pf2 hpl hpc hlb
          have hav : av = none ∧ nb = 0 ∧ cv = 0 ∨ ∃ β off, av = some ⟨β, off, none⟩ := by
            rcases HAV.out with h | ⟨β, e1, e2⟩
            · exact Or.inl h
            · exact Or.inr ⟨β, 0, e1⟩
          obtain ⟨ad, hsl, had1, had2, had3⟩ := slice_any av nb cv p K hav hK1 (by omega)
          have HPP := Lib.hid (RowB.sub HROW.out hK1 hK2 had3)
          rw [HPC.out] at HPP
          have hsh := slice_head av nb cv K hav (by omega)
          have HFP := Lib.hid (feed_piece P nb p K lv ln Bl lb pc _ _ _ _ _ w wr ad (cv - p) HR.out HO.out HG.out HRB4.out HBL.out hgP.out HBW.out hwP HPP.out had1 (fun b off h => by obtain ⟨o', h'⟩ := had2 b off h; exact HBP.out b o' h') hlnp hK1 hK2 (by omega))
          rw [← PF2.out] at HFP
          have HSH := Lib.hid hsh
          clear had1 had2 had3 hsh hav
          go_upto_region 19 with fail
          go_cut [8, 12, 13] (fun gv' s12 s13 wx => ∃ (v' : Value) (n' B0 : Nat), s13 = .int .i64 0 ∧ RdrAt wx P nb K v' ∧ OwnM wx v' n' ((Bl.take K).drop (TK (Bl.take K)).2) ∧ OwnF wx B0 s12 (TK (lb ++ pc)).1 ∧ GotS wx w.heap.size gv' (TK (Bl.take p)).1 P v'.ownBlock ∧ wx.ownsRow w1.heap.size 5 1 (.slice av nb cv) nb (bc Bl) ∧ Below w.heap.size w wx ∧ Hid (∀ g, v'.ownBlock = some g → P < g) ∧ Hid (∀ g, v'.ownBlock = some g → g < wx.heap.size) ∧ P < B0 ∧ Hid (∀ g, v'.ownBlock = some g → g < B0))
          case first =>
            go_wp2_with fail
            refine HFP.out.mono ?_; rintro e w5 ⟨rv, v', n', B0, rfl, hrd5, how5, hof5, hG5, hRB5, hBL5, hgP5, hgW5, hPB, hgB⟩
            go_wp2
            go_meet
            exact ⟨v', n', B0, rfl, hrd5, how5, hof5, hG5, hRB5, hBL5, hgP5, hgW5, hPB, hgB⟩
          case rest =>
            obtain ⟨v', n', B0, rfl, hrd5, how5, hof5, hG5, hRB5, hBL5, hgP5, hgW5, hPB, hgB⟩ := hcut
            clear HR HO HG HRB4 HBL HROW HPC HPL HFP HPP hsl
            obtain ⟨w5, hw5⟩ : ∃ x, wc = x := ⟨_, rfl⟩
            subst hw5
            have HR5 := Lib.hid hrd5
            have HO5 := Lib.hid how5
            have HG5 := Lib.hid hG5
            have HRB5 := Lib.hid hRB5
            have HBL5 := Lib.hid hBL5
            have HGP5 := hgP5
            have HGW5 := hgW5
            have hPw5 : P < wc.heap.size := hrd5.lt
            obtain ⟨xs, o1, o2, o3⟩ := HG5.out
            obtain ⟨ys, r1, r2⟩ := hof5
            have HY := Lib.hid (show ∀ u ∈ ys, u.oneCell' = true from fun u hu => by
              obtain ⟨j, hj, e⟩ := List.mem_iff_getElem.1 hu
              have h1 := r2 j u (by rw [List.getElem?_eq_getElem hj, e])
              obtain ⟨a, c, rfl⟩ := own_shape h1
              rfl)
            have hlen2 : (TK (lb ++ pc)).1.length ≤ 20000 := by
              have h1 := congrArg List.length PF1.out
              rw [List.length_append] at h1
              omega
            have hlen1 : (TK (Bl.take p)).1.length ≤ 20000 := by omega
            have HO1x := Lib.hid o1
            have HO2x := Lib.hid o2
            have HO3x := Lib.hid o3
            have HR1x := Lib.hid r1
            have HR2x := Lib.hid r2
            have HPB := Lib.hid hPB
            have HGB := hgB
            clear hrd5 how5 hG5 hRB5 hBL5 hgP5 hgW5 hgB hPB o1 o2 o3 r1 r2
            go_wp2_with (first | (at_builtin; refine wpList_append_got rfl _ _ rfl w.heap.size _ _ xs rfl HO1x.out B0 _ _ ys rfl HR1x.out HY.out (by omega) HBL5.out.size ?_))
            intro v2g w6 ho6 hg6 hv6
            have hG6 := GotS.more HO1x.out HO2x.out HO3x.out HR1x.out HR2x.out HPB.out HGB.out ho6 hg6 hv6 hPw5 HGW5.out
            rw [← PF1.out] at hG6
            have HG6 := Lib.hid hG6
            have HR6 := Lib.hid (HR5.out.kept (hg6.block P hPw5 (fun e => (HO2x.out P e.symm).1 rfl)))
            have HO6 := Lib.hid (HO5.out.kept hg6.size (fun g hg => hg6.block g (HGW5.out g hg) (fun e => (HO2x.out g e.symm).2 hg.symm)))
            have HRB6 := Lib.hid (HRB5.out.kept hg6 (rows_apart HO1x.out HRB5.out))
            have HBL6 := Lib.hid (HBL5.out.grown hg6 HBL5.out.size (fun q hq => (HO1x.out.lt q hq).1))
            have hPw6 : P < w6.heap.size := Nat.lt_of_lt_of_le hPw5 hg6.size
            have HGW6 := Lib.hid (show ∀ g, v'.ownBlock = some g → g < w6.heap.size from fun g hg => Nat.lt_of_lt_of_le (HGW5.out g hg) hg6.size)
            clear ho6 hg6 hv6 hG6 HR5 HO5 HG5 HRB5 HBL5 HO1x HO2x HO3x HR1x HR2x HY HPB HGB hlen1 hlen2
            have ht := take7 av K cv (Bl.take K) w6 (rowB_take (rowB_own HRB6.out).1 K hK2) (by omega) hcvm (by omega)
            have hlo := HO6.out.1
            rw [List.length_drop, List.length_take, HNB.out] at hlo
            have hle7 := TK_le (Bl.take K)
            rw [List.length_take, HNB.out] at hle7
            obtain ⟨te, hte⟩ : ∃ x, (TK (Bl.take K)).2 = x := ⟨_, rfl⟩
            rw [hte] at ht hlo hle7
            have HT := Lib.hid ht
            have hte3 : te ≤ K := by omega
            have hne : ((n' : Int) != (K : Int) - (te : Int)) = false := nF (by omega)
            have hne2 : ((n' : Int) == (K : Int) - (te : Int)) = true := eT (by omega)
            clear ht hlo hle7 hte
            have hsh := HSH.out
            go_wp2_with fail
            clear hsh
            refine HT.out.mono ?_; rintro e w7 ⟨v7, rfl, hof7, hb⟩
            have HG7 := Lib.hid (HG6.out.below hb)
            have HR7 := Lib.hid (HR6.out.kept (hb.block P hPw6))
            have HO7 := Lib.hid (HO6.out.kept hb.size (fun g hg => hb.block g (HGW6.out g hg)))
            have HRB7 := Lib.hid (own_below' HRB6.out hb)
            have HBL7 := Lib.hid (HBL6.out.trans (hb.mono HBL6.out.size))
            have hPw7 : P < w7.heap.size := Nat.lt_of_lt_of_le hPw6 hb.size
            have HGW7 := Lib.hid (show ∀ g, v'.ownBlock = some g → g < w7.heap.size from fun g hg => Nat.lt_of_lt_of_le (HGW6.out g hg) hb.size)
            obtain ⟨a7, c7, hv7, hr7, _⟩ := hof7.bb.row
            obtain ⟨ag, cg, hvg, hrg, _⟩ := HG7.out.bb.row
            obtain ⟨NK, hNK⟩ : ∃ x, (TK (Bl.take K)).1.length = x := ⟨_, rfl⟩
            rw [hNK] at hv7 hr7 hvg hrg htc2
            have HL1 := Lib.hid hrg
            have HL2 := Lib.hid hr7
            have hNK2 : NK ≤ 20000 := by omega
            clear hb hof7 hr7 hrg hNK HG6 HR6 HO6 HRB6 HBL6 HT HGW6
            subst hv7
            subst hvg
            go_wp2_with fail
            refine (lists_same _ _ _ _ _ ((TK (Bl.take K)).1) _ HL1.out HL2.out (by omega)).mono ?_; rintro e w8 ⟨rfl, hb⟩
            have HG8 := Lib.hid (HG7.out.below hb)
            have HR8 := Lib.hid (HR7.out.kept (hb.block P hPw7))
            have HO8 := Lib.hid (HO7.out.kept hb.size (fun g hg => hb.block g (HGW7.out g hg)))
            have HRB8 := Lib.hid (own_below' HRB7.out hb)
            have HBL8 := Lib.hid (HBL7.out.trans (hb.mono HBL7.out.size))
            obtain ⟨a', c', hve', _⟩ := HO8.out.row
            subst hve'
            clear hb HG7 HR7 HO7 HRB7 HBL7 HL1 HL2
            go_wp2_with fail
            refine (left_any P nb K a' n' c' w8 HR8.out).mono ?_; rintro e w' ⟨rfl, rfl⟩
            go_wp2
            go_roundw
            case rel => exact ⟨j + 1, K, .slice a' n' c', n', by omega, by go_num, rfl, hK2, HR8.out, HO8.out, HG8.out, HRB8.out, HBL8.out, HGP5.out, (fun h => hK3.out (by omega))⟩
            case measure => simp [intOf]; omega
      · have hjn : j = nc + 1 := by omega
        have hpn := hend.out hjn
        subst hpn
        subst hjn
        have hT : Bl.take p = Bl := List.take_of_length_le (by rw [HNB.out]; exact Nat.le_refl _)
        rw [hT, HF.out] at HG
        have d3 : decide (((nc + 1 : Nat) : Int) ≤ (nc : Int)) = false := dF (by omega)
        have hb1 := (Below.refl wr.heap.size wr).alloc (Nat.le_refl _) (.cells #[.int .u8 0] 5)
        have hs1 : (wr.alloc (.cells #[.int .u8 0] 5)).heap.size = wr.heap.size + 1 := by simp
        have hF := feed_lit_over P p p lv (some ⟨wr.heap.size, 0, none⟩) 1 1 [0] (wr.alloc (.cells #[.int .u8 0] 5)) (HR.out.kept (hb1.block P hPw)) (fun g hg => by have := HGW.out g hg; omega) (rowB_lit1 wr 0) (fun h => by cases h) (fun b off h => by
          injection h with h; injection h with h1 h2; subst h1
          exact Or.inr ⟨by omega, fun e => by have := HGW.out _ e.symm; omega⟩) (by omega) (by omega) (by omega)
        rw [hs1] at hF
        have HF1 := Lib.hid hF
        have HG2 := Lib.hid (HG.out.below hb1)
        have HBL2 := Lib.hid (HBL.out.trans (hb1.mono HBL.out.size))
        have hsw := HBL.out.size
        clear hF hb1 HR HO HG HRB4 HBL HF hT HX HHB
        go_wp2_with fail
        refine HF1.out.mono ?_; rintro e w5 ⟨rfl, hrd5, hbut5⟩
        have HG5 := Lib.hid (HG2.out.but hbut5 (go' := none) (Or.inr (fun g hg => by cases hg)))
        have HBL5 := Lib.hid (HBL2.out.trans (Below.ofBut hbut5 HBL2.out.size hwP (fun g hg => by have := hgP.out g hg; omega)))
        have HF2 := Lib.hid (feed_over P p ((p : Int) + 1) (.slice none 0 0) none 0 0 [] w5 hrd5 (stays_none _ _ _) (by omega) (show (p : Int) + 1 + ((0 : Nat) : Int) ≤ _ by omega) (by omega) (show (p : Int) < (p : Int) + 1 + ((0 : Nat) : Int) by omega))
        have hsw5 := hbut5.size
        clear hrd5 hbut5 HF1 HG2 HBL2
        go_wp2_with fail
        refine HF2.out.mono ?_; rintro e w6 ⟨rfl, hrd6, hbut6⟩
        have HG6 := Lib.hid (HG5.out.but hbut6 (go' := none) (Or.inr (fun g hg => by cases hg)))
        have HBL6 := Lib.hid (HBL5.out.trans (Below.ofBut hbut6 HBL5.out.size hwP (fun g hg => by cases hg)))
        clear hrd6 hbut6 HF2 HG5 HBL5
        go_wp2_with fail
        refine (first7 _).mono ?_; rintro e w7 ⟨rfl, hb⟩
        have HG7 := Lib.hid (HG6.out.below hb)
        have HBL7 := Lib.hid (HBL6.out.trans (hb.mono HBL6.out.size))
        obtain ⟨ag, cg, hvg, hrg, _⟩ := HG7.out.bb.row
        subst hvg
        have HL1 := Lib.hid hrg
        have HAL := Lib.hid (show A.length = la by obtain ⟨_, _, h2, _⟩ := HA.out; exact h2)
        rw [HAL.out] at HL1 ⊢
        clear hb hrg HG6 HBL6
        go_wp2_with fail
        refine (lists_same _ _ _ _ _ A _ HL1.out (HA.out.below HBL7.out) (by omega)).mono ?_; rintro e w8 ⟨rfl, hb⟩
        have HBL8 := Lib.hid (HBL7.out.trans (hb.mono HBL7.out.size))
        clear hb
        go_wp2
        go_ret
        exact ⟨rfl, HBL8.out⟩
  · have h0 := hob rfl
    subst h0
    have hnb0 : nb = 0 := HNB.out.symm
    subst hnb0
    clear hoa hob
    go_wp2_with fail
    refine (first7 _).mono ?_; rintro e w3 ⟨rfl, hb⟩
    have HB3 := Lib.hid (HB2.out.trans (hb.mono HB2.out.size)); clear hb
    go_wp2
    go_ret
    exact ⟨rfl, HB3.out⟩
end Go.Proofs.Ytngncdmmlkcekaa
