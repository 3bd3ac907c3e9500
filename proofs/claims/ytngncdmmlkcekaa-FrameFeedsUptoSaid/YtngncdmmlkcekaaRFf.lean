/- The document's reader feeds on. -/
import Derived.Test.YtngncdmmlkcekaaRFr
namespace Go.Proofs.Ytngncdmmlkcekaa
open Go.RowKit

set_option maxRecDepth 100000 in
set_option maxHeartbeats 6400000 in
theorem rfeed_ok (P : Nat) (m : Int) (h : Nat) (v : Value) (n : Nat) (lb : List UInt8) (pl : Option Addr) (nl cl : Nat) (M : List (List UInt8)) (w : World) (hr : RfrAt w P m h v false) (hown : OwnM w v n lb) (hvP : v.ownBlock ≠ some P) (hst : Stays w P v.ownBlock pl nl M) (hnh : n ≤ h) (hnl : nl ≤ 1000) (hover : ¬ m < (h : Int) + sumL M) (hsm : h + sumL M ≤ 300000) :
    Calls Try.prog 51 #[.pointer (some ⟨P, 0, none⟩), .slice pl nl cl] w fun e w' => ∃ rv v' n' B, e = .returned (.tuple #[rv, .int .i64 0]) ∧ RfrAt w' P m ((h + sumL M : Nat) : Int) v' false ∧ OwnM w' v' n' ((lb ++ M.flatten).drop (TK (lb ++ M.flatten)).2) ∧ OwnF w' B rv (TK (lb ++ M.flatten)).1 ∧ But w w' P v.ownBlock ∧ w.heap.size ≤ B ∧ ∀ g, v'.ownBlock = some g → w.heap.size ≤ g := by
  have HST := Lib.hid hst
  have HML := Lib.hid (show M.length = nl by obtain ⟨_, _, h2, _⟩ := hst w (But.refl _ _ _); exact h2)
  have HR := Lib.hid hr
  have HSL := Lib.hid (sum_le M)
  have HOV := Lib.hid hover
  have HOW := Lib.hid hown
  have HVP := Lib.hid hvP
  have hPw := hr.lt
  clear hr hst hown hvP
  go_enter Try.func51, Try.ntmps51
  go_wp2_with fail
  go_loopw [6] (fun i wr => ∃ k S : Nat, k ≤ nl ∧ i = .int .i64 k ∧ Hid (S = sumL (M.take k)) ∧ RfrAt wr P m ((h + S : Nat) : Int) v false ∧ But w wr P (some P)) (fun i _ => nl - (intOf i).toNat)
  case atStart => exact ⟨0, 0, Nat.zero_le _, rfl, rfl, HR.out, But.refl _ _ _⟩
  case round =>
    obtain ⟨k, S, hk, rfl, hS, hra, hbut⟩ := hrel
    have HRA := Lib.hid hra
    have HBT := Lib.hid hbut
    have HBV := Lib.hid (show But w wr P v.ownBlock from ⟨hbut.os, hbut.tape, hbut.output, hbut.size, fun q h1 h2 h3 => hbut.block q h1 h2 (fun e => h2 (by simpa using e))⟩)
    have HH := Lib.hid (show ∃ hh : Nat, h + S = hh from ⟨_, rfl⟩)
    obtain ⟨hh, hhe⟩ := HH.out
    rw [hhe] at HRA
    obtain ⟨q1, q2, q3, q4, q5, q6, q7⟩ := HRA.out
    have hSle := HSL.out k
    rw [← hS.out] at hSle
    clear hbut hra HH
    by_cases hlt : k < nl
    · obtain ⟨b1, o1, ai, ci, rfl, hbl1, c0, r1, n1⟩ := (HST.out wr HBV.out).at k hlt
      have hst := sum_take (M := M) (k := k) (by rw [HML.out]; exact hlt)
      have hSle2 := HSL.out (k + 1)
      obtain ⟨s, hs2⟩ : ∃ s, (M.getD k []).length = s := ⟨_, rfl⟩
      rw [hs2] at c0 hst
      rw [hst, ← hS.out] at hSle2
      rw [← hS.out] at hst
      have HS2 := Lib.hid hst.symm
      have hb9 : hh + s ≤ 300000 := by omega
      have HE := Lib.hid hhe
      clear r1 n1 hst hs2 hhe
      go_wp2_with fail
      go_region
      all_goals
        go_wp2
        go_roundw
        case rel => exact ⟨k + 1, S + s, by omega, by go_num, HS2.out, by have := HRA.out.drew.had ((hh : Int) + s); rw [show ((h + (S + s) : Nat) : Int) = (hh : Int) + s by have := HE.out; omega]; exact this, HBT.out.drew.set 1 _⟩
        case measure => simp [intOf]; omega
    · have hkn : nl = k := by omega
      subst hkn
      have hSM : S = sumL M := by rw [hS.out, ← HML.out, List.take_length]
      subst hSM
      have d1 : decide (m < (hh : Int)) = false := dF (by have := HOV.out; omega)
      have HHE := Lib.hid hhe
      clear hlt hS hSle hhe
      go_wp2_with fail
      go_quiet (fail)
      rename_i nq
      have hbl := below_drewN (Below.refl (P + 1) wr) nq
      have hszq := HBT.out.size
      have HRA9 := Lib.hid (HRA.out.kept (hbl.block P (by omega)))
      have HBT9 := Lib.hid (HBV.out.below (below_drewN (Below.refl w.heap.size wr) nq) (Nat.le_refl _))
      have HOW9 := Lib.hid (show OwnM (wr.drewN nq) v n lb from HOW.out.kept HBT9.out.size (fun g hg => by
        have hgw : g < w.heap.size := own_lt HOW.out g hg
        rw [(below_drewN (Below.refl w.heap.size wr) nq).block g hgw]
        exact HBT.out.block g hgw (fun e => HVP.out (by rw [hg, e])) (fun e => HVP.out (by rw [hg, Option.some.inj e]))))
      obtain ⟨w9, hw9⟩ : ∃ w9, wr.drewN nq = w9 := ⟨_, rfl⟩
      rw [hw9] at HRA9 HBT9 HOW9
      rw [hw9]
      clear hw9 hbl q1 q2 q3 q4 q5 q6 q7 HRA HBT HBV hszq
      go_wp2_with fail
      go_loopw [7] (fun i wr => ∃ (k : Nat) (v' : Value) (n' : Nat), k ≤ nl ∧ i = .int .i64 k ∧ RfrAt wr P m hh v' false ∧ OwnM wr v' n' (lb ++ (M.take k).flatten) ∧ n' ≤ h + sumL (M.take k) ∧ But w wr P v.ownBlock ∧ (v'.ownBlock = v.ownBlock ∨ ∀ g, v'.ownBlock = some g → w.heap.size ≤ g)) (fun i _ => nl - (intOf i).toNat)
      case atStart => exact ⟨0, v, n, Nat.zero_le _, rfl, HRA9.out, by simpa using HOW9.out, by omega, HBT9.out, Or.inl rfl⟩
      case round =>
        obtain ⟨k, v', n', hk, rfl, hra, how, hn', hbut, hvv⟩ := hrel
        have HRA := Lib.hid hra
        have HOM := Lib.hid how
        have HBT := Lib.hid hbut
        have HVV := Lib.hid hvv
        have hszq := hbut.size
        have hSle := HSL.out k
        have HVP2 := Lib.hid (show v'.ownBlock ≠ some P from fun e => by
          rcases hvv with h1 | h1
          · exact HVP.out (by rw [← h1, e])
          · have := h1 P e; omega)
        clear hbut how hvv
        by_cases hlt : k < nl
        · obtain ⟨b1, o1, ai, ci, rfl, hbl1, c0, r1, n1⟩ := (HST.out wr HBT.out).at k hlt
          have hst := sum_take (M := M) (k := k) (by rw [HML.out]; exact hlt)
          have HFL := Lib.hid (flat_take (M := M) (k := k) (by rw [HML.out]; exact hlt))
          have hSle2 := HSL.out (k + 1)
          have HR1 := Lib.hid r1
          have HN1 := Lib.hid n1
          obtain ⟨pc, hpc⟩ : ∃ p, M.getD k [] = p := ⟨_, rfl⟩
          rw [hpc] at c0 hst HR1 HN1 HFL
          obtain ⟨s, hs2⟩ : ∃ s, pc.length = s := ⟨_, rfl⟩
          rw [hs2] at c0 hst HR1 HN1
          have hb8 : n' + s ≤ 300000 := by omega
          have hb7 : n' + s ≤ h + sumL (M.take (k + 1)) := by omega
          have HB7 := Lib.hid hb7
          have HRD := Lib.hid HRA.out.drew
          have HRW := Lib.hid (show RowB wr.drew ai s pc from CellsAt.below HR1.out ((Below.refl wr.heap.size wr).drew))
          have HOD := Lib.hid HOM.out.drew
          obtain ⟨q1, q2, q3, q4, q5, q6, q7⟩ := HRA.out
          clear r1 n1 hst hs2 hpc hb7 hSle2 hSle hn'
          go_wp2_with fail
          have hPlt : P < wr.drew.heap.size := HRD.out.lt
          go_region_law (refine step_append_mid (by rfl) _ _ (by rfl) v' n' _ (by rfl) HOD.out ai s ci pc (by rfl) HRW.out HN1.out (by omega) ?_; intro v2 w2 how2 hgr2 hv2; obtain ⟨a2, c2, hve, _⟩ := how2.row; subst hve; have HRA2 := Lib.hid (HRD.out.kept (hgr2.block P hPlt (fun e => HVP2.out e.symm))); have HOW2 := Lib.hid how2; have HGR2 := Lib.hid hgr2; have HV2 := Lib.hid hv2; clear how2 hgr2 hv2; obtain ⟨p1, p2, p3, p4, p5, p6, p7⟩ := HRA2.out)
          all_goals
            have HBT2 := Lib.hid (HBT.out.drew.grow HGR2.out HVV.out)
            have HV3 := Lib.hid (show (Value.slice a2 (n' + s) c2).ownBlock = v.ownBlock ∨ ∀ g, (Value.slice a2 (n' + s) c2).ownBlock = some g → w.heap.size ≤ g by
              rcases HV2.out with e | e
              · rw [e]; exact HVV.out
              · right; intro g hg; rw [e] at hg; have h9 : wr.drew.heap.size = g := Option.some.inj hg; have h8 : wr.drew.heap.size = wr.heap.size := rfl; omega)
            have HVP3 := Lib.hid (show (Value.slice a2 (n' + s) c2).ownBlock ≠ some P from fun e => by
              rcases HV2.out with e2 | e2
              · exact HVP2.out (by rw [← e2, e])
              · rw [e2] at e; have := Option.some.inj e; omega)
            have HOM2 := Lib.hid (show OwnM (w2.setCell ⟨P, 0, none⟩ (.slice a2 (n' + s) c2)) (.slice a2 (n' + s) c2) (n' + s) (lb ++ (M.take (k + 1)).flatten) from by
              rw [HFL.out]
              have h9 := HOW2.out
              rw [List.append_assoc] at h9
              exact h9.kept ((Below.refl 0 w2).setCell (p := ⟨P, 0, none⟩) (Nat.zero_le _) (.slice a2 (n' + s) c2)).size (fun g hg => Below.heap_setCell _ _ _ _ (fun e => HVP3.out (by rw [hg, e]))))
            go_wp2
            go_roundw
            case rel => exact ⟨k + 1, .slice a2 (n' + s) c2, n' + s, by omega, by go_num, HRA2.out.left _, HOM2.out, HB7.out, HBT2.out.set 0 _, HV3.out⟩
            case measure => simp [intOf]; omega
        · have hkn : nl = k := by omega
          subst hkn
          have hT : M.take nl = M := by rw [← HML.out]; exact List.take_length
          rw [hT] at HOM hn'
          have hav0 := HOM.out.2
          obtain ⟨a', c', rfl, hrow, hnn, hnc, hcm⟩ := HOM.out.row
          have hn3 : n' ≤ 400000 := by omega
          have ht := rtake7 a' n' c' (lb ++ M.flatten) wr hrow hn3 hcm hnc
          obtain ⟨L, hL⟩ : ∃ L, lb ++ M.flatten = L := ⟨_, rfl⟩
          rw [hL] at ht HOM hav0 hrow
          have HLe := Lib.hid hL
          have hLn : L.length = n' := HOM.out.1
          have hte := TK_le L
          obtain ⟨te, hte2⟩ : ∃ x, (TK L).2 = x := ⟨_, rfl⟩
          obtain ⟨tm, htm⟩ : ∃ x, (TK L).1 = x := ⟨_, rfl⟩
          rw [hte2, htm] at ht
          rw [hte2] at hte
          rw [hLn] at hte
          have hav : a' = none ∧ n' = 0 ∧ c' = 0 ∨ ∃ β off, a' = some ⟨β, off, none⟩ := by
            rcases hav0 with ⟨e, e0⟩ | ⟨g, off, cap, e, _⟩
            · injection e with e1 e2 e3; exact Or.inl ⟨e1, e0, e3⟩
            · injection e with e1 e2 e3; exact Or.inr ⟨g, off, e1⟩
          obtain ⟨ad, hsl, had1, had3⟩ := slice_tail a' n' c' te hav hte hnc
          have HSL9 := Lib.hid hsl
          have HT := Lib.hid ht
          have HTE := Lib.hid hte2
          have HTM := Lib.hid htm
          have HCP := Lib.hid (fun wx (hb : Below wr.heap.size wr wx) => copyBytes_any ad (n' - te) (c' - te) (L.drop te) wx (by
            have h8 : RowB wx a' n' L := CellsAt.below hrow hb
            have h9 := RowB.sub h8 hte (Nat.le_refl n') had3
            rwa [List.take_of_length_le (by rw [List.length_drop]; omega)] at h9) had1 (by omega))
          have HHE2 := HHE
          obtain ⟨q1, q2, q3, q4, q5, q6, q7⟩ := HRA.out
          have hPlt : P < wr.heap.size := HRA.out.lt
          clear hT hrow ht hL hLn hte2 htm hn' hSle hsl had1 had3 hav hav0
          go_wp2_with fail
          refine HT.out.mono ?_; rintro e w5 ⟨v5, rfl, hof, hb⟩
          have HF5 := Lib.hid hof
          have HRA5 := Lib.hid (HRA.out.kept (hb.block P hPlt))
          have HBT5 := Lib.hid (HBT.out.below hb hszq)
          have HB5 := Lib.hid hb
          have hsw := hb.size
          clear hof hb q1 q2 q3 q4 q5 q6 q7 HRA HBT HOM HT
          obtain ⟨q1, q2, q3, q4, q5, q6, q7⟩ := HRA5.out
          have hsl := HSL9.out
          go_wp2_with fail
          refine (HCP.out _ HB5.out).mono ?_; rintro e w6 ⟨v6, rfl, hown6, hb⟩
          have HF6 := Lib.hid (HF5.out.below hb)
          have hPlt5 : P < w5.heap.size := HRA5.out.lt
          have HRA6 := Lib.hid (HRA5.out.kept (hb.block P hPlt5))
          have HBT6 := Lib.hid (HBT5.out.below hb (by omega))
          have HO6 := Lib.hid hown6
          obtain ⟨a6, c6, hv6, _⟩ := cells_own hown6
          subst hv6
          have hs56 := hb.size
          clear hsl hown6 hb q1 q2 q3 q4 q5 q6 q7 HRA5 HBT5 HF5 HCP HSL9
          obtain ⟨q1, q2, q3, q4, q5, q6, q7⟩ := HRA6.out
          go_wp2
          go_ret2
          rw [HLe.out, HTE.out, HTM.out]
          have hlt6 := HO6.out.lt
          exact ⟨v5, .slice a6 (n' - te) c6, n' - te, wr.heap.size, rfl, by have := HRA6.out.left (.slice a6 (n' - te) c6); rw [← HHE2.out] at this; exact this, (OwnM.ofOwn HO6.out).kept ((Below.refl 0 w6).setCell (p := ⟨P, 0, none⟩) (Nat.zero_le _) _).size (fun g hg => Below.heap_setCell _ _ _ _ (fun e => by have h1 := (hlt6 g hg).1; have e2 : g = P := e; omega)), HF6.out.other (grown_set _ _ _ _) hPlt, HBT6.out.set 0 _, hszq, fun g hg => by have := (hlt6 g hg).1; omega⟩
end Go.Proofs.Ytngncdmmlkcekaa
