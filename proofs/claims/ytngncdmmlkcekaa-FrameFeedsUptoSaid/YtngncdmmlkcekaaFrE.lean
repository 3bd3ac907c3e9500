/- The contract of the document's Take (chapter 7), over this seat's translation. -/
import Derived.Test.YtngncdmmlkcekaaFrD
namespace Go.Proofs.Ytngncdmmlkcekaa
open Go.RowKit

set_option maxRecDepth 100000 in
set_option maxHeartbeats 3200000 in
theorem rtake7 (a : Option Addr) (n c : Nat) (l : List UInt8) (w : World) (h : RowB w a n l) (hn : n ≤ 400000) (hc : c ≤ maxLen) (hcn : n ≤ c) :
    Calls Try.prog 45 #[.slice a n c] w fun e w' => ∃ v, e = .returned (.tuple #[v, .int .i64 ((TK l).2 : Nat)]) ∧ OwnF w' w.heap.size v (TK l).1 ∧ Below w.heap.size w w' := by
  have HR := Lib.hid h
  have HLN := Lib.hid h.len
  obtain ⟨ii, hi, hz0, hz1, hz2⟩ := info_parts infoBs
  have HI := Lib.hid hi
  have HZ0 := Lib.hid hz0
  have HZ1 := Lib.hid hz1
  have HZ2 := Lib.hid hz2
  unfold maxLen at hc
  clear h hi hz0 hz1 hz2
  go_enter Try.func45, Try.ntmps45
  go_wp2_with fail
  go_loopw [4, 5] (fun v i wr => ∃ (e : Nat) (M : List (List UInt8)), e ≤ n ∧ i = .int .i64 e ∧ OwnF wr w.heap.size v M ∧ Below w.heap.size w wr ∧ M.length ≤ e ∧ Hid (TK l = (M ++ (TK (l.drop e)).1, e + (TK (l.drop e)).2))) (fun _ i _ => n - (intOf i).toNat)
  case atStart => exact ⟨0, [], Nat.zero_le _, rfl, OwnF.nil _ _, Below.refl _ _, Nat.zero_le _, by rw [List.drop_zero, Nat.zero_add]; rfl⟩
  case round =>
    obtain ⟨e, M, he, rfl, hown, hbel, hMe, htk⟩ := hrel
    have HO := Lib.hid hown
    have HBL := Lib.hid hbel
    have hszz := hbel.size
    obtain ⟨va, vc, rfl, _, _⟩ := hown.bb.row
    have hrl : (l.drop e).length = n - e := by rw [List.length_drop, HLN.out]
    clear hown hbel
    by_cases h2 : 2 ≤ n - e
    · obtain ⟨b, off, rfl, hbl, hcell⟩ := HR.out.at (by omega)
      have c1 : wr.cell? ⟨b, off + e, none⟩ = some (.int .u8 ((l.getD e 0).toNat : Int)) := by rw [HBL.out.cell hbl]; exact hcell e (by omega)
      have c2 : wr.cell? ⟨b, off + (e + 1), none⟩ = some (.int .u8 ((l.getD (e + 1) 0).toNat : Int)) := by rw [HBL.out.cell hbl]; exact hcell (e + 1) (by omega)
      have hhd : hd2 (l.drop e) = (l.getD e 0).toNat * 256 + (l.getD (e + 1) 0).toNat := by
        rw [hd2, List.getD_eq_getElem?_getD, List.getD_eq_getElem?_getD, List.getElem?_drop, List.getElem?_drop, List.getD_eq_getElem?_getD, List.getD_eq_getElem?_getD, Nat.add_zero]
      have hx := (l.getD e 0).toNat_lt
      have hy := (l.getD (e + 1) 0).toNat_lt
      obtain ⟨x, hxx⟩ : ∃ x, (l.getD e 0).toNat = x := ⟨_, rfl⟩
      obtain ⟨y, hyy⟩ : ∃ x, (l.getD (e + 1) 0).toNat = x := ⟨_, rfl⟩
      rw [hxx] at c1 hhd hx
      rw [hyy] at c2 hhd hy
      have i1 : (e : Int) < (n : Int) := by omega
      have i2 : (e : Int) + 1 < (n : Int) := by omega
      have i3 : IntKind.i64.wrap ((e : Int) + 1) = (e : Int) + 1 := by rw [IntKind.wrap_i64]; omega
      have i4 : ((e : Int) + 1).toNat = e + 1 := by omega
      have i5 : (0 : Int) ≤ (e : Int) + 1 := by omega
      have d1 : decide ((2 : Int) ≤ (n : Int) - (e : Int)) = true := dT (by omega)
      have HBT := Lib.hid (or_bytes x y hx hy)
      have hQ0 : x * 256 + y ≤ 65535 := by omega
      obtain ⟨Q, hQ⟩ : ∃ Q, x * 256 + y = Q := ⟨_, rfl⟩
      rw [hQ] at HBT hhd hQ0
      have hbits := HBT.out
      have HRL := Lib.hid hrl
      have HHD := Lib.hid hhd
      have HTK := Lib.hid (fun h1 h2 => TK_more htk.out h1 h2)
      have HTL := Lib.hid (fun h1 => TK_last htk.out h1)
      rw [HHD.out, HRL.out] at HTK HTL
      clear hcell hxx hyy hrl hhd hQ htk
      by_cases hbig : n - e - 2 < Q
      · have d2 : decide ((n : Int) - (e : Int) - 2 < (Q : Int)) = true := dT (by omega)
        have HV := Lib.hid (HTL.out (Or.inr hbig))
        go_wp2_with fail
        go_quiet (fail)
        rename_i nq
        have HB9 := Lib.hid (below_drewN HBL.out nq)
        have HO9 := Lib.hid (HO.out.below (below_drewN (Below.refl _ _) nq))
        go_wp2
        go_ret2
        exact ⟨.slice va M.length vc, ret_vi (v := .slice va M.length vc) (by rw [HV.out]), by rw [HV.out]; exact HO9.out, HB9.out⟩
      · have d2 : decide ((n : Int) - (e : Int) - 2 < (Q : Int)) = false := dF (by omega)
        obtain ⟨E, hE⟩ : ∃ E, e + 2 + Q = E := ⟨_, rfl⟩
        have hE2 : (e : Int) + 2 + (Q : Int) = (E : Int) := by omega
        have hE3 : E ≤ n := by omega
        have hE5 : (e : Int) + (2 + (Q : Int)) = (E : Int) := by omega
        have hE4 : e + 2 ≤ E := by omega
        have HN := Lib.hid (HTK.out (by omega) hbig)
        rw [hE] at HN
        have HQE := Lib.hid (show E - (e + 2) = Q by omega)
        have HPL := Lib.hid (show ((l.drop e).drop 2).take Q = (l.drop (e + 2)).take (E - (e + 2)) by rw [List.drop_drop, HQE.out])
        rw [HPL.out] at HN
        have j1 : IntKind.i64.wrap ((e : Int) + 2 + (Q : Int)) = (E : Int) := by rw [IntKind.wrap_i64]; omega
        by_cases hce : c = e + 2
        all_goals
          first | subst hce | skip
          go_wp2_with fail
          go_quiet (fail)
          rename_i nq
          have HB9 := Lib.hid (below_drewN HBL.out nq)
          have HO9 := Lib.hid (HO.out.below (below_drewN (Below.refl _ _) nq))
          have hsz9 := HB9.out.size
          obtain ⟨w9, hw9⟩ : ∃ w9, wr.drewN nq = w9 := ⟨_, rfl⟩
          rw [hw9] at HB9 HO9 hsz9
          rw [hw9]
          clear hw9
          go_wp2_with fail
          have HRP := Lib.hid (RowB.part (CellsAt.below HR.out HB9.out) (e + 2) E hE4 hE3)
          first
            | ((with_reducible refine (copyBytes_any (some ⟨b, off + (e + 2), none⟩) (E - (e + 2)) _ ((l.drop (e + 2)).take (E - (e + 2))) _ (HRP.out _ (fun _ => rfl)) (fun h => by cases h) (by omega)).mono ?_))
            | ((with_reducible refine (copyBytes_any (some ⟨b, off, none⟩) (E - (e + 2)) _ ((l.drop (e + 2)).take (E - (e + 2))) _ (HRP.out _ (fun h => absurd h (by omega))) (fun h => by cases h) (by omega)).mono ?_))
          rintro e' w2 ⟨v2, rfl, hown2, hb2⟩
          have HB2 := Lib.hid (HB9.out.trans (hb2.mono hsz9))
          have hsz2 := HB2.out.size
          have hml : ((l.drop (e + 2)).take (E - (e + 2))).length = E - (e + 2) := by rw [List.length_take, List.length_drop, HLN.out]; omega
          obtain ⟨a2, c2', rfl⟩ := own_shape hown2
          have hown3 := own_mono hown2 (B' := w.heap.size) hsz9
          have HV3 := Lib.hid (hown3.alloc (.cells #[.slice a2 (E - (e + 2)) c2'] 43))
          have HV4 := HV3.out
          rw [← hml] at HV4
          have HO2 := Lib.hid (HO9.out.below (hb2))
          obtain ⟨xs, hox, hxs⟩ := HO2.out.below ((Below.refl w2.heap.size w2).alloc (Nat.le_refl _) (.cells #[.slice a2 (E - (e + 2)) c2'] 43))
          have HOX := Lib.hid hox
          have HXS := Lib.hid hxs
          clear hown3 HV4
          have HMM := Lib.hid hml
          clear hml
          clear hown2 hb2 hox hxs
          go_wp2_with (first | (at_builtin; refine wpList_append_own _ rfl _ _ 44 rfl w.heap.size 43 ii (.slice none 0 0) 1 24 Try.underlying44 HI.out HZ0.out HZ1.out HZ2.out rfl (by decide) _ M.length _ rfl HOX.out ⟨w2.heap.size, 0, none⟩ 1 1 [.slice a2 (E - (e + 2)) c2'] rfl rfl ?c1 ?c2 ?c3 ?c4 ?c5 ?_))
          case c1 => exact cell_one_new _ _ _
          case c2 => intro u hu; simp only [List.mem_cons, List.not_mem_nil, or_false] at hu; subst hu; rfl
          case c3 => unfold maxLen; omega
          case c4 => omega
          case c5 => simp; omega
          intro v4 w4 hown4 hgrow4 _
          have HB4 := Lib.hid ((HB2.out.alloc hsz2 _).grown hgrow4 (by simp; omega) (fun k hk => (HOX.out.lt k hk).1))
          have HO4 := Lib.hid (OwnF.more HOX.out HXS.out (by rw [HMM.out]; exact HV3.out) hown4 hgrow4)
          have HML := Lib.hid (show (M ++ [(l.drop (e + 2)).take (E - (e + 2))]).length = M.length + 1 by simp)
          clear hown4 hgrow4
          go_wp2
          go_roundw
          case rel => exact ⟨E, M ++ [(l.drop (e + 2)).take (E - (e + 2))], hE3, rfl, HO4.out, HB4.out, by rw [HML.out]; omega, HN.out⟩
          case measure => simp [intOf]; omega
    · have d1 : decide ((2 : Int) ≤ (n : Int) - (e : Int)) = false := dF (by omega)
      have HV := Lib.hid (TK_last htk.out (Or.inl (by omega)))
      go_wp2
      go_ret2
      exact ⟨.slice va M.length vc, ret_vi (v := .slice va M.length vc) (by rw [HV.out]), by rw [HV.out]; exact HO.out, HBL.out⟩
end Go.Proofs.Ytngncdmmlkcekaa
