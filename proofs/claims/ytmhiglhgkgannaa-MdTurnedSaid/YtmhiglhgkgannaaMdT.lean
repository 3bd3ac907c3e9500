/- md.Sign. -/
import Derived.Test.YtmhiglhgkgannaaMdS
import Derived.Test.YtmhiglhgkgannaaMdI
import Derived.Test.YtmhiglhgkgannaaMgC
namespace Go.Proofs.Ytmhiglhgkgannaa
open Go.RowKit

/-- The SOA's record, if there is just one, and it may be read. -/
noncomputable def sgnX (apex : ByteArray) (l : List R5) : Option R5 := match onceF mcmp (isSoa apex) l with
  | [x] => if soaOk x.d = true then some x else none
  | _ => none
noncomputable def sgnE (apex : ByteArray) (l : List R5) : Int := if dgE apex l = 0 then (if (sgnX apex l).isSome = true then 0 else 11) else dgE apex l
noncomputable def mdRec (apex : ByteArray) (l : List R5) (x : R5) : R5 := ⟨⟨apex, 63, x.k.c⟩, x.ttl, mdData (getN (soaT x.d) 0 4) 1 1 (bs (shaL (dgL apex l)))⟩
/-- What Sign tells. -/
noncomputable def sgnL (apex : ByteArray) (l : List R5) : List R5 := if dgE apex l = 0 then (match sgnX apex l with
  | some x => keepRM (isMd apex) l ++ [mdRec apex l x]
  | none => []) else []
theorem sgn_dg {apex : ByteArray} {l : List R5} (h : dgE apex l ≠ 0) : sgnE apex l = dgE apex l ∧ sgnL apex l = [] := by rw [sgnE, sgnL, if_neg h, if_neg h]; exact ⟨rfl, rfl⟩
theorem sgnX_no {apex : ByteArray} {l o : List R5} (ho : OnceP mcmp (isSoa apex) l o) (hl : o.length ≠ 1) : sgnX apex l = none := by
  rw [sgnX, ← ho.eqF ord_mcmp]
  match o, hl with
  | [], _ => rfl
  | [_], hl => exact absurd rfl hl
  | _ :: _ :: _, _ => rfl
theorem sgnX_bad {apex : ByteArray} {l : List R5} {x : R5} (ho : OnceP mcmp (isSoa apex) l [x]) (hs : soaOk x.d = false) : sgnX apex l = none := by
  rw [sgnX, ← ho.eqF ord_mcmp]
  show (if soaOk x.d = true then some x else none) = none
  rw [hs]; rfl
theorem sgnX_yes {apex : ByteArray} {l : List R5} {x : R5} (ho : OnceP mcmp (isSoa apex) l [x]) (hs : soaOk x.d = true) : sgnX apex l = some x := by
  rw [sgnX, ← ho.eqF ord_mcmp]
  show (if soaOk x.d = true then some x else none) = some x
  rw [if_pos hs]
theorem sgn_no {apex : ByteArray} {l : List R5} (h : dgE apex l = 0) (hx : sgnX apex l = none) : sgnE apex l = 11 ∧ sgnL apex l = [] := by rw [sgnE, sgnL, if_pos h, if_pos h, hx]; exact ⟨rfl, rfl⟩
theorem sgn_yes {apex : ByteArray} {l : List R5} {x : R5} (h : dgE apex l = 0) (hx : sgnX apex l = some x) : sgnE apex l = 0 ∧ sgnL apex l = keepRM (isMd apex) l ++ [mdRec apex l x] := by rw [sgnE, sgnL, if_pos h, if_pos h, hx]; exact ⟨rfl, rfl⟩
theorem soa_fits {s : ByteArray} (h : soaOk s = true) : fits (getN (soaT s) 0 4) 4 = true := by
  have hz : (soaT s).size = 20 := by
    simp only [soaOk, Bool.and_eq_true, decide_eq_true_eq] at h
    exact h.2
  rw [(get20 (soaT s) hz).1]
  exact getTo4_fits _ _
theorem md_ok {a : Int} {D : ByteArray} (ha : fits a 4 = true) (hD : D.size = 48) : (mdData a 1 1 D).size = 54 ∧ mayD 63 (mdData a 1 1 D) = true ∧ putMdE a 1 1 D = 0 ∧ putMdS a 1 1 D = mdData a 1 1 D := by
  have hj : joinOk 1 [1, 1] = true := by decide
  have h1 := (put4 a ha).1
  have h2 := (join2 1 1 hj).1
  have hz : (mdData a 1 1 D).size = 54 := by
    rw [mdData, ByteArray.size_append, ByteArray.size_append, h1, h2, hD]
  have hm : mayD 63 (mdData a 1 1 D) = true := by
    simp only [mayD, Bool.and_eq_true, decide_eq_true_eq]
    refine ⟨⟨by decide, by omega⟩, ?_⟩
    show mayMdN (mdData a 1 1 D) = true
    rw [mayMdN, hz]
    simp
  have hf : (fits a 4 && joinOk 1 [(1 : Int), 1]) = true := by rw [ha, hj]; rfl
  exact ⟨hz, hm, by rw [putMdE, if_pos hf, if_pos hm], by rw [putMdS, if_pos hf, if_pos hm]⟩
/-- What Sign answers. -/
def SgR (apex : ByteArray) (l : List R5) (w : World) (e : Ending) (w' : World) : Prop := (∃ va vc, e = .returned (.tuple #[.slice va (sgnL apex l).length vc, .int .i64 (sgnE apex l)]) ∧ w'.ownsRow w.heap.size 30 5 (.slice va (sgnL apex l).length vc) (sgnL apex l).length (flatR (sgnL apex l))) ∧ Below w.heap.size w w'
theorem sgR_no {apex : ByteArray} {l : List R5} {w w' : World} {E : Int} (h1 : sgnE apex l = E) (h2 : sgnL apex l = []) (hb : Below w.heap.size w w') : SgR apex l w (.returned (.tuple #[.slice none 0 0, .int .i64 E])) w' :=
  ⟨⟨none, 0, by rw [h1, h2]; rfl, by rw [h2]; exact World.ownsRow_nil _ _ _ _⟩, hb⟩
set_option maxRecDepth 100000 in
set_option maxHeartbeats 16000000 in
theorem sign_any (apex : ByteArray) (a : Option Addr) (n c : Nat) (l : List R5) (w : World) (h : RowR w a n l) (hna : a = none → n = 0 ∧ c = 0) (hn : n ≤ 1000) (hs : ∀ r ∈ l, SmX r) (ha : apex.size ≤ 1000000) :
    Calls Try.prog 10 #[.string apex, .slice a n c] w fun e w' => SgR apex l w e w' := by
  obtain ⟨i0, hi, hz0, hz1, hz2⟩ := info_parts infoRR
  have HI := Lib.hid hi
  have HZ0 := Lib.hid hz0
  have HZ1 := Lib.hid hz1
  have HZ2 := Lib.hid hz2
  clear hi hz0 hz1 hz2
  have HLN := Lib.hid h.1
  have HS := Lib.hid hs
  have HB := Lib.hid (Below.refl w.heap.size w)
  have HR := Lib.hid h
  have HNA := Lib.hid hna
  clear h hs hna
  go_enter Try.func10, Try.ntmps10
  have hba := (Below.refl _ _ : Below w.heap.size w w).alloc (Nat.le_refl _) (.cells #[.string apex] 9)
  have HQ := Lib.hid (CN.new w #[.string apex] 9)
  replace HB := Lib.hid (HB.out.trans (hba.mono HB.out.size))
  replace HR := Lib.hid (HR.out.below hba)
  obtain ⟨w2, hw⟩ : ∃ x, w.alloc (.cells #[.string apex] 9) = x := ⟨_, rfl⟩
  obtain ⟨q2, hq⟩ : ∃ x, w.heap.size = x := ⟨_, rfl⟩
  rw [hw, hq] at HQ
  rw [hw] at HB HR
  have HW := Lib.hid hw
  have HQ_ := Lib.hid hq
  clear hba hw hq
  go_upto_region 1 with (fail)
  rw [HW.out, HQ_.out]
  clear HW HQ_
  have y0 := (HQ.out.2 0 _ rfl).1
  go_wp2_with fail
  refine (digest_any apex a n c l _ HR.out hn HS.out ha).mono ?_; rintro e w3 ⟨hd, hb⟩
  clear y0
  replace HB := Lib.hid (HB.out.trans (hb.mono HB.out.size))
  replace HR := Lib.hid (HR.out.below hb)
  replace HQ := Lib.hid (HQ.out.below hb)
  clear hb
  rcases hd with ⟨hne, rfl⟩ | ⟨hz, va, vc, rfl, hov⟩
  · obtain ⟨E, hE⟩ : ∃ x, dgE apex l = x := ⟨_, rfl⟩
    have HP := Lib.hid (show ∀ wz, Below w.heap.size w wz → SgR apex l w (.returned (.tuple #[.slice none 0 0, .int .i64 E])) wz from fun wz hb => sgR_no (by rw [(sgn_dg hne).1, hE]) ((sgn_dg hne).2) hb)
    rw [hE] at hne ⊢
    have e1 := nT hne
    clear hE hne
    go_wp2
    go_ret2
    exact HP.out _ HB.out
  · have HD := Lib.hid hov
    have HDZ := Lib.hid hz
    clear hov hz
    have y0 := (HQ.out.2 0 _ rfl).1
    go_wp2_with fail
    refine (soaOf_any apex a n c l _ HR.out hn HS.out).mono ?_; rintro e w4 ⟨hs2, hb⟩
    clear y0
    replace HB := Lib.hid (HB.out.trans (hb.mono HB.out.size))
    replace HR := Lib.hid (HR.out.below hb)
    replace HQ := Lib.hid (HQ.out.below hb)
    replace HD := Lib.hid (own_below' HD.out hb)
    clear hb
    obtain ⟨o, hon, ⟨hl, rfl⟩ | ⟨xn, xt, xc, xu, xd, s0, s1, i2, i3, i4, i5, i6, rfl, hser, rfl⟩⟩ := hs2
    · have hno := sgn_no HDZ.out (sgnX_no hon hl)
      have HP := Lib.hid (show ∀ wz, Below w.heap.size w wz → SgR apex l w (.returned (.tuple #[.slice none 0 0, .int .i64 11])) wz from fun wz hb => sgR_no (hno.1) (hno.2) hb)
      clear hl hon hno
      have HB2 := Lib.hid ((HB.out.alloc HB.out.size (.cells #[.string ⟨#[]⟩, .int .i64 0, .int .i64 0, .int .i64 0, .string ⟨#[]⟩] 30)).alloc (by have := HB.out.size; rw [World.size_alloc]; omega) (.cells #[.string ⟨#[]⟩, .string ⟨#[]⟩, .int .i64 0, .int .i64 0, .int .i64 0, .int .i64 0, .int .i64 0] 50))
      go_wp2
      go_ret2
      exact HP.out _ HB2.out
    · obtain ⟨bo, hbo⟩ : ∃ x, soaOk xd = x := ⟨_, rfl⟩
      rw [hbo]
      cases bo
      · have hno := sgn_no HDZ.out (sgnX_bad hon hbo)
        have HP := Lib.hid (show ∀ wz, Below w.heap.size w wz → SgR apex l w (.returned (.tuple #[.slice none 0 0, .int .i64 11])) wz from fun wz hb => sgR_no (hno.1) (hno.2) hb)
        clear hbo hon hser hno
        have HB2 := Lib.hid ((HB.out.alloc HB.out.size (.cells #[.string xn, .int .i64 xt, .int .i64 xc, .int .i64 xu, .string xd] 30)).alloc (by have := HB.out.size; rw [World.size_alloc]; omega) (.cells #[.string s0, .string s1, .int .i64 i2, .int .i64 i3, .int .i64 i4, .int .i64 i5, .int .i64 i6] 50))
        go_wp2
        go_ret2
        exact HP.out _ HB2.out
      · have hyes := sgn_yes HDZ.out (sgnX_yes hon hbo)
        have hfit : fits i2 4 = true := by rw [hser hbo]; exact soa_fits hbo
        have hDS : (bs (shaL (dgL apex l))).size = 48 := by rw [bs_size, shaL_len]
        have hmr : mdRec apex l ⟨⟨xn, xt, xc⟩, xu, xd⟩ = ⟨⟨apex, 63, xc⟩, xu, mdData i2 1 1 (bs (shaL (dgL apex l)))⟩ := by rw [mdRec, hser hbo]
        rw [hmr] at hyes
        obtain ⟨DG, hDG⟩ : ∃ x, bs (shaL (dgL apex l)) = x := ⟨_, rfl⟩
        rw [hDG] at hDS hyes
        have hmo := md_ok hfit hDS
        obtain ⟨DT, hDT⟩ : ∃ x, mdData i2 1 1 DG = x := ⟨_, rfl⟩
        rw [hDT] at hmo hyes
        have HPE := Lib.hid hmo.2.2.1
        have HPS := Lib.hid hmo.2.2.2
        have HDS := Lib.hid hDS
        have HDG := Lib.hid hDG
        obtain ⟨TT, hTT⟩ : ∃ x, keepRM (isMd apex) l = x := ⟨_, rfl⟩
        rw [hTT] at hyes
        have HTT := Lib.hid hTT
        obtain ⟨m, hm⟩ : ∃ x, TT.length = x := ⟨_, rfl⟩
        have hm1 : (TT ++ [⟨⟨apex, 63, xc⟩, xu, DT⟩] : List R5).length = m + 1 := by rw [List.length_append, hm]; rfl
        have HP := Lib.hid (show ∀ wz a7 c7, wz.ownsRow w.heap.size 30 5 (.slice a7 (m + 1) c7) (m + 1) (flatR (TT ++ [⟨⟨apex, 63, xc⟩, xu, DT⟩])) → Below w.heap.size w wz → SgR apex l w (.returned (.tuple #[.slice a7 (m + 1) c7, .int .i64 0])) wz from fun wz a7 c7 ho hb => ⟨⟨a7, c7, by rw [hyes.1, hyes.2, hm1], by rw [hyes.2, hm1]; exact ho⟩, hb⟩)
        have HM := Lib.hid hm
        have HML := Lib.hid (show m ≤ n by rw [← hm, ← hTT, keepRM, ← HLN.out]; exact List.length_filter_le _ _)
        clear hyes hfit hDS hmr hDG hmo hDT hTT hm hm1 hon hbo hser
        have hba := (Below.refl w4.heap.size w4).alloc (Nat.le_refl _) (.cells #[.string xn, .int .i64 xt, .int .i64 xc, .int .i64 xu, .string xd] 30)
        have HC8 := Lib.hid (CN.new w4 #[.string xn, .int .i64 xt, .int .i64 xc, .int .i64 xu, .string xd] 30)
        replace HB := Lib.hid (HB.out.trans (hba.mono HB.out.size))
        replace HR := Lib.hid (HR.out.below hba)
        replace HQ := Lib.hid (HQ.out.below hba)
        replace HD := Lib.hid (own_below' HD.out hba)
        obtain ⟨wa, hwa⟩ : ∃ x, w4.alloc (.cells #[.string xn, .int .i64 xt, .int .i64 xc, .int .i64 xu, .string xd] 30) = x := ⟨_, rfl⟩
        obtain ⟨qa, hqa⟩ : ∃ x, w4.heap.size = x := ⟨_, rfl⟩
        rw [hwa] at HB HR HQ HD HC8
        rw [hqa] at HC8
        have hza : wa.heap.size = qa + 1 := by rw [← hwa, World.size_alloc, hqa]
        clear hba
        have hba := (Below.refl wa.heap.size wa).alloc (Nat.le_refl _) (.cells #[.string s0, .string s1, .int .i64 i2, .int .i64 i3, .int .i64 i4, .int .i64 i5, .int .i64 i6] 50)
        have HC9 := Lib.hid (CN.new wa #[.string s0, .string s1, .int .i64 i2, .int .i64 i3, .int .i64 i4, .int .i64 i5, .int .i64 i6] 50)
        replace HB := Lib.hid (HB.out.trans (hba.mono HB.out.size))
        replace HR := Lib.hid (HR.out.below hba)
        replace HQ := Lib.hid (HQ.out.below hba)
        replace HD := Lib.hid (own_below' HD.out hba)
        replace HC8 := Lib.hid (HC8.out.below hba)
        obtain ⟨wb, hwb⟩ : ∃ x, wa.alloc (.cells #[.string s0, .string s1, .int .i64 i2, .int .i64 i3, .int .i64 i4, .int .i64 i5, .int .i64 i6] 50) = x := ⟨_, rfl⟩
        obtain ⟨qb, hqb⟩ : ∃ x, qa + 1 = x := ⟨_, rfl⟩
        rw [hwb, hza, hqb] at HC9
        rw [hwb] at HB HR HQ HD HC8
        have HW := Lib.hid (And.intro hwa hwb)
        have HQE := Lib.hid (And.intro hqa hqb)
        clear hba hwa hwb hqa hqb hza
        go_upto_region 5 with (fail)
        rw [HW.out.1, HW.out.2, HQE.out.1]
        rw [HQE.out.2]
        clear HW HQE
        have hcv := conv_row (RowB.of_own HD.out).1 (RowB.of_own HD.out).2
        rw [HDG.out] at hcv
        have k2 := (HC9.out.2 2 _ rfl).1
        go_wp2_with fail
        refine (putMd_any i2 1 1 DG _ (by rw [HDS.out]; decide)).mono ?_; rintro e w5 ⟨rfl, hb⟩
        clear hcv k2
        replace HB := Lib.hid (HB.out.trans (hb.mono HB.out.size))
        replace HR := Lib.hid (HR.out.below hb)
        replace HQ := Lib.hid (HQ.out.below hb)
        replace HD := Lib.hid (own_below' HD.out hb)
        replace HC8 := Lib.hid (HC8.out.below hb)
        replace HC9 := Lib.hid (HC9.out.below hb)
        clear hb
        rw [HPE.out, HPS.out]
        clear HD
        clear HC9
        have HQS := Lib.hid (show q2 < w5.heap.size from HQ.out.1)
        have HBS := Lib.hid HB.out.size
        have HQA := Lib.hid (show qa < w5.heap.size from HC8.out.1)
        go_wp2_with fail
        refine (cloneRR a n c l _ HR.out HNA.out (by omega)).mono ?_; rintro e w6 ⟨v9, rfl, ho, hb⟩
        replace HB := Lib.hid (HB.out.trans (hb.mono HB.out.size))
        replace HR := Lib.hid (HR.out.below hb)
        replace HQ := Lib.hid (HQ.out.below hb)
        replace HC8 := Lib.hid (HC8.out.below hb)
        clear hb
        have HQV := Lib.hid (show ∀ k, v9.ownBlock = some k → q2 ≠ k from fun k hk => by have h1 := (ho.lt k hk).1; have h2 := HQS.out; omega)
        have HOC := Lib.hid (own_monoM ho HBS.out)
        have HNE := Lib.hid (show ∀ k, v9.ownBlock = some k → w.heap.size ≤ k ∧ qa ≠ k from fun k hk => ⟨(HOC.out.lt k hk).1, by have h1 := (ho.lt k hk).1; have h2 := HQA.out; omega⟩)
        clear ho
        go_wp2_with fail
        refine (deleteRRM apex q2 w.heap.size v9 n l _ HOC.out (by omega) HQ.out HQV.out).mono ?_; rintro e w7 ⟨v8, rfl, ho, hg⟩
        rw [HTT.out, HM.out] at ho
        have HO8 := Lib.hid ho
        replace HB := Lib.hid (HB.out.grown hg HB.out.size (fun k hk => (HNE.out k hk).1))
        replace HQ := Lib.hid (HQ.out.grown hg (fun e => HQV.out _ e.symm rfl))
        replace HC8 := Lib.hid (HC8.out.grown hg (fun e => (HNE.out _ e.symm).2 rfl))
        clear ho hg HOC HR
        have y0 := (HQ.out.2 0 _ rfl).1
        obtain ⟨x0, x1, x2, x3, x4, _⟩ := HC8.out.u5
        have HAL := Lib.hid ((Below.refl w7.heap.size w7).alloc (Nat.le_refl _) (.cells #[.string apex, .int .i64 63, .int .i64 xc, .int .i64 xu, .string DT] 30))
        go_wp2_with (at_builtin; refine append_cellsK rfl _ _ 22 30 rfl i0 _ 5 56 Try.underlying22 HI.out HZ0.out HZ1.out HZ2.out rfl (by decide) w.heap.size _ m _ rfl (own_below' HO8.out HAL.out) (some ⟨w7.heap.size, 0, none⟩) 1 1 (encR ⟨⟨apex, 63, xc⟩, xu, DT⟩) rfl (fun h => by cases h) (cells_lit w7 #[.string apex, .int .i64 63, .int .i64 xc, .int .i64 xu, .string DT] _) (fun u hu => flatR_oneM (l := [⟨⟨apex, 63, xc⟩, xu, DT⟩]) (by simpa [flatR] using hu)) (by have := HML.out; omega) (by decide) (by have := HB.out.size; simp; omega) ?_)
        intro v' w9 hown' hgrow'
        have HB9 := Lib.hid ((HB.out.trans (HAL.out.mono HB.out.size)).grown hgrow' (by have := HB.out.size; simp; omega) (fun k hk => (HO8.out.lt k hk).1))
        obtain ⟨a7, c7, rfl, _⟩ := own_shapeM hown'
        have HO9 := Lib.hid (show w9.ownsRow w.heap.size 30 5 (.slice a7 (m + 1) c7) (m + 1) (flatR (TT ++ [⟨⟨apex, 63, xc⟩, xu, DT⟩])) by rw [flatR_append]; simpa [flatR] using hown')
        clear hown' hgrow' y0 x0 x1 x2 x3 x4
        go_wp2
        go_ret2
        exact HP.out _ _ _ HO9.out HB9.out
end Go.Proofs.Ytmhiglhgkgannaa
