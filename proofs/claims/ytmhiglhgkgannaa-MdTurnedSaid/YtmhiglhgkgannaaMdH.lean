/- md.Check. -/
import Derived.Test.YtmhiglhgkgannaaMdF
import Derived.Test.YtmhiglhgkgannaaMgC
namespace Go.Proofs.Ytmhiglhgkgannaa
open Go.RowKit

/-- What Check answers. -/
noncomputable def chkE (apex : ByteArray) (l : List R5) : Int :=
  if dgE apex l = 0 then (match onceF mcmp (isSoa apex) l with
    | [x] => if soaOk x.d = true then (match onceF mcmp (isMd1 apex) l with
      | [y] => if getN y.d 0 4 = getN (soaT x.d) 0 4 then (if y.d.extract 6 y.d.size = bs (shaL (dgL apex l)) then 0 else 5) else 12
      | _ => 6) else 11
    | _ => 11) else dgE apex l
theorem chk_dg {apex : ByteArray} {l : List R5} (h : dgE apex l ≠ 0) : chkE apex l = dgE apex l := by rw [chkE, if_neg h]
theorem chk_soa0 {apex : ByteArray} {l o : List R5} (h : dgE apex l = 0) (ho : OnceP mcmp (isSoa apex) l o) (hl : o.length ≠ 1) : chkE apex l = 11 := by
  rw [chkE, if_pos h, ← ho.eqF ord_mcmp]
  match o, hl with
  | [], _ => rfl
  | [_], hl => exact absurd rfl hl
  | _ :: _ :: _, _ => rfl
theorem chk_soa1 {apex : ByteArray} {l : List R5} {x : R5} (h : dgE apex l = 0) (ho : OnceP mcmp (isSoa apex) l [x]) (hs : soaOk x.d = false) : chkE apex l = 11 := by
  rw [chkE, if_pos h, ← ho.eqF ord_mcmp]
  show (if soaOk x.d = true then _ else (11 : Int)) = 11
  rw [hs]; rfl
theorem chk_md0 {apex : ByteArray} {l o : List R5} {x : R5} (h : dgE apex l = 0) (ho : OnceP mcmp (isSoa apex) l [x]) (hs : soaOk x.d = true) (hm : OnceP mcmp (isMd1 apex) l o) (hl : o.length ≠ 1) : chkE apex l = 6 := by
  rw [chkE, if_pos h, ← ho.eqF ord_mcmp, ← hm.eqF ord_mcmp]
  show (if soaOk x.d = true then _ else (11 : Int)) = 6
  rw [if_pos hs]
  match o, hl with
  | [], _ => rfl
  | [_], hl => exact absurd rfl hl
  | _ :: _ :: _, _ => rfl
theorem chk_md1 {apex : ByteArray} {l : List R5} {x y : R5} (h : dgE apex l = 0) (ho : OnceP mcmp (isSoa apex) l [x]) (hs : soaOk x.d = true) (hm : OnceP mcmp (isMd1 apex) l [y]) : chkE apex l = if getN y.d 0 4 = getN (soaT x.d) 0 4 then (if y.d.extract 6 y.d.size = bs (shaL (dgL apex l)) then 0 else 5) else 12 := by
  rw [chkE, if_pos h, ← ho.eqF ord_mcmp, ← hm.eqF ord_mcmp]
  show (if soaOk x.d = true then _ else (11 : Int)) = _
  rw [if_pos hs]
theorem str_eqM {a b : ByteArray} (h : a.toList = b.toList) : a = b := toList_inj5M h
theorem shaL_len (l : List UInt8) : (shaL l).length = 48 := by simp [shaL, words]
theorem RowB.of_own {w : World} {B n c : Nat} {a : Option Addr} {l : List UInt8} (h : w.ownsRow B 5 1 (.slice a n c) n (bc l)) : RowB w a n l ∧ (a = none → n = 0 ∧ c = 0) := by
  have h1 : ValC w (.slice a n c) l := ValC.own h
  obtain ⟨a', c', he, _, hr, hn⟩ := h1
  injection he with e1 e2 e3
  subst e1 e3
  rw [← e2] at hr hn
  exact ⟨hr, hn⟩
set_option maxRecDepth 100000 in
set_option maxHeartbeats 16000000 in
theorem check_any (apex : ByteArray) (a : Option Addr) (n c : Nat) (l : List R5) (w : World) (h : RowR w a n l) (hn : n ≤ 1000) (hs : ∀ r ∈ l, SmX r) (ha : apex.size ≤ 1000000) :
    Calls Try.prog 11 #[.string apex, .slice a n c] w fun e w' => e = .returned (.int .i64 (chkE apex l)) ∧ Below w.heap.size w w' := by
  have HLN := Lib.hid h.1
  have HS := Lib.hid hs
  have HB := Lib.hid (Below.refl w.heap.size w)
  have HR := Lib.hid h
  clear h hs
  go_enter Try.func11, Try.ntmps11
  have hba := (Below.refl _ _ : Below w.heap.size w w).alloc (Nat.le_refl _) (.cells #[.string apex] 9)
  have HQ := Lib.hid (CN.new w #[.string apex] 9)
  replace HB := Lib.hid (HB.out.trans (hba.mono HB.out.size))
  replace HR := Lib.hid (HR.out.below hba)
  obtain ⟨w2, hw⟩ : ∃ x, w.alloc (.cells #[.string apex] 9) = x := ⟨_, rfl⟩
  obtain ⟨q2, hq⟩ : ∃ x, w.heap.size = x := ⟨_, rfl⟩
  rw [hw, hq] at HQ
  rw [hw] at HB HR
  have HW := Lib.hid hw
  have HQ_ := Lib.hid hq
  clear hba hw hq
  go_upto_region 1 with (fail)
  rw [HW.out, HQ_.out]
  clear HW HQ_
  have y0 := (HQ.out.2 0 _ rfl).1
  go_wp2_with fail
  refine (digest_any apex a n c l _ HR.out hn HS.out ha).mono ?_; rintro e w3 ⟨hd, hb⟩
  clear y0
  replace HB := Lib.hid (HB.out.trans (hb.mono HB.out.size))
  replace HR := Lib.hid (HR.out.below hb)
  replace HQ := Lib.hid (HQ.out.below hb)
  clear hb
  rcases hd with ⟨hne, rfl⟩ | ⟨hz, va, vc, rfl, hov⟩
  · obtain ⟨E, hE⟩ : ∃ x, dgE apex l = x := ⟨_, rfl⟩
    have HV := Lib.hid (show E = chkE apex l by rw [chk_dg hne, hE])
    rw [hE] at hne ⊢
    have e1 := nT hne
    clear hE hne
    go_wp2
    go_ret
    exact ⟨ret_int HV.out, HB.out⟩
  · have HD := Lib.hid hov
    have HDZ := Lib.hid hz
    clear hov hz
    have y0 := (HQ.out.2 0 _ rfl).1
    go_wp2_with fail
    refine (soaOf_any apex a n c l _ HR.out hn HS.out).mono ?_; rintro e w4 ⟨hs2, hb⟩
    clear y0
    replace HB := Lib.hid (HB.out.trans (hb.mono HB.out.size))
    replace HR := Lib.hid (HR.out.below hb)
    replace HQ := Lib.hid (HQ.out.below hb)
    replace HD := Lib.hid (own_below' HD.out hb)
    clear hb
    obtain ⟨o, hon, ⟨hl, rfl⟩ | ⟨xn, xt, xc, xu, xd, s0, s1, i2, i3, i4, i5, i6, rfl, hser, rfl⟩⟩ := hs2
    · have HV := Lib.hid (show (11 : Int) = chkE apex l by rw [chk_soa0 HDZ.out hon hl])
      clear hl hon
      have HB2 := Lib.hid ((HB.out.alloc HB.out.size (.cells #[.string ⟨#[]⟩, .int .i64 0, .int .i64 0, .int .i64 0, .string ⟨#[]⟩] 30)).alloc (by have := HB.out.size; rw [World.size_alloc]; omega) (.cells #[.string ⟨#[]⟩, .string ⟨#[]⟩, .int .i64 0, .int .i64 0, .int .i64 0, .int .i64 0, .int .i64 0] 50))
      go_wp2
      go_ret
      exact ⟨ret_int HV.out, HB2.out⟩
    · obtain ⟨bo, hbo⟩ : ∃ x, soaOk xd = x := ⟨_, rfl⟩
      rw [hbo]
      cases bo
      · have HV := Lib.hid (show (11 : Int) = chkE apex l by rw [chk_soa1 HDZ.out hon hbo])
        clear hbo hon hser
        have HB2 := Lib.hid ((HB.out.alloc HB.out.size (.cells #[.string xn, .int .i64 xt, .int .i64 xc, .int .i64 xu, .string xd] 30)).alloc (by have := HB.out.size; rw [World.size_alloc]; omega) (.cells #[.string s0, .string s1, .int .i64 i2, .int .i64 i3, .int .i64 i4, .int .i64 i5, .int .i64 i6] 50))
        go_wp2
        go_ret
        exact ⟨ret_int HV.out, HB2.out⟩
      · have HON := Lib.hid hon
        have HBO := Lib.hid hbo
        have HSER := Lib.hid (hser hbo)
        clear hon hbo hser
        have hba := (Below.refl w4.heap.size w4).alloc (Nat.le_refl _) (.cells #[.string xn, .int .i64 xt, .int .i64 xc, .int .i64 xu, .string xd] 30)
        replace HB := Lib.hid (HB.out.trans (hba.mono HB.out.size))
        replace HR := Lib.hid (HR.out.below hba)
        replace HQ := Lib.hid (HQ.out.below hba)
        replace HD := Lib.hid (own_below' HD.out hba)
        obtain ⟨wa, hwa⟩ : ∃ x, w4.alloc (.cells #[.string xn, .int .i64 xt, .int .i64 xc, .int .i64 xu, .string xd] 30) = x := ⟨_, rfl⟩
        obtain ⟨qa, hqa⟩ : ∃ x, w4.heap.size = x := ⟨_, rfl⟩
        rw [hwa] at HB HR HQ HD
        have hza : wa.heap.size = qa + 1 := by rw [← hwa, World.size_alloc, hqa]
        clear hba
        have hba := (Below.refl wa.heap.size wa).alloc (Nat.le_refl _) (.cells #[.string s0, .string s1, .int .i64 i2, .int .i64 i3, .int .i64 i4, .int .i64 i5, .int .i64 i6] 50)
        have HC8 := Lib.hid (CN.new wa #[.string s0, .string s1, .int .i64 i2, .int .i64 i3, .int .i64 i4, .int .i64 i5, .int .i64 i6] 50)
        replace HB := Lib.hid (HB.out.trans (hba.mono HB.out.size))
        replace HR := Lib.hid (HR.out.below hba)
        replace HQ := Lib.hid (HQ.out.below hba)
        replace HD := Lib.hid (own_below' HD.out hba)
        obtain ⟨wb, hwb⟩ : ∃ x, wa.alloc (.cells #[.string s0, .string s1, .int .i64 i2, .int .i64 i3, .int .i64 i4, .int .i64 i5, .int .i64 i6] 50) = x := ⟨_, rfl⟩
        obtain ⟨q8, hq8⟩ : ∃ x, qa + 1 = x := ⟨_, rfl⟩
        rw [hwb, hza, hq8] at HC8
        rw [hwb] at HB HR HQ HD
        have HW := Lib.hid (And.intro hwa hwb)
        have HQE := Lib.hid (And.intro hqa hq8)
        clear hba hwa hwb hqa hq8 hza
        go_upto_region 5 with (fail)
        rw [HW.out.1, HW.out.2, HQE.out.1]
        rw [HQE.out.2]
        clear HW HQE
        have y0 := (HQ.out.2 0 _ rfl).1
        go_wp2_with fail
        refine (once_md1 apex q2 a n c l _ HR.out (by omega) HS.out HQ.out).mono ?_
        rintro e w5 ⟨fa, fc, o1, m1, rfl, hom, hml, hom1, ho, hb⟩
        clear y0
        replace HB := Lib.hid (HB.out.trans (hb.mono HB.out.size))
        replace HR := Lib.hid (HR.out.below hb)
        replace HQ := Lib.hid (HQ.out.below hb)
        replace HD := Lib.hid (own_below' HD.out hb)
        replace HC8 := Lib.hid (HC8.out.below hb)
        have HO := Lib.hid ho
        have HM1 := Lib.hid hom1
        have HOM := Lib.hid hom
        clear hb ho hom1 hom hml
        by_cases hm : m1 = 1
        rotate_left
        · have e1 := nT (a := (m1 : Int)) (b := 1) (by omega)
          have HV := Lib.hid (show (6 : Int) = chkE apex l by rw [chk_md0 HDZ.out HON.out HBO.out HM1.out (by rw [HOM.out]; exact hm)])
          clear hm
          go_wp2
          go_ret
          exact ⟨ret_int HV.out, HB.out⟩
        · have e1 := nF (a := (m1 : Int)) (b := 1) (by omega)
          obtain ⟨⟨⟨yn, yt, yc⟩, yu, yd⟩, hoy⟩ : ∃ x, o1 = [x] := List.length_eq_one_iff.1 (by rw [HOM.out]; exact hm)
          subst hoy hm
          obtain ⟨f, rfl⟩ : ∃ f, fa = some ⟨f, 0, none⟩ := by
            rcases shape_ownM HO.out with ⟨_, h0, _⟩ | ⟨f, c9, h9⟩
            · cases h0
            · injection h9 with h1; exact ⟨f, h1⟩
          have HC := Lib.hid (own_CN HO.out)
          clear HO HOM
          have hym := (HM1.out.mem _).1 (List.mem_singleton.2 rfl)
          have hyd := (HS.out _ hym.1).2
          have hmd : mayD 63 yd = true := by
            have h2 := hym.2
            rw [isMd1, Bool.and_eq_true] at h2
            exact h2.1
          obtain ⟨g0, hg0⟩ : ∃ x, getN yd 0 4 = x := ⟨_, rfl⟩
          obtain ⟨g1, hg1⟩ : ∃ x, (byteAt yd 4 : Int) = x := ⟨_, rfl⟩
          obtain ⟨g2, hg2⟩ : ∃ x, (byteAt yd 5 : Int) = x := ⟨_, rfl⟩
          obtain ⟨g3, hg3⟩ : ∃ x, yd.extract 6 yd.size = x := ⟨_, rfl⟩
          have HG := Lib.hid (show getMdV yd = .tuple #[.agg #[.int .i64 g0, .int .i64 g1, .int .i64 g2, .string g3], .bool true] by rw [getMdV, if_pos hmd, hg0, hg1, hg2, hg3])
          have HK := Lib.hid (show chkE apex l = if g0 = i2 then (if g3 = bs (shaL (dgL apex l)) then 0 else 5) else 12 by rw [chk_md1 HDZ.out HON.out HBO.out HM1.out, hg0, hg3, HSER.out])
          clear hym hmd hg0 hg1 hg2 hg3
          have c4 := (HC.out.2 4 _ rfl).1
          have i1' : (0 : Int) < ((1 : Nat) : Int) := by omega
          change w5.cell? ⟨f, 4, none⟩ = some (.string yd) at c4
          go_wp2_with fail
          refine (getMd_any yd _ hyd).mono ?_; rintro e w6 ⟨rfl, hb⟩
          clear c4
          replace HB := Lib.hid (HB.out.trans (hb.mono HB.out.size))
          replace HR := Lib.hid (HR.out.below hb)
          replace HQ := Lib.hid (HQ.out.below hb)
          replace HD := Lib.hid (own_below' HD.out hb)
          replace HC8 := Lib.hid (HC8.out.below hb)
          replace HC := Lib.hid (HC.out.below hb)
          clear hb
          rw [HG.out]
          have hba := (Below.refl _ _ : Below w6.heap.size w6 w6).alloc (Nat.le_refl _) (.cells #[.int .i64 g0, .int .i64 g1, .int .i64 g2, .string g3] 32)
          have HMD := Lib.hid (CN.new w6 #[.int .i64 g0, .int .i64 g1, .int .i64 g2, .string g3] 32)
          replace HB := Lib.hid (HB.out.trans (hba.mono HB.out.size))
          replace HR := Lib.hid (HR.out.below hba)
          replace HQ := Lib.hid (HQ.out.below hba)
          replace HD := Lib.hid (own_below' HD.out hba)
          replace HC8 := Lib.hid (HC8.out.below hba)
          replace HC := Lib.hid (HC.out.below hba)
          obtain ⟨w7, hw⟩ : ∃ x, w6.alloc (.cells #[.int .i64 g0, .int .i64 g1, .int .i64 g2, .string g3] 32) = x := ⟨_, rfl⟩
          obtain ⟨q7, hq⟩ : ∃ x, w6.heap.size = x := ⟨_, rfl⟩
          rw [hw, hq] at HMD
          rw [hw] at HB HR HQ HD HC8 HC
          have HW := Lib.hid hw
          have HQ_ := Lib.hid hq
          clear hba hw hq
          go_upto_region 11 with (fail)
          rw [HW.out, HQ_.out]
          clear HW HQ_
          have m0 := (HMD.out.2 0 _ rfl).1
          have m3 := (HMD.out.2 3 _ rfl).1
          have k2 := (HC8.out.2 2 _ rfl).1
          have hcv := conv_row (RowB.of_own HD.out).1 (RowB.of_own HD.out).2
          by_cases h0 : g0 = i2
          rotate_left
          · have e2 := nT h0
            have HV := Lib.hid (show (12 : Int) = chkE apex l by rw [HK.out, if_neg h0])
            clear h0
            go_wp2
            go_ret
            exact ⟨ret_int HV.out, HB.out⟩
          · have e2 := nF h0
            obtain ⟨v, hv⟩ : ∃ v, (g3.toList == (bs (shaL (dgL apex l))).toList) = v := ⟨_, rfl⟩
            obtain ⟨DG, hDG⟩ : ∃ x, bs (shaL (dgL apex l)) = x := ⟨_, rfl⟩
            rw [hDG] at hcv hv HK
            cases v
            · have HV := Lib.hid (show (5 : Int) = chkE apex l by rw [HK.out, if_pos h0, if_neg (fun e => by rw [e] at hv; simp at hv)])
              clear h0 hDG
              go_wp2
              go_ret
              exact ⟨ret_int HV.out, HB.out⟩
            · have HV := Lib.hid (show (0 : Int) = chkE apex l by rw [HK.out, if_pos h0, if_pos (str_eqM (beq_iff_eq.1 hv))])
              clear h0 hDG
              go_wp2
              go_ret
              exact ⟨ret_int HV.out, HB.out⟩
end Go.Proofs.Ytmhiglhgkgannaa
