/- Contracts of package md: a record's form, which records count. -/
import Derived.Test.YtmhiglhgkgannaaMdP
import Derived.Test.YtmhiglhgkgannaaZnK
import Derived.Test.YtmhiglhgkgannaaMgC
import Derived.Test.YtmhiglhgkgannaaMgB
namespace Go.Proofs.Ytmhiglhgkgannaa
open Go.RowKit

theorem hasPrefix_any (s p : ByteArray) (w : World) : Calls Try.prog 55 #[.string s, .string p] w fun e w' => e = .returned (.bool (Lib.hasPrefix s.data.toList p.data.toList)) ∧ w' = w := by
  rw [← Lib.hasPrefix_raw]
  go_enter Try.func55, Try.ntmps55
  go_wp2
  · have h : p.size ≤ s.size := by assumption
    go_ret
    refine ⟨?_, rfl⟩
    show Ending.returned (Value.bool ((s.extract 0 p.size).toList == p.toList)) = _
    simp [h]
  · have h : ¬ p.size ≤ s.size := by assumption
    go_ret
    refine ⟨?_, rfl⟩
    show Ending.returned (Value.bool false) = _
    simp [h]

theorem fm_no {r : R5} (h : mayM r = false) : fmS r = ⟨#[]⟩ ∧ fmE r = 4 := by rw [fmS, fmE, h]; exact ⟨rfl, rfl⟩
theorem fm_yes {r : R5} (h : mayM r = true) : fmS r = fmB r ∧ fmE r = 0 := by rw [fmS, fmE, h]; exact ⟨rfl, rfl⟩
theorem row2_at (w : World) (x y : Int) (T : TypeId) (q : Nat) (h : w.heap.size = q) : Row (w.alloc (.cells #[.int .i64 x, .int .i64 y] T)) (some ⟨q, 0, none⟩) 2 [x, y] := by subst h; exact row2_lit w x y T

set_option maxRecDepth 100000 in
set_option maxHeartbeats 4000000 in
theorem form_any (n : ByteArray) (t c u : Int) (d : ByteArray) (w : World) (hn : n.size ≤ 1000000) (hd : d.size ≤ 1000000) :
    Calls Try.prog 19 #[.agg #[.string n, .int .i64 t, .int .i64 c, .int .i64 u, .string d]] w fun e w' => e = .returned (.tuple #[.string (fmS ⟨⟨n, t, c⟩, u, d⟩), .int .i64 (fmE ⟨⟨n, t, c⟩, u, d⟩)]) ∧ Below w.heap.size w w' := by
  have HC0 := Lib.hid (CN.new w #[.string n, .int .i64 t, .int .i64 c, .int .i64 u, .string d] 30)
  have HB0 := Lib.hid ((Below.refl w.heap.size w).alloc (Nat.le_refl _) (.cells #[.string n, .int .i64 t, .int .i64 c, .int .i64 u, .string d] 30))
  cases m1 : mayM ⟨⟨n, t, c⟩, u, d⟩
  · obtain ⟨h1, h2⟩ := fm_no m1
    rw [h1, h2]
    have M1 := Lib.hid (show mayR n t c u d = false from m1)
    clear h1 h2 m1
    go_enter Try.func19, Try.ntmps19
    obtain ⟨x0, x1, x2, x3, x4, _⟩ := HC0.out.u5
    go_wp2_with fail
    refine (mayRR_any n t c u d _ hn hd).mono ?_; rintro e w1 ⟨rfl, hb⟩
    have HB1 := Lib.hid (HB0.out.trans (hb.mono HB0.out.size))
    clear hb x0 x1 x2 x3 x4
    rw [M1.out]
    go_wp2
    go_ret2
    exact ⟨rfl, HB1.out⟩
  · obtain ⟨h1, h2⟩ := fm_yes m1
    obtain ⟨k1, k2, k3, k4, k5, _⟩ := mayM_parts m1
    have kn := mayN_size k1
    rw [h1, h2]
    have M1 := Lib.hid (show mayR n t c u d = true from m1)
    have E2 := Lib.hid (show joinE 2 [t, c] = 0 by rw [joinE, if_pos (join2_ok k2 k3)])
    have f4 : fits u 4 = true := (fits_iff u 4).2 ⟨by decide, by decide, k4.1, by have h := k4.2; have h' : u ≤ 2147483647 := h; omega⟩
    have E4 := Lib.hid (show putE u 4 = 0 by rw [putE, if_pos f4])
    have E5 := Lib.hid (show putE (d.size : Int) 2 = 0 by rw [putE, if_pos (fits2 ⟨by omega, by have : d.size ≤ 1000 := k5; omega⟩)])
    have z2 : (bs (joinL 2 [t, c])).size = 4 := by rw [bs_size]; exact join2_len k2 k3
    have z4 : (bs (putL u 4)).size = 4 := by rw [bs_size]; exact put4_len f4
    have z5 : (bs (putL (d.size : Int) 2)).size = 2 := by rw [bs_size]; exact put2_len (fits2 ⟨by omega, by have : d.size ≤ 1000 := k5; omega⟩)
    have HF := Lib.hid (show fmB ⟨⟨n, t, c⟩, u, d⟩ = n ++ bs (joinL 2 [t, c]) ++ bs (putL u 4) ++ bs (putL (d.size : Int) 2) ++ d from rfl)
    obtain ⟨F, hF⟩ : ∃ F, fmB ⟨⟨n, t, c⟩, u, d⟩ = F := ⟨_, rfl⟩
    rw [hF] at HF ⊢
    clear h1 h2 m1 k2 k3 k4 hF k1 f4
    obtain ⟨J, hJ⟩ : ∃ J, bs (joinL 2 [t, c]) = J := ⟨_, rfl⟩
    obtain ⟨P, hP⟩ : ∃ P, bs (putL u 4) = P := ⟨_, rfl⟩
    obtain ⟨S, hS⟩ : ∃ S, bs (putL (d.size : Int) 2) = S := ⟨_, rfl⟩
    rw [hJ] at z2
    rw [hP] at z4
    rw [hS] at z5
    rw [hJ, hP, hS] at HF
    have HJ := Lib.hid hJ
    have HP := Lib.hid hP
    have HS := Lib.hid hS
    have a1 : (9223372036854775807 < n.size + J.size) = False := by
      have : n.size ≤ 255 := kn.2
      simp only [eq_iff_iff, iff_false]; omega
    have a2 : (9223372036854775807 < n.size + J.size + P.size) = False := by
      have : n.size ≤ 255 := kn.2
      simp only [eq_iff_iff, iff_false]; omega
    have a3 : (9223372036854775807 < n.size + J.size + P.size + S.size) = False := by
      have : n.size ≤ 255 := kn.2
      simp only [eq_iff_iff, iff_false]; omega
    have a4 : (9223372036854775807 < n.size + J.size + P.size + S.size + d.size) = False := by
      have : n.size ≤ 255 := kn.2
      have : d.size ≤ 1000 := k5
      simp only [eq_iff_iff, iff_false]; omega
    clear hJ hP hS z2 z4 z5 kn k5
    go_enter Try.func19, Try.ntmps19
    obtain ⟨x0, x1, x2, x3, x4, _⟩ := HC0.out.u5
    go_wp2_with fail
    refine (mayRR_any n t c u d _ hn hd).mono ?_; rintro e w1 ⟨rfl, hb⟩
    have HB1 := Lib.hid (HB0.out.trans (hb.mono HB0.out.size))
    have HC1 := Lib.hid (HC0.out.below hb)
    clear hb x0 x1 x2 x3 x4 HC0 HB0
    rw [M1.out]
    obtain ⟨x0, x1, x2, x3, x4, _⟩ := HC1.out.u5
    have hba := (Below.refl w1.heap.size w1).alloc (Nat.le_refl _) (.cells #[.int .i64 t, .int .i64 c] 3)
    have HB2 := Lib.hid (HB1.out.trans (hba.mono HB1.out.size))
    have HC2 := Lib.hid (HC1.out.below hba)
    have HR := Lib.hid (row2_lit w1 t c 3)
    clear hba
    go_wp2_with fail
    refine (join_any 2 _ _ _ [t, c] _ HR.out (by omega)).mono ?_; rintro e w3 ⟨rfl, hb⟩
    have HB3 := Lib.hid (HB2.out.trans (hb.mono HB2.out.size))
    have HC3 := Lib.hid (HC2.out.below hb)
    clear hb x0 x1 x2 x3 x4 HC1 HB1 HC2 HB2 HR
    rw [E2.out, HJ.out]
    obtain ⟨x0, x1, x2, x3, x4, _⟩ := HC3.out.u5
    go_wp2_with fail
    refine (put_any _ _ _).mono ?_; rintro e w4 ⟨rfl, hb⟩
    have HB4 := Lib.hid (HB3.out.trans (hb.mono HB3.out.size))
    have HC4 := Lib.hid (HC3.out.below hb)
    clear hb x0 x1 x2 x3 x4 HC3 HB3
    rw [E4.out, HP.out]
    obtain ⟨x0, x1, x2, x3, x4, _⟩ := HC4.out.u5
    go_wp2_with fail
    refine (put_any _ _ _).mono ?_; rintro e w5 ⟨rfl, hb⟩
    have HB5 := Lib.hid (HB4.out.trans (hb.mono HB4.out.size))
    have HC5 := Lib.hid (HC4.out.below hb)
    clear hb x0 x1 x2 x3 x4 HC4 HB4
    rw [E5.out, HS.out]
    obtain ⟨x0, x1, x2, x3, x4, _⟩ := HC5.out.u5
    go_wp2
    go_ret2
    refine ⟨?_, HB5.out⟩
    rw [HF.out]
    rfl

set_option maxRecDepth 100000 in
set_option maxHeartbeats 4000000 in
theorem counts_any (apex n : ByteArray) (t c u : Int) (d : ByteArray) (w : World) (ha : apex.size ≤ 1000000) (hn : n.size ≤ 1000000) :
    Calls Try.prog 37 #[.string apex, .agg #[.string n, .int .i64 t, .int .i64 c, .int .i64 u, .string d]] w fun e w' => e = .returned (.bool (cntB apex ⟨⟨n, t, c⟩, u, d⟩)) ∧ Below w.heap.size w w' := by
  have HC0 := Lib.hid (CN.new w #[.string n, .int .i64 t, .int .i64 c, .int .i64 u, .string d] 30)
  have HB0 := Lib.hid ((Below.refl w.heap.size w).alloc (Nat.le_refl _) (.cells #[.string n, .int .i64 t, .int .i64 c, .int .i64 u, .string d] 30))
  obtain ⟨v, hv⟩ : ∃ v, (n.toList == apex.toList) = v := ⟨_, rfl⟩
  cases v
  · have hne : ¬ n = apex := fun e => by rw [e] at hv; simp at hv
    have HV := Lib.hid (show cntB apex ⟨⟨n, t, c⟩, u, d⟩ = undS n apex by rw [cntB, if_neg hne])
    clear hne
    go_enter Try.func37, Try.ntmps37
    obtain ⟨x0, x1, x2, x3, x4, _⟩ := HC0.out.u5
    go_wp2_with fail
    refine (under_any n apex _ hn ha).mono ?_; rintro e w1 ⟨rfl, rfl⟩
    go_wp2
    go_ret
    exact ⟨ret_bool HV.out.symm, HB0.out⟩
  · have he : n = apex := by
      have h2 : n.data.toList = apex.data.toList := (bs_toList n.data.toList).symm.trans (Eq.trans (beq_iff_eq.1 hv) (bs_toList apex.data.toList))
      exact ByteArray.ext (Array.toList_inj.1 h2)
    have HV := Lib.hid (show cntB apex ⟨⟨n, t, c⟩, u, d⟩ = (!(t == 63) && !((t == 46) && Lib.hasPrefix d.data.toList [0, 63])) by rw [cntB, if_pos he])
    clear he
    by_cases h1 : t = 63
    · have HW := Lib.hid (show cntB apex ⟨⟨n, t, c⟩, u, d⟩ = false by rw [HV.out, eT h1]; rfl)
      have e1 := nF h1
      clear h1
      go_enter Try.func37, Try.ntmps37
      obtain ⟨x0, x1, x2, x3, x4, _⟩ := HC0.out.u5
      go_wp2
      go_ret
      exact ⟨ret_bool HW.out.symm, HB0.out⟩
    · have e0 := eF h1
      have e1 := nT h1
      by_cases h2 : t = 46
      · have e2 := eT h2
        obtain ⟨b, hb⟩ : ∃ b, Lib.hasPrefix d.data.toList [0, 63] = b := ⟨_, rfl⟩
        have HW := Lib.hid (show cntB apex ⟨⟨n, t, c⟩, u, d⟩ = !b by rw [HV.out, e0, e2, hb]; rfl)
        have HX := Lib.hid (show ∀ wx, Calls Try.prog 55 #[.string d, .string ⟨#[0, 63]⟩] wx fun e w' => e = .returned (.bool b) ∧ w' = wx from fun wx => by have h := hasPrefix_any d ⟨#[0, 63]⟩ wx; rw [← hb]; exact h)
        clear h1 h2 hb e0
        go_enter Try.func37, Try.ntmps37
        obtain ⟨x0, x1, x2, x3, x4, _⟩ := HC0.out.u5
        go_wp2_with fail
        refine (HX.out _).mono ?_; rintro e w1 ⟨rfl, rfl⟩
        cases b
        · go_wp2
          go_ret
          exact ⟨ret_bool HW.out.symm, HB0.out⟩
        · go_wp2
          go_ret
          exact ⟨ret_bool HW.out.symm, HB0.out⟩
      · have e2 := eF h2
        have HW := Lib.hid (show cntB apex ⟨⟨n, t, c⟩, u, d⟩ = true by rw [HV.out, e0, e2]; rfl)
        clear h1 h2 e0
        go_enter Try.func37, Try.ntmps37
        obtain ⟨x0, x1, x2, x3, x4, _⟩ := HC0.out.u5
        go_wp2
        go_ret
        exact ⟨ret_bool HW.out.symm, HB0.out⟩

/-- A ZONEMD of the apex? Its SOA? -/
def isMd (apex : ByteArray) (r : R5) : Bool := (r.k.n.toList == apex.toList) && (r.k.t == 63)
def isSoa (apex : ByteArray) (r : R5) : Bool := (r.k.n.toList == apex.toList) && (r.k.t == 6)
def isMd1 (apex : ByteArray) (r : R5) : Bool := mayD 63 r.d && (isMd apex r && (((byteAt r.d 4 : Int) == 1) && ((byteAt r.d 5 : Int) == 1)))
set_option maxRecDepth 100000 in
set_option maxHeartbeats 4000000 in
theorem isMd_any (apex n : ByteArray) (t c u : Int) (d : ByteArray) (w : World) :
    Calls Try.prog 27 #[.string apex, .agg #[.string n, .int .i64 t, .int .i64 c, .int .i64 u, .string d]] w fun e w' => e = .returned (.bool (isMd apex ⟨⟨n, t, c⟩, u, d⟩)) ∧ Below w.heap.size w w' := by
  have HC0 := Lib.hid (CN.new w #[.string n, .int .i64 t, .int .i64 c, .int .i64 u, .string d] 30)
  have HB0 := Lib.hid ((Below.refl w.heap.size w).alloc (Nat.le_refl _) (.cells #[.string n, .int .i64 t, .int .i64 c, .int .i64 u, .string d] 30))
  obtain ⟨v, hv⟩ : ∃ v, (n.toList == apex.toList) = v := ⟨_, rfl⟩
  cases v
  · have HV := Lib.hid (show isMd apex ⟨⟨n, t, c⟩, u, d⟩ = false by show ((n.toList == apex.toList) && _) = false; rw [hv]; rfl)
    go_enter Try.func27, Try.ntmps27
    obtain ⟨x0, x1, x2, x3, x4, _⟩ := HC0.out.u5
    go_wp2
    go_ret
    exact ⟨ret_bool HV.out.symm, HB0.out⟩
  · obtain ⟨b, hb⟩ : ∃ b, (t == 63) = b := ⟨_, rfl⟩
    have HV := Lib.hid (show isMd apex ⟨⟨n, t, c⟩, u, d⟩ = b by show ((n.toList == apex.toList) && (t == 63)) = b; rw [hv, hb]; rfl)
    go_enter Try.func27, Try.ntmps27
    obtain ⟨x0, x1, x2, x3, x4, _⟩ := HC0.out.u5
    go_wp2
    go_ret
    exact ⟨ret_bool HV.out.symm, HB0.out⟩
set_option maxRecDepth 100000 in
set_option maxHeartbeats 4000000 in
theorem soa1_any (apex n : ByteArray) (t c u : Int) (d : ByteArray) (q : Nat) (w : World) (hq : CN w q [.string apex]) :
    Calls Try.prog 44 #[.agg #[.string n, .int .i64 t, .int .i64 c, .int .i64 u, .string d], .pointer (some ⟨q, 0, none⟩)] w fun e w' => e = .returned (.bool (isSoa apex ⟨⟨n, t, c⟩, u, d⟩)) ∧ Below w.heap.size w w' := by
  have HC0 := Lib.hid (CN.new w #[.string n, .int .i64 t, .int .i64 c, .int .i64 u, .string d] 30)
  have HB0 := Lib.hid ((Below.refl w.heap.size w).alloc (Nat.le_refl _) (.cells #[.string n, .int .i64 t, .int .i64 c, .int .i64 u, .string d] 30))
  have HQ := Lib.hid (hq.below ((Below.refl w.heap.size w).alloc (Nat.le_refl _) (.cells #[.string n, .int .i64 t, .int .i64 c, .int .i64 u, .string d] 30)))
  obtain ⟨v, hv⟩ : ∃ v, (n.toList == apex.toList) = v := ⟨_, rfl⟩
  clear hq
  cases v
  · have HV := Lib.hid (show isSoa apex ⟨⟨n, t, c⟩, u, d⟩ = false by show ((n.toList == apex.toList) && _) = false; rw [hv]; rfl)
    go_enter Try.func44, Try.ntmps44
    obtain ⟨x0, x1, x2, x3, x4, _⟩ := HC0.out.u5
    have y0 := (HQ.out.2 0 _ rfl).1
    go_wp2
    go_ret
    exact ⟨ret_bool HV.out.symm, HB0.out⟩
  · obtain ⟨b, hb⟩ : ∃ b, (t == 6) = b := ⟨_, rfl⟩
    have HV := Lib.hid (show isSoa apex ⟨⟨n, t, c⟩, u, d⟩ = b by show ((n.toList == apex.toList) && (t == 6)) = b; rw [hv, hb]; rfl)
    go_enter Try.func44, Try.ntmps44
    obtain ⟨x0, x1, x2, x3, x4, _⟩ := HC0.out.u5
    have y0 := (HQ.out.2 0 _ rfl).1
    go_wp2
    go_ret
    exact ⟨ret_bool HV.out.symm, HB0.out⟩
set_option maxRecDepth 100000 in
set_option maxHeartbeats 4000000 in
theorem digest1_any (apex n : ByteArray) (t c u : Int) (d : ByteArray) (q : Nat) (w : World) (hq : CN w q [.string apex]) (ha : apex.size ≤ 1000000) (hn : n.size ≤ 1000000) :
    Calls Try.prog 36 #[.agg #[.string n, .int .i64 t, .int .i64 c, .int .i64 u, .string d], .pointer (some ⟨q, 0, none⟩)] w fun e w' => e = .returned (.bool (cntB apex ⟨⟨n, t, c⟩, u, d⟩)) ∧ Below w.heap.size w w' := by
  have HC0 := Lib.hid (CN.new w #[.string n, .int .i64 t, .int .i64 c, .int .i64 u, .string d] 30)
  have HB0 := Lib.hid ((Below.refl w.heap.size w).alloc (Nat.le_refl _) (.cells #[.string n, .int .i64 t, .int .i64 c, .int .i64 u, .string d] 30))
  have HQ := Lib.hid (hq.below ((Below.refl w.heap.size w).alloc (Nat.le_refl _) (.cells #[.string n, .int .i64 t, .int .i64 c, .int .i64 u, .string d] 30)))
  clear hq
  go_enter Try.func36, Try.ntmps36
  obtain ⟨x0, x1, x2, x3, x4, _⟩ := HC0.out.u5
  have y0 := (HQ.out.2 0 _ rfl).1
  go_wp2_with fail
  refine (counts_any apex n t c u d _ ha hn).mono ?_; rintro e w1 ⟨rfl, hb⟩
  have HB1 := Lib.hid (HB0.out.trans (hb.mono HB0.out.size))
  clear hb x0 x1 x2 x3 x4 y0
  go_wp2
  go_ret
  exact ⟨rfl, HB1.out⟩
set_option maxRecDepth 100000 in
set_option maxHeartbeats 4000000 in
theorem sign1_any (apex n : ByteArray) (t c u : Int) (d : ByteArray) (q : Nat) (w : World) (hq : CN w q [.string apex]) :
    Calls Try.prog 26 #[.agg #[.string n, .int .i64 t, .int .i64 c, .int .i64 u, .string d], .pointer (some ⟨q, 0, none⟩)] w fun e w' => e = .returned (.bool (isMd apex ⟨⟨n, t, c⟩, u, d⟩)) ∧ Below w.heap.size w w' := by
  have HC0 := Lib.hid (CN.new w #[.string n, .int .i64 t, .int .i64 c, .int .i64 u, .string d] 30)
  have HB0 := Lib.hid ((Below.refl w.heap.size w).alloc (Nat.le_refl _) (.cells #[.string n, .int .i64 t, .int .i64 c, .int .i64 u, .string d] 30))
  have HQ := Lib.hid (hq.below ((Below.refl w.heap.size w).alloc (Nat.le_refl _) (.cells #[.string n, .int .i64 t, .int .i64 c, .int .i64 u, .string d] 30)))
  clear hq
  go_enter Try.func26, Try.ntmps26
  obtain ⟨x0, x1, x2, x3, x4, _⟩ := HC0.out.u5
  have y0 := (HQ.out.2 0 _ rfl).1
  go_wp2_with fail
  refine (isMd_any apex n t c u d _).mono ?_; rintro e w1 ⟨rfl, hb⟩
  have HB1 := Lib.hid (HB0.out.trans (hb.mono HB0.out.size))
  clear hb x0 x1 x2 x3 x4 y0
  go_wp2
  go_ret
  exact ⟨rfl, HB1.out⟩
set_option maxRecDepth 100000 in
set_option maxHeartbeats 4000000 in
theorem check1_any (apex n : ByteArray) (t c u : Int) (d : ByteArray) (q : Nat) (w : World) (hq : CN w q [.string apex]) (hd : d.size ≤ 1000000) :
    Calls Try.prog 29 #[.agg #[.string n, .int .i64 t, .int .i64 c, .int .i64 u, .string d], .pointer (some ⟨q, 0, none⟩)] w fun e w' => e = .returned (.bool (isMd1 apex ⟨⟨n, t, c⟩, u, d⟩)) ∧ Below w.heap.size w w' := by
  have HC0 := Lib.hid (CN.new w #[.string n, .int .i64 t, .int .i64 c, .int .i64 u, .string d] 30)
  have HB0 := Lib.hid ((Below.refl w.heap.size w).alloc (Nat.le_refl _) (.cells #[.string n, .int .i64 t, .int .i64 c, .int .i64 u, .string d] 30))
  have HQ := Lib.hid (hq.below ((Below.refl w.heap.size w).alloc (Nat.le_refl _) (.cells #[.string n, .int .i64 t, .int .i64 c, .int .i64 u, .string d] 30)))
  clear hq
  cases m1 : mayD 63 d
  · have HV := Lib.hid (show isMd1 apex ⟨⟨n, t, c⟩, u, d⟩ = false by show (mayD 63 d && _) = false; rw [m1]; rfl)
    have HG := Lib.hid (show getMdV d = .tuple #[.agg #[.int .i64 0, .int .i64 0, .int .i64 0, .string ⟨#[]⟩], .bool false] by rw [getMdV, m1]; rfl)
    clear m1
    go_enter Try.func29, Try.ntmps29
    obtain ⟨x0, x1, x2, x3, x4, _⟩ := HC0.out.u5
    go_wp2_with fail
    refine (getMd_any d _ hd).mono ?_; rintro e w1 ⟨rfl, hb⟩
    have HB1 := Lib.hid (HB0.out.trans (hb.mono HB0.out.size))
    have HB2 := Lib.hid (HB1.out.alloc HB1.out.size (.cells #[.int .i64 0, .int .i64 0, .int .i64 0, .string ⟨#[]⟩] 32))
    clear hb x0 x1 x2 x3 x4
    rw [HG.out]
    go_wp2
    go_ret
    exact ⟨ret_bool HV.out.symm, HB2.out⟩
  · obtain ⟨g0, hg0⟩ : ∃ x, getN d 0 4 = x := ⟨_, rfl⟩
    obtain ⟨g1, hg1⟩ : ∃ x, (byteAt d 4 : Int) = x := ⟨_, rfl⟩
    obtain ⟨g2, hg2⟩ : ∃ x, (byteAt d 5 : Int) = x := ⟨_, rfl⟩
    obtain ⟨g3, hg3⟩ : ∃ x, d.extract 6 d.size = x := ⟨_, rfl⟩
    have HG := Lib.hid (show getMdV d = .tuple #[.agg #[.int .i64 g0, .int .i64 g1, .int .i64 g2, .string g3], .bool true] by rw [getMdV, m1, hg0, hg1, hg2, hg3]; rfl)
    have HV := Lib.hid (show isMd1 apex ⟨⟨n, t, c⟩, u, d⟩ = (isMd apex ⟨⟨n, t, c⟩, u, d⟩ && ((g1 == 1) && (g2 == 1))) by show (mayD 63 d && (_ && (((byteAt d 4 : Int) == 1) && ((byteAt d 5 : Int) == 1)))) = _; rw [m1, hg1, hg2]; rfl)
    obtain ⟨v, hv⟩ : ∃ v, isMd apex ⟨⟨n, t, c⟩, u, d⟩ = v := ⟨_, rfl⟩
    rw [hv] at HV
    have HI := Lib.hid (show ∀ wx, Calls Try.prog 27 #[.string apex, .agg #[.string n, .int .i64 t, .int .i64 c, .int .i64 u, .string d]] wx fun e w' => e = .returned (.bool v) ∧ Below wx.heap.size wx w' from fun wx => by rw [← hv]; exact isMd_any apex n t c u d wx)
    clear m1 hg0 hg1 hg2 hg3 hv
    go_enter Try.func29, Try.ntmps29
    obtain ⟨x0, x1, x2, x3, x4, _⟩ := HC0.out.u5
    go_wp2_with fail
    refine (getMd_any d _ hd).mono ?_; rintro e w1 ⟨rfl, hb⟩
    have HB1 := Lib.hid (HB0.out.trans (hb.mono HB0.out.size))
    have HC1 := Lib.hid (HC0.out.below hb)
    have HQ1 := Lib.hid (HQ.out.below hb)
    clear hb x0 x1 x2 x3 x4 HC0 HB0 HQ
    rw [HG.out]
    have hba := (Below.refl w1.heap.size w1).alloc (Nat.le_refl _) (.cells #[.int .i64 g0, .int .i64 g1, .int .i64 g2, .string g3] 32)
    have HM := Lib.hid (CN.new w1 #[.int .i64 g0, .int .i64 g1, .int .i64 g2, .string g3] 32)
    have HB2 := Lib.hid (HB1.out.trans (hba.mono HB1.out.size))
    have HC2 := Lib.hid (HC1.out.below hba)
    have HQ2 := Lib.hid (HQ1.out.below hba)
    clear hba HB1 HC1 HQ1
    go_upto_region 2 with (fail)
    obtain ⟨w2, hw2⟩ : ∃ x, w1.alloc (.cells #[.int .i64 g0, .int .i64 g1, .int .i64 g2, .string g3] 32) = x := ⟨_, rfl⟩
    obtain ⟨q2, hq2⟩ : ∃ x, w1.heap.size = x := ⟨_, rfl⟩
    rw [hw2] at HM HB2 HC2 HQ2 ⊢
    rw [hq2] at HM ⊢
    clear hw2 hq2 HG
    obtain ⟨x0, x1, x2, x3, x4, _⟩ := HC2.out.u5
    have y0 := (HQ2.out.2 0 _ rfl).1
    go_wp2_with fail
    refine (HI.out _).mono ?_; rintro e w3 ⟨rfl, hb⟩
    have HB3 := Lib.hid (HB2.out.trans (hb.mono HB2.out.size))
    have HM3 := Lib.hid (HM.out.below hb)
    clear hb x0 x1 x2 x3 x4 y0 HB2 HM HC2 HQ2
    have z1 := (HM3.out.2 1 _ rfl).1
    have z2 := (HM3.out.2 2 _ rfl).1
    cases v
    · have HW := Lib.hid (show isMd1 apex ⟨⟨n, t, c⟩, u, d⟩ = false by rw [HV.out]; rfl)
      go_wp2
      go_ret
      exact ⟨ret_bool HW.out.symm, HB3.out⟩
    · by_cases h1 : g1 = 1
      · have e1 := eT h1
        obtain ⟨b, hb⟩ : ∃ b, (g2 == 1) = b := ⟨_, rfl⟩
        have HW := Lib.hid (show isMd1 apex ⟨⟨n, t, c⟩, u, d⟩ = b by rw [HV.out, e1, hb]; rfl)
        clear h1
        go_wp2
        go_ret
        exact ⟨ret_bool HW.out.symm, HB3.out⟩
      · have e1 := eF h1
        have HW := Lib.hid (show isMd1 apex ⟨⟨n, t, c⟩, u, d⟩ = false by rw [HV.out, e1]; rfl)
        clear h1
        go_wp2
        go_ret
        exact ⟨ret_bool HW.out.symm, HB3.out⟩
end Go.Proofs.Ytmhiglhgkgannaa
