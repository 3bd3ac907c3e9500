/- NameTree: the walk for two names. -/
import Derived.Test.YtngncdmmlkcekaaNTre
namespace Go.Proofs.Ytngncdmmlkcekaa
open Go.RowKit

theorem rowS_lit1' (w : World) (g : Nat) (s : ByteArray) (t : TypeId) (h : w.heap.size = g) : RowS (w.alloc (.cells #[.string s] t)) (some ⟨g, 0, none⟩) 1 [s] := by
  subst h
  exact rowS_lit1 w s t
set_option maxRecDepth 100000 in
set_option maxHeartbeats 6400000 in
theorem ntree_yes (L M : List ByteArray) (a b c : ByteArray) (w : World) (z1 : a.size ≤ 2000) (z2 : b.size ≤ 2000) (z3 : c.size ≤ 2000) (hL : OkL L) (hM : OkL M) (hlz : off L L.length ≤ 254) (hmz : off M M.length ≤ 254) (ha : a = nameB L) (hb : b = nameB M) :
    Calls Try.prog 6 #[.string a, .string b, .string c] w fun e w' => e = .returned (.bool true) ∧ Below w.heap.size w w' := by
  have d1 := dF (p := (2000 : Int) < (a.size : Int)) (by omega)
  have d2 := dF (p := (2000 : Int) < (b.size : Int)) (by omega)
  have d3 := dF (p := (2000 : Int) < (c.size : Int)) (by omega)
  have hrx := ord_cmpS.rng a b
  have hax := ord_cmpS.anti a b
  have hzx := ord_cmpS.zero a b
  have htx := ord_cmpS.trans a b c
  have hgx := cmpS_ge a b c
  obtain ⟨x, hx⟩ : ∃ x, cmpS a b = x := ⟨_, rfl⟩
  obtain ⟨y, hy⟩ : ∃ x, cmpS b c = x := ⟨_, rfl⟩
  obtain ⟨z, hz⟩ : ∃ x, cmpS a c = x := ⟨_, rfl⟩
  obtain ⟨v, hv⟩ : ∃ x, cmpS b a = x := ⟨_, rfl⟩
  obtain ⟨q, hq⟩ : ∃ q, (a.toList == b.toList) = q := ⟨_, rfl⟩
  have hq2 : (x == 0) = q := by
    rw [← hq, Bool.eq_iff_iff, beq_iff_eq, beq_iff_eq, ← hx, hzx]
    exact ⟨fun h => by rw [h], toList_inj⟩
  rw [hx] at hrx hax htx hgx
  rw [hy] at htx hgx
  rw [hz] at htx hgx
  rw [hv] at hax
  have HX := Lib.hid hx
  have HY := Lib.hid hy
  have HZ := Lib.hid hz
  have HW := Lib.hid hv
  have w9 : IntKind.i64.wrap (-v) = x := by rw [IntKind.wrap_i64]; omega
  have u1 := dF (p := x < (-1 : Int)) (by omega)
  have u2 := dF (p := (1 : Int) < x) (by omega)
  have HD := Lib.hid (show (decide (x ≤ 0) = true ∧ decide (y ≤ 0) = false ∧ decide (0 ≤ x) = false) ∨ (decide (x ≤ 0) = false ∧ decide (0 ≤ x) = true ∧ decide (0 ≤ y) = false) ∨ (decide (x ≤ 0) = true ∧ decide (y ≤ 0) = true ∧ decide (0 < z) = false ∧ decide (0 ≤ x) = true ∧ decide (0 ≤ y) = false) ∨ (decide (x ≤ 0) = true ∧ decide (y ≤ 0) = true ∧ decide (0 < z) = false ∧ decide (0 ≤ x) = true ∧ decide (0 ≤ y) = true ∧ decide (z < 0) = false) ∨ (decide (x ≤ 0) = true ∧ decide (y ≤ 0) = false ∧ decide (0 ≤ x) = true ∧ decide (0 ≤ y) = true ∧ decide (z < 0) = false) ∨ (decide (x ≤ 0) = true ∧ decide (y ≤ 0) = false ∧ decide (0 ≤ x) = false) ∨ (decide (x ≤ 0) = true ∧ decide (y ≤ 0) = true ∧ decide (0 < z) = false ∧ decide (0 ≤ x) = false) ∨ (decide (x ≤ 0) = false ∧ decide (0 ≤ x) = true ∧ decide (0 ≤ y) = true ∧ decide (z < 0) = false) by
    simp only [decide_eq_true_eq, decide_eq_false_iff_not]; omega)
  have HLz := Lib.hid (And.intro hL hlz)
  have ma : mayN a = true := by rw [ha]; exact labels_may hL hlz
  have mb : mayN b = true := by rw [hb]; exact labels_may hM hmz
  have la : labs a = L := labs_eq hL hlz ha
  have lb : labs b = M := labs_eq hM hmz hb
  have hroot : OkL ([] : List ByteArray) := fun k hk => by simp at hk
  have hrootn : (⟨#[0]⟩ : ByteArray) = nameB [] := rfl
  have hrl := root_toList L hL
  rw [← ha] at hrl
  have hund : undS a b = undL L M := by rw [undS, ma, mb, la, lb]; rfl
  have HUR := Lib.hid (show undS a ⟨#[0]⟩ = true by rw [undS, ma, hrootn, labels_may hroot (by decide), labs_name hroot (by decide), la, undL_nil]; rfl)
  have HUA := Lib.hid (show undS a a = true by rw [undS, ma, la, undL_refl]; rfl)
  obtain ⟨jD, hjD, hDe, _⟩ := comN_drop L [M]
  obtain ⟨cu1, cu2⟩ := comN_und L M
  have hDo := comN_ok hL hlz [M]
  have HCA := Lib.hid (show comS a [b] = nameB (comN L [M]) by rw [comS, ma, la]; simp [mb, lb])
  have HCB := Lib.hid (show comS b [a] = nameB (comN L [M]) by rw [comS, mb, lb, comN_sym L M]; simp [ma, la])
  have hmost := fun D h1 h2 => comN_most (L := L) (M := M) (D := D) h1 h2
  have hci := comN_is L M
  have hxge : undL L M = true → 0 ≤ x := by
    intro h
    have := und_cmp h
    rw [← hx, cmpS, if_pos ma, if_pos mb, la, lb]; exact this
  have hpar : ∀ s T, L = s :: T → undS a (nameB T) = true ∧ undS (nameB T) a = false ∧ (nameB T).size ≤ 255 := by
    rintro s T rfl
    have hT : OkL T := okL_tail hL
    have hTz : off T T.length ≤ 254 := Nat.le_trans (off_drop (s :: T) 1 (by simp)) hlz
    refine ⟨?_, ?_, by rw [nameB_size]; omega⟩
    · rw [undS, ma, labels_may hT hTz, labs_name hT hTz, la]
      simp only [Bool.true_and]
      exact (undL_iff _ _).2 ⟨1, by simp, rfl⟩
    · rw [undS, ma, labels_may hT hTz, labs_name hT hTz, la]
      simp only [Bool.true_and]
      unfold undL
      exact dF (by simp)
  obtain ⟨D, hD⟩ : ∃ D, comN L [M] = D := ⟨_, rfl⟩
  rw [hD] at hDe cu1 cu2 hDo HCA HCB hmost hci
  have HK1 := Lib.hid (show undS a (nameB D) = true by rw [undS, ma, labels_may hDo.1 hDo.2, labs_name hDo.1 hDo.2, la, cu1]; rfl)
  have HK2 := Lib.hid (show undS b (nameB D) = true by rw [undS, mb, labels_may hDo.1 hDo.2, labs_name hDo.1 hDo.2, lb, cu2]; rfl)
  have hkb : ((nameB D).toList == b.toList) = undL L M := by
    rw [Bool.eq_iff_iff, beq_iff_eq, hci]
    constructor
    · intro h
      have h2 : nameB D = nameB M := (toList_inj h).trans hb
      exact nameB_inj hDo.1 hM h2
    · intro h; rw [h, ← hb]
  have hstep : ∀ j, j < jD → j < L.length ∧ undS b (nameB (L.drop j)) = false ∧ ((nameB (L.drop j)).toList == (nameB D).toList) = false ∧ (nameB D).size < (nameB (L.drop j)).size ∧ (nameB (L.drop j)).size ≤ 255 ∧ OkL (L.drop j) ∧ off (L.drop j) (L.drop j).length ≤ 254 ∧ parS (L.drop j) = nameB (L.drop (j + 1)) ∧ parB (L.drop j) = true := by
    intro j hj
    have hjl : j < L.length := by omega
    have ho := drop_ok hL j
    have hoz := Nat.le_trans (off_drop L j (by omega)) hlz
    have hlen : D.length < (L.drop j).length := by rw [hDe, List.length_drop, List.length_drop]; omega
    have hszz : (nameB D).size < (nameB (L.drop j)).size := by
      have e1 : (nameB D).size = (nameL D).length := by rw [nameB, bs_size]
      have e2 : (nameB (L.drop j)).size = (nameL (L.drop j)).length := by rw [nameB, bs_size]
      have k1 := congrArg List.length (name_drop L jD hjD)
      have k2 := congrArg List.length (name_drop L j (by omega))
      rw [List.length_drop, size_data, nameB_size] at k1 k2
      have k3 := off_lt L hL hj hjD
      have k4 := off_mono L hjD
      rw [e1, e2, hDe, ← k1, ← k2]
      omega
    have hcons := drop_cons_tx L j hjl
    refine ⟨hjl, ?_, ?_, hszz, by rw [nameB_size]; omega, ho, hoz, by rw [hcons]; rfl, by rw [hcons]; rfl⟩
    · rw [undS, mb, labels_may ho hoz, labs_name ho hoz, lb]
      simp only [Bool.true_and]
      cases h : undL M (L.drop j)
      · rfl
      · have := hmost (L.drop j) ((undL_iff _ _).2 ⟨j, by omega, rfl⟩) h
        omega
    · rw [beq_eq_false_iff_ne]
      intro h
      have := congrArg ByteArray.size (toList_inj h)
      omega
  obtain ⟨u, hu⟩ : ∃ u, undL L M = u := ⟨_, rfl⟩
  rw [hu] at hund hkb hxge
  have hsD : (nameB D).size ≤ 255 := by rw [nameB_size]; omega
  have HST := Lib.hid hstep
  have HLC := Lib.hid (show (L.isEmpty = true ∧ parB L = false) ∨ (L.isEmpty = false ∧ parB L = true ∧ undS a (parS L) = true ∧ undS (parS L) a = false ∧ (parS L).size ≤ 255) by
    cases hLL : L with
    | nil => exact Or.inl ⟨rfl, rfl⟩
    | cons s T => exact Or.inr ⟨rfl, rfl, hpar s T hLL⟩)
  have HDE := Lib.hid hDe
  have HUAB := Lib.hid hund
  have HXG := Lib.hid hxge
  have HMA := Lib.hid ma
  have HMB := Lib.hid mb
  have HA := Lib.hid ha
  have hjD' := hjD
  obtain ⟨k, hk⟩ : ∃ k, nameB D = k := ⟨_, rfl⟩
  rw [hk] at HCA HCB HK1 HK2 hkb hsD HST
  have HKD := Lib.hid hk
  clear hrx hax hzx htx hgx hx hy hz hv ma mb la lb hroot hrootn hL hM hlz hmz ha hb hund hmost hci hxge hpar hD hDe cu1 cu2 hDo hstep hu hk hjD
  go_enter Try.func6, Try.ntmps6
  go_wp2_with fail
  refine (first2 _).mono ?_; rintro e w1 ⟨rfl, hb⟩
  have HB1 := Lib.hid hb; clear hb
  go_wp2_with fail
  refine (compare_any _ _ _ (by omega) (by omega)).mono ?_; rintro e w2 ⟨rfl, hb⟩
  have HB2 := Lib.hid (HB1.out.trans (hb.mono HB1.out.size)); clear hb
  rw [HX.out]
  go_wp2_with fail
  refine (compare_any _ _ _ (by omega) (by omega)).mono ?_; rintro e w3 ⟨rfl, hb⟩
  have HB3 := Lib.hid (HB2.out.trans (hb.mono HB2.out.size)); clear hb
  rw [HY.out]
  go_wp2_with fail
  refine (compare_any _ _ _ (by omega) (by omega)).mono ?_; rintro e w4 ⟨rfl, hb⟩
  have HB4 := Lib.hid (HB3.out.trans (hb.mono HB3.out.size)); clear hb
  rw [HZ.out]
  go_upto_region 6 with fail
  go_cut [84] (fun s wx => s = .bool false ∧ Below w.heap.size w wx)
  case first =>
    have hd := HD.out
    rcases hd with ⟨t1, t2, t3⟩ | ⟨t1, t2, t3⟩ | ⟨t1, t2, t3, t4, t5⟩ | ⟨t1, t2, t3, t4, t5, t6⟩ | ⟨t1, t2, t3, t4, t5⟩ | ⟨t1, t2, t3⟩ | ⟨t1, t2, t3, t4⟩ | ⟨t1, t2, t3, t4⟩
    all_goals
      go_wp2_with fail
      refine (compare_any _ _ _ (by omega) (by omega)).mono ?_; rintro e w5 ⟨rfl, hb⟩
      have HB5 := Lib.hid (HB4.out.trans (hb.mono HB4.out.size)); clear hb
      rw [HW.out]
      go_wp2_with fail
      go_meet
      exact ⟨rfl, HB5.out⟩
  case rest =>
  obtain ⟨rfl, hbc⟩ := hcut
  have HBc := Lib.hid hbc
  clear hbc hq hq2 w9 u1 u2 HD HX HY HZ HW d1 d2 d3
  go_wp2_with fail
  refine (nmay_any _ _ (by omega)).mono ?_; rintro e w' ⟨rfl, rfl⟩
  rw [HMA.out]
  go_wp2_with fail
  refine (nmay_any _ _ (by omega)).mono ?_; rintro e w' ⟨rfl, rfl⟩
  rw [HMB.out]
  have hBx : ∀ n, n ≤ 2000 → n ≤ 1000000 := fun n h => by omega
  go_upto_region 10 with fail
  go_cut [124] (fun s wx => s = .bool false ∧ Below w.heap.size w wx)
  case first =>
    cases u
    · go_wp2_with fail
      refine (under_any _ _ _ (by omega) (by omega)).mono ?_; rintro e w' ⟨rfl, rfl⟩
      rw [HUAB.out]
      go_wp2_with fail
      refine (under_any _ _ _ (by omega) (by decide)).mono ?_; rintro e w' ⟨rfl, rfl⟩
      rw [HUR.out]
      go_wp2_with fail
      refine (under_any _ _ _ (by omega) (by omega)).mono ?_; rintro e w' ⟨rfl, rfl⟩
      rw [HUA.out]
      go_wp2_with fail
      go_meet
      exact ⟨rfl, HBc.out⟩
    · have t9 := dF (p := x < (0 : Int)) (by have := HXG.out rfl; omega)
      go_wp2_with fail
      refine (under_any _ _ _ (by omega) (by omega)).mono ?_; rintro e w' ⟨rfl, rfl⟩
      rw [HUAB.out]
      go_wp2_with fail
      refine (under_any _ _ _ (by omega) (by decide)).mono ?_; rintro e w' ⟨rfl, rfl⟩
      rw [HUR.out]
      go_wp2_with fail
      refine (under_any _ _ _ (by omega) (by omega)).mono ?_; rintro e w' ⟨rfl, rfl⟩
      rw [HUA.out]
      go_wp2_with fail
      go_meet
      exact ⟨rfl, HBc.out⟩
  case rest =>
  obtain ⟨rfl, hbc⟩ := hcut
  have HBd := Lib.hid hbc
  clear hbc HBc
  go_wp2_with fail
  have hpp := fun w => parent_yes L w HLz.out.1 HLz.out.2
  rw [← HA.out] at hpp
  refine (hpp _).mono ?_; rintro e w' ⟨rfl, rfl⟩
  clear hpp
  obtain ⟨o, ho⟩ : ∃ o, parB L = o := ⟨_, rfl⟩
  obtain ⟨p, hp⟩ : ∃ p, parS L = p := ⟨_, rfl⟩
  obtain ⟨em, hem⟩ : ∃ m, L.isEmpty = m := ⟨_, rfl⟩
  rw [ho, hp, hem] at HLC
  rw [hem] at hrl
  rw [ho, hp]
  clear ho hp hem
  go_upto_region 13 with fail
  go_cut [147] (fun s wx => s = .bool false ∧ Below w.heap.size w wx)
  case first =>
    rcases HLC.out with ⟨rfl, rfl⟩ | ⟨rfl, rfl, p1, p2, p3⟩
    · go_wp2_with fail
      go_meet
      exact ⟨rfl, HBd.out⟩
    · have P1 := Lib.hid p1
      have P2 := Lib.hid p2
      clear p1 p2
      go_wp2_with fail
      refine (under_any _ _ _ (by omega) (by omega)).mono ?_; rintro e w' ⟨rfl, rfl⟩
      rw [P1.out]
      go_wp2_with fail
      refine (under_any _ _ _ (by omega) (by omega)).mono ?_; rintro e w' ⟨rfl, rfl⟩
      rw [P2.out]
      go_wp2_with fail
      go_meet
      exact ⟨rfl, HBd.out⟩
  case rest =>
  obtain ⟨rfl, hbc⟩ := hcut
  have HBe := Lib.hid hbc
  clear hbc HBd
  go_wp2_with fail
  refine (common_any _ _ _ _ [b] _ (rowS_lit1 _ _ _) (by omega) (by omega) (lit_sz (by omega))).mono ?_; rintro e w' ⟨rfl, rfl⟩
  rw [HCA.out]
  go_wp2_with fail
  refine (under_any _ _ _ (by omega) (by omega)).mono ?_; rintro e w' ⟨rfl, rfl⟩
  rw [HK1.out]
  go_wp2_with fail
  refine (under_any _ _ _ (by omega) (by omega)).mono ?_; rintro e w' ⟨rfl, rfl⟩
  rw [HK2.out]
  go_wp2_with fail
  refine (common_any _ _ _ _ [a] _ (rowS_lit1' _ _ _ _ (by simp)) (by omega) (by omega) (lit_sz (by omega))).mono ?_; rintro e w' ⟨rfl, rfl⟩
  rw [HCB.out]
  go_wp2_with fail
  go_loopw [13] (fun z wr => ∃ j : Nat, j ≤ jD ∧ z = .string (nameB (L.drop j)) ∧ Below w.heap.size w wr) (fun z _ => strOf z)
  case atStart => exact ⟨0, Nat.zero_le _, by rw [List.drop_zero, ← HA.out], (HBe.out.alloc HBe.out.size _).alloc (by have := HBe.out.size; simp; omega) _⟩
  case round =>
    obtain ⟨j, hj, rfl, hbr⟩ := hrel
    have HBr := Lib.hid hbr
    clear hbr
    by_cases hlt : j < jD
    · obtain ⟨s1, s2, s3, s4, s5, s6, s7, s8, s9⟩ := HST.out j hlt
      have hpar := fun w => parent_yes (L.drop j) w s6 s7
      rw [s8, s9] at hpar
      have h4 := (tail_ok s6 s7 (by intro h; have := congrArg List.length h; rw [List.length_drop] at this; simp at this; omega)).2.2.2
      rw [List.tail_drop] at h4
      obtain ⟨qv, hqv⟩ : ∃ q, nameB (L.drop j) = q := ⟨_, rfl⟩
      rw [hqv] at s2 s3 s4 s5 hpar h4 ⊢
      have S2 := Lib.hid s2
      have HP := Lib.hid hpar
      have H4 := Lib.hid h4
      have e4 := dT s4
      clear s1 s2 s6 s7 s8 s9 hpar h4 hqv
      go_wp2_with fail
      refine (under_any _ _ _ (by omega) (by omega)).mono ?_; rintro e w' ⟨rfl, rfl⟩
      rw [S2.out]
      go_wp2_with fail
      refine (HP.out _).mono ?_; rintro e w' ⟨rfl, rfl⟩
      go_wp2
      go_roundw
      case rel => exact ⟨j + 1, by omega, rfl, HBr.out⟩
      case measure => exact H4.out
    · have hjj : j = jD := by omega
      subst hjj
      have hkk : nameB (L.drop j) = k := by rw [← HDE.out]; exact HKD.out
      rw [hkk]
      clear hkk
      go_wp2_with fail
      refine (first2 _).mono ?_; rintro e w8 ⟨rfl, hb⟩
      have HB9 := Lib.hid (HBr.out.trans (hb.mono HBr.out.size)); clear hb
      go_wp2_with fail
      refine (under_any _ _ _ (by omega) (by omega)).mono ?_; rintro e w' ⟨rfl, rfl⟩
      rw [HUAB.out]
      go_wp2
      go_ret
      exact ⟨rfl, HB9.out⟩
end Go.Proofs.Ytngncdmmlkcekaa
