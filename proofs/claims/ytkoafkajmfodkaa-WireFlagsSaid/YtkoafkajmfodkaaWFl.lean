/- WireFlags: the walk. -/
import Derived.Test.YtkoafkajmfodkaaEc5
import Derived.Test.YtkoafkajmfodkaaFc5
namespace Go.Proofs.Ytkoafkajmfodkaa
open Go.RowKit

theorem list8 {l : List Value} (h : l.length = 8) : ∃ a b c d e f g k, l = [a, b, c, d, e, f, g, k] := by
  match l, h with
  | [a, b, c, d, e, f, g, k], _ => exact ⟨a, b, c, d, e, f, g, k, rfl⟩
theorem cn8 {w : World} {q : Nat} {c0 c1 c2 c3 c4 c5 c6 c7 : Value} (h : CN w q [c0, c1, c2, c3, c4, c5, c6, c7]) : w.cell? ⟨q, 0, none⟩ = some c0 ∧ w.cell? ⟨q, 1, none⟩ = some c1 ∧ w.cell? ⟨q, 2, none⟩ = some c2 ∧ w.cell? ⟨q, 3, none⟩ = some c3 ∧ w.cell? ⟨q, 4, none⟩ = some c4 ∧ w.cell? ⟨q, 5, none⟩ = some c5 ∧ w.cell? ⟨q, 6, none⟩ = some c6 ∧ w.cell? ⟨q, 7, none⟩ = some c7 ∧ True :=
  ⟨(h.2 0 _ rfl).1, (h.2 1 _ rfl).1, (h.2 2 _ rfl).1, (h.2 3 _ rfl).1, (h.2 4 _ rfl).1, (h.2 5 _ rfl).1, (h.2 6 _ rfl).1, (h.2 7 _ rfl).1, trivial⟩
set_option maxRecDepth 100000 in
set_option maxHeartbeats 16000000 in
theorem walkFlags (i o r : Int) (b1 b2 b3 b4 b5 : Bool) (fl : Int) (w : World) :
    Calls Try.prog 7 #[.agg #[.int .i64 i, .int .i64 o, .int .i64 r, .bool b1, .bool b2, .bool b3, .bool b4, .bool b5], .int .i64 fl] w fun e w' => e = .returned (.bool true) ∧ Below w.heap.size w w' := by
  have hb0 := (Below.refl w.heap.size w).alloc (Nat.le_refl _) (.cells #[.int .i64 i, .int .i64 o, .int .i64 r, .bool b1, .bool b2, .bool b3, .bool b4, .bool b5] 23)
  have HC := Lib.hid (CN.new w #[.int .i64 i, .int .i64 o, .int .i64 r, .bool b1, .bool b2, .bool b3, .bool b4, .bool b5] 23)
  have HB := Lib.hid hb0
  obtain ⟨q, hq⟩ : ∃ x, w.heap.size = x := ⟨_, rfl⟩
  rw [hq] at HC
  have HQ := Lib.hid hq
  clear hb0 hq
  go_enter Try.func7, Try.ntmps7
  go_wp2_with fail
  refine (first5 _).mono ?_; rintro e w2 ⟨rfl, hb⟩
  rw [HQ.out]
  replace HC := Lib.hid (HC.out.below hb)
  replace HB := Lib.hid (HB.out.trans (hb.mono HB.out.size))
  clear hb
  obtain ⟨y0, y1, y2, y3, y4, y5, y6, y7, -⟩ := cn8 HC.out
  go_wp2_with fail
  refine (flags_any _ _ _ _ _ _ _ _ _).mono ?_; rintro e w3 ⟨rfl, hb⟩
  clear y0 y1 y2 y3 y4 y5 y6 y7
  replace HC := Lib.hid (HC.out.below hb)
  replace HB := Lib.hid (HB.out.trans (hb.mono HB.out.size))
  clear hb
  cases hk : okF o r with
  | false =>
    simp only [Bool.false_eq_true, if_false]
    have HK := Lib.hid hk
    clear hk
    obtain ⟨y0, y1, y2, y3, y4, y5, y6, y7, -⟩ := cn8 HC.out
    by_cases g1 : 0 ≤ o
    rotate_left
    · have d1 := dF g1
      clear g1
      cases hf : inR fl 65535 with
      | false =>
        go_wp2_with fail
        refine (unflag_no _ _ _ (by rw [hf]; simp)).mono ?_; rintro e wa ⟨rfl, hb⟩
        have HFF := Lib.hid hf
        clear hf
        replace HC := Lib.hid (HC.out.below hb)
        replace HB := Lib.hid (HB.out.trans (hb.mono HB.out.size))
        clear hb
        have HBA := Lib.hid (HB.out.alloc HB.out.size (.cells #[.int .i64 0, .int .i64 0, .int .i64 0, .bool false, .bool false, .bool false, .bool false, .bool false] 23))
        go_wp2_with fail
        refine (first5 _).mono ?_; rintro e wb ⟨rfl, hb⟩
        have HBB := Lib.hid (HBA.out.trans (hb.mono HBA.out.size))
        clear hb
        by_cases hneg : fl < 0
        · have d1 := dT hneg
          clear hneg
          go_wp2
          go_ret
          exact ⟨rfl, HBB.out⟩
        · have d1 := dF hneg
          have d2 := dT (p := 65535 < fl) (by
            have h := HFF.out
            simp [inR] at h
            omega)
          clear hneg
          go_wp2
          go_ret
          exact ⟨rfl, HBB.out⟩
      | true =>
        obtain ⟨hok, hfv⟩ := ref_flag fl hf
        go_wp2_with fail
        refine (unflag_yes _ _ _ (by decide) hf).mono ?_; rintro e wa ⟨rfl, hb⟩
        obtain ⟨P1, hP1⟩ : ∃ x, bits .and .i64 (fl / 2048) 15 = x := ⟨_, rfl⟩
        obtain ⟨P2, hP2⟩ : ∃ x, bits .and .i64 fl 15 = x := ⟨_, rfl⟩
        obtain ⟨P3, hP3⟩ : ∃ x, (bits .and .i64 fl 32768 != 0) = x := ⟨_, rfl⟩
        obtain ⟨P4, hP4⟩ : ∃ x, (bits .and .i64 fl 1024 != 0) = x := ⟨_, rfl⟩
        obtain ⟨P5, hP5⟩ : ∃ x, (bits .and .i64 fl 512 != 0) = x := ⟨_, rfl⟩
        obtain ⟨P6, hP6⟩ : ∃ x, (bits .and .i64 fl 256 != 0) = x := ⟨_, rfl⟩
        obtain ⟨P7, hP7⟩ : ∃ x, (bits .and .i64 fl 128 != 0) = x := ⟨_, rfl⟩
        obtain ⟨P8, hP8⟩ : ∃ x, bits .and .i64 fl (-113) = x := ⟨_, rfl⟩
        rw [hP1, hP2] at hok
        rw [hP1, hP2, hP3, hP4, hP5, hP6, hP7, hP8] at hfv
        rw [hP1, hP2, hP3, hP4, hP5, hP6, hP7]
        have HOK := Lib.hid hok
        have HFV := Lib.hid hfv
        have HP8 := Lib.hid hP8
        clear hP1 hP2 hP3 hP4 hP5 hP6 hP7 hP8 hok hfv hf
        replace HC := Lib.hid (HC.out.below hb)
        replace HB := Lib.hid (HB.out.trans (hb.mono HB.out.size))
        clear hb
        have HBA := Lib.hid (HB.out.alloc HB.out.size (.cells #[.int .i64 1, .int .i64 P1, .int .i64 P2, .bool P3, .bool P4, .bool P5, .bool P6, .bool P7] 23))
        go_wp2_with fail
        refine (flags_any _ _ _ _ _ _ _ _ _).mono ?_; rintro e wb ⟨rfl, hb⟩
        rw [HOK.out]
        simp only [if_true]
        rw [HFV.out]
        have HBB := Lib.hid (HBA.out.trans (hb.mono HBA.out.size))
        clear hb
        go_wp2_with fail
        refine (first5 _).mono ?_; rintro e wc ⟨rfl, hb⟩
        have HBC := Lib.hid (HBB.out.trans (hb.mono HBB.out.size))
        have e9 : (P8 == P8) = true := eT rfl
        have hP8 := HP8.out
        clear hb
        go_wp2
        go_ret
        exact ⟨rfl, HBC.out⟩
    have d1 := dT g1
    by_cases g2 : o ≤ 15
    rotate_left
    · have d2 := dF g2
      clear g2
      cases hf : inR fl 65535 with
      | false =>
        go_wp2_with fail
        refine (unflag_no _ _ _ (by rw [hf]; simp)).mono ?_; rintro e wa ⟨rfl, hb⟩
        have HFF := Lib.hid hf
        clear hf
        replace HC := Lib.hid (HC.out.below hb)
        replace HB := Lib.hid (HB.out.trans (hb.mono HB.out.size))
        clear hb
        have HBA := Lib.hid (HB.out.alloc HB.out.size (.cells #[.int .i64 0, .int .i64 0, .int .i64 0, .bool false, .bool false, .bool false, .bool false, .bool false] 23))
        go_wp2_with fail
        refine (first5 _).mono ?_; rintro e wb ⟨rfl, hb⟩
        have HBB := Lib.hid (HBA.out.trans (hb.mono HBA.out.size))
        clear hb
        by_cases hneg : fl < 0
        · have d1 := dT hneg
          clear hneg
          go_wp2
          go_ret
          exact ⟨rfl, HBB.out⟩
        · have d1 := dF hneg
          have d2 := dT (p := 65535 < fl) (by
            have h := HFF.out
            simp [inR] at h
            omega)
          clear hneg
          go_wp2
          go_ret
          exact ⟨rfl, HBB.out⟩
      | true =>
        obtain ⟨hok, hfv⟩ := ref_flag fl hf
        go_wp2_with fail
        refine (unflag_yes _ _ _ (by decide) hf).mono ?_; rintro e wa ⟨rfl, hb⟩
        obtain ⟨P1, hP1⟩ : ∃ x, bits .and .i64 (fl / 2048) 15 = x := ⟨_, rfl⟩
        obtain ⟨P2, hP2⟩ : ∃ x, bits .and .i64 fl 15 = x := ⟨_, rfl⟩
        obtain ⟨P3, hP3⟩ : ∃ x, (bits .and .i64 fl 32768 != 0) = x := ⟨_, rfl⟩
        obtain ⟨P4, hP4⟩ : ∃ x, (bits .and .i64 fl 1024 != 0) = x := ⟨_, rfl⟩
        obtain ⟨P5, hP5⟩ : ∃ x, (bits .and .i64 fl 512 != 0) = x := ⟨_, rfl⟩
        obtain ⟨P6, hP6⟩ : ∃ x, (bits .and .i64 fl 256 != 0) = x := ⟨_, rfl⟩
        obtain ⟨P7, hP7⟩ : ∃ x, (bits .and .i64 fl 128 != 0) = x := ⟨_, rfl⟩
        obtain ⟨P8, hP8⟩ : ∃ x, bits .and .i64 fl (-113) = x := ⟨_, rfl⟩
        rw [hP1, hP2] at hok
        rw [hP1, hP2, hP3, hP4, hP5, hP6, hP7, hP8] at hfv
        rw [hP1, hP2, hP3, hP4, hP5, hP6, hP7]
        have HOK := Lib.hid hok
        have HFV := Lib.hid hfv
        have HP8 := Lib.hid hP8
        clear hP1 hP2 hP3 hP4 hP5 hP6 hP7 hP8 hok hfv hf
        replace HC := Lib.hid (HC.out.below hb)
        replace HB := Lib.hid (HB.out.trans (hb.mono HB.out.size))
        clear hb
        have HBA := Lib.hid (HB.out.alloc HB.out.size (.cells #[.int .i64 1, .int .i64 P1, .int .i64 P2, .bool P3, .bool P4, .bool P5, .bool P6, .bool P7] 23))
        go_wp2_with fail
        refine (flags_any _ _ _ _ _ _ _ _ _).mono ?_; rintro e wb ⟨rfl, hb⟩
        rw [HOK.out]
        simp only [if_true]
        rw [HFV.out]
        have HBB := Lib.hid (HBA.out.trans (hb.mono HBA.out.size))
        clear hb
        go_wp2_with fail
        refine (first5 _).mono ?_; rintro e wc ⟨rfl, hb⟩
        have HBC := Lib.hid (HBB.out.trans (hb.mono HBB.out.size))
        have e9 : (P8 == P8) = true := eT rfl
        have hP8 := HP8.out
        clear hb
        go_wp2
        go_ret
        exact ⟨rfl, HBC.out⟩
    have d2 := dT g2
    by_cases g3 : 0 ≤ r
    rotate_left
    · have d3 := dF g3
      clear g3
      cases hf : inR fl 65535 with
      | false =>
        go_wp2_with fail
        refine (unflag_no _ _ _ (by rw [hf]; simp)).mono ?_; rintro e wa ⟨rfl, hb⟩
        have HFF := Lib.hid hf
        clear hf
        replace HC := Lib.hid (HC.out.below hb)
        replace HB := Lib.hid (HB.out.trans (hb.mono HB.out.size))
        clear hb
        have HBA := Lib.hid (HB.out.alloc HB.out.size (.cells #[.int .i64 0, .int .i64 0, .int .i64 0, .bool false, .bool false, .bool false, .bool false, .bool false] 23))
        go_wp2_with fail
        refine (first5 _).mono ?_; rintro e wb ⟨rfl, hb⟩
        have HBB := Lib.hid (HBA.out.trans (hb.mono HBA.out.size))
        clear hb
        by_cases hneg : fl < 0
        · have d1 := dT hneg
          clear hneg
          go_wp2
          go_ret
          exact ⟨rfl, HBB.out⟩
        · have d1 := dF hneg
          have d2 := dT (p := 65535 < fl) (by
            have h := HFF.out
            simp [inR] at h
            omega)
          clear hneg
          go_wp2
          go_ret
          exact ⟨rfl, HBB.out⟩
      | true =>
        obtain ⟨hok, hfv⟩ := ref_flag fl hf
        go_wp2_with fail
        refine (unflag_yes _ _ _ (by decide) hf).mono ?_; rintro e wa ⟨rfl, hb⟩
        obtain ⟨P1, hP1⟩ : ∃ x, bits .and .i64 (fl / 2048) 15 = x := ⟨_, rfl⟩
        obtain ⟨P2, hP2⟩ : ∃ x, bits .and .i64 fl 15 = x := ⟨_, rfl⟩
        obtain ⟨P3, hP3⟩ : ∃ x, (bits .and .i64 fl 32768 != 0) = x := ⟨_, rfl⟩
        obtain ⟨P4, hP4⟩ : ∃ x, (bits .and .i64 fl 1024 != 0) = x := ⟨_, rfl⟩
        obtain ⟨P5, hP5⟩ : ∃ x, (bits .and .i64 fl 512 != 0) = x := ⟨_, rfl⟩
        obtain ⟨P6, hP6⟩ : ∃ x, (bits .and .i64 fl 256 != 0) = x := ⟨_, rfl⟩
        obtain ⟨P7, hP7⟩ : ∃ x, (bits .and .i64 fl 128 != 0) = x := ⟨_, rfl⟩
        obtain ⟨P8, hP8⟩ : ∃ x, bits .and .i64 fl (-113) = x := ⟨_, rfl⟩
        rw [hP1, hP2] at hok
        rw [hP1, hP2, hP3, hP4, hP5, hP6, hP7, hP8] at hfv
        rw [hP1, hP2, hP3, hP4, hP5, hP6, hP7]
        have HOK := Lib.hid hok
        have HFV := Lib.hid hfv
        have HP8 := Lib.hid hP8
        clear hP1 hP2 hP3 hP4 hP5 hP6 hP7 hP8 hok hfv hf
        replace HC := Lib.hid (HC.out.below hb)
        replace HB := Lib.hid (HB.out.trans (hb.mono HB.out.size))
        clear hb
        have HBA := Lib.hid (HB.out.alloc HB.out.size (.cells #[.int .i64 1, .int .i64 P1, .int .i64 P2, .bool P3, .bool P4, .bool P5, .bool P6, .bool P7] 23))
        go_wp2_with fail
        refine (flags_any _ _ _ _ _ _ _ _ _).mono ?_; rintro e wb ⟨rfl, hb⟩
        rw [HOK.out]
        simp only [if_true]
        rw [HFV.out]
        have HBB := Lib.hid (HBA.out.trans (hb.mono HBA.out.size))
        clear hb
        go_wp2_with fail
        refine (first5 _).mono ?_; rintro e wc ⟨rfl, hb⟩
        have HBC := Lib.hid (HBB.out.trans (hb.mono HBB.out.size))
        have e9 : (P8 == P8) = true := eT rfl
        have hP8 := HP8.out
        clear hb
        go_wp2
        go_ret
        exact ⟨rfl, HBC.out⟩
    have d3 := dT g3
    have d4 := dF (p := r ≤ 15) (by
      intro g4
      have h := HK.out
      simp [okF, inR, g1, g2, g3, g4] at h)
    clear g1 g2 g3
    cases hf : inR fl 65535 with
    | false =>
      go_wp2_with fail
      refine (unflag_no _ _ _ (by rw [hf]; simp)).mono ?_; rintro e wa ⟨rfl, hb⟩
      have HFF := Lib.hid hf
      clear hf
      replace HC := Lib.hid (HC.out.below hb)
      replace HB := Lib.hid (HB.out.trans (hb.mono HB.out.size))
      clear hb
      have HBA := Lib.hid (HB.out.alloc HB.out.size (.cells #[.int .i64 0, .int .i64 0, .int .i64 0, .bool false, .bool false, .bool false, .bool false, .bool false] 23))
      go_wp2_with fail
      refine (first5 _).mono ?_; rintro e wb ⟨rfl, hb⟩
      have HBB := Lib.hid (HBA.out.trans (hb.mono HBA.out.size))
      clear hb
      by_cases hneg : fl < 0
      · have d1 := dT hneg
        clear hneg
        go_wp2
        go_ret
        exact ⟨rfl, HBB.out⟩
      · have d1 := dF hneg
        have d2 := dT (p := 65535 < fl) (by
          have h := HFF.out
          simp [inR] at h
          omega)
        clear hneg
        go_wp2
        go_ret
        exact ⟨rfl, HBB.out⟩
    | true =>
      obtain ⟨hok, hfv⟩ := ref_flag fl hf
      go_wp2_with fail
      refine (unflag_yes _ _ _ (by decide) hf).mono ?_; rintro e wa ⟨rfl, hb⟩
      obtain ⟨P1, hP1⟩ : ∃ x, bits .and .i64 (fl / 2048) 15 = x := ⟨_, rfl⟩
      obtain ⟨P2, hP2⟩ : ∃ x, bits .and .i64 fl 15 = x := ⟨_, rfl⟩
      obtain ⟨P3, hP3⟩ : ∃ x, (bits .and .i64 fl 32768 != 0) = x := ⟨_, rfl⟩
      obtain ⟨P4, hP4⟩ : ∃ x, (bits .and .i64 fl 1024 != 0) = x := ⟨_, rfl⟩
      obtain ⟨P5, hP5⟩ : ∃ x, (bits .and .i64 fl 512 != 0) = x := ⟨_, rfl⟩
      obtain ⟨P6, hP6⟩ : ∃ x, (bits .and .i64 fl 256 != 0) = x := ⟨_, rfl⟩
      obtain ⟨P7, hP7⟩ : ∃ x, (bits .and .i64 fl 128 != 0) = x := ⟨_, rfl⟩
      obtain ⟨P8, hP8⟩ : ∃ x, bits .and .i64 fl (-113) = x := ⟨_, rfl⟩
      rw [hP1, hP2] at hok
      rw [hP1, hP2, hP3, hP4, hP5, hP6, hP7, hP8] at hfv
      rw [hP1, hP2, hP3, hP4, hP5, hP6, hP7]
      have HOK := Lib.hid hok
      have HFV := Lib.hid hfv
      have HP8 := Lib.hid hP8
      clear hP1 hP2 hP3 hP4 hP5 hP6 hP7 hP8 hok hfv hf
      replace HC := Lib.hid (HC.out.below hb)
      replace HB := Lib.hid (HB.out.trans (hb.mono HB.out.size))
      clear hb
      have HBA := Lib.hid (HB.out.alloc HB.out.size (.cells #[.int .i64 1, .int .i64 P1, .int .i64 P2, .bool P3, .bool P4, .bool P5, .bool P6, .bool P7] 23))
      go_wp2_with fail
      refine (flags_any _ _ _ _ _ _ _ _ _).mono ?_; rintro e wb ⟨rfl, hb⟩
      rw [HOK.out]
      simp only [if_true]
      rw [HFV.out]
      have HBB := Lib.hid (HBA.out.trans (hb.mono HBA.out.size))
      clear hb
      go_wp2_with fail
      refine (first5 _).mono ?_; rintro e wc ⟨rfl, hb⟩
      have HBC := Lib.hid (HBB.out.trans (hb.mono HBB.out.size))
      have e9 : (P8 == P8) = true := eT rfl
      have hP8 := HP8.out
      clear hb
      go_wp2
      go_ret
      exact ⟨rfl, HBC.out⟩
  | true =>
    simp only [if_true]
    obtain ⟨V, hV⟩ : ∃ x, flagV o r b1 b2 b3 b4 b5 = x := ⟨_, rfl⟩
    rw [hV]
    obtain ⟨v1, v2⟩ := flag_rng hk b1 b2 b3 b4 b5
    rw [hV] at v1 v2
    have hu := unf hk b1 b2 b3 b4 b5 V hV
    obtain ⟨h1, h2⟩ : inR o 15 = true ∧ inR r 15 = true := by simpa [okF] using hk
    obtain ⟨o1, o2⟩ := inR_t h1
    obtain ⟨r1, r2⟩ := inR_t h2
    have d1 := dT o1
    have d2 := dT o2
    have d3 := dT r1
    have d4 := dT r2
    have d5 := dF (p := V < 0) (by omega)
    have d6 := dF (p := 65535 < V) (by omega)
    have HU := Lib.hid hu
    have HVR := Lib.hid (show inR V 65535 = true by simp [inR, v1, v2])
    clear hu hV h1 h2 o1 o2 r1 r2 v1 v2 hk
    obtain ⟨y0, y1, y2, y3, y4, y5, y6, y7, -⟩ := cn8 HC.out
    cases hi : inR i 65535 with
    | false =>
      go_wp2_with fail
      refine (unflag_no _ _ _ (by rw [hi]; rfl)).mono ?_; rintro e w4 ⟨rfl, hb⟩
      clear y0 y1 y2 y3 y4 y5 y6 y7
      have HI := Lib.hid hi
      clear hi
      replace HC := Lib.hid (HC.out.below hb)
      replace HB := Lib.hid (HB.out.trans (hb.mono HB.out.size))
      clear hb
      have hba := (Below.refl _ _ : Below w4.heap.size w4 w4).alloc (Nat.le_refl _) (.cells #[.int .i64 0, .int .i64 0, .int .i64 0, .bool false, .bool false, .bool false, .bool false, .bool false] 23)
      replace HC := Lib.hid (HC.out.below hba)
      replace HB := Lib.hid (HB.out.trans (hba.mono HB.out.size))
      obtain ⟨w5, hw5⟩ : ∃ x, w4.alloc (.cells #[.int .i64 0, .int .i64 0, .int .i64 0, .bool false, .bool false, .bool false, .bool false, .bool false] 23) = x := ⟨_, rfl⟩
      rw [hw5] at HC HB
      have HW5 := Lib.hid hw5
      have h112 := HU.out.2.2.2.2.2.2.2
      clear hba hw5
      go_upto_region 8 with (fail)
      rw [HW5.out]
      clear HW5
      obtain ⟨y0, y1, y2, y3, y4, y5, y6, y7, -⟩ := cn8 HC.out
      by_cases g1 : 0 ≤ i
      rotate_left
      · have d7 := dF g1
        clear g1
        cases hf : inR fl 65535 with
        | false =>
          go_wp2_with fail
          refine (unflag_no _ _ _ (by rw [hf]; simp)).mono ?_; rintro e wa ⟨rfl, hb⟩
          have HFF := Lib.hid hf
          clear hf
          replace HC := Lib.hid (HC.out.below hb)
          replace HB := Lib.hid (HB.out.trans (hb.mono HB.out.size))
          clear hb
          have HBA := Lib.hid (HB.out.alloc HB.out.size (.cells #[.int .i64 0, .int .i64 0, .int .i64 0, .bool false, .bool false, .bool false, .bool false, .bool false] 23))
          go_wp2_with fail
          refine (first5 _).mono ?_; rintro e wb ⟨rfl, hb⟩
          have HBB := Lib.hid (HBA.out.trans (hb.mono HBA.out.size))
          clear hb
          by_cases hneg : fl < 0
          · have d1 := dT hneg
            clear hneg
            go_wp2
            go_ret
            exact ⟨rfl, HBB.out⟩
          · have d1 := dF hneg
            have d2 := dT (p := 65535 < fl) (by
              have h := HFF.out
              simp [inR] at h
              omega)
            clear hneg
            go_wp2
            go_ret
            exact ⟨rfl, HBB.out⟩
        | true =>
          obtain ⟨hok, hfv⟩ := ref_flag fl hf
          go_wp2_with fail
          refine (unflag_yes _ _ _ (by decide) hf).mono ?_; rintro e wa ⟨rfl, hb⟩
          obtain ⟨P1, hP1⟩ : ∃ x, bits .and .i64 (fl / 2048) 15 = x := ⟨_, rfl⟩
          obtain ⟨P2, hP2⟩ : ∃ x, bits .and .i64 fl 15 = x := ⟨_, rfl⟩
          obtain ⟨P3, hP3⟩ : ∃ x, (bits .and .i64 fl 32768 != 0) = x := ⟨_, rfl⟩
          obtain ⟨P4, hP4⟩ : ∃ x, (bits .and .i64 fl 1024 != 0) = x := ⟨_, rfl⟩
          obtain ⟨P5, hP5⟩ : ∃ x, (bits .and .i64 fl 512 != 0) = x := ⟨_, rfl⟩
          obtain ⟨P6, hP6⟩ : ∃ x, (bits .and .i64 fl 256 != 0) = x := ⟨_, rfl⟩
          obtain ⟨P7, hP7⟩ : ∃ x, (bits .and .i64 fl 128 != 0) = x := ⟨_, rfl⟩
          obtain ⟨P8, hP8⟩ : ∃ x, bits .and .i64 fl (-113) = x := ⟨_, rfl⟩
          rw [hP1, hP2] at hok
          rw [hP1, hP2, hP3, hP4, hP5, hP6, hP7, hP8] at hfv
          rw [hP1, hP2, hP3, hP4, hP5, hP6, hP7]
          have HOK := Lib.hid hok
          have HFV := Lib.hid hfv
          have HP8 := Lib.hid hP8
          clear hP1 hP2 hP3 hP4 hP5 hP6 hP7 hP8 hok hfv hf
          replace HC := Lib.hid (HC.out.below hb)
          replace HB := Lib.hid (HB.out.trans (hb.mono HB.out.size))
          clear hb
          have HBA := Lib.hid (HB.out.alloc HB.out.size (.cells #[.int .i64 1, .int .i64 P1, .int .i64 P2, .bool P3, .bool P4, .bool P5, .bool P6, .bool P7] 23))
          go_wp2_with fail
          refine (flags_any _ _ _ _ _ _ _ _ _).mono ?_; rintro e wb ⟨rfl, hb⟩
          rw [HOK.out]
          simp only [if_true]
          rw [HFV.out]
          have HBB := Lib.hid (HBA.out.trans (hb.mono HBA.out.size))
          clear hb
          go_wp2_with fail
          refine (first5 _).mono ?_; rintro e wc ⟨rfl, hb⟩
          have HBC := Lib.hid (HBB.out.trans (hb.mono HBB.out.size))
          have e9 : (P8 == P8) = true := eT rfl
          have hP8 := HP8.out
          clear hb
          go_wp2
          go_ret
          exact ⟨rfl, HBC.out⟩
      have d7 := dT g1
      have d8 := dF (p := i ≤ 65535) (by
        intro g2
        have h := HI.out
        simp [inR, g1, g2] at h)
      clear g1
      cases hf : inR fl 65535 with
      | false =>
        go_wp2_with fail
        refine (unflag_no _ _ _ (by rw [hf]; simp)).mono ?_; rintro e wa ⟨rfl, hb⟩
        have HFF := Lib.hid hf
        clear hf
        replace HC := Lib.hid (HC.out.below hb)
        replace HB := Lib.hid (HB.out.trans (hb.mono HB.out.size))
        clear hb
        have HBA := Lib.hid (HB.out.alloc HB.out.size (.cells #[.int .i64 0, .int .i64 0, .int .i64 0, .bool false, .bool false, .bool false, .bool false, .bool false] 23))
        go_wp2_with fail
        refine (first5 _).mono ?_; rintro e wb ⟨rfl, hb⟩
        have HBB := Lib.hid (HBA.out.trans (hb.mono HBA.out.size))
        clear hb
        by_cases hneg : fl < 0
        · have d1 := dT hneg
          clear hneg
          go_wp2
          go_ret
          exact ⟨rfl, HBB.out⟩
        · have d1 := dF hneg
          have d2 := dT (p := 65535 < fl) (by
            have h := HFF.out
            simp [inR] at h
            omega)
          clear hneg
          go_wp2
          go_ret
          exact ⟨rfl, HBB.out⟩
      | true =>
        obtain ⟨hok, hfv⟩ := ref_flag fl hf
        go_wp2_with fail
        refine (unflag_yes _ _ _ (by decide) hf).mono ?_; rintro e wa ⟨rfl, hb⟩
        obtain ⟨P1, hP1⟩ : ∃ x, bits .and .i64 (fl / 2048) 15 = x := ⟨_, rfl⟩
        obtain ⟨P2, hP2⟩ : ∃ x, bits .and .i64 fl 15 = x := ⟨_, rfl⟩
        obtain ⟨P3, hP3⟩ : ∃ x, (bits .and .i64 fl 32768 != 0) = x := ⟨_, rfl⟩
        obtain ⟨P4, hP4⟩ : ∃ x, (bits .and .i64 fl 1024 != 0) = x := ⟨_, rfl⟩
        obtain ⟨P5, hP5⟩ : ∃ x, (bits .and .i64 fl 512 != 0) = x := ⟨_, rfl⟩
        obtain ⟨P6, hP6⟩ : ∃ x, (bits .and .i64 fl 256 != 0) = x := ⟨_, rfl⟩
        obtain ⟨P7, hP7⟩ : ∃ x, (bits .and .i64 fl 128 != 0) = x := ⟨_, rfl⟩
        obtain ⟨P8, hP8⟩ : ∃ x, bits .and .i64 fl (-113) = x := ⟨_, rfl⟩
        rw [hP1, hP2] at hok
        rw [hP1, hP2, hP3, hP4, hP5, hP6, hP7, hP8] at hfv
        rw [hP1, hP2, hP3, hP4, hP5, hP6, hP7]
        have HOK := Lib.hid hok
        have HFV := Lib.hid hfv
        have HP8 := Lib.hid hP8
        clear hP1 hP2 hP3 hP4 hP5 hP6 hP7 hP8 hok hfv hf
        replace HC := Lib.hid (HC.out.below hb)
        replace HB := Lib.hid (HB.out.trans (hb.mono HB.out.size))
        clear hb
        have HBA := Lib.hid (HB.out.alloc HB.out.size (.cells #[.int .i64 1, .int .i64 P1, .int .i64 P2, .bool P3, .bool P4, .bool P5, .bool P6, .bool P7] 23))
        go_wp2_with fail
        refine (flags_any _ _ _ _ _ _ _ _ _).mono ?_; rintro e wb ⟨rfl, hb⟩
        rw [HOK.out]
        simp only [if_true]
        rw [HFV.out]
        have HBB := Lib.hid (HBA.out.trans (hb.mono HBA.out.size))
        clear hb
        go_wp2_with fail
        refine (first5 _).mono ?_; rintro e wc ⟨rfl, hb⟩
        have HBC := Lib.hid (HBB.out.trans (hb.mono HBB.out.size))
        have e9 : (P8 == P8) = true := eT rfl
        have hP8 := HP8.out
        clear hb
        go_wp2
        go_ret
        exact ⟨rfl, HBC.out⟩
    | true =>
      go_wp2_with fail
      refine (unflag_yes _ _ _ hi HVR.out).mono ?_; rintro e w4 ⟨rfl, hb⟩
      clear y0 y1 y2 y3 y4 y5 y6 y7
      obtain ⟨i1, i2⟩ := inR_t hi
      have d7 := dT i1
      have d8 := dT i2
      clear i1 i2 hi
      rw [HU.out.1, HU.out.2.1, HU.out.2.2.1, HU.out.2.2.2.1, HU.out.2.2.2.2.1, HU.out.2.2.2.2.2.1, HU.out.2.2.2.2.2.2.1]
      replace HC := Lib.hid (HC.out.below hb)
      replace HB := Lib.hid (HB.out.trans (hb.mono HB.out.size))
      clear hb
      have hba := (Below.refl _ _ : Below w4.heap.size w4 w4).alloc (Nat.le_refl _) (.cells #[.int .i64 i, .int .i64 o, .int .i64 r, .bool b1, .bool b2, .bool b3, .bool b4, .bool b5] 23)
      have HE := Lib.hid (CN.new w4 #[.int .i64 i, .int .i64 o, .int .i64 r, .bool b1, .bool b2, .bool b3, .bool b4, .bool b5] 23)
      replace HC := Lib.hid (HC.out.below hba)
      replace HB := Lib.hid (HB.out.trans (hba.mono HB.out.size))
      obtain ⟨w5, hw5⟩ : ∃ x, w4.alloc (.cells #[.int .i64 i, .int .i64 o, .int .i64 r, .bool b1, .bool b2, .bool b3, .bool b4, .bool b5] 23) = x := ⟨_, rfl⟩
      obtain ⟨q5, hq5⟩ : ∃ x, w4.heap.size = x := ⟨_, rfl⟩
      rw [hw5] at HC HB HE
      rw [hq5] at HE
      have HW5 := Lib.hid hw5
      have HQ5 := Lib.hid hq5
      have h112 := HU.out.2.2.2.2.2.2.2
      clear hba hw5 hq5
      go_upto_region 8 with (fail)
      rw [HW5.out, HQ5.out]
      clear HW5 HQ5
      obtain ⟨y0, y1, y2, y3, y4, y5, y6, y7, -⟩ := cn8 HC.out
      obtain ⟨z0, z1, z2, z3, z4, z5, z6, z7, -⟩ := cn8 HE.out
      have hke : ∀ W, (binOp .neq 23 (.agg #[.int .i64 i, .int .i64 o, .int .i64 r, .bool b1, .bool b2, .bool b3, .bool b4, .bool b5]) (.agg #[.int .i64 i, .int .i64 o, .int .i64 r, .bool b1, .bool b2, .bool b3, .bool b4, .bool b5])).run Try.prog W = .ok (.bool false) W := fun W => by
        rw [hd_neq, (hd_same i i o o r r b1 b1 b2 b2 b3 b3 b4 b4 b5 b5).2 ⟨rfl, rfl, rfl, rfl, rfl, rfl, rfl, rfl⟩]; rfl
      cases hf : inR fl 65535 with
      | false =>
        go_wp2_with fail
        refine (unflag_no _ _ _ (by rw [hf]; simp)).mono ?_; rintro e wa ⟨rfl, hb⟩
        have HFF := Lib.hid hf
        clear hf
        replace HC := Lib.hid (HC.out.below hb)
        replace HB := Lib.hid (HB.out.trans (hb.mono HB.out.size))
        clear hb
        have HBA := Lib.hid (HB.out.alloc HB.out.size (.cells #[.int .i64 0, .int .i64 0, .int .i64 0, .bool false, .bool false, .bool false, .bool false, .bool false] 23))
        go_wp2_with fail
        refine (first5 _).mono ?_; rintro e wb ⟨rfl, hb⟩
        have HBB := Lib.hid (HBA.out.trans (hb.mono HBA.out.size))
        clear hb
        by_cases hneg : fl < 0
        · have d1 := dT hneg
          clear hneg
          go_wp2
          go_ret
          exact ⟨rfl, HBB.out⟩
        · have d1 := dF hneg
          have d2 := dT (p := 65535 < fl) (by
            have h := HFF.out
            simp [inR] at h
            omega)
          clear hneg
          go_wp2
          go_ret
          exact ⟨rfl, HBB.out⟩
      | true =>
        obtain ⟨hok, hfv⟩ := ref_flag fl hf
        go_wp2_with fail
        refine (unflag_yes _ _ _ (by decide) hf).mono ?_; rintro e wa ⟨rfl, hb⟩
        obtain ⟨P1, hP1⟩ : ∃ x, bits .and .i64 (fl / 2048) 15 = x := ⟨_, rfl⟩
        obtain ⟨P2, hP2⟩ : ∃ x, bits .and .i64 fl 15 = x := ⟨_, rfl⟩
        obtain ⟨P3, hP3⟩ : ∃ x, (bits .and .i64 fl 32768 != 0) = x := ⟨_, rfl⟩
        obtain ⟨P4, hP4⟩ : ∃ x, (bits .and .i64 fl 1024 != 0) = x := ⟨_, rfl⟩
        obtain ⟨P5, hP5⟩ : ∃ x, (bits .and .i64 fl 512 != 0) = x := ⟨_, rfl⟩
        obtain ⟨P6, hP6⟩ : ∃ x, (bits .and .i64 fl 256 != 0) = x := ⟨_, rfl⟩
        obtain ⟨P7, hP7⟩ : ∃ x, (bits .and .i64 fl 128 != 0) = x := ⟨_, rfl⟩
        obtain ⟨P8, hP8⟩ : ∃ x, bits .and .i64 fl (-113) = x := ⟨_, rfl⟩
        rw [hP1, hP2] at hok
        rw [hP1, hP2, hP3, hP4, hP5, hP6, hP7, hP8] at hfv
        rw [hP1, hP2, hP3, hP4, hP5, hP6, hP7]
        have HOK := Lib.hid hok
        have HFV := Lib.hid hfv
        have HP8 := Lib.hid hP8
        clear hP1 hP2 hP3 hP4 hP5 hP6 hP7 hP8 hok hfv hf
        replace HC := Lib.hid (HC.out.below hb)
        replace HB := Lib.hid (HB.out.trans (hb.mono HB.out.size))
        clear hb
        have HBA := Lib.hid (HB.out.alloc HB.out.size (.cells #[.int .i64 1, .int .i64 P1, .int .i64 P2, .bool P3, .bool P4, .bool P5, .bool P6, .bool P7] 23))
        go_wp2_with fail
        refine (flags_any _ _ _ _ _ _ _ _ _).mono ?_; rintro e wb ⟨rfl, hb⟩
        rw [HOK.out]
        simp only [if_true]
        rw [HFV.out]
        have HBB := Lib.hid (HBA.out.trans (hb.mono HBA.out.size))
        clear hb
        go_wp2_with fail
        refine (first5 _).mono ?_; rintro e wc ⟨rfl, hb⟩
        have HBC := Lib.hid (HBB.out.trans (hb.mono HBB.out.size))
        have e9 : (P8 == P8) = true := eT rfl
        have hP8 := HP8.out
        clear hb
        go_wp2
        go_ret
        exact ⟨rfl, HBC.out⟩
end Go.Proofs.Ytkoafkajmfodkaa
