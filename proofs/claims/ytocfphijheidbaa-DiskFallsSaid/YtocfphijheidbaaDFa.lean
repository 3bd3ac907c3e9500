/- The walk of DiskFalls. -/
import Derived.Test.YtocfphijheidbaaDkR
import Derived.Deep.CutBlock
namespace Go.Proofs.Ytocfphijheidbaa
open Go.RowKit

set_option maxRecDepth 100000 in
set_option maxHeartbeats 8000000 in
theorem walkFalls (n at_ wn : Int) (anew : Bool) (w : World) :
    Calls Try.prog 8 #[.int .i64 n, .int .i64 at_, .int .i64 wn, .bool anew] w fun e w' => e = .returned (.bool true) ∧ Below w.heap.size w w' := by
  go_enter Try.func8, Try.ntmps8
  go_wp2_with fail
  refine (first13 w).mono ?_; rintro e w1 ⟨rfl, hb1⟩
  have HB1 := Lib.hid hb1
  clear hb1
  go_upto_region 3 with (fail)
  by_cases hbig : n < 3 ∨ 60 < n ∨ at_ < 1 ∨ 50 < at_ ∨ wn < 0 ∨ 40 < wn
  · have hd : (decide (n < 3) = true) ∨ (decide (n < 3) = false ∧ decide (60 < n) = true) ∨ (decide (n < 3) = false ∧ decide (60 < n) = false ∧ decide (at_ < 1) = true) ∨ (decide (n < 3) = false ∧ decide (60 < n) = false ∧ decide (at_ < 1) = false ∧ decide (50 < at_) = true) ∨ (decide (n < 3) = false ∧ decide (60 < n) = false ∧ decide (at_ < 1) = false ∧ decide (50 < at_) = false ∧ decide (wn < 0) = true) ∨ (decide (n < 3) = false ∧ decide (60 < n) = false ∧ decide (at_ < 1) = false ∧ decide (50 < at_) = false ∧ decide (wn < 0) = false ∧ decide (40 < wn) = true) := by
      simp only [decide_eq_true_eq, decide_eq_false_iff_not]
      omega
    clear hbig
    rcases hd with d1 | ⟨d1, d2⟩ | ⟨d1, d2, d3⟩ | ⟨d1, d2, d3, d4⟩ | ⟨d1, d2, d3, d4, d5⟩ | ⟨d1, d2, d3, d4, d5, d6⟩
    all_goals
      go_wp2_with fail
      refine (first13 w1).mono ?_; rintro e w2 ⟨rfl, hb2⟩
      have HBZ := Lib.hid (HB1.out.trans (hb2.mono HB1.out.size))
      clear hb2
      go_wp2
      go_ret
      exact ⟨rfl, HBZ.out⟩
  · have d1 : decide (n < 3) = false := dF (by omega)
    have d2 : decide (60 < n) = false := dF (by omega)
    have d3 : decide (at_ < 1) = false := dF (by omega)
    have d4 : decide (50 < at_) = false := dF (by omega)
    have d5 : decide (wn < 0) = false := dF (by omega)
    have d6 : decide (40 < wn) = false := dF (by omega)
    go_upto_region 5 with (fail)
    obtain ⟨N, rfl⟩ : ∃ z : Nat, n = (z : Int) := ⟨n.toNat, by omega⟩
    obtain ⟨F, rfl⟩ : ∃ z : Nat, at_ = (z : Int) := ⟨at_.toNat, by omega⟩
    obtain ⟨K, rfl⟩ : ∃ z : Nat, wn = (z : Int) := ⟨wn.toNat, by omega⟩
    have HNN := Lib.hid (show (3 ≤ N ∧ N ≤ 60) ∧ (1 ≤ F ∧ F ≤ 50) ∧ K ≤ 40 by omega)
    clear d1 d2 d3 d4 d5 d6 hbig
    go_wp2_with fail
    refine (newD_yes N w1 HNN.out.1.1 (by have := HNN.out.1.2; omega)).mono ?_; rintro e w2 ⟨q, bs, rfl, hs2, hbs2, hb2⟩
    have HO2 := Lib.hid (show One w w2 q bs (newP N) from ⟨hs2, fun x hx => Nat.le_trans HB1.out.size (hbs2 x hx), HB1.out.trans (hb2.mono HB1.out.size)⟩)
    clear hs2 hbs2 hb2
    have hba := (Below.refl w2.heap.size w2).alloc (Nat.le_refl _) (.cells #[.int .u8 255, .int .u8 255, .int .u8 255, .int .u8 255, .int .u8 255, .int .u8 255, .int .u8 255] 5)
    have HV2 := Lib.hid (valC_mark w2 #[.int .u8 255, .int .u8 255, .int .u8 255, .int .u8 255, .int .u8 255, .int .u8 255, .int .u8 255] fullM rfl 5 (0, 0) w2.heap.size 7 rfl rfl)
    have HO3 := Lib.hid (HO2.out.below hba)
    clear hba
    go_wp2_with fail
    refine (crashAt_any q (F : Int) (some ⟨w2.heap.size, 0, none⟩) 7 7 fullM bs (newP N) _ HO3.out.dk HV2.out (by decide)).mono ?_; rintro e w4 ⟨rfl, ⟨c4, hs4, hc4⟩, hf4⟩
    have HO4 := Lib.hid (HO3.out.put hs4 hc4 hf4)
    clear hs4 hc4 hf4 HV2 HO3 HO2
    go_upto_region 9 with (fail)
    go_upto_if 58 with (fail)
    go_cut [] (fun wx => ∃ (c : List Nat) (s : DkP), Hid (One w wx q c s) ∧ Hid (FalU N anew F 0 s))
    case rest =>
      obtain ⟨c5, s5, HO5, HF5⟩ := hcut
      clear HO4
      go_upto_region 11 with (fail)
      obtain ⟨dn, hdn⟩ : ∃ z, (if anew = true then K else min K F) = z := ⟨_, rfl⟩
      have HDN := Lib.hid hdn
      clear hdn
      go_upto_block 0 with (fail)
      go_cut [] (fun wx => ∃ (c : List Nat) (s : DkP), Hid (One w wx q c s) ∧ Hid (Fal N dn s))
      case rest =>
        obtain ⟨c6, s6, HO6, HF6⟩ := hcut
        clear HO5 HF5
        have hdk : dn ≤ 50 := by
          have := HNN.out.2
          rw [← HDN.out]
          split <;> omega
        obtain ⟨z, hz⟩ : ∃ z : Int, (dn : Int) - (N : Int) = z := ⟨_, rfl⟩
        have hwz : IntKind.i64.wrap ((dn : Int) - (N : Int)) = z := by rw [IntKind.wrap_i64]; have := HNN.out.1; omega
        have HZ := Lib.hid hz
        clear hz
        obtain ⟨Z0, hZ0⟩ : ∃ y, dn - N = y := ⟨_, rfl⟩
        have HZ0 := Lib.hid hZ0
        clear hZ0
        have hsc : (dn != dn) = false := by simp
        cases anew
        all_goals
          go_upto_region 22 with (fail)
          first
            | rw [show (if F < K then (F : Int) else (K : Int)) = (dn : Int) from by rw [← HDN.out, if_neg Bool.false_ne_true]; split <;> omega]
            | rw [show (K : Int) = (dn : Int) from by rw [← HDN.out, if_pos rfl]]
          go_wp2_with fail
          refine (writesN_any q c6 s6 wc HO6.out.dk).mono ?_; rintro e w9 ⟨rfl, rfl⟩
          rw [HF6.out.wr]
          go_wp2_with fail
          refine (reboot_any q c6 s6 wc HO6.out.dk).mono ?_; rintro e w8 ⟨rfl, hs8, hf8⟩
          have HO8 := Lib.hid (HO6.out.same hs8 hf8)
          clear hs8 hf8 HO6
          obtain ⟨S8, hS8⟩ : ∃ y, ({ s6 with down := false } : DkP) = y := ⟨_, rfl⟩
          have HSR := Lib.hid (show S8.n = N ∧ S8.R = s6.R ∧ S8.down = false from by rw [← hS8]; exact ⟨HF6.out.n, rfl, rfl⟩)
          rw [hS8] at HO8
          clear hS8
          have hor : (z < 0 ∧ Z0 = 0) ∨ z = (Z0 : Int) := by have := HZ.out; have := HZ0.out; omega
          rcases hor with ⟨hz1, hz2⟩ | hz1
          · have HZ1 := Lib.hid hz2
            clear hz2
            go_wp2_with fail
            go_loopw [15] (fun i wr => ∃ t : Nat, Z0 ≤ t ∧ t ≤ dn ∧ i = .int .i64 t ∧ Hid (One w wr q c6 S8)) (fun i _ => dn - (intOf i).toNat)
            case atStart => exact ⟨0, by have := HZ1.out; omega, Nat.zero_le _, rfl, HO8⟩
            case round =>
              obtain ⟨t, hzt, ht, rfl, HO⟩ := hrel
              by_cases hlt : t < dn
              · have dd : decide ((t : Int) < (dn : Int)) = true := dT (by omega)
                have d0 : decide (t < dn) = true := dT hlt
                obtain ⟨T1, hT1⟩ : ∃ z, t + 1 = z := ⟨_, rfl⟩
                obtain ⟨r, hr⟩ : ∃ z, t % N = z := ⟨_, rfl⟩
                have hrem : (t : Int).tmod (N : Int) = (r : Int) := by rw [← hr]; exact (Int.ofNat_tmod t N).symm
                have hn0 : ¬ ((N : Int) = 0) := by have := HNN.out.1.1; omega
                have w1a : IntKind.i64.wrap ((t : Int) + 1) = (T1 : Int) := by rw [IntKind.wrap_i64]; omega
                have w1b : IntKind.u8.wrap (T1 : Int) = (T1 : Int) := by rw [IntKind.wrap_u8]; omega
                have nT : (T1 != T1) = false := by simp
                have HLT := Lib.hid (show t < dn ∧ t + 1 = T1 ∧ Z0 ≤ t from ⟨hlt, hT1, hzt⟩)
                have HRD := Lib.hid (show r < S8.n ∧ S8.R r = secP (oneB t) 0 from by
                  have h3 := HNN.out.1
                  rw [HSR.out.1, HSR.out.2.1, ← hr]
                  exact ⟨Nat.mod_lt _ (by omega), HF6.out.rd t hlt (by have := HZ0.out; omega)⟩)
                have HBT := Lib.hid (show (bc (S8.R r))[0]? = some (.int .u8 (T1 : Int)) from by rw [HRD.out.2, ← hT1]; exact oneB_sec t (by omega))
                clear hT1 hr hlt hzt ht
                go_wp2_with fail
                refine (read_yes q r c6 S8 wr HO.out.dk HRD.out.1 HSR.out.2.2).mono ?_; rintro e w11 ⟨v11, rfl, ho11, hb11⟩
                obtain ⟨g11, c11, rfl⟩ : ∃ g c, v11 = .slice (some ⟨g, 0, none⟩) 256 c := by
                  rcases ho11.2 with ⟨_, h1⟩ | ⟨g, c', d', h1, _⟩
                  · omega
                  · exact ⟨g, c', h1⟩
                have k11 := ownsRow_at ho11 0 _ HBT.out
                have HO9 := Lib.hid (HO.out.below hb11)
                clear hb11 ho11 HO
                go_wp2
                go_roundw
                case rel => exact ⟨T1, by have := HLT.out; omega, by have := HLT.out; omega, rfl, HO9⟩
                case measure =>
                  simp only [intOf]
                  have := HLT.out
                  omega
              · have dd : decide ((t : Int) < (dn : Int)) = false := dF (by omega)
                have d0 : decide (t < dn) = false := dF hlt
                clear hlt
                go_wp2_with fail
                refine (first13 wr).mono ?_; rintro e w9 ⟨rfl, hb9⟩
                have HO9 := Lib.hid (HO.out.below hb9)
                clear hb9
                go_wp2
                go_ret
                exact ⟨rfl, HO9.out.bel⟩
          · subst hz1
            go_wp2_with fail
            go_loopw [15] (fun i wr => ∃ t : Nat, Z0 ≤ t ∧ t ≤ dn ∧ i = .int .i64 t ∧ Hid (One w wr q c6 S8)) (fun i _ => dn - (intOf i).toNat)
            case atStart => exact ⟨Z0, Nat.le_refl _, by have := HZ0.out; omega, rfl, HO8⟩
            case round =>
              obtain ⟨t, hzt, ht, rfl, HO⟩ := hrel
              by_cases hlt : t < dn
              · have dd : decide ((t : Int) < (dn : Int)) = true := dT (by omega)
                have d0 : decide (t < dn) = true := dT hlt
                obtain ⟨T1, hT1⟩ : ∃ z, t + 1 = z := ⟨_, rfl⟩
                obtain ⟨r, hr⟩ : ∃ z, t % N = z := ⟨_, rfl⟩
                have hrem : (t : Int).tmod (N : Int) = (r : Int) := by rw [← hr]; exact (Int.ofNat_tmod t N).symm
                have hn0 : ¬ ((N : Int) = 0) := by have := HNN.out.1.1; omega
                have w1a : IntKind.i64.wrap ((t : Int) + 1) = (T1 : Int) := by rw [IntKind.wrap_i64]; omega
                have w1b : IntKind.u8.wrap (T1 : Int) = (T1 : Int) := by rw [IntKind.wrap_u8]; omega
                have nT : (T1 != T1) = false := by simp
                have HLT := Lib.hid (show t < dn ∧ t + 1 = T1 ∧ Z0 ≤ t from ⟨hlt, hT1, hzt⟩)
                have HRD := Lib.hid (show r < S8.n ∧ S8.R r = secP (oneB t) 0 from by
                  have h3 := HNN.out.1
                  rw [HSR.out.1, HSR.out.2.1, ← hr]
                  exact ⟨Nat.mod_lt _ (by omega), HF6.out.rd t hlt (by have := HZ0.out; omega)⟩)
                have HBT := Lib.hid (show (bc (S8.R r))[0]? = some (.int .u8 (T1 : Int)) from by rw [HRD.out.2, ← hT1]; exact oneB_sec t (by omega))
                clear hT1 hr hlt hzt ht
                go_wp2_with fail
                refine (read_yes q r c6 S8 wr HO.out.dk HRD.out.1 HSR.out.2.2).mono ?_; rintro e w11 ⟨v11, rfl, ho11, hb11⟩
                obtain ⟨g11, c11, rfl⟩ : ∃ g c, v11 = .slice (some ⟨g, 0, none⟩) 256 c := by
                  rcases ho11.2 with ⟨_, h1⟩ | ⟨g, c', d', h1, _⟩
                  · omega
                  · exact ⟨g, c', h1⟩
                have k11 := ownsRow_at ho11 0 _ HBT.out
                have HO9 := Lib.hid (HO.out.below hb11)
                clear hb11 ho11 HO
                go_wp2
                go_roundw
                case rel => exact ⟨T1, by have := HLT.out; omega, by have := HLT.out; omega, rfl, HO9⟩
                case measure =>
                  simp only [intOf]
                  have := HLT.out
                  omega
              · have dd : decide ((t : Int) < (dn : Int)) = false := dF (by omega)
                have d0 : decide (t < dn) = false := dF hlt
                clear hlt
                go_wp2_with fail
                refine (first13 wr).mono ?_; rintro e w9 ⟨rfl, hb9⟩
                have HO9 := Lib.hid (HO.out.below hb9)
                clear hb9
                go_wp2
                go_ret
                exact ⟨rfl, HO9.out.bel⟩
      go_wp2_with fail
      go_loopw [11] (fun i wr => ∃ (t : Nat) (c : List Nat) (s : DkP), t ≤ K ∧ i = .int .i64 t ∧ Hid (One w wr q c s) ∧ Hid (FalU N anew F t s)) (fun i _ => K - (intOf i).toNat)
      case atStart => exact ⟨0, c5, s5, Nat.zero_le _, rfl, HO5, HF5⟩
      case round =>
        obtain ⟨t, c, s, ht, rfl, HO, HF⟩ := hrel
        clear HO5 HF5
        by_cases hlt : t < K
        · have dd : decide ((t : Int) < (K : Int)) = true := dT (by omega)
          have d0 : decide (t < K) = true := dT hlt
          obtain ⟨T1, hT1⟩ : ∃ z, t + 1 = z := ⟨_, rfl⟩
          obtain ⟨r, hr⟩ : ∃ z, t % N = z := ⟨_, rfl⟩
          have hrem : (t : Int).tmod (N : Int) = (r : Int) := by rw [← hr]; exact (Int.ofNat_tmod t N).symm
          have hn0 : ¬ ((N : Int) = 0) := by have := HNN.out.1.1; omega
          have hK40 := HNN.out.2.2
          have w1a : IntKind.i64.wrap ((t : Int) + 1) = (T1 : Int) := by rw [IntKind.wrap_i64]; omega
          have w1b : IntKind.u8.wrap (T1 : Int) = (T1 : Int) := by rw [IntKind.wrap_u8]; omega
          have hb8 : (UInt8.ofNat (t + 1)).toNat = T1 := by simp; omega
          have HLT := Lib.hid hlt
          have HT1 := Lib.hid hT1
          have HR := Lib.hid hr
          have hba := (Below.refl wr.heap.size wr).alloc (Nat.le_refl _) (.cells #[.int .u8 (T1 : Int)] 5)
          have HV1 := Lib.hid (valC_mark wr #[.int .u8 (T1 : Int)] (oneB t) (by rw [← hb8]; rfl) 5 (0, 0) wr.heap.size 1 rfl rfl)
          have HO1 := Lib.hid (HO.out.below hba)
          clear hT1 hr hb8 hlt hba ht
          have hba2 := (Below.refl (wr.alloc (.cells #[.int .u8 (T1 : Int)] 5)).heap.size (wr.alloc (.cells #[.int .u8 (T1 : Int)] 5))).alloc (Nat.le_refl _) (.cells #[.slice (some ⟨wr.heap.size, 0, none⟩) 1 1] 25)
          have HM := Lib.hid (rowBC_lit1 (wr.alloc (.cells #[.int .u8 (T1 : Int)] 5)) (.slice (some ⟨wr.heap.size, 0, none⟩) 1 1) (oneB t) (wr.heap.size + 1) (by rw [World.size_alloc]) HV1.out).bb
          have HO2 := Lib.hid (HO1.out.below hba2)
          clear hba2
          go_wp2_with fail
          refine (write_up q (r : Int) (some ⟨wr.heap.size + 1, 0, none⟩) 1 1 [oneB t] c s _ HO2.out.dk HF.out.up HM.out (by decide) (by rw [flat1]; show 1 ≤ 100000; decide) (by rw [HF.out.len]; have := HLT.out; omega) (Nat.le_trans HF.out.mkl (by decide)) (by rw [HF.out.wr]; have := HLT.out; omega) (by have h8 := HF.out.fl; have := HNN.out.2.1.2; split at h8 <;> omega) (by have := HR.out; have := Nat.mod_le t N; have := HLT.out; omega)).mono ?_; rintro e w7 ⟨rfl, ⟨c7, hs7, hc7⟩, hf7⟩
          rw [flat1, ← HR.out] at hs7 ⊢
          by_cases hcs : anew = true ∨ t + 1 < F
          · obtain ⟨hX, hY⟩ := fal_more HF.out (by have := HNN.out.1.1; omega) (by have := HLT.out; omega) hcs
            rw [hY]
            have HO7 := Lib.hid (HO2.out.put hs7 hc7 hf7)
            obtain ⟨S7, hS7⟩ : ∃ z, (writeP s ((t % N : Nat) : Int) (oneB t)).1 = z := ⟨_, rfl⟩
            rw [hS7] at HO7 hX
            have hu := hX.up
            rw [HT1.out] at hcs hX
            have HF7 := Lib.hid hX
            clear hX hY hs7 hc7 hf7 hS7 HO2 HM HO1 HV1 HO
            have hg : anew = true ∨ anew = false ∧ decide ((F : Int) ≤ (T1 : Int)) = false ∧ decide (F ≤ T1) = false := by
              cases anew
              · right
                refine ⟨rfl, dF ?_, dF ?_⟩
                · have : T1 < F := hcs.resolve_left Bool.false_ne_true
                  omega
                · have : T1 < F := hcs.resolve_left Bool.false_ne_true
                  omega
              · exact Or.inl rfl
            clear hcs
            rcases hg with rfl | ⟨rfl, g1, g2⟩
            all_goals
              go_wp2_with fail
              refine (up_any q c7 S7 w7 HO7.out.dk).mono ?_; rintro e w8 ⟨rfl, rfl⟩
              rw [hu]
              go_wp2
              go_roundw
              case rel => exact ⟨T1, c7, S7, by have := HLT.out; have := HT1.out; omega, rfl, HO7, HF7⟩
              case measure =>
                simp only [intOf]
                have := HLT.out
                have := HT1.out
                omega
          · obtain rfl : anew = false := by cases anew; rfl; exact absurd (Or.inl rfl) hcs
            have hFt : F ≤ t + 1 := by
              have := fun h => hcs (Or.inr h)
              omega
            have hFe : F = t + 1 := by
              have h8 := HF.out.fl
              rw [if_neg Bool.false_ne_true] at h8
              omega
            obtain ⟨hX, hZ, hY⟩ := fal_last HF.out (by have := HNN.out.1.1; omega) (by have := HLT.out; omega) hFt
            rw [hY]
            have HO7 := Lib.hid (HO2.out.put hs7 hc7 hf7)
            obtain ⟨S7, hS7⟩ : ∃ z, (writeP s ((t % N : Nat) : Int) (oneB t)).1 = z := ⟨_, rfl⟩
            rw [hS7] at HO7 hX hZ
            have HF7 := Lib.hid (show Fal N dn S7 from by
              have e : dn = t + 1 := by
                rw [← HDN.out, if_neg Bool.false_ne_true]
                have := HLT.out
                omega
              rw [e]
              exact hX)
            have g1 : decide ((F : Int) ≤ (T1 : Int)) = true := dT (by have := HT1.out; omega)
            have g2 : decide (F ≤ T1) = true := dT (by have := HT1.out; omega)
            clear hX hY hs7 hc7 hf7 hS7 HO2 HM HO1 HV1 HO hcs hFt hFe
            go_wp2_with fail
            refine (up_any q c7 S7 w7 HO7.out.dk).mono ?_; rintro e w8 ⟨rfl, rfl⟩
            rw [hZ]
            go_wp2
            go_meet
            exact ⟨_, _, HO7, HF7⟩
        · have dd : decide ((t : Int) < (K : Int)) = false := dF (by omega)
          have d0 : decide (t < K) = false := dF hlt
          have HFF := Lib.hid (show Fal N dn s from by
            have e : dn = t := by
              rw [← HDN.out]
              have h8 := HF.out.fl
              split
              · omega
              · rename_i h; rw [if_neg h] at h8; omega
            rw [e]
            exact HF.out.toFal)
          clear hlt
          go_wp2
          go_meet
          exact ⟨_, _, HO, HFF⟩
    cases anew with
    | true =>
      go_wp2_with fail
      refine (crashAt_any q 0 none 0 0 [] c4 _ w4 HO4.out.dk (valC_nilD w4) (by decide)).mono ?_; rintro e w5 ⟨rfl, ⟨c5, hs5, hc5⟩, hf5⟩
      have HO5 := Lib.hid (HO4.out.put hs5 hc5 hf5)
      have HF5 := Lib.hid (falU_t N F)
      clear hs5 hc5 hf5 HO4
      go_wp2
      go_meet
      exact ⟨_, _, HO5, HF5⟩
    | false =>
      have HF4 := Lib.hid (falU_f N F HNN.out.2.1.1)
      go_wp2
      go_meet
      exact ⟨_, _, HO4, HF4⟩
end Go.Proofs.Ytocfphijheidbaa
