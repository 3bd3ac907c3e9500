/- Contracts of Bytes, Lists, CopyBytes, Clone, few, frame.Put (chapter 7), over this seat's translation. -/
import Derived.Test.YtngncdmmlkcekaaBRw
import Derived.Test.YtngncdmmlkcekaaFrA
import Derived.Test.YtngncdmmlkcekaaNumA
namespace Go.Proofs.Ytngncdmmlkcekaa
open Go.RowKit

theorem ret_vi {l : IntKind} {v : Value} {c d : Int} (g : c = d) : Ending.returned (.tuple #[v, .int l c]) = Ending.returned (.tuple #[v, .int l d]) := by rw [g]
theorem put_fit (n : Nat) (h : n ≤ 65535) : putL n 2 = [UInt8.ofNat (n / 256), UInt8.ofNat n] ∧ putE n 2 = 0 := by
  have hf : fits n 2 = true := by
    simp only [fits, decide_eq_true_eq]
    refine ⟨by omega, by omega, by omega, ?_⟩
    show (n : Int) / 2 ^ 16 ≤ 0
    omega
  refine ⟨?_, by rw [putE, if_pos hf]⟩
  rw [putL, if_pos hf]
  have e : putTo n (2 : Int).toNat (2 : Int).toNat = [by8 ((n : Int) / 2 ^ 8), by8 ((n : Int) / 2 ^ 0)] := rfl
  rw [e]
  have e1 : by8 ((n : Int) / 2 ^ 8) = UInt8.ofNat (n / 256) := by
    apply UInt8.toNat_inj.1
    have := by8_toNat ((n : Int) / 2 ^ 8)
    rw [UInt8.toNat_ofNat']; omega
  have e2 : by8 ((n : Int) / 2 ^ 0) = UInt8.ofNat n := by
    apply UInt8.toNat_inj.1
    have := by8_toNat ((n : Int) / 2 ^ 0)
    rw [UInt8.toNat_ofNat']; omega
  rw [e1, e2]
theorem put_unfit (n : Nat) (h : ¬ n ≤ 65535) : putL n 2 = [] ∧ putE n 2 = 1 := by
  have hf : ¬ fits n 2 = true := by
    simp only [fits, decide_eq_true_eq]
    intro h2
    have h3 : (n : Int) / 2 ^ 16 ≤ 0 := h2.2.2.2
    omega
  exact ⟨by rw [putL, if_neg hf], by rw [putE, if_neg hf]⟩

theorem bytes_same (a b : Option Addr) (n c d : Nat) (l : List UInt8) (w : World) (ha : RowB w a n l) (hb : RowB w b n l) (na : a = none → n = 0 ∧ c = 0) (nb : b = none → n = 0 ∧ d = 0) :
    Calls Try.prog 47 #[.slice a n c, .slice b n d] w fun e w' => e = .returned (.bool true) ∧ w = w' := by
  have h1 := conv_row (cap := c) ha na
  have h2 := conv_row (cap := d) hb nb
  obtain ⟨s, hs⟩ : ∃ s, bs l = s := ⟨_, rfl⟩
  rw [hs] at h1 h2
  clear ha hb na nb hs
  go_enter Try.func47, Try.ntmps47
  go_wp2
  go_ret
  exact ⟨rfl, rfl⟩

theorem copyBytes_any (a : Option Addr) (n c : Nat) (l : List UInt8) (w : World) (h : RowB w a n l) (hn : a = none → n = 0 ∧ c = 0) (hlen : n ≤ 1000000) :
    Calls Try.prog 41 #[.slice a n c] w fun e w' => ∃ v, e = .returned v ∧ w'.ownsRow w.heap.size 5 1 v n (bc l) ∧ Below w.heap.size w w' := by
  have HR := Lib.hid h
  have HN := Lib.hid hn
  obtain ⟨i0, hi, hz0, hz1, hz2⟩ := info_parts infoU8
  have HI := Lib.hid hi
  have HZ0 := Lib.hid hz0
  have HZ1 := Lib.hid hz1
  have HZ2 := Lib.hid hz2
  clear h hn hi hz0 hz1 hz2
  go_enter Try.func41, Try.ntmps41
  go_wp2_with (at_builtin; refine append_cells rfl _ _ 43 5 rfl i0 (.int .u8 0) 1 Try.underlying43 HI.out HZ0.out HZ1.out HZ2.out rfl w.heap.size _ 0 [] rfl (World.ownsRow_made w #[] 0 (Nat.le_refl _) (by decide) rfl) a n c (bc l) rfl HN.out (CellsAt.below HR.out ((Below.refl _ _).alloc (Nat.le_refl _) _)) (bc_oneCell l) (by omega) (by decide) (by simp) ?_)
  intro v' w' hown hgrow
  have HB := Lib.hid (((Below.refl w.heap.size w).alloc (Nat.le_refl _) _).grown hgrow (by simp) (fun k hk => by simp [Value.ownBlock] at hk; omega))
  have HO := Lib.hid hown
  clear hown hgrow
  go_wp2
  go_ret
  exact ⟨_, rfl, HO.out, HB.out⟩

theorem clone_any (a : Addr) (n c : Nat) (l : List UInt8) (w : World) (h : RowB w (some a) n l) (hlen : n ≤ 1000000) :
    Calls Try.prog 67 #[.slice (some a) n c] w fun e w' => ∃ v, e = .returned v ∧ w'.ownsRow w.heap.size 5 1 v n (bc l) ∧ Below w.heap.size w w' := by
  have HR := Lib.hid h
  obtain ⟨i0, hi, hz0, hz1, hz2⟩ := info_parts infoU8
  have HI := Lib.hid hi
  have HZ0 := Lib.hid hz0
  have HZ1 := Lib.hid hz1
  have HZ2 := Lib.hid hz2
  clear h hi hz0 hz1 hz2
  have hnil := fun w => Lib.run_eql_slice_nil (P := Try.prog) w 43 5 (some a) n c 0 0 Try.underlying43
  go_enter Try.func67, Try.ntmps67
  go_wp2_with (at_builtin; refine append_cells rfl _ _ 43 5 rfl i0 (.int .u8 0) 1 Try.underlying43 HI.out HZ0.out HZ1.out HZ2.out rfl w.heap.size _ 0 [] rfl (World.ownsRow_made w #[] 0 (Nat.le_refl _) (by decide) rfl) (some a) n c (bc l) rfl (fun h => by cases h) (CellsAt.below HR.out ((Below.refl _ _).alloc (Nat.le_refl _) _)) (bc_oneCell l) (by omega) (by decide) (by simp) ?_)
  intro v' w' hown hgrow
  have HB := Lib.hid (((Below.refl w.heap.size w).alloc (Nat.le_refl _) _).grown hgrow (by simp) (fun k hk => by simp [Value.ownBlock] at hk; omega))
  have HO := Lib.hid hown
  clear hown hgrow
  go_wp2
  go_ret
  exact ⟨_, rfl, HO.out, HB.out⟩

set_option maxRecDepth 100000 in
theorem lists_same (a b : Option Addr) (n c d : Nat) (M : List (List UInt8)) (w : World) (ha : RowBB w a n M) (hb : RowBB w b n M) (hn : n ≤ 100000) : Calls Try.prog 46 #[.slice a n c, .slice b n d] w fun e w' => e = .returned (.bool true) ∧ Below w.heap.size w w' := by
  have HA := Lib.hid ha
  have HB := Lib.hid hb
  clear ha hb
  go_enter Try.func46, Try.ntmps46
  go_wp2_with fail
  go_loopw [5] (fun i wr => ∃ k : Nat, k ≤ n ∧ i = .int .i64 k ∧ Below w.heap.size w wr) (fun i _ => n - (intOf i).toNat)
  case atStart => exact ⟨0, Nat.zero_le _, rfl, Below.refl _ _⟩
  case round =>
    obtain ⟨k, hk, rfl, hbel⟩ := hrel
    have HBL := Lib.hid hbel
    clear hbel
    by_cases hlt : k < n
    · obtain ⟨b1, o1, ai, ci, rfl, hbl1, c1, r1, n1⟩ := (HA.out.below HBL.out).at k hlt
      obtain ⟨b2, o2, aj, cj, rfl, hbl2, c2, r2, n2⟩ := (HB.out.below HBL.out).at k hlt
      have i1 : (k : Int) < (n : Int) := by omega
      obtain ⟨m, hm⟩ : ∃ m, M.getD k [] = m := ⟨_, rfl⟩
      rw [hm] at c1 r1 n1 c2 r2 n2
      have HBS := Lib.hid (fun q => bytes_same ai aj m.length ci cj m (wr.drewN q) (CellsAt.below r1 (below_drewN (Below.refl _ _) q)) (CellsAt.below r2 (below_drewN (Below.refl _ _) q)) n1 n2)
      obtain ⟨s, hs⟩ : ∃ s, m.length = s := ⟨_, rfl⟩
      rw [hs] at c1 c2 HBS
      clear r1 n1 r2 n2 hm hs
      go_wp2_with fail
      go_quiet ((go_at_call 47; exact quiet_same (HBS.out _)))
      rename_i nq
      have HB9 := Lib.hid (below_drewN HBL.out nq)
      go_wp2
      go_roundw
      case rel => exact ⟨k + 1, by omega, by go_num, HB9.out⟩
      case measure => simp [intOf]; omega
    · go_wp2
      go_ret
      exact ⟨rfl, HBL.out⟩

set_option maxRecDepth 100000 in
theorem few7_any (a : Option Addr) (n c : Nat) (M : List (List UInt8)) (w : World) (h : RowBB w a n M) (hlen : n ≤ 9223372036854775807) (hsz : ∀ k, k < n → (M.getD k []).length ≤ 9223372036854775807) :
    Calls Try.prog 40 #[.slice a n c] w fun e w' => (e = .returned (.bool false) ∨ e = .returned (.bool true) ∧ n ≤ 100 ∧ capL M ≤ 140000) ∧ w = w' := by
  have HR := Lib.hid h
  have hML : M.length = n := by obtain ⟨_, _, h2, _⟩ := h; exact h2
  have HML := Lib.hid hML
  have HSZ := Lib.hid hsz
  clear h hsz hML
  go_enter Try.func40, Try.ntmps40
  go_wp2
  go_loop [3, 4] (fun n' i => ∃ k S : Nat, k ≤ n ∧ k ≤ 100 ∧ S ≤ 140000 ∧ n' = .int .i64 S ∧ i = .int .i64 k ∧ Hid (S = capL (M.take k))) (fun _ i => n - (intOf i).toNat)
  case atStart => exact ⟨0, 0, Nat.zero_le _, Nat.zero_le _, Nat.zero_le _, rfl, rfl, rfl⟩
  case round =>
    obtain ⟨k, S, hk, hk60, hS, rfl, rfl, hall⟩ := hrel
    by_cases hlt : k < n ∧ k < 100
    · obtain ⟨l1, l2⟩ := hlt
      obtain ⟨b1, o1, ai, ci, rfl, hbl1, c1, r1, n1⟩ := HR.out.at k l1
      have hst := cap_take (M := M) (k := k) (by rw [HML.out]; exact l1)
      have hs6 := HSZ.out k l1
      obtain ⟨s, hs⟩ : ∃ s, (M.getD k []).length = s := ⟨_, rfl⟩
      rw [hs] at c1 hs6 hst
      rw [← hall.out] at hst
      have HST := Lib.hid hst
      have d2 := dT (p := (k : Int) < 100) (by omega)
      clear r1 n1 hs hst
      have hw9 : min s 70001 = if 70001 < s then 70001 else s := by split <;> omega
      by_cases c2 : 70001 < s
      · have d4 := dT (p := (70001 : Int) < (s : Int)) (by omega)
        by_cases c : S + 70001 ≤ 140000
        · have d3 := dF (p := (140000 : Int) < (S : Int) + 70001) (by omega)
          have HW := Lib.hid (show S + min s 70001 = S + 70001 by omega)
          clear hw9
          go_wp2
          go_round
          case rel => exact ⟨k + 1, S + 70001, by omega, by omega, c, by go_num, by go_num, by rw [← HW.out]; exact HST.out.symm⟩
          case measure => simp [intOf]; omega
        · have d3 := dT (p := (140000 : Int) < (S : Int) + 70001) (by omega)
          clear hw9
          go_wp2
          go_ret
          exact ⟨by first | exact Or.inl rfl | rfl, rfl⟩
      · have d4 := dF (p := (70001 : Int) < (s : Int)) (by omega)
        by_cases c : S + s ≤ 140000
        · have d3 := dF (p := (140000 : Int) < (S : Int) + (s : Int)) (by omega)
          have HW := Lib.hid (show S + min s 70001 = S + s by omega)
          clear hw9
          go_wp2
          go_round
          case rel => exact ⟨k + 1, S + s, by omega, by omega, c, by go_num, by go_num, by rw [← HW.out]; exact HST.out.symm⟩
          case measure => simp [intOf]; omega
        · have d3 := dT (p := (140000 : Int) < (S : Int) + (s : Int)) (by omega)
          clear hw9
          go_wp2
          go_ret
          exact ⟨by first | exact Or.inl rfl | rfl, rfl⟩
    · have hd : decide (k < n) = false ∨ decide (k < n) = true ∧ decide ((k : Int) < 100) = false := by
        simp only [decide_eq_true_eq, decide_eq_false_iff_not]; omega
      by_cases h6 : n ≤ 100
      · have e6 := dT (p := (n : Int) ≤ 100) (by omega)
        have hk9 : k = n := by omega
        have HC := Lib.hid (show capL M ≤ 140000 by
          have h1 := hall.out
          rw [hk9, ← HML.out, List.take_length] at h1
          omega)
        rcases hd with d1 | ⟨d1, d2⟩
        all_goals
          go_wp2
          go_ret
          exact ⟨by first | exact Or.inr ⟨rfl, h6, HC.out⟩ | exact Or.inr ⟨rfl, HC.out⟩, rfl⟩
      · have e6 := dF (p := (n : Int) ≤ 100) (by omega)
        rcases hd with d1 | ⟨d1, d2⟩
        all_goals
          go_wp2
          go_ret
          exact ⟨by first | exact Or.inl rfl | rfl, rfl⟩

set_option maxRecDepth 100000 in
set_option maxHeartbeats 1600000 in
theorem nput7 (a : Option Addr) (n c : Nat) (M : List (List UInt8)) (w : World) (h : RowBB w a n M) (hn : n ≤ 300) (hc : capL M ≤ 300000) (hsz : ∀ k, k < n → (M.getD k []).length ≤ 9223372036854775807) :
    Calls Try.prog 42 #[.slice a n c] w fun e w' => ∃ v, e = .returned (.tuple #[v, .int .i64 (frE M)]) ∧ w'.ownsRow w.heap.size 5 1 v (frS M).length (bc (frS M)) ∧ Below w.heap.size w w' := by
  have HR := Lib.hid h
  have HML := Lib.hid (show M.length = n by obtain ⟨_, _, h2, _⟩ := h; exact h2)
  have HSZ := Lib.hid hsz
  obtain ⟨i0, hi, hz0, hz1, hz2⟩ := info_parts infoU8
  have HI := Lib.hid hi
  have HZ0 := Lib.hid hz0
  have HZ1 := Lib.hid hz1
  have HZ2 := Lib.hid hz2
  have hCT := cap_le M
  have HC := Lib.hid hc
  have HCT := Lib.hid hCT
  clear h hi hz0 hz1 hz2 hCT hc hsz
  go_enter Try.func42, Try.ntmps42
  go_wp2_with fail
  go_loopw [4, 11] (fun v i wr => ∃ k L : Nat, k ≤ n ∧ i = .int .i64 k ∧ wr.ownsRow w.heap.size 5 1 v L (bc (frameL (M.take k))) ∧ Below w.heap.size w wr ∧ Hid (allFit (M.take k) = true) ∧ Hid (L = (frameL (M.take k)).length) ∧ L ≤ 300600) (fun _ i _ => n - (intOf i).toNat)
  case atStart => exact ⟨0, 0, Nat.zero_le _, rfl, World.ownsRow_nil _ _ _ _, Below.refl _ _, rfl, rfl, Nat.zero_le _⟩
  case round =>
    obtain ⟨k, L, hk, rfl, hown1, hbel, hfit, hL, hL2⟩ := hrel
    obtain ⟨va, vc, rfl⟩ := own_shape hown1
    have HO := Lib.hid hown1
    have HBL := Lib.hid hbel
    have hszz := hbel.size
    clear hown1 hbel
    by_cases hlt : k < n
    · obtain ⟨b1, o1, ai, ci, rfl, hbl1, c0, r1, n1⟩ := HR.out.at k hlt
      have c1 := (HBL.out.cell (p := ⟨b1, o1 + k, none⟩) hbl1).trans c0
      clear c0
      have HRI := Lib.hid r1
      have HNI := Lib.hid n1
      have HFT := Lib.hid (fit_take (M := M) (k := k) (by rw [HML.out]; exact hlt))
      have HFR := Lib.hid (frame_take (M := M) (k := k) (by rw [HML.out]; exact hlt))
      have HFN := Lib.hid (fun h => fit_no (M := M) (k := k) (by rw [HML.out]; exact hlt) h)
      have hs6 := HSZ.out k hlt
      have HLL := Lib.hid (show allFit (M.take (k + 1)) = true → (frameL (M.take (k + 1))).length ≤ 300600 from fun h => by
        have h1 := frameL_len (M.take (k + 1))
        have h2 := cap_fit h
        have h3 := HCT.out (k + 1)
        have h4 := HC.out
        have h5 : (M.take (k + 1)).length ≤ k + 1 := List.length_take_le _ _
        omega)
      obtain ⟨m, hm⟩ : ∃ m, M.getD k [] = m := ⟨_, rfl⟩
      rw [hm] at c1 HRI HNI HFT HFR HFN hs6
      obtain ⟨s, hs⟩ : ∃ s, m.length = s := ⟨_, rfl⟩
      have HS := Lib.hid hs
      rw [hs] at c1 HRI HNI HFT HFN hs6
      clear r1 n1 hm hs
      by_cases c2 : s ≤ 65535
      · obtain ⟨p1, p2⟩ := put_fit s c2
        have HP := Lib.hid (fun w => put_any s 2 w)
        rw [p1, p2] at HP
        have hF : allFit (M.take (k + 1)) = true := by rw [HFT.out, hfit.out]; simp [c2]
        have HF := Lib.hid hF
        have hLL := HLL.out hF
        have hlen : (frameL (M.take (k + 1))).length = L + 2 + s := by
          rw [HFR.out, List.length_append, List.length_append, ← hL.out, HS.out]; simp [head2]; omega
        have hL3 : L + 2 + s ≤ 300600 := by omega
        have HLN := Lib.hid hlen
        have HQ := Lib.hid (show bc (frameL (M.take k)) ++ (Lib.strCells (bs [UInt8.ofNat (s / 256), UInt8.ofNat s]) ++ bc m) = bc (frameL (M.take (k + 1))) by
          rw [HFR.out, head2, HS.out, strCells_bs, bc_append, bc_append])
        have hB2 : (bs [UInt8.ofNat (s / 256), UInt8.ofNat s]).size = 2 := rfl
        have HB2s := Lib.hid hB2
        obtain ⟨B2, hB2e⟩ : ∃ B, bs [UInt8.ofNat (s / 256), UInt8.ofNat s] = B := ⟨_, rfl⟩
        rw [hB2e] at HP HQ HB2s
        clear hB2 hB2e p1 p2 hF hLL hlen
        go_wp2_with fail
        refine (HP.out _).mono ?_; rintro e w2 ⟨rfl, hb⟩
        have HB2 := Lib.hid (HBL.out.trans (hb.mono hszz))
        have HO2 := Lib.hid (own_below' HO.out hb)
        clear hb
        go_wp2_with (first | (at_builtin; refine Lib.wpList_append_own_string _ rfl _ _ 43 9 rfl w.heap.size 5 i0 Try.underlying43 Try.underlying9 HI.out HZ0.out HZ1.out HZ2.out _ L _ rfl HO2.out B2 rfl ?c6 ?c7 ?c8 ?_))
        case c6 => rw [HB2s.out]; unfold maxLen; omega
        case c7 => rw [HB2s.out]; omega
        case c8 => exact HB2.out.size
        intro v3 w3 hown3 hgrow3 _
        have HB3 := Lib.hid (HB2.out.grown hgrow3 HB2.out.size (fun j hj => (HO2.out.lt j hj).1))
        have HR3 := Lib.hid (CellsAt.below HRI.out HB3.out)
        rw [HB2s.out] at hown3
        have HO3 := Lib.hid hown3
        clear hown3 hgrow3
        go_wp2_with (first | (at_builtin; refine append_cells rfl _ _ 43 5 rfl i0 (.int .u8 0) 1 Try.underlying43 HI.out HZ0.out HZ1.out HZ2.out rfl w.heap.size _ (L + 2) _ rfl HO3.out ai s ci (bc m) rfl HNI.out HR3.out (bc_oneCell m) (by omega) (by decide) HB3.out.size ?_))
        intro v4 w4 hown4 hgrow4
        have HB4 := Lib.hid (HB3.out.grown hgrow4 HB3.out.size (fun j hj => (HO3.out.lt j hj).1))
        rw [HQ.out] at hown4
        have HO4 := Lib.hid hown4
        clear hown4 hgrow4
        go_wp2
        go_roundw
        case rel => exact ⟨k + 1, L + 2 + s, by omega, by go_num, HO4.out, HB4.out, HF.out, HLN.out.symm, hL3⟩
        case measure => simp [intOf]; omega
      · obtain ⟨p1, p2⟩ := put_unfit s c2
        have HP := Lib.hid (fun w => put_any s 2 w)
        rw [p1, p2] at HP
        have HV := Lib.hid (show frS M = [] ∧ frE M = 3 by
          have := HFN.out c2
          rw [frS, frE, this]; exact ⟨rfl, rfl⟩)
        clear p1 p2
        go_wp2_with fail
        refine (HP.out _).mono ?_; rintro e w2 ⟨rfl, hb⟩
        have HB2 := Lib.hid (HBL.out.trans (hb.mono hszz))
        clear hb
        go_wp2
        go_ret2
        exact ⟨.slice none 0 0, ret_vi (v := .slice none 0 0) HV.out.2.symm, by rw [HV.out.1]; exact World.ownsRow_nil _ _ _ _, HB2.out⟩
    · have hkn : k = n := by omega
      subst hkn
      have HT := Lib.hid (show M.take k = M by rw [← HML.out]; exact List.take_length)
      have HV := Lib.hid (show frS M = frameL M ∧ frE M = 0 by
        have := hfit.out
        rw [HT.out] at this
        rw [frS, frE, this]; exact ⟨rfl, rfl⟩)
      rw [HT.out] at HO
      rw [HT.out] at hL
      go_wp2
      go_ret2
      exact ⟨.slice va L vc, ret_vi (v := .slice va L vc) HV.out.2.symm, by rw [HV.out.1, ← hL.out]; exact HO.out, HBL.out⟩
end Go.Proofs.Ytngncdmmlkcekaa
