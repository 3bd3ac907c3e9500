/- NumBack: the walk. -/
import Derived.Test.YtcpihfkhhmggfaaNumH
namespace Go.Proofs.Ytcpihfkhhmggfaa
open Go.RowKit

set_option maxRecDepth 100000 in
set_option maxHeartbeats 1000000 in
theorem walkBackNo (W : Int) (a : Option Addr) (len cap : Nat) (l : List Int) (s : ByteArray) (w : World) (h : Row w a len l) (h1 : s.size ≤ 8000) (h2 : len ≤ 500) (hj : joinOk W l = false) :
    Calls Try.prog 5 #[.int .i64 W, .slice a len cap, .string s] w fun e w' => e = .returned (.bool true) ∧ Below w.heap.size w w' := by
  have HR := Lib.hid h
  have d1 := dF (p := (8000 : Int) < (s.size : Int)) (by omega)
  have d2 := dF (p := (500 : Int) < (len : Int)) (by omega)
  obtain ⟨u1, u2⟩ := unhex_hex s
  have ht : (bs (hexTo s s.size)).size ≤ 16000 := by rw [bs_size, hexTo_length]; omega
  obtain ⟨T, hT⟩ : ∃ T, bs (hexTo s s.size) = T := ⟨_, rfl⟩
  rw [hT] at u1 u2 ht
  have e1 : joinE W l = 1 := by simp [joinE, hj]
  have e2 : joinL W l = [] := by simp [joinL, hj]
  have z0 : (bs []).toList = [] := bs_toList _
  clear h hj
  go_enter Try.func5, Try.ntmps5
  go_wp2_with fail
  refine (nfirst _).mono ?_; rintro e w1 ⟨rfl, hb⟩
  have HB1 := Lib.hid hb; clear hb
  go_wp2_with fail
  refine (hex_any _ _ (by omega)).mono ?_; rintro e w2 ⟨rfl, hb⟩
  have HB2 := Lib.hid (HB1.out.trans (hb.mono HB1.out.size)); clear hb
  go_wp2_with fail
  refine (unhex_any _ _ (by omega)).mono ?_; rintro e w3 ⟨rfl, hb⟩
  have HB3 := Lib.hid (HB2.out.trans (hb.mono HB2.out.size)); clear hb
  go_wp2_with fail
  refine (join_any _ _ _ _ l _ (HR.out.below HB3.out) (by omega)).mono ?_; rintro e w4 ⟨rfl, hb⟩
  have HB4 := Lib.hid (HB3.out.trans (hb.mono HB3.out.size)); clear hb
  go_wp2_with fail
  refine (nfirst _).mono ?_; rintro e w5 ⟨rfl, hb⟩
  have HB5 := Lib.hid (HB4.out.trans (hb.mono HB4.out.size)); clear hb
  go_wp2
  go_ret
  exact ⟨rfl, HB5.out⟩

set_option maxRecDepth 100000 in
set_option maxHeartbeats 1000000 in
theorem walkBackYes (W : Nat) (a : Option Addr) (len cap : Nat) (l : List Int) (s : ByteArray) (w : World) (h : Row w a len l) (h1 : s.size ≤ 8000) (h2 : len ≤ 500) (k1 : 1 ≤ W) (k6 : W ≤ 6) (hf : AllFit W l l.length) :
    Calls Try.prog 5 #[.int .i64 W, .slice a len cap, .string s] w fun e w' => e = .returned (.bool true) ∧ Below w.heap.size w w' := by
  have HR := Lib.hid h
  have d1 := dF (p := (8000 : Int) < (s.size : Int)) (by omega)
  have d2 := dF (p := (500 : Int) < (len : Int)) (by omega)
  have d3 := dF (p := (W : Int) < 1) (by omega)
  have d4 := dF (p := 6 < (W : Int)) (by omega)
  obtain ⟨u1, u2⟩ := unhex_hex s
  have ht : (bs (hexTo s s.size)).size ≤ 16000 := by rw [bs_size, hexTo_length]; omega
  obtain ⟨T, hT⟩ : ∃ T, bs (hexTo s s.size) = T := ⟨_, rfl⟩
  rw [hT] at u1 u2 ht
  have hok := join_yes (W := W) (l := l) (by omega) hf
  have e1 : joinE W l = 0 := by simp [joinE, hok]
  have e2 : bs (joinL W l) = bs (joinTo W l l.length) := by simp [joinL, hok]
  have hl : l.length = len := h.1
  have HG := Lib.hid (fun i hi => get_join W l i hi k1 k6 hf)
  obtain ⟨J, hJ⟩ : ∃ J, bs (joinTo W l l.length) = J := ⟨_, rfl⟩
  have hjs : J.size = W * len := by rw [← hJ, bs_size, joinTo_length, hl]
  rw [hJ] at e2 HG
  have hwl : W * len ≤ 3000 := by
    have := Nat.mul_le_mul k6 h2
    omega
  have hwl2 : (W : Int) * (len : Int) ≤ 3000 := by rw [← Int.natCast_mul]; omega
  have hwl3 : 0 ≤ (W : Int) * (len : Int) := Int.mul_nonneg (by omega) (by omega)
  have d5 : ((J.size : Int) != (W : Int) * (len : Int)) = false := nF (by rw [hjs, Int.natCast_mul])
  have hJ9 : J.size ≤ 9223372036854775807 := by omega
  have g2 : getE J (J.size : Int) W = 2 := by rw [getE, if_pos (by omega), if_neg (by omega)]
  have HJS := Lib.hid hjs
  have HL := Lib.hid hl
  clear h hf hok hJ hjs hl
  go_enter Try.func5, Try.ntmps5
  go_wp2_with fail
  refine (nfirst _).mono ?_; rintro e w1 ⟨rfl, hb⟩
  have HB1 := Lib.hid hb; clear hb
  go_wp2_with fail
  refine (hex_any _ _ (by omega)).mono ?_; rintro e w2 ⟨rfl, hb⟩
  have HB2 := Lib.hid (HB1.out.trans (hb.mono HB1.out.size)); clear hb
  go_wp2_with fail
  refine (unhex_any _ _ (by omega)).mono ?_; rintro e w3 ⟨rfl, hb⟩
  have HB3 := Lib.hid (HB2.out.trans (hb.mono HB2.out.size)); clear hb
  go_wp2_with fail
  refine (join_any _ _ _ _ l _ (HR.out.below HB3.out) (by omega)).mono ?_; rintro e w4 ⟨rfl, hb⟩
  have HB4 := Lib.hid (HB3.out.trans (hb.mono HB3.out.size)); clear hb
  go_wp2_with fail
  go_loop [11] (fun i => ∃ k : Nat, k ≤ len ∧ i = .int .i64 k) (fun i => len - (intOf i).toNat)
  case atStart => exact ⟨0, Nat.zero_le _, rfl⟩
  case round =>
    obtain ⟨k, hk, rfl⟩ := hrel
    by_cases hlt : k < len
    · rcases HR.out.2 with h0 | ⟨b, off, rfl, hbl, hc⟩
      · omega
      · obtain ⟨n, hn⟩ : ∃ n, l.getD k 0 = n := ⟨_, rfl⟩
        have hcell : w4.cell? ⟨b, off + k, none⟩ = some (.int .i64 n) := by rw [HB4.out.cell hbl, ← hn]; exact hc k hlt
        obtain ⟨g3, g4⟩ := HG.out k (by rw [HL.out]; exact hlt)
        rw [hn] at g3
        have hkw : (k : Int) * (W : Int) ≤ 3000 := by
          rw [← Int.natCast_mul]
          have := Nat.mul_le_mul hk k6
          omega
        have hkw0 : 0 ≤ (k : Int) * (W : Int) := Int.mul_nonneg (by omega) (by omega)
        clear hc hn
        go_wp2_with (go_at_call 19; refine (get_any _ _ _ _ hJ9).mono ?_; rintro e w6 ⟨rfl, rfl⟩)
        go_round
        case rel => exact ⟨k + 1, by omega, by go_num⟩
        case measure => simp [intOf]; omega
    · have hkl : k = len := by omega
      subst hkl
      go_wp2_with fail
      refine (get_any _ _ _ _ hJ9).mono ?_; rintro e w6 ⟨rfl, rfl⟩
      go_wp2_with fail
      refine (nfirst _).mono ?_; rintro e w7 ⟨rfl, hb⟩
      have HB7 := Lib.hid (HB4.out.trans (hb.mono HB4.out.size)); clear hb
      go_wp2
      go_ret
      exact ⟨rfl, HB7.out⟩

set_option maxRecDepth 100000 in
theorem walkBack (W : Int) (a : Option Addr) (len cap : Nat) (l : List Int) (s : ByteArray) (w : World) (h : Row w a len l) (hs : s.size ≤ maxLen) :
    Calls Try.prog 5 #[.int .i64 W, .slice a len cap, .string s] w fun e w' => e = .returned (.bool true) ∧ Below w.heap.size w w' := by
  unfold maxLen at hs
  by_cases h1 : s.size ≤ 8000 ∧ len ≤ 500
  · cases hj : joinOk W l
    · exact walkBackNo W a len cap l s w h h1.1 h1.2 hj
    · have hh := hj
      simp only [joinOk, Bool.and_eq_true, decide_eq_true_eq, List.all_eq_true] at hh
      obtain ⟨K, rfl⟩ := Int.eq_ofNat_of_zero_le (show 0 ≤ W by omega)
      refine walkBackYes K a len cap l s w h h1.1 h1.2 (by omega) (by omega) ?_
      intro j hj'
      rw [List.getD_eq_getElem?_getD, List.getElem?_eq_getElem hj']
      exact hh.2 _ (List.getElem_mem hj')
  · have hd : decide ((8000 : Int) < (s.size : Int)) = true ∨ decide ((8000 : Int) < (s.size : Int)) = false ∧ decide ((500 : Int) < (len : Int)) = true := by
      simp only [decide_eq_true_eq, decide_eq_false_iff_not]; omega
    clear h1 h
    rcases hd with d1 | ⟨d1, d2⟩
    all_goals
      go_enter Try.func5, Try.ntmps5
      go_wp2_with fail
      refine (nfirst _).mono ?_; rintro e w1 ⟨rfl, hb⟩
      have HB1 := Lib.hid hb; clear hb
      go_wp2_with fail
      refine (nfirst _).mono ?_; rintro e w2 ⟨rfl, hb⟩
      have HB2 := Lib.hid (HB1.out.trans (hb.mono HB1.out.size)); clear hb
      go_wp2
      go_ret
      exact ⟨rfl, HB2.out⟩
end Go.Proofs.Ytcpihfkhhmggfaa
