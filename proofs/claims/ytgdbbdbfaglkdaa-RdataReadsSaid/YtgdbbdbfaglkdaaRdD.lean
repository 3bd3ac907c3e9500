/- RdataTexts: the walk. -/
import Derived.Test.YtgdbbdbfaglkdaaRdC
namespace Go.Proofs.Ytgdbbdbfaglkdaa
open Go.RowKit

def Short (l : List ByteArray) (k : Nat) : Prop := ∀ j, j < k → (tx l j).size ≤ 1200
theorem short_next {l : List ByteArray} {k : Nat} (h : Short l k) (h1 : (tx l k).size ≤ 1200) : Short l (k + 1) := by
  intro j hj
  by_cases e : j = k
  · subst e; exact h1
  · exact h j (by omega)
theorem short_len {l : List ByteArray} {k : Nat} (h : Short l k) : (txtTo l k).length ≤ 1201 * k := by
  induction k with
  | zero => simp [txtTo]
  | succ k ih =>
    have := ih fun j hj => h j (by omega)
    have := h k (by omega)
    rw [txtTo_len]
    omega

set_option maxRecDepth 100000 in
set_option maxHeartbeats 2000000 in
theorem walkRTexts1 (a : Option Addr) (len cap : Nat) (l : List ByteArray) (b : Option Addr) (lb cb : Nat) (m : List Int) (w : World) (h : RowS w a len l) (hB : Row w b lb m) (hsz : ∀ k, k < len → (tx l k).size ≤ 9223372036854775807) (h1 : len ≤ 30) (h2 : lb ≤ 500) :
    Calls Try.prog 7 #[.slice a len cap, .slice b lb cb] w fun e w' => e = .returned (.bool true) ∧ Below w.heap.size w w' := by
  have HR := Lib.hid h
  have HM := Lib.hid hB
  have HSZ := Lib.hid hsz
  have d1 := dF (p := (30 : Int) < (len : Int)) (by omega)
  have d2 := dF (p := (500 : Int) < (lb : Int)) (by omega)
  clear h hB hsz
  go_enter Try.func7, Try.ntmps7
  go_wp2_with fail
  refine (rfirst _).mono ?_; rintro e w1 ⟨rfl, hb⟩
  have HB1 := Lib.hid hb; clear hb
  go_wp2
  go_loop [5, 6, 7] (fun n s i => ∃ (k : Nat) (t : ByteArray), k ≤ len ∧ Short l k ∧ i = .int .i64 k ∧ n = .int .i64 ((txtTo l k).length : Nat) ∧ s = .string t ∧ t.size ≤ (txtTo l k).length) (fun _ _ i => len - (intOf i).toNat)
  case atStart => exact ⟨0, _, Nat.zero_le _, fun j hj => absurd hj (by omega), rfl, rfl, rfl, Nat.le_refl _⟩
  case round =>
    obtain ⟨k, t, hk, hsh, rfl, rfl, rfl, ht⟩ := hrel
    have HSH := Lib.hid hsh
    have hle := short_len hsh
    have hn0 := txtTo_len l k
    obtain ⟨n, hn⟩ : ∃ n, (txtTo l k).length = n := ⟨_, rfl⟩
    have HN9 := Lib.hid hn
    rw [hn] at hle ht hn0 ⊢
    clear hsh hn
    by_cases hlt : k < len
    · rcases HR.out.2 with hz | ⟨q, off, rfl, hbl, hc⟩
      · omega
      · obtain ⟨s, hs⟩ : ∃ s, tx l k = s := ⟨_, rfl⟩
        have hcell : w1.cell? ⟨q, off + k, none⟩ = some (.string s) := by rw [HB1.out.cell hbl, ← hs]; exact hc k hlt
        have hs9 := HSZ.out k hlt
        rw [hs] at hn0 hs9
        have HN0 := Lib.hid hn0
        have HS := Lib.hid hs
        clear hc hs hn0
        by_cases e : s.size ≤ 1200
        · have e1 := dF (p := (1200 : Int) < (s.size : Int)) (by omega)
          have HX := Lib.hid (short_next HSH.out (by rw [HS.out]; exact e))
          go_wp2
          go_round
          case rel => exact ⟨k + 1, _, by omega, HX.out, by go_num, by rw [HN0.out]; go_num, rfl, by rw [HN0.out, ByteArray.size_append]; omega⟩
          case measure => simp [intOf]; omega
        · have e1 := dT (p := (1200 : Int) < (s.size : Int)) (by omega)
          go_wp2_with fail
          refine (rfirst _).mono ?_; rintro e w2 ⟨rfl, hb⟩
          have HB2 := Lib.hid (HB1.out.trans (hb.mono HB1.out.size)); clear hb
          go_wp2
          go_ret
          exact ⟨rfl, HB2.out⟩
    · have hkl : k = len := by omega
      subst hkl
      clear hn0
      have hT : (∃ x, textE l = x ∧ (x == 0) = false) ∨ (textE l = 0 ∧ (bs (textL l)).size = n ∧ mayTx (bs (textL l)) = true ∧ n ≤ 1000) := by
        have hll : l.length = k := HR.out.1
        by_cases he : l = []
        · left; exact ⟨4, by simp [textE, he], by decide⟩
        · cases ho : okTx l l.length
          · left; exact ⟨3, by simp [textE, he, ho], by decide⟩
          · right
            have hpos : 0 < l.length := by cases l with
              | nil => exact absurd rfl he
              | cons x l => simp
            have hle2 := okTx_le ho
            rw [hll] at hle2
            refine ⟨by simp [textE, he, ho], ?_, ?_, ?_⟩
            · rw [textL, if_pos ho, bs_size, hll]; exact HN9.out
            · rw [textL, if_pos ho]; exact mayTx_txt l _ hpos ho
            · rw [← HN9.out]; exact hle2
      have hA : (addrE m = 1 ∧ addrL m = []) ∨ (addrE m = 0 ∧ lb ≤ 16 ∧ (bs (addrL m)).size = lb ∧ ∀ i, i < lb → (byteAt (bs (addrL m)) i : Int) = m.getD i 0) := by
        have hml : m.length = lb := HM.out.1
        by_cases h4 : m.length = 4 ∨ m.length = 16
        · cases hj : joinOk 1 m
          · left; simp [addrE, addrL, h4, joinE, joinL, hj]
          · right
            have hh := hj
            simp only [joinOk, Bool.and_eq_true, decide_eq_true_eq, List.all_eq_true] at hh
            have hf : AllFit 1 m m.length := by
              intro j hj'
              rw [List.getD_eq_getElem?_getD, List.getElem?_eq_getElem hj']
              exact hh.2 _ (List.getElem_mem hj')
            have hL : addrL m = joinTo 1 m m.length := by simp [addrL, h4, joinL, hj]
            refine ⟨by simp [addrE, h4, joinE, hj], by omega, ?_, ?_⟩
            · rw [hL, bs_size, joinTo_length, hml, Nat.one_mul]
            · intro i hi
              rw [hL]
              exact join1_at m hf i (by omega)
        · left; simp [addrE, addrL, h4]
      obtain ⟨T, hTe⟩ : ∃ T, bs (textL l) = T := ⟨_, rfl⟩
      rw [hTe] at hT
      have HT9 := Lib.hid hT
      have HA9 := Lib.hid hA
      clear hT hA
      go_wp2_with fail
      refine (text_any _ _ _ l _ (HR.out.below HB1.out) (by omega) (fun j hj => by have := HSH.out j hj; omega)).mono ?_; rintro e w2 ⟨rfl, hb⟩
      have HB2 := Lib.hid (HB1.out.trans (hb.mono HB1.out.size)); clear hb
      have hrow2 := HM.out.below HB2.out
      have HM2 := Lib.hid hrow2
      clear hrow2
      rcases HA9.out with ⟨f1, f2⟩ | ⟨f1, f2, f3, f4⟩
      · have z0 : (bs []).toList = [] := bs_toList _
        rcases HT9.out with ⟨x, g1, g2⟩ | ⟨g1, g2, g3, g4⟩
        all_goals
          go_wp2_with (first | (go_at_call 20; refine (may_txt _ _ (by omega)).mono ?_; rintro e w' ⟨rfl, rfl⟩))
          refine (addr_any _ _ _ _ _ HM2.out (by omega)).mono ?_; rintro e w3 ⟨rfl, hb⟩
          have HB3 := Lib.hid (HB2.out.trans (hb.mono HB2.out.size)); clear hb
          go_wp2_with fail
          refine (rfirst _).mono ?_; rintro e w4 ⟨rfl, hb⟩
          have HB4 := Lib.hid (HB3.out.trans (hb.mono HB3.out.size)); clear hb
          go_wp2
          go_ret
          exact ⟨rfl, HB4.out⟩
      · obtain ⟨A, hAe⟩ : ∃ A, bs (addrL m) = A := ⟨_, rfl⟩
        rw [hAe] at f3 f4
        have HF4 := Lib.hid f4
        have f5 : ((A.size : Int) != (lb : Int)) = false := nF (by omega)
        clear f4
        rcases HT9.out with ⟨x, g1, g2⟩ | ⟨g1, g2, g3, g4⟩
        all_goals
          go_wp2_with (first | (go_at_call 20; refine (may_txt _ _ (by omega)).mono ?_; rintro e w' ⟨rfl, rfl⟩))
          refine (addr_any _ _ _ _ _ HM2.out (by omega)).mono ?_; rintro e w3 ⟨rfl, hb⟩
          have HB3 := Lib.hid (HB2.out.trans (hb.mono HB2.out.size)); clear hb
          go_wp2_with fail
          go_loopw [12] (fun i wr => ∃ j : Nat, j ≤ lb ∧ i = .int .i64 j ∧ Below w.heap.size w wr) (fun i _ => lb - (intOf i).toNat)
          case atStart => exact ⟨0, Nat.zero_le _, rfl, HB3.out⟩
          case round =>
            obtain ⟨j, hj, rfl, hbel⟩ := hrel
            have HBL := Lib.hid hbel
            clear hbel
            by_cases hltj : j < lb
            · rcases HM.out.2 with hz | ⟨q, off, rfl, hbl, hc⟩
              · omega
              · have hfj := HF4.out j hltj
                have hcell : wr.cell? ⟨q, off + j, none⟩ = some (.int .i64 (byteAt A j : Int)) := by rw [HBL.out.cell hbl, hfj]; exact hc j hltj
                have hjs : j < A.size := by omega
                have hbg := byte_get hjs
                have hb2 := byteAt_lt A j
                have i1 : (j : Int) < (A.size : Int) := by omega
                have i2 : (j : Int) < (lb : Int) := by omega
                clear hc hfj
                go_wp2
                go_quiet (fail)
                rename_i nq
                have HB9 := Lib.hid (below_drewN HBL.out nq)
                go_wp2
                go_roundw
                case rel => exact ⟨j + 1, by omega, by go_num, HB9.out⟩
                case measure => simp [intOf]; omega
            · have hjl : j = lb := by omega
              subst hjl
              go_wp2_with fail
              refine (rfirst _).mono ?_; rintro e w4 ⟨rfl, hb⟩
              have HB4 := Lib.hid (HBL.out.trans (hb.mono HBL.out.size)); clear hb
              go_wp2_with fail
              refine (may_a _ _ (by omega)).mono ?_; rintro e w' ⟨rfl, rfl⟩
              go_wp2_with fail
              refine (may_aaaa _ _ (by omega)).mono ?_; rintro e w' ⟨rfl, rfl⟩
              go_wp2
              go_ret
              exact ⟨rfl, HB4.out⟩

set_option maxRecDepth 100000 in
theorem walkRTexts (a : Option Addr) (len cap : Nat) (l : List ByteArray) (b : Option Addr) (lb cb : Nat) (m : List Int) (w : World) (h : RowS w a len l) (hB : Row w b lb m) (hsz : ∀ s ∈ l, s.size ≤ maxLen) :
    Calls Try.prog 7 #[.slice a len cap, .slice b lb cb] w fun e w' => e = .returned (.bool true) ∧ Below w.heap.size w w' := by
  by_cases h1 : len ≤ 30 ∧ lb ≤ 500
  · refine walkRTexts1 a len cap l b lb cb m w h hB ?_ h1.1 h1.2
    intro k hk
    have hkl : k < l.length := by rw [h.1]; exact hk
    have := hsz l[k] (List.getElem_mem hkl)
    unfold maxLen at this
    rw [tx, List.getD_eq_getElem?_getD, List.getElem?_eq_getElem hkl]
    simp only [Option.getD_some]
    omega
  · have hd : decide ((30 : Int) < (len : Int)) = true ∨ decide ((30 : Int) < (len : Int)) = false ∧ decide ((500 : Int) < (lb : Int)) = true := by
      simp only [decide_eq_true_eq, decide_eq_false_iff_not]; omega
    clear h1 h hB hsz
    rcases hd with d1 | ⟨d1, d2⟩
    all_goals
      go_enter Try.func7, Try.ntmps7
      go_wp2_with fail
      refine (rfirst _).mono ?_; rintro e w1 ⟨rfl, hb⟩
      have HB1 := Lib.hid hb; clear hb
      go_wp2_with fail
      refine (rfirst _).mono ?_; rintro e w2 ⟨rfl, hb⟩
      have HB2 := Lib.hid (HB1.out.trans (hb.mono HB1.out.size)); clear hb
      go_wp2
      go_ret
      exact ⟨rfl, HB2.out⟩
end Go.Proofs.Ytgdbbdbfaglkdaa
