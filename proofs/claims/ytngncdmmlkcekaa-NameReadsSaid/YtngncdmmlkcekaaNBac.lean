/- NameBack: the walk. -/
import Derived.Test.YtngncdmmlkcekaaPt
import Derived.Test.YtngncdmmlkcekaaFst2
namespace Go.Proofs.Ytngncdmmlkcekaa
open Go.RowKit

theorem prints_len {L : List ByteArray} (h : ∀ x ∈ L, x.size ≤ 63) : (prints tell L).length ≤ 253 * L.length := by
  induction L with
  | nil => exact Nat.le_refl _
  | cons s L ih =>
    have h1 := h s (by simp)
    have h2 := ih (fun x hx => h x (by simp [hx]))
    have h3 := tells_len s.data.toList
    rw [size_data] at h3
    rw [prints_cons, List.length_append, List.length_cons, List.length_cons]; omega
theorem okL_le {L : List ByteArray} (h : OkL L) : ∀ x ∈ L, x.size ≤ 63 := by
  intro x hx
  obtain ⟨k, hk, e⟩ := List.mem_iff_getElem.1 hx
  have := (h k hk).2.1
  have e2 : tx L k = x := by rw [tx, List.getD_eq_getElem?_getD, List.getElem?_eq_getElem hk, e]; rfl
  rw [e2] at this; omega
/-- What is printed of a name is read as it. -/
theorem print_back {L : List ByteArray} (hL : OkL L) (hz : off L L.length ≤ 254) : parseE (printL L) = 0 ∧ parseS (printL L) = nameB L ∧ (printL L).size ≤ 50000 := by
  by_cases h : L = []
  · subst h
    exact ⟨by decide +kernel, by decide +kernel, by decide +kernel⟩
  · rw [printL, if_neg h]
    have hge := off_ge L hL L.length (Nat.le_refl _)
    have hd : isDot (bs (prints tell L)) = false := by
      have := prints_dot told_tell (M := L) (r := []) (okL_mem hL) h
      rwa [List.append_nil] at this
    obtain ⟨p1, p2⟩ := parse_of hd (parse_prints told_tell h (okL_mem hL)) hL hz
    refine ⟨p1, p2, ?_⟩
    have := prints_len (okL_le hL)
    rw [bs_size]; omega

set_option maxRecDepth 100000 in
set_option maxHeartbeats 3200000 in
theorem nback_text (n text : ByteArray) (w : World) (z1 : n.size ≤ 2000) (z2 : text.size ≤ 2000) :
    Calls Try.prog 5 #[.string n, .string text] w fun e w' => e = .returned (.bool true) ∧ Below w.heap.size w w' := by
  have d1 := dF (p := (2000 : Int) < (n.size : Int)) (by omega)
  have d2 := dF (p := (2000 : Int) < (text.size : Int)) (by omega)
  obtain ⟨l1, l2⟩ := parse_low text
  have hno := parse_no text
  have hmay := parse_may text
  have hls := lowS_size text
  have hbs : (⟨#[]⟩ : ByteArray).toList = [] := bs_toList []
  obtain ⟨E, hE⟩ : ∃ E, parseE text = E := ⟨_, rfl⟩
  obtain ⟨M, hM⟩ : ∃ M, parseS text = M := ⟨_, rfl⟩
  obtain ⟨lt, hlt⟩ : ∃ lt, lowS text = lt := ⟨_, rfl⟩
  rw [hE] at hno hmay l1
  rw [hM] at hno hmay l2
  rw [hlt] at l1 l2 hls
  have HP := Lib.hid (fun w => parse_any text w (by omega))
  rw [hE, hM] at HP
  have HL := Lib.hid (fun w => lower_any text w (by omega))
  rw [hlt] at HL
  have HQ := Lib.hid (fun w => parse_any lt w (by omega))
  rw [l1, l2] at HQ
  have HD : E ≠ 0 ∧ M = ⟨#[]⟩ ∨ E = 0 ∧ mayN M = true ∧ M.size ≤ 255 := by
    by_cases h : E = 0
    · refine Or.inr ⟨h, hmay h, ?_⟩
      have := hmay h
      simp only [mayN, Bool.and_eq_true, decide_eq_true_eq] at this
      omega
    · exact Or.inl ⟨h, hno h⟩
  clear hno hmay hE hM hlt l1 l2 hls
  cases hm : mayN n
  · have HN := Lib.hid (fun w => print_no n w hm (by omega))
    have HM := Lib.hid hm
    clear hm
    rcases HD with ⟨hE0, rfl⟩ | ⟨rfl, hmM, hsM⟩
    · have e1 := nT hE0
      have e2 := eF hE0
      clear hE0
      go_enter Try.func5, Try.ntmps5
      go_wp2_with fail
      refine (first2 _).mono ?_; rintro e w1 ⟨rfl, hb⟩
      have HB1 := Lib.hid hb; clear hb
      go_wp2_with fail
      refine (HN.out _).mono ?_; rintro e w' ⟨rfl, rfl⟩
      go_wp2_with fail
      refine (nmay_any _ _ (by omega)).mono ?_; rintro e w' ⟨rfl, rfl⟩
      rw [HM.out]
      go_wp2_with fail
      refine (HP.out _).mono ?_; rintro e w2 ⟨rfl, hb⟩
      have HB2 := Lib.hid (HB1.out.trans (hb.mono HB1.out.size)); clear hb
      go_wp2_with fail
      refine (first2 _).mono ?_; rintro e w3 ⟨rfl, hb⟩
      have HB3 := Lib.hid (HB2.out.trans (hb.mono HB2.out.size)); clear hb
      go_wp2
      go_ret
      exact ⟨rfl, HB3.out⟩
    · have HMM := Lib.hid hmM
      clear hmM
      go_enter Try.func5, Try.ntmps5
      go_wp2_with fail
      refine (first2 _).mono ?_; rintro e w1 ⟨rfl, hb⟩
      have HB1 := Lib.hid hb; clear hb
      go_wp2_with fail
      refine (HN.out _).mono ?_; rintro e w' ⟨rfl, rfl⟩
      go_wp2_with fail
      refine (nmay_any _ _ (by omega)).mono ?_; rintro e w' ⟨rfl, rfl⟩
      rw [HM.out]
      go_wp2_with fail
      refine (HP.out _).mono ?_; rintro e w2 ⟨rfl, hb⟩
      have HB2 := Lib.hid (HB1.out.trans (hb.mono HB1.out.size)); clear hb
      go_wp2_with fail
      refine (HL.out _).mono ?_; rintro e w3 ⟨rfl, hb⟩
      have HB3 := Lib.hid (HB2.out.trans (hb.mono HB2.out.size)); clear hb
      go_wp2_with fail
      refine (HQ.out _).mono ?_; rintro e w4 ⟨rfl, hb⟩
      have HB4 := Lib.hid (HB3.out.trans (hb.mono HB3.out.size)); clear hb
      go_wp2_with fail
      refine (first2 _).mono ?_; rintro e w5 ⟨rfl, hb⟩
      have HB5 := Lib.hid (HB4.out.trans (hb.mono HB4.out.size)); clear hb
      go_wp2_with fail
      refine (nmay_any _ _ (by omega)).mono ?_; rintro e w' ⟨rfl, rfl⟩
      rw [HMM.out]
      go_wp2
      go_ret
      exact ⟨rfl, HB5.out⟩
  · obtain ⟨L, hL, hz, hn⟩ := may_labels hm
    obtain ⟨p1, p2, p3⟩ := print_back hL hz
    obtain ⟨j1, j2⟩ := okL_join hL hz
    have hlow := name_lower hL
    have HM := Lib.hid hm
    have HN := Lib.hid (fun w => print_yes L w hL hz)
    have HLB := Lib.hid (fun w => labels_yes L w hL hz)
    have hge := off_ge L hL L.length (Nat.le_refl _)
    have HSZ := Lib.hid (show ∀ k, k < L.length → (tx L k).size ≤ 1000000 from fun k hk => Nat.le_trans (hL k hk).2.1 (by omega))
    obtain ⟨t, ht⟩ : ∃ t, printL L = t := ⟨_, rfl⟩
    have HLL := Lib.hid (fun w => lower_any (nameB L) w (by rw [← hn]; omega))
    rw [hlow] at HLL
    rw [← hn] at p2 HN HLB HLL j2
    rw [ht] at p1 p2 p3 HN
    have HT := Lib.hid (fun w => parse_any t w p3)
    rw [p1, p2] at HT
    have HJ := Lib.hid (fun (a : Option Addr) w h => joinName_any a L.length L.length L w h (by omega) HSZ.out)
    rw [j1, j2] at HJ
    obtain ⟨N, hN⟩ : ∃ N, L.length = N := ⟨_, rfl⟩
    rw [hN] at HJ HLB
    clear hm hL hz hn p1 p2 p3 j1 j2 hlow hge hN ht
    rcases HD with ⟨hE0, rfl⟩ | ⟨rfl, hmM, hsM⟩
    · have e1 := nT hE0
      have e2 := eF hE0
      clear hE0
      go_enter Try.func5, Try.ntmps5
      go_wp2_with fail
      refine (first2 _).mono ?_; rintro e w1 ⟨rfl, hb⟩
      have HB1 := Lib.hid hb; clear hb
      go_wp2_with fail
      refine (HN.out _).mono ?_; rintro e w2 ⟨rfl, hb⟩
      have HB2 := Lib.hid (HB1.out.trans (hb.mono HB1.out.size)); clear hb
      go_wp2_with fail
      refine (nmay_any _ _ (by omega)).mono ?_; rintro e w' ⟨rfl, rfl⟩
      rw [HM.out]
      go_wp2_with fail
      refine (HT.out _).mono ?_; rintro e w3 ⟨rfl, hb⟩
      have HB3 := Lib.hid (HB2.out.trans (hb.mono HB2.out.size)); clear hb
      go_wp2_with fail
      refine (HLB.out _).mono ?_; rintro e w4 ⟨q, rfl, hrow, hb⟩
      have HR := Lib.hid hrow
      have HB4 := Lib.hid (HB3.out.trans (hb.mono HB3.out.size)); clear hb hrow
      go_wp2_with fail
      refine (HJ.out _ _ HR.out).mono ?_; rintro e w5 ⟨rfl, hb⟩
      have HB5 := Lib.hid (HB4.out.trans (hb.mono HB4.out.size)); clear hb
      go_wp2_with fail
      refine (HLL.out _).mono ?_; rintro e w6 ⟨rfl, hb⟩
      have HB6 := Lib.hid (HB5.out.trans (hb.mono HB5.out.size)); clear hb
      go_wp2_with fail
      refine (HP.out _).mono ?_; rintro e w7 ⟨rfl, hb⟩
      have HB7 := Lib.hid (HB6.out.trans (hb.mono HB6.out.size)); clear hb
      go_wp2_with fail
      refine (first2 _).mono ?_; rintro e w8 ⟨rfl, hb⟩
      have HB8 := Lib.hid (HB7.out.trans (hb.mono HB7.out.size)); clear hb
      go_wp2
      go_ret
      exact ⟨rfl, HB8.out⟩
    · have HMM := Lib.hid hmM
      clear hmM
      go_enter Try.func5, Try.ntmps5
      go_wp2_with fail
      refine (first2 _).mono ?_; rintro e w1 ⟨rfl, hb⟩
      have HB1 := Lib.hid hb; clear hb
      go_wp2_with fail
      refine (HN.out _).mono ?_; rintro e w2 ⟨rfl, hb⟩
      have HB2 := Lib.hid (HB1.out.trans (hb.mono HB1.out.size)); clear hb
      go_wp2_with fail
      refine (nmay_any _ _ (by omega)).mono ?_; rintro e w' ⟨rfl, rfl⟩
      rw [HM.out]
      go_wp2_with fail
      refine (HT.out _).mono ?_; rintro e w3 ⟨rfl, hb⟩
      have HB3 := Lib.hid (HB2.out.trans (hb.mono HB2.out.size)); clear hb
      go_wp2_with fail
      refine (HLB.out _).mono ?_; rintro e w4 ⟨q, rfl, hrow, hb⟩
      have HR := Lib.hid hrow
      have HB4 := Lib.hid (HB3.out.trans (hb.mono HB3.out.size)); clear hb hrow
      go_wp2_with fail
      refine (HJ.out _ _ HR.out).mono ?_; rintro e w5 ⟨rfl, hb⟩
      have HB5 := Lib.hid (HB4.out.trans (hb.mono HB4.out.size)); clear hb
      go_wp2_with fail
      refine (HLL.out _).mono ?_; rintro e w6 ⟨rfl, hb⟩
      have HB6 := Lib.hid (HB5.out.trans (hb.mono HB5.out.size)); clear hb
      go_wp2_with fail
      refine (HP.out _).mono ?_; rintro e w7 ⟨rfl, hb⟩
      have HB7 := Lib.hid (HB6.out.trans (hb.mono HB6.out.size)); clear hb
      go_wp2_with fail
      refine (HL.out _).mono ?_; rintro e w8 ⟨rfl, hb⟩
      have HB8 := Lib.hid (HB7.out.trans (hb.mono HB7.out.size)); clear hb
      go_wp2_with fail
      refine (HQ.out _).mono ?_; rintro e w9 ⟨rfl, hb⟩
      have HB9 := Lib.hid (HB8.out.trans (hb.mono HB8.out.size)); clear hb
      go_wp2_with fail
      refine (first2 _).mono ?_; rintro e w10 ⟨rfl, hb⟩
      have HB10 := Lib.hid (HB9.out.trans (hb.mono HB9.out.size)); clear hb
      go_wp2_with fail
      refine (nmay_any _ _ (by omega)).mono ?_; rintro e w' ⟨rfl, rfl⟩
      rw [HMM.out]
      go_wp2
      go_ret
      exact ⟨rfl, HB10.out⟩

set_option maxRecDepth 100000 in
theorem nback_big (n text : ByteArray) (w : World) (h1 : n.size ≤ 9223372036854775807) (h2 : text.size ≤ 9223372036854775807) (h : ¬ (n.size ≤ 2000 ∧ text.size ≤ 2000)) :
    Calls Try.prog 5 #[.string n, .string text] w fun e w' => e = .returned (.bool true) ∧ Below w.heap.size w w' := by
  have hd : decide ((2000 : Int) < (n.size : Int)) = true ∨ decide ((2000 : Int) < (n.size : Int)) = false ∧ decide ((2000 : Int) < (text.size : Int)) = true := by
    simp only [decide_eq_true_eq, decide_eq_false_iff_not]; omega
  clear h
  rcases hd with d1 | ⟨d1, d2⟩
  all_goals
    go_enter Try.func5, Try.ntmps5
    go_wp2_with fail
    refine (first2 _).mono ?_; rintro e w1 ⟨rfl, hb⟩
    have HB1 := Lib.hid hb; clear hb
    go_wp2_with fail
    refine (first2 _).mono ?_; rintro e w2 ⟨rfl, hb⟩
    have HB2 := Lib.hid (HB1.out.trans (hb.mono HB1.out.size)); clear hb
    go_wp2
    go_ret
    exact ⟨rfl, HB2.out⟩

theorem walkNBack (n text : ByteArray) (w : World) (h1 : n.size ≤ 9223372036854775807) (h2 : text.size ≤ 9223372036854775807) :
    Calls Try.prog 5 #[.string n, .string text] w fun e w' => e = .returned (.bool true) ∧ Below w.heap.size w w' := by
  by_cases h : n.size ≤ 2000 ∧ text.size ≤ 2000
  · exact nback_text n text w h.1 h.2
  · exact nback_big n text w h1 h2 h
end Go.Proofs.Ytngncdmmlkcekaa
