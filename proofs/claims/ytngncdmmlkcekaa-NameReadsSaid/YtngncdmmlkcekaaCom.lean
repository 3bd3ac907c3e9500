/- The contract of name.Common (chapter 2), over this seat's translation. -/
import Derived.Test.YtngncdmmlkcekaaUn2
namespace Go.Proofs.Ytngncdmmlkcekaa
open Go.RowKit

noncomputable def comS (n : ByteArray) (ms : List ByteArray) : ByteArray := if (mayN n && ms.all mayN) = true then nameB (comN (labs n) (ms.map labs)) else ⟨#[]⟩
theorem off_drop (L : List ByteArray) (k : Nat) (hk : k ≤ L.length) : off (L.drop k) (L.drop k).length ≤ off L L.length := by
  have h := congrArg List.length (name_drop L k hk)
  rw [nameL_length, List.length_drop, size_data, nameB_size] at h
  omega
theorem comN_ok {L : List ByteArray} (hL : OkL L) (hz : off L L.length ≤ 254) (Ms : List (List ByteArray)) : OkL (comN L Ms) ∧ off (comN L Ms) (comN L Ms).length ≤ 254 := by
  obtain ⟨k, hk, h1, _⟩ := comN_drop L Ms
  rw [h1]
  exact ⟨drop_ok hL k, Nat.le_trans (off_drop L k hk) hz⟩
theorem tail_ok {L : List ByteArray} (hL : OkL L) (hz : off L L.length ≤ 254) (h : L ≠ []) : OkL L.tail ∧ off L.tail L.tail.length ≤ 254 ∧ parS L = nameB L.tail ∧ (nameB L.tail).size < (nameB L).size := by
  cases L with
  | nil => exact absurd rfl h
  | cons s L =>
    have h1 := off_drop (s :: L) 1 (by simp)
    refine ⟨okL_tail hL, Nat.le_trans h1 hz, rfl, ?_⟩
    have e1 : (nameB L).size = (nameL L).length := by rw [nameB, bs_size]
    have e2 : (nameB (s :: L)).size = (nameL (s :: L)).length := by rw [nameB, bs_size]
    show (nameB L).size < _
    rw [e1, e2, nameL_cons]
    simp; omega

set_option maxRecDepth 100000 in
set_option maxHeartbeats 1600000 in
theorem common_any (n : ByteArray) (a : Option Addr) (len cap : Nat) (ms : List ByteArray) (w : World) (h : RowS w a len ms) (hlen : len ≤ 100000) (hn : n.size ≤ 1000000) (hsz : ∀ k, k < len → (tx ms k).size ≤ 1000000) :
    Calls Try.prog 37 #[.string n, .slice a len cap] w fun e w' => e = .returned (.string (comS n ms)) ∧ w = w' := by
  have HR := Lib.hid h
  have HSZ := Lib.hid hsz
  have HLN := Lib.hid h.1
  clear h hsz
  cases h1 : mayN n
  · have HV := Lib.hid (show comS n ms = ⟨#[]⟩ by rw [comS, h1]; rfl)
    have H1 := Lib.hid h1
    clear h1
    go_enter Try.func37, Try.ntmps37
    go_wp2_with fail
    refine (nmay_any _ _ hn).mono ?_; rintro e w' ⟨rfl, rfl⟩
    rw [H1.out]
    go_wp2
    go_ret
    exact ⟨ret_str HV.out.symm, rfl⟩
  · obtain ⟨k1, k2, k3⟩ := labs_spec h1
    have HVS := Lib.hid (show comS n ms = if ms.all mayN = true then nameB (comN (labs n) (ms.map labs)) else ⟨#[]⟩ by rw [comS, h1]; rfl)
    have H1 := Lib.hid h1
    have HK1 := Lib.hid k1
    have HK2 := Lib.hid k2
    have HK3 := Lib.hid k3
    clear h1 k1 k2 k3
    go_enter Try.func37, Try.ntmps37
    go_wp2_with fail
    refine (nmay_any _ _ hn).mono ?_; rintro e w' ⟨rfl, rfl⟩
    rw [H1.out]
    go_wp2_with fail
    go_loop [0, 12] (fun z i => ∃ k : Nat, k ≤ len ∧ i = .int .i64 k ∧ Hid (z = .string (nameB (comN (labs n) ((ms.map labs).take k)))) ∧ Hid (∀ j, j < k → mayN (tx ms j) = true)) (fun _ i => len - (intOf i).toNat)
    case atStart => exact ⟨0, Nat.zero_le _, rfl, by show Value.string n = _; rw [List.take_zero, comN_nil, ← HK3.out], fun j hj => absurd hj (by omega)⟩
    case round =>
      obtain ⟨k, hk, rfl, hz, hall⟩ := hrel
      obtain ⟨D0, hD0⟩ : ∃ D, comN (labs n) ((ms.map labs).take k) = D := ⟨_, rfl⟩
      have hok0 := comN_ok HK1.out HK2.out ((ms.map labs).take k)
      have hz' := hz.out
      rw [hD0] at hz' hok0
      subst hz'
      clear hz
      by_cases hlt : k < len
      · rcases HR.out.2 with h9 | ⟨b, o, rfl, hbl, hc⟩
        · omega
        obtain ⟨s, hs⟩ : ∃ s, tx ms k = s := ⟨_, rfl⟩
        have hcell : w.cell? ⟨b, o + k, none⟩ = some (.string s) := by rw [← hs]; exact hc k hlt
        have hs6 := HSZ.out k hlt
        rw [hs] at hs6
        have HS := Lib.hid hs
        clear hc
        cases hm : mayN s
        · have HV := Lib.hid (show comS n ms = ⟨#[]⟩ by
            rw [HVS.out, if_neg]
            intro h8
            rw [List.all_eq_true] at h8
            have h9 := h8 s (by
              rw [← HS.out, tx, List.getD_eq_getElem?_getD, List.getElem?_eq_getElem (by rw [HLN.out]; exact hlt)]
              exact List.getElem_mem _)
            rw [hm] at h9
            cases h9)
          have HM := Lib.hid hm
          clear hm hs hall hok0
          go_wp2_with fail
          refine (nmay_any _ _ hs6).mono ?_; rintro e w' ⟨rfl, rfl⟩
          rw [HM.out]
          go_wp2
          go_ret
          exact ⟨ret_str HV.out.symm, rfl⟩
        · have HM := Lib.hid hm
          have HNX := Lib.hid (show comN (labs n) ((ms.map labs).take (k + 1)) = comN D0 [labs s] by
            rw [List.take_succ_eq_append_getElem (by rw [List.length_map, HLN.out]; exact hlt), comN_more, hD0]
            congr 2
            rw [List.getElem_map, ← HS.out, tx, List.getD_eq_getElem?_getD, List.getElem?_eq_getElem (by rw [HLN.out]; exact hlt)]
            rfl)
          have HAL := Lib.hid (show ∀ j, j < k + 1 → mayN (tx ms j) = true by
            intro j hj
            by_cases e : j = k
            · subst e; rw [HS.out]; exact hm
            · exact hall.out j (by omega))
          have HOK0 := Lib.hid hok0
          clear hm hs hall hok0 hD0
          go_wp2_with fail
          refine (nmay_any _ _ hs6).mono ?_; rintro e w' ⟨rfl, rfl⟩
          rw [HM.out]
          go_wp2_with fail
          go_loop [0] (fun z => ∃ D : List ByteArray, z = .string (nameB D) ∧ Hid (OkL D ∧ off D D.length ≤ 254 ∧ comN D0 [labs s] = comN D [labs s])) (fun z => strOf z)
          case atStart => exact ⟨D0, rfl, HOK0.out.1, HOK0.out.2, rfl⟩
          case round =>
            obtain ⟨D, rfl, hD⟩ := hrel
            have hsD : (nameB D).size ≤ 255 := by rw [nameB_size]; have := hD.out.2.1; omega
            have hun : undS s (nameB D) = undL (labs s) D := by rw [undS, HM.out, labels_may hD.out.1 hD.out.2.1, labs_name hD.out.1 hD.out.2.1]; rfl
            cases hu : undL (labs s) D
            · rw [hu] at hun
              have hne : D ≠ [] := by rintro rfl; rw [undL_nil] at hu; cases hu
              obtain ⟨t1, t2, t3, t4⟩ := tail_ok hD.out.1 hD.out.2.1 hne
              have HT := Lib.hid (show OkL D.tail ∧ off D.tail D.tail.length ≤ 254 ∧ comN D0 [labs s] = comN D.tail [labs s] from ⟨t1, t2, hD.out.2.2.trans (comN_no (by simp [hu]))⟩)
              have HU := Lib.hid hun
              have HT3 := Lib.hid t3
              have HT4 := Lib.hid t4
              clear hun hu t1 t2 t3 t4 hne
              go_wp2_with fail
              refine (under_any _ _ _ hs6 (by omega)).mono ?_; rintro e w' ⟨rfl, rfl⟩
              rw [HU.out]
              go_wp2_with fail
              refine (parent_yes D _ hD.out.1 hD.out.2.1).mono ?_; rintro e w' ⟨rfl, rfl⟩
              rw [HT3.out]
              go_wp2
              go_round
              case rel => exact ⟨D.tail, rfl, HT.out⟩
              case measure => exact HT4.out
            · rw [hu] at hun
              have HU := Lib.hid hun
              have HN := Lib.hid (show comN D0 [labs s] = D from hD.out.2.2.trans (comN_yes (by simp [hu])))
              clear hun hu
              go_wp2_with fail
              refine (under_any _ _ _ hs6 (by omega)).mono ?_; rintro e w' ⟨rfl, rfl⟩
              rw [HU.out]
              go_wp2
              go_round
              case rel => exact ⟨k + 1, by omega, by go_num, by show Value.string (nameB D) = _; rw [HNX.out, HN.out], HAL.out⟩
              case measure => simp [intOf]; omega
      · have hkl : k = len := by omega
        subst hkl
        have HV := Lib.hid (show comS n ms = nameB D0 by
          rw [HVS.out, if_pos]
          · rw [← hD0, List.take_of_length_le (by rw [List.length_map, HLN.out]; exact Nat.le_refl _)]
          · rw [List.all_eq_true]
            intro x hx
            obtain ⟨j, hj, rfl⟩ := List.mem_iff_getElem.1 hx
            have := hall.out j (by rw [← HLN.out]; exact hj)
            rw [tx, List.getD_eq_getElem?_getD, List.getElem?_eq_getElem hj] at this
            exact this)
        go_wp2
        go_ret
        exact ⟨ret_str HV.out.symm, rfl⟩
end Go.Proofs.Ytngncdmmlkcekaa
