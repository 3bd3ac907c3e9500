/- The contract of the document's Common (chapter 2), over this seat's translation. -/
import Derived.Test.YtngncdmmlkcekaaCom
namespace Go.Proofs.Ytngncdmmlkcekaa
open Go.RowKit

theorem all_at {ms : List ByteArray} {p : ByteArray → Bool} (h : ∀ j, j < ms.length → p (tx ms j) = true) : ms.all p = true := by
  rw [List.all_eq_true]
  intro x hx
  obtain ⟨j, hj, rfl⟩ := List.mem_iff_getElem.1 hx
  have := h j hj
  rw [tx, List.getD_eq_getElem?_getD, List.getElem?_eq_getElem hj] at this
  exact this
theorem not_all {ms : List ByteArray} {p : ByteArray → Bool} {k : Nat} (hk : k < ms.length) (h : p (tx ms k) = false) : ms.all p = false := by
  cases h2 : ms.all p
  · rfl
  · rw [List.all_eq_true] at h2
    have h3 := h2 (tx ms k) (by rw [tx, List.getD_eq_getElem?_getD, List.getElem?_eq_getElem hk]; exact List.getElem_mem _)
    rw [h] at h3
    cases h3

set_option maxRecDepth 100000 in
set_option maxHeartbeats 1600000 in
theorem rcommon_any (n : ByteArray) (a : Option Addr) (len cap : Nat) (ms : List ByteArray) (w : World) (h : RowS w a len ms) (hlen : len ≤ 100000) (hn : n.size ≤ 1000000) (hsz : ∀ k, k < len → (tx ms k).size ≤ 1000000) :
    Calls Try.prog 38 #[.string n, .slice a len cap] w fun e w' => e = .returned (.string (comS n ms)) ∧ Below w.heap.size w w' := by
  have HR := Lib.hid h
  have HSZ := Lib.hid hsz
  have HLN := Lib.hid h.1
  clear h hsz
  go_enter Try.func38, Try.ntmps38
  go_wp2_with fail
  go_loop [5] (fun i => ∃ k : Nat, k ≤ len ∧ i = .int .i64 k ∧ Hid (∀ j, j < k → mayN (tx ms j) = true)) (fun i => len - (intOf i).toNat)
  case atStart => exact ⟨0, Nat.zero_le _, rfl, fun j hj => absurd hj (by omega)⟩
  case round =>
    obtain ⟨k, hk, rfl, hall⟩ := hrel
    by_cases hlt : k < len
    · rcases HR.out.2 with h9 | ⟨b, o, rfl, hbl, hc⟩
      · omega
      obtain ⟨s, hs⟩ : ∃ s, tx ms k = s := ⟨_, rfl⟩
      have hcell : w.cell? ⟨b, o + k, none⟩ = some (.string s) := by rw [← hs]; exact hc k hlt
      have hs6 := HSZ.out k hlt
      rw [hs] at hs6
      have HS := Lib.hid hs
      clear hc hs
      cases hm : mayN s
      · have HV := Lib.hid (show comS n ms = ⟨#[]⟩ by
          rw [comS, not_all (p := mayN) (k := k) (by rw [HLN.out]; exact hlt) (by rw [HS.out]; exact hm), Bool.and_false]; rfl)
        have HM := Lib.hid hm
        clear hm hall
        go_wp2_with fail
        refine (rmay_any _ _ hs6).mono ?_; rintro e w' ⟨rfl, rfl⟩
        rw [HM.out]
        go_wp2
        go_ret
        exact ⟨ret_str HV.out.symm, Below.refl _ _⟩
      · have HM := Lib.hid hm
        have HAL := Lib.hid (show ∀ j, j < k + 1 → mayN (tx ms j) = true by
          intro j hj
          by_cases e : j = k
          · subst e; rw [HS.out]; exact hm
          · exact hall.out j (by omega))
        clear hm hall
        go_wp2_with fail
        refine (rmay_any _ _ hs6).mono ?_; rintro e w' ⟨rfl, rfl⟩
        rw [HM.out]
        go_wp2
        go_round
        case rel => exact ⟨k + 1, by omega, by go_num, HAL.out⟩
        case measure => simp [intOf]; omega
    · have hkl : k = len := by omega
      subst hkl
      have HALL := Lib.hid (all_at (ms := ms) (p := mayN) (fun j hj => hall.out j (by rw [← HLN.out]; exact hj)))
      have HEACH := hall
      clear hall
      cases h1 : mayN n
      · have HV := Lib.hid (show comS n ms = ⟨#[]⟩ by rw [comS, h1]; rfl)
        have H1 := Lib.hid h1
        clear h1
        go_wp2_with fail
        refine (rmay_any _ _ hn).mono ?_; rintro e w' ⟨rfl, rfl⟩
        rw [H1.out]
        go_wp2
        go_ret
        exact ⟨ret_str HV.out.symm, Below.refl _ _⟩
      · obtain ⟨k1, k2, k3⟩ := labs_spec h1
        have HV := Lib.hid (show comS n ms = nameB (comN (labs n) (ms.map labs)) by rw [comS, h1, HALL.out]; rfl)
        have H1 := Lib.hid h1
        have HK1 := Lib.hid k1
        have HK2 := Lib.hid k2
        have HK3 := Lib.hid k3
        clear h1 k1 k2 k3
        go_wp2_with fail
        refine (rmay_any _ _ hn).mono ?_; rintro e w' ⟨rfl, rfl⟩
        rw [H1.out]
        go_wp2_with fail
        go_loopw [0, 6] (fun z i wr => ∃ i' j : Nat, i' ≤ k ∧ j ≤ (labs n).length ∧ i = .int .i64 i' ∧ z = .string (nameB ((labs n).drop j)) ∧ Below w.heap.size w wr ∧ Hid (comN (labs n) (ms.map labs) = comN ((labs n).drop j) (ms.map labs)) ∧ Hid (∀ t, t < i' → undL (labs (tx ms t)) ((labs n).drop j) = true)) (fun z i _ => strOf z * (k + 1) + (k - (intOf i).toNat))
        case atStart => exact ⟨0, 0, Nat.zero_le _, Nat.zero_le _, rfl, by rw [List.drop_zero, ← HK3.out], Below.refl _ _, rfl, fun t ht => absurd ht (by omega)⟩
        case round =>
          obtain ⟨i', j, hi', hj, rfl, rfl, hb, hcm, hun⟩ := hrel
          have HB := Lib.hid hb
          have hDok := drop_ok HK1.out j
          have hDz := Nat.le_trans (off_drop (labs n) j hj) HK2.out
          have hsD : (nameB ((labs n).drop j)).size ≤ 255 := by rw [nameB_size]; omega
          clear hb
          by_cases hlt2 : i' < k
          · rcases HR.out.2 with h9 | ⟨b, o, rfl, hbl, hc⟩
            · omega
            obtain ⟨s, hs⟩ : ∃ s, tx ms i' = s := ⟨_, rfl⟩
            have hcell : wr.cell? ⟨b, o + i', none⟩ = some (.string s) := by rw [HB.out.cell hbl, ← hs]; exact hc i' hlt2
            have hs6 := HSZ.out i' hlt2
            have hsm := HEACH.out i' hlt2
            rw [hs] at hs6 hsm
            have HS := Lib.hid hs
            have huS : undS s (nameB ((labs n).drop j)) = undL (labs s) ((labs n).drop j) := by rw [undS, hsm, labels_may hDok hDz, labs_name hDok hDz]; rfl
            obtain ⟨D, hD⟩ : ∃ D, (labs n).drop j = D := ⟨_, rfl⟩
            rw [hD] at hDok hDz hsD huS hun hcm ⊢
            have HD := Lib.hid hD
            clear hc hs hD
            cases hu : undL (labs s) D
            · rw [hu] at huS
              have hne : D ≠ [] := by rintro rfl; rw [undL_nil] at hu; cases hu
              obtain ⟨t1, t2, t3, t4⟩ := tail_ok hDok hDz hne
              have hj2 : j < (labs n).length := by
                by_cases e : j < (labs n).length
                · exact e
                · exfalso; apply hne; rw [← HD.out, List.drop_eq_nil_of_le (by omega)]
              have hDt : D.tail = (labs n).drop (j + 1) := by rw [← HD.out, List.tail_drop]
              have hnall : (ms.map labs).all (fun M => undL M D) = false := by
                rw [List.all_map]
                exact not_all (p := fun s => undL (labs s) D) (k := i') (by rw [HLN.out]; exact hlt2) (by rw [HS.out]; exact hu)
              have HC := Lib.hid (hcm.out.trans ((comN_no hnall).trans (by rw [hDt])))
              have HU := Lib.hid huS
              have HT3 := Lib.hid (t3.trans (by rw [hDt]))
              have HT4 := Lib.hid (show (nameB ((labs n).drop (j + 1))).size < (nameB D).size by rw [← hDt]; exact t4)
              have HOK := Lib.hid hDok
              have HDZ := Lib.hid hDz
              clear hu huS t1 t2 t3 t4 hne hnall hDt hDok hDz hcm hun
              go_wp2_with fail
              refine (runder_any _ _ _ hs6 (by omega)).mono ?_; rintro e w2 ⟨rfl, hb2⟩
              have HB2 := Lib.hid (HB.out.trans (hb2.mono HB.out.size))
              clear hb2
              rw [HU.out]
              go_wp2_with fail
              refine (rparent_yes D _ HOK.out HDZ.out).mono ?_; rintro e w' ⟨rfl, rfl⟩
              rw [HT3.out]
              go_wp2
              go_roundw
              case rel => exact ⟨0, j + 1, Nat.zero_le _, by omega, rfl, rfl, HB2.out, HC.out, fun t ht => absurd ht (by omega)⟩
              case measure =>
                have h7 := HT4.out
                have h8 := Nat.mul_le_mul_right (k + 1) h7
                simp only [strOf, intOf]
                rw [Nat.succ_mul] at h8
                simp
                omega
            · rw [hu] at huS
              have HU := Lib.hid huS
              have HUN := Lib.hid (show ∀ t, t < i' + 1 → undL (labs (tx ms t)) ((labs n).drop j) = true by
                intro t ht
                rw [HD.out]
                by_cases e : t = i'
                · subst e; rw [HS.out]; exact hu
                · exact hun.out t (by omega))
              clear huS hu hun
              go_wp2_with fail
              refine (runder_any _ _ _ hs6 (by omega)).mono ?_; rintro e w2 ⟨rfl, hb2⟩
              have HB2 := Lib.hid (HB.out.trans (hb2.mono HB.out.size))
              clear hb2
              rw [HU.out]
              go_wp2
              go_roundw
              case rel => exact ⟨i' + 1, j, by omega, hj, by go_num, by rw [HD.out], HB2.out, by rw [HD.out]; exact hcm.out, HUN.out⟩
              case measure => simp [intOf]; omega
          · have hik : i' = k := by omega
            subst hik
            have HW := Lib.hid (show comS n ms = nameB ((labs n).drop j) by
              rw [HV.out, hcm.out, comN_yes]
              rw [List.all_map]
              exact all_at (p := fun s => undL (labs s) ((labs n).drop j)) (fun t ht => hun.out t (by rw [← HLN.out]; exact ht)))
            clear hcm hun hDok hDz
            go_wp2
            go_ret
            exact ⟨ret_str HW.out.symm, HB.out⟩
end Go.Proofs.Ytngncdmmlkcekaa
