/- Contracts of name.Under, and of the document's (chapter 2), over this seat's translation. -/
import Derived.Test.YtngncdmmlkcekaaPar
import Derived.Test.YtngncdmmlkcekaaLabs
import Derived.Lib.Walk
namespace Go.Proofs.Ytngncdmmlkcekaa
open Go.RowKit

theorem hasSuffix_any (s p : ByteArray) (w : World) (hs : s.size ≤ 9223372036854775807) :
    Calls Try.prog 65 #[.string s, .string p] w fun e w' => e = .returned (.bool (Lib.hasSuffix s.data.toList p.data.toList)) ∧ w' = w := by
  rw [← Lib.hasSuffix_raw]
  have hlo : p.size ≤ s.size → ((s.size : Int) - (p.size : Int) + 9223372036854775808) % 18446744073709551616 - 9223372036854775808 = ((s.size - p.size : Nat) : Int) := fun _ => by omega
  go_enter Try.func65, Try.ntmps65
  go_wp2
  · have h : p.size ≤ s.size := by assumption
    go_ret
    refine ⟨?_, rfl⟩
    show Ending.returned (Value.bool ((s.extract (s.size - p.size) s.size).toList == p.toList)) = _
    simp [h]
  · have h : ¬ p.size ≤ s.size := by assumption
    go_ret
    refine ⟨?_, rfl⟩
    show Ending.returned (Value.bool false) = _
    simp [h]

theorem nameL_length (L : List ByteArray) : (nameL L).length = off L L.length + 1 := by rw [nameL]; simp [off]
theorem off_lt (L : List ByteArray) (hL : OkL L) {i j : Nat} (h : i < j) (hj : j ≤ L.length) : off L i < off L j := by
  have h1 := off_succ L i
  obtain ⟨g, _, _⟩ := hL i (by omega)
  have h2 := off_mono L (show i + 1 ≤ j by omega)
  omega
theorem drop_ok {L : List ByteArray} (hL : OkL L) (k : Nat) : OkL (L.drop k) := by
  intro j hj
  have e : tx (L.drop k) j = tx L (k + j) := by rw [tx, tx, List.getD_eq_getElem?_getD, List.getD_eq_getElem?_getD, List.getElem?_drop]
  rw [e]
  exact hL _ (by rw [List.length_drop] at hj; omega)
/-- Under by bytes: an end of the bytes that begins where a label begins. -/
theorem und_suffix {L M : List ByteArray} (h : undL L M = true) : Lib.hasSuffix (nameL L) (nameL M) = true := by
  obtain ⟨k, hk, rfl⟩ := (undL_iff _ _).1 h
  have := name_drop L k hk
  show (nameL (L.drop k)).isSuffixOf (nameL L) = true
  rw [List.isSuffixOf_iff_suffix, ← this]
  exact List.drop_suffix _ _
theorem suffix_drop {L M : List ByteArray} (h : Lib.hasSuffix (nameL L) (nameL M) = true) : (nameL M).length ≤ (nameL L).length ∧ (nameL L).drop ((nameL L).length - (nameL M).length) = nameL M := by
  have h1 : nameL M <:+ nameL L := List.isSuffixOf_iff_suffix.1 h
  obtain ⟨t, ht⟩ := h1
  refine ⟨by rw [← ht]; simp, ?_⟩
  rw [← ht]
  simp
theorem suffix_und {L M : List ByteArray} (hL : OkL L) (hM : OkL M) (h : Lib.hasSuffix (nameL L) (nameL M) = true) {k : Nat} (hk : k ≤ L.length) (he : off L k + off M M.length = off L L.length) : undL L M = true := by
  obtain ⟨h1, h2⟩ := suffix_drop h
  refine (undL_iff _ _).2 ⟨k, hk, ?_⟩
  have h3 := name_drop L k hk
  rw [nameL_length, nameL_length, show off L L.length + 1 - (off M M.length + 1) = off L k by omega] at h2
  have h4 : nameL (L.drop k) = nameL M := h3.symm.trans h2
  exact nameL_inj (drop_ok hL k) hM h4
theorem und_off {L M : List ByteArray} (h : undL L M = true) : ∃ k, k ≤ L.length ∧ off L k + off M M.length = off L L.length := by
  obtain ⟨k, hk, rfl⟩ := (undL_iff _ _).1 h
  refine ⟨k, hk, ?_⟩
  have h3 := congrArg List.length (name_drop L k hk)
  rw [nameL_length, List.length_drop] at h3
  have h4 : (nameB L).data.toList.length = off L L.length + 1 := by rw [size_data, nameB_size]
  have := off_mono L hk
  omega

set_option maxRecDepth 100000 in
set_option maxHeartbeats 800000 in
theorem under_yy (L M : List ByteArray) (w : World) (hL : OkL L) (hM : OkL M) (hz : off L L.length ≤ 254) (hy : off M M.length ≤ 254) : Calls Try.prog 35 #[.string (nameB L), .string (nameB M)] w fun e w' => e = .returned (.bool (undL L M)) ∧ w = w' := by
  have hm1 := labels_may hL hz
  have hm2 := labels_may hM hy
  have hs1 := nameB_size L
  have hs2 := nameB_size M
  have hsf : Lib.hasSuffix (nameB L).data.toList (nameB M).data.toList = Lib.hasSuffix (nameL L) (nameL M) := rfl
  cases hf : Lib.hasSuffix (nameL L) (nameL M)
  · have hu : undL L M = false := by
      cases h : undL L M
      · rfl
      · rw [und_suffix h] at hf; cases hf
    rw [hf] at hsf
    rw [hu]
    obtain ⟨a, ha⟩ : ∃ s, nameB L = s := ⟨_, rfl⟩
    obtain ⟨b, hb⟩ : ∃ s, nameB M = s := ⟨_, rfl⟩
    rw [ha] at hm1 hs1 hsf
    rw [hb] at hm2 hs2 hsf
    rw [ha, hb]
    have HM1 := Lib.hid hm1
    have HM2 := Lib.hid hm2
    have HSF := Lib.hid hsf
    clear hm1 hm2 hsf hf hu hL hM ha hb
    go_enter Try.func35, Try.ntmps35
    go_wp2_with fail
    refine (nmay_any _ _ (by omega)).mono ?_; rintro e w' ⟨rfl, rfl⟩
    rw [HM1.out]
    go_wp2_with fail
    refine (nmay_any _ _ (by omega)).mono ?_; rintro e w' ⟨rfl, rfl⟩
    rw [HM2.out]
    go_wp2_with fail
    refine (hasSuffix_any _ _ _ (by omega)).mono ?_; rintro e w' ⟨rfl, rfl⟩
    rw [HSF.out]
    go_wp2
    go_ret
    exact ⟨rfl, rfl⟩
  · rw [hf] at hsf
    have hle := (suffix_drop hf).1
    rw [nameL_length, nameL_length] at hle
    have hfin : ∀ k, k ≤ L.length → off L L.length - off M M.length ≤ off L k → (∀ j, j < k → off L j < off L L.length - off M M.length) → undL L M = decide (off L k = off L L.length - off M M.length) := by
      intro k hk h1 h2
      by_cases e : off L k = off L L.length - off M M.length
      · rw [dT e]
        exact suffix_und hL hM hf hk (by omega)
      · rw [dF e]
        cases h : undL L M
        · rfl
        · obtain ⟨j, hj, h3⟩ := und_off h
          exfalso
          by_cases hjk : j < k
          · have := h2 j hjk; omega
          · have hjk' : j = k ∨ k < j := by omega
            rcases hjk' with rfl | hjk'
            · omega
            · have := off_lt L hL hjk' hj
              omega
    have hoffp := fun (k : Nat) (h1 : k < L.length) => name_byte L k h1 (by obtain ⟨_, g, _⟩ := hL k h1; omega)
    have hoffl := fun (k : Nat) (h1 : k < L.length) => off_lt L hL (show k < k + 1 by omega) h1
    obtain ⟨a, ha⟩ : ∃ s, nameB L = s := ⟨_, rfl⟩
    obtain ⟨b, hb⟩ : ∃ s, nameB M = s := ⟨_, rfl⟩
    obtain ⟨n, hn⟩ : ∃ n, L.length = n := ⟨_, rfl⟩
    obtain ⟨d, hd⟩ : ∃ d, off L L.length - off M M.length = d := ⟨_, rfl⟩
    have hs12 : a.size = d + b.size := by rw [← ha, ← hb, hs1, hs2]; omega
    have hsa : a.size ≤ 255 := by rw [← ha, hs1]; omega
    have hb0 : 0 < b.size := by rw [← hb, hs2]; omega
    have hdn : d ≤ off L n := by rw [← hd, ← hn]; omega
    have hsn : a.size = off L n + 1 := by rw [← ha, hs1, hn]
    rw [hd, hn] at hfin
    rw [hn, ha] at hoffp
    rw [hn] at hoffl
    rw [ha, hb] at hsf ⊢
    rw [ha] at hm1
    rw [hb] at hm2
    have HM1 := Lib.hid hm1
    have HM2 := Lib.hid hm2
    have HSF := Lib.hid hsf
    have HF := Lib.hid hfin
    have HP := Lib.hid hoffp
    have HO := Lib.hid hoffl
    clear hm1 hm2 hsf hf hL hM ha hb hs1 hs2 hz hy hle hfin hoffp hoffl hd hn
    go_enter Try.func35, Try.ntmps35
    go_wp2_with fail
    refine (nmay_any _ _ (by omega)).mono ?_; rintro e w' ⟨rfl, rfl⟩
    rw [HM1.out]
    go_wp2_with fail
    refine (nmay_any _ _ (by omega)).mono ?_; rintro e w' ⟨rfl, rfl⟩
    rw [HM2.out]
    go_wp2_with fail
    refine (hasSuffix_any _ _ _ (by omega)).mono ?_; rintro e w' ⟨rfl, rfl⟩
    rw [HSF.out]
    go_wp2_with fail
    go_loop [5] (fun x => ∃ k : Nat, k ≤ n ∧ x = .int .i64 (off L k : Nat) ∧ ∀ j, j < k → off L j < d) (fun x => a.size - (intOf x).toNat)
    case atStart => exact ⟨0, Nat.zero_le _, rfl, fun j hj => absurd hj (by omega)⟩
    case round =>
      obtain ⟨k, hk, rfl, hj⟩ := hrel
      have HJ := Lib.hid hj
      clear hj
      by_cases hlt : off L k < d
      · have hkn : k < n := by
          by_cases e : k = n
          · subst e; omega
          · omega
        have hb := HP.out k hkn
        have hs := off_succ L k
        have hm := off_mono L (show k + 1 ≤ n by omega)
        have HJ2 := Lib.hid (show ∀ j, j < k + 1 → off L j < d by
          intro j hj
          by_cases e : j = k
          · subst e; exact hlt
          · exact HJ.out j (by omega))
        obtain ⟨p, hp⟩ : ∃ p, off L k = p := ⟨_, rfl⟩
        obtain ⟨t, ht⟩ : ∃ t, (tx L k).size = t := ⟨_, rfl⟩
        obtain ⟨p2, hp2⟩ : ∃ p, off L (k + 1) = p := ⟨_, rfl⟩
        rw [hp] at hlt
        simp only [hp, ht, hp2] at hb hs hm ⊢
        have hlt2 : p < a.size := by omega
        have hg := (byte_get hlt2).trans hb
        have HP2 := Lib.hid hp2
        have hbl := byteAt_lt a p
        rw [hb] at hbl
        have t1 : (p : Int) < (a.size : Int) - (b.size : Int) := by omega
        clear hp ht hp2 hb
        go_wp2
        go_round
        case rel => exact ⟨k + 1, by omega, by rw [HP2.out, hs]; go_num, HJ2.out⟩
        case measure => simp [intOf]; omega
      · have hv := HF.out k hk (by omega) HJ.out
        have HV := Lib.hid hv
        obtain ⟨p, hp⟩ : ∃ p, off L k = p := ⟨_, rfl⟩
        rw [hp] at HV hlt
        simp only [hp]
        have t1 : ¬ (p : Int) < (a.size : Int) - (b.size : Int) := by omega
        clear hv hp
        go_wp2
        go_ret
        refine ⟨ret_bool ?_, rfl⟩
        rw [HV.out, Bool.eq_iff_iff]
        simp
        omega
end Go.Proofs.Ytngncdmmlkcekaa
