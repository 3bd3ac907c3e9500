/- The contracts of the document's Print and of Texts (chapter 2), over this seat's translation. -/
import Derived.Test.YtngncdmmlkcekaaNCas
namespace Go.Proofs.Ytngncdmmlkcekaa
open Go.RowKit

theorem ext_one (s : ByteArray) (k x : Nat) (hk : k < s.size) (hx : byteAt s k = x) : s.extract k (k + 1) = bs [UInt8.ofNat x] := by
  apply ba_eq
  have hl : k < s.data.toList.length := by rw [size_data]; exact hk
  rw [extract_toList, show k + 1 - k = 1 by omega, List.drop_eq_getElem_cons hl, ← hx, byteAt, List.getD_eq_getElem?_getD, List.getElem?_eq_getElem hl]
  simp
  rfl
theorem tell_next (p : List UInt8) (s : ByteArray) (k x : Nat) (hk : k < s.size) (hx : byteAt s k = x) : bs (p ++ tells tell (s.data.toList.take (k + 1))) = bs (p ++ tells tell (s.data.toList.take k)) ++ bs (tell x) := by
  rw [tells_next tell s k hk, hx, bs_append, List.append_assoc]

theorem rprint_no (s : ByteArray) (w : World) (h : mayN s = false) (hs : s.size ≤ 1000000) : Calls Try.prog 21 #[.string s] w fun e w' => e = .returned (.tuple #[.string ⟨#[]⟩, .int .i64 10]) ∧ w = w' := by
  have HM := Lib.hid h
  clear h
  go_enter Try.func21, Try.ntmps21
  go_wp2_with fail
  refine (rmay_any _ _ hs).mono ?_; rintro e w' ⟨rfl, rfl⟩; rw [HM.out]
  go_wp2
  go_ret2
  exact ⟨rfl, rfl⟩

set_option maxRecDepth 100000 in
set_option maxHeartbeats 3200000 in
theorem rprint_yes (L : List ByteArray) (w : World) (hL : OkL L) (hz : off L L.length ≤ 254) : Calls Try.prog 21 #[.string (nameB L)] w fun e w' => e = .returned (.tuple #[.string (printL L), .int .i64 0]) ∧ Below w.heap.size w w' := by
  have hm := labels_may hL hz
  have hsz := nameB_size L
  have hge := off_ge L hL L.length (Nat.le_refl _)
  have hLB := fun w => rlabels_yes L w hL hz
  obtain ⟨n, hn⟩ : ∃ s, nameB L = s := ⟨_, rfl⟩
  obtain ⟨N, hN⟩ : ∃ N, L.length = N := ⟨_, rfl⟩
  rw [hn] at hm hsz hLB ⊢
  rw [hN] at hLB hge hsz hz
  have HM := Lib.hid hm
  have HLB := Lib.hid hLB
  have HOK := Lib.hid hL
  have HN := Lib.hid hN
  have hN7 : N ≤ 127 := by omega
  have hs9 : n.size ≤ 1000 := by omega
  have HV := Lib.hid (show printL L = if L = [] then bs [46] else bs (prints tell L) from rfl)
  clear hm hsz hge hLB hn hN hL hz
  go_enter Try.func21, Try.ntmps21
  go_wp2_with fail
  refine (rmay_any _ _ (by omega)).mono ?_; rintro e w' ⟨rfl, rfl⟩; rw [HM.out]
  go_wp2_with fail
  refine (HLB.out _).mono ?_; rintro e w2 ⟨la, lc, rfl, hrow, hb⟩
  have HR := Lib.hid hrow
  have HB2 := Lib.hid hb; clear hb hrow
  by_cases hN0 : N = 0
  · have e0 : ((N : Int) == 0) = true := eT (by omega)
    have HV2 := Lib.hid (show printL L = bs [46] by rw [HV.out, if_pos (List.eq_nil_of_length_eq_zero (by rw [HN.out]; exact hN0))])
    clear hN0
    go_wp2
    go_ret2
    rw [HV2.out]
    exact ⟨rfl, HB2.out⟩
  have e0 : ((N : Int) == 0) = false := eF (by omega)
  have HV2 := Lib.hid (show printL L = bs (prints tell L) by rw [HV.out, if_neg (fun h => hN0 (by rw [← HN.out, h]; rfl))])
  clear hN0 HV
  go_wp2_with fail
  go_loopw [5, 6] (fun v i wr => ∃ k : Nat, k ≤ N ∧ i = .int .i64 k ∧ v = .string (bs (prints tell (L.take k))) ∧ (prints tell (L.take k)).length ≤ 253 * k ∧ RowS wr la N L ∧ Below w.heap.size w wr) (fun _ i _ => N - (intOf i).toNat)
  case atStart => exact ⟨0, Nat.zero_le _, rfl, rfl, Nat.zero_le _, HR.out, HB2.out⟩
  case round =>
    obtain ⟨j, hj, rfl, rfl, hpl, hrr, hb⟩ := hrel
    clear HR HB2
    have HRR := Lib.hid hrr
    have HB := Lib.hid hb
    clear hb hrr
    by_cases hlt2 : j < N
    · rcases HRR.out.2 with h9 | ⟨b, o, rfl, hbl, hc⟩
      · omega
      have HPN := Lib.hid (prints_next tell L j (by rw [HN.out]; exact hlt2))
      have hs6 := (HOK.out j (by rw [HN.out]; exact hlt2)).2.1
      have hcw0 := hc j hlt2
      obtain ⟨P, hP⟩ : ∃ P, prints tell (L.take j) = P := ⟨_, rfl⟩
      obtain ⟨s, hs⟩ : ∃ s, tx L j = s := ⟨_, rfl⟩
      have hcell : wr.cell? ⟨b, o + j, none⟩ = some (.string s) := by rw [← hs]; exact hcw0
      rw [hP] at HPN hpl ⊢
      rw [hs] at HPN hs6
      have HS := Lib.hid hs
      clear hc hcw0 hP hs
      go_wp2_with fail
      obtain ⟨wo2, rfl⟩ : ∃ wo : World, wo = wr := ⟨_, rfl⟩
      go_loopw [5, 7] (fun v i wr => ∃ m : Nat, m ≤ s.size ∧ i = .int .i64 m ∧ v = .string (bs (P ++ tells tell (s.data.toList.take m))) ∧ RowS wr (some ⟨b, o, none⟩) N L ∧ Below w.heap.size w wr) (fun _ i _ => s.size - (intOf i).toNat)
      case atStart => exact ⟨0, Nat.zero_le _, rfl, by simp [tells], HRR.out, HB.out⟩
      case round =>
        obtain ⟨m, hm, rfl, rfl, hrr, hb⟩ := hrel
        clear HRR HB
        have hcell2 : wr.cell? ⟨b, o + j, none⟩ = some (.string s) := by
          rcases hrr.2 with h9 | ⟨b', o', he, hbl', hc'⟩
          · omega
          · injection he with he; injection he with h1 h2; subst h1 h2; rw [← HS.out]; exact hc' j hlt2
        have HRR := Lib.hid hrr
        have HB := Lib.hid hb
        have hgq := hb.size
        clear hb hrr
        have hAs : (bs (P ++ tells tell (s.data.toList.take m))).size ≤ 100000 := by
          have := List.length_take_le m s.data.toList
          have := tells_len (s.data.toList.take m)
          rw [bs_size, List.length_append]; omega
        by_cases hlt3 : m < s.size
        · have hg := byte_get hlt3
          have hlb := byteAt_lt s m
          have HX := Lib.hid (fun x => tell_next P s m x hlt3)
          have HE := Lib.hid (fun x => ext_one s m x hlt3)
          obtain ⟨x, hx⟩ : ∃ x, byteAt s m = x := ⟨_, rfl⟩
          have HX2 := Lib.hid (HX.out x hx)
          have HE2 := Lib.hid (HE.out x hx)
          rw [hx] at hg hlb
          obtain ⟨A3, hA3⟩ : ∃ C, bs (P ++ tells tell (s.data.toList.take m)) = C := ⟨_, rfl⟩
          rw [hA3] at HX2 hAs ⊢
          have hEs : (s.extract m (m + 1)).size ≤ 1 := by rw [extract_size _ _ _ (by omega)]; omega
          obtain ⟨E3, hE3⟩ : ∃ C, s.extract m (m + 1) = C := ⟨_, rfl⟩
          rw [hE3] at HE2 hEs
          have hlt4 : m + 1 ≤ s.size := hlt3
          have hlt5 : (m : Int) + 1 ≤ (s.size : Int) := by omega
          clear hx HX HE hA3
          by_cases c1 : x = 46 ∨ x = 92
          · have HT := Lib.hid (show A3 ++ ((⟨#[92]⟩ : ByteArray) ++ E3) = bs (P ++ tells tell (s.data.toList.take (m + 1))) by
              have ht : tell x = [92, UInt8.ofNat x] := by
                rw [tell, if_neg (by simp only [plainN, decide_eq_true_eq]; omega), if_pos c1]
              rw [HX2.out, ht, HE2.out]
              show _ ++ (bs [92] ++ _) = _
              rw [bs_append]; rfl)
            have e1 : ((x : Int) == 46) = true ∨ ((x : Int) == 46) = false ∧ ((x : Int) == 92) = true := by
              rcases c1 with h | h
              · exact Or.inl (eT (by omega))
              · exact Or.inr ⟨eF (by omega), eT (by omega)⟩
            clear c1
            rcases e1 with e1 | ⟨e1, e2⟩
            all_goals
              go_wp2
              go_roundw
              case rel => exact ⟨m + 1, by omega, by go_num, by rw [← HT.out], HRR.out, HB.out⟩
              case measure => simp [intOf]; omega
          · have e1 : ((x : Int) == 46) = false := eF (by omega)
            have e2 : ((x : Int) == 92) = false := eF (by omega)
            by_cases c2 : 33 ≤ x ∧ x ≤ 126
            · have HT := Lib.hid (show A3 ++ E3 = bs (P ++ tells tell (s.data.toList.take (m + 1))) by
                have ht : tell x = [UInt8.ofNat x] := by
                  rw [tell, if_pos (by simp only [plainN, decide_eq_true_eq]; omega)]
                rw [HX2.out, ht, HE2.out])
              have e3 := dT (p := (33 : Int) ≤ (x : Int)) (by omega)
              have e4 := dT (p := (x : Int) ≤ (126 : Int)) (by omega)
              clear c1 c2
              go_wp2
              go_roundw
              case rel => exact ⟨m + 1, by omega, by go_num, by rw [← HT.out], HRR.out, HB.out⟩
              case measure => simp [intOf]; omega
            · have hconv := conv_lit3 wr x hlb
              have hC1 : (bs [UInt8.ofNat (48 + x / 100), UInt8.ofNat (48 + x / 10 % 10), UInt8.ofNat (48 + x % 10)]).size ≤ 3 := by rw [bs_size]; exact Nat.le_refl _
              have HT := Lib.hid (show A3 ++ ((⟨#[92]⟩ : ByteArray) ++ bs [UInt8.ofNat (48 + x / 100), UInt8.ofNat (48 + x / 10 % 10), UInt8.ofNat (48 + x % 10)]) = bs (P ++ tells tell (s.data.toList.take (m + 1))) by
                have ht : tell x = digs x := by
                  rw [tell, if_neg (by simp only [plainN, decide_eq_true_eq]; omega), if_neg c1]; rfl
                rw [HX2.out, ht]
                show _ ++ (bs [92] ++ _) = _
                rw [bs_append]; rfl)
              have e3 : decide ((33 : Int) ≤ (x : Int)) = false ∨ decide ((33 : Int) ≤ (x : Int)) = true ∧ decide ((x : Int) ≤ (126 : Int)) = false := by
                simp only [decide_eq_true_eq, decide_eq_false_iff_not]; omega
              obtain ⟨C3, hC3⟩ : ∃ C, bs [UInt8.ofNat (48 + x / 100), UInt8.ofNat (48 + x / 10 % 10), UInt8.ofNat (48 + x % 10)] = C := ⟨_, rfl⟩
              rw [hC3] at hconv HT hC1
              clear hC3 c1 c2
              rcases e3 with e3 | ⟨e3, e4⟩
              all_goals
                go_wp2
                go_roundw
                case rel => exact ⟨m + 1, by omega, by go_num, by rw [HT.out], HRR.out.below ((Below.refl _ _).alloc (Nat.le_refl _) _), HB.out.alloc hgq _⟩
                case measure => simp [intOf]; omega
        · have hmt : m = s.size := by omega
          subst hmt
          have hTK : s.data.toList.take s.size = s.data.toList := List.take_of_length_le (by rw [size_data]; exact Nat.le_refl _)
          have HQ := Lib.hid (show bs (P ++ tells tell (s.data.toList.take s.size)) ++ (⟨#[46]⟩ : ByteArray) = bs (prints tell (L.take (j + 1))) by
            rw [hTK, HPN.out, ← List.append_assoc]; exact bs_append _ [46])
          have HQ2 := Lib.hid (show (prints tell (L.take (j + 1))).length ≤ 253 * (j + 1) by
            have h3 := tells_len s.data.toList
            rw [size_data] at h3
            rw [HPN.out, List.length_append, List.length_append]; simp; omega)
          obtain ⟨A3, hA3⟩ : ∃ C, bs (P ++ tells tell (s.data.toList.take s.size)) = C := ⟨_, rfl⟩
          rw [hA3] at HQ hAs ⊢
          clear hTK hA3
          go_wp2
          go_roundw
          case rel => exact ⟨j + 1, by omega, by go_num, by rw [HQ.out], HQ2.out, HRR.out, HB.out⟩
          case measure => simp [intOf]; omega
    · have hjn : j = N := by omega
      subst hjn
      have HT := Lib.hid (show L.take j = L by rw [← HN.out]; exact List.take_length)
      rw [HT.out]
      go_wp2
      go_ret2
      rw [HV2.out]
      exact ⟨rfl, HB.out⟩

set_option maxRecDepth 100000 in
theorem texts_any (a b : Option Addr) (n c d : Nat) (L : List ByteArray) (w : World) (ha : RowS w a n L) (hb : RowS w b n L) (hn : n ≤ 100000) : Calls Try.prog 30 #[.slice a n c, .slice b n d] w fun e w' => e = .returned (.bool true) ∧ Below w.heap.size w w' := by
  have HA := Lib.hid ha
  have HB := Lib.hid hb
  clear ha hb
  go_enter Try.func30, Try.ntmps30
  go_wp2_with fail
  go_loopw [5] (fun i wr => ∃ k : Nat, k ≤ n ∧ i = .int .i64 k ∧ Below w.heap.size w wr) (fun i _ => n - (intOf i).toNat)
  case atStart => exact ⟨0, Nat.zero_le _, rfl, Below.refl _ _⟩
  case round =>
    obtain ⟨k, hk, rfl, hbel⟩ := hrel
    have HBL := Lib.hid hbel
    clear hbel
    by_cases hlt : k < n
    · rcases HA.out.2 with h9 | ⟨b1, o1, rfl, hbl1, hc1⟩
      · omega
      rcases HB.out.2 with h9 | ⟨b2, o2, rfl, hbl2, hc2⟩
      · omega
      have c1 : wr.cell? ⟨b1, o1 + k, none⟩ = some (.string (L.getD k ByteArray.empty)) := by rw [HBL.out.cell hbl1]; exact hc1 k hlt
      have c2 : wr.cell? ⟨b2, o2 + k, none⟩ = some (.string (L.getD k ByteArray.empty)) := by rw [HBL.out.cell hbl2]; exact hc2 k hlt
      obtain ⟨s, hs⟩ : ∃ s, L.getD k ByteArray.empty = s := ⟨_, rfl⟩
      rw [hs] at c1 c2
      have i1 : (k : Int) < (n : Int) := by omega
      clear hc1 hc2 hs
      go_wp2_with fail
      go_quiet (fail)
      rename_i nq
      have HB9 := Lib.hid (below_drewN HBL.out nq)
      go_wp2
      go_roundw
      case rel => exact ⟨k + 1, by omega, by go_num, HB9.out⟩
      case measure => simp [intOf]; omega
    · go_wp2
      go_ret
      exact ⟨rfl, HBL.out⟩
end Go.Proofs.Ytngncdmmlkcekaa
