/- name.Compare's contract, which tells that no draw is taken back. -/
import Derived.Test.YtgdhbelcellabaaMgB
namespace Go.Proofs.Ytgdhbelcellabaa
open Go.RowKit

/-- As 'Below', and no draw is taken back. -/
structure BelD (B : Nat) (w w' : World) : Prop where
  b : Below B w w'
  d : w.drawn ≤ w'.drawn
theorem BelD.refl (B : Nat) (w : World) : BelD B w w := ⟨Below.refl B w, Nat.le_refl _⟩
theorem BelD.trans {B : Nat} {x y z : World} (h : BelD B x y) (k : BelD B y z) : BelD B x z := ⟨h.b.trans k.b, Nat.le_trans h.d k.d⟩
theorem BelD.mono {A B : Nat} {x y : World} (h : BelD B x y) (hA : A ≤ B) : BelD A x y := ⟨h.b.mono hA, h.d⟩
theorem BelD.alloc {B : Nat} {x y : World} (h : BelD B x y) (hB : B ≤ y.heap.size) (o : Obj) : BelD B x (y.alloc o) := ⟨h.b.alloc hB o, h.d⟩
theorem BelD.drew {B : Nat} {x y : World} (h : BelD B x y) : BelD B x y.drew := ⟨h.b.drew, Nat.le_trans h.d (Nat.le_succ _)⟩
theorem BelD.setCell {B : Nat} {x y : World} (h : BelD B x y) {p : Addr} (hp : B ≤ p.block) (v : Value) : BelD B x (y.setCell p v) := ⟨h.b.setCell hp v, h.d⟩
theorem BelD.size {B : Nat} {x y : World} (h : BelD B x y) : x.heap.size ≤ y.heap.size := h.b.size
theorem belD_drewN {B : Nat} {x y : World} (h : BelD B x y) (n : Nat) : BelD B x (y.drewN n) := by
  induction n with
  | zero => exact h
  | succ n ih => exact ih.drew
theorem belD_setCells {B : Nat} {w w' : World} (h : BelD B w w') {b : Nat} (hb : B ≤ b) (o : Nat) (vs : List Value) : BelD B w (w'.setCells b o vs) := by
  induction vs generalizing o w' with
  | nil => exact h
  | cons v vs ih => exact ih (h.setCell hb v) (o + 1)

/-- A whole array stored: a world. -/
theorem store_arrD {w : World} {q : Nat} {g : Nat → Int} (h : ArrAt w q g) (f : Nat → Int) {B : Nat} {w0 : World} (hb : BelD B w0 w) (hB : B ≤ q) :
    ∃ w2, (storeCells ⟨q, 0, none⟩ (arrL f)).run Try.prog w = .ok () w2 ∧ ArrAt w2 q f ∧ BelD B w0 w2 := by
  refine ⟨w.setCells q 0 (arrL f), ?_, arr_stored h, belD_setCells hb hB 0 (arrL f)⟩
  have h1 := run_storeCells_cells (P := Try.prog) q 0 (arrL f) 0 w ?_ ?_ ?_
  · simpa using h1
  · intro j hj
    rw [arrL_length] at hj
    simp only [Nat.zero_add, (h j hj).1]; rfl
  · intro j hj
    rw [arrL_length] at hj
    simp only [Nat.zero_add, (h j hj).2]
  · intro v hv
    simp only [arrL, List.mem_map] at hv
    obtain ⟨_, _, rfl⟩ := hv
    rfl

set_option maxRecDepth 100000 in
theorem startsD_any (L : List ByteArray) (w : World) (hL : OkL L) (hz : off L L.length ≤ 254) : Calls Try.prog 84 #[.string (nameB L)] w fun e w' => e = .returned (.tuple #[.agg (arrL (stF L L.length)).toArray, .int .i64 L.length]) ∧ BelD w.heap.size w w' := by
  have hsz := nameB_size L
  obtain ⟨n, hn⟩ : ∃ n, L.length = n := ⟨_, rfl⟩
  obtain ⟨s, hs1⟩ : ∃ s, nameB L = s := ⟨_, rfl⟩
  rw [hn, hs1] at hsz
  rw [hn] at hz
  have HN := Lib.hid hn
  have HS := Lib.hid hs1
  have HL := Lib.hid hL
  rw [hs1, hn]
  clear hn hs1 hL
  go_enter Try.func84, Try.ntmps84
  go_wp2
  go_loopw [5, 6] (fun c a wr => ∃ k : Nat, k ≤ n ∧ c = .int .i64 k ∧ a = .int .i64 (off L k : Nat) ∧ ArrAt wr w.heap.size (fun _ => 0) ∧ ArrAt wr (w.heap.size + 1) (stF L k) ∧ BelD w.heap.size w wr ∧ wr.heap.size = w.heap.size + 2) (fun c _ _ => n - (intOf c).toNat)
  case atStart =>
    refine ⟨0, Nat.zero_le _, rfl, rfl, ?_, ?_, ?_, by simp⟩
    · exact (arr_new w).below ((Below.refl _ _).alloc (Nat.le_refl _) _)
    · have h := arr_new (w.alloc (.cells Try.zeroCells118 118))
      rw [World.size_alloc] at h
      exact h
    · exact ((BelD.refl _ _).alloc (Nat.le_refl _) _).alloc (by simp) _
  case round =>
    obtain ⟨k, hk, rfl, rfl, ha0, ha1, hbel, hsize⟩ := hrel
    have HA0 := Lib.hid ha0
    have HA1 := Lib.hid ha1
    have HB := Lib.hid hbel
    have HZ := Lib.hid hsize
    have hm := off_mono L hk
    have hge := off_ge L HL.out k (by rw [HN.out]; exact hk)
    have hge2 := off_ge L HL.out n (by rw [HN.out]; exact Nat.le_refl _)
    clear ha0 ha1 hbel
    by_cases hlt : k < n
    · have hs := off_succ L k
      have hm2 := off_mono L (show k + 1 ≤ n by omega)
      obtain ⟨g1, g2, _⟩ := HL.out k (by rw [HN.out]; exact hlt)
      have hb := name_byte L k (by rw [HN.out]; exact hlt) (by omega)
      rw [HS.out] at hb
      obtain ⟨c1, f1⟩ := HA1.out k (by omega)
      obtain ⟨a, ha⟩ : ∃ a, off L k = a := ⟨_, rfl⟩
      obtain ⟨a2, ha2⟩ : ∃ a, off L (k + 1) = a := ⟨_, rfl⟩
      obtain ⟨t, ht⟩ : ∃ t, (tx L k).size = t := ⟨_, rfl⟩
      simp only [ha, ha2, ht] at hs hm2 hb g1 g2 hge ⊢
      have hlt2 : a < s.size := by omega
      have hg := (byte_get hlt2).trans hb
      have HA := Lib.hid ha
      have HA2 := Lib.hid ha2
      clear ha ha2 ht hb hsize hm
      go_wp2
      go_roundw
      case rel =>
        have h1 := HA1.out.set (k := k) (by omega) (a : Int)
        rw [show (fun j => if j = k then (a : Int) else stF L k j) = stF L (k + 1) by rw [← HA.out]; exact stF_next L k] at h1
        refine ⟨k + 1, by omega, by go_num, ?_, ?_, ?_, ?_, ?_⟩
        · rw [HA2.out, hs]; go_num
        · exact HA0.out.other (by simp) _
        · exact h1
        · exact HB.out.setCell (by simp) _
        · simpa using HZ.out
      case measure => simp [intOf]; omega
    · have hkn : k = n := by omega
      subst hkn
      go_wp2_with (first | (refine wpList_load_mid rfl 118 (.tmp 4) rfl _ _ rfl _ _ HA1.out.range Try.underlying118 rfl (by rw [arrL_length]; kernel_rfl) ?_) | (refine wpList_store_mid rfl 118 (.tmp 2) (.tmp 25) rfl _ _ _ rfl rfl HA0.out.there (by rw [List.size_toArray, arrL_length]; kernel_rfl) (arr_one _) ?_))
      refine bodyPost_ret (v := .tuple #[.agg (arrL (stF L k)).toArray, .int .i64 k]) ?_ rfl ⟨rfl, belD_setCells HB.out (Nat.le_refl _) _ _⟩
      rw [results_cell_tmp Try.results84]
      have hr := run_loadVar_mid (P := Try.prog) (wr.setCells w.heap.size 0 (arrL (stF L k))) w.heap.size 0 118 (arrL (stF L k)) _ (arr_stored HA0.out).range Try.underlying118 rfl (by rw [arrL_length]; kernel_rfl)
      simp [asAddr, hr]
set_option maxRecDepth 100000 in
set_option maxHeartbeats 800000 in
theorem compareD_yy (L M : List ByteArray) (w : World) (hL : OkL L) (hM : OkL M) (hz : off L L.length ≤ 254) (hy : off M M.length ≤ 254) : Calls Try.prog 61 #[.string (nameB L), .string (nameB M)] w fun e w' => e = .returned (.int .i64 (cmpN L M)) ∧ BelD w.heap.size w w' := by
  have hm1 := labels_may hL hz
  have hm2 := labels_may hM hy
  have hs1 := nameB_size L
  have hs2 := nameB_size M
  have hg1 := off_ge L hL L.length (Nat.le_refl _)
  have hg2 := off_ge M hM M.length (Nat.le_refl _)
  have HM1 := Lib.hid hm1
  have HM2 := Lib.hid hm2
  have HL := Lib.hid hL
  have HMM := Lib.hid hM
  obtain ⟨a, ha⟩ : ∃ s, nameB L = s := ⟨_, rfl⟩
  obtain ⟨b, hb⟩ : ∃ s, nameB M = s := ⟨_, rfl⟩
  obtain ⟨n, hn⟩ : ∃ n, L.length = n := ⟨_, rfl⟩
  obtain ⟨m, hm⟩ : ∃ n, M.length = n := ⟨_, rfl⟩
  have hcm := cmpN_all L M
  rw [hn, hm] at hcm
  have HCM := Lib.hid hcm
  have HA := Lib.hid ha
  have HB := Lib.hid hb
  have HN := Lib.hid hn
  have HMn := Lib.hid hm
  rw [ha] at HM1 hs1
  rw [hb] at HM2 hs2
  rw [ha, hb]
  rw [hn] at hz hg1 hs1
  rw [hm] at hy hg2 hs2
  clear hm1 hm2 hL hM ha hb hn hm hcm
  go_enter Try.func61, Try.ntmps61
  go_wp2_with fail
  refine (nmay_any _ _ (by omega)).mono ?_; rintro e w' ⟨rfl, rfl⟩
  rw [HM1.out]
  go_wp2_with fail
  refine (nmay_any _ _ (by omega)).mono ?_; rintro e w' ⟨rfl, rfl⟩
  rw [HM2.out]
  go_wp2_with fail
  have hst := startsD_any L w HL.out (by rw [HN.out]; exact hz)
  rw [HA.out, HN.out] at hst
  refine hst.mono ?_; rintro e w1 ⟨rfl, hb⟩
  obtain ⟨w2, hsto, ha2, hb2⟩ := store_arrD (arr_new w1) (stF L n) (hb.alloc hb.size (.cells Try.zeroCells118 118)) hb.size
  have HA2 := Lib.hid ha2
  have HB2 := Lib.hid hb2
  clear hb hst ha2 hb2
  go_wp2_with fail
  have hst := startsD_any M w2 HMM.out (by rw [HMn.out]; exact hy)
  rw [HB.out, HMn.out] at hst
  refine hst.mono ?_; rintro e w3 ⟨rfl, hb⟩
  have hb23 := HB2.out.trans (hb.mono HB2.out.size)
  clear hsto
  obtain ⟨w4, hsto, ha4, hb4⟩ := store_arrD (arr_new w3) (stF M m) (hb23.alloc hb23.size (.cells Try.zeroCells118 118)) hb23.size
  obtain ⟨w5, hsto5, _, hb5⟩ := store_arrD (arr_new w3) (stF M m) ((BelD.refl w3.heap.size w3).alloc (Nat.le_refl _) (.cells Try.zeroCells118 118)) (Nat.le_refl _)
  have e45 : w5 = w4 := by
    rw [hsto] at hsto5
    injection hsto5 with _ h
    exact h.symm
  subst e45
  have HA4 := Lib.hid ha4
  have HB4 := Lib.hid hb4
  have HA24 := Lib.hid ((HA2.out.below hb.b).below hb5.b)
  clear hst hb hb23 ha4 hb4 hb5 hsto5 HA2 HB2
  go_wp2_with fail
  obtain ⟨q1, hq⟩ : ∃ q, w1.heap.size = q := ⟨_, rfl⟩
  obtain ⟨q2, hq2⟩ : ∃ q, w3.heap.size = q := ⟨_, rfl⟩
  rw [hq] at HA24
  rw [hq2] at HA4
  rw [hq, hq2]
  clear hsto hq hq2
  go_loopw [8, 10] (fun x y wr => ∃ i j q : Nat, i ≤ n ∧ j ≤ m ∧ x = .int .i64 i ∧ y = .int .i64 j ∧ wr = w5.drewN q ∧ Hid (cmpN L M = cmpLab (L.take i).reverse (M.take j).reverse)) (fun x _ _ => (intOf x).toNat)
  case atStart => exact ⟨n, m, 0, Nat.le_refl _, Nat.le_refl _, rfl, rfl, rfl, HCM.out⟩
  case round =>
    obtain ⟨i, j, q, hi, hj, rfl, rfl, rfl, hc⟩ := hrel
    by_cases h0 : i = 0 ∨ j = 0
    · have hce := cmp_end L M i j (by rw [HN.out]; exact hi) (by rw [HMn.out]; exact hj) h0
      have HV := Lib.hid (hc.out.trans hce)
      have hd : decide (0 < i) = false ∨ decide (0 < i) = true ∧ decide (0 < j) = false := by
        simp only [decide_eq_true_eq, decide_eq_false_iff_not]; omega
      clear hc hce h0
      rcases hd with d1 | ⟨d1, d2⟩
      all_goals
        go_wp2_with (go_at_call 62; refine (icompare_any _ _ _).mono ?_; rintro e w' ⟨rfl, rfl⟩)
        go_returns
        exact ⟨ret_int HV.out.symm, belD_drewN HB4.out q⟩
    · obtain ⟨i', rfl⟩ : ∃ i', i = i' + 1 := ⟨i - 1, by omega⟩
      obtain ⟨j', rfl⟩ : ∃ j', j = j' + 1 := ⟨j - 1, by omega⟩
      have hce := cmp_step L M i' j' (by rw [HN.out]; exact hi) (by rw [HMn.out]; exact hj)
      have c1 := (HA24.out i' (by omega)).1
      have c2 := (HA4.out j' (by omega)).1
      rw [stF, if_pos (by omega)] at c1 c2
      have hl1 := label_quiet L i' w5 q HL.out (by rw [HN.out]; exact hi) (by rw [HN.out]; exact hz)
      have hl2 := label_quiet M j' w5 q HMM.out (by rw [HMn.out]; exact hj) (by rw [HMn.out]; exact hy)
      rw [HA.out] at hl1
      rw [HB.out] at hl2
      obtain ⟨x, hx⟩ : ∃ x, tx L i' = x := ⟨_, rfl⟩
      obtain ⟨y, hy⟩ : ∃ x, tx M j' = x := ⟨_, rfl⟩
      rw [hx, hy] at hce
      rw [hx] at hl1
      rw [hy] at hl2
      obtain ⟨p1, hp1⟩ : ∃ p, off L i' = p := ⟨_, rfl⟩
      obtain ⟨p2, hp2⟩ : ∃ p, off M j' = p := ⟨_, rfl⟩
      rw [hp1] at c1 hl1
      rw [hp2] at c2 hl2
      have HL1 := Lib.hid hl1
      have HL2 := Lib.hid hl2
      have i1 : (i' : Int) < 127 := by omega
      have i2 : (j' : Int) < 127 := by omega
      clear hx hy hp1 hp2 hl1 hl2 h0
      obtain ⟨v, hv⟩ : ∃ v, cmpB x y = v := ⟨_, rfl⟩
      have hsq := scompare_quiet x y w5 q
      rw [hv] at hsq hce
      have HSQ := Lib.hid hsq
      clear hsq hv
      by_cases hv0 : v = 0
      · subst hv0
        rw [if_pos rfl] at hce
        have HV := Lib.hid (hc.out.trans hce)
        clear hc hce
        go_wp2_with fail
        go_quiet (first | (go_at_call 85; first | (with_reducible exact HL1.out _) | (with_reducible exact HL2.out _)) | (go_at_call 72; exact HSQ.out _))
        go_wp2
        go_roundw
        case rel => exact ⟨i', j', _, by omega, by omega, by go_num, by go_num, rfl, HV.out⟩
        case measure => simp [intOf]
      · rw [if_neg hv0] at hce
        have HV := Lib.hid (hc.out.trans hce)
        have e0 : (v != 0) = true := nT hv0
        clear hc hce hv0
        go_wp2_with fail
        go_quiet (first | (go_at_call 85; first | (with_reducible exact HL1.out _) | (with_reducible exact HL2.out _)) | (go_at_call 72; exact HSQ.out _))
        go_wp2
        go_returns
        exact ⟨ret_int HV.out.symm, belD_drewN HB4.out _⟩

set_option maxRecDepth 100000 in
theorem compareD_any (a b : ByteArray) (w : World) (ha : a.size ≤ 1000000) (hb : b.size ≤ 1000000) : Calls Try.prog 61 #[.string a, .string b] w fun e w' => e = .returned (.int .i64 (cmpS a b)) ∧ BelD w.heap.size w w' := by
  cases h1 : mayN a
  · cases h2 : mayN b
    · have HV := Lib.hid (show cmpS a b = cmpB a b by rw [cmpS, h1, h2]; rfl)
      have H1 := Lib.hid h1
      have H2 := Lib.hid h2
      clear h1 h2
      go_enter Try.func61, Try.ntmps61
      go_wp2_with fail
      refine (nmay_any _ _ ha).mono ?_; rintro e w' ⟨rfl, rfl⟩
      rw [H1.out]
      go_wp2_with fail
      refine (nmay_any _ _ hb).mono ?_; rintro e w' ⟨rfl, rfl⟩
      rw [H2.out]
      go_wp2_with fail
      refine (scompare_any _ _ _).mono ?_; rintro e w' ⟨rfl, rfl⟩
      go_wp2
      go_ret
      exact ⟨ret_int HV.out.symm, BelD.refl _ _⟩
    · have HV := Lib.hid (show cmpS a b = 1 by rw [cmpS, h1, h2]; rfl)
      have H1 := Lib.hid h1
      have H2 := Lib.hid h2
      clear h1 h2
      go_enter Try.func61, Try.ntmps61
      go_wp2_with fail
      refine (nmay_any _ _ ha).mono ?_; rintro e w' ⟨rfl, rfl⟩
      rw [H1.out]
      go_wp2_with fail
      refine (nmay_any _ _ hb).mono ?_; rintro e w' ⟨rfl, rfl⟩
      rw [H2.out]
      go_wp2
      go_ret
      exact ⟨ret_int HV.out.symm, BelD.refl _ _⟩
  · cases h2 : mayN b
    · have HV := Lib.hid (show cmpS a b = -1 by rw [cmpS, h1, h2]; rfl)
      have H1 := Lib.hid h1
      have H2 := Lib.hid h2
      clear h1 h2
      go_enter Try.func61, Try.ntmps61
      go_wp2_with fail
      refine (nmay_any _ _ ha).mono ?_; rintro e w' ⟨rfl, rfl⟩
      rw [H1.out]
      go_wp2_with fail
      refine (nmay_any _ _ hb).mono ?_; rintro e w' ⟨rfl, rfl⟩
      rw [H2.out]
      go_wp2
      go_ret
      exact ⟨ret_int HV.out.symm, BelD.refl _ _⟩
    · obtain ⟨k1, k2, k3⟩ := labs_spec h1
      obtain ⟨g1, g2, g3⟩ := labs_spec h2
      have hc := compareD_yy (labs a) (labs b) w k1 g1 k2 g2
      rw [← k3, ← g3] at hc
      rw [show cmpS a b = cmpN (labs a) (labs b) by rw [cmpS, h1, h2]; rfl]
      exact hc
end Go.Proofs.Ytgdhbelcellabaa
