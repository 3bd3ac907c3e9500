/- NameDeep: the walk. -/
import Derived.Test.YtngncdmmlkcekaaNTre
namespace Go.Proofs.Ytngncdmmlkcekaa
open Go.RowKit

theorem rowS_lit2 (w : World) (s t : ByteArray) (ty : TypeId) : RowS (w.alloc (.cells #[.string s, .string t] ty)) (some ⟨w.heap.size, 0, none⟩) 2 [s, t] := by
  refine ⟨rfl, Or.inr ⟨w.heap.size, 0, rfl, by simp, ?_⟩⟩
  intro j hj
  rcases (by omega : j = 0 ∨ j = 1) with rfl | rfl <;> simp [World.cell?_alloc_at]
theorem lit_sz2 {s t : ByteArray} (h : s.size ≤ 1000000) (g : t.size ≤ 1000000) : ∀ k, k < 2 → (tx [s, t] k).size ≤ 1000000 := by
  intro k hk
  rcases (by omega : k = 0 ∨ k = 1) with rfl | rfl
  · exact h
  · exact g
/-- What a name and its parent have to do with each other. -/
theorem deep_step {L : List ByteArray} (hL : OkL L) (hz : off L L.length ≤ 254) (j : Nat) (hj : j < L.length) :
    ((nameB (L.drop j)).toList == [0]) = false ∧ OkL (L.drop j) ∧ off (L.drop j) (L.drop j).length ≤ 254 ∧ parS (L.drop j) = nameB (L.drop (j + 1)) ∧ parB (L.drop j) = true ∧ (nameB (L.drop j)).size = (nameB (L.drop (j + 1))).size + (tx L j).size + 1 ∧ (nameB (L.drop j)).size ≤ 255 ∧ cmpS (nameB (L.drop (j + 1))) (nameB (L.drop j)) = -1 ∧ comS (nameB L) [nameB (L.drop j), nameB (L.drop (j + 1))] = nameB (L.drop (j + 1)) := by
  have ho := drop_ok hL j
  have hoz := Nat.le_trans (off_drop L j (by omega)) hz
  have ho1 := drop_ok hL (j + 1)
  have hoz1 := Nat.le_trans (off_drop L (j + 1) (by omega)) hz
  have hcons := drop_cons_tx L j hj
  have hr := root_toList (L.drop j) ho
  have hne : L.drop j ≠ [] := by rw [hcons]; simp
  have hu : undL (L.drop j) (L.drop (j + 1)) = true := (undL_iff _ _).2 ⟨1, by rw [hcons]; simp, by rw [List.drop_drop]⟩
  have ma := labels_may ho hoz
  have mb := labels_may ho1 hoz1
  have mL := labels_may hL hz
  have hsz : (nameB (L.drop j)).size = (nameB (L.drop (j + 1))).size + (tx L j).size + 1 := by
    have e1 : (nameB (L.drop j)).size = (nameL (L.drop j)).length := by rw [nameB, bs_size]
    have e2 : (nameB (L.drop (j + 1))).size = (nameL (L.drop (j + 1))).length := by rw [nameB, bs_size]
    rw [e1, e2, hcons, nameL_cons]
    simp; omega
  have hlt : (L.drop (j + 1)).length < (L.drop j).length := by rw [List.length_drop, List.length_drop]; omega
  refine ⟨by rw [hr, hcons]; rfl, ho, hoz, by rw [hcons]; rfl, by rw [hcons]; rfl, hsz, by rw [nameB_size]; omega, ?_, ?_⟩
  · have h1 : cmpS (nameB (L.drop j)) (nameB (L.drop (j + 1))) = cmpN (L.drop j) (L.drop (j + 1)) := by
      rw [cmpS, if_pos ma, if_pos mb, labs_name ho hoz, labs_name ho1 hoz1]
    have h2 := und_cmp hu
    have h3 := ord_cmpS.rng (nameB (L.drop j)) (nameB (L.drop (j + 1)))
    have h4 := ord_cmpS.zero (nameB (L.drop j)) (nameB (L.drop (j + 1)))
    have h5 := ord_cmpS.anti (nameB (L.drop j)) (nameB (L.drop (j + 1)))
    have h6 : cmpS (nameB (L.drop j)) (nameB (L.drop (j + 1))) ≠ 0 := by
      intro h
      have := congrArg ByteArray.size (h4.1 h)
      omega
    omega
  · have e : comN L [L.drop j, L.drop (j + 1)] = L.drop (j + 1) := by
      have h1 := comN_more L [L.drop j] (L.drop (j + 1))
      rw [(comN_is L (L.drop j)).1 ((undL_iff _ _).2 ⟨j, by omega, rfl⟩), (comN_is _ _).1 hu] at h1
      exact h1
    rw [comS, mL]
    simp only [List.all_cons, List.all_nil, ma, mb, Bool.and_true, if_true, List.map_cons, List.map_nil, labs_name ho hoz, labs_name ho1 hoz1, labs_name hL hz]
    rw [e]

set_option maxRecDepth 100000 in
set_option maxHeartbeats 3200000 in
theorem ndeep_yes (L : List ByteArray) (a : ByteArray) (w : World) (z1 : a.size ≤ 2000) (hL : OkL L) (hz : off L L.length ≤ 254) (ha : a = nameB L) :
    Calls Try.prog 8 #[.string a] w fun e w' => e = .returned (.bool true) ∧ Below w.heap.size w w' := by
  have d1 := dF (p := (2000 : Int) < (a.size : Int)) (by omega)
  have hll := fun w => labels_yes L w hL hz
  have hm := labels_may hL hz
  have hst := fun j hj => deep_step hL hz j hj
  have hge := off_ge L hL L.length (Nat.le_refl _)
  have hroot : ((nameB []).toList == [0]) = true := root_toList [] (fun k hk => by simp at hk)
  obtain ⟨n, hn⟩ : ∃ n, L.length = n := ⟨_, rfl⟩
  rw [← ha] at hll hm hst
  rw [hn] at hll hst hz hge
  have HLL := Lib.hid hll
  have HM := Lib.hid hm
  have HST := Lib.hid hst
  have HA := Lib.hid ha
  have HN := Lib.hid hn
  clear hll hm hst ha hn hL
  go_enter Try.func8, Try.ntmps8
  go_wp2_with fail
  refine (first2 _).mono ?_; rintro e w1 ⟨rfl, hb⟩
  have HB1 := Lib.hid hb; clear hb
  go_wp2_with fail
  refine (HLL.out _).mono ?_; rintro e w2 ⟨pa, rfl, hrow, hb⟩
  have HR := Lib.hid hrow
  have HB2 := Lib.hid (HB1.out.trans (hb.mono HB1.out.size))
  clear hb hrow
  go_wp2_with fail
  refine (nmay_any _ _ (by omega)).mono ?_; rintro e w' ⟨rfl, rfl⟩
  rw [HM.out]
  go_wp2_with fail
  go_loopw [6, 7] (fun x p wr => ∃ j : Nat, j ≤ n ∧ x = .int .i64 j ∧ p = .string (nameB (L.drop j)) ∧ Below w.heap.size w wr ∧ RowS wr pa n L) (fun _ p _ => strOf p)
  case atStart => exact ⟨0, Nat.zero_le _, rfl, by rw [List.drop_zero, ← HA.out], HB2.out, HR.out⟩
  case round =>
    obtain ⟨j, hj, rfl, rfl, hbr, hrow⟩ := hrel
    have HBr := Lib.hid hbr
    have HRr := Lib.hid hrow
    clear hbr hrow
    by_cases hlt : j < n
    · obtain ⟨s1, s2, s3, s4, s5, s6, s7, s8, s9⟩ := HST.out j hlt
      have hpar := fun w => parent_yes (L.drop j) w s2 s3
      rw [s4, s5] at hpar
      rcases HRr.out.2 with h9 | ⟨b, o, rfl, hbl, hc⟩
      · omega
      have hc' : ∀ t, t = tx L j → wr.cell? ⟨b, o + j, none⟩ = some (.string t) := fun t ht => by rw [ht]; exact hc j hlt
      obtain ⟨P, hP⟩ : ∃ P, nameB (L.drop j) = P := ⟨_, rfl⟩
      obtain ⟨Q, hQ⟩ : ∃ P, nameB (L.drop (j + 1)) = P := ⟨_, rfl⟩
      obtain ⟨t, ht⟩ : ∃ t, tx L j = t := ⟨_, rfl⟩
      rw [hP] at s1 s6 s7 s8 s9 hpar ⊢
      rw [hQ] at s6 s8 s9 hpar
      rw [ht] at s6
      have c1 := hc' t ht.symm
      have w5 : IntKind.i64.wrap ((P.size : Int) - (Q.size : Int)) = (t.size : Int) + 1 := by rw [IntKind.wrap_i64]; omega
      have e1 := dF (p := P.size ≤ Q.size) (by omega)
      have e2 := dF (p := n ≤ j) (by omega)
      have HP := Lib.hid hpar
      have H8 := Lib.hid s8
      have H9 := Lib.hid s9
      have HQ := Lib.hid hQ
      have hqs : Q.size ≤ 255 := by omega
      have hts : t.size ≤ 255 := by omega
      have H6 := Lib.hid (show Q.size < P.size by omega)
      clear s2 s3 s4 s5 s6 s8 s9 hpar hc hc' hP hQ ht
      go_wp2_with fail
      refine (HP.out _).mono ?_; rintro e w' ⟨rfl, rfl⟩
      go_wp2_with fail
      refine (compare_any _ _ _ (by omega) (by omega)).mono ?_; rintro e w6 ⟨rfl, hb⟩
      have HB6 := Lib.hid (HBr.out.trans (hb.mono HBr.out.size))
      have HR6 := Lib.hid (HRr.out.below hb)
      have c2 : w6.cell? ⟨b, o + j, none⟩ = some (.string t) := by rw [hb.cell hbl]; exact c1
      clear hb
      rw [H8.out]
      go_wp2_with fail
      refine (common_any _ _ _ _ [P, Q] _ (rowS_lit2 _ _ _ _) (by omega) (by omega) (lit_sz2 (by omega) (by omega))).mono ?_; rintro e w' ⟨rfl, rfl⟩
      rw [H9.out]
      go_wp2
      go_roundw
      case rel => exact ⟨j + 1, by omega, by go_num, by rw [HQ.out], HB6.out.alloc HB6.out.size _, HR6.out.below ((Below.refl _ _).alloc (Nat.le_refl _) _)⟩
      case measure => exact H6.out
    · have hjn : j = n := by omega
      subst hjn
      have hd : L.drop j = [] := List.drop_eq_nil_of_le (by rw [HN.out]; exact Nat.le_refl _)
      rw [hd]
      clear hd
      obtain ⟨rt, hrt⟩ : ∃ r, nameB [] = r := ⟨_, rfl⟩
      rw [hrt] at hroot ⊢
      clear hrt
      go_wp2_with fail
      refine (first2 _).mono ?_; rintro e w8 ⟨rfl, hb⟩
      have HB9 := Lib.hid (HBr.out.trans (hb.mono HBr.out.size)); clear hb
      go_wp2
      go_ret
      exact ⟨rfl, HB9.out⟩

set_option maxRecDepth 100000 in
theorem walkNDeep (a : ByteArray) (w : World) : Calls Try.prog 8 #[.string a] w fun e w' => e = .returned (.bool true) ∧ Below w.heap.size w w' := by
  by_cases z1 : a.size ≤ 2000
  · cases hm : mayN a
    · have d1 := dF (p := (2000 : Int) < (a.size : Int)) (by omega)
      have HM := Lib.hid hm
      have HL := Lib.hid (fun w => labels_no a w hm (by omega))
      have HP := Lib.hid (fun w => parent_no a w hm (by omega))
      clear hm
      go_enter Try.func8, Try.ntmps8
      go_wp2_with fail
      refine (first2 _).mono ?_; rintro e w1 ⟨rfl, hb⟩
      have HB1 := Lib.hid hb; clear hb
      go_wp2_with fail
      refine (HL.out _).mono ?_; rintro e w' ⟨rfl, rfl⟩
      go_wp2_with fail
      refine (nmay_any _ _ (by omega)).mono ?_; rintro e w' ⟨rfl, rfl⟩
      rw [HM.out]
      go_wp2_with fail
      refine (HP.out _).mono ?_; rintro e w' ⟨rfl, rfl⟩
      go_wp2_with fail
      refine (first2 _).mono ?_; rintro e w2 ⟨rfl, hb⟩
      have HB2 := Lib.hid (HB1.out.trans (hb.mono HB1.out.size)); clear hb
      go_wp2
      go_ret
      exact ⟨rfl, HB2.out⟩
    · obtain ⟨k1, k2, k3⟩ := labs_spec hm
      exact ndeep_yes (labs a) a w z1 k1 k2 k3
  · have d1 := dT (p := (2000 : Int) < (a.size : Int)) (by omega)
    clear z1
    go_enter Try.func8, Try.ntmps8
    go_wp2_with fail
    refine (first2 _).mono ?_; rintro e w1 ⟨rfl, hb⟩
    have HB1 := Lib.hid hb; clear hb
    go_wp2_with fail
    refine (first2 _).mono ?_; rintro e w2 ⟨rfl, hb⟩
    have HB2 := Lib.hid (HB1.out.trans (hb.mono HB1.out.size)); clear hb
    go_wp2
    go_ret
    exact ⟨rfl, HB2.out⟩
end Go.Proofs.Ytngncdmmlkcekaa
