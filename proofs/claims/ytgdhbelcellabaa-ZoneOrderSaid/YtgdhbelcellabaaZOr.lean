/- ZoneOrder: the walk. -/
import Derived.Test.YtgdhbelcellabaaZBp
import Derived.Test.YtgdhbelcellabaaCmo
namespace Go.Proofs.Ytgdhbelcellabaa
open Go.RowKit

theorem newR_pair {apex : ByteArray} {l t : List R5} {w w1 w2 : World} {e e2 : Ending} (hm : ∀ x, x ∈ t ↔ x ∈ l) (hl : l.length ≤ 300) (ht : t.length ≤ 300) (h1 : NewR apex l w e w1) (h2 : NewR apex t w1 e2 w2) :
    ((∃ x : Int, x ≠ 0 ∧ e = .returned (.tuple #[.pointer none, .int .i64 x]) ∧ e2 = .returned (.tuple #[.pointer none, .int .i64 x])) ∨ ∃ z z2 S, e = .returned (.tuple #[.pointer (some ⟨z, 0, none⟩), .int .i64 0]) ∧ e2 = .returned (.tuple #[.pointer (some ⟨z2, 0, none⟩), .int .i64 0]) ∧ ZOk w1 z apex l S ∧ ZnAt w2 z2 apex S) ∧ Below w.heap.size w w1 ∧ Below w1.heap.size w1 w2 := by
  obtain ⟨h1, hb1⟩ := h1
  obtain ⟨h2, hb2⟩ := h2
  refine ⟨?_, hb1, hb2⟩
  rcases h1 with ⟨g1, rfl⟩ | ⟨g1, ⟨⟨r, hr, g2⟩, rfl⟩ | ⟨g2, ⟨g3, rfl⟩ | ⟨g3, S, hc, hs, hl1, g4⟩⟩⟩
  · rcases h2 with ⟨k1, rfl⟩ | ⟨k1, _⟩
    · exact Or.inl ⟨10, by decide, rfl, rfl⟩
    · rw [g1] at k1; cases k1
  · rcases h2 with ⟨k1, _⟩ | ⟨k1, ⟨_, rfl⟩ | ⟨k2, _⟩⟩
    · rw [g1] at k1; cases k1
    · exact Or.inl ⟨4, by decide, rfl, rfl⟩
    · rw [k2 r ((hm r).2 hr)] at g2; cases g2
  · omega
  · rcases h2 with ⟨k1, _⟩ | ⟨k1, ⟨⟨r, hr, k2⟩, _⟩ | ⟨k2, ⟨k3, _⟩ | ⟨k3, S2, kc, ks, kl, k4⟩⟩⟩
    · rw [g1] at k1; cases k1
    · rw [g2 r ((hm r).1 hr)] at k2; cases k2
    · omega
    · have hS := canon_same (kc.of_mem hm) hc
      rw [hS] at k4
      rcases g4 with ⟨g4, rfl⟩ | ⟨g4, z, rfl, hz, hza⟩
      · rcases k4 with ⟨k4, rfl⟩ | ⟨k4, _⟩
        · exact Or.inl ⟨11, by decide, rfl, rfl⟩
        · rw [g4] at k4; cases k4
      · rcases k4 with ⟨k4, _⟩ | ⟨k4, z2, rfl, hz2, hza2⟩
        · rw [g4] at k4; cases k4
        · exact Or.inr ⟨z, z2, S, rfl, rfl, ⟨g1, g2, g3, hc, hs, hl1, g4, hza⟩, hza2⟩
theorem cut_apex (S : List SetP) (apex : ByteArray) : cutP S apex apex = none := by
  unfold cutP
  split
  · rw [Nat.sub_self]; rfl
  · rfl
theorem there_apex {apex : ByteArray} {S : List SetP} (h : mayN apex = true) (hw : wholeB apex S = true) : (undS apex apex && thereP S apex) = true := by
  obtain ⟨-, -, ⟨s, hs⟩, -⟩ := whole_parts hw
  rw [und_refl h, Bool.true_and]
  exact List.any_eq_true.2 ⟨s, find_mem hs, by rw [find_key hs]; exact und_refl h⟩
set_option maxRecDepth 100000 in
set_option maxHeartbeats 8000000 in
theorem walkZOrder (apex : ByteArray) (a : Option Addr) (n c : Nat) (l : List R5) (turn : Int) (w : World) (h : RowR w a n l) (hn : a = none → n = 0 ∧ c = 0) (hlen : n ≤ 9223372036854775807) (hsz : ∀ r ∈ l, SzR r) (ha : apex.size ≤ 9223372036854775807) :
    Calls Try.prog 6 #[.string apex, .slice a n c, .int .i64 turn] w fun e w' => e = .returned (.bool true) ∧ Below w.heap.size w w' := by
  obtain ⟨i0', hi, hz0, hz1, hz2⟩ := info_parts infoRR
  have HI := Lib.hid hi
  have HZ0 := Lib.hid hz0
  have HZ1 := Lib.hid hz1
  have HZ2 := Lib.hid hz2
  clear hi hz0 hz1 hz2
  have HR := Lib.hid h
  have HN := Lib.hid hn
  have HSZ := Lib.hid hsz
  have HLN := Lib.hid h.1
  clear h hn hsz
  go_enter Try.func6, Try.ntmps6
  go_wp2_with fail
  refine (first10 _).mono ?_; rintro e w1 ⟨rfl, hb⟩
  have HB1 := Lib.hid hb
  clear hb
  go_wp2_with fail
  refine (few10 a n c l _ (HR.out.below HB1.out) hlen HSZ.out).mono ?_; rintro e w2 ⟨hres, hb⟩
  have HB2 := Lib.hid (HB1.out.trans (hb.mono HB1.out.size))
  clear hb HB1
  rcases hres with rfl | ⟨rfl, hn4, hsm⟩
  · -- not few
    go_wp2_with fail
    refine (first10 _).mono ?_; rintro e w9 ⟨rfl, hb⟩
    have HB9 := Lib.hid (HB2.out.trans (hb.mono HB2.out.size))
    clear hb
    go_wp2
    go_ret
    exact ⟨rfl, HB9.out⟩
  have HSM := Lib.hid hsm
  clear hsm hlen
  by_cases h1 : 1000 < apex.size
  · have d1 : decide (1000 < apex.size) = true := dT h1
    have d2 : decide ((1000 : Int) < (apex.size : Int)) = true := dT (by omega)
    clear h1
    go_wp2_with fail
    refine (first10 _).mono ?_; rintro e w9 ⟨rfl, hb⟩
    have HB9 := Lib.hid (HB2.out.trans (hb.mono HB2.out.size))
    clear hb
    go_wp2
    go_ret
    exact ⟨rfl, HB9.out⟩
  have d1 : decide (1000 < apex.size) = false := dF h1
  have d2 : decide ((1000 : Int) < (apex.size : Int)) = false := dF (by omega)
  have HA1 := Lib.hid (show apex.size ≤ 1000000 by omega)
  clear h1
  by_cases h0 : turn < 0
  · have d0 := dT h0
    clear h0
    go_wp2_with fail
    refine (first10 _).mono ?_; rintro e w9 ⟨rfl, hb⟩
    have HB9 := Lib.hid (HB2.out.trans (hb.mono HB2.out.size))
    clear hb
    go_wp2
    go_ret
    exact ⟨rfl, HB9.out⟩
  have d0 := dF h0
  obtain ⟨tn, htn⟩ := Int.eq_ofNat_of_zero_le (show 0 ≤ turn by omega)
  subst htn
  clear h0
  by_cases h3 : 300 ≤ n
  · have d3 : decide (300 ≤ n) = true := dT h3
    have d4 : decide ((300 : Int) ≤ (n : Int)) = true := dT (by omega)
    clear h3
    go_wp2_with fail
    refine (first10 _).mono ?_; rintro e w9 ⟨rfl, hb⟩
    have HB9 := Lib.hid (HB2.out.trans (hb.mono HB2.out.size))
    clear hb
    go_wp2
    go_ret
    exact ⟨rfl, HB9.out⟩
  have d3 : decide (300 ≤ n) = false := dF h3
  have d4 : decide ((300 : Int) ≤ (n : Int)) = false := dF (by omega)
  have hn3 : n < 300 := by omega
  have HN3 := Lib.hid hn3
  clear h3 ha hn4
  go_wp2_with fail
  clear d1 d2 d3 d4 d0
  go_loopw [7, 8] (fun v i wr => ∃ k : Nat, k ≤ n ∧ i = .int .i64 k ∧ Hid (wr.ownsRow w2.heap.size 45 5 v k (flatR (turned l (tn % n) k))) ∧ Hid (Below w2.heap.size w2 wr)) (fun _ i _ => n - (intOf i).toNat)
  case atStart => exact ⟨0, Nat.zero_le _, rfl, World.ownsRow_nil _ _ _ _, Below.refl _ _⟩
  case round =>
    obtain ⟨k, hk, rfl, ho, hbw⟩ := hrel
    by_cases hlt : k < n
    · obtain ⟨m9, hm9⟩ : ∃ x, tn % n = x := ⟨_, rfl⟩
      have hm9n : m9 < n := by rw [← hm9]; exact Nat.mod_lt _ (by omega)
      obtain ⟨j, hj⟩ : ∃ x, (k + m9) % n = x := ⟨_, rfl⟩
      have hjn : j < n := by rw [← hj]; exact Nat.mod_lt _ (by omega)
      obtain ⟨b, o, r, rfl, hbl, hr, e0, e1, e2, e3, e4⟩ := (HR.out.below (HB2.out.trans (hbw.out.mono HB2.out.size))).at j hjn
      obtain ⟨⟨xn, xt, xc⟩, xu, xd⟩ := r
      have HT := Lib.hid (show turned l m9 (k + 1) = turned l m9 k ++ [⟨⟨xn, xt, xc⟩, xu, xd⟩] by
        rw [turned_next, HLN.out, hj, List.getD_eq_getElem?_getD, hr]; rfl)
      rw [hm9] at ho
      replace e0 : wr.cell? ⟨b, o + j * 5, none⟩ = some (.string xn) := e0
      replace e1 : wr.cell? ⟨b, o + j * 5 + 1, none⟩ = some (.int .i64 xt) := e1
      replace e2 : wr.cell? ⟨b, o + j * 5 + 2, none⟩ = some (.int .i64 xc) := e2
      replace e3 : wr.cell? ⟨b, o + j * 5 + 3, none⟩ = some (.int .i64 xu) := e3
      replace e4 : wr.cell? ⟨b, o + j * 5 + 4, none⟩ = some (.string xd) := e4
      have f1 : (tn : Int) % (n : Int) = (m9 : Int) := by rw [← hm9]; exact (Int.natCast_emod tn n).symm
      have f2 : ((k : Int) + (m9 : Int)) % (n : Int) = (j : Int) := by rw [← hj]; exact (Int.natCast_emod (k + m9) n).symm
      have i0 : (0 : Int) ≤ (j : Int) := by omega
      have i2 : (j : Int) < (n : Int) := by omega
      have i3 : (0 : Int) < (n : Int) := by omega
      have i4 : (0 : Int) ≤ (tn : Int) := by omega
      have HJ := Lib.hid hj
      have HM9 := Lib.hid hm9
      clear hr hj hm9
      have hal := (Below.refl wr.heap.size wr).alloc (Nat.le_refl _) (.cells #[.string xn, .int .i64 xt, .int .i64 xc, .int .i64 xu, .string xd] 45)
      have HAL := Lib.hid hal
      clear hal
      go_wp2_with (at_builtin; refine append_cellsK rfl _ _ 22 45 rfl i0' _ 5 56 Try.underlying22 HI.out HZ0.out HZ1.out HZ2.out rfl (by decide) w2.heap.size _ k _ rfl (own_below' ho.out HAL.out) (some ⟨wr.heap.size, 0, none⟩) 1 1 (encR ⟨⟨xn, xt, xc⟩, xu, xd⟩) rfl (fun h => by cases h) (cells_lit wr #[.string xn, .int .i64 xt, .int .i64 xc, .int .i64 xu, .string xd] _) (fun u hu => flatR_one [⟨⟨xn, xt, xc⟩, xu, xd⟩] u (by simpa [flatR] using hu)) (by omega) (by decide) (by have := hbw.out.size; simp; omega) ?_)
      intro v' w6 hown' hgrow'
      have HO3 := Lib.hid hown'
      have HB3 := Lib.hid ((hbw.out.trans (HAL.out.mono hbw.out.size)).grown hgrow' (by have := hbw.out.size; simp; omega) (fun k hk => (ho.out.lt k hk).1))
      clear hown' hgrow' f1 f2
      go_wp2
      go_roundw
      case rel => exact ⟨k + 1, by omega, by go_num, Lib.hid (by rw [HM9.out, HT.out, flatR_append]; simpa [flatR] using HO3.out), HB3⟩
      case measure => simp [intOf]; omega
    · have hkn : n = k := by omega
      subst hkn
      have hmem := turned_mem l (tn % n) (by
        rw [HLN.out]
        by_cases hz : n = 0
        · exact Or.inr hz
        · exact Or.inl (Nat.mod_lt _ (by omega)))
      rw [HLN.out] at hmem
      have hTl := turned_len l (tn % n) n
      obtain ⟨T, hT⟩ : ∃ x, turned l (tn % n) n = x := ⟨_, rfl⟩
      rw [hT] at hmem ho hTl
      have HTM := Lib.hid hmem
      have HTL := Lib.hid hTl
      clear hmem hT hTl hlt hk
      by_cases hz : 0 < n
      · have d1 : decide (0 < n) = true := dT hz
        have d2 : decide ((0 : Int) < (n : Int)) = true := dT (by omega)
        obtain ⟨b, o, r, rfl, hbl, hr, e0, e1, e2, e3, e4⟩ := (HR.out.below (HB2.out.trans (hbw.out.mono HB2.out.size))).at 0 hz
        obtain ⟨⟨xn, xt, xc⟩, xu, xd⟩ := r
        replace e0 : wr.cell? ⟨b, o + 0 * 5, none⟩ = some (.string xn) := e0
        replace e1 : wr.cell? ⟨b, o + 0 * 5 + 1, none⟩ = some (.int .i64 xt) := e1
        replace e2 : wr.cell? ⟨b, o + 0 * 5 + 2, none⟩ = some (.int .i64 xc) := e2
        replace e3 : wr.cell? ⟨b, o + 0 * 5 + 3, none⟩ = some (.int .i64 xu) := e3
        replace e4 : wr.cell? ⟨b, o + 0 * 5 + 4, none⟩ = some (.string xd) := e4
        rw [Nat.zero_mul, Nat.add_zero] at e0 e1 e2 e3 e4
        have HXM := Lib.hid (List.mem_of_getElem? hr)
        have i2 : (0 : Int) < (n : Int) := by omega
        have hal := (Below.refl wr.heap.size wr).alloc (Nat.le_refl _) (.cells #[.string xn, .int .i64 xt, .int .i64 xc, .int .i64 xu, .string xd] 45)
        have HAL := Lib.hid hal
        clear hal hr
        go_wp2_with (at_builtin; refine append_cellsK rfl _ _ 22 45 rfl i0' _ 5 56 Try.underlying22 HI.out HZ0.out HZ1.out HZ2.out rfl (by decide) w2.heap.size _ n _ rfl (own_below' ho.out HAL.out) (some ⟨wr.heap.size, 0, none⟩) 1 1 (encR ⟨⟨xn, xt, xc⟩, xu, xd⟩) rfl (fun h => by cases h) (cells_lit wr #[.string xn, .int .i64 xt, .int .i64 xc, .int .i64 xu, .string xd] _) (fun u hu => flatR_one [⟨⟨xn, xt, xc⟩, xu, xd⟩] u (by simpa [flatR] using hu)) (by omega) (by decide) (by have := hbw.out.size; simp; omega) ?_)
        intro v' w6 hown' hgrow'
        obtain ⟨ta, tc, rfl, hrt, hnt⟩ := rowR_own (l := T ++ [⟨⟨xn, xt, xc⟩, xu, xd⟩]) (show w6.ownsRow w2.heap.size 45 5 v' (n + 1) (flatR (T ++ [⟨⟨xn, xt, xc⟩, xu, xd⟩])) by rw [flatR_append]; simpa [flatR] using hown')
        have HRT := Lib.hid hrt
        have HNT := Lib.hid hnt
        have HB3 := Lib.hid (HB2.out.trans (((hbw.out.trans (HAL.out.mono hbw.out.size)).grown hgrow' (by have := hbw.out.size; simp; omega) (fun k hk => (ho.out.lt k hk).1)).mono HB2.out.size))
        have HMM := Lib.hid (show ∀ x, x ∈ T ++ [⟨⟨xn, xt, xc⟩, xu, xd⟩] ↔ x ∈ l from fun x => by
          rw [List.mem_append, HTM.out x, List.mem_singleton]
          exact ⟨fun h => h.elim id (fun e => by rw [e]; exact HXM.out), Or.inl⟩)
        obtain ⟨tl, htl⟩ : ∃ x, n + 1 = x := ⟨_, rfl⟩
        obtain ⟨TT, hTT⟩ : ∃ x, T ++ [⟨⟨xn, xt, xc⟩, xu, xd⟩] = x := ⟨_, rfl⟩
        have HTLL := Lib.hid (show TT.length = tl ∧ tl ≤ 300 by rw [← hTT, List.length_append, HTL.out, List.length_singleton]; omega)
        rw [hTT] at HRT HMM
        rw [htl] at HRT HNT ⊢
        clear hown' hgrow' hrt hnt ho hbw hTT htl e0 e1 e2 e3 e4 i2 d1 d2 hz hbl HAL
        go_upto_region 12 with (fail)
        go_wp2_with fail
        refine (znew_any apex _ n c l w6 (HR.out.below HB3.out) HN.out (by have := HN3.out; omega) (fun r hr => by have := (HSM.out r hr).1; omega) (fun r hr => by have := (HSM.out r hr).2; omega) HA1.out).mono ?_; rintro e w7 hn1
        obtain ⟨hres1, -⟩ := hn1.two
        have HRT7 := Lib.hid (HRT.out.below hn1.2)
        have HN1 := Lib.hid hn1
        clear hn1 HRT
        rcases hres1 with ⟨x, hx, rfl⟩ | ⟨z', S', rfl, -, -⟩
        · go_wp2_with fail
          refine (znew_any apex ta tl tc TT w7 HRT7.out HNT.out (by have := HTLL.out; omega) (fun r hr => by have := (HSM.out r ((HMM.out r).1 hr)).1; omega) (fun r hr => by have := (HSM.out r ((HMM.out r).1 hr)).2; omega) HA1.out).mono ?_; rintro e w8 hn2
          obtain ⟨hres, hb7, hb8⟩ := newR_pair HMM.out (by rw [HLN.out]; have := HN3.out; omega) (by have := HTLL.out; omega) HN1.out hn2
          have HB7 := Lib.hid (HB3.out.trans (hb7.mono HB3.out.size))
          have HB8 := Lib.hid (HB7.out.trans (hb8.mono HB7.out.size))
          have HB78 := Lib.hid hb8
          clear hn2 hb7 hb8 HN1 HRT7 HNT HMM HTLL HB3
          rcases hres with ⟨x', -, he1, rfl⟩ | ⟨z, z2, S, he1, -, -, -⟩
          · obtain rfl : x = x' := by simpa using he1
            have e1 : (x == 0) = false := eF hx
            clear he1
            go_wp2_with fail
            refine (first10 _).mono ?_; rintro e w9 ⟨rfl, hb⟩
            have HB9 := Lib.hid (HB8.out.trans (hb.mono HB8.out.size))
            clear hb
            go_wp2
            go_ret
            exact ⟨rfl, HB9.out⟩
          · simp at he1
        go_wp2_with fail
        refine (znew_any apex ta tl tc TT w7 HRT7.out HNT.out (by have := HTLL.out; omega) (fun r hr => by have := (HSM.out r ((HMM.out r).1 hr)).1; omega) (fun r hr => by have := (HSM.out r ((HMM.out r).1 hr)).2; omega) HA1.out).mono ?_; rintro e w8 hn2
        obtain ⟨hres, hb7, hb8⟩ := newR_pair HMM.out (by rw [HLN.out]; have := HN3.out; omega) (by have := HTLL.out; omega) HN1.out hn2
        have HB7 := Lib.hid (HB3.out.trans (hb7.mono HB3.out.size))
        have HB8 := Lib.hid (HB7.out.trans (hb8.mono HB7.out.size))
        have HB78 := Lib.hid hb8
        clear hn2 hb7 hb8 HN1 HRT7 HNT HMM HTLL HB3
        rcases hres with ⟨x', hx', he1, rfl⟩ | ⟨z, z2, S, he1, rfl, hok, hz2⟩
        · simp at he1
        obtain rfl : z = z' := by simpa using he1.symm
        clear he1
        have HOK := Lib.hid (hok.below HB78.out)
        have HZ2 := Lib.hid hz2
        obtain ⟨s0, d0, hs0, hd0, hso, hdz⟩ := soa_one hok
        obtain ⟨-, -, -, ⟨sn0, hsn0⟩, -⟩ := whole_parts hok.whole
        have HS0 := Lib.hid hs0
        have HD0 := Lib.hid hd0
        have HDZ := Lib.hid hdz
        have HNS := Lib.hid hsn0
        have HBZ := Lib.hid (Below.refl w8.heap.size w8)
        clear hok hz2 hs0 hd0 hso hdz hsn0 HB78 HB7
        go_wp2_with fail
        refine (zsets_any z apex S w8 HOK.out.is HOK.out.sz).mono ?_; rintro e w9 ⟨v3, L3, rfl, hm3, hos3, hb⟩
        obtain ⟨a3, c3, rfl, hsa3, -⟩ := hos3.at
        rw [hm3] at hsa3
        have hl3 : L3.length = S.length := by rw [← hm3, List.length_map]
        rw [hl3] at hsa3 ⊢
        have HSA3 := Lib.hid hsa3
        have HX9 := Lib.hid hb
        clear hb hos3 hsa3 hm3 hl3 L3 HBZ
        obtain ⟨m, hm⟩ : ∃ x, S.length = x := ⟨_, rfl⟩
        have HM := Lib.hid hm
        have HMN := Lib.hid (show m ≤ 100000 by have h1 := HOK.out.len; have h2 := HOK.out.few; omega)
        rw [hm] at HSA3 ⊢
        clear hm
        go_wp2_with fail
        go_loopw [14] (fun i wr => ∃ (k : Nat), 1 ≤ k ∧ (k ≤ m ∨ k = 1) ∧ i = .int .i64 k ∧ Hid (Below w9.heap.size w9 wr)) (fun i _ => m - (intOf i).toNat)
        case atStart => exact ⟨1, Nat.le_refl _, Or.inr rfl, rfl, Lib.hid (Below.refl _ _)⟩
        case round =>
          obtain ⟨k, hk1, hkm, rfl, hbw⟩ := hrel
          have hmn := HMN.out
          by_cases hlt : k < m
          · rcases (HSA3.out.below hbw.out).2 with h9 | ⟨b, o, rfl, hbl, hc⟩
            · omega
            obtain ⟨k0, hk0⟩ : ∃ k0, k = k0 + 1 := ⟨k - 1, by omega⟩
            obtain ⟨p1, cc1, hs1⟩ := hc k0 (by omega)
            obtain ⟨p2, cc2, hs2⟩ := hc k hlt
            have hr := rise_at (f := fun s t : SetP => kcmp s.k t.k) HOK.out.canon.keys (d := ssD) (k := k0) (by have := HM.out; omega)
            rw [← hk0] at hr
            replace hr : kcmp (S.getD k0 ssD).k (S.getD k ssD).k < 0 := hr
            have hz1 : (S.getD k0 ssD).k.n.size ≤ 1000000 := (HOK.out.sz.2 _ (by
              rw [List.getD_eq_getElem?_getD, List.getElem?_eq_getElem (by have := HM.out; omega)]
              exact List.getElem_mem _)).1
            have hz2 : (S.getD k ssD).k.n.size ≤ 1000000 := (HOK.out.sz.2 _ (by
              rw [List.getD_eq_getElem?_getD, List.getElem?_eq_getElem (by have := HM.out; omega)]
              exact List.getElem_mem _)).1
            obtain ⟨s1, hss1⟩ : ∃ s, S.getD k0 ssD = s := ⟨_, rfl⟩
            obtain ⟨s2, hss2⟩ : ∃ s, S.getD k ssD = s := ⟨_, rfl⟩
            rw [hss1] at hs1 hr hz1
            rw [hss2] at hs2 hr hz2
            obtain ⟨⟨n1, t1, c1⟩, u1, dd1⟩ := s1
            obtain ⟨⟨n2, t2, c2⟩, u2, dd2⟩ := s2
            obtain ⟨x0, x1, x2, -⟩ := hs1
            obtain ⟨y0, y1, y2, -⟩ := hs2
            have X0 := Lib.hid (show wr.cell? ⟨b, o + k0 * 5, none⟩ = some (.string n1) from x0)
            have X1 := Lib.hid (show wr.cell? ⟨b, o + k0 * 5 + 1, none⟩ = some (.int .i64 t1) from x1)
            have X2 := Lib.hid (show wr.cell? ⟨b, o + k0 * 5 + 2, none⟩ = some (.int .i64 c1) from x2)
            have Y0 := Lib.hid (show wr.cell? ⟨b, o + k * 5, none⟩ = some (.string n2) from y0)
            have Y1 := Lib.hid (show wr.cell? ⟨b, o + k * 5 + 1, none⟩ = some (.int .i64 t2) from y1)
            have Y2 := Lib.hid (show wr.cell? ⟨b, o + k * 5 + 2, none⟩ = some (.int .i64 c2) from y2)
            have HKC := Lib.hid (fun wx => kcompare_any ⟨n1, t1, c1⟩ ⟨n2, t2, c2⟩ wx hz1 hz2)
            obtain ⟨v, hv⟩ : ∃ x, kcmp ⟨n1, t1, c1⟩ ⟨n2, t2, c2⟩ = x := ⟨_, rfl⟩
            replace hr : kcmp ⟨n1, t1, c1⟩ ⟨n2, t2, c2⟩ < 0 := hr
            rw [hv] at HKC hr
            have f1 : (k : Int) - 1 = (k0 : Int) := by omega
            have f2 : IntKind.i64.wrap (k0 : Int) = (k0 : Int) := by rw [IntKind.wrap_i64]; omega
            have i0 : (0 : Int) ≤ (k0 : Int) := by omega
            have i1 : (0 : Int) ≤ (k : Int) := by omega
            have i2 : (k : Int) < (m : Int) := by omega
            have i3 : (k0 : Int) < (m : Int) := by omega
            have d5 : decide (0 ≤ v) = false := dF (by omega)
            have HBD := Lib.hid ((Below.refl wr.heap.size wr).drew)
            have HLT := Lib.hid hlt
            clear hc hss1 hss2 hv hr hz1 hz2 x0 x1 x2 y0 y1 y2 hbl hk0 hlt
            go_upto_region 22 with (fail)
            refine wp_region_held_drew (S := (fun wx => Hid (Below wr.heap.size wr wx) ∧ wx.cell? ⟨b, o + k0 * 5, none⟩ = some (.string n1) ∧ wx.cell? ⟨b, o + k0 * 5 + 1, none⟩ = some (.int .i64 t1) ∧ wx.cell? ⟨b, o + k0 * 5 + 2, none⟩ = some (.int .i64 c1) ∧ wx.cell? ⟨b, o + k * 5, none⟩ = some (.string n2) ∧ wx.cell? ⟨b, o + k * 5 + 1, none⟩ = some (.int .i64 t2) ∧ wx.cell? ⟨b, o + k * 5 + 2, none⟩ = some (.int .i64 c2))) (by kernel_rfl) (⟨HBD, cell_later4 HBD.out X0.out, cell_later4 HBD.out X1.out, cell_later4 HBD.out X2.out, cell_later4 HBD.out Y0.out, cell_later4 HBD.out Y1.out, cell_later4 HBD.out Y2.out⟩) (fun hHeld => ?_)
            refine wpAnyH_take (i := 0) (oi := { dst := some 108, op := Go.Op.move (Go.Operand.tmp 13), type := 33, pos := "more.go:36", after := #[], guard := none }) (v := ?v0_1) rfl (by kernel_rfl) (by kernel_rfl) (by kernel_rfl) (fun _ _ _ h => h) (Or.inl ⟨by rfl, ?y0_1⟩) hHeld ?r0_1
            case y0_1 => intro w hSw; (try dsimp only at hSw); go_simp; try with_reducible rfl
            try simp only [Act.put, List.setIfInBounds_toArray, List.set_cons_zero, List.set_cons_succ]
            refine wpAnyH_take (i := 1) (oi := { dst := some 109, op := Go.Op.move (Go.Operand.tmp 14), type := 3, pos := "more.go:36", after := #[], guard := none }) (v := ?v1_1) rfl (by kernel_rfl) (by kernel_rfl) (by kernel_rfl) (fun _ _ _ h => h) (Or.inl ⟨by rfl, ?y1_1⟩) hHeld ?r1_1
            case y1_1 => intro w hSw; (try dsimp only at hSw); go_simp; try with_reducible rfl
            try simp only [Act.put, List.setIfInBounds_toArray, List.set_cons_zero, List.set_cons_succ]
            refine wpAnyH_take (i := 2) (oi := { dst := some 110, op := Go.Op.binOp Go.BinOp.sub 3 (Go.Operand.tmp 109) (Go.Operand.const (Go.Value.int Go.IntKind.i64 1)) 3, type := 3, pos := "more.go:36", after := #[{ on := 1, ground := Go.Ground.data }], guard := none }) (v := ?v2_1) rfl (by kernel_rfl) (by kernel_rfl) (by kernel_rfl) (fun _ _ _ h => h) (Or.inl ⟨by rfl, ?y2_1⟩) hHeld ?r2_1
            case y2_1 => intro w hSw; (try dsimp only at hSw); go_simp; try with_reducible rfl
            try simp only [Act.put, List.setIfInBounds_toArray, List.set_cons_zero, List.set_cons_succ]
            refine wpAnyH_take (i := 3) (oi := { dst := some 111, op := Go.Op.indexAddr 33 (Go.Operand.tmp 108) (Go.Operand.tmp 110), type := 0, pos := "more.go:36", after := #[{ on := 0, ground := Go.Ground.data }, { on := 2, ground := Go.Ground.data }], guard := none }) (v := ?v3_1) rfl (by kernel_rfl) (by kernel_rfl) (by kernel_rfl) (fun _ _ _ h => h) (Or.inl ⟨by rfl, ?y3_1⟩) hHeld ?r3_1
            case y3_1 => intro w hSw; (try dsimp only at hSw); go_simp; try with_reducible rfl
            try simp only [Act.put, List.setIfInBounds_toArray, List.set_cons_zero, List.set_cons_succ]
            refine wpAnyH_take (i := 4) (oi := { dst := some 112, op := Go.Op.fieldAddr 39 (Go.Operand.tmp 111) 0, type := 0, pos := "more.go:36", after := #[{ on := 3, ground := Go.Ground.data }], guard := none }) (v := ?v4_1) rfl (by kernel_rfl) (by kernel_rfl) (by kernel_rfl) (fun _ _ _ h => h) (Or.inl ⟨by rfl, ?y4_1⟩) hHeld ?r4_1
            case y4_1 => intro w hSw; (try dsimp only at hSw); go_simp; try with_reducible rfl
            try simp only [Act.put, List.setIfInBounds_toArray, List.set_cons_zero, List.set_cons_succ]
            refine wpAnyH_take (i := 5) (oi := { dst := some 113, op := Go.Op.load 36 (Go.Operand.tmp 112), type := 36, pos := "more.go:36", after := #[{ on := 4, ground := Go.Ground.data }], guard := none }) (v := ?v5_1) rfl (by kernel_rfl) (by kernel_rfl) (by kernel_rfl) (fun _ _ _ h => h) (Or.inl ⟨by rfl, ?y5_1⟩) hHeld ?r5_1
            case y5_1 => intro w hSw; (try dsimp only at hSw); go_simp; try with_reducible rfl
            try simp only [Act.put, List.setIfInBounds_toArray, List.set_cons_zero, List.set_cons_succ]
            refine wpAnyH_take (i := 6) (oi := { dst := some 114, op := Go.Op.move (Go.Operand.tmp 13), type := 33, pos := "more.go:36", after := #[], guard := none }) (v := ?v6_1) rfl (by kernel_rfl) (by kernel_rfl) (by kernel_rfl) (fun _ _ _ h => h) (Or.inl ⟨by rfl, ?y6_1⟩) hHeld ?r6_1
            case y6_1 => intro w hSw; (try dsimp only at hSw); go_simp; try with_reducible rfl
            try simp only [Act.put, List.setIfInBounds_toArray, List.set_cons_zero, List.set_cons_succ]
            refine wpAnyH_take (i := 7) (oi := { dst := some 115, op := Go.Op.move (Go.Operand.tmp 14), type := 3, pos := "more.go:36", after := #[], guard := none }) (v := ?v7_1) rfl (by kernel_rfl) (by kernel_rfl) (by kernel_rfl) (fun _ _ _ h => h) (Or.inl ⟨by rfl, ?y7_1⟩) hHeld ?r7_1
            case y7_1 => intro w hSw; (try dsimp only at hSw); go_simp; try with_reducible rfl
            try simp only [Act.put, List.setIfInBounds_toArray, List.set_cons_zero, List.set_cons_succ]
            refine wpAnyH_take (i := 8) (oi := { dst := some 116, op := Go.Op.indexAddr 33 (Go.Operand.tmp 114) (Go.Operand.tmp 115), type := 0, pos := "more.go:36", after := #[{ on := 6, ground := Go.Ground.data }, { on := 7, ground := Go.Ground.data }], guard := none }) (v := ?v8_1) rfl (by kernel_rfl) (by kernel_rfl) (by kernel_rfl) (fun _ _ _ h => h) (Or.inl ⟨by rfl, ?y8_1⟩) hHeld ?r8_1
            case y8_1 => intro w hSw; (try dsimp only at hSw); go_simp; try with_reducible rfl
            try simp only [Act.put, List.setIfInBounds_toArray, List.set_cons_zero, List.set_cons_succ]
            refine wpAnyH_take (i := 9) (oi := { dst := some 117, op := Go.Op.fieldAddr 39 (Go.Operand.tmp 116) 0, type := 0, pos := "more.go:36", after := #[{ on := 8, ground := Go.Ground.data }], guard := none }) (v := ?v9_1) rfl (by kernel_rfl) (by kernel_rfl) (by kernel_rfl) (fun _ _ _ h => h) (Or.inl ⟨by rfl, ?y9_1⟩) hHeld ?r9_1
            case y9_1 => intro w hSw; (try dsimp only at hSw); go_simp; try with_reducible rfl
            try simp only [Act.put, List.setIfInBounds_toArray, List.set_cons_zero, List.set_cons_succ]
            refine wpAnyH_take (i := 10) (oi := { dst := some 118, op := Go.Op.load 36 (Go.Operand.tmp 117), type := 36, pos := "more.go:36", after := #[{ on := 9, ground := Go.Ground.data }], guard := none }) (v := ?v10_1) rfl (by kernel_rfl) (by kernel_rfl) (by kernel_rfl) (fun _ _ _ h => h) (Or.inl ⟨by rfl, ?y10_1⟩) hHeld ?r10_1
            case y10_1 => intro w hSw; (try dsimp only at hSw); go_simp; try with_reducible rfl
            try simp only [Act.put, List.setIfInBounds_toArray, List.set_cons_zero, List.set_cons_succ]
            refine wpAnyH_ready (rs := [11]) (by kernel_rfl) (by simp) ?_
            refine AllReadyH.cons (o := { dst := some 119, op := Go.Op.call { callee := Go.Callee.value (Go.Operand.func 32), args := #[Go.Operand.tmp 113, Go.Operand.tmp 118], argTypes := #[36, 36] }, type := 3, pos := "more.go:36", after := #[{ on := 5, ground := Go.Ground.data }, { on := 10, ground := Go.Ground.data }], guard := none }) rfl (fun K hK => ?_) AllReadyH.nil
            go_simp
            refine (HKC.out _).mono ?_; rintro e wy ⟨rfl, hb0⟩; have hb := hb0.b
            go_wp2_with fail
            refine hK.out _ _ (⟨Lib.hid (hHeld.1.out.trans (hb.mono hHeld.1.out.size)), cell_later4 hb hHeld.2.1, cell_later4 hb hHeld.2.2.1, cell_later4 hb hHeld.2.2.2.1, cell_later4 hb hHeld.2.2.2.2.1, cell_later4 hb hHeld.2.2.2.2.2.1, cell_later4 hb hHeld.2.2.2.2.2.2⟩) (fun hHeld2 => ?_)
            clear hK K hHeld
            have hHeld := hHeld2
            clear hHeld2
            try simp only [Act.put, List.setIfInBounds_toArray, List.set_cons_zero, List.set_cons_succ]
            refine wpAnyH_take (i := 12) (oi := { dst := some 120, op := Go.Op.binOp Go.BinOp.geq 3 (Go.Operand.tmp 119) (Go.Operand.const (Go.Value.int Go.IntKind.i64 0)) 3, type := 4, pos := "more.go:36", after := #[{ on := 11, ground := Go.Ground.data }], guard := none }) (v := ?v12_1) rfl (by kernel_rfl) (by kernel_rfl) (by kernel_rfl) (fun _ _ _ h => h) (Or.inl ⟨by rfl, ?y12_1⟩) hHeld ?r12_1
            case y12_1 => intro w hSw; (try dsimp only at hSw); go_simp; try with_reducible rfl
            try simp only [Act.put, List.setIfInBounds_toArray, List.set_cons_zero, List.set_cons_succ]
            refine wpAnyH_done (by kernel_rfl) ?_ _
            have HBE := Lib.hid (hbw.out.trans (hHeld.1.out.mono hbw.out.size))
            clear hHeld hb hb0 f1 f2
            go_wp2
            go_roundw
            case rel => exact ⟨k + 1, by omega, Or.inl HLT.out, by have := HLT.out; go_num, HBE⟩
            case measure => have := HLT.out; simp [intOf]; omega
          · have HXW := Lib.hid (HX9.out.trans (hbw.out.mono HX9.out.size))
            have HSA := Lib.hid (HSA3.out.below hbw.out)
            have hkb : k ≤ 100000 := by omega
            clear hbw HX9 HSA3 hkm hk1
            go_wp2_with fail
            refine (zget_any z apex S apex 2 1 wr (HOK.out.is.below HXW.out) HOK.out.canon.keys HOK.out.sz HA1.out).mono ?_; rintro e wg ⟨hf, hbg⟩
            rcases hf with ⟨s', dv, hfs, rfl, ho2⟩ | ⟨hfn, -⟩
            case inr => rw [HNS.out] at hfn; cases hfn
            obtain rfl : sn0 = s' := by rw [HNS.out] at hfs; exact Option.some.inj hfs
            have hne := HOK.out.canon.non _ (find_mem HNS.out)
            obtain ⟨⟨sn, st, sc1⟩, su, sd⟩ := sn0
            replace ho2 : wg.ownsRow wr.heap.size 9 1 dv sd.length (sc sd) := ho2
            replace hne : sd ≠ [] := hne
            obtain ⟨da, dc, rfl, -⟩ := cells_own ho2
            obtain ⟨dl, hdl⟩ : ∃ x, sd.length = x := ⟨_, rfl⟩
            have d6 : decide (0 < dl) = true := dT (by rw [← hdl]; exact List.length_pos_iff.2 hne)
            have d7 : decide ((0 : Int) < (dl : Int)) = true := dT (by have := of_decide_eq_true d6; omega)
            have HD6 := Lib.hid d6
            have HD7 := Lib.hid d7
            have hba := (Below.refl wg.heap.size wg).alloc (Nat.le_refl _) (.cells #[.string sn, .int .i64 st, .int .i64 sc1, .int .i64 su, .slice da dl dc] 39)
            have HXG := Lib.hid (HXW.out.trans ((hbg.trans (hba.mono hbg.size)).mono HXW.out.size))
            have HSAG := Lib.hid (HSA.out.below (hbg.trans (hba.mono hbg.size)))
            have HC7 := Lib.hid (c5_new wg (.string sn) (.int .i64 st) (.int .i64 sc1) (.int .i64 su) (.slice da dl dc) 39)
            dsimp only
            rw [hdl]
            clear hfs ho2 hba hbg hdl hne d6 d7 HXW HSA hlt
            go_upto_region 25 with (fail)
            obtain ⟨wa, hwa⟩ : ∃ x, wg.alloc (.cells #[.string sn, .int .i64 st, .int .i64 sc1, .int .i64 su, .slice da dl dc] 39) = x := ⟨_, rfl⟩
            rw [hwa] at HXG HSAG HC7 ⊢
            clear hwa
            obtain ⟨q, hq⟩ : ∃ x, wg.heap.size = x := ⟨_, rfl⟩
            rw [hq] at HC7 ⊢
            clear hq
            go_wp2_with fail
            refine (zcut_any z apex apex S wa (HOK.out.is.below HXG.out) HOK.out.canon.keys HOK.out.sz HOK.out.canon.non HA1.out HA1.out).mono ?_; rintro e wb ⟨⟨X, xa, xc, hX, rfl, -⟩, hb⟩
            rw [cut_apex] at hX
            obtain rfl : sZ = X := hX
            have hba := (Below.refl wb.heap.size wb).alloc (Nat.le_refl _) (.cells #[.string ⟨#[]⟩, .int .i64 0, .int .i64 0, .int .i64 0, .slice xa 0 xc] 39)
            have HXH := Lib.hid (HXG.out.trans ((hb.trans (hba.mono hb.size)).mono HXG.out.size))
            have HSAH := Lib.hid (HSAG.out.below (hb.trans (hba.mono hb.size)))
            have HC8 := Lib.hid (HC7.out.below (hb.trans (hba.mono hb.size)))
            rw [cut_apex]
            clear hb hba HXG HSAG HC7
            dsimp only [sZ]
            go_upto_region 26 with (fail)
            obtain ⟨wc, hwc⟩ : ∃ x, wb.alloc (.cells #[.string ⟨#[]⟩, .int .i64 0, .int .i64 0, .int .i64 0, .slice xa 0 xc] 39) = x := ⟨_, rfl⟩
            rw [hwc] at HXH HSAH HC8 ⊢
            clear hwc
            obtain ⟨M, R, x1, x2, x3, x4, x5, bb, hgs⟩ := getSoaV_ex d0
            have HGS := Lib.hid hgs
            have HTH := Lib.hid (fun wx (hx : Below w8.heap.size w8 wx) => zthere_any z apex S apex wx (HOK.out.is.below hx) HOK.out.sz HA1.out HA1.out)
            rw [there_apex HOK.out.name HOK.out.whole] at HTH
            have hse := soa_equal M R x1 x2 x3 x4 x5
            clear hgs
            go_wp2_with fail
            refine (first10 _).mono ?_; rintro e wd ⟨rfl, hb⟩
            have HX1 := Lib.hid (HXH.out.trans (hb.mono HXH.out.size))
            have HS1 := Lib.hid (HSAH.out.below hb)
            have HC1 := Lib.hid (HC8.out.below hb)
            clear hb HXH HSAH HC8
            go_wp2_with fail
            refine (plains_any a3 m c3 S wd HS1.out HMN.out).mono ?_; rintro e we ⟨⟨a4, c4, rfl, hsa4⟩, hb⟩
            have HX2 := Lib.hid (HX1.out.trans (hb.mono HX1.out.size))
            have HS2 := Lib.hid hsa4
            have HC2 := Lib.hid (HC1.out.below hb)
            clear hb hsa4 HX1 HS1 HC1
            go_wp2_with fail
            refine (zsets_any z2 apex S we (HZ2.out.below HX2.out) HOK.out.sz).mono ?_; rintro e wf ⟨v5, L5, rfl, hm5, hos5, hb⟩
            obtain ⟨a5, c5, rfl, hsa5, -⟩ := hos5.at
            rw [hm5] at hsa5
            have hl5 : L5.length = m := by rw [← HM.out, ← hm5, List.length_map]
            rw [hl5] at hsa5 ⊢
            have HX3 := Lib.hid (HX2.out.trans (hb.mono HX2.out.size))
            have HS3 := Lib.hid (HS2.out.below hb)
            have HT3 := Lib.hid hsa5
            have HC3 := Lib.hid (HC2.out.below hb)
            clear hb hsa5 hm5 hos5 hl5 HX2 HS2 HC2 L5
            go_wp2_with fail
            refine (plains_any a5 m c5 S wf HT3.out HMN.out).mono ?_; rintro e wg2 ⟨⟨a6, c6, rfl, hsa6⟩, hb⟩
            have HX4 := Lib.hid (HX3.out.trans (hb.mono HX3.out.size))
            have HS4 := Lib.hid (HS3.out.below hb)
            have HT4 := Lib.hid hsa6
            have HC4 := Lib.hid (HC3.out.below hb)
            clear hb hsa6 HX3 HS3 HT3 HC3
            go_wp2_with fail
            refine (sameSets_any a4 a6 m m c4 c6 S S wg2 HS4.out HT4.out HMN.out HMN.out (fun s hs => by have := (HOK.out.sz.2 s hs).2; omega)).mono ?_; rintro e wh ⟨⟨x, rfl, hx⟩, hb⟩
            obtain rfl : x = true := hx.2 rfl
            have HX5 := Lib.hid (HX4.out.trans (hb.mono HX4.out.size))
            have HC5 := Lib.hid (HC4.out.below hb)
            clear hb hx HX4 HS4 HT4 HC4
            go_wp2_with fail
            refine (HTH.out wh HX5.out).mono ?_; rintro e wi ⟨rfl, hb⟩
            have HX6 := Lib.hid (HX5.out.trans (hb.mono HX5.out.size))
            have HC6 := Lib.hid (HC5.out.below hb)
            clear hb HX5 HC5
            obtain ⟨-, q0, q1, q2, q3, q4, -⟩ := HC6.out
            have d6 := HD6.out
            have d7 := HD7.out
            go_wp2_with fail
            refine (zsoa_any z apex S s0 d0 [] M R x1 x2 x3 x4 x5 bb wi (HOK.out.is.below HX6.out) HOK.out.canon.keys HOK.out.sz HA1.out HS0.out HD0.out HDZ.out HGS.out).mono ?_; rintro e wj ⟨rfl, hb⟩
            have HX7 := Lib.hid (HX6.out.trans (hb.mono HX6.out.size))
            clear hb HX6 HC6 q0 q1 q2 q3 q4 d6 d7
            go_wp2_with fail
            refine (zsoa_any z2 apex S s0 d0 [] M R x1 x2 x3 x4 x5 bb wj (HZ2.out.below HX7.out) HOK.out.canon.keys HOK.out.sz HA1.out HS0.out HD0.out HDZ.out HGS.out).mono ?_; rintro e wk ⟨rfl, hb⟩
            have HX8 := Lib.hid (HX7.out.trans (hb.mono HX7.out.size))
            clear hb HX7
            go_wp2
            go_ret
            exact ⟨rfl, HB8.out.trans (HX8.out.mono HB8.out.size)⟩
      · have d1 : decide (0 < n) = false := dF hz
        have d2 : decide ((0 : Int) < (n : Int)) = false := dF (by omega)
        obtain ⟨ta, tc, rfl, hrt, hnt⟩ := rowR_own ho.out
        have HRT := Lib.hid hrt
        have HNT := Lib.hid hnt
        have HB3 := Lib.hid (HB2.out.trans (hbw.out.mono HB2.out.size))
        have HMM := HTM
        obtain ⟨tl, htl⟩ : ∃ x, n = x := ⟨_, rfl⟩
        have HTLL := Lib.hid (show T.length = tl ∧ tl ≤ 300 by rw [HTL.out]; omega)
        obtain ⟨TT, hTT⟩ : ∃ x, T = x := ⟨_, rfl⟩
        rw [hTT] at HRT HMM HTLL
        obtain ⟨w6, hw6⟩ : ∃ x, wr = x := ⟨_, rfl⟩
        rw [hw6] at HRT HB3 ⊢
        rw [show RowR w6 ta n TT = RowR w6 ta tl TT by rw [htl]] at HRT
        replace HNT : Hid (ta = none → tl = 0 ∧ tc = 0) := by rw [← htl]; exact HNT
        have HNL := Lib.hid htl
        clear hrt hnt ho hbw hTT htl hw6 hz
        rw [show (Value.slice ta n tc) = Value.slice ta tl tc by rw [HNL.out]]
        go_upto_region 12 with (fail)
        go_wp2_with fail
        refine (znew_any apex _ n c l w6 (HR.out.below HB3.out) HN.out (by have := HN3.out; omega) (fun r hr => by have := (HSM.out r hr).1; omega) (fun r hr => by have := (HSM.out r hr).2; omega) HA1.out).mono ?_; rintro e w7 hn1
        obtain ⟨hres1, -⟩ := hn1.two
        have HRT7 := Lib.hid (HRT.out.below hn1.2)
        have HN1 := Lib.hid hn1
        clear hn1 HRT
        rcases hres1 with ⟨x, hx, rfl⟩ | ⟨z', S', rfl, -, -⟩
        · go_wp2_with fail
          refine (znew_any apex ta tl tc TT w7 HRT7.out HNT.out (by have := HTLL.out; omega) (fun r hr => by have := (HSM.out r ((HMM.out r).1 hr)).1; omega) (fun r hr => by have := (HSM.out r ((HMM.out r).1 hr)).2; omega) HA1.out).mono ?_; rintro e w8 hn2
          obtain ⟨hres, hb7, hb8⟩ := newR_pair HMM.out (by rw [HLN.out]; have := HN3.out; omega) (by have := HTLL.out; omega) HN1.out hn2
          have HB7 := Lib.hid (HB3.out.trans (hb7.mono HB3.out.size))
          have HB8 := Lib.hid (HB7.out.trans (hb8.mono HB7.out.size))
          have HB78 := Lib.hid hb8
          clear hn2 hb7 hb8 HN1 HRT7 HNT HMM HTLL HB3
          rcases hres with ⟨x', -, he1, rfl⟩ | ⟨z, z2, S, he1, -, -, -⟩
          · obtain rfl : x = x' := by simpa using he1
            have e1 : (x == 0) = false := eF hx
            clear he1
            go_wp2_with fail
            refine (first10 _).mono ?_; rintro e w9 ⟨rfl, hb⟩
            have HB9 := Lib.hid (HB8.out.trans (hb.mono HB8.out.size))
            clear hb
            go_wp2
            go_ret
            exact ⟨rfl, HB9.out⟩
          · simp at he1
        go_wp2_with fail
        refine (znew_any apex ta tl tc TT w7 HRT7.out HNT.out (by have := HTLL.out; omega) (fun r hr => by have := (HSM.out r ((HMM.out r).1 hr)).1; omega) (fun r hr => by have := (HSM.out r ((HMM.out r).1 hr)).2; omega) HA1.out).mono ?_; rintro e w8 hn2
        obtain ⟨hres, hb7, hb8⟩ := newR_pair HMM.out (by rw [HLN.out]; have := HN3.out; omega) (by have := HTLL.out; omega) HN1.out hn2
        have HB7 := Lib.hid (HB3.out.trans (hb7.mono HB3.out.size))
        have HB8 := Lib.hid (HB7.out.trans (hb8.mono HB7.out.size))
        have HB78 := Lib.hid hb8
        clear hn2 hb7 hb8 HN1 HRT7 HNT HMM HTLL HB3
        rcases hres with ⟨x', hx', he1, rfl⟩ | ⟨z, z2, S, he1, rfl, hok, hz2⟩
        · simp at he1
        obtain rfl : z = z' := by simpa using he1.symm
        clear he1
        have HOK := Lib.hid (hok.below HB78.out)
        have HZ2 := Lib.hid hz2
        obtain ⟨s0, d0, hs0, hd0, hso, hdz⟩ := soa_one hok
        obtain ⟨-, -, -, ⟨sn0, hsn0⟩, -⟩ := whole_parts hok.whole
        have HS0 := Lib.hid hs0
        have HD0 := Lib.hid hd0
        have HDZ := Lib.hid hdz
        have HNS := Lib.hid hsn0
        have HBZ := Lib.hid (Below.refl w8.heap.size w8)
        clear hok hz2 hs0 hd0 hso hdz hsn0 HB78 HB7
        go_wp2_with fail
        refine (zsets_any z apex S w8 HOK.out.is HOK.out.sz).mono ?_; rintro e w9 ⟨v3, L3, rfl, hm3, hos3, hb⟩
        obtain ⟨a3, c3, rfl, hsa3, -⟩ := hos3.at
        rw [hm3] at hsa3
        have hl3 : L3.length = S.length := by rw [← hm3, List.length_map]
        rw [hl3] at hsa3 ⊢
        have HSA3 := Lib.hid hsa3
        have HX9 := Lib.hid hb
        clear hb hos3 hsa3 hm3 hl3 L3 HBZ
        obtain ⟨m, hm⟩ : ∃ x, S.length = x := ⟨_, rfl⟩
        have HM := Lib.hid hm
        have HMN := Lib.hid (show m ≤ 100000 by have h1 := HOK.out.len; have h2 := HOK.out.few; omega)
        rw [hm] at HSA3 ⊢
        clear hm
        go_wp2_with fail
        go_loopw [14] (fun i wr => ∃ (k : Nat), 1 ≤ k ∧ (k ≤ m ∨ k = 1) ∧ i = .int .i64 k ∧ Hid (Below w9.heap.size w9 wr)) (fun i _ => m - (intOf i).toNat)
        case atStart => exact ⟨1, Nat.le_refl _, Or.inr rfl, rfl, Lib.hid (Below.refl _ _)⟩
        case round =>
          obtain ⟨k, hk1, hkm, rfl, hbw⟩ := hrel
          have hmn := HMN.out
          by_cases hlt : k < m
          · rcases (HSA3.out.below hbw.out).2 with h9 | ⟨b, o, rfl, hbl, hc⟩
            · omega
            obtain ⟨k0, hk0⟩ : ∃ k0, k = k0 + 1 := ⟨k - 1, by omega⟩
            obtain ⟨p1, cc1, hs1⟩ := hc k0 (by omega)
            obtain ⟨p2, cc2, hs2⟩ := hc k hlt
            have hr := rise_at (f := fun s t : SetP => kcmp s.k t.k) HOK.out.canon.keys (d := ssD) (k := k0) (by have := HM.out; omega)
            rw [← hk0] at hr
            replace hr : kcmp (S.getD k0 ssD).k (S.getD k ssD).k < 0 := hr
            have hz1 : (S.getD k0 ssD).k.n.size ≤ 1000000 := (HOK.out.sz.2 _ (by
              rw [List.getD_eq_getElem?_getD, List.getElem?_eq_getElem (by have := HM.out; omega)]
              exact List.getElem_mem _)).1
            have hz2 : (S.getD k ssD).k.n.size ≤ 1000000 := (HOK.out.sz.2 _ (by
              rw [List.getD_eq_getElem?_getD, List.getElem?_eq_getElem (by have := HM.out; omega)]
              exact List.getElem_mem _)).1
            obtain ⟨s1, hss1⟩ : ∃ s, S.getD k0 ssD = s := ⟨_, rfl⟩
            obtain ⟨s2, hss2⟩ : ∃ s, S.getD k ssD = s := ⟨_, rfl⟩
            rw [hss1] at hs1 hr hz1
            rw [hss2] at hs2 hr hz2
            obtain ⟨⟨n1, t1, c1⟩, u1, dd1⟩ := s1
            obtain ⟨⟨n2, t2, c2⟩, u2, dd2⟩ := s2
            obtain ⟨x0, x1, x2, -⟩ := hs1
            obtain ⟨y0, y1, y2, -⟩ := hs2
            have X0 := Lib.hid (show wr.cell? ⟨b, o + k0 * 5, none⟩ = some (.string n1) from x0)
            have X1 := Lib.hid (show wr.cell? ⟨b, o + k0 * 5 + 1, none⟩ = some (.int .i64 t1) from x1)
            have X2 := Lib.hid (show wr.cell? ⟨b, o + k0 * 5 + 2, none⟩ = some (.int .i64 c1) from x2)
            have Y0 := Lib.hid (show wr.cell? ⟨b, o + k * 5, none⟩ = some (.string n2) from y0)
            have Y1 := Lib.hid (show wr.cell? ⟨b, o + k * 5 + 1, none⟩ = some (.int .i64 t2) from y1)
            have Y2 := Lib.hid (show wr.cell? ⟨b, o + k * 5 + 2, none⟩ = some (.int .i64 c2) from y2)
            have HKC := Lib.hid (fun wx => kcompare_any ⟨n1, t1, c1⟩ ⟨n2, t2, c2⟩ wx hz1 hz2)
            obtain ⟨v, hv⟩ : ∃ x, kcmp ⟨n1, t1, c1⟩ ⟨n2, t2, c2⟩ = x := ⟨_, rfl⟩
            replace hr : kcmp ⟨n1, t1, c1⟩ ⟨n2, t2, c2⟩ < 0 := hr
            rw [hv] at HKC hr
            have f1 : (k : Int) - 1 = (k0 : Int) := by omega
            have f2 : IntKind.i64.wrap (k0 : Int) = (k0 : Int) := by rw [IntKind.wrap_i64]; omega
            have i0 : (0 : Int) ≤ (k0 : Int) := by omega
            have i1 : (0 : Int) ≤ (k : Int) := by omega
            have i2 : (k : Int) < (m : Int) := by omega
            have i3 : (k0 : Int) < (m : Int) := by omega
            have d5 : decide (0 ≤ v) = false := dF (by omega)
            have HBD := Lib.hid ((Below.refl wr.heap.size wr).drew)
            have HLT := Lib.hid hlt
            clear hc hss1 hss2 hv hr hz1 hz2 x0 x1 x2 y0 y1 y2 hbl hk0 hlt
            go_upto_region 22 with (fail)
            refine wp_region_held_drew (S := (fun wx => Hid (Below wr.heap.size wr wx) ∧ wx.cell? ⟨b, o + k0 * 5, none⟩ = some (.string n1) ∧ wx.cell? ⟨b, o + k0 * 5 + 1, none⟩ = some (.int .i64 t1) ∧ wx.cell? ⟨b, o + k0 * 5 + 2, none⟩ = some (.int .i64 c1) ∧ wx.cell? ⟨b, o + k * 5, none⟩ = some (.string n2) ∧ wx.cell? ⟨b, o + k * 5 + 1, none⟩ = some (.int .i64 t2) ∧ wx.cell? ⟨b, o + k * 5 + 2, none⟩ = some (.int .i64 c2))) (by kernel_rfl) (⟨HBD, cell_later4 HBD.out X0.out, cell_later4 HBD.out X1.out, cell_later4 HBD.out X2.out, cell_later4 HBD.out Y0.out, cell_later4 HBD.out Y1.out, cell_later4 HBD.out Y2.out⟩) (fun hHeld => ?_)
            refine wpAnyH_take (i := 0) (oi := { dst := some 108, op := Go.Op.move (Go.Operand.tmp 13), type := 33, pos := "more.go:36", after := #[], guard := none }) (v := ?v0_2) rfl (by kernel_rfl) (by kernel_rfl) (by kernel_rfl) (fun _ _ _ h => h) (Or.inl ⟨by rfl, ?y0_2⟩) hHeld ?r0_2
            case y0_2 => intro w hSw; (try dsimp only at hSw); go_simp; try with_reducible rfl
            try simp only [Act.put, List.setIfInBounds_toArray, List.set_cons_zero, List.set_cons_succ]
            refine wpAnyH_take (i := 1) (oi := { dst := some 109, op := Go.Op.move (Go.Operand.tmp 14), type := 3, pos := "more.go:36", after := #[], guard := none }) (v := ?v1_2) rfl (by kernel_rfl) (by kernel_rfl) (by kernel_rfl) (fun _ _ _ h => h) (Or.inl ⟨by rfl, ?y1_2⟩) hHeld ?r1_2
            case y1_2 => intro w hSw; (try dsimp only at hSw); go_simp; try with_reducible rfl
            try simp only [Act.put, List.setIfInBounds_toArray, List.set_cons_zero, List.set_cons_succ]
            refine wpAnyH_take (i := 2) (oi := { dst := some 110, op := Go.Op.binOp Go.BinOp.sub 3 (Go.Operand.tmp 109) (Go.Operand.const (Go.Value.int Go.IntKind.i64 1)) 3, type := 3, pos := "more.go:36", after := #[{ on := 1, ground := Go.Ground.data }], guard := none }) (v := ?v2_2) rfl (by kernel_rfl) (by kernel_rfl) (by kernel_rfl) (fun _ _ _ h => h) (Or.inl ⟨by rfl, ?y2_2⟩) hHeld ?r2_2
            case y2_2 => intro w hSw; (try dsimp only at hSw); go_simp; try with_reducible rfl
            try simp only [Act.put, List.setIfInBounds_toArray, List.set_cons_zero, List.set_cons_succ]
            refine wpAnyH_take (i := 3) (oi := { dst := some 111, op := Go.Op.indexAddr 33 (Go.Operand.tmp 108) (Go.Operand.tmp 110), type := 0, pos := "more.go:36", after := #[{ on := 0, ground := Go.Ground.data }, { on := 2, ground := Go.Ground.data }], guard := none }) (v := ?v3_2) rfl (by kernel_rfl) (by kernel_rfl) (by kernel_rfl) (fun _ _ _ h => h) (Or.inl ⟨by rfl, ?y3_2⟩) hHeld ?r3_2
            case y3_2 => intro w hSw; (try dsimp only at hSw); go_simp; try with_reducible rfl
            try simp only [Act.put, List.setIfInBounds_toArray, List.set_cons_zero, List.set_cons_succ]
            refine wpAnyH_take (i := 4) (oi := { dst := some 112, op := Go.Op.fieldAddr 39 (Go.Operand.tmp 111) 0, type := 0, pos := "more.go:36", after := #[{ on := 3, ground := Go.Ground.data }], guard := none }) (v := ?v4_2) rfl (by kernel_rfl) (by kernel_rfl) (by kernel_rfl) (fun _ _ _ h => h) (Or.inl ⟨by rfl, ?y4_2⟩) hHeld ?r4_2
            case y4_2 => intro w hSw; (try dsimp only at hSw); go_simp; try with_reducible rfl
            try simp only [Act.put, List.setIfInBounds_toArray, List.set_cons_zero, List.set_cons_succ]
            refine wpAnyH_take (i := 5) (oi := { dst := some 113, op := Go.Op.load 36 (Go.Operand.tmp 112), type := 36, pos := "more.go:36", after := #[{ on := 4, ground := Go.Ground.data }], guard := none }) (v := ?v5_2) rfl (by kernel_rfl) (by kernel_rfl) (by kernel_rfl) (fun _ _ _ h => h) (Or.inl ⟨by rfl, ?y5_2⟩) hHeld ?r5_2
            case y5_2 => intro w hSw; (try dsimp only at hSw); go_simp; try with_reducible rfl
            try simp only [Act.put, List.setIfInBounds_toArray, List.set_cons_zero, List.set_cons_succ]
            refine wpAnyH_take (i := 6) (oi := { dst := some 114, op := Go.Op.move (Go.Operand.tmp 13), type := 33, pos := "more.go:36", after := #[], guard := none }) (v := ?v6_2) rfl (by kernel_rfl) (by kernel_rfl) (by kernel_rfl) (fun _ _ _ h => h) (Or.inl ⟨by rfl, ?y6_2⟩) hHeld ?r6_2
            case y6_2 => intro w hSw; (try dsimp only at hSw); go_simp; try with_reducible rfl
            try simp only [Act.put, List.setIfInBounds_toArray, List.set_cons_zero, List.set_cons_succ]
            refine wpAnyH_take (i := 7) (oi := { dst := some 115, op := Go.Op.move (Go.Operand.tmp 14), type := 3, pos := "more.go:36", after := #[], guard := none }) (v := ?v7_2) rfl (by kernel_rfl) (by kernel_rfl) (by kernel_rfl) (fun _ _ _ h => h) (Or.inl ⟨by rfl, ?y7_2⟩) hHeld ?r7_2
            case y7_2 => intro w hSw; (try dsimp only at hSw); go_simp; try with_reducible rfl
            try simp only [Act.put, List.setIfInBounds_toArray, List.set_cons_zero, List.set_cons_succ]
            refine wpAnyH_take (i := 8) (oi := { dst := some 116, op := Go.Op.indexAddr 33 (Go.Operand.tmp 114) (Go.Operand.tmp 115), type := 0, pos := "more.go:36", after := #[{ on := 6, ground := Go.Ground.data }, { on := 7, ground := Go.Ground.data }], guard := none }) (v := ?v8_2) rfl (by kernel_rfl) (by kernel_rfl) (by kernel_rfl) (fun _ _ _ h => h) (Or.inl ⟨by rfl, ?y8_2⟩) hHeld ?r8_2
            case y8_2 => intro w hSw; (try dsimp only at hSw); go_simp; try with_reducible rfl
            try simp only [Act.put, List.setIfInBounds_toArray, List.set_cons_zero, List.set_cons_succ]
            refine wpAnyH_take (i := 9) (oi := { dst := some 117, op := Go.Op.fieldAddr 39 (Go.Operand.tmp 116) 0, type := 0, pos := "more.go:36", after := #[{ on := 8, ground := Go.Ground.data }], guard := none }) (v := ?v9_2) rfl (by kernel_rfl) (by kernel_rfl) (by kernel_rfl) (fun _ _ _ h => h) (Or.inl ⟨by rfl, ?y9_2⟩) hHeld ?r9_2
            case y9_2 => intro w hSw; (try dsimp only at hSw); go_simp; try with_reducible rfl
            try simp only [Act.put, List.setIfInBounds_toArray, List.set_cons_zero, List.set_cons_succ]
            refine wpAnyH_take (i := 10) (oi := { dst := some 118, op := Go.Op.load 36 (Go.Operand.tmp 117), type := 36, pos := "more.go:36", after := #[{ on := 9, ground := Go.Ground.data }], guard := none }) (v := ?v10_2) rfl (by kernel_rfl) (by kernel_rfl) (by kernel_rfl) (fun _ _ _ h => h) (Or.inl ⟨by rfl, ?y10_2⟩) hHeld ?r10_2
            case y10_2 => intro w hSw; (try dsimp only at hSw); go_simp; try with_reducible rfl
            try simp only [Act.put, List.setIfInBounds_toArray, List.set_cons_zero, List.set_cons_succ]
            refine wpAnyH_ready (rs := [11]) (by kernel_rfl) (by simp) ?_
            refine AllReadyH.cons (o := { dst := some 119, op := Go.Op.call { callee := Go.Callee.value (Go.Operand.func 32), args := #[Go.Operand.tmp 113, Go.Operand.tmp 118], argTypes := #[36, 36] }, type := 3, pos := "more.go:36", after := #[{ on := 5, ground := Go.Ground.data }, { on := 10, ground := Go.Ground.data }], guard := none }) rfl (fun K hK => ?_) AllReadyH.nil
            go_simp
            refine (HKC.out _).mono ?_; rintro e wy ⟨rfl, hb0⟩; have hb := hb0.b
            go_wp2_with fail
            refine hK.out _ _ (⟨Lib.hid (hHeld.1.out.trans (hb.mono hHeld.1.out.size)), cell_later4 hb hHeld.2.1, cell_later4 hb hHeld.2.2.1, cell_later4 hb hHeld.2.2.2.1, cell_later4 hb hHeld.2.2.2.2.1, cell_later4 hb hHeld.2.2.2.2.2.1, cell_later4 hb hHeld.2.2.2.2.2.2⟩) (fun hHeld2 => ?_)
            clear hK K hHeld
            have hHeld := hHeld2
            clear hHeld2
            try simp only [Act.put, List.setIfInBounds_toArray, List.set_cons_zero, List.set_cons_succ]
            refine wpAnyH_take (i := 12) (oi := { dst := some 120, op := Go.Op.binOp Go.BinOp.geq 3 (Go.Operand.tmp 119) (Go.Operand.const (Go.Value.int Go.IntKind.i64 0)) 3, type := 4, pos := "more.go:36", after := #[{ on := 11, ground := Go.Ground.data }], guard := none }) (v := ?v12_2) rfl (by kernel_rfl) (by kernel_rfl) (by kernel_rfl) (fun _ _ _ h => h) (Or.inl ⟨by rfl, ?y12_2⟩) hHeld ?r12_2
            case y12_2 => intro w hSw; (try dsimp only at hSw); go_simp; try with_reducible rfl
            try simp only [Act.put, List.setIfInBounds_toArray, List.set_cons_zero, List.set_cons_succ]
            refine wpAnyH_done (by kernel_rfl) ?_ _
            have HBE := Lib.hid (hbw.out.trans (hHeld.1.out.mono hbw.out.size))
            clear hHeld hb hb0 f1 f2
            go_wp2
            go_roundw
            case rel => exact ⟨k + 1, by omega, Or.inl HLT.out, by have := HLT.out; go_num, HBE⟩
            case measure => have := HLT.out; simp [intOf]; omega
          · have HXW := Lib.hid (HX9.out.trans (hbw.out.mono HX9.out.size))
            have HSA := Lib.hid (HSA3.out.below hbw.out)
            have hkb : k ≤ 100000 := by omega
            clear hbw HX9 HSA3 hkm hk1
            go_wp2_with fail
            refine (zget_any z apex S apex 2 1 wr (HOK.out.is.below HXW.out) HOK.out.canon.keys HOK.out.sz HA1.out).mono ?_; rintro e wg ⟨hf, hbg⟩
            rcases hf with ⟨s', dv, hfs, rfl, ho2⟩ | ⟨hfn, -⟩
            case inr => rw [HNS.out] at hfn; cases hfn
            obtain rfl : sn0 = s' := by rw [HNS.out] at hfs; exact Option.some.inj hfs
            have hne := HOK.out.canon.non _ (find_mem HNS.out)
            obtain ⟨⟨sn, st, sc1⟩, su, sd⟩ := sn0
            replace ho2 : wg.ownsRow wr.heap.size 9 1 dv sd.length (sc sd) := ho2
            replace hne : sd ≠ [] := hne
            obtain ⟨da, dc, rfl, -⟩ := cells_own ho2
            obtain ⟨dl, hdl⟩ : ∃ x, sd.length = x := ⟨_, rfl⟩
            have d6 : decide (0 < dl) = true := dT (by rw [← hdl]; exact List.length_pos_iff.2 hne)
            have d7 : decide ((0 : Int) < (dl : Int)) = true := dT (by have := of_decide_eq_true d6; omega)
            have HD6 := Lib.hid d6
            have HD7 := Lib.hid d7
            have hba := (Below.refl wg.heap.size wg).alloc (Nat.le_refl _) (.cells #[.string sn, .int .i64 st, .int .i64 sc1, .int .i64 su, .slice da dl dc] 39)
            have HXG := Lib.hid (HXW.out.trans ((hbg.trans (hba.mono hbg.size)).mono HXW.out.size))
            have HSAG := Lib.hid (HSA.out.below (hbg.trans (hba.mono hbg.size)))
            have HC7 := Lib.hid (c5_new wg (.string sn) (.int .i64 st) (.int .i64 sc1) (.int .i64 su) (.slice da dl dc) 39)
            dsimp only
            rw [hdl]
            clear hfs ho2 hba hbg hdl hne d6 d7 HXW HSA hlt
            go_upto_region 25 with (fail)
            obtain ⟨wa, hwa⟩ : ∃ x, wg.alloc (.cells #[.string sn, .int .i64 st, .int .i64 sc1, .int .i64 su, .slice da dl dc] 39) = x := ⟨_, rfl⟩
            rw [hwa] at HXG HSAG HC7 ⊢
            clear hwa
            obtain ⟨q, hq⟩ : ∃ x, wg.heap.size = x := ⟨_, rfl⟩
            rw [hq] at HC7 ⊢
            clear hq
            go_wp2_with fail
            refine (zcut_any z apex apex S wa (HOK.out.is.below HXG.out) HOK.out.canon.keys HOK.out.sz HOK.out.canon.non HA1.out HA1.out).mono ?_; rintro e wb ⟨⟨X, xa, xc, hX, rfl, -⟩, hb⟩
            rw [cut_apex] at hX
            obtain rfl : sZ = X := hX
            have hba := (Below.refl wb.heap.size wb).alloc (Nat.le_refl _) (.cells #[.string ⟨#[]⟩, .int .i64 0, .int .i64 0, .int .i64 0, .slice xa 0 xc] 39)
            have HXH := Lib.hid (HXG.out.trans ((hb.trans (hba.mono hb.size)).mono HXG.out.size))
            have HSAH := Lib.hid (HSAG.out.below (hb.trans (hba.mono hb.size)))
            have HC8 := Lib.hid (HC7.out.below (hb.trans (hba.mono hb.size)))
            rw [cut_apex]
            clear hb hba HXG HSAG HC7
            dsimp only [sZ]
            go_upto_region 26 with (fail)
            obtain ⟨wc, hwc⟩ : ∃ x, wb.alloc (.cells #[.string ⟨#[]⟩, .int .i64 0, .int .i64 0, .int .i64 0, .slice xa 0 xc] 39) = x := ⟨_, rfl⟩
            rw [hwc] at HXH HSAH HC8 ⊢
            clear hwc
            obtain ⟨M, R, x1, x2, x3, x4, x5, bb, hgs⟩ := getSoaV_ex d0
            have HGS := Lib.hid hgs
            have HTH := Lib.hid (fun wx (hx : Below w8.heap.size w8 wx) => zthere_any z apex S apex wx (HOK.out.is.below hx) HOK.out.sz HA1.out HA1.out)
            rw [there_apex HOK.out.name HOK.out.whole] at HTH
            have hse := soa_equal M R x1 x2 x3 x4 x5
            clear hgs
            go_wp2_with fail
            refine (first10 _).mono ?_; rintro e wd ⟨rfl, hb⟩
            have HX1 := Lib.hid (HXH.out.trans (hb.mono HXH.out.size))
            have HS1 := Lib.hid (HSAH.out.below hb)
            have HC1 := Lib.hid (HC8.out.below hb)
            clear hb HXH HSAH HC8
            go_wp2_with fail
            refine (plains_any a3 m c3 S wd HS1.out HMN.out).mono ?_; rintro e we ⟨⟨a4, c4, rfl, hsa4⟩, hb⟩
            have HX2 := Lib.hid (HX1.out.trans (hb.mono HX1.out.size))
            have HS2 := Lib.hid hsa4
            have HC2 := Lib.hid (HC1.out.below hb)
            clear hb hsa4 HX1 HS1 HC1
            go_wp2_with fail
            refine (zsets_any z2 apex S we (HZ2.out.below HX2.out) HOK.out.sz).mono ?_; rintro e wf ⟨v5, L5, rfl, hm5, hos5, hb⟩
            obtain ⟨a5, c5, rfl, hsa5, -⟩ := hos5.at
            rw [hm5] at hsa5
            have hl5 : L5.length = m := by rw [← HM.out, ← hm5, List.length_map]
            rw [hl5] at hsa5 ⊢
            have HX3 := Lib.hid (HX2.out.trans (hb.mono HX2.out.size))
            have HS3 := Lib.hid (HS2.out.below hb)
            have HT3 := Lib.hid hsa5
            have HC3 := Lib.hid (HC2.out.below hb)
            clear hb hsa5 hm5 hos5 hl5 HX2 HS2 HC2 L5
            go_wp2_with fail
            refine (plains_any a5 m c5 S wf HT3.out HMN.out).mono ?_; rintro e wg2 ⟨⟨a6, c6, rfl, hsa6⟩, hb⟩
            have HX4 := Lib.hid (HX3.out.trans (hb.mono HX3.out.size))
            have HS4 := Lib.hid (HS3.out.below hb)
            have HT4 := Lib.hid hsa6
            have HC4 := Lib.hid (HC3.out.below hb)
            clear hb hsa6 HX3 HS3 HT3 HC3
            go_wp2_with fail
            refine (sameSets_any a4 a6 m m c4 c6 S S wg2 HS4.out HT4.out HMN.out HMN.out (fun s hs => by have := (HOK.out.sz.2 s hs).2; omega)).mono ?_; rintro e wh ⟨⟨x, rfl, hx⟩, hb⟩
            obtain rfl : x = true := hx.2 rfl
            have HX5 := Lib.hid (HX4.out.trans (hb.mono HX4.out.size))
            have HC5 := Lib.hid (HC4.out.below hb)
            clear hb hx HX4 HS4 HT4 HC4
            go_wp2_with fail
            refine (HTH.out wh HX5.out).mono ?_; rintro e wi ⟨rfl, hb⟩
            have HX6 := Lib.hid (HX5.out.trans (hb.mono HX5.out.size))
            have HC6 := Lib.hid (HC5.out.below hb)
            clear hb HX5 HC5
            obtain ⟨-, q0, q1, q2, q3, q4, -⟩ := HC6.out
            have d6 := HD6.out
            have d7 := HD7.out
            go_wp2_with fail
            refine (zsoa_any z apex S s0 d0 [] M R x1 x2 x3 x4 x5 bb wi (HOK.out.is.below HX6.out) HOK.out.canon.keys HOK.out.sz HA1.out HS0.out HD0.out HDZ.out HGS.out).mono ?_; rintro e wj ⟨rfl, hb⟩
            have HX7 := Lib.hid (HX6.out.trans (hb.mono HX6.out.size))
            clear hb HX6 HC6 q0 q1 q2 q3 q4 d6 d7
            go_wp2_with fail
            refine (zsoa_any z2 apex S s0 d0 [] M R x1 x2 x3 x4 x5 bb wj (HZ2.out.below HX7.out) HOK.out.canon.keys HOK.out.sz HA1.out HS0.out HD0.out HDZ.out HGS.out).mono ?_; rintro e wk ⟨rfl, hb⟩
            have HX8 := Lib.hid (HX7.out.trans (hb.mono HX7.out.size))
            clear hb HX7
            go_wp2
            go_ret
            exact ⟨rfl, HB8.out.trans (HX8.out.mono HB8.out.size)⟩
end Go.Proofs.Ytgdhbelcellabaa
