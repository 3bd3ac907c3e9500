/- MdBack: the walk. -/
import Derived.Test.YtmhiglhgkgannaaMdU
import Derived.Test.YtmhiglhgkgannaaCpR
import Derived.Test.YtmhiglhgkgannaaZnR
namespace Go.Proofs.Ytmhiglhgkgannaa
open Go.RowKit

theorem rowR_own2M {w : World} {B n c : Nat} {a : Option Addr} {l : List R5} (h : w.ownsRow B 30 5 (.slice a n c) n (flatR l)) : RowR w a n l ∧ (a = none → n = 0 ∧ c = 0) := by
  obtain ⟨a', c', e, h1, h2⟩ := rowR_own h
  injection e with e1 _ e3
  subst e1 e3
  exact ⟨h1, h2⟩
theorem own_grownM {w w' : World} {B size n : Nat} {e : TypeId} {v : Value} {xs : List Value} {row : Option Nat} (h : w.ownsRow B e size v n xs) (hg : w.grownBy w' row) (hne : ∀ k, v.ownBlock = some k → row ≠ some k) : w'.ownsRow B e size v n xs := by
  refine ⟨h.1, ?_⟩
  rcases h.2 with hn | ⟨g', cap, cur, h1, h2, h3, rest⟩
  · exact .inl hn
  · have hlt : g' < w.heap.size := (Array.getElem?_eq_some_iff.1 h3).1
    exact .inr ⟨g', cap, cur, h1, h2, (hg.block g' hlt (fun e => hne g' (by rw [h1]; rfl) e.symm)).trans h3, rest⟩
theorem own_capM {w : World} {B size n c : Nat} {e : TypeId} {a : Option Addr} {xs : List Value} (h : w.ownsRow B e size (.slice a n c) n xs) : n ≤ c := by
  rcases h.2 with ⟨hv, hn⟩ | ⟨g', cap, cur, hv, _, _, hnc, _⟩
  · injection hv with _ h2 h3; omega
  · injection hv with h1 h2 h3; subst h3; exact hnc
theorem own_atS5 {w : World} {B n c : Nat} {a : Option Addr} {l : List R5} (h : w.ownsRow B 30 5 (.slice a n c) n (flatR l)) (j : Nat) (yn : ByteArray) (yt yc yu : Int) (yd : ByteArray) (hj : l[j]? = some ⟨⟨yn, yt, yc⟩, yu, yd⟩) (hl : j < n) : ∃ b of, a = some ⟨b, of, none⟩ ∧ w.cell? ⟨b, of + j * 5, none⟩ = some (.string yn) ∧ w.cell? ⟨b, of + j * 5 + 1, none⟩ = some (.int .i64 yt) ∧ w.cell? ⟨b, of + j * 5 + 2, none⟩ = some (.int .i64 yc) ∧ w.cell? ⟨b, of + j * 5 + 3, none⟩ = some (.int .i64 yu) ∧ w.cell? ⟨b, of + j * 5 + 4, none⟩ = some (.string yd) := by
  obtain ⟨b, of, r, h1, _, hr, x0, x1, x2, x3, x4⟩ := (rowR_own2M h).1.at j hl
  rw [hj] at hr
  obtain rfl := Option.some.inj hr
  exact ⟨b, of, h1, x0, x1, x2, x3, x4⟩
theorem own_atA5 {w : World} {B n c b of : Nat} {l : List R5} (h : w.ownsRow B 30 5 (.slice (some ⟨b, of, none⟩) n c) n (flatR l)) (j : Nat) (yn : ByteArray) (yt yc yu : Int) (yd : ByteArray) (hj : l[j]? = some ⟨⟨yn, yt, yc⟩, yu, yd⟩) (hl : j < n) : w.cell? ⟨b, of + j * 5, none⟩ = some (.string yn) ∧ w.cell? ⟨b, of + j * 5 + 1, none⟩ = some (.int .i64 yt) ∧ w.cell? ⟨b, of + j * 5 + 2, none⟩ = some (.int .i64 yc) ∧ w.cell? ⟨b, of + j * 5 + 3, none⟩ = some (.int .i64 yu) ∧ w.cell? ⟨b, of + j * 5 + 4, none⟩ = some (.string yd) := by
  obtain ⟨b', of', h1, x⟩ := own_atS5 h j yn yt yc yu yd hj hl
  injection h1 with h1
  injection h1 with e1 e2 _
  subst e1 e2
  exact x
theorem mask32M (n : Int) : bits .and .i64 n 4294967295 = n % 4294967296 := by
  have hm : (BitVec.ofInt 64 4294967295).toNat = 2 ^ 32 - 1 := by decide
  have key : (BitVec.ofInt 64 n &&& BitVec.ofInt 64 4294967295).toNat = (n % ((2 ^ 64 : Nat) : Int)).toNat % 2 ^ 32 := by
    rw [BitVec.toNat_and, BitVec.toNat_ofInt, hm, Nat.and_two_pow_sub_one_eq_mod]
  show IntKind.i64.wrap ((BitVec.ofInt 64 n &&& BitVec.ofInt 64 4294967295).toNat : Nat) = n % 4294967296
  rw [key, IntKind.wrap_i64]
  omega
theorem cn4 {w : World} {q : Nat} {c0 c1 c2 c3 : Value} (h : CN w q [c0, c1, c2, c3]) : w.cell? ⟨q, 0, none⟩ = some c0 ∧ w.cell? ⟨q, 1, none⟩ = some c1 ∧ w.cell? ⟨q, 2, none⟩ = some c2 ∧ w.cell? ⟨q, 3, none⟩ = some c3 ∧ w.frozen? ⟨q, 0, none⟩ = false ∧ w.frozen? ⟨q, 1, none⟩ = false ∧ w.frozen? ⟨q, 2, none⟩ = false ∧ w.frozen? ⟨q, 3, none⟩ = false :=
  ⟨(h.2 0 _ rfl).1, (h.2 1 _ rfl).1, (h.2 2 _ rfl).1, (h.2 3 _ rfl).1, (h.2 0 _ rfl).2, (h.2 1 _ rfl).2, (h.2 2 _ rfl).2, (h.2 3 _ rfl).2⟩
theorem flatR_lastd : ∀ (T : List R5) (n : ByteArray) (t c u : Int) (d d2 : ByteArray), (flatR (T ++ [⟨⟨n, t, c⟩, u, d⟩])).set (T.length * 5 + 4) (.string d2) = flatR (T ++ [⟨⟨n, t, c⟩, u, d2⟩])
  | [], _, _, _, _, _, _ => rfl
  | r :: T, n, t, c, u, d, d2 => by
    have ih := flatR_lastd T n t c u d d2
    have h1 : ∀ l : List R5, flatR (r :: l) = encR r ++ flatR l := fun _ => rfl
    rw [List.cons_append, List.cons_append, h1, h1, List.length_cons, List.set_append_right _ _ (by rw [encR_len]; omega), encR_len, show (T.length + 1) * 5 + 4 - 5 = T.length * 5 + 4 by omega, ih]
/-- The last record's data written over. -/
theorem own_last {w : World} {B g n c mt : Nat} {L T : List R5} {rn : ByteArray} {rt rc ru : Int} {rd : ByteArray} (h : w.ownsRow B 30 5 (.slice (some ⟨g, 0, none⟩) n c) n (flatR L)) (hL : L = T ++ [⟨⟨rn, rt, rc⟩, ru, rd⟩]) (hm : T.length = mt) (d2 : ByteArray) : (w.setCell ⟨g, mt * 5 + 4, none⟩ (.string d2)).ownsRow B 30 5 (.slice (some ⟨g, 0, none⟩) n c) n (flatR (T ++ [⟨⟨rn, rt, rc⟩, ru, d2⟩])) := by
  have h1 := (h.stored (mt * 5 + 4) (.string d2)).1
  rw [hL, ← hm, flatR_lastd] at h1
  rw [← hm]; exact h1
theorem rowR_takeM {w : World} {a : Option Addr} {n m : Nat} {l T : List R5} (h : RowR w a n l) (ht : l.take m = T) (hT : T.length = m) (hm : m ≤ n) : RowR w a m T := by
  refine ⟨hT, by rw [flatR_len, hT], ?_⟩
  rcases h.2.2 with h0 | ⟨b, off, rfl, hlt, hc⟩
  · exact Or.inl (by omega)
  · refine Or.inr ⟨b, off, rfl, hlt, fun j u hj => ?_⟩
    have hjl := (List.getElem?_eq_some_iff.1 hj).1
    rw [flatR_len, hT] at hjl
    refine hc j u ?_
    rw [← ht, ← flatR_takeM, List.getElem?_take_of_lt (by omega)] at hj
    exact hj
set_option maxRecDepth 100000 in
set_option maxHeartbeats 64000000 in
theorem walkBack (apex : ByteArray) (a : Option Addr) (n c : Nat) (l : List R5) (t : Int) (w : World) (h : RowR w a n l) (hna : a = none → n = 0 ∧ c = 0) (hlen : n ≤ 9223372036854775807) (hz : ∀ r ∈ l, SzR r) :
    Calls Try.prog 3 #[.string apex, .slice a n c, .int .i64 t] w fun e w' => e = .returned (.bool true) ∧ Below w.heap.size w w' := by
  obtain ⟨i0, hi, hz0, hz1, hz2⟩ := info_parts infoRR
  have HI := Lib.hid hi
  have HZ0 := Lib.hid hz0
  have HZ1 := Lib.hid hz1
  have HZ2 := Lib.hid hz2
  clear hi hz0 hz1 hz2
  have HB := Lib.hid (Below.refl w.heap.size w)
  have HZ := Lib.hid hz
  have HR := Lib.hid h
  have HLN := Lib.hid h.1
  have HNA := Lib.hid hna
  clear hz h hna
  go_enter Try.func3, Try.ntmps3
  go_wp2_with fail
  refine (first9 _).mono ?_; rintro e w2 ⟨rfl, hb⟩
  replace HB := Lib.hid (HB.out.trans (hb.mono HB.out.size))
  replace HR := Lib.hid (HR.out.below hb)
  clear hb
  go_wp2_with fail
  refine (few9 a n c l _ HR.out hlen HZ.out).mono ?_; rintro e w3 ⟨hf, hb⟩
  replace HB := Lib.hid (HB.out.trans (hb.mono HB.out.size))
  replace HR := Lib.hid (HR.out.below hb)
  clear hb
  rcases hf with rfl | ⟨rfl, hn, hsx⟩
  · go_wp2_with fail
    refine (first9 _).mono ?_; rintro e w4 ⟨rfl, hb⟩
    replace HB := Lib.hid (HB.out.trans (hb.mono HB.out.size))
    replace HR := Lib.hid (HR.out.below hb)
    clear hb
    go_wp2
    go_ret
    exact ⟨rfl, HB.out⟩
  · have HN := Lib.hid hn
    have HSX := Lib.hid hsx
    clear hsx
    by_cases ga : 1000 < apex.size
    · have d1 := dT ga
      have d2 := dT (p := (1000 : Int) < (apex.size : Int)) (by omega)
      clear ga
      go_wp2_with fail
      refine (first9 _).mono ?_; rintro e w4 ⟨rfl, hb⟩
      replace HB := Lib.hid (HB.out.trans (hb.mono HB.out.size))
      replace HR := Lib.hid (HR.out.below hb)
      clear hb
      go_wp2
      go_ret
      exact ⟨rfl, HB.out⟩
    · have d1 := dF ga
      have d2 := dF (p := (1000 : Int) < (apex.size : Int)) (by omega)
      have HA := Lib.hid (show apex.size ≤ 1000000 by omega)
      clear ga
      by_cases gt : t < 0
      · have d3 := dT gt
        clear gt
        go_wp2_with fail
        refine (first9 _).mono ?_; rintro e w4 ⟨rfl, hb⟩
        replace HB := Lib.hid (HB.out.trans (hb.mono HB.out.size))
        replace HR := Lib.hid (HR.out.below hb)
        clear hb
        go_wp2
        go_ret
        exact ⟨rfl, HB.out⟩
      · have d3 := dF gt
        obtain ⟨tn, rfl⟩ : ∃ tn : Nat, t = (tn : Int) := ⟨t.toNat, by omega⟩
        clear gt
        obtain ⟨E, hE⟩ : ∃ x, sgnE apex l = x := ⟨_, rfl⟩
        obtain ⟨SL, hSL⟩ : ∃ x, sgnL apex l = x := ⟨_, rfl⟩
        obtain ⟨ns, hns⟩ : ∃ x, SL.length = x := ⟨_, rfl⟩
        have HE := Lib.hid hE
        have HSL := Lib.hid hSL
        have HNS := Lib.hid hns
        clear hE hSL hns hn
        go_wp2_with fail
        refine (sign_any apex _ _ _ l _ HR.out HNA.out (by have := HN.out; omega) HSX.out HA.out).mono ?_; rintro e w4 ⟨⟨v1, u1, rfl, ho⟩, hb⟩
        replace HB := Lib.hid (HB.out.trans (hb.mono HB.out.size))
        replace HR := Lib.hid (HR.out.below hb)
        clear hb
        rw [HE.out, HSL.out, HNS.out]
        rw [HSL.out, HNS.out] at ho
        have HSO := Lib.hid ho
        clear ho d1 d2 d3
        by_cases hE0 : E = 0
        rotate_left
        · have e1 := nT hE0
          have hn0 : ns = 0 := by
            rw [← HNS.out, ← HSL.out]
            by_cases h0 : dgE apex l = 0
            · cases hx : sgnX apex l with
              | none => rw [(sgn_no h0 hx).2]; rfl
              | some x => exact absurd ((HE.out).symm.trans (sgn_yes h0 hx).1) hE0
            · rw [(sgn_dg h0).2]; rfl
          subst hn0
          clear hE0
          go_wp2_with fail
          refine (first9 _).mono ?_; rintro e w5 ⟨rfl, hb⟩
          replace HB := Lib.hid (HB.out.trans (hb.mono HB.out.size))
          replace HR := Lib.hid (HR.out.below hb)
          replace HSO := Lib.hid (own_below' HSO.out hb)
          clear hb
          go_wp2
          go_ret
          exact ⟨rfl, HB.out⟩
        · subst hE0
          obtain ⟨⟨⟨xn, xt, xc⟩, xu, xd⟩, hzn, -, hsl⟩ := ZnM.of HE.out
          rw [HSL.out] at hsl
          have HZN := Lib.hid hzn
          obtain ⟨TT, hTT⟩ : ∃ x, keepRM (isMd apex) l = x := ⟨_, rfl⟩
          have HTT := Lib.hid hTT
          obtain ⟨DG, hDG⟩ : ∃ x, bs (shaL (dgL apex l)) = x := ⟨_, rfl⟩
          have HDG := Lib.hid hDG
          obtain ⟨i2, hi2⟩ : ∃ x, getN (soaT xd) 0 4 = x := ⟨_, rfl⟩
          have HI2 := Lib.hid hi2
          have HFI := Lib.hid (show fits i2 4 = true by rw [← hi2]; exact hzn.ser)
          have HDS := Lib.hid (show DG.size = 48 by rw [← hDG]; exact dgB_size apex l)
          obtain ⟨DT, hDT⟩ : ∃ x, mdData i2 1 1 DG = x := ⟨_, rfl⟩
          have HDT := Lib.hid hDT
          have hrec : mdRec apex l ⟨⟨xn, xt, xc⟩, xu, xd⟩ = ⟨⟨apex, 63, xc⟩, xu, DT⟩ := by show (⟨⟨apex, 63, xc⟩, xu, mdData (getN (soaT xd) 0 4) 1 1 (bs (shaL (dgL apex l)))⟩ : R5) = _; rw [hi2, hDG, hDT]
          have HREC := Lib.hid hrec
          rw [hTT, hrec] at hsl
          have HS2 := Lib.hid hsl
          obtain ⟨mt, hmt⟩ : ∃ x, TT.length = x := ⟨_, rfl⟩
          have HMT := Lib.hid hmt
          have HMS := Lib.hid (show ns = mt + 1 by rw [← HNS.out, hsl, List.length_append, hmt]; rfl)
          have HMN := Lib.hid (show mt ≤ n by rw [← hmt, ← hTT, keepRM, ← HLN.out]; exact List.length_filter_le _ _)
          have HM1 := Lib.hid (show 1 ≤ mt by
            have h1 := hzn.mem
            have h2 : (⟨⟨xn, xt, xc⟩, xu, xd⟩ : R5) ∈ TT := by
              rw [← hTT]
              refine keepM_mem.2 ⟨h1.1, ?_⟩
              rw [Bool.eq_false_iff]; intro h9
              have h3 := (isMd_iff.1 h9).2
              have h4 : xt = 6 := h1.2.2.2.1
              have h5 : xt = 63 := h3
              omega
            rw [← hmt]; exact List.length_pos_iff.2 (List.ne_nil_of_mem h2))
          have HSS := Lib.hid (show ∀ r ∈ SL, SmX r from fun r hr => by
            rw [hsl] at hr
            rcases List.mem_append.1 hr with h | h
            · rw [← hTT] at h; exact HSX.out r (keepM_mem.1 h).1
            · rw [List.mem_singleton.1 h]
              refine ⟨HA.out, ?_⟩
              show DT.size ≤ 1000000
              rw [← hDT, (md_ok HFI.out HDS.out).1]; decide)
          have HC0 := Lib.hid (show ∀ m : List R5, (∀ r, r ∈ m ↔ r ∈ SL) → chkE apex m = 0 from fun m hm => hzn.right (fun r => by rw [hm r, hsl, hTT, hrec]))
          have HAG := Lib.hid (show sgnE apex SL = 0 ∧ sgnL apex SL = SL by have h := hzn.again; rw [hTT, hrec, ← hsl] at h; exact h)
          clear hzn hsl hTT hDG hi2 hDT hrec hmt
          have hs := rowR_own2M HSO.out
          go_wp2_with fail
          refine (check_any apex v1 ns u1 SL _ hs.1 (by have := HMS.out; have := HMN.out; have := HN.out; omega) HSS.out HA.out).mono ?_; rintro e w5 ⟨rfl, hb⟩
          replace HB := Lib.hid (HB.out.trans (hb.mono HB.out.size))
          replace HR := Lib.hid (HR.out.below hb)
          replace HSO := Lib.hid (own_below' HSO.out hb)
          clear hb
          rw [HC0.out SL (fun r => Iff.rfl)]
          have d1 := dF (p := (ns : Int) < (2 : Int)) (by have := HMS.out; have := HM1.out; omega)
          have d2 := dF (p := ns < 2) (by have := HMS.out; have := HM1.out; omega)
          clear hs
          go_wp2_with fail
          clear d1 d2
          obtain ⟨r0, hr0⟩ : ∃ x, tn % ns = x := ⟨_, rfl⟩
          have HR0 := Lib.hid hr0
          have HRL := Lib.hid (show r0 < ns by rw [← hr0]; exact Nat.mod_lt _ (by have := HMS.out; omega))
          have HM0 := Lib.hid (show (tn : Int).tmod (ns : Int) = (r0 : Int) by rw [← hr0]; exact (Int.ofNat_tmod tn ns).symm)
          have HNN := Lib.hid (show ns ≤ 61 by have := HMS.out; have := HMN.out; have := HN.out; omega)
          clear hr0
          go_loopw [10, 9] (fun i v wr => ∃ (k : Nat) (Tl : List R5), k ≤ ns ∧ i = .int .i64 k ∧ Hid (Tl.length = k) ∧ Hid (∀ i, i < k → Tl[i]? = SL[(i + r0) % ns]?) ∧ Hid (wr.ownsRow w5.heap.size 30 5 v k (flatR Tl)) ∧ Hid (Below w5.heap.size w5 wr)) (fun i _ _ => ns - (intOf i).toNat)
          case atStart => exact ⟨0, [], Nat.zero_le _, rfl, Lib.hid rfl, Lib.hid (fun i hi => absurd hi (by omega)), Lib.hid (World.ownsRow_nil _ _ _ _), Lib.hid (Below.refl _ _)⟩
          case round =>
            obtain ⟨k, Tl, hk, rfl, HTL, HTM, HO, HW⟩ := hrel
            have HRS := Lib.hid ((rowR_own2M HSO.out).1.below HW.out)
            by_cases hlt : k < ns
            · obtain ⟨s, hs⟩ : ∃ x, k + r0 = x := ⟨_, rfl⟩
              obtain ⟨j, hj⟩ : ∃ x, s % ns = x := ⟨_, rfl⟩
              have hjl : j < ns := by rw [← hj]; exact Nat.mod_lt _ (by omega)
              have hn61 : ns ≤ 61 := HNN.out
              have hr61 : r0 < 61 := by have := HRL.out; omega
              obtain ⟨b, of, r, rfl, hbl, hr, x0, x1, x2, x3, x4⟩ := HRS.out.at j hjl
              obtain ⟨⟨yn, yt, yc⟩, yu, yd⟩ := r
              replace x0 : wr.cell? ⟨b, of + j * 5, none⟩ = some (.string yn) := x0
              replace x1 : wr.cell? ⟨b, of + j * 5 + 1, none⟩ = some (.int .i64 yt) := x1
              replace x2 : wr.cell? ⟨b, of + j * 5 + 2, none⟩ = some (.int .i64 yc) := x2
              replace x3 : wr.cell? ⟨b, of + j * 5 + 3, none⟩ = some (.int .i64 yu) := x3
              replace x4 : wr.cell? ⟨b, of + j * 5 + 4, none⟩ = some (.string yd) := x4
              have i1 : (0 : Int) ≤ (j : Int) := by omega
              have i2x : (j : Int) < (ns : Int) := by omega
              have hn0 : ¬ ((ns : Int) = 0) := by omega
              have hm1 := HM0.out
              have hm2 : (s : Int).tmod (ns : Int) = (j : Int) := by rw [← hj]; exact (Int.ofNat_tmod s ns).symm
              have hw1 : IntKind.i64.wrap ((k : Int) + (r0 : Int)) = (s : Int) := by rw [IntKind.wrap_i64]; omega
              have hw2 : IntKind.i64.wrap (r0 : Int) = (r0 : Int) := by rw [IntKind.wrap_i64]; omega
              have hw3 : IntKind.i64.wrap (j : Int) = (j : Int) := by rw [IntKind.wrap_i64]; omega
              have HLT := Lib.hid hlt
              have HNX := Lib.hid (show SL[(k + r0) % ns]? = some ⟨⟨yn, yt, yc⟩, yu, yd⟩ by rw [hs, hj]; exact hr)
              have HAL := Lib.hid ((Below.refl wr.heap.size wr).alloc (Nat.le_refl _) (.cells #[.string yn, .int .i64 yt, .int .i64 yc, .int .i64 yu, .string yd] 30))
              clear hr hbl hs hj hjl hn61
              go_wp2_with (at_builtin; refine append_cellsK rfl _ _ 22 30 rfl i0 _ 5 56 Try.underlying22 HI.out HZ0.out HZ1.out HZ2.out rfl (by decide) w5.heap.size _ k _ rfl (own_below' HO.out HAL.out) (some ⟨wr.heap.size, 0, none⟩) 1 1 (encR ⟨⟨yn, yt, yc⟩, yu, yd⟩) rfl (fun h => by cases h) (cells_lit wr #[.string yn, .int .i64 yt, .int .i64 yc, .int .i64 yu, .string yd] _) (fun u hu => flatR_oneM (l := [⟨⟨yn, yt, yc⟩, yu, yd⟩]) (by simpa [flatR] using hu)) (by have := HNN.out; omega) (by decide) (by have := HW.out.size; simp; omega) ?_)
              intro v' w6 hown' hgrow'
              have HO3 := Lib.hid hown'
              have HB3 := Lib.hid ((HW.out.trans (HAL.out.mono HW.out.size)).grown hgrow' (by have := HW.out.size; simp; omega) (fun k hk => (HO.out.lt k hk).1))
              have HTM2 := Lib.hid (show ∀ i, i < k + 1 → (Tl ++ [⟨⟨yn, yt, yc⟩, yu, yd⟩])[i]? = SL[(i + r0) % ns]? from fun i hi => by
                rcases (by omega : i < k ∨ i = k) with h | rfl
                · rw [List.getElem?_append_left (by rw [HTL.out]; exact h)]; exact HTM.out i h
                · rw [List.getElem?_append_right (by rw [HTL.out]; exact Nat.le_refl _), HTL.out, Nat.sub_self, HNX.out]; rfl)
              clear hown' hgrow'
              have hk60 : (k : Int) < 61 := by have := HLT.out; have := HNN.out; omega
              go_wp2
              go_roundw
              case rel => exact ⟨k + 1, Tl ++ [⟨⟨yn, yt, yc⟩, yu, yd⟩], by have := HLT.out; omega, by have := HLT.out; go_num, Lib.hid (by rw [List.length_append, HTL.out]; rfl), HTM2, Lib.hid (by rw [flatR_append]; simpa [flatR] using HO3.out), HB3⟩
              case measure => have := HLT.out; simp [intOf]; omega
            · obtain rfl : k = ns := by omega
              clear hlt hk
              obtain ⟨b, of, r, rfl, hbl, hr, x0, x1, x2, x3, x4⟩ := HRS.out.at r0 HRL.out
              obtain ⟨⟨yn, yt, yc⟩, yu, yd⟩ := r
              replace x0 : wr.cell? ⟨b, of + r0 * 5, none⟩ = some (.string yn) := x0
              replace x1 : wr.cell? ⟨b, of + r0 * 5 + 1, none⟩ = some (.int .i64 yt) := x1
              replace x2 : wr.cell? ⟨b, of + r0 * 5 + 2, none⟩ = some (.int .i64 yc) := x2
              replace x3 : wr.cell? ⟨b, of + r0 * 5 + 3, none⟩ = some (.int .i64 yu) := x3
              replace x4 : wr.cell? ⟨b, of + r0 * 5 + 4, none⟩ = some (.string yd) := x4
              have i1 : (0 : Int) ≤ (r0 : Int) := by omega
              have i2x : (r0 : Int) < (k : Int) := by have := HRL.out; omega
              have hn0 : ¬ ((k : Int) = 0) := by have := HRL.out; omega
              have hm1 := HM0.out
              have hw2 : IntKind.i64.wrap (r0 : Int) = (r0 : Int) := by have := HRL.out; have := HNN.out; rw [IntKind.wrap_i64]; omega
              have HRY := Lib.hid (List.mem_of_getElem? hr)
              have HAL := Lib.hid ((Below.refl wr.heap.size wr).alloc (Nat.le_refl _) (.cells #[.string yn, .int .i64 yt, .int .i64 yc, .int .i64 yu, .string yd] 30))
              clear hr hbl
              go_wp2_with (at_builtin; refine append_cellsK rfl _ _ 22 30 rfl i0 _ 5 56 Try.underlying22 HI.out HZ0.out HZ1.out HZ2.out rfl (by decide) w5.heap.size _ k _ rfl (own_below' HO.out HAL.out) (some ⟨wr.heap.size, 0, none⟩) 1 1 (encR ⟨⟨yn, yt, yc⟩, yu, yd⟩) rfl (fun h => by cases h) (cells_lit wr #[.string yn, .int .i64 yt, .int .i64 yc, .int .i64 yu, .string yd] _) (fun u hu => flatR_oneM (l := [⟨⟨yn, yt, yc⟩, yu, yd⟩]) (by simpa [flatR] using hu)) (by have := HNN.out; omega) (by decide) (by have := HW.out.size; simp; omega) ?_)
              intro v' wq6 hown' hgrow'
              have hb := (HW.out.trans (HAL.out.mono HW.out.size)).grown hgrow' (by have := HW.out.size; simp; omega) (fun k hk => (HO.out.lt k hk).1)
              replace HB := Lib.hid (HB.out.trans (hb.mono HB.out.size))
              replace HR := Lib.hid (HR.out.below hb)
              replace HSO := Lib.hid (own_below' HSO.out hb)
              obtain ⟨a7, c7, rfl, _⟩ := own_shapeM hown'
              obtain ⟨k2, hk2⟩ : ∃ x, k + 1 = x := ⟨_, rfl⟩
              have HK2 := Lib.hid hk2
              have HT := Lib.hid (show wq6.ownsRow w5.heap.size 30 5 (.slice a7 k2 c7) k2 (flatR (Tl ++ [⟨⟨yn, yt, yc⟩, yu, yd⟩])) by rw [← hk2, flatR_append]; simpa [flatR] using hown')
              rw [hk2]
              have HTX := Lib.hid (show ∀ r, r ∈ Tl ++ [⟨⟨yn, yt, yc⟩, yu, yd⟩] ↔ r ∈ SL from fun r => by
                have hlen : SL.length = k := HNS.out
                rw [List.mem_append, List.mem_singleton]
                constructor
                · rintro (h | rfl)
                  · obtain ⟨i, hi⟩ := List.getElem?_of_mem h
                    have hik : i < k := by have := (List.getElem?_eq_some_iff.1 hi).1; rw [HTL.out] at this; exact this
                    rw [HTM.out i hik] at hi
                    exact List.mem_of_getElem? hi
                  · exact HRY.out
                · intro h
                  obtain ⟨j, hj⟩ := List.getElem?_of_mem h
                  have hjk : j < k := by have := (List.getElem?_eq_some_iff.1 hj).1; omega
                  have hrk : r0 < k := HRL.out
                  refine Or.inl ?_
                  by_cases hjr : r0 ≤ j
                  · have h1 := HTM.out (j - r0) (by omega)
                    rw [show j - r0 + r0 = j by omega, Nat.mod_eq_of_lt hjk, hj] at h1
                    exact List.mem_of_getElem? h1
                  · have h1 := HTM.out (j + k - r0) (by omega)
                    rw [show j + k - r0 + r0 = j + k by omega, Nat.add_mod_right, Nat.mod_eq_of_lt hjk, hj] at h1
                    exact List.mem_of_getElem? h1)
              obtain ⟨TX, hTXe⟩ : ∃ x, Tl ++ [⟨⟨yn, yt, yc⟩, yu, yd⟩] = x := ⟨_, rfl⟩
              rw [hTXe] at HT HTX
              clear hb hown' hgrow' hk2 hTXe HO HW HRS x0 x1 x2 x3 x4 i1 i2x hn0 hm1 hw2 HTL HTM HRY HAL
              have hs := rowR_own2M HSO.out
              go_wp2_with fail
              refine (sign_any apex _ _ _ SL _ hs.1 hs.2 (by have := HNN.out; omega) HSS.out HA.out).mono ?_; rintro e w6 ⟨⟨v2, u2, rfl, ho⟩, hb⟩
              replace HB := Lib.hid (HB.out.trans (hb.mono HB.out.size))
              replace HR := Lib.hid (HR.out.below hb)
              replace HSO := Lib.hid (own_below' HSO.out hb)
              replace HT := Lib.hid (own_below' HT.out hb)
              clear hb
              rw [HAG.out.1, HAG.out.2, HNS.out]
              rw [HAG.out.2, HNS.out] at ho
              have HGA := Lib.hid ho
              clear ho hs
              obtain ⟨x0, x1, x2, x3, x4⟩ := own_atA5 HSO.out mt apex 63 xc xu DT (by rw [HS2.out, List.getElem?_append_right (by rw [HMT.out]; exact Nat.le_refl _), HMT.out, Nat.sub_self]; rfl) (by have := HMS.out; omega)
              have hw1 : IntKind.i64.wrap ((k : Int) - 1) = (mt : Int) := by have := HMS.out; have := HNN.out; rw [IntKind.wrap_i64]; omega
              have i1 : (0 : Int) ≤ (mt : Int) := by omega
              have i2x : (mt : Int) < (k : Int) := by have := HMS.out; omega
              have hba := (Below.refl _ _ : Below w6.heap.size w6 w6).alloc (Nat.le_refl _) (.cells #[.string apex, .int .i64 63, .int .i64 xc, .int .i64 xu, .string DT] 30)
              have HL := Lib.hid (CN.new w6 #[.string apex, .int .i64 63, .int .i64 xc, .int .i64 xu, .string DT] 30)
              replace HB := Lib.hid (HB.out.trans (hba.mono HB.out.size))
              replace HR := Lib.hid (HR.out.below hba)
              replace HSO := Lib.hid (own_below' HSO.out hba)
              replace HT := Lib.hid (own_below' HT.out hba)
              replace HGA := Lib.hid (own_below' HGA.out hba)
              obtain ⟨w7, hw⟩ : ∃ x, w6.alloc (.cells #[.string apex, .int .i64 63, .int .i64 xc, .int .i64 xu, .string DT] 30) = x := ⟨_, rfl⟩
              obtain ⟨q7, hq⟩ : ∃ x, w6.heap.size = x := ⟨_, rfl⟩
              rw [hw, hq] at HL
              rw [hw] at HB HR HSO HT HGA
              have HW := Lib.hid hw
              have HQ_ := Lib.hid hq
              clear hba hw hq
              go_upto_region 18 with (fail)
              rw [HW.out, HQ_.out]
              clear HW HQ_
              clear x0 x1 x2 x3 x4 hw1 i1 i2x
              obtain ⟨x0, x1, x2, x3, x4, _⟩ := HL.out.u5
              go_wp2_with fail
              refine (getMd_any DT _ (by rw [← HDT.out, (md_ok HFI.out HDS.out).1]; decide)).mono ?_; rintro e w8 ⟨rfl, hb⟩
              clear x0 x1 x2 x3 x4
              replace HB := Lib.hid (HB.out.trans (hb.mono HB.out.size))
              replace HR := Lib.hid (HR.out.below hb)
              replace HSO := Lib.hid (own_below' HSO.out hb)
              replace HT := Lib.hid (own_below' HT.out hb)
              replace HGA := Lib.hid (own_below' HGA.out hb)
              replace HL := Lib.hid (HL.out.below hb)
              clear hb
              rw [show getMdV DT = .tuple #[.agg #[.int .i64 i2, .int .i64 1, .int .i64 1, .string DG], .bool true] by rw [← HDT.out]; exact md_put i2 1 1 DG HFI.out (by decide) (md_ok HFI.out HDS.out).2.1]
              obtain ⟨x0, x1, x2, x3, x4, _⟩ := HL.out.u5
              have HL14_HSO := Lib.hid (fun k hk => show k < w8.heap.size from (HSO.out.lt k hk).2)
              have HL14_HT := Lib.hid (fun k hk => show k < w8.heap.size from (HT.out.lt k hk).2)
              have HL14_HGA := Lib.hid (fun k hk => show k < w8.heap.size from (HGA.out.lt k hk).2)
              have HQM0 := Lib.hid (show w.heap.size ≤ w8.heap.size from HB.out.size)
              have hba := (Below.refl _ _ : Below w8.heap.size w8 w8).alloc (Nat.le_refl _) (.cells #[.int .i64 i2, .int .i64 1, .int .i64 1, .string DG] 32)
              have HMD := Lib.hid (CN.new w8 #[.int .i64 i2, .int .i64 1, .int .i64 1, .string DG] 32)
              replace HB := Lib.hid (HB.out.trans (hba.mono HB.out.size))
              replace HR := Lib.hid (HR.out.below hba)
              replace HSO := Lib.hid (own_below' HSO.out hba)
              replace HT := Lib.hid (own_below' HT.out hba)
              replace HGA := Lib.hid (own_below' HGA.out hba)
              replace HL := Lib.hid (HL.out.below hba)
              obtain ⟨w9, hw⟩ : ∃ x, w8.alloc (.cells #[.int .i64 i2, .int .i64 1, .int .i64 1, .string DG] 32) = x := ⟨_, rfl⟩
              obtain ⟨q9, hq⟩ : ∃ x, w8.heap.size = x := ⟨_, rfl⟩
              rw [hw, hq] at HMD
              rw [hw] at HB HR HSO HT HGA HL
              have HW := Lib.hid hw
              have HQ_ := Lib.hid hq
              rw [hq] at HL14_HSO
              rw [hq] at HL14_HT
              rw [hq] at HL14_HGA
              rw [hq] at HQM0
              clear hba hw hq
              go_upto_region 19 with (fail)
              rw [HW.out, HQ_.out]
              clear HW HQ_
              clear x0 x1 x2 x3 x4
              obtain ⟨x0, x1, x2, x3, x4, _⟩ := HL.out.u5
              have hb2 : 0 ≤ i2 ∧ i2 < 4294967296 := by have h := (fits_iff i2 4).1 HFI.out; exact ⟨h.2.2.1, by have := h.2.2.2; omega⟩
              obtain ⟨i3, hi3⟩ : ∃ x, i2 + 1 = x := ⟨_, rfl⟩
              have hw1 : IntKind.i64.wrap (i2 + 1) = i3 := by rw [← hi3, IntKind.wrap_i64]; omega
              obtain ⟨i4, hi4⟩ : ∃ x, bits .and .i64 i3 4294967295 = x := ⟨_, rfl⟩
              have hi5 : i4 = (i2 + 1) % 4294967296 := by rw [← hi4, mask32M, hi3]
              have HI4 := Lib.hid (show fits i4 4 = true ∧ i4 ≠ i2 from ⟨(fits_iff i4 4).2 ⟨by decide, by decide, by omega, by show i4 < 2 ^ (8 * 4); omega⟩, by omega⟩)
              obtain ⟨m0, m1, m2, m3, n0, n1, n2, n3⟩ := cn4 HMD.out
              have HMD2 := Lib.hid (HMD.out.set 0 (by simp) (.int .i64 i4))
              have hgm := grown_cell w9 q9 0 (.int .i64 i4)
              have HQM := Lib.hid (show w.heap.size ≤ q9 from HQM0.out)
              replace HB := Lib.hid (HB.out.grown hgm HB.out.size (fun k hk => by injection hk with hk; rw [← hk]; exact HQM.out))
              replace HSO := Lib.hid (own_grownM HSO.out hgm (fun k hk e => by have h1 := HL14_HSO.out k hk; injection e with e; omega))
              replace HT := Lib.hid (own_grownM HT.out hgm (fun k hk e => by have h1 := HL14_HT.out k hk; injection e with e; omega))
              replace HGA := Lib.hid (own_grownM HGA.out hgm (fun k hk e => by have h1 := HL14_HGA.out k hk; injection e with e; omega))
              clear hi3 hi5 hb2
              go_upto_region 22 with (fail)
              obtain ⟨ws, hws⟩ : ∃ x, w9.setCell ⟨q9, 0, none⟩ (.int .i64 i4) = x := ⟨_, rfl⟩
              rw [hws] at HB HSO HT HGA HMD2 ⊢
              clear hws hgm hw1 hi4 m0 m1 m2 m3 n0 n1 n2 n3 HMD HL x0 x1 x2 x3 x4 HR
              have hs := rowR_own2M HSO.out
              have HBC := Lib.hid HB.out.size
              have HC_HSO := Lib.hid (fun k hk => (HSO.out.lt k hk).2)
              have HC_HT := Lib.hid (fun k hk => (HT.out.lt k hk).2)
              have HC_HGA := Lib.hid (fun k hk => (HGA.out.lt k hk).2)
              go_wp2_with fail
              refine (copyRRs_any _ k _ SL _ hs.1 hs.2 (by have := HNN.out; omega)).mono ?_; rintro e w10 ⟨v3, rfl, ho, hb⟩
              replace HB := Lib.hid (HB.out.trans (hb.mono HB.out.size))
              replace HSO := Lib.hid (own_below' HSO.out hb)
              replace HT := Lib.hid (own_below' HT.out hb)
              replace HGA := Lib.hid (own_below' HGA.out hb)
              replace HMD2 := Lib.hid (HMD2.out.below hb)
              clear hb
              obtain ⟨va3, vc3, rfl, _⟩ := own_shapeM ho
              have HOT := Lib.hid ho
              clear ho hs
              obtain ⟨go, rfl⟩ : ∃ go, va3 = some ⟨go, 0, none⟩ := by
                rcases shape_ownM HOT.out with ⟨_, h0, _⟩ | ⟨go, c9, h9⟩
                · have := HMS.out; omega
                · injection h9 with h1; exact ⟨go, h1⟩
              have HGO := Lib.hid (show ws.heap.size ≤ go from (HOT.out.lt go rfl).1)
              obtain ⟨m0, m1, m2, m3, _⟩ := cn4 HMD2.out
              have hw1 : IntKind.i64.wrap ((k : Int) - 1) = (mt : Int) := by have := HMS.out; have := HNN.out; rw [IntKind.wrap_i64]; omega
              have i1 : (0 : Int) ≤ (mt : Int) := by omega
              have i2x : (mt : Int) < (k : Int) := by have := HMS.out; omega
              go_wp2_with fail
              refine (putMd_any i4 1 1 DG _ (by rw [HDS.out]; decide)).mono ?_; rintro e w11 ⟨rfl, hb⟩
              clear m0 m1 m2 m3
              replace HB := Lib.hid (HB.out.trans (hb.mono HB.out.size))
              replace HSO := Lib.hid (own_below' HSO.out hb)
              replace HT := Lib.hid (own_below' HT.out hb)
              replace HGA := Lib.hid (own_below' HGA.out hb)
              replace HMD2 := Lib.hid (HMD2.out.below hb)
              replace HOT := Lib.hid (own_below' HOT.out hb)
              clear hb
              rw [(md_ok HI4.out.1 HDS.out).2.2.1, (md_ok HI4.out.1 HDS.out).2.2.2]
              obtain ⟨D2, hD2⟩ : ∃ x, mdData i4 1 1 DG = x := ⟨_, rfl⟩
              rw [hD2]
              have HD2 := Lib.hid hD2
              clear hD2
              obtain ⟨z0, z1, z2, z3, z4, y0, y1, y2, y3, y4⟩ := own_cells5 HOT.out mt (by have := HMS.out; omega)
              have f4 := HOT.out.frozenAt (mt * 5 + 4)
              have HO4 := Lib.hid (own_last HOT.out (by rw [HS2.out]) (show TT.length = mt from HMT.out) D2)
              have hgm := grown_cell w11 go (mt * 5 + 4) (.string D2)
              clear y0 y1 y2 y3 z0 z1 z2 z3
              replace HB := Lib.hid (HB.out.grown hgm HB.out.size (fun k hk => by injection hk with hk; rw [← hk]; exact Nat.le_trans HBC.out HGO.out))
              replace HSO := Lib.hid (own_grownM HSO.out hgm (fun k hk e => by have h1 := HC_HSO.out k hk; have h2 := HGO.out; injection e with e; omega))
              replace HT := Lib.hid (own_grownM HT.out hgm (fun k hk e => by have h1 := HC_HT.out k hk; have h2 := HGO.out; injection e with e; omega))
              replace HGA := Lib.hid (own_grownM HGA.out hgm (fun k hk e => by have h1 := HC_HGA.out k hk; have h2 := HGO.out; injection e with e; omega))
              go_upto_region 24 with (fail)
              obtain ⟨wt, hwt⟩ : ∃ x, w11.setCell ⟨go, mt * 5 + 4, none⟩ (.string D2) = x := ⟨_, rfl⟩
              rw [hwt] at HB HSO HT HGA HO4 ⊢
              clear hwt hgm y4 f4 hw1 i1 i2x HMD2 HOT
              go_wp2_with fail
              refine (first9 _).mono ?_; rintro e w12 ⟨rfl, hb⟩
              replace HB := Lib.hid (HB.out.trans (hb.mono HB.out.size))
              replace HSO := Lib.hid (own_below' HSO.out hb)
              replace HT := Lib.hid (own_below' HT.out hb)
              replace HGA := Lib.hid (own_below' HGA.out hb)
              replace HO4 := Lib.hid (own_below' HO4.out hb)
              clear hb
              have hs := rowR_own2M HT.out
              have HSTX := Lib.hid (show ∀ r ∈ TX, SmX r from fun r hr => HSS.out r ((HTX.out r).1 hr))
              go_wp2_with fail
              refine (check_any apex _ _ _ TX _ hs.1 (by have := HK2.out; have := HNN.out; omega) HSTX.out HA.out).mono ?_; rintro e w13 ⟨rfl, hb⟩
              replace HB := Lib.hid (HB.out.trans (hb.mono HB.out.size))
              replace HSO := Lib.hid (own_below' HSO.out hb)
              replace HT := Lib.hid (own_below' HT.out hb)
              replace HGA := Lib.hid (own_below' HGA.out hb)
              replace HO4 := Lib.hid (own_below' HO4.out hb)
              clear hb
              rw [HC0.out TX HTX.out]
              clear hs
              go_wp2_with fail
              refine (rrs_any _ _ k k _ _ SL SL _ (rowR_own2M HGA.out).1 (rowR_own2M HSO.out).1 (by have := HNN.out; omega) (by have := HNN.out; omega)).mono ?_; rintro e w14 ⟨⟨bb, rfl, hbb⟩, hb⟩
              replace HB := Lib.hid (HB.out.trans (hb.mono HB.out.size))
              replace HSO := Lib.hid (own_below' HSO.out hb)
              replace HT := Lib.hid (own_below' HT.out hb)
              replace HGA := Lib.hid (own_below' HGA.out hb)
              replace HO4 := Lib.hid (own_below' HO4.out hb)
              obtain rfl : bb = true := hbb.2 rfl
              clear hb hbb
              have hs := rowR_own2M HO4.out
              have HS4 := Lib.hid (show ∀ r ∈ TT ++ [⟨⟨apex, 63, xc⟩, xu, D2⟩], SmX r from fun r hr => by
                rcases List.mem_append.1 hr with h | h
                · exact HSS.out r (by rw [HS2.out]; exact List.mem_append.2 (Or.inl h))
                · rw [List.mem_singleton.1 h]
                  refine ⟨HA.out, ?_⟩
                  show D2.size ≤ 1000000
                  rw [← HD2.out, (md_ok HI4.out.1 HDS.out).1]; decide)
              go_wp2_with fail
              refine (check_any apex _ _ _ (TT ++ [⟨⟨apex, 63, xc⟩, xu, D2⟩]) _ hs.1 (by have := HNN.out; omega) HS4.out HA.out).mono ?_; rintro e w15 ⟨rfl, hb⟩
              replace HB := Lib.hid (HB.out.trans (hb.mono HB.out.size))
              replace HSO := Lib.hid (own_below' HSO.out hb)
              replace HT := Lib.hid (own_below' HT.out hb)
              replace HGA := Lib.hid (own_below' HGA.out hb)
              replace HO4 := Lib.hid (own_below' HO4.out hb)
              clear hb
              rw [show chkE apex (TT ++ [⟨⟨apex, 63, xc⟩, xu, D2⟩]) = 12 by
                have h := HZN.out.signed (m := TT ++ [⟨⟨apex, 63, xc⟩, xu, D2⟩]) HI4.out.1 HDS.out (fun r => by rw [HTT.out, HD2.out])
                rw [h]
                show (if i4 = getN (soaT xd) 0 4 then _ else (12 : Int)) = 12
                rw [HI2.out, if_neg HI4.out.2]]
              clear hs
              have hhd := slice_headKM Try.underlying22 HI.out HZ1.out (some ⟨b, of, none⟩) k u1 mt (Or.inr ⟨b, of, rfl⟩) (by have := own_capM HSO.out; have := HMS.out; omega)
              have hw1 : IntKind.i64.wrap ((k : Int) - 1) = (mt : Int) := by have := HMS.out; have := HNN.out; rw [IntKind.wrap_i64]; omega
              have i1 : (0 : Int) ≤ (mt : Int) := by omega
              have i2x : (mt : Int) < (k : Int) := by have := HMS.out; omega
              have HPR := Lib.hid (rowR_takeM (rowR_own2M HSO.out).1 (show SL.take mt = TT by rw [HS2.out, ← HMT.out]; simp) HMT.out (by have := HMS.out; omega))
              have HST := Lib.hid (show ∀ r ∈ TT, SmX r from fun r h => HSS.out r (by rw [HS2.out]; exact List.mem_append.2 (Or.inl h)))
              go_wp2_with fail
              refine (check_any apex (some ⟨b, of, none⟩) mt u1 TT _ HPR.out (by have := HNN.out; have := HMS.out; omega) HST.out HA.out).mono ?_; rintro e w16 ⟨rfl, hb⟩
              replace HB := Lib.hid (HB.out.trans (hb.mono HB.out.size))
              replace HSO := Lib.hid (own_below' HSO.out hb)
              replace HT := Lib.hid (own_below' HT.out hb)
              replace HGA := Lib.hid (own_below' HGA.out hb)
              replace HO4 := Lib.hid (own_below' HO4.out hb)
              clear hb
              rw [show chkE apex TT = 6 from HZN.out.none (fun r => by rw [← HTT.out]; exact keepM_mem)]
              clear hhd hw1 i1 i2x
              go_wp2
              go_ret
              exact ⟨rfl, HB.out⟩
end Go.Proofs.Ytmhiglhgkgannaa
