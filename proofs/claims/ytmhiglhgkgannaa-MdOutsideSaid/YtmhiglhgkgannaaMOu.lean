/- MdOutside: the walk. -/
import Derived.Test.YtmhiglhgkgannaaMgA
import Derived.Test.YtmhiglhgkgannaaMdI
namespace Go.Proofs.Ytmhiglhgkgannaa
open Go.RowKit

/-- The digest, or none. -/
noncomputable def dgD (apex : ByteArray) (l : List R5) : List UInt8 := if dgE apex l = 0 then shaL (dgL apex l) else []
theorem digest_one (apex : ByteArray) (a : Option Addr) (n c : Nat) (l : List R5) (w : World) (h : RowR w a n l) (hn : n ≤ 1000) (hs : ∀ r ∈ l, SmX r) (ha : apex.size ≤ 1000000) :
    Calls Try.prog 16 #[.string apex, .slice a n c] w fun e w' => (∃ va vc, e = .returned (.tuple #[.slice va (dgD apex l).length vc, .int .i64 (dgE apex l)]) ∧ w'.ownsRow w.heap.size 5 1 (.slice va (dgD apex l).length vc) (dgD apex l).length (bc (dgD apex l))) ∧ Below w.heap.size w w' := by
  refine (digest_any apex a n c l w h hn hs ha).mono ?_
  rintro e w' ⟨hd, hb⟩
  refine ⟨?_, hb⟩
  rcases hd with ⟨h0, rfl⟩ | ⟨h0, va, vc, rfl, ho⟩
  · have hD : dgD apex l = [] := by rw [dgD, if_neg h0]
    rw [hD]
    exact ⟨none, 0, rfl, World.ownsRow_nil _ _ _ _⟩
  · have hD : dgD apex l = shaL (dgL apex l) := by rw [dgD, if_pos h0]
    rw [hD, h0, shaL_len]
    exact ⟨va, vc, rfl, ho⟩
theorem own_grownM {w w' : World} {B size n : Nat} {e : TypeId} {v : Value} {xs : List Value} {row : Option Nat} (h : w.ownsRow B e size v n xs) (hg : w.grownBy w' row) (hne : ∀ k, v.ownBlock = some k → row ≠ some k) : w'.ownsRow B e size v n xs := by
  refine ⟨h.1, ?_⟩
  rcases h.2 with hn | ⟨g', cap, cur, h1, h2, h3, rest⟩
  · exact .inl hn
  · have hlt : g' < w.heap.size := (Array.getElem?_eq_some_iff.1 h3).1
    exact .inr ⟨g', cap, cur, h1, h2, (hg.block g' hlt (fun e => hne g' (by rw [h1]; rfl) e.symm)).trans h3, rest⟩
theorem rowR_grownM {w w' : World} {a : Option Addr} {n : Nat} {l : List R5} {row : Option Nat} (h : RowR w a n l) (hg : w.grownBy w' row) (hne : ∀ b o, a = some ⟨b, o, none⟩ → row ≠ some b) : RowR w' a n l := by
  refine ⟨h.1, h.2.1, ?_⟩
  rcases h.2.2 with h0 | ⟨b, off, rfl, hlt, hc⟩
  · exact Or.inl h0
  · refine Or.inr ⟨b, off, rfl, Nat.lt_of_lt_of_le hlt hg.size, fun j u hj => ?_⟩
    rw [← hc j u hj]
    exact World.cell?_of_block (hg.block _ hlt (fun e => hne b off rfl e.symm))
theorem und_reflM {n : ByteArray} (h : mayN n = true) : undS n n = true := by rw [undS, h, undL_refl]; rfl
theorem dg_same {apex : ByteArray} {l m : List R5} (h : ∀ r, r ∈ m ↔ r ∈ l) : dgE apex m = dgE apex l ∧ dgD apex m = dgD apex l := by
  have e1 : dgE apex m = dgE apex l := by
    have : m.all mayM = l.all mayM := by
      refine Bool.eq_iff_iff.2 ?_
      rw [List.all_eq_true, List.all_eq_true]
      exact ⟨fun g r hr => g r ((h r).2 hr), fun g r hr => g r ((h r).1 hr)⟩
    rw [dgE, dgE, this]
  refine ⟨e1, ?_⟩
  rw [dgD, dgD, e1, dgL, dgL, onceF_congr ord_mcmp (p := cntB apex) (q := cntB apex) (l := m) (m := l) (fun r => by rw [h r])]
theorem dg_out {apex : ByteArray} {l : List R5} {r : R5} (h0 : dgE apex l = 0) (hm : mayM r = true) (hc : cntB apex r = false) : dgE apex (l ++ [r]) = 0 ∧ dgD apex (l ++ [r]) = dgD apex l := by
  obtain ⟨h1, h2⟩ := dgE_zero h0
  have e1 : dgE apex (l ++ [r]) = 0 := dgE_ok h1 (fun x hx => by
    rcases List.mem_append.1 hx with h | h
    · exact h2 x h
    · rw [List.mem_singleton.1 h]; exact hm)
  refine ⟨e1, ?_⟩
  have hi : ∀ x, (x ∈ l ++ [r] ∧ cntB apex x = true) ↔ (x ∈ l ∧ cntB apex x = true) := by
    intro x
    constructor
    · rintro ⟨hx, hp⟩
      rcases List.mem_append.1 hx with h | h
      · exact ⟨h, hp⟩
      · rw [List.mem_singleton.1 h, hc] at hp; cases hp
    · rintro ⟨hx, hp⟩
      exact ⟨List.mem_append.2 (Or.inl hx), hp⟩
  rw [dgD, dgD, if_pos e1, if_pos h0, dgL, dgL, onceF_congr ord_mcmp hi]
theorem cnt_out {apex rn : ByteArray} {rt rc ru : Int} {rd : ByteArray} (ha : mayN apex = true) (h : undS rn apex = false ∨ rn = apex ∧ rt = 63) : cntB apex ⟨⟨rn, rt, rc⟩, ru, rd⟩ = false := by
  by_cases e : rn = apex
  · rcases h with h | ⟨_, h⟩
    · rw [e, und_reflM ha] at h; cases h
    · rw [cntB, if_pos e]
      show (!(rt == 63) && _) = false
      rw [eT h]; rfl
  · rcases h with h | ⟨h, _⟩
    · rw [cntB, if_neg e]; exact h
    · exact absurd h e
set_option maxRecDepth 100000 in
set_option maxHeartbeats 32000000 in
theorem walkOutside (apex : ByteArray) (a : Option Addr) (n c : Nat) (l : List R5) (rn : ByteArray) (rt rc ru : Int) (rd : ByteArray) (t : Int) (w : World) (h : RowR w a n l) (hna : a = none → n = 0 ∧ c = 0) (hlen : n ≤ 9223372036854775807) (hz : ∀ r ∈ l, SzR r) (hzr : SzR ⟨⟨rn, rt, rc⟩, ru, rd⟩) :
    Calls Try.prog 6 #[.string apex, .slice a n c, .agg #[.string rn, .int .i64 rt, .int .i64 rc, .int .i64 ru, .string rd], .int .i64 t] w fun e w' => e = .returned (.bool true) ∧ Below w.heap.size w w' := by
  obtain ⟨i0, hi, hz0, hz1, hz2⟩ := info_parts infoRR
  have HI := Lib.hid hi
  have HZ0 := Lib.hid hz0
  have HZ1 := Lib.hid hz1
  have HZ2 := Lib.hid hz2
  clear hi hz0 hz1 hz2
  have HB := Lib.hid (Below.refl w.heap.size w)
  have HZ := Lib.hid hz
  have HZR := Lib.hid hzr
  have HR := Lib.hid h
  have HLN := Lib.hid h.1
  have HNA := Lib.hid hna
  clear hz hzr h hna
  go_enter Try.func6, Try.ntmps6
  have hba := (Below.refl _ _ : Below w.heap.size w w).alloc (Nat.le_refl _) (.cells #[.string rn, .int .i64 rt, .int .i64 rc, .int .i64 ru, .string rd] 30)
  have HC := Lib.hid (CN.new w #[.string rn, .int .i64 rt, .int .i64 rc, .int .i64 ru, .string rd] 30)
  replace HB := Lib.hid (HB.out.trans (hba.mono HB.out.size))
  replace HR := Lib.hid (HR.out.below hba)
  obtain ⟨w2, hw⟩ : ∃ x, w.alloc (.cells #[.string rn, .int .i64 rt, .int .i64 rc, .int .i64 ru, .string rd] 30) = x := ⟨_, rfl⟩
  obtain ⟨q2, hq⟩ : ∃ x, w.heap.size = x := ⟨_, rfl⟩
  rw [hw, hq] at HC
  rw [hw] at HB HR
  have HW := Lib.hid hw
  have HQ_ := Lib.hid hq
  clear hba hw hq
  go_upto_region 1 with (fail)
  rw [HW.out, HQ_.out]
  clear HW HQ_
  go_wp2_with fail
  refine (first9 _).mono ?_; rintro e w3 ⟨rfl, hb⟩
  replace HB := Lib.hid (HB.out.trans (hb.mono HB.out.size))
  replace HR := Lib.hid (HR.out.below hb)
  replace HC := Lib.hid (HC.out.below hb)
  clear hb
  go_wp2_with fail
  refine (few9 a n c l _ HR.out hlen HZ.out).mono ?_; rintro e w4 ⟨hf, hb⟩
  replace HB := Lib.hid (HB.out.trans (hb.mono HB.out.size))
  replace HR := Lib.hid (HR.out.below hb)
  replace HC := Lib.hid (HC.out.below hb)
  clear hb
  rcases hf with rfl | ⟨rfl, hn, hsx⟩
  · go_wp2_with fail
    refine (first9 _).mono ?_; rintro e w5 ⟨rfl, hb⟩
    replace HB := Lib.hid (HB.out.trans (hb.mono HB.out.size))
    replace HR := Lib.hid (HR.out.below hb)
    replace HC := Lib.hid (HC.out.below hb)
    clear hb
    go_wp2
    go_ret
    exact ⟨rfl, HB.out⟩
  · have HN := Lib.hid hn
    have HSX := Lib.hid hsx
    clear hsx
    obtain ⟨x0, x1, x2, x3, x4, _⟩ := HC.out.u5
    have hba := (Below.refl w4.heap.size w4).alloc (Nat.le_refl _) (.cells #[.string rn, .int .i64 rt, .int .i64 rc, .int .i64 ru, .string rd] 30)
    have HL := Lib.hid (show RowR (w4.alloc (.cells #[.string rn, .int .i64 rt, .int .i64 rc, .int .i64 ru, .string rd] 30)) (some ⟨w4.heap.size, 0, none⟩) 1 [⟨⟨rn, rt, rc⟩, ru, rd⟩] from ⟨rfl, cells_lit w4 #[.string rn, .int .i64 rt, .int .i64 rc, .int .i64 ru, .string rd] 30⟩)
    replace HB := Lib.hid (HB.out.trans (hba.mono HB.out.size))
    replace HR := Lib.hid (HR.out.below hba)
    replace HC := Lib.hid (HC.out.below hba)
    go_wp2_with fail
    refine (few9 _ 1 1 _ _ HL.out (by decide) (fun r hr => by rw [List.mem_singleton.1 hr]; exact HZR.out)).mono ?_; rintro e w5 ⟨hf, hb⟩
    clear hba HL
    clear x0 x1 x2 x3 x4
    replace HB := Lib.hid (HB.out.trans (hb.mono HB.out.size))
    replace HR := Lib.hid (HR.out.below hb)
    replace HC := Lib.hid (HC.out.below hb)
    clear hb
    rcases hf with rfl | ⟨rfl, -, hsx⟩
    · go_wp2_with fail
      refine (first9 _).mono ?_; rintro e w6 ⟨rfl, hb⟩
      replace HB := Lib.hid (HB.out.trans (hb.mono HB.out.size))
      replace HR := Lib.hid (HR.out.below hb)
      replace HC := Lib.hid (HC.out.below hb)
      clear hb
      go_wp2
      go_ret
      exact ⟨rfl, HB.out⟩
    · have HSR := Lib.hid (hsx _ (List.mem_singleton.2 rfl))
      clear hsx
      by_cases ga : 1000 < apex.size
      · have d1 := dT ga
        have d2 := dT (p := (1000 : Int) < (apex.size : Int)) (by omega)
        clear ga
        go_wp2_with fail
        refine (first9 _).mono ?_; rintro e w6 ⟨rfl, hb⟩
        replace HB := Lib.hid (HB.out.trans (hb.mono HB.out.size))
        replace HR := Lib.hid (HR.out.below hb)
        replace HC := Lib.hid (HC.out.below hb)
        clear hb
        go_wp2
        go_ret
        exact ⟨rfl, HB.out⟩
      · have d1 := dF ga
        have d2 := dF (p := (1000 : Int) < (apex.size : Int)) (by omega)
        have HA := Lib.hid (show apex.size ≤ 1000000 by omega)
        clear ga
        by_cases gt : t < 0
        · have d3 := dT gt
          clear gt
          go_wp2_with fail
          refine (first9 _).mono ?_; rintro e w6 ⟨rfl, hb⟩
          replace HB := Lib.hid (HB.out.trans (hb.mono HB.out.size))
          replace HR := Lib.hid (HR.out.below hb)
          replace HC := Lib.hid (HC.out.below hb)
          clear hb
          go_wp2
          go_ret
          exact ⟨rfl, HB.out⟩
        · have d3 := dF gt
          obtain ⟨tn, rfl⟩ : ∃ tn : Nat, t = (tn : Int) := ⟨t.toNat, by omega⟩
          clear gt
          obtain ⟨E, hE⟩ : ∃ x, dgE apex l = x := ⟨_, rfl⟩
          obtain ⟨DL, hDL⟩ : ∃ x, dgD apex l = x := ⟨_, rfl⟩
          obtain ⟨nd, hnd⟩ : ∃ x, DL.length = x := ⟨_, rfl⟩
          have HE := Lib.hid hE
          have HDL := Lib.hid hDL
          have HND := Lib.hid hnd
          clear hE hDL hnd hn
          go_wp2_with fail
          refine (digest_one apex _ _ _ l _ HR.out (by have := HN.out; omega) HSX.out HA.out).mono ?_; rintro e w6 ⟨⟨v1, u1, rfl, ho⟩, hb⟩
          replace HB := Lib.hid (HB.out.trans (hb.mono HB.out.size))
          replace HR := Lib.hid (HR.out.below hb)
          replace HC := Lib.hid (HC.out.below hb)
          clear hb
          rw [HE.out, HDL.out, HND.out]
          rw [HDL.out, HND.out] at ho
          have HD1 := Lib.hid ho
          clear ho d1 d2 d3
          have HBS := Lib.hid HB.out.size
          go_wp2_with fail
          go_loopw [12, 11] (fun i v wr => ∃ (k : Nat) (Tl : List R5), k ≤ n ∧ i = .int .i64 k ∧ Hid (Tl.length = k) ∧ Hid (∀ r ∈ Tl, r ∈ l) ∧ Hid (wr.ownsRow w6.heap.size 30 5 v k (flatR Tl)) ∧ Hid (Below w6.heap.size w6 wr)) (fun i _ _ => n - (intOf i).toNat)
          case atStart => exact ⟨0, [], Nat.zero_le _, rfl, Lib.hid rfl, Lib.hid (fun r hr => by cases hr), Lib.hid (World.ownsRow_nil _ _ _ _), Lib.hid (Below.refl _ _)⟩
          case round =>
            obtain ⟨k, Tl, hk, rfl, HTL, HTM, HO, HW⟩ := hrel
            by_cases hlt : k < n
            · obtain ⟨r0, hr0⟩ : ∃ x, tn % n = x := ⟨_, rfl⟩
              have hrl : r0 < n := by rw [← hr0]; exact Nat.mod_lt _ (by omega)
              obtain ⟨s, hs⟩ : ∃ x, k + r0 = x := ⟨_, rfl⟩
              obtain ⟨j, hj⟩ : ∃ x, s % n = x := ⟨_, rfl⟩
              have hjl : j < n := by rw [← hj]; exact Nat.mod_lt _ (by omega)
              have hn60 : n ≤ 60 := HN.out
              obtain ⟨b, of, r, rfl, hbl, hr, x0, x1, x2, x3, x4⟩ := (HR.out.below HW.out).at j hjl
              have HRM := Lib.hid (List.mem_of_getElem? hr)
              obtain ⟨⟨xn, xt, xc⟩, xu, xd⟩ := r
              replace x0 : wr.cell? ⟨b, of + j * 5, none⟩ = some (.string xn) := x0
              replace x1 : wr.cell? ⟨b, of + j * 5 + 1, none⟩ = some (.int .i64 xt) := x1
              replace x2 : wr.cell? ⟨b, of + j * 5 + 2, none⟩ = some (.int .i64 xc) := x2
              replace x3 : wr.cell? ⟨b, of + j * 5 + 3, none⟩ = some (.int .i64 xu) := x3
              replace x4 : wr.cell? ⟨b, of + j * 5 + 4, none⟩ = some (.string xd) := x4
              have i1 : (0 : Int) ≤ (j : Int) := by omega
              have i2 : (j : Int) < (n : Int) := by omega
              have hn0 : ¬ ((n : Int) = 0) := by omega
              have hm1 : (tn : Int).tmod (n : Int) = (r0 : Int) := by rw [← hr0]; exact (Int.ofNat_tmod tn n).symm
              have hm2 : (s : Int).tmod (n : Int) = (j : Int) := by rw [← hj]; exact (Int.ofNat_tmod s n).symm
              have hw1 : IntKind.i64.wrap ((k : Int) + (r0 : Int)) = (s : Int) := by rw [IntKind.wrap_i64]; omega
              have hw2 : IntKind.i64.wrap (r0 : Int) = (r0 : Int) := by rw [IntKind.wrap_i64]; omega
              have hw3 : IntKind.i64.wrap (j : Int) = (j : Int) := by rw [IntKind.wrap_i64]; omega
              have HLT := Lib.hid hlt
              have HAL := Lib.hid ((Below.refl wr.heap.size wr).alloc (Nat.le_refl _) (.cells #[.string xn, .int .i64 xt, .int .i64 xc, .int .i64 xu, .string xd] 30))
              clear hr hbl hrl hr0 hs hj hjl hn60
              go_wp2_with (at_builtin; refine append_cellsK rfl _ _ 22 30 rfl i0 _ 5 56 Try.underlying22 HI.out HZ0.out HZ1.out HZ2.out rfl (by decide) w6.heap.size _ k _ rfl (own_below' HO.out HAL.out) (some ⟨wr.heap.size, 0, none⟩) 1 1 (encR ⟨⟨xn, xt, xc⟩, xu, xd⟩) rfl (fun h => by cases h) (cells_lit wr #[.string xn, .int .i64 xt, .int .i64 xc, .int .i64 xu, .string xd] _) (fun u hu => flatR_oneM (l := [⟨⟨xn, xt, xc⟩, xu, xd⟩]) (by simpa [flatR] using hu)) (by have := HLT.out; have := HN.out; omega) (by decide) (by have := HW.out.size; simp; omega) ?_)
              intro v' w6 hown' hgrow'
              have HO3 := Lib.hid hown'
              have HB3 := Lib.hid ((HW.out.trans (HAL.out.mono HW.out.size)).grown hgrow' (by have := HW.out.size; simp; omega) (fun k hk => (HO.out.lt k hk).1))
              have HTM2 := Lib.hid (show ∀ r ∈ Tl ++ [⟨⟨xn, xt, xc⟩, xu, xd⟩], r ∈ l from fun r hr => by
                rcases List.mem_append.1 hr with h | h
                · exact HTM.out r h
                · rw [List.mem_singleton.1 h]; exact HRM.out)
              clear hown' hgrow'
              have hk60 : (k : Int) < 60 := by have := HLT.out; have := HN.out; omega
              go_wp2
              go_roundw
              case rel => exact ⟨k + 1, Tl ++ [⟨⟨xn, xt, xc⟩, xu, xd⟩], by have := HLT.out; omega, by have := HLT.out; go_num, Lib.hid (by rw [List.length_append, HTL.out]; rfl), HTM2, Lib.hid (by rw [flatR_append]; simpa [flatR] using HO3.out), HB3⟩
              case measure => have := HLT.out; simp [intOf]; omega
            · obtain rfl : k = n := by omega
              clear hlt hk
              go_wp2_with (at_builtin; refine append_cellsK rfl _ _ 22 30 rfl i0 _ 5 56 Try.underlying22 HI.out HZ0.out HZ1.out HZ2.out rfl (by decide) w6.heap.size _ k _ rfl HO.out a k c (flatR l) rfl HNA.out (HR.out.below HW.out).2 (fun u hu => flatR_oneM hu) (by have := HN.out; omega) (by decide) HW.out.size ?_)
              intro v' wq6 hown' hgrow'
              have hb := HW.out.grown hgrow' HW.out.size (fun k hk => (HO.out.lt k hk).1)
              replace HB := Lib.hid (HB.out.trans (hb.mono HB.out.size))
              replace HR := Lib.hid (HR.out.below hb)
              replace HC := Lib.hid (HC.out.below hb)
              replace HD1 := Lib.hid (own_below' HD1.out hb)
              obtain ⟨a7, c7, rfl, hrr, _⟩ := rowR_own (l := Tl ++ l) (show wq6.ownsRow w6.heap.size 30 5 v' (k + k) (flatR (Tl ++ l)) by rw [flatR_append]; exact hown')
              obtain ⟨k2, hk2⟩ : ∃ x, k + k = x := ⟨_, rfl⟩
              rw [hk2] at hrr ⊢
              have HK2 := Lib.hid hk2
              have HRR := Lib.hid hrr
              have HDS := Lib.hid (dg_same (apex := apex) (l := l) (m := Tl ++ l) (fun r => ⟨fun h => by rcases List.mem_append.1 h with h | h; exact HTM.out r h; exact h, fun h => List.mem_append.2 (Or.inr h)⟩))
              clear hb hown' hgrow' hrr hk2 HO HW
              have HSX2 := Lib.hid (show ∀ r ∈ Tl ++ l, SmX r from fun r h => by rcases List.mem_append.1 h with h | h; exact HSX.out r (HTM.out r h); exact HSX.out r h)
              go_wp2_with fail
              refine (digest_one apex _ _ _ (Tl ++ l) _ HRR.out (by have := HN.out; have := HK2.out; omega) HSX2.out HA.out).mono ?_; rintro e w7 ⟨⟨v2, u2, rfl, ho⟩, hb⟩
              replace HB := Lib.hid (HB.out.trans (hb.mono HB.out.size))
              replace HR := Lib.hid (HR.out.below hb)
              replace HC := Lib.hid (HC.out.below hb)
              replace HD1 := Lib.hid (own_below' HD1.out hb)
              clear hb
              rw [HDS.out.1, HDS.out.2, HE.out, HDL.out, HND.out]
              rw [HDS.out.2, HDL.out, HND.out] at ho
              have HD2 := Lib.hid ho
              clear ho HRR
              go_wp2_with fail
              refine (bytes_same _ _ nd u1 u2 DL _ (RowB.of_own HD1.out).1 (RowB.of_own HD2.out).1 (RowB.of_own HD1.out).2 (RowB.of_own HD2.out).2).mono ?_; rintro e w8 ⟨rfl, rfl⟩
              clear HD2
              by_cases hE0 : E = 0
              rotate_left
              · have e1 := nT hE0
                clear hE0
                go_wp2_with fail
                refine (first9 _).mono ?_; rintro e w9 ⟨rfl, hb⟩
                replace HB := Lib.hid (HB.out.trans (hb.mono HB.out.size))
                replace HR := Lib.hid (HR.out.below hb)
                replace HC := Lib.hid (HC.out.below hb)
                replace HD1 := Lib.hid (own_below' HD1.out hb)
                clear hb
                go_wp2
                go_ret
                exact ⟨rfl, HB.out⟩
              · subst hE0
                obtain ⟨x0, x1, x2, x3, x4, _⟩ := HC.out.u5
                go_wp2_with fail
                refine (mayRR_any rn rt rc ru rd _ HSR.out.1 HSR.out.2).mono ?_; rintro e w9 ⟨rfl, hb⟩
                clear x0 x1 x2 x3 x4
                replace HB := Lib.hid (HB.out.trans (hb.mono HB.out.size))
                replace HR := Lib.hid (HR.out.below hb)
                replace HC := Lib.hid (HC.out.below hb)
                replace HD1 := Lib.hid (own_below' HD1.out hb)
                clear hb
                cases hm : mayR rn rt rc ru rd
                · clear hm
                  go_wp2_with fail
                  refine (first9 _).mono ?_; rintro e w10 ⟨rfl, hb⟩
                  replace HB := Lib.hid (HB.out.trans (hb.mono HB.out.size))
                  replace HR := Lib.hid (HR.out.below hb)
                  replace HC := Lib.hid (HC.out.below hb)
                  replace HD1 := Lib.hid (own_below' HD1.out hb)
                  clear hb
                  go_wp2
                  go_ret
                  exact ⟨rfl, HB.out⟩
                · have HM := Lib.hid (show mayM ⟨⟨rn, rt, rc⟩, ru, rd⟩ = true from hm)
                  clear hm
                  obtain ⟨x0, x1, x2, x3, x4, _⟩ := HC.out.u5
                  go_wp2_with fail
                  refine (runder_any rn apex _ HSR.out.1 HA.out).mono ?_; rintro e w10 ⟨rfl, hb⟩
                  clear x0 x1 x2 x3 x4
                  replace HB := Lib.hid (HB.out.trans (hb.mono HB.out.size))
                  replace HR := Lib.hid (HR.out.below hb)
                  replace HC := Lib.hid (HC.out.below hb)
                  replace HD1 := Lib.hid (own_below' HD1.out hb)
                  clear hb
                  cases hu : undS rn apex
                  · have HCN := Lib.hid (cnt_out (rt := rt) (rc := rc) (ru := ru) (rd := rd) (dgE_zero HE.out).1 (Or.inl hu))
                    clear hu
                    obtain ⟨x0, x1, x2, x3, x4, _⟩ := HC.out.u5
                    go_upto_region 16 with (fail)
                    clear x0 x1 x2 x3 x4
                    try clear hv e1
                    refine wp_region_held_drew (S := (fun wx => Hid (Below w10.heap.size w10 wx))) (by kernel_rfl) (Lib.hid (Below.refl _ _).drew) (fun hHeld => ?_)
                    obtain ⟨wz0, hwd⟩ : ∃ z, w10.drew = z := ⟨_, rfl⟩
                    rw [hwd] at hHeld ⊢
                    clear hwd
                    refine Plan.of [0, 1, 3] ?_
                    iterate 3 (refine Plan.w (v := ?_) rfl hHeld (by rfl) ?_ ?_; rotate_left; (focus (intro w hSw; (try dsimp only at hSw); have hca := HC.out.below hSw.out; have s0 := (hca.2 0 _ rfl).1; have s1 := (hca.2 1 _ rfl).1; have s2 := (hca.2 2 _ rfl).1; have s3 := (hca.2 3 _ rfl).1; have s4 := (hca.2 4 _ rfl).1; go_simp; try with_reducible rfl)); try simp only [Act.put, List.setIfInBounds_toArray, List.set_cons_zero, List.set_cons_succ])
                    refine Plan.fin ?_
                    refine wpAnyH_ready (rs := [2, 4]) (by kernel_rfl) (by simp) ?_
                    refine AllReadyH.cons (o := { dst := some 110, op := Go.Op.call { callee := Go.Callee.value (Go.Operand.func 13), args := #[Go.Operand.tmp 109], argTypes := #[22] }, type := 22, pos := "extra.go:50", after := #[{ on := 1, ground := Go.Ground.data }], guard := none }) rfl (fun K hK => ?_) (AllReadyH.cons (o := { dst := some 112, op := Go.Op.buildSlice 22 1 #[(0, Go.Operand.tmp 111)], type := 22, pos := "extra.go:50", after := #[{ on := 3, ground := Go.Ground.data }], guard := none }) rfl (fun K hK => ?_) AllReadyH.nil)
                    · go_simp
                      refine (copyRRs_any a k c l _ (HR.out.below hHeld.out) HNA.out (by have := HN.out; omega)).mono ?_; rintro e wz1 ⟨vc, rfl, hown, hb⟩
                      have HO := Lib.hid (own_monoM (base' := w10.heap.size) hown hHeld.out.size)
                      clear hown
                      refine hK.out _ _ (Lib.hid (hHeld.out.trans (hb.mono hHeld.out.size))) (fun hHeld2 => ?_)
                      clear hK K hHeld
                      have hHeld := hHeld2
                      clear hHeld2
                      try simp only [Act.put, List.setIfInBounds_toArray, List.set_cons_zero, List.set_cons_succ]
                      refine wpAnyH_ready (rs := [4]) (by kernel_rfl) (by simp) ?_
                      refine AllReadyH.cons (o := { dst := some 112, op := Go.Op.buildSlice 22 1 #[(0, Go.Operand.tmp 111)], type := 22, pos := "extra.go:50", after := #[{ on := 3, ground := Go.Ground.data }], guard := none }) rfl (fun K hK => ?_) AllReadyH.nil
                      go_simp
                      have hb := (Below.refl _ _ : Below wz1.heap.size wz1 wz1).alloc (Nat.le_refl _) (.cells #[.string rn, .int .i64 rt, .int .i64 rc, .int .i64 ru, .string rd] 30)
                      have HLIT := Lib.hid (show CellsAt (wz1.alloc (.cells #[.string rn, .int .i64 rt, .int .i64 rc, .int .i64 ru, .string rd] 30)) (some ⟨wz1.heap.size, 0, none⟩) (1 * 5) (encR ⟨⟨rn, rt, rc⟩, ru, rd⟩) from cells_lit wz1 #[.string rn, .int .i64 rt, .int .i64 rc, .int .i64 ru, .string rd] 30)
                      obtain ⟨wz2, hw⟩ : ∃ x, wz1.alloc (.cells #[.string rn, .int .i64 rt, .int .i64 rc, .int .i64 ru, .string rd] 30) = x := ⟨_, rfl⟩
                      obtain ⟨ge, hge⟩ : ∃ x, wz1.heap.size = x := ⟨_, rfl⟩
                      rw [hw] at hb HLIT ⊢
                      rw [hge] at HLIT ⊢
                      replace HO := Lib.hid (own_below' HO.out hb)
                      clear hw hge
                      refine hK.out _ _ (Lib.hid (hHeld.out.trans (hb.mono hHeld.out.size))) (fun hHeld2 => ?_)
                      clear hK K hHeld
                      have hHeld := hHeld2
                      clear hHeld2
                      try simp only [Act.put, List.setIfInBounds_toArray, List.set_cons_zero, List.set_cons_succ]
                      refine wpAnyH_ready (rs := [5]) (by kernel_rfl) (by simp) ?_
                      refine AllReadyH.cons (o := { dst := some 113, op := Go.Op.call { callee := Go.Callee.builtin Go.Builtin.append, args := #[Go.Operand.tmp 110, Go.Operand.tmp 112], argTypes := #[22, 22] }, type := 22, pos := "extra.go:50", after := #[{ on := 2, ground := Go.Ground.data }, { on := 4, ground := Go.Ground.data }, { on := 2, ground := Go.Ground.chain }], guard := none }) rfl (fun K hK => ?_) AllReadyH.nil
                      refine step_append_cellsK (by rfl) _ _ 22 30 (by rfl) i0 _ 5 56 Try.underlying22 HI.out HZ0.out HZ1.out HZ2.out rfl (by decide) w10.heap.size _ k _ (by rfl) HO.out (some ⟨ge, 0, none⟩) 1 1 (encR ⟨⟨rn, rt, rc⟩, ru, rd⟩) (by rfl) (fun h => by cases h) HLIT.out (fun u hu => flatR_oneM (l := [⟨⟨rn, rt, rc⟩, ru, rd⟩]) (by simpa [flatR] using hu)) (by have := HN.out; omega) (by decide) (hHeld.out.size) ?_
                      intro v5 wz3 hown hgrow
                      have hbg := hHeld.out.grown hgrow hHeld.out.size (fun k hk => (HO.out.lt k hk).1)
                      have HOX := Lib.hid hown
                      clear hown hgrow HLIT
                      refine hK.out _ _ (Lib.hid hbg) (fun hHeld2 => ?_)
                      clear hK K hHeld
                      have hHeld := hHeld2
                      clear hHeld2
                      try simp only [Act.put, List.setIfInBounds_toArray, List.set_cons_zero, List.set_cons_succ]
                      refine wpAnyH_ready (rs := [6]) (by kernel_rfl) (by simp) ?_
                      refine AllReadyH.cons (o := { dst := some 114, op := Go.Op.call { callee := Go.Callee.value (Go.Operand.func 16), args := #[Go.Operand.tmp 108, Go.Operand.tmp 113], argTypes := #[9, 22] }, type := 41, pos := "extra.go:50", after := #[{ on := 0, ground := Go.Ground.data }, { on := 5, ground := Go.Ground.data }, { on := 5, ground := Go.Ground.chain }], guard := none }) rfl (fun K hK => ?_) AllReadyH.nil
                      obtain ⟨ta, tc, rfl, hrt, hnt⟩ := rowR_own (l := (l ++ [⟨⟨rn, rt, rc⟩, ru, rd⟩])) (show wz3.ownsRow w10.heap.size 30 5 v5 (k + 1) (flatR (l ++ [⟨⟨rn, rt, rc⟩, ru, rd⟩])) by rw [flatR_append]; simpa [flatR] using HOX.out)
                      clear HOX
                      go_simp
                      refine (digest_one apex _ _ _ (l ++ [⟨⟨rn, rt, rc⟩, ru, rd⟩]) _ hrt (by have := HN.out; omega) (fun r hr => by rcases List.mem_append.1 hr with h | h; exact HSX.out r h; rw [List.mem_singleton.1 h]; exact HSR.out) HA.out).mono ?_; rintro e wz4 ⟨⟨v3, u3, rfl, ho⟩, hb⟩
                      have HDO := Lib.hid (dg_out HE.out HM.out HCN.out)
                      rw [HDO.out.1, HDO.out.2, HDL.out, HND.out]
                      rw [HDO.out.2, HDL.out, HND.out] at ho
                      have HD3 := Lib.hid ho
                      clear ho hrt hnt HDO
                      refine hK.out _ _ (Lib.hid (hHeld.out.trans (hb.mono hHeld.out.size))) (fun hHeld2 => ?_)
                      clear hK K hHeld
                      have hHeld := hHeld2
                      clear hHeld2
                      try simp only [Act.put, List.setIfInBounds_toArray, List.set_cons_zero, List.set_cons_succ]
                      refine Plan.of [7, 8, 9, 10, 11] ?_
                      iterate 5 (refine Plan.w (v := ?_) rfl hHeld (by rfl) ?_ ?_; rotate_left; (focus (intro w hSw; (try dsimp only at hSw); have hca := HC.out.below hSw.out; have s0 := (hca.2 0 _ rfl).1; have s1 := (hca.2 1 _ rfl).1; have s2 := (hca.2 2 _ rfl).1; have s3 := (hca.2 3 _ rfl).1; have s4 := (hca.2 4 _ rfl).1; go_simp; try with_reducible rfl)); try simp only [Act.put, List.setIfInBounds_toArray, List.set_cons_zero, List.set_cons_succ])
                      refine Plan.fin ?_
                      refine wpAnyH_done (by kernel_rfl) ?_ _
                      have hb := hHeld.out
                      replace HB := Lib.hid (HB.out.trans (hb.mono HB.out.size))
                      replace HR := Lib.hid (HR.out.below hb)
                      replace HC := Lib.hid (HC.out.below hb)
                      replace HD1 := Lib.hid (own_below' HD1.out hb)
                      clear hb hHeld HO
                      go_wp2_with fail
                      refine (first9 _).mono ?_; rintro e w11 ⟨rfl, hb⟩
                      replace HB := Lib.hid (HB.out.trans (hb.mono HB.out.size))
                      replace HR := Lib.hid (HR.out.below hb)
                      replace HC := Lib.hid (HC.out.below hb)
                      replace HD1 := Lib.hid (own_below' HD1.out hb)
                      have HF9 := Lib.hid hb
                      clear hb
                      replace HD3 := Lib.hid (own_below' HD3.out HF9.out)
                      have HN48 := Lib.hid (show nd = 48 by rw [← HND.out, ← HDL.out, dgD, if_pos HE.out, shaL_len])
                      have hd48 : (nd == 48) = true := by rw [HN48.out]; rfl
                      obtain rfl := HN48.out
                      go_wp2_with fail
                      refine (bytes_same _ _ 48 u3 u1 DL _ (RowB.of_own HD3.out).1 (RowB.of_own HD1.out).1 (RowB.of_own HD3.out).2 (RowB.of_own HD1.out).2).mono ?_; rintro e w12 ⟨rfl, rfl⟩
                      go_wp2
                      go_ret
                      exact ⟨rfl, HB.out⟩
                    · go_simp
                      have hb := (Below.refl _ _ : Below wz0.heap.size wz0 wz0).alloc (Nat.le_refl _) (.cells #[.string rn, .int .i64 rt, .int .i64 rc, .int .i64 ru, .string rd] 30)
                      have HLIT := Lib.hid (show CellsAt (wz0.alloc (.cells #[.string rn, .int .i64 rt, .int .i64 rc, .int .i64 ru, .string rd] 30)) (some ⟨wz0.heap.size, 0, none⟩) (1 * 5) (encR ⟨⟨rn, rt, rc⟩, ru, rd⟩) from cells_lit wz0 #[.string rn, .int .i64 rt, .int .i64 rc, .int .i64 ru, .string rd] 30)
                      obtain ⟨wz1, hw⟩ : ∃ x, wz0.alloc (.cells #[.string rn, .int .i64 rt, .int .i64 rc, .int .i64 ru, .string rd] 30) = x := ⟨_, rfl⟩
                      obtain ⟨ge, hge⟩ : ∃ x, wz0.heap.size = x := ⟨_, rfl⟩
                      rw [hw] at hb HLIT ⊢
                      rw [hge] at HLIT ⊢
                      clear hw hge
                      refine hK.out _ _ (Lib.hid (hHeld.out.trans (hb.mono hHeld.out.size))) (fun hHeld2 => ?_)
                      clear hK K hHeld
                      have hHeld := hHeld2
                      clear hHeld2
                      try simp only [Act.put, List.setIfInBounds_toArray, List.set_cons_zero, List.set_cons_succ]
                      refine wpAnyH_ready (rs := [2]) (by kernel_rfl) (by simp) ?_
                      refine AllReadyH.cons (o := { dst := some 110, op := Go.Op.call { callee := Go.Callee.value (Go.Operand.func 13), args := #[Go.Operand.tmp 109], argTypes := #[22] }, type := 22, pos := "extra.go:50", after := #[{ on := 1, ground := Go.Ground.data }], guard := none }) rfl (fun K hK => ?_) AllReadyH.nil
                      go_simp
                      refine (copyRRs_any a k c l _ (HR.out.below hHeld.out) HNA.out (by have := HN.out; omega)).mono ?_; rintro e wz2 ⟨vc, rfl, hown, hb⟩
                      have HO := Lib.hid (own_monoM (base' := w10.heap.size) hown hHeld.out.size)
                      clear hown
                      replace HLIT := Lib.hid (HLIT.out.below hb)
                      refine hK.out _ _ (Lib.hid (hHeld.out.trans (hb.mono hHeld.out.size))) (fun hHeld2 => ?_)
                      clear hK K hHeld
                      have hHeld := hHeld2
                      clear hHeld2
                      try simp only [Act.put, List.setIfInBounds_toArray, List.set_cons_zero, List.set_cons_succ]
                      refine wpAnyH_ready (rs := [5]) (by kernel_rfl) (by simp) ?_
                      refine AllReadyH.cons (o := { dst := some 113, op := Go.Op.call { callee := Go.Callee.builtin Go.Builtin.append, args := #[Go.Operand.tmp 110, Go.Operand.tmp 112], argTypes := #[22, 22] }, type := 22, pos := "extra.go:50", after := #[{ on := 2, ground := Go.Ground.data }, { on := 4, ground := Go.Ground.data }, { on := 2, ground := Go.Ground.chain }], guard := none }) rfl (fun K hK => ?_) AllReadyH.nil
                      refine step_append_cellsK (by rfl) _ _ 22 30 (by rfl) i0 _ 5 56 Try.underlying22 HI.out HZ0.out HZ1.out HZ2.out rfl (by decide) w10.heap.size _ k _ (by rfl) HO.out (some ⟨ge, 0, none⟩) 1 1 (encR ⟨⟨rn, rt, rc⟩, ru, rd⟩) (by rfl) (fun h => by cases h) HLIT.out (fun u hu => flatR_oneM (l := [⟨⟨rn, rt, rc⟩, ru, rd⟩]) (by simpa [flatR] using hu)) (by have := HN.out; omega) (by decide) (hHeld.out.size) ?_
                      intro v5 wz3 hown hgrow
                      have hbg := hHeld.out.grown hgrow hHeld.out.size (fun k hk => (HO.out.lt k hk).1)
                      have HOX := Lib.hid hown
                      clear hown hgrow HLIT
                      refine hK.out _ _ (Lib.hid hbg) (fun hHeld2 => ?_)
                      clear hK K hHeld
                      have hHeld := hHeld2
                      clear hHeld2
                      try simp only [Act.put, List.setIfInBounds_toArray, List.set_cons_zero, List.set_cons_succ]
                      refine wpAnyH_ready (rs := [6]) (by kernel_rfl) (by simp) ?_
                      refine AllReadyH.cons (o := { dst := some 114, op := Go.Op.call { callee := Go.Callee.value (Go.Operand.func 16), args := #[Go.Operand.tmp 108, Go.Operand.tmp 113], argTypes := #[9, 22] }, type := 41, pos := "extra.go:50", after := #[{ on := 0, ground := Go.Ground.data }, { on := 5, ground := Go.Ground.data }, { on := 5, ground := Go.Ground.chain }], guard := none }) rfl (fun K hK => ?_) AllReadyH.nil
                      obtain ⟨ta, tc, rfl, hrt, hnt⟩ := rowR_own (l := (l ++ [⟨⟨rn, rt, rc⟩, ru, rd⟩])) (show wz3.ownsRow w10.heap.size 30 5 v5 (k + 1) (flatR (l ++ [⟨⟨rn, rt, rc⟩, ru, rd⟩])) by rw [flatR_append]; simpa [flatR] using HOX.out)
                      clear HOX
                      go_simp
                      refine (digest_one apex _ _ _ (l ++ [⟨⟨rn, rt, rc⟩, ru, rd⟩]) _ hrt (by have := HN.out; omega) (fun r hr => by rcases List.mem_append.1 hr with h | h; exact HSX.out r h; rw [List.mem_singleton.1 h]; exact HSR.out) HA.out).mono ?_; rintro e wz4 ⟨⟨v3, u3, rfl, ho⟩, hb⟩
                      have HDO := Lib.hid (dg_out HE.out HM.out HCN.out)
                      rw [HDO.out.1, HDO.out.2, HDL.out, HND.out]
                      rw [HDO.out.2, HDL.out, HND.out] at ho
                      have HD3 := Lib.hid ho
                      clear ho hrt hnt HDO
                      refine hK.out _ _ (Lib.hid (hHeld.out.trans (hb.mono hHeld.out.size))) (fun hHeld2 => ?_)
                      clear hK K hHeld
                      have hHeld := hHeld2
                      clear hHeld2
                      try simp only [Act.put, List.setIfInBounds_toArray, List.set_cons_zero, List.set_cons_succ]
                      refine Plan.of [7, 8, 9, 10, 11] ?_
                      iterate 5 (refine Plan.w (v := ?_) rfl hHeld (by rfl) ?_ ?_; rotate_left; (focus (intro w hSw; (try dsimp only at hSw); have hca := HC.out.below hSw.out; have s0 := (hca.2 0 _ rfl).1; have s1 := (hca.2 1 _ rfl).1; have s2 := (hca.2 2 _ rfl).1; have s3 := (hca.2 3 _ rfl).1; have s4 := (hca.2 4 _ rfl).1; go_simp; try with_reducible rfl)); try simp only [Act.put, List.setIfInBounds_toArray, List.set_cons_zero, List.set_cons_succ])
                      refine Plan.fin ?_
                      refine wpAnyH_done (by kernel_rfl) ?_ _
                      have hb := hHeld.out
                      replace HB := Lib.hid (HB.out.trans (hb.mono HB.out.size))
                      replace HR := Lib.hid (HR.out.below hb)
                      replace HC := Lib.hid (HC.out.below hb)
                      replace HD1 := Lib.hid (own_below' HD1.out hb)
                      clear hb hHeld HO
                      go_wp2_with fail
                      refine (first9 _).mono ?_; rintro e w11 ⟨rfl, hb⟩
                      replace HB := Lib.hid (HB.out.trans (hb.mono HB.out.size))
                      replace HR := Lib.hid (HR.out.below hb)
                      replace HC := Lib.hid (HC.out.below hb)
                      replace HD1 := Lib.hid (own_below' HD1.out hb)
                      have HF9 := Lib.hid hb
                      clear hb
                      replace HD3 := Lib.hid (own_below' HD3.out HF9.out)
                      have HN48 := Lib.hid (show nd = 48 by rw [← HND.out, ← HDL.out, dgD, if_pos HE.out, shaL_len])
                      have hd48 : (nd == 48) = true := by rw [HN48.out]; rfl
                      obtain rfl := HN48.out
                      go_wp2_with fail
                      refine (bytes_same _ _ 48 u3 u1 DL _ (RowB.of_own HD3.out).1 (RowB.of_own HD1.out).1 (RowB.of_own HD3.out).2 (RowB.of_own HD1.out).2).mono ?_; rintro e w12 ⟨rfl, rfl⟩
                      go_wp2
                      go_ret
                      exact ⟨rfl, HB.out⟩
                  · obtain ⟨v, hv⟩ : ∃ v, (rn.toList == apex.toList) = v := ⟨_, rfl⟩
                    obtain ⟨x0, x1, x2, x3, x4, _⟩ := HC.out.u5
                    cases v
                    · clear hu
                      go_wp2_with fail
                      refine (first9 _).mono ?_; rintro e w11 ⟨rfl, hb⟩
                      clear x0 x1 x2 x3 x4
                      replace HB := Lib.hid (HB.out.trans (hb.mono HB.out.size))
                      replace HR := Lib.hid (HR.out.below hb)
                      replace HC := Lib.hid (HC.out.below hb)
                      replace HD1 := Lib.hid (own_below' HD1.out hb)
                      clear hb
                      go_wp2
                      go_ret
                      exact ⟨rfl, HB.out⟩
                    · by_cases h63 : rt = 63
                      rotate_left
                      · have e1 := nT h63
                        clear hu h63
                        go_wp2_with fail
                        refine (first9 _).mono ?_; rintro e w11 ⟨rfl, hb⟩
                        clear x0 x1 x2 x3 x4
                        replace HB := Lib.hid (HB.out.trans (hb.mono HB.out.size))
                        replace HR := Lib.hid (HR.out.below hb)
                        replace HC := Lib.hid (HC.out.below hb)
                        replace HD1 := Lib.hid (own_below' HD1.out hb)
                        clear hb
                        go_wp2
                        go_ret
                        exact ⟨rfl, HB.out⟩
                      · have HCN := Lib.hid (cnt_out (rc := rc) (ru := ru) (rd := rd) (dgE_zero HE.out).1 (Or.inr ⟨str_eqM (beq_iff_eq.1 hv), h63⟩))
                        have e1 := nF h63
                        clear hu h63
                        go_upto_region 16 with (fail)
                        clear x0 x1 x2 x3 x4
                        try clear hv e1
                        refine wp_region_held_drew (S := (fun wx => Hid (Below w10.heap.size w10 wx))) (by kernel_rfl) (Lib.hid (Below.refl _ _).drew) (fun hHeld => ?_)
                        obtain ⟨wz0, hwd⟩ : ∃ z, w10.drew = z := ⟨_, rfl⟩
                        rw [hwd] at hHeld ⊢
                        clear hwd
                        refine Plan.of [0, 1, 3] ?_
                        iterate 3 (refine Plan.w (v := ?_) rfl hHeld (by rfl) ?_ ?_; rotate_left; (focus (intro w hSw; (try dsimp only at hSw); have hca := HC.out.below hSw.out; have s0 := (hca.2 0 _ rfl).1; have s1 := (hca.2 1 _ rfl).1; have s2 := (hca.2 2 _ rfl).1; have s3 := (hca.2 3 _ rfl).1; have s4 := (hca.2 4 _ rfl).1; go_simp; try with_reducible rfl)); try simp only [Act.put, List.setIfInBounds_toArray, List.set_cons_zero, List.set_cons_succ])
                        refine Plan.fin ?_
                        refine wpAnyH_ready (rs := [2, 4]) (by kernel_rfl) (by simp) ?_
                        refine AllReadyH.cons (o := { dst := some 110, op := Go.Op.call { callee := Go.Callee.value (Go.Operand.func 13), args := #[Go.Operand.tmp 109], argTypes := #[22] }, type := 22, pos := "extra.go:50", after := #[{ on := 1, ground := Go.Ground.data }], guard := none }) rfl (fun K hK => ?_) (AllReadyH.cons (o := { dst := some 112, op := Go.Op.buildSlice 22 1 #[(0, Go.Operand.tmp 111)], type := 22, pos := "extra.go:50", after := #[{ on := 3, ground := Go.Ground.data }], guard := none }) rfl (fun K hK => ?_) AllReadyH.nil)
                        · go_simp
                          refine (copyRRs_any a k c l _ (HR.out.below hHeld.out) HNA.out (by have := HN.out; omega)).mono ?_; rintro e wz1 ⟨vc, rfl, hown, hb⟩
                          have HO := Lib.hid (own_monoM (base' := w10.heap.size) hown hHeld.out.size)
                          clear hown
                          refine hK.out _ _ (Lib.hid (hHeld.out.trans (hb.mono hHeld.out.size))) (fun hHeld2 => ?_)
                          clear hK K hHeld
                          have hHeld := hHeld2
                          clear hHeld2
                          try simp only [Act.put, List.setIfInBounds_toArray, List.set_cons_zero, List.set_cons_succ]
                          refine wpAnyH_ready (rs := [4]) (by kernel_rfl) (by simp) ?_
                          refine AllReadyH.cons (o := { dst := some 112, op := Go.Op.buildSlice 22 1 #[(0, Go.Operand.tmp 111)], type := 22, pos := "extra.go:50", after := #[{ on := 3, ground := Go.Ground.data }], guard := none }) rfl (fun K hK => ?_) AllReadyH.nil
                          go_simp
                          have hb := (Below.refl _ _ : Below wz1.heap.size wz1 wz1).alloc (Nat.le_refl _) (.cells #[.string rn, .int .i64 rt, .int .i64 rc, .int .i64 ru, .string rd] 30)
                          have HLIT := Lib.hid (show CellsAt (wz1.alloc (.cells #[.string rn, .int .i64 rt, .int .i64 rc, .int .i64 ru, .string rd] 30)) (some ⟨wz1.heap.size, 0, none⟩) (1 * 5) (encR ⟨⟨rn, rt, rc⟩, ru, rd⟩) from cells_lit wz1 #[.string rn, .int .i64 rt, .int .i64 rc, .int .i64 ru, .string rd] 30)
                          obtain ⟨wz2, hw⟩ : ∃ x, wz1.alloc (.cells #[.string rn, .int .i64 rt, .int .i64 rc, .int .i64 ru, .string rd] 30) = x := ⟨_, rfl⟩
                          obtain ⟨ge, hge⟩ : ∃ x, wz1.heap.size = x := ⟨_, rfl⟩
                          rw [hw] at hb HLIT ⊢
                          rw [hge] at HLIT ⊢
                          replace HO := Lib.hid (own_below' HO.out hb)
                          clear hw hge
                          refine hK.out _ _ (Lib.hid (hHeld.out.trans (hb.mono hHeld.out.size))) (fun hHeld2 => ?_)
                          clear hK K hHeld
                          have hHeld := hHeld2
                          clear hHeld2
                          try simp only [Act.put, List.setIfInBounds_toArray, List.set_cons_zero, List.set_cons_succ]
                          refine wpAnyH_ready (rs := [5]) (by kernel_rfl) (by simp) ?_
                          refine AllReadyH.cons (o := { dst := some 113, op := Go.Op.call { callee := Go.Callee.builtin Go.Builtin.append, args := #[Go.Operand.tmp 110, Go.Operand.tmp 112], argTypes := #[22, 22] }, type := 22, pos := "extra.go:50", after := #[{ on := 2, ground := Go.Ground.data }, { on := 4, ground := Go.Ground.data }, { on := 2, ground := Go.Ground.chain }], guard := none }) rfl (fun K hK => ?_) AllReadyH.nil
                          refine step_append_cellsK (by rfl) _ _ 22 30 (by rfl) i0 _ 5 56 Try.underlying22 HI.out HZ0.out HZ1.out HZ2.out rfl (by decide) w10.heap.size _ k _ (by rfl) HO.out (some ⟨ge, 0, none⟩) 1 1 (encR ⟨⟨rn, rt, rc⟩, ru, rd⟩) (by rfl) (fun h => by cases h) HLIT.out (fun u hu => flatR_oneM (l := [⟨⟨rn, rt, rc⟩, ru, rd⟩]) (by simpa [flatR] using hu)) (by have := HN.out; omega) (by decide) (hHeld.out.size) ?_
                          intro v5 wz3 hown hgrow
                          have hbg := hHeld.out.grown hgrow hHeld.out.size (fun k hk => (HO.out.lt k hk).1)
                          have HOX := Lib.hid hown
                          clear hown hgrow HLIT
                          refine hK.out _ _ (Lib.hid hbg) (fun hHeld2 => ?_)
                          clear hK K hHeld
                          have hHeld := hHeld2
                          clear hHeld2
                          try simp only [Act.put, List.setIfInBounds_toArray, List.set_cons_zero, List.set_cons_succ]
                          refine wpAnyH_ready (rs := [6]) (by kernel_rfl) (by simp) ?_
                          refine AllReadyH.cons (o := { dst := some 114, op := Go.Op.call { callee := Go.Callee.value (Go.Operand.func 16), args := #[Go.Operand.tmp 108, Go.Operand.tmp 113], argTypes := #[9, 22] }, type := 41, pos := "extra.go:50", after := #[{ on := 0, ground := Go.Ground.data }, { on := 5, ground := Go.Ground.data }, { on := 5, ground := Go.Ground.chain }], guard := none }) rfl (fun K hK => ?_) AllReadyH.nil
                          obtain ⟨ta, tc, rfl, hrt, hnt⟩ := rowR_own (l := (l ++ [⟨⟨rn, rt, rc⟩, ru, rd⟩])) (show wz3.ownsRow w10.heap.size 30 5 v5 (k + 1) (flatR (l ++ [⟨⟨rn, rt, rc⟩, ru, rd⟩])) by rw [flatR_append]; simpa [flatR] using HOX.out)
                          clear HOX
                          go_simp
                          refine (digest_one apex _ _ _ (l ++ [⟨⟨rn, rt, rc⟩, ru, rd⟩]) _ hrt (by have := HN.out; omega) (fun r hr => by rcases List.mem_append.1 hr with h | h; exact HSX.out r h; rw [List.mem_singleton.1 h]; exact HSR.out) HA.out).mono ?_; rintro e wz4 ⟨⟨v3, u3, rfl, ho⟩, hb⟩
                          have HDO := Lib.hid (dg_out HE.out HM.out HCN.out)
                          rw [HDO.out.1, HDO.out.2, HDL.out, HND.out]
                          rw [HDO.out.2, HDL.out, HND.out] at ho
                          have HD3 := Lib.hid ho
                          clear ho hrt hnt HDO
                          refine hK.out _ _ (Lib.hid (hHeld.out.trans (hb.mono hHeld.out.size))) (fun hHeld2 => ?_)
                          clear hK K hHeld
                          have hHeld := hHeld2
                          clear hHeld2
                          try simp only [Act.put, List.setIfInBounds_toArray, List.set_cons_zero, List.set_cons_succ]
                          refine Plan.of [7, 8, 9, 10, 11] ?_
                          iterate 5 (refine Plan.w (v := ?_) rfl hHeld (by rfl) ?_ ?_; rotate_left; (focus (intro w hSw; (try dsimp only at hSw); have hca := HC.out.below hSw.out; have s0 := (hca.2 0 _ rfl).1; have s1 := (hca.2 1 _ rfl).1; have s2 := (hca.2 2 _ rfl).1; have s3 := (hca.2 3 _ rfl).1; have s4 := (hca.2 4 _ rfl).1; go_simp; try with_reducible rfl)); try simp only [Act.put, List.setIfInBounds_toArray, List.set_cons_zero, List.set_cons_succ])
                          refine Plan.fin ?_
                          refine wpAnyH_done (by kernel_rfl) ?_ _
                          have hb := hHeld.out
                          replace HB := Lib.hid (HB.out.trans (hb.mono HB.out.size))
                          replace HR := Lib.hid (HR.out.below hb)
                          replace HC := Lib.hid (HC.out.below hb)
                          replace HD1 := Lib.hid (own_below' HD1.out hb)
                          clear hb hHeld HO
                          go_wp2_with fail
                          refine (first9 _).mono ?_; rintro e w11 ⟨rfl, hb⟩
                          replace HB := Lib.hid (HB.out.trans (hb.mono HB.out.size))
                          replace HR := Lib.hid (HR.out.below hb)
                          replace HC := Lib.hid (HC.out.below hb)
                          replace HD1 := Lib.hid (own_below' HD1.out hb)
                          have HF9 := Lib.hid hb
                          clear hb
                          replace HD3 := Lib.hid (own_below' HD3.out HF9.out)
                          have HN48 := Lib.hid (show nd = 48 by rw [← HND.out, ← HDL.out, dgD, if_pos HE.out, shaL_len])
                          have hd48 : (nd == 48) = true := by rw [HN48.out]; rfl
                          obtain rfl := HN48.out
                          go_wp2_with fail
                          refine (bytes_same _ _ 48 u3 u1 DL _ (RowB.of_own HD3.out).1 (RowB.of_own HD1.out).1 (RowB.of_own HD3.out).2 (RowB.of_own HD1.out).2).mono ?_; rintro e w12 ⟨rfl, rfl⟩
                          go_wp2
                          go_ret
                          exact ⟨rfl, HB.out⟩
                        · go_simp
                          have hb := (Below.refl _ _ : Below wz0.heap.size wz0 wz0).alloc (Nat.le_refl _) (.cells #[.string rn, .int .i64 rt, .int .i64 rc, .int .i64 ru, .string rd] 30)
                          have HLIT := Lib.hid (show CellsAt (wz0.alloc (.cells #[.string rn, .int .i64 rt, .int .i64 rc, .int .i64 ru, .string rd] 30)) (some ⟨wz0.heap.size, 0, none⟩) (1 * 5) (encR ⟨⟨rn, rt, rc⟩, ru, rd⟩) from cells_lit wz0 #[.string rn, .int .i64 rt, .int .i64 rc, .int .i64 ru, .string rd] 30)
                          obtain ⟨wz1, hw⟩ : ∃ x, wz0.alloc (.cells #[.string rn, .int .i64 rt, .int .i64 rc, .int .i64 ru, .string rd] 30) = x := ⟨_, rfl⟩
                          obtain ⟨ge, hge⟩ : ∃ x, wz0.heap.size = x := ⟨_, rfl⟩
                          rw [hw] at hb HLIT ⊢
                          rw [hge] at HLIT ⊢
                          clear hw hge
                          refine hK.out _ _ (Lib.hid (hHeld.out.trans (hb.mono hHeld.out.size))) (fun hHeld2 => ?_)
                          clear hK K hHeld
                          have hHeld := hHeld2
                          clear hHeld2
                          try simp only [Act.put, List.setIfInBounds_toArray, List.set_cons_zero, List.set_cons_succ]
                          refine wpAnyH_ready (rs := [2]) (by kernel_rfl) (by simp) ?_
                          refine AllReadyH.cons (o := { dst := some 110, op := Go.Op.call { callee := Go.Callee.value (Go.Operand.func 13), args := #[Go.Operand.tmp 109], argTypes := #[22] }, type := 22, pos := "extra.go:50", after := #[{ on := 1, ground := Go.Ground.data }], guard := none }) rfl (fun K hK => ?_) AllReadyH.nil
                          go_simp
                          refine (copyRRs_any a k c l _ (HR.out.below hHeld.out) HNA.out (by have := HN.out; omega)).mono ?_; rintro e wz2 ⟨vc, rfl, hown, hb⟩
                          have HO := Lib.hid (own_monoM (base' := w10.heap.size) hown hHeld.out.size)
                          clear hown
                          replace HLIT := Lib.hid (HLIT.out.below hb)
                          refine hK.out _ _ (Lib.hid (hHeld.out.trans (hb.mono hHeld.out.size))) (fun hHeld2 => ?_)
                          clear hK K hHeld
                          have hHeld := hHeld2
                          clear hHeld2
                          try simp only [Act.put, List.setIfInBounds_toArray, List.set_cons_zero, List.set_cons_succ]
                          refine wpAnyH_ready (rs := [5]) (by kernel_rfl) (by simp) ?_
                          refine AllReadyH.cons (o := { dst := some 113, op := Go.Op.call { callee := Go.Callee.builtin Go.Builtin.append, args := #[Go.Operand.tmp 110, Go.Operand.tmp 112], argTypes := #[22, 22] }, type := 22, pos := "extra.go:50", after := #[{ on := 2, ground := Go.Ground.data }, { on := 4, ground := Go.Ground.data }, { on := 2, ground := Go.Ground.chain }], guard := none }) rfl (fun K hK => ?_) AllReadyH.nil
                          refine step_append_cellsK (by rfl) _ _ 22 30 (by rfl) i0 _ 5 56 Try.underlying22 HI.out HZ0.out HZ1.out HZ2.out rfl (by decide) w10.heap.size _ k _ (by rfl) HO.out (some ⟨ge, 0, none⟩) 1 1 (encR ⟨⟨rn, rt, rc⟩, ru, rd⟩) (by rfl) (fun h => by cases h) HLIT.out (fun u hu => flatR_oneM (l := [⟨⟨rn, rt, rc⟩, ru, rd⟩]) (by simpa [flatR] using hu)) (by have := HN.out; omega) (by decide) (hHeld.out.size) ?_
                          intro v5 wz3 hown hgrow
                          have hbg := hHeld.out.grown hgrow hHeld.out.size (fun k hk => (HO.out.lt k hk).1)
                          have HOX := Lib.hid hown
                          clear hown hgrow HLIT
                          refine hK.out _ _ (Lib.hid hbg) (fun hHeld2 => ?_)
                          clear hK K hHeld
                          have hHeld := hHeld2
                          clear hHeld2
                          try simp only [Act.put, List.setIfInBounds_toArray, List.set_cons_zero, List.set_cons_succ]
                          refine wpAnyH_ready (rs := [6]) (by kernel_rfl) (by simp) ?_
                          refine AllReadyH.cons (o := { dst := some 114, op := Go.Op.call { callee := Go.Callee.value (Go.Operand.func 16), args := #[Go.Operand.tmp 108, Go.Operand.tmp 113], argTypes := #[9, 22] }, type := 41, pos := "extra.go:50", after := #[{ on := 0, ground := Go.Ground.data }, { on := 5, ground := Go.Ground.data }, { on := 5, ground := Go.Ground.chain }], guard := none }) rfl (fun K hK => ?_) AllReadyH.nil
                          obtain ⟨ta, tc, rfl, hrt, hnt⟩ := rowR_own (l := (l ++ [⟨⟨rn, rt, rc⟩, ru, rd⟩])) (show wz3.ownsRow w10.heap.size 30 5 v5 (k + 1) (flatR (l ++ [⟨⟨rn, rt, rc⟩, ru, rd⟩])) by rw [flatR_append]; simpa [flatR] using HOX.out)
                          clear HOX
                          go_simp
                          refine (digest_one apex _ _ _ (l ++ [⟨⟨rn, rt, rc⟩, ru, rd⟩]) _ hrt (by have := HN.out; omega) (fun r hr => by rcases List.mem_append.1 hr with h | h; exact HSX.out r h; rw [List.mem_singleton.1 h]; exact HSR.out) HA.out).mono ?_; rintro e wz4 ⟨⟨v3, u3, rfl, ho⟩, hb⟩
                          have HDO := Lib.hid (dg_out HE.out HM.out HCN.out)
                          rw [HDO.out.1, HDO.out.2, HDL.out, HND.out]
                          rw [HDO.out.2, HDL.out, HND.out] at ho
                          have HD3 := Lib.hid ho
                          clear ho hrt hnt HDO
                          refine hK.out _ _ (Lib.hid (hHeld.out.trans (hb.mono hHeld.out.size))) (fun hHeld2 => ?_)
                          clear hK K hHeld
                          have hHeld := hHeld2
                          clear hHeld2
                          try simp only [Act.put, List.setIfInBounds_toArray, List.set_cons_zero, List.set_cons_succ]
                          refine Plan.of [7, 8, 9, 10, 11] ?_
                          iterate 5 (refine Plan.w (v := ?_) rfl hHeld (by rfl) ?_ ?_; rotate_left; (focus (intro w hSw; (try dsimp only at hSw); have hca := HC.out.below hSw.out; have s0 := (hca.2 0 _ rfl).1; have s1 := (hca.2 1 _ rfl).1; have s2 := (hca.2 2 _ rfl).1; have s3 := (hca.2 3 _ rfl).1; have s4 := (hca.2 4 _ rfl).1; go_simp; try with_reducible rfl)); try simp only [Act.put, List.setIfInBounds_toArray, List.set_cons_zero, List.set_cons_succ])
                          refine Plan.fin ?_
                          refine wpAnyH_done (by kernel_rfl) ?_ _
                          have hb := hHeld.out
                          replace HB := Lib.hid (HB.out.trans (hb.mono HB.out.size))
                          replace HR := Lib.hid (HR.out.below hb)
                          replace HC := Lib.hid (HC.out.below hb)
                          replace HD1 := Lib.hid (own_below' HD1.out hb)
                          clear hb hHeld HO
                          go_wp2_with fail
                          refine (first9 _).mono ?_; rintro e w11 ⟨rfl, hb⟩
                          replace HB := Lib.hid (HB.out.trans (hb.mono HB.out.size))
                          replace HR := Lib.hid (HR.out.below hb)
                          replace HC := Lib.hid (HC.out.below hb)
                          replace HD1 := Lib.hid (own_below' HD1.out hb)
                          have HF9 := Lib.hid hb
                          clear hb
                          replace HD3 := Lib.hid (own_below' HD3.out HF9.out)
                          have HN48 := Lib.hid (show nd = 48 by rw [← HND.out, ← HDL.out, dgD, if_pos HE.out, shaL_len])
                          have hd48 : (nd == 48) = true := by rw [HN48.out]; rfl
                          obtain rfl := HN48.out
                          go_wp2_with fail
                          refine (bytes_same _ _ 48 u3 u1 DL _ (RowB.of_own HD3.out).1 (RowB.of_own HD1.out).1 (RowB.of_own HD3.out).2 (RowB.of_own HD1.out).2).mono ?_; rintro e w12 ⟨rfl, rfl⟩
                          go_wp2
                          go_ret
                          exact ⟨rfl, HB.out⟩
end Go.Proofs.Ytmhiglhgkgannaa
