/- md.once: those records that are asked for, each once, in order. -/
import Derived.Test.YtmhiglhgkgannaaMdA
import Derived.Test.YtmhiglhgkgannaaMdC
import Derived.Test.YtmhiglhgkgannaaSBa
namespace Go.Proofs.Ytmhiglhgkgannaa
open Go.RowKit

/-- A record whose texts are not too long. -/
def SmX (r : R5) : Prop := r.k.n.size ≤ 1000000 ∧ r.d.size ≤ 1000000
/-- What once answers. -/
def OnR (p : R5 → Bool) (l : List R5) (w : World) (e : Ending) (w' : World) : Prop :=
  ∃ va vc o m, e = .returned (.slice va m vc) ∧ o.length = m ∧ m ≤ l.length ∧ OnceP mcmp p l o ∧ w'.ownsRow w.heap.size 30 5 (.slice va m vc) m (flatR o) ∧ Below w.heap.size w w'
set_option maxRecDepth 100000 in
set_option maxHeartbeats 2000000 in
theorem compactM_none (c : Nat) (w : World) : Calls Try.prog 48 #[.slice none 0 c] w fun e w' => e = .returned (.slice none 0 c) ∧ w = w' := by
  go_enter Try.func48, Try.ntmps48
  go_wp2
  go_ret
  exact ⟨rfl, rfl⟩
theorem filter_take {l : List R5} (p : R5 → Bool) {k : Nat} {r : R5} (hr : l[k]? = some r) : (l.take (k + 1)).filter p = (l.take k).filter p ++ (if p r = true then [r] else []) := by
  rw [List.take_add_one, hr, List.filter_append]
  congr 1
  simp only [Option.toList_some, List.filter_cons, List.filter_nil]
theorem shape_ownM {w : World} {B n : Nat} {v : Value} {l : List R5} (h : w.ownsRow B 30 5 v n (flatR l)) : (v = .slice none 0 0 ∧ n = 0 ∧ l = []) ∨ ∃ g c, v = .slice (some ⟨g, 0, none⟩) n c := by
  have hl : l.length = n := by have := h.1; rw [flatR_len] at this; omega
  rcases h.2 with ⟨hv, hn⟩ | ⟨g, cap, cur, hv, _⟩
  · exact Or.inl ⟨hv, hn, List.eq_nil_of_length_eq_zero (by omega)⟩
  · exact Or.inr ⟨g, cap, hv⟩
set_option maxRecDepth 100000 in
set_option maxHeartbeats 8000000 in
theorem once_cnt (apex : ByteArray) (q : Nat) (a : Option Addr) (n c : Nat) (l : List R5) (w : World) (h : RowR w a n l) (hn : n ≤ 100000) (hs : ∀ r ∈ l, SmX r) (ha : apex.size ≤ 1000000) (hq : CN w q [.string apex]) :
    Calls Try.prog 28 #[.slice a n c, .func (.func 36) #[] #[.pointer (some ⟨q, 0, none⟩)]] w fun e w' => OnR (cntB apex) l w e w' := by
  obtain ⟨i0, hi, hz0, hz1, hz2⟩ := info_parts infoRR
  have HI := Lib.hid hi
  have HZ0 := Lib.hid hz0
  have HZ1 := Lib.hid hz1
  have HZ2 := Lib.hid hz2
  have HR := Lib.hid h
  have HLN := Lib.hid h.1
  have HS := Lib.hid hs
  have HQ := Lib.hid hq
  obtain ⟨P, hP⟩ : ∃ P, cntB apex = P := ⟨_, rfl⟩
  have HCL := Lib.hid (show ∀ (rn : ByteArray) (rt rc ru : Int) (rd : ByteArray) wx, CN wx q [.string apex] → SmX ⟨⟨rn, rt, rc⟩, ru, rd⟩ → Calls Try.prog 36 #[.agg #[.string rn, .int .i64 rt, .int .i64 rc, .int .i64 ru, .string rd], .pointer (some ⟨q, 0, none⟩)] wx fun e w' => e = .returned (.bool (P ⟨⟨rn, rt, rc⟩, ru, rd⟩)) ∧ Below wx.heap.size wx w' from fun rn rt rc ru rd wx hx hsz => by rw [← hP]; exact digest1_any apex rn rt rc ru rd q wx hx ha hsz.1)
  rw [hP]
  clear h hi hz0 hz1 hz2 hs hq hP ha
  go_enter Try.func28, Try.ntmps28
  go_wp2_with fail
  go_loopw [10, 5] (fun i v wr => ∃ k m : Nat, k ≤ n ∧ m ≤ k ∧ i = .int .i64 k ∧ Hid (((l.take k).filter P).length = m) ∧ Hid (wr.ownsRow w.heap.size 30 5 v m (flatR ((l.take k).filter P))) ∧ Hid (Below w.heap.size w wr)) (fun i _ _ => n - (intOf i).toNat)
  case atStart => exact ⟨0, 0, Nat.zero_le _, Nat.le_refl _, rfl, Lib.hid rfl, Lib.hid (World.ownsRow_nil _ _ _ _), Lib.hid (Below.refl _ _)⟩
  case round =>
    obtain ⟨k, m, hk, hmk, rfl, hm, HO, HW⟩ := hrel
    by_cases hlt : k < n
    · obtain ⟨b, o, r, rfl, hbl, hr, x0, x1, x2, x3, x4⟩ := (HR.out.below HW.out).at k hlt
      have hft := filter_take P hr
      have hsz := HS.out r (List.mem_of_getElem? hr)
      obtain ⟨⟨rn, rt, rc⟩, ru, rd⟩ := r
      replace x0 : wr.cell? ⟨b, o + k * 5, none⟩ = some (.string rn) := x0
      replace x1 : wr.cell? ⟨b, o + k * 5 + 1, none⟩ = some (.int .i64 rt) := x1
      replace x2 : wr.cell? ⟨b, o + k * 5 + 2, none⟩ = some (.int .i64 rc) := x2
      replace x3 : wr.cell? ⟨b, o + k * 5 + 3, none⟩ = some (.int .i64 ru) := x3
      replace x4 : wr.cell? ⟨b, o + k * 5 + 4, none⟩ = some (.string rd) := x4
      have HFT := Lib.hid hft
      have HSZ := Lib.hid hsz
      have HLT := Lib.hid hlt
      have HMK := Lib.hid hmk
      have hba := (Below.refl wr.heap.size wr).alloc (Nat.le_refl _) (.cells #[.string rn, .int .i64 rt, .int .i64 rc, .int .i64 ru, .string rd] 30)
      have HC := Lib.hid (CN.new wr #[.string rn, .int .i64 rt, .int .i64 rc, .int .i64 ru, .string rd] 30)
      have HO1 := Lib.hid (own_below' HO.out hba)
      have HW1 := Lib.hid (HW.out.trans (hba.mono HW.out.size))
      have HQ1 := Lib.hid ((HQ.out.below HW.out).below hba)
      clear hft hsz hbl hr hba hmk
      go_upto_region 5 with (fail)
      obtain ⟨w1, hw1⟩ : ∃ x, wr.alloc (.cells #[.string rn, .int .i64 rt, .int .i64 rc, .int .i64 ru, .string rd] 30) = x := ⟨_, rfl⟩
      obtain ⟨q1, hq1⟩ : ∃ x, wr.heap.size = x := ⟨_, rfl⟩
      rw [hw1] at HC HO1 HW1 HQ1 ⊢
      rw [hq1] at HC ⊢
      clear hw1 hq1 x0 x1 x2 x3 x4
      obtain ⟨x0, x1, x2, x3, x4, _⟩ := HC.out.u5
      go_wp2_with fail
      refine (HCL.out rn rt rc ru rd _ HQ1.out HSZ.out).mono ?_; rintro e w2 ⟨rfl, hb⟩
      have HO2 := Lib.hid (own_below' HO1.out hb)
      have HW2 := Lib.hid (HW1.out.trans (hb.mono HW1.out.size))
      have HC2 := Lib.hid (HC.out.below hb)
      clear hb x0 x1 x2 x3 x4 HO HO1 HC HQ1 HW1
      obtain ⟨v0, hv0⟩ : ∃ x, P ⟨⟨rn, rt, rc⟩, ru, rd⟩ = x := ⟨_, rfl⟩
      rw [hv0] at HFT ⊢
      clear hv0
      cases v0
      · have HN := Lib.hid (show (l.take (k + 1)).filter P = (l.take k).filter P from HFT.out.trans (List.append_nil _))
        go_wp2
        go_roundw
        case rel => exact ⟨k + 1, m, by have := HLT.out; omega, by have := HMK.out; omega, by have := HLT.out; go_num, by rw [HN.out]; exact hm, by rw [HN.out]; exact HO2, HW2⟩
        case measure => have := HLT.out; simp [intOf]; omega
      · have HN := Lib.hid (show (l.take (k + 1)).filter P = (l.take k).filter P ++ [⟨⟨rn, rt, rc⟩, ru, rd⟩] from HFT.out)
        obtain ⟨x0, x1, x2, x3, x4, _⟩ := HC2.out.u5
        have HAL := Lib.hid ((Below.refl w2.heap.size w2).alloc (Nat.le_refl _) (.cells #[.string rn, .int .i64 rt, .int .i64 rc, .int .i64 ru, .string rd] 30))
        go_wp2_with (at_builtin; refine append_cellsK rfl _ _ 22 30 rfl i0 _ 5 56 Try.underlying22 HI.out HZ0.out HZ1.out HZ2.out rfl (by decide) w.heap.size _ m _ rfl (own_below' HO2.out HAL.out) (some ⟨w2.heap.size, 0, none⟩) 1 1 (encR ⟨⟨rn, rt, rc⟩, ru, rd⟩) rfl (fun h => by cases h) (cells_lit w2 #[.string rn, .int .i64 rt, .int .i64 rc, .int .i64 ru, .string rd] _) (fun u hu => flatR_oneM (l := [⟨⟨rn, rt, rc⟩, ru, rd⟩]) (by simpa [flatR] using hu)) (by have := HMK.out; have := HLT.out; omega) (by decide) (by have := HW2.out.size; simp; omega) ?_)
        intro v' w6 hown' hgrow'
        have HO3 := Lib.hid hown'
        have HB3 := Lib.hid ((HW2.out.trans (HAL.out.mono HW2.out.size)).grown hgrow' (by have := HW2.out.size; simp; omega) (fun k hk => (HO2.out.lt k hk).1))
        clear hown' hgrow' x0 x1 x2 x3 x4
        go_wp2
        go_roundw
        case rel => exact ⟨k + 1, m + 1, by have := HLT.out; omega, by have := HMK.out; omega, by have := HLT.out; go_num, Lib.hid (by rw [HN.out, List.length_append, hm.out]; rfl), Lib.hid (by rw [HN.out, flatR_append]; simpa [flatR] using HO3.out), HB3⟩
        case measure => have := HLT.out; simp [intOf]; omega
    · obtain rfl : k = n := by omega
      have htk : l.take k = l := List.take_of_length_le (by rw [HLN.out]; exact Nat.le_refl _)
      rw [htk] at hm HO
      have HMK := Lib.hid hmk
      clear hlt htk hmk hk
      rcases shape_ownM HO.out with ⟨rfl, hm0, hnil⟩ | ⟨g, vc, rfl⟩
      · subst hm0
        have HP := Lib.hid (show OnR P l w (.returned (.slice none 0 0)) wr from ⟨none, 0, [], 0, rfl, rfl, Nat.zero_le _, ⟨List.Pairwise.nil, fun r => ⟨fun h => (by cases h), fun h => by have : r ∈ l.filter P := List.mem_filter.2 h; rw [hnil] at this; exact this⟩⟩, World.ownsRow_nil _ _ _ _, HW.out⟩)
        go_wp2_with fail
        refine (sortRR_none none 0 _ _).mono ?_; rintro e w3 ⟨rfl, rfl⟩
        go_wp2_with fail
        refine (compactM_none 0 _).mono ?_; rintro e w3 ⟨rfl, rfl⟩
        go_wp2
        go_ret
        exact HP.out
      · have HF := Lib.hid (show ∀ r ∈ l.filter P, r.k.n.size ≤ 1000000 from fun r hr => (HS.out r (List.mem_filter.1 hr).1).1)
        go_wp2_with fail
        refine (sortMd_some w.heap.size g m vc _ _ HF.out hm.out HO.out (by have := HMK.out; omega)).mono ?_
        rintro e w3 ⟨rfl, l', hp, hso, ho, hg⟩
        have HW3 := Lib.hid (HW.out.grown hg HW.out.size (fun k hk => by injection hk with hk; rw [← hk]; exact (HO.out.lt g rfl).1))
        have HON := Lib.hid (OnceP.of_sorted ord_mcmp hp hso)
        have HO3 := Lib.hid ho
        have HG3 := Lib.hid (show w.heap.size ≤ g from (HO.out.lt g rfl).1)
        have HLL := Lib.hid (show l'.length = m from by rw [hp.length_eq]; exact hm.out)
        clear hp hso ho hg
        go_wp2_with fail
        refine (compactM_any w.heap.size g m vc l' _ HO3.out (by have := HMK.out; omega)).mono ?_
        rintro e w4 ⟨m4, hm4, rfl, ho4, hg4⟩
        have HW4 := Lib.hid (HW3.out.grown hg4 HW3.out.size (fun k hk => by injection hk with hk; rw [← hk]; exact HG3.out))
        have HP := Lib.hid (show OnR P l w (.returned (.slice (some ⟨g, 0, none⟩) m4 vc)) w4 from ⟨some ⟨g, 0, none⟩, vc, dd l', m4, rfl, hm4.symm, by rw [hm4]; refine Nat.le_trans (dd_len l') ?_; have h1 := HLL.out; have h2 := HMK.out; have h3 := HLN.out; omega, HON.out, ho4, HW4.out⟩)
        clear hm4 ho4 hg4
        go_wp2
        go_ret
        exact HP.out
set_option maxRecDepth 100000 in
set_option maxHeartbeats 8000000 in
theorem once_soa (apex : ByteArray) (q : Nat) (a : Option Addr) (n c : Nat) (l : List R5) (w : World) (h : RowR w a n l) (hn : n ≤ 100000) (hs : ∀ r ∈ l, SmX r) (hq : CN w q [.string apex]) :
    Calls Try.prog 28 #[.slice a n c, .func (.func 44) #[] #[.pointer (some ⟨q, 0, none⟩)]] w fun e w' => OnR (isSoa apex) l w e w' := by
  obtain ⟨i0, hi, hz0, hz1, hz2⟩ := info_parts infoRR
  have HI := Lib.hid hi
  have HZ0 := Lib.hid hz0
  have HZ1 := Lib.hid hz1
  have HZ2 := Lib.hid hz2
  have HR := Lib.hid h
  have HLN := Lib.hid h.1
  have HS := Lib.hid hs
  have HQ := Lib.hid hq
  obtain ⟨P, hP⟩ : ∃ P, isSoa apex = P := ⟨_, rfl⟩
  have HCL := Lib.hid (show ∀ (rn : ByteArray) (rt rc ru : Int) (rd : ByteArray) wx, CN wx q [.string apex] → SmX ⟨⟨rn, rt, rc⟩, ru, rd⟩ → Calls Try.prog 44 #[.agg #[.string rn, .int .i64 rt, .int .i64 rc, .int .i64 ru, .string rd], .pointer (some ⟨q, 0, none⟩)] wx fun e w' => e = .returned (.bool (P ⟨⟨rn, rt, rc⟩, ru, rd⟩)) ∧ Below wx.heap.size wx w' from fun rn rt rc ru rd wx hx hsz => by rw [← hP]; exact soa1_any apex rn rt rc ru rd q wx hx)
  rw [hP]
  clear h hi hz0 hz1 hz2 hs hq hP
  go_enter Try.func28, Try.ntmps28
  go_wp2_with fail
  go_loopw [10, 5] (fun i v wr => ∃ k m : Nat, k ≤ n ∧ m ≤ k ∧ i = .int .i64 k ∧ Hid (((l.take k).filter P).length = m) ∧ Hid (wr.ownsRow w.heap.size 30 5 v m (flatR ((l.take k).filter P))) ∧ Hid (Below w.heap.size w wr)) (fun i _ _ => n - (intOf i).toNat)
  case atStart => exact ⟨0, 0, Nat.zero_le _, Nat.le_refl _, rfl, Lib.hid rfl, Lib.hid (World.ownsRow_nil _ _ _ _), Lib.hid (Below.refl _ _)⟩
  case round =>
    obtain ⟨k, m, hk, hmk, rfl, hm, HO, HW⟩ := hrel
    by_cases hlt : k < n
    · obtain ⟨b, o, r, rfl, hbl, hr, x0, x1, x2, x3, x4⟩ := (HR.out.below HW.out).at k hlt
      have hft := filter_take P hr
      have hsz := HS.out r (List.mem_of_getElem? hr)
      obtain ⟨⟨rn, rt, rc⟩, ru, rd⟩ := r
      replace x0 : wr.cell? ⟨b, o + k * 5, none⟩ = some (.string rn) := x0
      replace x1 : wr.cell? ⟨b, o + k * 5 + 1, none⟩ = some (.int .i64 rt) := x1
      replace x2 : wr.cell? ⟨b, o + k * 5 + 2, none⟩ = some (.int .i64 rc) := x2
      replace x3 : wr.cell? ⟨b, o + k * 5 + 3, none⟩ = some (.int .i64 ru) := x3
      replace x4 : wr.cell? ⟨b, o + k * 5 + 4, none⟩ = some (.string rd) := x4
      have HFT := Lib.hid hft
      have HSZ := Lib.hid hsz
      have HLT := Lib.hid hlt
      have HMK := Lib.hid hmk
      have hba := (Below.refl wr.heap.size wr).alloc (Nat.le_refl _) (.cells #[.string rn, .int .i64 rt, .int .i64 rc, .int .i64 ru, .string rd] 30)
      have HC := Lib.hid (CN.new wr #[.string rn, .int .i64 rt, .int .i64 rc, .int .i64 ru, .string rd] 30)
      have HO1 := Lib.hid (own_below' HO.out hba)
      have HW1 := Lib.hid (HW.out.trans (hba.mono HW.out.size))
      have HQ1 := Lib.hid ((HQ.out.below HW.out).below hba)
      clear hft hsz hbl hr hba hmk
      go_upto_region 5 with (fail)
      obtain ⟨w1, hw1⟩ : ∃ x, wr.alloc (.cells #[.string rn, .int .i64 rt, .int .i64 rc, .int .i64 ru, .string rd] 30) = x := ⟨_, rfl⟩
      obtain ⟨q1, hq1⟩ : ∃ x, wr.heap.size = x := ⟨_, rfl⟩
      rw [hw1] at HC HO1 HW1 HQ1 ⊢
      rw [hq1] at HC ⊢
      clear hw1 hq1 x0 x1 x2 x3 x4
      obtain ⟨x0, x1, x2, x3, x4, _⟩ := HC.out.u5
      go_wp2_with fail
      refine (HCL.out rn rt rc ru rd _ HQ1.out HSZ.out).mono ?_; rintro e w2 ⟨rfl, hb⟩
      have HO2 := Lib.hid (own_below' HO1.out hb)
      have HW2 := Lib.hid (HW1.out.trans (hb.mono HW1.out.size))
      have HC2 := Lib.hid (HC.out.below hb)
      clear hb x0 x1 x2 x3 x4 HO HO1 HC HQ1 HW1
      obtain ⟨v0, hv0⟩ : ∃ x, P ⟨⟨rn, rt, rc⟩, ru, rd⟩ = x := ⟨_, rfl⟩
      rw [hv0] at HFT ⊢
      clear hv0
      cases v0
      · have HN := Lib.hid (show (l.take (k + 1)).filter P = (l.take k).filter P from HFT.out.trans (List.append_nil _))
        go_wp2
        go_roundw
        case rel => exact ⟨k + 1, m, by have := HLT.out; omega, by have := HMK.out; omega, by have := HLT.out; go_num, by rw [HN.out]; exact hm, by rw [HN.out]; exact HO2, HW2⟩
        case measure => have := HLT.out; simp [intOf]; omega
      · have HN := Lib.hid (show (l.take (k + 1)).filter P = (l.take k).filter P ++ [⟨⟨rn, rt, rc⟩, ru, rd⟩] from HFT.out)
        obtain ⟨x0, x1, x2, x3, x4, _⟩ := HC2.out.u5
        have HAL := Lib.hid ((Below.refl w2.heap.size w2).alloc (Nat.le_refl _) (.cells #[.string rn, .int .i64 rt, .int .i64 rc, .int .i64 ru, .string rd] 30))
        go_wp2_with (at_builtin; refine append_cellsK rfl _ _ 22 30 rfl i0 _ 5 56 Try.underlying22 HI.out HZ0.out HZ1.out HZ2.out rfl (by decide) w.heap.size _ m _ rfl (own_below' HO2.out HAL.out) (some ⟨w2.heap.size, 0, none⟩) 1 1 (encR ⟨⟨rn, rt, rc⟩, ru, rd⟩) rfl (fun h => by cases h) (cells_lit w2 #[.string rn, .int .i64 rt, .int .i64 rc, .int .i64 ru, .string rd] _) (fun u hu => flatR_oneM (l := [⟨⟨rn, rt, rc⟩, ru, rd⟩]) (by simpa [flatR] using hu)) (by have := HMK.out; have := HLT.out; omega) (by decide) (by have := HW2.out.size; simp; omega) ?_)
        intro v' w6 hown' hgrow'
        have HO3 := Lib.hid hown'
        have HB3 := Lib.hid ((HW2.out.trans (HAL.out.mono HW2.out.size)).grown hgrow' (by have := HW2.out.size; simp; omega) (fun k hk => (HO2.out.lt k hk).1))
        clear hown' hgrow' x0 x1 x2 x3 x4
        go_wp2
        go_roundw
        case rel => exact ⟨k + 1, m + 1, by have := HLT.out; omega, by have := HMK.out; omega, by have := HLT.out; go_num, Lib.hid (by rw [HN.out, List.length_append, hm.out]; rfl), Lib.hid (by rw [HN.out, flatR_append]; simpa [flatR] using HO3.out), HB3⟩
        case measure => have := HLT.out; simp [intOf]; omega
    · obtain rfl : k = n := by omega
      have htk : l.take k = l := List.take_of_length_le (by rw [HLN.out]; exact Nat.le_refl _)
      rw [htk] at hm HO
      have HMK := Lib.hid hmk
      clear hlt htk hmk hk
      rcases shape_ownM HO.out with ⟨rfl, hm0, hnil⟩ | ⟨g, vc, rfl⟩
      · subst hm0
        have HP := Lib.hid (show OnR P l w (.returned (.slice none 0 0)) wr from ⟨none, 0, [], 0, rfl, rfl, Nat.zero_le _, ⟨List.Pairwise.nil, fun r => ⟨fun h => (by cases h), fun h => by have : r ∈ l.filter P := List.mem_filter.2 h; rw [hnil] at this; exact this⟩⟩, World.ownsRow_nil _ _ _ _, HW.out⟩)
        go_wp2_with fail
        refine (sortRR_none none 0 _ _).mono ?_; rintro e w3 ⟨rfl, rfl⟩
        go_wp2_with fail
        refine (compactM_none 0 _).mono ?_; rintro e w3 ⟨rfl, rfl⟩
        go_wp2
        go_ret
        exact HP.out
      · have HF := Lib.hid (show ∀ r ∈ l.filter P, r.k.n.size ≤ 1000000 from fun r hr => (HS.out r (List.mem_filter.1 hr).1).1)
        go_wp2_with fail
        refine (sortMd_some w.heap.size g m vc _ _ HF.out hm.out HO.out (by have := HMK.out; omega)).mono ?_
        rintro e w3 ⟨rfl, l', hp, hso, ho, hg⟩
        have HW3 := Lib.hid (HW.out.grown hg HW.out.size (fun k hk => by injection hk with hk; rw [← hk]; exact (HO.out.lt g rfl).1))
        have HON := Lib.hid (OnceP.of_sorted ord_mcmp hp hso)
        have HO3 := Lib.hid ho
        have HG3 := Lib.hid (show w.heap.size ≤ g from (HO.out.lt g rfl).1)
        have HLL := Lib.hid (show l'.length = m from by rw [hp.length_eq]; exact hm.out)
        clear hp hso ho hg
        go_wp2_with fail
        refine (compactM_any w.heap.size g m vc l' _ HO3.out (by have := HMK.out; omega)).mono ?_
        rintro e w4 ⟨m4, hm4, rfl, ho4, hg4⟩
        have HW4 := Lib.hid (HW3.out.grown hg4 HW3.out.size (fun k hk => by injection hk with hk; rw [← hk]; exact HG3.out))
        have HP := Lib.hid (show OnR P l w (.returned (.slice (some ⟨g, 0, none⟩) m4 vc)) w4 from ⟨some ⟨g, 0, none⟩, vc, dd l', m4, rfl, hm4.symm, by rw [hm4]; refine Nat.le_trans (dd_len l') ?_; have h1 := HLL.out; have h2 := HMK.out; have h3 := HLN.out; omega, HON.out, ho4, HW4.out⟩)
        clear hm4 ho4 hg4
        go_wp2
        go_ret
        exact HP.out
set_option maxRecDepth 100000 in
set_option maxHeartbeats 8000000 in
theorem once_md1 (apex : ByteArray) (q : Nat) (a : Option Addr) (n c : Nat) (l : List R5) (w : World) (h : RowR w a n l) (hn : n ≤ 100000) (hs : ∀ r ∈ l, SmX r) (hq : CN w q [.string apex]) :
    Calls Try.prog 28 #[.slice a n c, .func (.func 29) #[] #[.pointer (some ⟨q, 0, none⟩)]] w fun e w' => OnR (isMd1 apex) l w e w' := by
  obtain ⟨i0, hi, hz0, hz1, hz2⟩ := info_parts infoRR
  have HI := Lib.hid hi
  have HZ0 := Lib.hid hz0
  have HZ1 := Lib.hid hz1
  have HZ2 := Lib.hid hz2
  have HR := Lib.hid h
  have HLN := Lib.hid h.1
  have HS := Lib.hid hs
  have HQ := Lib.hid hq
  obtain ⟨P, hP⟩ : ∃ P, isMd1 apex = P := ⟨_, rfl⟩
  have HCL := Lib.hid (show ∀ (rn : ByteArray) (rt rc ru : Int) (rd : ByteArray) wx, CN wx q [.string apex] → SmX ⟨⟨rn, rt, rc⟩, ru, rd⟩ → Calls Try.prog 29 #[.agg #[.string rn, .int .i64 rt, .int .i64 rc, .int .i64 ru, .string rd], .pointer (some ⟨q, 0, none⟩)] wx fun e w' => e = .returned (.bool (P ⟨⟨rn, rt, rc⟩, ru, rd⟩)) ∧ Below wx.heap.size wx w' from fun rn rt rc ru rd wx hx hsz => by rw [← hP]; exact check1_any apex rn rt rc ru rd q wx hx hsz.2)
  rw [hP]
  clear h hi hz0 hz1 hz2 hs hq hP
  go_enter Try.func28, Try.ntmps28
  go_wp2_with fail
  go_loopw [10, 5] (fun i v wr => ∃ k m : Nat, k ≤ n ∧ m ≤ k ∧ i = .int .i64 k ∧ Hid (((l.take k).filter P).length = m) ∧ Hid (wr.ownsRow w.heap.size 30 5 v m (flatR ((l.take k).filter P))) ∧ Hid (Below w.heap.size w wr)) (fun i _ _ => n - (intOf i).toNat)
  case atStart => exact ⟨0, 0, Nat.zero_le _, Nat.le_refl _, rfl, Lib.hid rfl, Lib.hid (World.ownsRow_nil _ _ _ _), Lib.hid (Below.refl _ _)⟩
  case round =>
    obtain ⟨k, m, hk, hmk, rfl, hm, HO, HW⟩ := hrel
    by_cases hlt : k < n
    · obtain ⟨b, o, r, rfl, hbl, hr, x0, x1, x2, x3, x4⟩ := (HR.out.below HW.out).at k hlt
      have hft := filter_take P hr
      have hsz := HS.out r (List.mem_of_getElem? hr)
      obtain ⟨⟨rn, rt, rc⟩, ru, rd⟩ := r
      replace x0 : wr.cell? ⟨b, o + k * 5, none⟩ = some (.string rn) := x0
      replace x1 : wr.cell? ⟨b, o + k * 5 + 1, none⟩ = some (.int .i64 rt) := x1
      replace x2 : wr.cell? ⟨b, o + k * 5 + 2, none⟩ = some (.int .i64 rc) := x2
      replace x3 : wr.cell? ⟨b, o + k * 5 + 3, none⟩ = some (.int .i64 ru) := x3
      replace x4 : wr.cell? ⟨b, o + k * 5 + 4, none⟩ = some (.string rd) := x4
      have HFT := Lib.hid hft
      have HSZ := Lib.hid hsz
      have HLT := Lib.hid hlt
      have HMK := Lib.hid hmk
      have hba := (Below.refl wr.heap.size wr).alloc (Nat.le_refl _) (.cells #[.string rn, .int .i64 rt, .int .i64 rc, .int .i64 ru, .string rd] 30)
      have HC := Lib.hid (CN.new wr #[.string rn, .int .i64 rt, .int .i64 rc, .int .i64 ru, .string rd] 30)
      have HO1 := Lib.hid (own_below' HO.out hba)
      have HW1 := Lib.hid (HW.out.trans (hba.mono HW.out.size))
      have HQ1 := Lib.hid ((HQ.out.below HW.out).below hba)
      clear hft hsz hbl hr hba hmk
      go_upto_region 5 with (fail)
      obtain ⟨w1, hw1⟩ : ∃ x, wr.alloc (.cells #[.string rn, .int .i64 rt, .int .i64 rc, .int .i64 ru, .string rd] 30) = x := ⟨_, rfl⟩
      obtain ⟨q1, hq1⟩ : ∃ x, wr.heap.size = x := ⟨_, rfl⟩
      rw [hw1] at HC HO1 HW1 HQ1 ⊢
      rw [hq1] at HC ⊢
      clear hw1 hq1 x0 x1 x2 x3 x4
      obtain ⟨x0, x1, x2, x3, x4, _⟩ := HC.out.u5
      go_wp2_with fail
      refine (HCL.out rn rt rc ru rd _ HQ1.out HSZ.out).mono ?_; rintro e w2 ⟨rfl, hb⟩
      have HO2 := Lib.hid (own_below' HO1.out hb)
      have HW2 := Lib.hid (HW1.out.trans (hb.mono HW1.out.size))
      have HC2 := Lib.hid (HC.out.below hb)
      clear hb x0 x1 x2 x3 x4 HO HO1 HC HQ1 HW1
      obtain ⟨v0, hv0⟩ : ∃ x, P ⟨⟨rn, rt, rc⟩, ru, rd⟩ = x := ⟨_, rfl⟩
      rw [hv0] at HFT ⊢
      clear hv0
      cases v0
      · have HN := Lib.hid (show (l.take (k + 1)).filter P = (l.take k).filter P from HFT.out.trans (List.append_nil _))
        go_wp2
        go_roundw
        case rel => exact ⟨k + 1, m, by have := HLT.out; omega, by have := HMK.out; omega, by have := HLT.out; go_num, by rw [HN.out]; exact hm, by rw [HN.out]; exact HO2, HW2⟩
        case measure => have := HLT.out; simp [intOf]; omega
      · have HN := Lib.hid (show (l.take (k + 1)).filter P = (l.take k).filter P ++ [⟨⟨rn, rt, rc⟩, ru, rd⟩] from HFT.out)
        obtain ⟨x0, x1, x2, x3, x4, _⟩ := HC2.out.u5
        have HAL := Lib.hid ((Below.refl w2.heap.size w2).alloc (Nat.le_refl _) (.cells #[.string rn, .int .i64 rt, .int .i64 rc, .int .i64 ru, .string rd] 30))
        go_wp2_with (at_builtin; refine append_cellsK rfl _ _ 22 30 rfl i0 _ 5 56 Try.underlying22 HI.out HZ0.out HZ1.out HZ2.out rfl (by decide) w.heap.size _ m _ rfl (own_below' HO2.out HAL.out) (some ⟨w2.heap.size, 0, none⟩) 1 1 (encR ⟨⟨rn, rt, rc⟩, ru, rd⟩) rfl (fun h => by cases h) (cells_lit w2 #[.string rn, .int .i64 rt, .int .i64 rc, .int .i64 ru, .string rd] _) (fun u hu => flatR_oneM (l := [⟨⟨rn, rt, rc⟩, ru, rd⟩]) (by simpa [flatR] using hu)) (by have := HMK.out; have := HLT.out; omega) (by decide) (by have := HW2.out.size; simp; omega) ?_)
        intro v' w6 hown' hgrow'
        have HO3 := Lib.hid hown'
        have HB3 := Lib.hid ((HW2.out.trans (HAL.out.mono HW2.out.size)).grown hgrow' (by have := HW2.out.size; simp; omega) (fun k hk => (HO2.out.lt k hk).1))
        clear hown' hgrow' x0 x1 x2 x3 x4
        go_wp2
        go_roundw
        case rel => exact ⟨k + 1, m + 1, by have := HLT.out; omega, by have := HMK.out; omega, by have := HLT.out; go_num, Lib.hid (by rw [HN.out, List.length_append, hm.out]; rfl), Lib.hid (by rw [HN.out, flatR_append]; simpa [flatR] using HO3.out), HB3⟩
        case measure => have := HLT.out; simp [intOf]; omega
    · obtain rfl : k = n := by omega
      have htk : l.take k = l := List.take_of_length_le (by rw [HLN.out]; exact Nat.le_refl _)
      rw [htk] at hm HO
      have HMK := Lib.hid hmk
      clear hlt htk hmk hk
      rcases shape_ownM HO.out with ⟨rfl, hm0, hnil⟩ | ⟨g, vc, rfl⟩
      · subst hm0
        have HP := Lib.hid (show OnR P l w (.returned (.slice none 0 0)) wr from ⟨none, 0, [], 0, rfl, rfl, Nat.zero_le _, ⟨List.Pairwise.nil, fun r => ⟨fun h => (by cases h), fun h => by have : r ∈ l.filter P := List.mem_filter.2 h; rw [hnil] at this; exact this⟩⟩, World.ownsRow_nil _ _ _ _, HW.out⟩)
        go_wp2_with fail
        refine (sortRR_none none 0 _ _).mono ?_; rintro e w3 ⟨rfl, rfl⟩
        go_wp2_with fail
        refine (compactM_none 0 _).mono ?_; rintro e w3 ⟨rfl, rfl⟩
        go_wp2
        go_ret
        exact HP.out
      · have HF := Lib.hid (show ∀ r ∈ l.filter P, r.k.n.size ≤ 1000000 from fun r hr => (HS.out r (List.mem_filter.1 hr).1).1)
        go_wp2_with fail
        refine (sortMd_some w.heap.size g m vc _ _ HF.out hm.out HO.out (by have := HMK.out; omega)).mono ?_
        rintro e w3 ⟨rfl, l', hp, hso, ho, hg⟩
        have HW3 := Lib.hid (HW.out.grown hg HW.out.size (fun k hk => by injection hk with hk; rw [← hk]; exact (HO.out.lt g rfl).1))
        have HON := Lib.hid (OnceP.of_sorted ord_mcmp hp hso)
        have HO3 := Lib.hid ho
        have HG3 := Lib.hid (show w.heap.size ≤ g from (HO.out.lt g rfl).1)
        have HLL := Lib.hid (show l'.length = m from by rw [hp.length_eq]; exact hm.out)
        clear hp hso ho hg
        go_wp2_with fail
        refine (compactM_any w.heap.size g m vc l' _ HO3.out (by have := HMK.out; omega)).mono ?_
        rintro e w4 ⟨m4, hm4, rfl, ho4, hg4⟩
        have HW4 := Lib.hid (HW3.out.grown hg4 HW3.out.size (fun k hk => by injection hk with hk; rw [← hk]; exact HG3.out))
        have HP := Lib.hid (show OnR P l w (.returned (.slice (some ⟨g, 0, none⟩) m4 vc)) w4 from ⟨some ⟨g, 0, none⟩, vc, dd l', m4, rfl, hm4.symm, by rw [hm4]; refine Nat.le_trans (dd_len l') ?_; have h1 := HLL.out; have h2 := HMK.out; have h3 := HLN.out; omega, HON.out, ho4, HW4.out⟩)
        clear hm4 ho4 hg4
        go_wp2
        go_ret
        exact HP.out
end Go.Proofs.Ytmhiglhgkgannaa
