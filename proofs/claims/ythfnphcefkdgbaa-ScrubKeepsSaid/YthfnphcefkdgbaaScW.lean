/- Contract of scrub.Within. -/
import Derived.Test.YthfnphcefkdgbaaScP
namespace Go.Proofs.Ythfnphcefkdgbaa
open Go.RowKit

theorem wi_next {cut : ByteArray} {l : List R5} {k : Nat} {r : R5} (h : l[k]? = some r) : wiL cut (l.take (k + 1)) = wiL cut (l.take k) ++ (if inC cut r = true then [r] else []) := by
  rw [wiL, wiL, List.take_add_one, h, List.filter_append]
  congr 1
  cases hc : inC cut r <;> simp [hc]
theorem wiL_le (cut : ByteArray) (l : List R5) : (wiL cut l).length ≤ l.length := List.length_filter_le _ _
theorem wiL_mem {cut : ByteArray} {l : List R5} {r : R5} (h : r ∈ wiL cut l) : r ∈ l := (List.mem_filter.1 h).1
/-- Group, and that its sets are the call's own. -/
def GrpO (l : List R5) (w : World) (e : Ending) (w' : World) : Prop := ∃ a c S, e = .returned (.slice a S.length c) ∧ Canon l S ∧ sumD S ≤ l.length ∧ S.length ≤ l.length ∧ SetsUp w' w.heap.size a S.length S ∧ Below w.heap.size w w' ∧ ∃ Lp : List (SetP × Value), Lp.map Prod.fst = S ∧ OwnSets w' w.heap.size (.slice a S.length c) Lp
theorem group_own (a : Option Addr) (n c : Nat) (l : List R5) (w : World) (h : RowR w a n l) (hn : a = none → n = 0 ∧ c = 0) (hlen : n ≤ 100000) (hl : ∀ r ∈ l, r.k.n.size ≤ 1000000) :
    Calls Try.prog 116 #[.slice a n c] w fun e w' => GrpO l w e w' := by
  refine (groupLoop a n c l w h hn hlen hl).mono ?_
  rintro e w' ⟨v, l', L, rfl, hp, hs, hos, hL, hb⟩
  obtain ⟨a', c', hv, hsa, _⟩ := SetsUp.own hos
  have hc : Canon l (L.map Prod.fst) := by rw [hL]; exact canon_group hp hs h.1
  have hsum : sumD (L.map Prod.fst) ≤ l.length := by rw [hL, h.1]; exact grpK_sum l' n
  have hlen2 : L.length ≤ l.length := by
    have h1 := grpK_len l' n
    rw [← hL, List.length_map] at h1
    rw [h.1]; exact h1
  have e9 : (L.map Prod.fst).length = L.length := List.length_map ..
  rw [hv] at hos
  exact ⟨a', c', L.map Prod.fst, by rw [e9, hv], hc, hsum, by omega, by rw [e9]; exact hsa, hb, L, rfl, by rw [e9]; exact hos⟩
/-- What Within tells. -/
def WiR (cut : ByteArray) (l : List R5) (w : World) (e : Ending) (w' : World) : Prop := ∃ a c S, e = .returned (.slice a S.length c) ∧ wiF cut l = S ∧ sumD S ≤ l.length ∧ S.length ≤ l.length ∧ SetsUp w' w.heap.size a S.length S ∧ (∃ Lp : List (SetP × Value), Lp.map Prod.fst = S ∧ OwnSets w' w.heap.size (.slice a S.length c) Lp) ∧ Below w.heap.size w w'
theorem OwnSets.mono {w : World} {A B : Nat} {v : Value} {L : List (SetP × Value)} (h : OwnSets w B v L) (hA : A ≤ B) : OwnSets w A v L := ⟨own_mono4 h.1 hA, fun p hp => own_mono4 (h.2.1 p hp) hA, h.2.2⟩
theorem WiR.of {cut : ByteArray} {l : List R5} {w w1 w' : World} {e : Ending} (h : GrpO (wiL cut l) w1 e w') (hb : Below w.heap.size w w1) : WiR cut l w e w' := by
  obtain ⟨a, c, S, rfl, hc, h1, h2, h3, h4, Lp, h5, h6⟩ := h
  have := wiL_le cut l
  exact ⟨a, c, S, rfl, (grpF_of hc).symm, by omega, by omega, h3.mono hb.size, ⟨Lp, h5, h6.mono hb.size⟩, hb.trans (h4.mono hb.size)⟩

set_option maxRecDepth 100000 in
set_option maxHeartbeats 4000000 in
theorem within_any (cut : ByteArray) (a : Option Addr) (n c : Nat) (l : List R5) (w : World) (h : RowR w a n l) (hlen : n ≤ 100000) (hk : ∀ r ∈ l, r.k.n.size ≤ 1000000) (hd : ∀ r ∈ l, r.d.size ≤ 1000000) (hc : cut.size ≤ 1000000) :
    Calls Try.prog 92 #[.string cut, .slice a n c] w fun e w' => WiR cut l w e w' := by
  obtain ⟨i0, hi, hz0, hz1, hz2⟩ := info_parts infoRR
  have HI := Lib.hid hi
  have HZ0 := Lib.hid hz0
  have HZ1 := Lib.hid hz1
  have HZ2 := Lib.hid hz2
  have HR := Lib.hid h
  have HRL := Lib.hid h.1
  have HK := Lib.hid hk
  have HD := Lib.hid hd
  have HCT := Lib.hid hc
  clear h hk hd hc hi hz0 hz1 hz2
  go_enter Try.func92, Try.ntmps92
  go_wp2_with fail
  go_loopw [5, 10] (fun v i wr => ∃ k m : Nat, k ≤ n ∧ m ≤ k ∧ i = .int .i64 k ∧ Hid ((wiL cut (l.take k)).length = m) ∧ Hid (wr.ownsRow w.heap.size 87 5 v m (flatR (wiL cut (l.take k)))) ∧ Hid (Below w.heap.size w wr)) (fun _ i _ => n - (intOf i).toNat)
  case atStart => exact ⟨0, 0, Nat.zero_le _, Nat.zero_le _, rfl, Lib.hid rfl, Lib.hid (World.ownsRow_nil _ _ _ _), Lib.hid (Below.refl _ _)⟩
  case round =>
    obtain ⟨k, m, hk, hm, rfl, HKL, HO, HW⟩ := hrel
    by_cases hlt : k < n
    · obtain ⟨b, o, r, rfl, hbl, hr, x0, x1, x2, x3, x4⟩ := (HR.out.below HW.out).at k hlt
      have HN := Lib.hid (wi_next (cut := cut) hr)
      have hmem := List.mem_of_getElem? hr
      have h1 := HK.out r hmem
      have h2 := HD.out r hmem
      obtain ⟨⟨rn, rt, rc⟩, ru, rd⟩ := r
      replace x0 : wr.cell? ⟨b, o + k * 5, none⟩ = some (.string rn) := x0
      replace x1 : wr.cell? ⟨b, o + k * 5 + 1, none⟩ = some (.int .i64 rt) := x1
      replace x2 : wr.cell? ⟨b, o + k * 5 + 2, none⟩ = some (.int .i64 rc) := x2
      replace x3 : wr.cell? ⟨b, o + k * 5 + 3, none⟩ = some (.int .i64 ru) := x3
      replace x4 : wr.cell? ⟨b, o + k * 5 + 4, none⟩ = some (.string rd) := x4
      replace h1 : rn.size ≤ 1000000 := h1
      replace h2 : rd.size ≤ 1000000 := h2
      have i1 : (0 : Int) ≤ (k : Int) := by omega
      have i2 : (k : Int) < (n : Int) := by omega
      have HRN := Lib.hid h1
      have HM := Lib.hid (fun wx => mayRR_any rn rt rc ru rd wx h1 h2)
      have HLT := Lib.hid hlt
      have hba := (Below.refl wr.heap.size wr).alloc (Nat.le_refl _) (.cells #[.string rn, .int .i64 rt, .int .i64 rc, .int .i64 ru, .string rd] 87)
      have hn7 := CN.new wr #[.string rn, .int .i64 rt, .int .i64 rc, .int .i64 ru, .string rd] 87
      have HO1 := Lib.hid (own_below' HO.out hba)
      have HB1 := Lib.hid (HW.out.trans (hba.mono HW.out.size))
      clear hr hlt hmem h1 h2 hbl hba HO HW
      go_upto_region 5 with (fail)
      obtain ⟨w1, hw1⟩ : ∃ x, wr.alloc (.cells #[.string rn, .int .i64 rt, .int .i64 rc, .int .i64 ru, .string rd] 87) = x := ⟨_, rfl⟩
      obtain ⟨q7, hq7⟩ : ∃ x, wr.heap.size = x := ⟨_, rfl⟩
      rw [hw1] at hn7 HO1 HB1 ⊢
      rw [hq7] at hn7 ⊢
      have HC7 := Lib.hid hn7
      obtain ⟨y0, y1, y2, y3, y4, -⟩ := hn7.u5
      clear hw1 hq7 hn7 x0 x1 x2 x3 x4
      by_cases hc1 : rc = 1
      · subst hc1
        obtain ⟨vm, hvm⟩ : ∃ x, mayR rn rt 1 ru rd = x := ⟨_, rfl⟩
        rw [hvm] at HM
        have HVM := Lib.hid (show mayR5 ⟨⟨rn, rt, 1⟩, ru, rd⟩ = vm from hvm)
        clear hvm
        go_wp2_with fail
        refine (HM.out _).mono ?_; rintro e w2 ⟨rfl, hb⟩
        have HC2 := Lib.hid (HC7.out.below hb)
        have HO2 := Lib.hid (own_below' HO1.out hb)
        have HB2 := Lib.hid (HB1.out.trans (hb.mono HB1.out.size))
        clear hb HC7 HO1 HB1 HM y0 y1 y2 y3 y4
        obtain ⟨y0, y1, y2, y3, y4, -⟩ := HC2.out.u5
        cases vm
        · have HN2 := Lib.hid (show wiL cut (l.take (k + 1)) = wiL cut (l.take k) by rw [HN.out, inC, HVM.out]; simp)
          go_wp2
          go_roundw
          case rel => exact ⟨k + 1, m, by have := HLT.out; omega, by omega, by go_num, Lib.hid (by rw [HN2.out]; exact HKL.out), Lib.hid (by rw [HN2.out]; exact HO2.out), HB2⟩
          case measure => have := HLT.out; simp [intOf]; omega
        · obtain ⟨vu, hvu⟩ : ∃ x, undS rn cut = x := ⟨_, rfl⟩
          have HVU := Lib.hid hvu
          have HU := Lib.hid (fun wx => under_any rn cut wx HRN.out HCT.out)
          rw [hvu] at HU
          clear hvu
          go_wp2_with fail
          refine (HU.out _).mono ?_; rintro e w3 ⟨rfl, rfl⟩
          cases vu
          · have HN2 := Lib.hid (show wiL cut (l.take (k + 1)) = wiL cut (l.take k) by rw [HN.out, inC, HVM.out, HVU.out]; simp)
            go_wp2
            go_roundw
            case rel => exact ⟨k + 1, m, by have := HLT.out; omega, by omega, by go_num, Lib.hid (by rw [HN2.out]; exact HKL.out), Lib.hid (by rw [HN2.out]; exact HO2.out), HB2⟩
            case measure => have := HLT.out; simp [intOf]; omega
          · have HN2 := Lib.hid (show wiL cut (l.take (k + 1)) = wiL cut (l.take k) ++ [⟨⟨rn, rt, 1⟩, ru, rd⟩] by rw [HN.out, inC, HVM.out, HVU.out]; simp)
            have hal := (Below.refl w2.heap.size w2).alloc (Nat.le_refl _) (.cells #[.string rn, .int .i64 rt, .int .i64 1, .int .i64 ru, .string rd] 87)
            have HAL := Lib.hid hal
            clear hal
            go_wp2_with (at_builtin; refine append_cellsK rfl _ _ 75 87 rfl i0 _ 5 56 Try.underlying75 HI.out HZ0.out HZ1.out HZ2.out rfl (by decide) w.heap.size _ m _ rfl (own_below' HO2.out HAL.out) (some ⟨w2.heap.size, 0, none⟩) 1 1 (encR ⟨⟨rn, rt, 1⟩, ru, rd⟩) rfl (fun h => by cases h) (cells_lit w2 #[.string rn, .int .i64 rt, .int .i64 1, .int .i64 ru, .string rd] _) (fun u hu => flatR_one [⟨⟨rn, rt, 1⟩, ru, rd⟩] u (by simpa [flatR] using hu)) (by omega) (by decide) (by have := HB2.out.size; simp; omega) ?_)
            intro v' w6 hown' hgrow'
            have HO3 := Lib.hid hown'
            have HB3 := Lib.hid ((HB2.out.trans (HAL.out.mono HB2.out.size)).grown hgrow' (by have := HB2.out.size; simp; omega) (fun k hk => (HO2.out.lt k hk).1))
            clear hown' hgrow'
            go_wp2
            go_roundw
            case rel => exact ⟨k + 1, m + 1, by have := HLT.out; omega, by omega, by go_num, Lib.hid (by rw [HN2.out, List.length_append, HKL.out]; rfl), Lib.hid (by rw [HN2.out, flatR_append]; simpa [flatR] using HO3.out), HB3⟩
            case measure => have := HLT.out; simp [intOf]; omega
      · have d1 := eF hc1
        have HN2 := Lib.hid (show wiL cut (l.take (k + 1)) = wiL cut (l.take k) by rw [HN.out, inC]; simp [hc1])
        clear hc1
        go_wp2
        go_roundw
        case rel => exact ⟨k + 1, m, by have := HLT.out; omega, by omega, by go_num, Lib.hid (by rw [HN2.out]; exact HKL.out), Lib.hid (by rw [HN2.out]; exact HO1.out), HB1⟩
        case measure => have := HLT.out; simp [intOf]; omega
    · obtain rfl : k = n := by omega
      have hfull : l.take k = l := by rw [List.take_of_length_le (by rw [HRL.out]; omega)]
      rw [hfull] at HO HKL
      clear hfull hlt
      obtain ⟨ga, gc, hva, hgr, hgn⟩ := rowR_own HO.out
      subst hva
      have HGR := Lib.hid hgr
      have HGN := Lib.hid hgn
      clear hgr hgn HO
      go_wp2_with fail
      refine (group_own ga m gc (wiL cut l) wr HGR.out HGN.out (by omega) (fun r hr => HK.out r (wiL_mem hr))).mono ?_; rintro e w2 hg
      have HGG := Lib.hid (WiR.of hg HW.out)
      obtain ⟨a, c, S, rfl, -⟩ := hg
      clear hk hm
      go_wp2
      go_ret
      exact HGG.out
end Go.Proofs.Ythfnphcefkdgbaa
