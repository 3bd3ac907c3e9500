/- md.Digest. -/
import Derived.Test.YtmhiglhgkgannaaMdD
import Derived.Test.YtmhiglhgkgannaaMgJ
import Derived.Test.YtmhiglhgkgannaaCpR
namespace Go.Proofs.Ytmhiglhgkgannaa
open Go.RowKit

theorem own_othM {w w' : World} {B size n p : Nat} {e : TypeId} {v : Value} {xs : List Value} (h : w.ownsRow B e size v n xs) (g : Oth w w' p) (hp : p < B) : w'.ownsRow B e size v n xs := by
  refine ⟨h.1, ?_⟩
  rcases h.2 with hn | ⟨g', cap, cur, h1, h2, h3, rest⟩
  · exact .inl hn
  · have hlt : g' < w.heap.size := (Array.getElem?_eq_some_iff.1 h3).1
    exact .inr ⟨g', cap, cur, h1, h2, (g.block g' hlt (by omega)).trans h3, rest⟩
theorem own_monoM {w : World} {base base' : Nat} {e : TypeId} {size n : Nat} {v : Value} {xs : List Value} (h : w.ownsRow base e size v n xs) (hb : base' ≤ base) : w.ownsRow base' e size v n xs := by
  refine ⟨h.1, ?_⟩
  rcases h.2 with hn | ⟨g, cap, cur, h1, h2, rest⟩
  · exact .inl hn
  · exact .inr ⟨g, cap, cur, h1, Nat.le_trans hb h2, rest⟩
theorem own_shapeM {w : World} {B size n : Nat} {e : TypeId} {v : Value} {xs : List Value} (h : w.ownsRow B e size v n xs) : ∃ a c, v = .slice a n c ∧ (a = none → n = 0 ∧ c = 0) := by
  rcases h.2 with ⟨hv, hn⟩ | ⟨g, cap, cur, hv, _⟩
  · exact ⟨none, 0, by rw [hv, hn], fun _ => ⟨hn, rfl⟩⟩
  · exact ⟨_, cap, hv, fun h => by cases h⟩
/-- The bytes of some records' forms. -/
def fmsL (o : List R5) : List UInt8 := o.flatMap fun r => (fmB r).data.toList
theorem fmsL_next {o : List R5} {k : Nat} {r : R5} (hr : o[k]? = some r) : fmsL (o.take (k + 1)) = fmsL (o.take k) ++ (fmB r).data.toList := by
  rw [fmsL, fmsL, List.take_add_one, hr, List.flatMap_append]
  simp
theorem fmsL_len : ∀ (o : List R5), (∀ r ∈ o, mayM r = true) → (fmsL o).length ≤ o.length * 1265
  | [], _ => by simp [fmsL]
  | r :: o, h => by
    have ih := fmsL_len o (fun x hx => h x (List.mem_cons_of_mem _ hx))
    have h1 := fmB_size (h r (List.mem_cons_self ..))
    obtain ⟨m1, _, _, _, m5, _⟩ := mayM_parts (h r (List.mem_cons_self ..))
    have h2 := (mayN_size m1).2
    have h3 : fmsL (r :: o) = (fmB r).data.toList ++ fmsL o := rfl
    have h4 : (fmB r).data.toList.length = (fmB r).size := by rw [Array.length_toList]; rfl
    rw [h3, List.length_append, List.length_cons, h4]
    omega
theorem take_ok {l : List R5} {k : Nat} {r : R5} (hr : l[k]? = some r) (h : ∀ x ∈ l.take k, mayM x = true) (hm : mayM r = true) : ∀ x ∈ l.take (k + 1), mayM x = true := by
  rw [List.take_add_one, hr]
  intro x hx
  rcases List.mem_append.1 hx with hx | hx
  · exact h x hx
  · simp at hx; rw [hx]; exact hm
/-- What Digest answers. -/
def DgR (apex : ByteArray) (l : List R5) (w : World) (e : Ending) (w' : World) : Prop :=
  (dgE apex l ≠ 0 ∧ e = .returned (.tuple #[.slice none 0 0, .int .i64 (dgE apex l)]) ∨ dgE apex l = 0 ∧ ∃ va vc, e = .returned (.tuple #[.slice va 48 vc, .int .i64 0]) ∧ w'.ownsRow w.heap.size 5 1 (.slice va 48 vc) 48 (bc (shaL (dgL apex l)))) ∧ Below w.heap.size w w'
theorem dgE_name {apex : ByteArray} {l : List R5} (h : mayN apex = false) : dgE apex l = 10 := by rw [dgE, h]; rfl
theorem dgE_form {apex : ByteArray} {l : List R5} (h : mayN apex = true) {r : R5} (hr : r ∈ l) (hm : mayM r = false) : dgE apex l = 4 := by
  rw [dgE, if_pos h, if_neg]
  intro ha
  rw [List.all_eq_true] at ha
  rw [ha r hr] at hm; cases hm
theorem dgE_ok {apex : ByteArray} {l : List R5} (h : mayN apex = true) (hm : ∀ r ∈ l, mayM r = true) : dgE apex l = 0 := by
  rw [dgE, if_pos h, if_pos (List.all_eq_true.2 hm)]
theorem dgE_zero {apex : ByteArray} {l : List R5} (h : dgE apex l = 0) : mayN apex = true ∧ ∀ r ∈ l, mayM r = true := by
  unfold dgE at h
  split at h
  · rename_i h1
    split at h
    · rename_i h2; exact ⟨h1, List.all_eq_true.1 h2⟩
    · cases h
  · cases h

set_option maxRecDepth 100000 in
set_option maxHeartbeats 16000000 in
theorem digest_any (apex : ByteArray) (a : Option Addr) (n c : Nat) (l : List R5) (w : World) (h : RowR w a n l) (hn : n ≤ 1000) (hs : ∀ r ∈ l, SmX r) (ha : apex.size ≤ 1000000) :
    Calls Try.prog 16 #[.string apex, .slice a n c] w fun e w' => DgR apex l w e w' := by
  have HLN := Lib.hid h.1
  have HS := Lib.hid hs
  have hba := (Below.refl w.heap.size w).alloc (Nat.le_refl _) (.cells #[.string apex] 9)
  have HQ := Lib.hid (CN.new w #[.string apex] 9)
  have HB := Lib.hid hba
  have HR := Lib.hid (h.below hba)
  clear h hs hba
  cases m1 : mayN apex
  · have HP := Lib.hid (show DgR apex l w (.returned (.tuple #[.slice none 0 0, .int .i64 10])) (w.alloc (.cells #[.string apex] 9)) from ⟨Or.inl ⟨by rw [dgE_name m1]; decide, by rw [dgE_name m1]⟩, HB.out⟩)
    have M1 := Lib.hid m1
    clear m1
    go_enter Try.func16, Try.ntmps16
    have y0 := (HQ.out.2 0 _ rfl).1
    go_wp2_with fail
    refine (nmay_any apex _ ha).mono ?_; rintro e w1 ⟨rfl, rfl⟩
    rw [M1.out]
    go_wp2
    go_ret2
    exact HP.out
  have M1 := Lib.hid m1
  clear m1
  go_enter Try.func16, Try.ntmps16
  go_upto_region 1 with (fail)
  obtain ⟨w1, hw1⟩ : ∃ x, w.alloc (.cells #[.string apex] 9) = x := ⟨_, rfl⟩
  obtain ⟨q, hq⟩ : ∃ x, w.heap.size = x := ⟨_, rfl⟩
  have HQW := Lib.hid hq
  rw [hw1] at HQ HB HR ⊢
  rw [hq] at HQ
  rw [show (Value.pointer (some { block := w.heap.size, off := 0 })) = Value.pointer (some { block := q, off := 0 }) by rw [hq]]
  clear hw1 hq
  have y0 := (HQ.out.2 0 _ rfl).1
  go_wp2_with fail
  refine (nmay_any apex _ ha).mono ?_; rintro e w2 ⟨rfl, rfl⟩
  rw [M1.out]
  go_wp2_with fail
  have HBS := Lib.hid HB.out.size
  have HQS := Lib.hid (show q < w1.heap.size from HQ.out.1)
  refine (new_any _).mono ?_; rintro e w2 ⟨p, rfl, hp, hsh, hb⟩
  replace HB := Lib.hid (HB.out.trans (hb.mono HB.out.size))
  replace HQ := Lib.hid (HQ.out.below hb)
  replace HR := Lib.hid (HR.out.below hb)
  have HSH := Lib.hid hsh
  have HPW := Lib.hid (show w.heap.size ≤ p ∧ q < p from ⟨Nat.le_trans HBS.out hp, Nat.lt_of_lt_of_le HQS.out hp⟩)
  clear hb hsh hp y0
  go_wp2_with fail
  go_loopw [21] (fun i wr => ∃ k : Nat, k ≤ n ∧ i = .int .i64 k ∧ Hid (∀ r ∈ l.take k, mayM r = true) ∧ Hid (ShL wr p []) ∧ Hid (CN wr q [.string apex]) ∧ Hid (RowR wr a n l) ∧ Hid (Below w.heap.size w wr)) (fun i _ => n - (intOf i).toNat)
  case atStart => exact ⟨0, Nat.zero_le _, rfl, Lib.hid (fun r hr => by simp at hr), HSH, HQ, HR, HB⟩
  case round =>
    obtain ⟨k, hk, rfl, HM, HSH1, HQ1, HR1, HB1⟩ := hrel
    clear HSH HQ HR HB
    by_cases hlt : k < n
    · obtain ⟨b, o, r, rfl, hbl, hr, x0, x1, x2, x3, x4⟩ := HR1.out.at k hlt
      have hsz := HS.out r (List.mem_of_getElem? hr)
      have HRM := Lib.hid (List.mem_of_getElem? hr)
      have HTK := Lib.hid (take_ok hr HM.out)
      obtain ⟨⟨rn, rt, rc⟩, ru, rd⟩ := r
      replace x0 : wr.cell? ⟨b, o + k * 5, none⟩ = some (.string rn) := x0
      replace x1 : wr.cell? ⟨b, o + k * 5 + 1, none⟩ = some (.int .i64 rt) := x1
      replace x2 : wr.cell? ⟨b, o + k * 5 + 2, none⟩ = some (.int .i64 rc) := x2
      replace x3 : wr.cell? ⟨b, o + k * 5 + 3, none⟩ = some (.int .i64 ru) := x3
      replace x4 : wr.cell? ⟨b, o + k * 5 + 4, none⟩ = some (.string rd) := x4
      have HSZ := Lib.hid hsz
      have HLT := Lib.hid hlt
      have hba := (Below.refl wr.heap.size wr).alloc (Nat.le_refl _) (.cells #[.string rn, .int .i64 rt, .int .i64 rc, .int .i64 ru, .string rd] 30)
      have HC := Lib.hid (CN.new wr #[.string rn, .int .i64 rt, .int .i64 rc, .int .i64 ru, .string rd] 30)
      replace HSH1 := Lib.hid (HSH1.out.below hba)
      replace HQ1 := Lib.hid (HQ1.out.below hba)
      replace HR1 := Lib.hid (HR1.out.below hba)
      replace HB1 := Lib.hid (HB1.out.trans (hba.mono HB1.out.size))
      clear hsz hbl hr hba
      go_upto_region 7 with (fail)
      obtain ⟨w3, hw3⟩ : ∃ x, wr.alloc (.cells #[.string rn, .int .i64 rt, .int .i64 rc, .int .i64 ru, .string rd] 30) = x := ⟨_, rfl⟩
      obtain ⟨q3, hq3⟩ : ∃ x, wr.heap.size = x := ⟨_, rfl⟩
      rw [hw3] at HC HSH1 HQ1 HR1 HB1 ⊢
      rw [hq3] at HC ⊢
      clear hw3 hq3 x0 x1 x2 x3 x4
      obtain ⟨x0, x1, x2, x3, x4, _⟩ := HC.out.u5
      go_wp2_with fail
      refine (form_any rn rt rc ru rd _ HSZ.out.1 HSZ.out.2).mono ?_; rintro e w4 ⟨rfl, hb⟩
      replace HSH1 := Lib.hid (HSH1.out.below hb)
      replace HQ1 := Lib.hid (HQ1.out.below hb)
      replace HR1 := Lib.hid (HR1.out.below hb)
      replace HB1 := Lib.hid (HB1.out.trans (hb.mono HB1.out.size))
      clear hb x0 x1 x2 x3 x4 HC
      cases hm : mayM ⟨⟨rn, rt, rc⟩, ru, rd⟩
      · have HP := Lib.hid (show DgR apex l w (.returned (.tuple #[.slice none 0 0, .int .i64 4])) w4 from ⟨Or.inl ⟨by rw [dgE_form M1.out HRM.out hm]; decide, by rw [dgE_form M1.out HRM.out hm]⟩, HB1.out⟩)
        rw [(fm_no hm).1, (fm_no hm).2]
        clear hm
        go_wp2
        go_ret2
        exact HP.out
      · have HM2 := Lib.hid (HTK.out hm)
        rw [(fm_yes hm).1, (fm_yes hm).2]
        obtain ⟨S, hS⟩ : ∃ S, fmB ⟨⟨rn, rt, rc⟩, ru, rd⟩ = S := ⟨_, rfl⟩
        rw [hS]
        clear hm hS
        go_wp2
        go_roundw
        case rel => exact ⟨k + 1, by have := HLT.out; omega, by have := HLT.out; go_num, HM2, HSH1, HQ1, HR1, HB1⟩
        case measure => have := HLT.out; simp [intOf]; omega
    · obtain rfl : k = n := by omega
      have htk : l.take k = l := List.take_of_length_le (by rw [HLN.out]; exact Nat.le_refl _)
      rw [htk] at HM
      clear hlt htk hk
      go_wp2_with fail
      refine (once_cnt apex q a k c l _ HR1.out (by omega) HS.out ha HQ1.out).mono ?_
      rintro e w5 ⟨va, vc, o, m, rfl, hom, hml, hon, ho, hb⟩
      have HPS := Lib.hid (show p < wr.heap.size from HSH1.out.lt)
      replace HSH1 := Lib.hid (HSH1.out.below hb)
      replace HB1 := Lib.hid (HB1.out.trans (hb.mono HB1.out.size))
      have HO := Lib.hid ho
      have HOM := Lib.hid hom
      have HML := Lib.hid (show m ≤ k by rw [← HLN.out]; exact hml)
      have HMO := Lib.hid (show ∀ r ∈ o, mayM r = true ∧ SmX r from fun r hr => have h := ((hon.mem r).1 hr).1; ⟨HM.out r h, HS.out r h⟩)
      have HOE := Lib.hid (show fmsL o = dgL apex l by rw [hon.eqF ord_mcmp]; rfl)
      have HDZ := Lib.hid (show dgE apex l = 0 from dgE_ok M1.out HM.out)
      obtain ⟨BB, hBB⟩ : ∃ x, wr.heap.size = x := ⟨_, rfl⟩
      rw [hBB] at HPS HO
      clear hb ho hom hml hon HQ1 HR1 HM hBB
      go_wp2_with fail
      go_loopw [38] (fun i wr => ∃ j : Nat, j ≤ m ∧ i = .int .i64 j ∧ Hid (ShL wr p (fmsL (o.take j))) ∧ Hid (wr.ownsRow BB 30 5 (.slice va m vc) m (flatR o)) ∧ Hid (Below w.heap.size w wr)) (fun i _ => m - (intOf i).toNat)
      case atStart => exact ⟨0, Nat.zero_le _, rfl, HSH1, HO, HB1⟩
      case round =>
        obtain ⟨j, hj, rfl, HSH2, HO2, HB2⟩ := hrel
        clear HSH1 HO HB1
        by_cases hlt : j < m
        · obtain ⟨a9, c9, he9, hrr9, _⟩ := rowR_own HO2.out
          injection he9 with e1 e2 e3
          subst e1 e3
          obtain ⟨b, of, r, rfl, hbl, hr, x0, x1, x2, x3, x4⟩ := hrr9.at j hlt
          have hmo := HMO.out r (List.mem_of_getElem? hr)
          have hnx := fmsL_next hr
          have htl := fmsL_len (o.take j) (fun r hr => (HMO.out r (List.mem_of_mem_take hr)).1)
          rw [List.length_take, HOM.out] at htl
          obtain ⟨⟨rn, rt, rc⟩, ru, rd⟩ := r
          replace x0 : wr.cell? ⟨b, of + j * 5, none⟩ = some (.string rn) := x0
          replace x1 : wr.cell? ⟨b, of + j * 5 + 1, none⟩ = some (.int .i64 rt) := x1
          replace x2 : wr.cell? ⟨b, of + j * 5 + 2, none⟩ = some (.int .i64 rc) := x2
          replace x3 : wr.cell? ⟨b, of + j * 5 + 3, none⟩ = some (.int .i64 ru) := x3
          replace x4 : wr.cell? ⟨b, of + j * 5 + 4, none⟩ = some (.string rd) := x4
          have HLT := Lib.hid hlt
          have HMR := Lib.hid hmo
          have HNX := Lib.hid hnx
          have HTL := Lib.hid (show (fmsL (o.take j)).length ≤ 1265000 by have := HML.out; have h3 : min j m ≤ 1000 := (by omega); have h4 := Nat.mul_le_mul_right 1265 h3; omega)
          have hba := (Below.refl wr.heap.size wr).alloc (Nat.le_refl _) (.cells #[.string rn, .int .i64 rt, .int .i64 rc, .int .i64 ru, .string rd] 30)
          have HC := Lib.hid (CN.new wr #[.string rn, .int .i64 rt, .int .i64 rc, .int .i64 ru, .string rd] 30)
          replace HSH2 := Lib.hid (HSH2.out.below hba)
          replace HO2 := Lib.hid (own_below' HO2.out hba)
          replace HB2 := Lib.hid (HB2.out.trans (hba.mono HB2.out.size))
          clear hmo hnx htl hbl hr hba hrr9
          go_upto_region 14 with (fail)
          obtain ⟨w3, hw3⟩ : ∃ x, wr.alloc (.cells #[.string rn, .int .i64 rt, .int .i64 rc, .int .i64 ru, .string rd] 30) = x := ⟨_, rfl⟩
          obtain ⟨q3, hq3⟩ : ∃ x, wr.heap.size = x := ⟨_, rfl⟩
          rw [hw3] at HC HSH2 HO2 HB2 ⊢
          rw [hq3] at HC ⊢
          clear hw3 hq3 x0 x1 x2 x3 x4
          obtain ⟨x0, x1, x2, x3, x4, _⟩ := HC.out.u5
          go_wp2_with fail
          refine (form_any rn rt rc ru rd _ HMR.out.2.1 HMR.out.2.2).mono ?_; rintro e w4 ⟨rfl, hb⟩
          replace HSH2 := Lib.hid (HSH2.out.below hb)
          replace HO2 := Lib.hid (own_below' HO2.out hb)
          replace HB2 := Lib.hid (HB2.out.trans (hb.mono HB2.out.size))
          clear hb x0 x1 x2 x3 x4 HC
          rw [(fm_yes HMR.out.1).1, (fm_yes HMR.out.1).2]
          have hfz := fmB_size HMR.out.1
          have hfn := (mayN_size (mayM_parts HMR.out.1).1).2
          have hfd := (mayM_parts HMR.out.1).2.2.2.2.1
          obtain ⟨S, hS⟩ : ∃ S, fmB ⟨⟨rn, rt, rc⟩, ru, rd⟩ = S := ⟨_, rfl⟩
          rw [hS] at HNX hfz ⊢
          have HSZ := Lib.hid (show S.size ≤ 1265 by have h1 : rn.size ≤ 255 := hfn; have h2 : rd.size ≤ 1000 := hfd; have h3 : S.size = rn.size + 10 + rd.size := hfz; omega)
          clear hS hfz hfn hfd
          go_wp2_with (refine conv_bytes rfl _ rfl S rfl ?_)
          intro cap w5 hcap hb hsz hcell hfr
          have HPL := Lib.hid (show p < w4.heap.size from HSH2.out.lt)
          replace HSH2 := Lib.hid (HSH2.out.below hb)
          replace HO2 := Lib.hid (own_below' HO2.out hb)
          replace HB2 := Lib.hid (HB2.out.trans (hb.mono HB2.out.size))
          have hSL : S.data.toList.length = S.size := by rw [Array.length_toList]; rfl
          have HV := Lib.hid (show ValC w5 (.slice (some ⟨w4.heap.size, 0, none⟩) S.size cap) S.data.toList from by
            refine ⟨some ⟨w4.heap.size, 0, none⟩, cap, by rw [hSL], by omega, ?_, fun h => by cases h⟩
            refine ⟨by rw [bc_length], Or.inr ⟨w4.heap.size, 0, rfl, by omega, fun i u hi => ?_⟩⟩
            have hi2 : i < S.size := by have := (List.getElem?_eq_some_iff.1 hi).1; rw [bc_length, hSL] at this; exact this
            rw [Nat.zero_add, hcell i hi2, ← hi, bc, List.getElem?_map, Array.getElem?_toList, Array.getElem?_eq_getElem (show i < S.data.size from hi2)]
            rfl)
          obtain ⟨q5, hq5⟩ : ∃ x, w4.heap.size = x := ⟨_, rfl⟩
          rw [hq5] at HV HPL ⊢
          have HF := Lib.hid (FarC.one HV.out (q := p) (fun b off l c he => Or.inr (by injection he with h1; injection h1 with h1; injection h1 with h1; have := HPL.out; omega)) HSH2.out.lt _ rfl)
          have hba := (Below.refl w5.heap.size w5).alloc (Nat.le_refl _) (.cells #[.slice (some ⟨q5, 0, none⟩) S.size cap] 40)
          replace HSH2 := Lib.hid (HSH2.out.below hba)
          replace HO2 := Lib.hid (own_below' HO2.out hba)
          replace HB2 := Lib.hid (HB2.out.trans (hba.mono HB2.out.size))
          clear hb hsz hcell hfr hba hcap hq5 HV
          have HSL := Lib.hid hSL
          clear hSL
          go_wp2_with fail
          refine (writes_any p _ _ 1 1 [S.data.toList] _ HSH2.out HF.out (by decide) (by have h1 := HTL.out; have h2 := HSL.out; have h3 := HSZ.out; simp; omega)).mono ?_; rintro e w6 ⟨rfl, hs6, ho6⟩
          have HSH3 := Lib.hid (show ShL w6 p (fmsL (o.take (j + 1))) by rw [HNX.out]; simpa using hs6)
          have HO3 := Lib.hid (own_othM HO2.out ho6 HPS.out)
          have HB3 := Lib.hid (ho6.under HB2.out HPW.out.1 HB2.out.size)
          clear hs6 ho6 HF HSH2 HO2 HB2
          have hjm : (j : Int) < 1000 := by have := HLT.out; have := HML.out; omega
          go_wp2
          go_roundw
          case rel => exact ⟨j + 1, by have := HLT.out; omega, by have := HLT.out; have := HML.out; go_num, HSH3, HO3, HB3⟩
          case measure => have := HLT.out; simp [intOf]; omega
        · obtain rfl : j = m := by omega
          have htk : o.take j = o := List.take_of_length_le (by rw [HOM.out]; exact Nat.le_refl _)
          have hlen := fmsL_len o (fun r hr => (HMO.out r hr).1)
          rw [htk] at HSH2
          rw [HOE.out] at HSH2 hlen
          rw [HOM.out] at hlen
          have HLN2 := Lib.hid (show (dgL apex l).length ≤ 100000000 by have := HML.out; have h3 : j ≤ 1000 := (by omega); have h4 := Nat.mul_le_mul_right 1265 h3; omega)
          clear hlt htk hlen hj
          go_wp2_with fail
          refine (sum_any p _ _ HSH2.out HLN2.out).mono ?_; rintro e w7 ⟨v, rfl, hov, hb⟩
          obtain ⟨av, cv, rfl, _⟩ := own_shapeM hov
          have HP := Lib.hid (show DgR apex l w (.returned (.tuple #[.slice av 48 cv, .int .i64 0])) w7 from ⟨Or.inr ⟨HDZ.out, av, cv, rfl, own_monoM hov HB2.out.size⟩, HB2.out.trans (hb.mono HB2.out.size)⟩)
          clear hov hb HSH2 HO2 HB2
          go_wp2
          go_ret2
          exact HP.out
end Go.Proofs.Ytmhiglhgkgannaa
