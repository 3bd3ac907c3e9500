/- Encode of the chapter's example, whole. -/
import Derived.Test.YtkoafkajmfodkaaEn5
namespace Go.Proofs.Ytkoafkajmfodkaa
open Go.RowKit

theorem rowRR3 (w : World) {na sa xa : Option Addr} {nl nc sl sc xl xc : Nat} {A N X : List R5} (ha : RowR w na nl A) (han : na = none → nl = 0 ∧ nc = 0) (hn : RowR w sa sl N) (hnn : sa = none → sl = 0 ∧ sc = 0) (hx : RowR w xa xl X) (hxn : xa = none → xl = 0 ∧ xc = 0) : RowRR (w.alloc (.cells #[.slice na nl nc, .slice sa sl sc, .slice xa xl xc] 25)) (some ⟨w.heap.size, 0, none⟩) 3 [A, N, X] := by
  have hba := (Below.refl w.heap.size w).alloc (Nat.le_refl _) (.cells #[.slice na nl nc, .slice sa sl sc, .slice xa xl xc] 25)
  refine ⟨_, cells_lit w #[.slice na nl nc, .slice sa sl sc, .slice xa xl xc] 25, rfl, fun j u hj => ?_⟩
  match j, hj with
  | 0, hj =>
    obtain rfl : Value.slice na nl nc = u := by simpa using hj
    exact ⟨A, rfl, na, nc, by rw [ha.1], by rw [ha.1]; exact ha.below hba, by rw [ha.1]; exact han⟩
  | 1, hj =>
    obtain rfl : Value.slice sa sl sc = u := by simpa using hj
    exact ⟨N, rfl, sa, sc, by rw [hn.1], by rw [hn.1]; exact hn.below hba, by rw [hn.1]; exact hnn⟩
  | 2, hj =>
    obtain rfl : Value.slice xa xl xc = u := by simpa using hj
    exact ⟨X, rfl, xa, xc, by rw [hx.1], by rw [hx.1]; exact hx.below hba, by rw [hx.1]; exact hxn⟩
  | j + 3, hj => simp at hj
set_option maxRecDepth 100000 in
set_option maxHeartbeats 4000000 in
theorem all_ex (mi mo mr : Int) (b1 b2 b3 b4 b5 : Bool) (qa na sa xa : Option Addr) (ql qc nl nc sl sc xl xc : Nat) (A N X : List R5) (w : World) (ha : RowR w na nl A) (han : na = none → nl = 0 ∧ nc = 0) (hn : RowR w sa sl N) (hnn : sa = none → sl = 0 ∧ sc = 0) (hx : RowR w xa xl X) (hxn : xa = none → xl = 0 ∧ xc = 0) (hs : nl + sl + xl ≤ 100000) :
    Calls Try.prog 28 #[.agg #[.int .i64 mi, .int .i64 mo, .int .i64 mr, .bool b1, .bool b2, .bool b3, .bool b4, .bool b5, .slice qa ql qc, .slice na nl nc, .slice sa sl sc, .slice xa xl xc]] w fun e w' => ∃ v, e = .returned v ∧ w'.ownsRow w.heap.size 75 5 v (nl + sl + xl) (flatR (A ++ (N ++ X))) ∧ Below w.heap.size w w' := by
  have hb1 := (Below.refl w.heap.size w).alloc (Nat.le_refl _) (.cells #[.int .i64 mi, .int .i64 mo, .int .i64 mr, .bool b1, .bool b2, .bool b3, .bool b4, .bool b5, .slice qa ql qc, .slice na nl nc, .slice sa sl sc, .slice xa xl xc] 27)
  obtain ⟨w1, hw1⟩ : ∃ x, w.alloc (.cells #[.int .i64 mi, .int .i64 mo, .int .i64 mr, .bool b1, .bool b2, .bool b3, .bool b4, .bool b5, .slice qa ql qc, .slice na nl nc, .slice sa sl sc, .slice xa xl xc] 27) = x := ⟨_, rfl⟩
  rw [hw1] at hb1
  have HRR := Lib.hid (rowRR3 w1 (ha.below hb1) han (hn.below hb1) hnn (hx.below hb1) hxn)
  have hb2 := (Below.refl _ w1).alloc (Nat.le_refl _) (.cells #[.slice na nl nc, .slice sa sl sc, .slice xa xl xc] 25)
  obtain ⟨w2, hw2⟩ : ∃ x, w1.alloc (.cells #[.slice na nl nc, .slice sa sl sc, .slice xa xl xc] 25) = x := ⟨_, rfl⟩
  rw [hw2] at hb2 HRR
  have HB := Lib.hid (hb1.trans (hb2.mono hb1.size))
  obtain ⟨M, hM⟩ : ∃ x, [A, N, X] = x := ⟨_, rfl⟩
  rw [hM] at HRR
  have HS := Lib.hid (show M.flatten.length = nl + sl + xl by rw [← hM]; simp [ha.1, hn.1, hx.1]; omega)
  have HF := Lib.hid (show M.flatten = A ++ (N ++ X) by rw [← hM]; simp)
  obtain ⟨g, hg⟩ : ∃ x, w1.heap.size = x := ⟨_, rfl⟩
  rw [hg] at HRR
  have HG := Lib.hid (show w.heap.size + 1 = g by rw [← hg, ← hw1, World.size_alloc])
  have HW1 := Lib.hid hw1
  have HW2 := Lib.hid hw2
  clear ha han hn hnn hx hxn hb1 hb2 hM hg hw1 hw2
  go_enter Try.func28, Try.ntmps28
  go_wp2_with fail
  rw [HW1.out, HW2.out, HG.out]
  refine (concatRR (some ⟨g, 0, none⟩) 3 3 M w2 HRR.out (by omega) (by rw [HS.out]; exact hs)).mono ?_; rintro e w3 ⟨v, rfl, ho, hb⟩
  rw [HF.out] at ho
  have hl : (A ++ (N ++ X)).length = nl + sl + xl := by rw [← HF.out, HS.out]
  rw [hl] at ho
  have HO := Lib.hid (own_mono4 ho HB.out.size)
  have HB2 := Lib.hid (HB.out.trans (hb.mono HB.out.size))
  obtain ⟨a2, c2, rfl, -⟩ := rowR_own ho
  clear ho hb hl
  go_wp2
  go_ret
  exact ⟨_, rfl, HO.out, HB2.out⟩
theorem rowI_lit (w : World) (l : List Int) (T : TypeId) : Row (w.alloc (.cells (l.map (Value.int .i64)).toArray T)) (some ⟨w.heap.size, 0, none⟩) l.length l := by
  refine ⟨rfl, Or.inr ⟨w.heap.size, 0, rfl, by simp, fun j hj => ?_⟩⟩
  have h := (CN.new w (l.map (Value.int .i64)).toArray T).2 j (.int .i64 (l.getD j 0)) (by
    simp only [List.getElem?_map]
    rw [List.getElem?_eq_getElem hj, List.getD_eq_getElem?_getD, List.getElem?_eq_getElem hj]; rfl)
  rw [Nat.zero_add]
  exact h.1
theorem rowR_nil (w : World) : RowR w none 0 [] := ⟨rfl, rfl, Or.inl rfl⟩

set_option maxRecDepth 100000 in
set_option maxHeartbeats 8000000 in
theorem encode0 (qa : Option Addr) (qc : Nat) (w : World) (hq : RowQ w qa 1 [⟨⟨#[0]⟩, 2, 1⟩]) :
    Calls Try.prog 17 #[.agg #[.int .i64 1, .int .i64 0, .int .i64 0, .bool false, .bool false, .bool false, .bool false, .bool false, .slice qa 1 qc, .slice none 0 0, .slice none 0 0, .slice none 0 0], .int .i64 100] w fun e w' => ∃ v, e = .returned (.tuple #[v, .int .i64 0]) ∧ w'.ownsRow w.heap.size 5 1 v 17 (bc [0, 1, 0, 0, 0, 1, 0, 0, 0, 0, 0, 0, 0, 0, 2, 0, 1]) ∧ Below w.heap.size w w' := by
  have hb1 := (Below.refl w.heap.size w).alloc (Nat.le_refl _) (.cells #[.int .i64 1, .int .i64 0, .int .i64 0, .bool false, .bool false, .bool false, .bool false, .bool false, .slice qa 1 qc, .slice none 0 0, .slice none 0 0, .slice none 0 0] 27)
  have HC := Lib.hid (CN.new w #[.int .i64 1, .int .i64 0, .int .i64 0, .bool false, .bool false, .bool false, .bool false, .bool false, .slice qa 1 qc, .slice none 0 0, .slice none 0 0, .slice none 0 0] 27)
  have HQ := Lib.hid (hq.below hb1)
  have HB := Lib.hid hb1
  clear hb1 hq
  have hmm := @run_makeMap Try.prog
  go_enter Try.func17, Try.ntmps17
  go_wp2_with fail
  refine (may0 qa qc _ HQ.out).mono ?_; rintro e w2 ⟨rfl, hb⟩
  obtain ⟨q, hq⟩ : ∃ x, w.heap.size = x := ⟨_, rfl⟩
  rw [hq] at HC
  rw [show (Value.pointer (some { block := w.heap.size, off := 0 })) = Value.pointer (some { block := q, off := 0 }) by rw [hq]]
  replace HC := Lib.hid (HC.out.below hb)
  replace HQ := Lib.hid (HQ.out.below hb)
  replace HB := Lib.hid (HB.out.trans (hb.mono HB.out.size))
  clear hb hq
  go_upto_region 4 with (fail)
  have hb3 := ((Below.refl _ _ : Below w2.heap.size w2 w2).alloc (Nat.le_refl _) (.map #[] 0)).alloc (by simp) (.cells #[.slice none 0 0, .map (some w2.heap.size)] 101)
  have c6 := CN.new (w2.alloc (.map #[] 0)) #[.slice none 0 0, .map (some w2.heap.size)] 101
  have t6 := TB.new (w2.alloc (.map #[] 0)) #[.slice none 0 0, .map (some w2.heap.size)] 101
  rw [World.size_alloc] at c6 t6
  obtain ⟨w3, hw3⟩ : ∃ x, (w2.alloc (.map #[] 0)).alloc (.cells #[.slice none 0 0, .map (some w2.heap.size)] 101) = x := ⟨_, rfl⟩
  obtain ⟨mv, hmv⟩ : ∃ x, Value.map (some w2.heap.size) = x := ⟨_, rfl⟩
  obtain ⟨q6, hq6⟩ : ∃ x, w2.heap.size + 1 = x := ⟨_, rfl⟩
  rw [hw3] at hb3 c6 t6 ⊢
  rw [hmv] at c6 ⊢
  rw [hq6] at c6 t6 ⊢
  have HW := Lib.hid hb3
  have H6 := Lib.hid c6
  have T6 := Lib.hid t6
  have HO := Lib.hid (show w3.ownsRow w2.heap.size 5 1 (.slice none 0 0) 0 (bc []) from ⟨rfl, Or.inl ⟨rfl, rfl⟩⟩)
  have HQ6 := Lib.hid (show w2.heap.size ≤ q6 by omega)
  clear hb3 c6 t6 hw3 hmv hq6 hmm
  obtain ⟨y0, y1, y2, y3, y4, y5, y6, y7, y8, y9, y10, y11, -⟩ := (HC.out.below HW.out).u12
  go_wp2_with fail
  refine (flags_any _ _ _ _ _ _ _ _ _).mono ?_; rintro e w4 ⟨rfl, hb⟩
  rw [show (if okF 0 0 = true then flagV 0 0 false false false false false else 0) = 0 by decide +kernel, show (if okF 0 0 = true then (0 : Int) else 1) = 0 by decide +kernel]
  clear y0 y1 y2 y3 y4 y5 y6 y7 y8 y9 y10 y11
  replace H6 := Lib.hid (H6.out.below hb)
  replace T6 := Lib.hid (T6.out.below hb)
  replace HO := Lib.hid (own_below' HO.out hb)
  replace HW := Lib.hid (HW.out.trans (hb.mono HW.out.size))
  clear hb
  obtain ⟨y0, y1, y2, y3, y4, y5, y6, y7, y8, y9, y10, y11, -⟩ := (HC.out.below HW.out).u12
  have hba := (Below.refl _ _ : Below w4.heap.size w4 w4).alloc (Nat.le_refl _) (.cells #[.int .i64 1, .int .i64 0, .int .i64 1, .int .i64 0, .int .i64 0, .int .i64 0] 3)
  have HR := Lib.hid (rowI_lit w4 [1, 0, 1, 0, 0, 0] 3)
  replace H6 := Lib.hid (H6.out.below hba)
  replace T6 := Lib.hid (T6.out.below hba)
  replace HO := Lib.hid (own_below' HO.out hba)
  replace HW := Lib.hid (HW.out.trans (hba.mono HW.out.size))
  obtain ⟨w5, hw5⟩ : ∃ x, w4.alloc (.cells #[.int .i64 1, .int .i64 0, .int .i64 1, .int .i64 0, .int .i64 0, .int .i64 0] 3) = x := ⟨_, rfl⟩
  obtain ⟨g5, hg5⟩ : ∃ x, w4.heap.size = x := ⟨_, rfl⟩
  have HR' := HR.out
  simp only [List.map_cons, List.map_nil, List.length_cons, List.length_nil] at HR'
  rw [hw5, hg5] at HR'
  rw [hw5] at H6 T6 HO HW
  replace HR := Lib.hid HR'
  have HW5 := Lib.hid hw5
  have HG5 := Lib.hid hg5
  clear HR' hba hw5 hg5
  go_wp2_with fail
  rw [HW5.out, HG5.out]
  clear HW5 HG5 y0 y1 y2 y3 y4 y5 y6 y7 y8 y9 y10 y11
  refine (numbers_any q6 2 (some ⟨g5, 0, none⟩) 6 6 [1, 0, 1, 0, 0, 0] (.slice none 0 0) mv [] 0 w2.heap.size w5 HR.out (by decide) H6.out T6.out HO.out HQ6.out (by decide +kernel)).mono ?_; rintro e w6 ⟨rfl, bv, h6, t6, ho, hb, -⟩
  rw [show joinL 2 [1, 0, 1, 0, 0, 0] = [0, 1, 0, 0, 0, 1, 0, 0, 0, 0, 0, 0] by decide +kernel] at ho
  replace HW := Lib.hid (HW.out.trans hb)
  have HO6 := Lib.hid (show w6.ownsRow w2.heap.size 5 1 bv 12 (bc [0, 1, 0, 0, 0, 1, 0, 0, 0, 0, 0, 0]) from ho)
  have HC6 := Lib.hid h6
  have HT6 := Lib.hid t6
  clear HO H6 T6 HR h6 t6 ho hb
  obtain ⟨y0, y1, y2, y3, y4, y5, y6, y7, y8, y9, y10, y11, -⟩ := (HC.out.below HW.out).u12
  go_wp2_with fail
  clear y0 y1 y2 y3 y4 y5 y6 y7 y8 y9 y10 y11
  go_loopw [45] (fun i wr => ∃ (k m : Nat) (X : List UInt8) (bv : Value), i = .int .i64 k ∧ (k = 0 ∧ m = 12 ∧ X = [0, 1, 0, 0, 0, 1, 0, 0, 0, 0, 0, 0] ∨ k = 1 ∧ m = 17 ∧ X = [0, 1, 0, 0, 0, 1, 0, 0, 0, 0, 0, 0, 0, 0, 2, 0, 1]) ∧ Hid (CN wr q6 [bv, mv]) ∧ Hid (TB wr q6 101) ∧ Hid (wr.ownsRow w2.heap.size 5 1 bv m (bc X)) ∧ Hid (Below w2.heap.size w2 wr)) (fun i _ => 1 - (intOf i).toNat)
  case atStart => exact ⟨0, 12, _, bv, rfl, Or.inl ⟨rfl, rfl, rfl⟩, HC6, HT6, HO6, HW⟩
  case round =>
    obtain ⟨k, m, X, bv, rfl, hcase, H6, T6, HO, HW⟩ := hrel
    rcases hcase with ⟨rfl, rfl, rfl⟩ | ⟨rfl, rfl, rfl⟩
    · obtain ⟨b, o, r, rfl, hbl, hr, c0, c1, c2⟩ := (HQ.out.below HW.out).at 0 (by omega)
      obtain rfl : (⟨⟨#[0]⟩, 2, 1⟩ : Ky) = r := by simpa using hr
      simp only [Nat.zero_mul, Nat.add_zero] at c0 c1 c2
      have hB7 := HW.out.size
      have hba := (Below.refl _ _ : Below wr.heap.size wr wr).alloc (Nat.le_refl _) (.cells #[.string ⟨#[0]⟩, .int .i64 2, .int .i64 1] 70)
      have HE := Lib.hid (CN.new wr #[.string ⟨#[0]⟩, .int .i64 2, .int .i64 1] 70)
      replace H6 := Lib.hid (H6.out.below hba)
      replace T6 := Lib.hid (T6.out.below hba)
      replace HO := Lib.hid (own_below' HO.out hba)
      replace HW := Lib.hid (HW.out.trans (hba.mono HW.out.size))
      obtain ⟨w7, hw7⟩ : ∃ x, wr.alloc (.cells #[.string ⟨#[0]⟩, .int .i64 2, .int .i64 1] 70) = x := ⟨_, rfl⟩
      obtain ⟨g7, hg7⟩ : ∃ x, wr.heap.size = x := ⟨_, rfl⟩
      have HT7 := Lib.hid (TB.new wr #[.string ⟨#[0]⟩, .int .i64 2, .int .i64 1] 70)
      rw [hw7] at H6 T6 HO HW HE HT7
      rw [hg7] at HE hB7 HT7
      have HW7 := Lib.hid hw7
      have HG7 := Lib.hid hg7
      clear hr hba hbl hw7 hg7 hB7
      go_upto_region 9 with (fail)
      rw [HW7.out, HG7.out]
      clear HW7 HG7 c0 c1 c2
      have c0 := (HE.out.2 0 _ rfl).1
      go_wp2_with fail
      refine (nameRoot q6 bv mv _ 12 w2.heap.size w7 H6.out T6.out HO.out HQ6.out (by decide)).mono ?_; rintro e w8 ⟨rfl, bv8, h6, t6, ho, hb, hkp⟩
      have he8 : w8.heap[g7]? = w7.heap[g7]? := hkp g7 HE.out.1 (fun e => by
        obtain ⟨c1, h1⟩ := HT7.out
        obtain ⟨c2, h2⟩ := T6.out
        rw [e, h2] at h1
        injection h1 with h1
        injection h1 with _ h1
        exact absurd h1 (by decide)) (own_ne HO.out HT7.out (by decide))
      have HE8 := Lib.hid (show w8.cell? ⟨g7, 1, none⟩ = some (.int .i64 2) ∧ w8.cell? ⟨g7, 2, none⟩ = some (.int .i64 1) from ⟨(World.cell?_of_block (a := ⟨g7, 1, none⟩) he8).trans (HE.out.2 1 _ rfl).1, (World.cell?_of_block (a := ⟨g7, 2, none⟩) he8).trans (HE.out.2 2 _ rfl).1⟩)
      replace HW := Lib.hid (HW.out.trans hb)
      replace HO := Lib.hid (show w8.ownsRow w2.heap.size 5 1 bv8 13 (bc [0, 1, 0, 0, 0, 1, 0, 0, 0, 0, 0, 0, 0]) from ho)
      replace H6 := Lib.hid h6
      replace T6 := Lib.hid t6
      clear h6 t6 ho hb c0 hkp he8 HE HT7
      have hba := (Below.refl _ _ : Below w8.heap.size w8 w8).alloc (Nat.le_refl _) (.cells #[.int .i64 2, .int .i64 1] 3)
      have HR := (rowI_lit w8 [2, 1] 3)
      simp only [List.map_cons, List.map_nil, List.length_cons, List.length_nil] at HR
      replace H6 := Lib.hid (H6.out.below hba)
      replace T6 := Lib.hid (T6.out.below hba)
      replace HO := Lib.hid (own_below' HO.out hba)
      replace HW := Lib.hid (HW.out.trans (hba.mono HW.out.size))
      obtain ⟨w9, hw9⟩ : ∃ x, w8.alloc (.cells #[.int .i64 2, .int .i64 1] 3) = x := ⟨_, rfl⟩
      obtain ⟨g9, hg9⟩ : ∃ x, w8.heap.size = x := ⟨_, rfl⟩
      rw [hw9, hg9] at HR
      rw [hw9] at H6 T6 HO HW
      replace HR := Lib.hid HR
      have HW9 := Lib.hid hw9
      have HG9 := Lib.hid hg9
      obtain ⟨c1, c2⟩ := HE8.out
      clear hba hw9 hg9
      go_wp2_with fail
      rw [HW9.out, HG9.out]
      clear HW9 HG9 c1 c2
      refine (numbers_any q6 2 (some ⟨g9, 0, none⟩) 2 2 [2, 1] bv8 mv _ 13 w2.heap.size w9 HR.out (by decide) H6.out T6.out HO.out HQ6.out (by decide +kernel)).mono ?_; rintro e w10 ⟨rfl, bv10, h6, t6, ho, hb, -⟩
      rw [show joinL 2 [2, 1] = [0, 2, 0, 1] by decide +kernel] at ho
      replace HW := Lib.hid (HW.out.trans hb)
      replace HO := Lib.hid (show w10.ownsRow w2.heap.size 5 1 bv10 17 (bc [0, 1, 0, 0, 0, 1, 0, 0, 0, 0, 0, 0, 0, 0, 2, 0, 1]) from ho)
      replace H6 := Lib.hid h6
      replace T6 := Lib.hid t6
      clear h6 t6 ho hb HR
      go_wp2
      go_roundw
      case rel => exact ⟨1, 17, _, bv10, by go_num, Or.inr ⟨rfl, rfl, rfl⟩, H6, T6, HO, HW⟩
      case measure => simp [intOf]
    · obtain ⟨y0, y1, y2, y3, y4, y5, y6, y7, y8, y9, y10, y11, -⟩ := (HC.out.below HW.out).u12
      obtain ⟨sa, sc, rfl, -⟩ := cellsK_own HO.out
      go_wp2_with fail
      refine (all_ex _ _ _ _ _ _ _ _ _ _ _ _ _ _ _ _ _ _ _ _ [] [] [] wr (rowR_nil _) (fun _ => ⟨rfl, rfl⟩) (rowR_nil _) (fun _ => ⟨rfl, rfl⟩) (rowR_nil _) (fun _ => ⟨rfl, rfl⟩) (by decide)).mono ?_; rintro e w9 ⟨v9, rfl, ho, hb⟩
      clear y0 y1 y2 y3 y4 y5 y6 y7 y8 y9 y10 y11
      obtain ⟨a9, c9, rfl, -⟩ := rowR_own ho
      replace H6 := Lib.hid (H6.out.below hb)
      replace HO := Lib.hid (own_below' HO.out hb)
      replace HW := Lib.hid (HW.out.trans (hb.mono HW.out.size))
      have HBZ := Lib.hid (HB.out.trans (HW.out.mono HB.out.size))
      have HSZ := Lib.hid HB.out.size
      clear ho hb
      obtain ⟨z0, z1⟩ : w9.cell? ⟨q6, 0, none⟩ = some (.slice sa 17 sc) ∧ w9.cell? ⟨q6, 1, none⟩ = some mv := ⟨(H6.out.2 0 _ rfl).1, (H6.out.2 1 _ rfl).1⟩
      go_wp2_with fail
      go_loopw [62] (fun i wx => i = .int .i64 0 ∧ w9 = wx) (fun _ _ => 0)
      case atStart => exact ⟨rfl, rfl⟩
      case round =>
        obtain ⟨rfl, rfl⟩ := hrel
        go_wp2
        go_ret2
        exact ⟨_, rfl, own_mono4 HO.out HSZ.out, HBZ.out⟩
set_option maxRecDepth 100000 in
set_option maxHeartbeats 4000000 in
theorem first5 (w : World) : Calls Try.prog 13 #[] w fun e w' => e = .returned (.bool true) ∧ Below w.heap.size w w' := by
  have hb0 := (Below.refl w.heap.size w).alloc (Nat.le_refl _) (.cells #[.string ⟨#[0]⟩, .int .i64 2, .int .i64 1] 70)
  have HQ := Lib.hid (show RowQ (w.alloc (.cells #[.string ⟨#[0]⟩, .int .i64 2, .int .i64 1] 70)) (some ⟨w.heap.size, 0, none⟩) 1 [⟨⟨#[0]⟩, 2, 1⟩] from ⟨rfl, cells_lit w #[.string ⟨#[0]⟩, .int .i64 2, .int .i64 1] _⟩)
  have HB := Lib.hid hb0
  clear hb0
  go_enter Try.func13, Try.ntmps13
  go_wp2_with fail
  refine (ask_ex 1 _ 1 1 [⟨⟨#[0]⟩, 2, 1⟩] _ HQ.out (fun h => by cases h) (by decide)).mono ?_; rintro e w2 ⟨qa2, qc2, rfl, ho, hb⟩
  replace HB := Lib.hid (HB.out.trans (hb.mono HB.out.size))
  replace HQ := Lib.hid (rowQ_own2 ho).1
  clear ho hb
  go_wp2_with fail
  refine (encode0 qa2 qc2 _ HQ.out).mono ?_; rintro e w3 ⟨v3, rfl, ho, hb⟩
  obtain ⟨a3, c3, rfl, -⟩ := cellsK_own ho
  have hcv := conv_own ho
  replace HB := Lib.hid (HB.out.trans (hb.mono HB.out.size))
  clear ho hb
  have e1 : ((bs [0, 1, 0, 0, 0, 1, 0, 0, 0, 0, 0, 0, 0, 0, 2, 0, 1]).toList == [0, 1, 0, 0, 0, 1, 0, 0, 0, 0, 0, 0, 0, 0, 2, 0, 1]) = true := by rw [bs_toList]; decide
  go_wp2
  go_ret
  exact ⟨rfl, HB.out⟩
end Go.Proofs.Ytkoafkajmfodkaa
