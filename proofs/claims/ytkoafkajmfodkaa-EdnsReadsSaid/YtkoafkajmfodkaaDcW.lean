/- The document's With. -/
import Derived.Test.YtkoafkajmfodkaaDcT
namespace Go.Proofs.Ytkoafkajmfodkaa
open Go.RowKit

set_option maxRecDepth 100000 in
set_option maxHeartbeats 8000000 in
theorem withD_ex (mi mo mr : Int) (b1 b2 b3 b4 b5 : Bool) (qa na sa xa : Option Addr) (ql qc nl nc sl sc xl xc : Nat) (Q : List Ky) (A N X : List R5) (la : Option Addr) (n lc : Nat) (L : List OptP) (w : World) (hm : MsgAt w (.agg #[.int .i64 mi, .int .i64 mo, .int .i64 mr, .bool b1, .bool b2, .bool b3, .bool b4, .bool b5, .slice qa ql qc, .slice na nl nc, .slice sa sl sc, .slice xa xl xc]) ⟨mi, mo, mr, b1, b2, b3, b4, b5, Q, A, N, X⟩) (hs : SmM ⟨mi, mo, mr, b1, b2, b3, b4, b5, Q, A, N, X⟩) (hl : RowO w la n L) (hln : n ≤ 1000) (hlz : ∀ o ∈ L, o.data.size ≤ 9223372036854775807) :
    Calls Try.prog 47 #[.agg #[.int .i64 mi, .int .i64 mo, .int .i64 mr, .bool b1, .bool b2, .bool b3, .bool b4, .bool b5, .slice qa ql qc, .slice na nl nc, .slice sa sl sc, .slice xa xl xc], .slice la n lc] w fun e w' => ((withE L = 0 ∧ ∃ v', e = .returned (.tuple #[v', .int .i64 0]) ∧ MsgAt w' v' ⟨mi, mo, mr, b1, b2, b3, b4, b5, Q, A, N, keepR optB X ++ L.map putR⟩) ∨ (withE L ≠ 0 ∧ e = .returned (.tuple #[.agg #[.int .i64 0, .int .i64 0, .int .i64 0, .bool false, .bool false, .bool false, .bool false, .bool false, .slice none 0 0, .slice none 0 0, .slice none 0 0, .slice none 0 0], .int .i64 (withE L)]))) ∧ Below w.heap.size w w' := by
  obtain ⟨j0, hj, hj0, hj1, hj2⟩ := info_parts infoRR
  have HJ := Lib.hid hj
  have HJ0 := Lib.hid hj0
  have HJ1 := Lib.hid hj1
  have HJ2 := Lib.hid hj2
  have h1 := (Below.refl w.heap.size w).alloc (Nat.le_refl _) (.cells #[.int .i64 mi, .int .i64 mo, .int .i64 mr, .bool b1, .bool b2, .bool b3, .bool b4, .bool b5, .slice qa ql qc, .slice na nl nc, .slice sa sl sc, .slice xa xl xc] 32)
  have h2 := (Below.refl _ (w.alloc (.cells #[.int .i64 mi, .int .i64 mo, .int .i64 mr, .bool b1, .bool b2, .bool b3, .bool b4, .bool b5, .slice qa ql qc, .slice na nl nc, .slice sa sl sc, .slice xa xl xc] 32))).alloc (Nat.le_refl _) (.cells #[.int .i64 0, .int .i64 0, .int .i64 0, .bool false, .bool false, .bool false, .bool false, .bool false, .slice none 0 0, .slice none 0 0, .slice none 0 0, .slice none 0 0] 32)
  have hbw := h1.trans (h2.mono h1.size)
  have C1 := Lib.hid ((CN.new w #[.int .i64 mi, .int .i64 mo, .int .i64 mr, .bool b1, .bool b2, .bool b3, .bool b4, .bool b5, .slice qa ql qc, .slice na nl nc, .slice sa sl sc, .slice xa xl xc] 32).below h2)
  have c2 := CN.new (w.alloc (.cells #[.int .i64 mi, .int .i64 mo, .int .i64 mr, .bool b1, .bool b2, .bool b3, .bool b4, .bool b5, .slice qa ql qc, .slice na nl nc, .slice sa sl sc, .slice xa xl xc] 32)) #[.int .i64 0, .int .i64 0, .int .i64 0, .bool false, .bool false, .bool false, .bool false, .bool false, .slice none 0 0, .slice none 0 0, .slice none 0 0, .slice none 0 0] 32
  have t2 := TB.new (w.alloc (.cells #[.int .i64 mi, .int .i64 mo, .int .i64 mr, .bool b1, .bool b2, .bool b3, .bool b4, .bool b5, .slice qa ql qc, .slice na nl nc, .slice sa sl sc, .slice xa xl xc] 32)) #[.int .i64 0, .int .i64 0, .int .i64 0, .bool false, .bool false, .bool false, .bool false, .bool false, .slice none 0 0, .slice none 0 0, .slice none 0 0, .slice none 0 0] 32
  rw [World.size_alloc] at c2 t2
  have C2 := Lib.hid c2
  have T2 := Lib.hid t2
  have HB2 := Lib.hid hbw
  have HM := Lib.hid (hm.below hbw)
  have HL := Lib.hid (hl.below hbw)
  have HLL := Lib.hid hl.1
  have HLZ := Lib.hid hlz
  have HS := Lib.hid hs
  have HSX := Lib.hid (show X.length ≤ 100000 from hs.2.2.2)
  clear h1 h2 hbw c2 t2 hm hs hl hlz hj hj0 hj1 hj2
  go_enter Try.func47, Try.ntmps47
  go_upto_region 1 with fail
  obtain ⟨w2, hw2⟩ : ∃ x, (w.alloc (.cells #[.int .i64 mi, .int .i64 mo, .int .i64 mr, .bool b1, .bool b2, .bool b3, .bool b4, .bool b5, .slice qa ql qc, .slice na nl nc, .slice sa sl sc, .slice xa xl xc] 32)).alloc (.cells #[.int .i64 0, .int .i64 0, .int .i64 0, .bool false, .bool false, .bool false, .bool false, .bool false, .slice none 0 0, .slice none 0 0, .slice none 0 0, .slice none 0 0] 32) = x := ⟨_, rfl⟩
  obtain ⟨q1, hq1⟩ : ∃ x, w.heap.size = x := ⟨_, rfl⟩
  obtain ⟨q2, hq2⟩ : ∃ x, q1 + 1 = x := ⟨_, rfl⟩
  rw [hw2] at C1 C2 T2 HB2 HM HL ⊢
  rw [hq1] at C1 C2 T2
  rw [hq2] at C2 T2
  rw [show (Value.pointer (some { block := w.heap.size, off := 0 })) = Value.pointer (some { block := q1, off := 0 }) by rw [hq1], show (Value.pointer (some { block := w.heap.size + 1, off := 0 })) = Value.pointer (some { block := q2, off := 0 }) by rw [hq1, hq2]]
  have HQB := Lib.hid (show w.heap.size ≤ q2 ∧ q2 < w2.heap.size by exact ⟨by omega, C2.out.1⟩)
  clear hw2 hq1 hq2
  obtain ⟨y0, y1, y2, y3, y4, y5, y6, y7, y8, y9, y10, y11, -⟩ := C1.out.u12
  go_wp2_with fail
  refine (stripMD_any _ _ _ HM.out HS.out).mono ?_; rintro e w3 ⟨v3, rfl, ho, hb⟩
  clear y0 y1 y2 y3 y4 y5 y6 y7 y8 y9 y10 y11
  obtain ⟨B', qa2, qc2, na2, nc2, sa2, sc2, xa2, xc2, rfl, hB1, hB2, hq, ha, hn, hx, gq, ga, gn⟩ := ho
  obtain ⟨ql2, hql2⟩ : ∃ x, Q.length = x := ⟨_, rfl⟩
  obtain ⟨nl2, hnl2⟩ : ∃ x, A.length = x := ⟨_, rfl⟩
  obtain ⟨sl2, hsl2⟩ : ∃ x, N.length = x := ⟨_, rfl⟩
  obtain ⟨xl2, hxl2⟩ : ∃ x, (keepR optB X).length = x := ⟨_, rfl⟩
  have hxle : xl2 ≤ 100000 := by rw [← hxl2]; exact Nat.le_trans (List.length_filter_le _ _) HSX.out
  simp only [hql2, hnl2, hsl2, hxl2] at hq ha hn hx gq ga gn ⊢
  -- the message that is made
  have hba := (Below.refl _ _ : Below w3.heap.size w3 w3).alloc (Nat.le_refl _) (.cells #[.int .i64 mi, .int .i64 mo, .int .i64 mr, .bool b1, .bool b2, .bool b3, .bool b4, .bool b5, .slice qa2 ql2 qc2, .slice na2 nl2 nc2, .slice sa2 sl2 sc2, .slice xa2 xl2 xc2] 32)
  have c3 := CN.new w3 #[.int .i64 mi, .int .i64 mo, .int .i64 mr, .bool b1, .bool b2, .bool b3, .bool b4, .bool b5, .slice qa2 ql2 qc2, .slice na2 nl2 nc2, .slice sa2 sl2 sc2, .slice xa2 xl2 xc2] 32
  have t3 := TB.new w3 #[.int .i64 mi, .int .i64 mo, .int .i64 mr, .bool b1, .bool b2, .bool b3, .bool b4, .bool b5, .slice qa2 ql2 qc2, .slice na2 nl2 nc2, .slice sa2 sl2 sc2, .slice xa2 xl2 xc2] 32
  have hb23 := hb.trans (hba.mono hb.size)
  have HQ := Lib.hid (own_below' hq hba)
  have HA := Lib.hid (own_below' ha hba)
  have HN := Lib.hid (own_below' hn hba)
  have HX := Lib.hid (own_below' hx hba)
  have HGQ := Lib.hid gq
  have HGA := Lib.hid ga
  have HGN := Lib.hid gn
  have HEQ := Lib.hid hql2
  have HEA := Lib.hid hnl2
  have HEN := Lib.hid hsl2
  have HEX := Lib.hid hxl2
  have HBL := Lib.hid (show w2.heap.size ≤ B' ∧ B' ≤ w3.heap.size from ⟨hB1, hB2⟩)
  have C5 := c3
  have T5 := t3
  have HQ5 := HQ.out
  have HA5 := HA.out
  have HN5 := HN.out
  have HX5 := HX.out
  have HB5 := hb23
  clear hba hb hq ha hn hx gq ga gn hql2 hnl2 hsl2 hxl2 hB1 hB2 c3 t3 hb23 HQ HA HN HX
  obtain ⟨w5, hw5⟩ : ∃ x, w3.alloc (.cells #[.int .i64 mi, .int .i64 mo, .int .i64 mr, .bool b1, .bool b2, .bool b3, .bool b4, .bool b5, .slice qa2 ql2 qc2, .slice na2 nl2 nc2, .slice sa2 sl2 sc2, .slice xa2 xl2 xc2] 32) = x := ⟨_, rfl⟩
  obtain ⟨q3, hq3⟩ : ∃ x, w3.heap.size = x := ⟨_, rfl⟩
  rw [hw5] at C5 T5 HQ5 HA5 HN5 HX5 HB5
  rw [hq3] at C5 T5 HBL
  have HC5 := Lib.hid C5
  have HBS := Lib.hid (show B' ≤ w5.heap.size from Nat.le_trans HBL.out.2 (Nat.le_of_lt C5.1))
  have HT5 := Lib.hid T5
  replace HQ5 := Lib.hid HQ5
  replace HA5 := Lib.hid HA5
  replace HN5 := Lib.hid HN5
  replace HX5 := Lib.hid HX5
  replace HB5 := Lib.hid HB5
  have HW5 := Lib.hid hw5
  have HQ3 := Lib.hid hq3
  clear C5 T5 hw5 hq3
  go_upto_region 2 with (fail)
  rw [HW5.out, HQ3.out]
  clear HW5 HQ3
  go_wp2_with fail
  go_loopw [7] (fun i wr => ∃ (k n3 : Nat) (xa3 : Option Addr) (xc3 : Nat), k ≤ n ∧ Hid (n3 = xl2 + k) ∧ i = .int .i64 k ∧ Hid (withE (L.drop k) = withE L) ∧ Hid (CN wr q3 [.int .i64 mi, .int .i64 mo, .int .i64 mr, .bool b1, .bool b2, .bool b3, .bool b4, .bool b5, .slice qa2 ql2 qc2, .slice na2 nl2 nc2, .slice sa2 sl2 sc2, .slice xa3 n3 xc3]) ∧ Hid (TB wr q3 32) ∧ Hid (wr.ownsRow B' 75 5 (.slice xa3 n3 xc3) n3 (flatR (keepR optB X ++ (L.take k).map putR))) ∧ Hid (Below B' w5 wr ∧ w5.heap.size ≤ wr.heap.size)) (fun i _ => n - (intOf i).toNat)
  case atStart => exact ⟨0, xl2, xa2, xc2, Nat.zero_le _, Lib.hid rfl, rfl, Lib.hid rfl, HC5, HT5, Lib.hid (by rw [List.take_zero, List.map_nil, List.append_nil]; exact HX5.out), Lib.hid ⟨Below.refl _ _, Nat.le_refl _⟩⟩
  case round =>
    obtain ⟨k, n3, xa3, xc3, hk, HN3, rfl, HWE, HC, HT, HO, HG⟩ := hrel
    have hn3b : n3 ≤ 101000 := by have := HN3.out; omega
    have hbr : Below w2.heap.size w2 wr := HB5.out.trans (HG.out.1.mono HBL.out.1)
    have HBR := Lib.hid hbr
    clear hbr
    by_cases hlt : k < n
    · obtain ⟨b, o, r, rfl, hbl, hr, x0, x1, x2, x3, x4⟩ := (HL.out.below HBR.out).at k hlt
      have hoz := HLZ.out r (List.mem_of_getElem? hr)
      have HWN := Lib.hid (withE_drop hr)
      have HRT := Lib.hid (show (L.take (k + 1)).map putR = (L.take k).map putR ++ [putR r] by rw [List.take_add_one, hr]; simp)
      obtain ⟨os, ov, orc, ob, od⟩ := r
      replace x0 : wr.cell? ⟨b, o + k * 5, none⟩ = some (.int .i64 os) := x0
      replace x1 : wr.cell? ⟨b, o + k * 5 + 1, none⟩ = some (.int .i64 ov) := x1
      replace x2 : wr.cell? ⟨b, o + k * 5 + 2, none⟩ = some (.int .i64 orc) := x2
      replace x3 : wr.cell? ⟨b, o + k * 5 + 3, none⟩ = some (.bool ob) := x3
      replace x4 : wr.cell? ⟨b, o + k * 5 + 4, none⟩ = some (.string od) := x4
      have i1 : (0 : Int) ≤ (k : Int) := by omega
      have i2 : (k : Int) < (n : Int) := by omega
      have HOZ := Lib.hid (show od.size ≤ 9223372036854775807 from hoz)
      clear hr hoz
      go_wp2_with fail
      refine (putD_any ⟨os, ov, orc, ob, od⟩ _ HOZ.out).mono ?_; rintro e w6 ⟨rfl, hb⟩
      clear x0 x1 x2 x3 x4
      obtain ⟨⟨⟨rn, rt, rc⟩, ru, rd⟩, hR⟩ : ∃ x, putR ⟨os, ov, orc, ob, od⟩ = x := ⟨_, rfl⟩
      obtain ⟨E, hE⟩ : ∃ x, putE ⟨os, ov, orc, ob, od⟩ = x := ⟨_, rfl⟩
      rw [hR] at HRT
      rw [hE] at HWN
      rw [hR, hE]
      clear hR hE
      simp only
      have hba := (Below.refl _ _ : Below w6.heap.size w6 w6).alloc (Nat.le_refl _) (.cells #[.string rn, .int .i64 rt, .int .i64 rc, .int .i64 ru, .string rd] 75)
      have hb8 := hb.trans (hba.mono hb.size)
      have c8 := CN.new w6 #[.string rn, .int .i64 rt, .int .i64 rc, .int .i64 ru, .string rd] 75
      obtain ⟨w8, hw8⟩ : ∃ x, w6.alloc (.cells #[.string rn, .int .i64 rt, .int .i64 rc, .int .i64 ru, .string rd] 75) = x := ⟨_, rfl⟩
      obtain ⟨q8, hq8⟩ : ∃ x, w6.heap.size = x := ⟨_, rfl⟩
      rw [hw8] at c8 hb8
      rw [hq8] at c8
      have HW8 := Lib.hid hw8
      have HQ8 := Lib.hid hq8
      have C8 := Lib.hid c8
      have HB8 := Lib.hid hb8
      clear hb hba c8 hb8 hw8 hq8
      go_upto_region 6 with (fail)
      rw [HW8.out, HQ8.out]
      clear HW8 HQ8
      have HC8 := Lib.hid (HC.out.below HB8.out)
      have HT8 := Lib.hid (HT.out.below HB8.out)
      have HO8 := Lib.hid (own_below' HO.out HB8.out)
      have HG8 := Lib.hid (show Below B' w5 w8 ∧ w5.heap.size ≤ w8.heap.size from ⟨HG.out.1.trans (HB8.out.mono (Nat.le_trans HBS.out HG.out.1.size)), Nat.le_trans HG.out.2 HB8.out.size⟩)
      have HBR8 := Lib.hid (HBR.out.trans (HB8.out.mono HBR.out.size))
      by_cases he : E = 0
      · have HWN2 := Lib.hid (show withE (L.drop (k + 1)) = withE L by have h := HWN.out; rw [if_pos he] at h; rw [← h]; exact HWE.out)
        have e1 := nF he
        clear he
        have x11 := (HC8.out.2 11 _ rfl).1
        obtain ⟨u0, u1, u2, u3, u4, -⟩ := C8.out.u5
        have HAL := Lib.hid ((Below.refl _ _ : Below w8.heap.size w8 w8).alloc (Nat.le_refl _) (.cells #[.string rn, .int .i64 rt, .int .i64 rc, .int .i64 ru, .string rd] 75))
        have HBS8 := Lib.hid (show B' ≤ (w8.alloc (.cells #[.string rn, .int .i64 rt, .int .i64 rc, .int .i64 ru, .string rd] 75)).heap.size from Nat.le_trans (Nat.le_trans HBS.out HG8.out.2) HAL.out.size)
        go_wp2_with (at_builtin; refine append_cellsK rfl _ _ 25 75 rfl j0 _ 5 56 Try.underlying25 HJ.out HJ0.out HJ1.out HJ2.out rfl (by decide) B' _ n3 _ rfl (own_below' HO8.out HAL.out) (some ⟨w8.heap.size, 0, none⟩) 1 1 (encR ⟨⟨rn, rt, rc⟩, ru, rd⟩) rfl (fun h => by cases h) (cells_lit w8 #[.string rn, .int .i64 rt, .int .i64 rc, .int .i64 ru, .string rd] _) (fun u hu => flatR_one [⟨⟨rn, rt, rc⟩, ru, rd⟩] u (by simpa [flatR] using hu)) (by omega) (by decide) HBS8.out ?_)
        intro v9 w9 hown hgrow
        obtain ⟨xa4, xc4, rfl, -⟩ := cellsK_own hown
        have hn3' := own_ne (own_below' HO8.out HAL.out) (HT8.out.below HAL.out) (by decide)
        have HC9 := Lib.hid ((HC8.out.below HAL.out).grown hgrow (fun e => hn3' e.symm))
        have HT9 := Lib.hid ((HT8.out.below HAL.out).grown hgrow hn3')
        have hg9 : Below B' w5 w9 := (HG8.out.1.trans (HAL.out.mono (Nat.le_trans HBS.out HG8.out.2))).grown hgrow HBS8.out (fun k hk => (HO8.out.lt k hk).1)
        have HS9 := Lib.hid (show w5.heap.size ≤ w9.heap.size from Nat.le_trans (Nat.le_trans HG8.out.2 HAL.out.size) hgrow.size)
        have HG9 := Lib.hid hg9
        have HO9 := Lib.hid hown
        have HCZ := Lib.hid (HC9.out.set 11 (by simp) (.slice xa4 (n3 + 1) xc4))
        have HTZ := Lib.hid (HT9.out.set 11 (.slice xa4 (n3 + 1) xc4))
        have HOZ9 := Lib.hid (own_keeps HO9.out HT9.out (by decide) (grown_cell w9 q3 11 (.slice xa4 (n3 + 1) xc4)))
        have HGZ := Lib.hid (show Below B' w5 (w9.setCell ⟨q3, 11, none⟩ (.slice xa4 (n3 + 1) xc4)) ∧ w5.heap.size ≤ (w9.setCell ⟨q3, 11, none⟩ (.slice xa4 (n3 + 1) xc4)).heap.size from ⟨HG9.out.setCell HBL.out.2 _, by simpa using HS9.out⟩)
        have x11' := (HC9.out.2 11 _ rfl).1
        have f11' := (HC9.out.2 11 _ rfl).2
        clear hn3' hg9 hgrow hown x11 u0 u1 u2 u3 u4
        go_wp2
        go_roundw
        case rel => exact ⟨k + 1, n3 + 1, xa4, xc4, by omega, Lib.hid (by rw [HN3.out]; omega), by go_num, HWN2, HCZ, HTZ, Lib.hid (by rw [HRT.out, ← List.append_assoc, flatR_app]; simpa [flatR] using HOZ9.out), HGZ⟩
        case measure => simp [intOf]; omega
      · have HWN2 := Lib.hid (show withE L = E by have h := HWN.out; rw [if_neg he] at h; rw [← HWE.out]; exact h)
        have e1 := nT he
        have HE := Lib.hid he
        clear he
        have C2r := Lib.hid (C2.out.below HBR8.out)
        have HGZ := Lib.hid (grown_s12 w8 q2 (.int .i64 0) (.int .i64 0) (.int .i64 0) (.bool false) (.bool false) (.bool false) (.bool false) (.bool false) (.slice none 0 0) (.slice none 0 0) (.slice none 0 0) (.slice none 0 0))
        have HCZ := Lib.hid (C2r.out.s12 (.int .i64 0) (.int .i64 0) (.int .i64 0) (.bool false) (.bool false) (.bool false) (.bool false) (.bool false) (.slice none 0 0) (.slice none 0 0) (.slice none 0 0) (.slice none 0 0))
        have hbz := HB2.out.trans (HBR8.out.mono HB2.out.size)
        have HBZ := Lib.hid (hbz.grown HGZ.out hbz.size (fun k hk => by injection hk with hk; have := HQB.out.1; omega))
        obtain ⟨y0, y1, y2, y3, y4, y5, y6, y7, y8, y9, y10, y11, g0, g1, g2, g3, g4, g5, g6, g7, g8, g9, g10, g11⟩ := C2r.out.u12
        clear hbz
        go_wp2
        obtain ⟨wz, hwz⟩ : ∃ x, ((((((((((((w8.setCell ⟨q2, 0, none⟩ (.int .i64 0)).setCell ⟨q2, 1, none⟩ (.int .i64 0)).setCell ⟨q2, 2, none⟩ (.int .i64 0)).setCell ⟨q2, 3, none⟩ (.bool false)).setCell ⟨q2, 4, none⟩ (.bool false)).setCell ⟨q2, 5, none⟩ (.bool false)).setCell ⟨q2, 6, none⟩ (.bool false)).setCell ⟨q2, 7, none⟩ (.bool false)).setCell ⟨q2, 8, none⟩ (.slice none 0 0)).setCell ⟨q2, 9, none⟩ (.slice none 0 0)).setCell ⟨q2, 10, none⟩ (.slice none 0 0)).setCell ⟨q2, 11, none⟩ (.slice none 0 0)) = x := ⟨_, rfl⟩
        rw [hwz] at HCZ HBZ ⊢
        clear hwz HGZ y0 g0 y1 g1 y2 g2 y3 g3 y4 g4 y5 g5 y6 g6 y7 g7 y8 g8 y9 g9 y10 g10 y11 g11
        obtain ⟨z0, z1, z2, z3, z4, z5, z6, z7, z8, z9, z10, z11, _⟩ := HCZ.out.u12
        refine bodyPost_ret (v := .tuple #[.agg #[.int .i64 0, .int .i64 0, .int .i64 0, .bool false, .bool false, .bool false, .bool false, .bool false, .slice none 0 0, .slice none 0 0, .slice none 0 0, .slice none 0 0], .int .i64 E]) (by simp [results, Try.results47, go_sem, z0, z1, z2, z3, z4, z5, z6, z7, z8, z9, z10, z11]) rfl ⟨Or.inr ⟨by rw [HWN2.out]; exact HE.out, by rw [HWN2.out]⟩, HBZ.out⟩
    · obtain rfl : k = n := by omega
      have hfull : L.take k = L := by rw [List.take_of_length_le (by rw [HLL.out]; omega)]
      have hdrop : L.drop k = [] := List.drop_eq_nil_of_le (by rw [HLL.out]; omega)
      rw [hfull] at HO
      have HW0 := Lib.hid (show withE L = 0 by have h := HWE.out; rw [hdrop] at h; rw [← h]; rfl)
      clear hfull hdrop hlt hk HWE
      have C2r := Lib.hid (C2.out.below HBR.out)
      have T2r := Lib.hid (T2.out.below HBR.out)
      have HQR := Lib.hid (own_lowB HQ5.out HGQ.out HG.out.1)
      have HAR := Lib.hid (own_lowB HA5.out HGA.out HG.out.1)
      have HNR := Lib.hid (own_lowB HN5.out HGN.out HG.out.1)
      have HGS := Lib.hid (grown_s12 wr q2 (.int .i64 mi) (.int .i64 mo) (.int .i64 mr) (.bool b1) (.bool b2) (.bool b3) (.bool b4) (.bool b5) (.slice qa2 ql2 qc2) (.slice na2 nl2 nc2) (.slice sa2 sl2 sc2) (.slice xa3 n3 xc3))
      have HCZ := Lib.hid (C2r.out.s12 (.int .i64 mi) (.int .i64 mo) (.int .i64 mr) (.bool b1) (.bool b2) (.bool b3) (.bool b4) (.bool b5) (.slice qa2 ql2 qc2) (.slice na2 nl2 nc2) (.slice sa2 sl2 sc2) (.slice xa3 n3 xc3))
      have HQZ := Lib.hid (own_keeps HQR.out T2r.out (by decide) HGS.out)
      have HAZ := Lib.hid (own_keeps HAR.out T2r.out (by decide) HGS.out)
      have HNZ := Lib.hid (own_keeps HNR.out T2r.out (by decide) HGS.out)
      have HXZ := Lib.hid (own_keeps HO.out T2r.out (by decide) HGS.out)
      have hbw := HB2.out.trans (HBR.out.mono HB2.out.size)
      have HBZ := Lib.hid (hbw.grown HGS.out hbw.size (fun k hk => by injection hk with hk; have := HQB.out.1; omega))
      clear hbw
      obtain ⟨x0, x1, x2, x3, x4, x5, x6, x7, x8, x9, x10, x11, -⟩ := HC.out.u12
      obtain ⟨y0, y1, y2, y3, y4, y5, y6, y7, y8, y9, y10, y11, g0, g1, g2, g3, g4, g5, g6, g7, g8, g9, g10, g11⟩ := C2r.out.u12
      go_wp2
      obtain ⟨wz, hwz⟩ : ∃ x, ((((((((((((wr.setCell ⟨q2, 0, none⟩ (.int .i64 mi)).setCell ⟨q2, 1, none⟩ (.int .i64 mo)).setCell ⟨q2, 2, none⟩ (.int .i64 mr)).setCell ⟨q2, 3, none⟩ (.bool b1)).setCell ⟨q2, 4, none⟩ (.bool b2)).setCell ⟨q2, 5, none⟩ (.bool b3)).setCell ⟨q2, 6, none⟩ (.bool b4)).setCell ⟨q2, 7, none⟩ (.bool b5)).setCell ⟨q2, 8, none⟩ (.slice qa2 ql2 qc2)).setCell ⟨q2, 9, none⟩ (.slice na2 nl2 nc2)).setCell ⟨q2, 10, none⟩ (.slice sa2 sl2 sc2)).setCell ⟨q2, 11, none⟩ (.slice xa3 n3 xc3)) = x := ⟨_, rfl⟩
      rw [hwz] at HCZ HBZ HQZ HAZ HNZ HXZ ⊢
      clear hwz HGS y0 g0 y1 g1 y2 g2 y3 g3 y4 g4 y5 g5 y6 g6 y7 g7 y8 g8 y9 g9 y10 g10 y11 g11 x0 x1 x2 x3 x4 x5 x6 x7 x8 x9 x10 x11
      obtain ⟨z0, z1, z2, z3, z4, z5, z6, z7, z8, z9, z10, z11, _⟩ := HCZ.out.u12
      have e1 := HEQ.out
      have e2 := HEA.out
      have e3 := HEN.out
      have e4 : (keepR optB X ++ L.map putR).length = n3 := by rw [List.length_append, HEX.out, List.length_map, HLL.out, HN3.out]
      refine bodyPost_ret (v := .tuple #[.agg #[.int .i64 mi, .int .i64 mo, .int .i64 mr, .bool b1, .bool b2, .bool b3, .bool b4, .bool b5, .slice qa2 ql2 qc2, .slice na2 nl2 nc2, .slice sa2 sl2 sc2, .slice xa3 n3 xc3], .int .i64 0]) (by simp [results, Try.results47, go_sem, z0, z1, z2, z3, z4, z5, z6, z7, z8, z9, z10, z11]) rfl ⟨Or.inl ⟨HW0.out, _, rfl, (msgOwn_mk e1 e2 e3 e4 HQZ.out HAZ.out HNZ.out (own_mono4 HXZ.out HBL.out.1)).at⟩, HBZ.out⟩
theorem withMD_any (v : Value) (m : MsgP) (la : Option Addr) (n lc : Nat) (L : List OptP) (w : World) (h : MsgAt w v m) (hs : SmM m) (hl : RowO w la n L) (hln : n ≤ 1000) (hlz : ∀ o ∈ L, o.data.size ≤ 9223372036854775807) :
    Calls Try.prog 47 #[v, .slice la n lc] w fun e w' => ((withE L = 0 ∧ ∃ v', e = .returned (.tuple #[v', .int .i64 0]) ∧ MsgAt w' v' { m with x := keepR optB m.x ++ L.map putR }) ∨ (withE L ≠ 0 ∧ e = .returned (.tuple #[.agg #[.int .i64 0, .int .i64 0, .int .i64 0, .bool false, .bool false, .bool false, .bool false, .bool false, .slice none 0 0, .slice none 0 0, .slice none 0 0, .slice none 0 0], .int .i64 (withE L)]))) ∧ Below w.heap.size w w' := by
  have h0 := h
  obtain ⟨qa, qc, na, nc, sa, sc, xa, xc, rfl, h1, h2, h3, h4⟩ := h
  exact withD_ex _ _ _ _ _ _ _ _ _ _ _ _ _ _ _ _ _ _ _ _ m.q m.a m.n m.x la n lc L w h0 hs hl hln hlz
end Go.Proofs.Ytkoafkajmfodkaa
