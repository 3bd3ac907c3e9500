/- Encode of a message of questions alone. -/
import Derived.Test.YtgppkpdjpcegbaaWsN
import Derived.Test.YtgppkpdjpcegbaaMaQ
namespace Go.Proofs.Ytgppkpdjpcegbaa
open Go.RowKit

noncomputable def wQ (a : List UInt8 × Pls) (q : Ky) : List UInt8 × Pls := ((wNm a.2 a.1 (labs q.n)).1 ++ joinL 2 [q.t, q.c], (wNm a.2 a.1 (labs q.n)).2)
noncomputable def encX (mi : Int) (Q : List Ky) : List UInt8 := (Q.foldl wQ (joinL 2 [mi, 0, (Q.length : Int), 0, 0, 0], fun _ => none)).1
noncomputable def encE (mi most : Int) (Q : List Ky) : Int := if Q.all mayK = true then (if most < ((encX mi Q).length : Int) ∨ 16000 < (encX mi Q).length then 3 else 0) else 4
noncomputable def encL (mi most : Int) (Q : List Ky) : List UInt8 := if encE mi most Q = 0 then encX mi Q else []
theorem enc_no {mi most : Int} {Q : List Ky} (h : Q.all mayK = false) : encE mi most Q = 4 ∧ encL mi most Q = [] := by
  have h1 : encE mi most Q = 4 := by rw [encE, h]; rfl
  exact ⟨h1, by rw [encL, h1]; rfl⟩
theorem enc_long {mi most : Int} {Q : List Ky} (h : Q.all mayK = true) (h2 : most < ((encX mi Q).length : Int) ∨ 16000 < (encX mi Q).length) : encE mi most Q = 3 ∧ encL mi most Q = [] := by
  have h1 : encE mi most Q = 3 := by rw [encE, if_pos h, if_pos h2]
  exact ⟨h1, by rw [encL, h1]; rfl⟩
theorem enc_yes {mi most : Int} {Q : List Ky} (h : Q.all mayK = true) (h2 : ¬ most < ((encX mi Q).length : Int)) (h3 : ¬ 16000 < (encX mi Q).length) : encE mi most Q = 0 ∧ encL mi most Q = encX mi Q := by
  have h1 : encE mi most Q = 0 := by rw [encE, if_pos h, if_neg (by omega)]
  exact ⟨h1, by rw [encL, h1]; rfl⟩
theorem ret_vi5 {l : IntKind} {v : Value} {c d : Int} (g : c = d) : Ending.returned (.tuple #[v, .int l c]) = Ending.returned (.tuple #[v, .int l d]) := by rw [g]

set_option maxRecDepth 100000 in
set_option maxHeartbeats 8000000 in
theorem encodeQ (mi most : Int) (qa : Option Addr) (ql qc : Nat) (Q : List Ky) (w : World) (hi : inR mi 65535 = true) (hq : RowQ w qa ql Q) (hl : ql ≤ 300) (hz : ∀ r ∈ Q, r.n.size ≤ 1000000) :
    Calls Try.prog 16 #[.agg #[.int .i64 mi, .int .i64 0, .int .i64 0, .bool false, .bool false, .bool false, .bool false, .bool false, .slice qa ql qc, .slice none 0 0, .slice none 0 0, .slice none 0 0], .int .i64 most] w fun e w' => ∃ v, e = .returned (.tuple #[v, .int .i64 (encE mi most Q)]) ∧ w'.ownsRow w.heap.size 5 1 v (encL mi most Q).length (bc (encL mi most Q)) ∧ Below w.heap.size w w' := by
  have hb1 := (Below.refl w.heap.size w).alloc (Nat.le_refl _) (.cells #[.int .i64 mi, .int .i64 0, .int .i64 0, .bool false, .bool false, .bool false, .bool false, .bool false, .slice qa ql qc, .slice none 0 0, .slice none 0 0, .slice none 0 0] 37)
  have HC := Lib.hid (CN.new w #[.int .i64 mi, .int .i64 0, .int .i64 0, .bool false, .bool false, .bool false, .bool false, .bool false, .slice qa ql qc, .slice none 0 0, .slice none 0 0, .slice none 0 0] 37)
  have HQ := Lib.hid (hq.below hb1)
  have HB := Lib.hid hb1
  have HI := Lib.hid hi
  have HZ := Lib.hid hz
  have HQL := Lib.hid hq.1
  clear hb1 hq hi hz
  have hmm := @run_makeMap Try.prog
  go_enter Try.func16, Try.ntmps16
  go_wp2_with fail
  refine (may_q mi qa ql qc Q _ HI.out HQ.out hl HZ.out).mono ?_; rintro e w2 ⟨rfl, hb⟩
  obtain ⟨q, hq⟩ : ∃ x, w.heap.size = x := ⟨_, rfl⟩
  rw [hq] at HC
  rw [show (Value.pointer (some { block := w.heap.size, off := 0 })) = Value.pointer (some { block := q, off := 0 }) by rw [hq]]
  replace HC := Lib.hid (HC.out.below hb)
  replace HQ := Lib.hid (HQ.out.below hb)
  replace HB := Lib.hid (HB.out.trans (hb.mono HB.out.size))
  clear hb hq
  cases hmay : Q.all mayK
  · have HE := Lib.hid (enc_no (mi := mi) (most := most) hmay)
    clear hmay
    go_wp2
    go_ret2
    refine ⟨.slice none 0 0, ret_vi5 (v := .slice none 0 0) HE.out.1.symm, by rw [HE.out.2]; exact World.ownsRow_nil _ _ _ _, HB.out⟩
  have HMAY := Lib.hid hmay
  clear hmay
  go_upto_region 4 with (fail)
  have hb3 := ((Below.refl _ _ : Below w2.heap.size w2 w2).alloc (Nat.le_refl _) (.map #[] 0)).alloc (by simp) (.cells #[.slice none 0 0, .map (some w2.heap.size)] 85)
  have c6 := CN.new (w2.alloc (.map #[] 0)) #[.slice none 0 0, .map (some w2.heap.size)] 85
  have t6 := TB.new (w2.alloc (.map #[] 0)) #[.slice none 0 0, .map (some w2.heap.size)] 85
  have m6 := (World.ownsMap_made w2 Try.prog 9 (plainElem (H := Unit) Try.prog 3)).alloc (.cells #[.slice none 0 0, .map (some w2.heap.size)] 85)
  rw [World.size_alloc] at c6 t6
  obtain ⟨w3, hw3⟩ : ∃ x, (w2.alloc (.map #[] 0)).alloc (.cells #[.slice none 0 0, .map (some w2.heap.size)] 85) = x := ⟨_, rfl⟩
  obtain ⟨mb, hmb⟩ : ∃ x, w2.heap.size = x := ⟨_, rfl⟩
  obtain ⟨q6, hq6⟩ : ∃ x, mb + 1 = x := ⟨_, rfl⟩
  rw [hw3] at hb3 c6 t6 m6 ⊢
  rw [hmb] at c6 t6 m6 hb3 ⊢
  rw [hq6] at c6 t6 ⊢
  have HW := Lib.hid hb3
  have HS := Lib.hid (show WrS w3 mb q6 mb (fun _ => none) [] from ⟨_, _, _, c6, t6, ⟨rfl, Or.inl ⟨rfl, rfl⟩⟩, m6, PlsD.nil, (fun _ _ h => by cases h), Nat.le_refl _⟩)
  have HQ6 := Lib.hid (show mb ≤ q6 ∧ q6 ≠ mb by omega)
  have HMB := Lib.hid hmb
  clear hb3 c6 t6 m6 hw3 hq6 hmm hmb
  obtain ⟨y0, y1, y2, y3, y4, y5, y6, y7, y8, y9, y10, y11, -⟩ := (HC.out.below (by rw [HMB.out]; exact HW.out)).u12
  go_wp2_with fail
  refine (flags_any _ _ _ _ _ _ _ _ _).mono ?_; rintro e w4 ⟨rfl, hb⟩
  rw [show (if okF 0 0 = true then flagV 0 0 false false false false false else 0) = 0 by decide +kernel, show (if okF 0 0 = true then (0 : Int) else 1) = 0 by decide +kernel]
  clear y0 y1 y2 y3 y4 y5 y6 y7 y8 y9 y10 y11
  have HLE := Lib.hid (show mb ≤ w3.heap.size by have := HW.out.size; have := HMB.out; omega)
  replace HS := Lib.hid (HS.out.below hb)
  replace HW := Lib.hid (HW.out.trans (hb.mono HLE.out))
  replace HLE := Lib.hid (Nat.le_trans HLE.out hb.size)
  clear hb
  obtain ⟨y0, y1, y2, y3, y4, y5, y6, y7, y8, y9, y10, y11, -⟩ := (HC.out.below (by rw [HMB.out]; exact HW.out)).u12
  have hba := (Below.refl _ _ : Below w4.heap.size w4 w4).alloc (Nat.le_refl _) (.cells #[.int .i64 mi, .int .i64 0, .int .i64 (ql : Int), .int .i64 0, .int .i64 0, .int .i64 0] 3)
  have HR := Lib.hid (rowI_lit w4 [mi, 0, (ql : Int), 0, 0, 0] 3)
  replace HS := Lib.hid (HS.out.below hba)
  replace HW := Lib.hid (HW.out.trans (hba.mono HLE.out))
  replace HLE := Lib.hid (Nat.le_trans HLE.out hba.size)
  obtain ⟨w5, hw5⟩ : ∃ x, w4.alloc (.cells #[.int .i64 mi, .int .i64 0, .int .i64 (ql : Int), .int .i64 0, .int .i64 0, .int .i64 0] 3) = x := ⟨_, rfl⟩
  obtain ⟨g5, hg5⟩ : ∃ x, w4.heap.size = x := ⟨_, rfl⟩
  have HR' := HR.out
  simp only [List.map_cons, List.map_nil, List.length_cons, List.length_nil] at HR'
  rw [hw5, hg5] at HR'
  rw [hw5] at HS HW HLE
  replace HR := Lib.hid HR'
  have HW5 := Lib.hid hw5
  have HG5 := Lib.hid hg5
  clear HR' hba hw5 hg5
  go_wp2_with fail
  rw [HW5.out, HG5.out]
  clear HW5 HG5 y0 y1 y2 y3 y4 y5 y6 y7 y8 y9 y10 y11
  refine (numS q6 mb mb 2 (some ⟨g5, 0, none⟩) 6 6 [mi, 0, (ql : Int), 0, 0, 0] _ [] w5 HR.out (by decide) HS.out HQ6.out.1 HQ6.out.2 (by have := joinL_two [mi, 0, (ql : Int), 0, 0, 0]; simp only [List.length_cons, List.length_nil] at this ⊢; omega)).mono ?_; rintro e w6 ⟨rfl, hs6, hb6, -⟩
  rw [List.nil_append] at hs6
  replace HW := Lib.hid (HW.out.trans hb6)
  replace HLE := Lib.hid (Nat.le_trans HLE.out hb6.size)
  obtain ⟨X0, hX0⟩ : ∃ x, joinL 2 [mi, 0, (ql : Int), 0, 0, 0] = x := ⟨_, rfl⟩
  rw [hX0] at hs6
  have HX0L := Lib.hid (show X0.length ≤ 12 by have := joinL_two [mi, 0, (ql : Int), 0, 0, 0]; rw [hX0] at this; exact this)
  have HEX := Lib.hid (show encX mi Q = (Q.foldl wQ (X0, fun _ => none)).1 by unfold encX; rw [← hX0, HQL.out])
  have HS6 := Lib.hid hs6
  clear HS HR hs6 hb6 hX0
  obtain ⟨y0, y1, y2, y3, y4, y5, y6, y7, y8, y9, y10, y11, -⟩ := (HC.out.below (by rw [HMB.out]; exact HW.out)).u12
  go_wp2_with fail
  clear y0 y1 y2 y3 y4 y5 y6 y7 y8 y9 y10 y11
  go_loopw [45] (fun i wr => ∃ (k : Nat), i = .int .i64 k ∧ k ≤ ql ∧ Hid (WrS wr mb q6 mb ((Q.take k).foldl wQ (X0, fun _ => none)).2 ((Q.take k).foldl wQ (X0, fun _ => none)).1) ∧ Hid (((Q.take k).foldl wQ (X0, fun _ => none)).1.length ≤ 12 + 270 * k) ∧ Hid (Below mb w2 wr) ∧ Hid (mb ≤ wr.heap.size)) (fun i _ => ql - (intOf i).toNat)
  case atStart => exact ⟨0, rfl, by omega, HS6, by simpa using HX0L, HW, HLE⟩
  case round =>
    obtain ⟨k, rfl, hk, HS, HXL, HW, HLE⟩ := hrel
    by_cases hlt : k < ql
    · obtain ⟨b, o, r, rfl, hbl, hr, c0, c1, c2⟩ := (HQ.out.below (by rw [HMB.out]; exact HW.out)).at k hlt
      obtain ⟨n, t, c⟩ := r
      have hmk : mayN n = true := by
        have h := List.all_eq_true.1 HMAY.out _ (List.mem_of_getElem? hr)
        simp only [mayK, Bool.and_eq_true] at h
        exact h.1
      obtain ⟨l1, l2, l3⟩ := labs_spec hmk
      have HNX := Lib.hid (show (Q.take (k + 1)).foldl wQ (X0, fun _ => none) = wQ ((Q.take k).foldl wQ (X0, fun _ => none)) ⟨n, t, c⟩ by
        rw [List.take_add_one, hr]; simp)
      obtain ⟨L, hL⟩ : ∃ L, labs n = L := ⟨_, rfl⟩
      rw [hL] at l1 l2 l3
      have HLB := Lib.hid hL
      have HOK := Lib.hid (show OkL L ∧ off L L.length ≤ 254 from ⟨l1, l2⟩)
      replace c0 : wr.cell? ⟨b, o + k * 3, none⟩ = some (.string n) := c0
      replace c1 : wr.cell? ⟨b, o + k * 3 + 1, none⟩ = some (.int .i64 t) := c1
      replace c2 : wr.cell? ⟨b, o + k * 3 + 2, none⟩ = some (.int .i64 c) := c2
      have HN := Lib.hid l3
      obtain ⟨⟨X, f⟩, hXf⟩ : ∃ a, (Q.take k).foldl wQ (X0, fun _ => none) = a := ⟨_, rfl⟩
      rw [hXf] at HS HXL HNX
      replace HS : Hid (WrS wr mb q6 mb f X) := HS
      replace HXL : Hid (X.length ≤ 12 + 270 * k) := HXL
      have HNX2 := Lib.hid (show (Q.take (k + 1)).foldl wQ (X0, fun _ => none) = ((wNm f X L).1 ++ joinL 2 [t, c], (wNm f X L).2) by rw [HNX.out, ← HLB.out]; rfl)
      have HXN := Lib.hid (wNm_le L f X)
      have hba := (Below.refl _ _ : Below wr.heap.size wr wr).alloc (Nat.le_refl _) (.cells #[.string n, .int .i64 t, .int .i64 c] 27)
      have HE := Lib.hid (CN.new wr #[.string n, .int .i64 t, .int .i64 c] 27)
      have HT7 := Lib.hid (TB.new wr #[.string n, .int .i64 t, .int .i64 c] 27)
      replace HS := Lib.hid (HS.out.below hba)
      replace HW := Lib.hid (HW.out.trans (hba.mono HLE.out))
      replace HLE := Lib.hid (Nat.le_trans HLE.out hba.size)
      obtain ⟨w7, hw7⟩ : ∃ x, wr.alloc (.cells #[.string n, .int .i64 t, .int .i64 c] 27) = x := ⟨_, rfl⟩
      obtain ⟨g7, hg7⟩ : ∃ x, wr.heap.size = x := ⟨_, rfl⟩
      rw [hw7] at HS HW HE HT7 HLE
      rw [hg7] at HE HT7
      have HW7 := Lib.hid hw7
      have HG7 := Lib.hid hg7
      clear hr hba hbl hw7 hg7 hL hXf HNX hmk l1 l2 l3
      go_upto_region 9 with (fail)
      rw [HW7.out, HG7.out]
      clear HW7 HG7 c0 c1 c2
      have c0 := (HE.out.2 0 _ rfl).1
      go_wp2_with fail
      rw [HN.out]
      refine (name_any q6 mb mb L X f w7 HOK.out.1 HOK.out.2 HS.out HQ6.out.1 (Nat.le_refl _) HQ6.out.2 (by have := HXL.out; omega)).mono ?_; rintro e w8 ⟨rfl, hs8, hb8, hk8⟩
      have he8 : w8.heap[g7]? = w7.heap[g7]? := hk8.tb HT7.out (by decide) (by decide)
      have HE8 := Lib.hid (show w8.cell? ⟨g7, 1, none⟩ = some (.int .i64 t) ∧ w8.cell? ⟨g7, 2, none⟩ = some (.int .i64 c) from ⟨(World.cell?_of_block (a := ⟨g7, 1, none⟩) he8).trans (HE.out.2 1 _ rfl).1, (World.cell?_of_block (a := ⟨g7, 2, none⟩) he8).trans (HE.out.2 2 _ rfl).1⟩)
      replace HW := Lib.hid (HW.out.trans hb8)
      replace HLE := Lib.hid (Nat.le_trans HLE.out hb8.size)
      replace HS := Lib.hid hs8
      clear hs8 hb8 hk8 c0 he8 HE HT7
      have hba := (Below.refl _ _ : Below w8.heap.size w8 w8).alloc (Nat.le_refl _) (.cells #[.int .i64 t, .int .i64 c] 3)
      have HR := (rowI_lit w8 [t, c] 3)
      simp only [List.map_cons, List.map_nil, List.length_cons, List.length_nil] at HR
      replace HS := Lib.hid (HS.out.below hba)
      replace HW := Lib.hid (HW.out.trans (hba.mono HLE.out))
      replace HLE := Lib.hid (Nat.le_trans HLE.out hba.size)
      obtain ⟨w9, hw9⟩ : ∃ x, w8.alloc (.cells #[.int .i64 t, .int .i64 c] 3) = x := ⟨_, rfl⟩
      obtain ⟨g9, hg9⟩ : ∃ x, w8.heap.size = x := ⟨_, rfl⟩
      rw [hw9, hg9] at HR
      rw [hw9] at HS HW HLE
      replace HR := Lib.hid HR
      have HW9 := Lib.hid hw9
      have HG9 := Lib.hid hg9
      obtain ⟨c1, c2⟩ := HE8.out
      clear hba hw9 hg9
      go_wp2_with fail
      rw [HW9.out, HG9.out]
      clear HW9 HG9 c1 c2
      have HJ := Lib.hid (joinL_two [t, c])
      refine (numS q6 mb mb 2 (some ⟨g9, 0, none⟩) 2 2 [t, c] _ _ w9 HR.out (by decide) HS.out HQ6.out.1 HQ6.out.2 (by have := HXL.out; have := HXN.out; have := HOK.out.2; have := HJ.out; simp only [List.length_cons, List.length_nil] at this; omega)).mono ?_; rintro e w10 ⟨rfl, hs10, hb10, -⟩
      replace HW := Lib.hid (HW.out.trans hb10)
      replace HLE := Lib.hid (Nat.le_trans HLE.out hb10.size)
      have HS2 := Lib.hid (show WrS w10 mb q6 mb ((Q.take (k + 1)).foldl wQ (X0, fun _ => none)).2 ((Q.take (k + 1)).foldl wQ (X0, fun _ => none)).1 by rw [HNX2.out]; exact hs10)
      have HXL2 := Lib.hid (show ((Q.take (k + 1)).foldl wQ (X0, fun _ => none)).1.length ≤ 12 + 270 * (k + 1) by
        rw [HNX2.out]
        show ((wNm f X L).1 ++ joinL 2 [t, c]).length ≤ _
        rw [List.length_append]
        have := HXL.out; have := HXN.out; have := HOK.out.2; have := HJ.out; simp only [List.length_cons, List.length_nil] at this; omega)
      clear hs10 hb10 HR HS HXL HNX2
      go_wp2
      go_roundw
      case rel => exact ⟨k + 1, by go_num, by omega, HS2, HXL2, HW, HLE⟩
      case measure => simp [intOf]; omega
    · obtain rfl : k = ql := by omega
      have hX : ((Q.take k).foldl wQ (X0, fun _ => none)).1 = encX mi Q := by rw [HEX.out, ← HQL.out, List.take_length]
      rw [hX] at HS HXL
      clear hX
      obtain ⟨bv, D, m, hc, ht, ho, -⟩ := HS.out
      obtain ⟨xl, hxl⟩ : ∃ x, (encX mi Q).length = x := ⟨_, rfl⟩
      rw [hxl] at ho HXL
      obtain ⟨sa, sc, rfl, -⟩ := cellsK_own ho
      have H6 := Lib.hid hc
      have HO := Lib.hid ho
      have HXV := Lib.hid hxl
      clear hlt hk hc ht ho hxl
      obtain ⟨y0, y1, y2, y3, y4, y5, y6, y7, y8, y9, y10, y11, -⟩ := (HC.out.below (by rw [HMB.out]; exact HW.out)).u12
      go_wp2_with fail
      refine (all_ex _ _ _ _ _ _ _ _ _ _ _ _ _ _ _ _ _ _ _ _ [] [] [] wr (rowR_nil _) (fun _ => ⟨rfl, rfl⟩) (rowR_nil _) (fun _ => ⟨rfl, rfl⟩) (rowR_nil _) (fun _ => ⟨rfl, rfl⟩) (by decide)).mono ?_; rintro e w9 ⟨v9, rfl, ho, hb⟩
      clear y0 y1 y2 y3 y4 y5 y6 y7 y8 y9 y10 y11
      obtain ⟨a9, c9, rfl, -⟩ := rowR_own ho
      replace H6 := Lib.hid (H6.out.below hb)
      replace HO := Lib.hid (own_below' HO.out hb)
      replace HW := Lib.hid (HW.out.trans (hb.mono HLE.out))
      have HBZ := Lib.hid (HB.out.trans (HW.out.mono (by have := HB.out.size; have := HMB.out; omega)))
      have HSZ := Lib.hid (show w.heap.size ≤ mb by have := HB.out.size; have := HMB.out; omega)
      clear ho hb
      obtain ⟨z0, z1⟩ : w9.cell? ⟨q6, 0, none⟩ = some (.slice sa xl sc) ∧ w9.cell? ⟨q6, 1, none⟩ = some (.map (some mb)) := ⟨(H6.out.2 0 _ rfl).1, (H6.out.2 1 _ rfl).1⟩
      by_cases hc1 : most < (xl : Int)
      · have d1 := dT hc1
        have HE := Lib.hid (enc_long (mi := mi) (most := most) HMAY.out (Or.inl (by rw [HXV.out]; exact hc1)))
        clear hc1
        go_wp2_with fail
        go_loopw [62] (fun i wx => i = .int .i64 0 ∧ w9 = wx) (fun _ _ => 0)
        case atStart => exact ⟨rfl, rfl⟩
        case round =>
          obtain ⟨rfl, rfl⟩ := hrel
          go_wp2
          go_ret2
          refine ⟨.slice none 0 0, ret_vi5 (v := .slice none 0 0) HE.out.1.symm, by rw [HE.out.2]; exact World.ownsRow_nil _ _ _ _, HBZ.out⟩
      have d1 := dF hc1
      by_cases hc2 : 16000 < xl
      · have d2 := dT (p := (16000 : Int) < (xl : Int)) (by omega)
        have HE := Lib.hid (enc_long (mi := mi) (most := most) HMAY.out (Or.inr (by rw [HXV.out]; exact hc2)))
        clear hc1 hc2
        go_wp2_with fail
        go_loopw [62] (fun i wx => i = .int .i64 0 ∧ w9 = wx) (fun _ _ => 0)
        case atStart => exact ⟨rfl, rfl⟩
        case round =>
          obtain ⟨rfl, rfl⟩ := hrel
          go_wp2
          go_ret2
          refine ⟨.slice none 0 0, ret_vi5 (v := .slice none 0 0) HE.out.1.symm, by rw [HE.out.2]; exact World.ownsRow_nil _ _ _ _, HBZ.out⟩
      have d2 := dF (p := (16000 : Int) < (xl : Int)) (by omega)
      have HE := Lib.hid (enc_yes (mi := mi) (most := most) HMAY.out (by rw [HXV.out]; exact hc1) (by rw [HXV.out]; exact hc2))
      clear hc1 hc2
      go_wp2_with fail
      go_loopw [62] (fun i wx => i = .int .i64 0 ∧ w9 = wx) (fun _ _ => 0)
      case atStart => exact ⟨rfl, rfl⟩
      case round =>
        obtain ⟨rfl, rfl⟩ := hrel
        go_wp2
        go_ret2
        refine ⟨.slice sa xl sc, ret_vi5 (v := .slice sa xl sc) HE.out.1.symm, by rw [HE.out.2, HXV.out]; exact own_mono4 HO.out HSZ.out, HBZ.out⟩
end Go.Proofs.Ytgppkpdjpcegbaa
