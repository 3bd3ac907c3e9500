/- The writer's record. -/
import Derived.Test.YtgppkpdjpcegbaaWdW
import Derived.Test.YtgppkpdjpcegbaaGdr
namespace Go.Proofs.Ytgppkpdjpcegbaa
open Go.RowKit
open Go.Maps

theorem wNm_ge : ∀ (L : List ByteArray) (f : Pls) (X : List UInt8), X.length ≤ (wNm f X L).1.length
  | [], f, X => by simp [wNm]
  | s :: L, f, X => by
    cases h : f (s :: L) with
    | some p => rw [wNm_yes h, List.length_append]; omega
    | none =>
      rw [wNm_no h]
      have := wNm_ge L (putPl f (s :: L) X.length) (X ++ (UInt8.ofNat s.size :: s.data.toList))
      rw [List.length_append] at this
      omega
theorem fold_ge : ∀ (l : List ByteArray) (a : List UInt8 × Pls × ByteArray), a.1.length ≤ (l.foldl wD1 a).1.length
  | [], _ => Nat.le_refl _
  | n :: l, a => Nat.le_trans (wNm_ge (labs n) a.2.1 a.1) (fold_ge l (wD1 a n))
theorem wDat_ge (f : Pls) (X : List UInt8) (k : Int) (d : ByteArray) : X.length ≤ (wDat f X k d).1.length := by
  have h1 := fold_ge (nmL k d) (datX X k d, f, datR k d)
  have h2 : X.length ≤ (datX X k d).length := by unfold datX; split <;> simp
  have e : (wDat f X k d).1 = ((nmL k d).foldl wD1 (datX X k d, f, datR k d)).1 ++ ((nmL k d).foldl wD1 (datX X k d, f, datR k d)).2.2.data.toList := rfl
  rw [e, List.length_append]
  exact Nat.le_trans h2 (Nat.le_trans h1 (Nat.le_add_right _ _))
theorem wDat_le (f : Pls) (X : List UInt8) {k : Int} {d : ByteArray} (hd : d.size ≤ 1000) (hk : mayD k d = true ∨ k = 41) (h15 : k = 15 → 2 ≤ d.size) : (wDat f X k d).1.length ≤ X.length + 1600 := by
  have h1 := fold_le (nmL k d) (datX X k d, f, datR k d) (nmL k d).length (fitD hk)
  have h2 := fold_rest (nmL k d) (datX X k d, f, datR k d) (nmL k d).length
  rw [List.take_length] at h1 h2
  have h3 := nmL_len k d
  have h4 := datR_le (k := k) hd
  have h5 := datX_le (X := X) h15
  have e : (wDat f X k d).1 = ((nmL k d).foldl wD1 (datX X k d, f, datR k d)).1 ++ ((nmL k d).foldl wD1 (datX X k d, f, datR k d)).2.2.data.toList := rfl
  rw [e, List.length_append, size_data]
  have h6 : 256 * (nmL k d).length ≤ 256 * 2 := Nat.mul_le_mul_left _ h3
  have h1' : ((nmL k d).foldl wD1 (datX X k d, f, datR k d)).1.length ≤ (datX X k d).length + 256 * (nmL k d).length := h1
  have h2' : ((nmL k d).foldl wD1 (datX X k d, f, datR k d)).2.2.size ≤ (datR k d).size := h2
  omega
/-- The row ahead of a record's length. -/
noncomputable def rec2 (f : Pls) (X : List UInt8) (r : R5) : List UInt8 := (wNm f X (labs r.k.n)).1 ++ joinL 2 [r.k.t, r.k.c] ++ joinL 4 [r.ttl]
noncomputable def rec4 (f : Pls) (X : List UInt8) (r : R5) : List UInt8 × Pls := wDat (wNm f X (labs r.k.n)).2 (rec2 f X r ++ joinL 2 [0]) r.k.t r.d
/-- The length of data, laid where it belongs. -/
def setLen (X : List UInt8) (a : Nat) : List UInt8 := (X.set a (UInt8.ofNat ((X.length - a - 2) / 256))).set (a + 1) (UInt8.ofNat (X.length - a - 2))
noncomputable def wRec (f : Pls) (X : List UInt8) (r : R5) : List UInt8 × Pls := (setLen (rec4 f X r).1 (rec2 f X r).length, (rec4 f X r).2)
theorem setLen_length (X : List UInt8) (a : Nat) : (setLen X a).length = X.length := by simp [setLen]
theorem zeros2 : joinL 2 [0] = [0, 0] := by decide +kernel
theorem bc_set (X : List UInt8) (j : Nat) (b : UInt8) : (bc X).set j (.int .u8 (b.toNat : Int)) = bc (X.set j b) := by
  simp [bc, List.map_set]
theorem cn5 {w : World} {q : Nat} {c0 c1 c2 c3 c4 : Value} (h : CN w q [c0, c1, c2, c3, c4]) : w.cell? ⟨q, 0, none⟩ = some c0 ∧ w.cell? ⟨q, 1, none⟩ = some c1 ∧ w.cell? ⟨q, 2, none⟩ = some c2 ∧ w.cell? ⟨q, 3, none⟩ = some c3 ∧ w.cell? ⟨q, 4, none⟩ = some c4 := ⟨(h.2 0 _ rfl).1, (h.2 1 _ rfl).1, (h.2 2 _ rfl).1, (h.2 3 _ rfl).1, (h.2 4 _ rfl).1⟩
theorem own_at8 {w : World} {B n cap g : Nat} {X : List UInt8} (h : w.ownsRow B 5 1 (.slice (some ⟨g, 0, none⟩) n cap) n (bc X)) (j : Nat) (hj : j < n) : (∃ v, w.cell? ⟨g, j, none⟩ = some v) ∧ w.frozen? ⟨g, j, none⟩ = false := by
  refine ⟨?_, h.frozenAt j⟩
  have hl : (bc X).length = n * 1 := h.1
  rw [h.cellAt j (by omega), List.getElem?_eq_getElem (by omega)]
  exact ⟨_, rfl⟩
theorem cn_kp {w w' : World} {g : Nat} {cs : List Value} {T : TypeId} (h : CN w g cs) (ht : TB w g T) (hk : Kp w w') (h1 : T ≠ 85) (h2 : T ≠ 5) : CN w' g cs ∧ TB w' g T := by
  have e := hk.tb ht h1 h2
  obtain ⟨c, ht⟩ := ht
  rw [ht] at e
  exact ⟨⟨(Array.getElem?_eq_some_iff.1 e).1, fun j v hj => ⟨(World.cell?_of_block (a := ⟨g, j, none⟩) (e.trans ht.symm)).trans (h.2 j v hj).1, (World.frozen?_of_block (a := ⟨g, j, none⟩) (e.trans ht.symm)).trans (h.2 j v hj).2⟩⟩, c, e⟩
set_option maxRecDepth 100000 in
set_option maxHeartbeats 8000000 in
theorem record_any (q mb B : Nat) (n : ByteArray) (t c u : Int) (d : ByteArray) (f : Pls) (X : List UInt8) (w : World) (hn : mayN n = true) (hd : d.size ≤ 1000) (hk : mayD t d = true ∨ t = 41) (h15 : t = 15 → 2 ≤ d.size) (hs : WrS w B q mb f X) (hB : B ≤ q) (hBm : B ≤ mb) (hqm : q ≠ mb) (hm : X.length + 6000 ≤ 1000000) :
    Calls Try.prog 39 #[.pointer (some ⟨q, 0, none⟩), .agg #[.string n, .int .i64 t, .int .i64 c, .int .i64 u, .string d]] w fun e w' => e = .returned (.tuple #[]) ∧ WrN w B q mb (wRec f X ⟨⟨n, t, c⟩, u, d⟩).2 (wRec f X ⟨⟨n, t, c⟩, u, d⟩).1 w' := by
  have HQ := Lib.hid (show B ≤ q ∧ B ≤ mb ∧ q ≠ mb from ⟨hB, hBm, hqm⟩)
  have HD := Lib.hid (show d.size ≤ 1000 ∧ (mayD t d = true ∨ t = 41) ∧ (t = 15 → 2 ≤ d.size) from ⟨hd, hk, h15⟩)
  have HM := Lib.hid hm
  obtain ⟨l1, l2, l3⟩ := labs_spec hn
  obtain ⟨L, hL⟩ : ∃ x, labs n = x := ⟨_, rfl⟩
  rw [hL] at l1 l2 l3
  have HL := Lib.hid (show OkL L ∧ off L L.length ≤ 254 ∧ n = nameB L from ⟨l1, l2, l3⟩)
  have HLE := Lib.hid (show B ≤ w.heap.size from Nat.le_trans hB (Nat.le_of_lt hs.lt))
  have HR2 := Lib.hid (show rec2 f X ⟨⟨n, t, c⟩, u, d⟩ = (wNm f X L).1 ++ joinL 2 [t, c] ++ joinL 4 [u] by rw [← hL]; rfl)
  have HR4 := Lib.hid (show rec4 f X ⟨⟨n, t, c⟩, u, d⟩ = wDat (wNm f X L).2 (rec2 f X ⟨⟨n, t, c⟩, u, d⟩ ++ joinL 2 [0]) t d by rw [← hL]; rfl)
  have hb0 := (Below.refl w.heap.size w).alloc (Nat.le_refl _) (.cells #[.string n, .int .i64 t, .int .i64 c, .int .i64 u, .string d] 77)
  have HE := Lib.hid (CN.new w #[.string n, .int .i64 t, .int .i64 c, .int .i64 u, .string d] 77)
  have HT := Lib.hid (TB.new w #[.string n, .int .i64 t, .int .i64 c, .int .i64 u, .string d] 77)
  have HS := Lib.hid (hs.below hb0)
  have HB := Lib.hid (hb0.mono HLE.out)
  have HK := Lib.hid (Kp.below hb0)
  replace HLE := Lib.hid (Nat.le_trans HLE.out hb0.size)
  obtain ⟨w0, hw0⟩ : ∃ x, w.alloc (.cells #[.string n, .int .i64 t, .int .i64 c, .int .i64 u, .string d] 77) = x := ⟨_, rfl⟩
  obtain ⟨g, hg⟩ : ∃ x, w.heap.size = x := ⟨_, rfl⟩
  rw [hw0] at HE HT HS HB HK HLE
  rw [hg] at HE HT
  have HW0 := Lib.hid hw0
  have HG0 := Lib.hid hg
  clear hb0 hw0 hg hs hd hk h15 hB hBm hqm hm hn hL l1 l2 l3
  go_enter Try.func39, Try.ntmps39
  go_upto_region 1 with (fail)
  rw [HW0.out, HG0.out]
  clear HW0 HG0
  have c0 := (HE.out.2 0 _ rfl).1
  go_wp2_with fail
  clear c0
  rw [HL.out.2.2]
  refine (name_any q mb B L X f w0 HL.out.1 HL.out.2.1 HS.out HQ.out.1 HQ.out.2.1 HQ.out.2.2 (by have := HM.out; omega)).mono ?_; rintro e w1 ⟨rfl, hs1, hb1, hk1⟩
  rw [← HL.out.2.2]
  replace HB := Lib.hid (HB.out.trans hb1)
  replace HK := Lib.hid (HK.out.trans hk1)
  replace HLE := Lib.hid (Nat.le_trans HLE.out hb1.size)
  have hct := cn_kp HE.out HT.out hk1 (by decide) (by decide)
  replace HE := Lib.hid hct.1
  replace HT := Lib.hid hct.2
  replace HS := Lib.hid hs1
  clear hct hs1 hb1 hk1
  have HX1 := Lib.hid (wNm_le L f X)
  obtain ⟨⟨X1, f1⟩, hx1⟩ : ∃ x, wNm f X L = x := ⟨_, rfl⟩
  rw [hx1] at HS HX1 HR2 HR4
  replace HS : Hid (WrS w1 B q mb f1 X1) := HS
  replace HX1 : Hid (X1.length ≤ X.length + off L L.length + 2) := HX1
  replace HR2 : Hid (rec2 f X ⟨⟨n, t, c⟩, u, d⟩ = X1 ++ joinL 2 [t, c] ++ joinL 4 [u]) := HR2
  replace HR4 : Hid (rec4 f X ⟨⟨n, t, c⟩, u, d⟩ = wDat f1 (rec2 f X ⟨⟨n, t, c⟩, u, d⟩ ++ joinL 2 [0]) t d) := HR4
  have HX2 := Lib.hid (show X1.length ≤ X.length + 256 by have := HX1.out; have := HL.out.2.1; omega)
  clear hx1 HX1
  have hba := (Below.refl _ _ : Below w1.heap.size w1 w1).alloc (Nat.le_refl _) (.cells #[.int .i64 t, .int .i64 c] 3)
  have HR := (rowI_lit w1 [t, c] 3)
  simp only [List.map_cons, List.map_nil, List.length_cons, List.length_nil] at HR
  have hct := cn_kp HE.out HT.out (Kp.below hba) (by decide) (by decide)
  obtain ⟨v2, hv2⟩ : ∃ x, w1.alloc (.cells #[.int .i64 t, .int .i64 c] 3) = x := ⟨_, rfl⟩
  obtain ⟨h2, hh2⟩ : ∃ x, w1.heap.size = x := ⟨_, rfl⟩
  obtain ⟨c0, c1, c2, c3, c4⟩ := cn5 HE.out
  go_wp2_with fail
  clear c0 c1 c2 c3 c4

  rw [hv2] at hba hct HR
  rw [hh2] at HR
  replace HE := Lib.hid hct.1
  replace HT := Lib.hid hct.2
  replace HS := Lib.hid (HS.out.below hba)
  replace HB := Lib.hid (HB.out.trans (hba.mono HLE.out))
  replace HK := Lib.hid (HK.out.trans (Kp.below hba))
  replace HLE := Lib.hid (Nat.le_trans HLE.out hba.size)
  clear hba hct hv2
  refine (numS q mb B 2 (some ⟨h2, 0, none⟩) 2 2 [t, c] _ X1 v2 HR (by decide) HS.out HQ.out.1 HQ.out.2.2 (by have h2 := joinL_le 2 [t, c]; simp only [List.length_cons, List.length_nil] at h2; have := HM.out; have := HX2.out; omega)).mono ?_; rintro e w2 ⟨rfl, hs2, hb2, hk2⟩
  clear HR hh2
  replace HB := Lib.hid (HB.out.trans hb2)
  replace HK := Lib.hid (HK.out.trans hk2)
  replace HLE := Lib.hid (Nat.le_trans HLE.out hb2.size)
  have hct := cn_kp HE.out HT.out hk2 (by decide) (by decide)
  replace HE := Lib.hid hct.1
  replace HT := Lib.hid hct.2
  replace HS := Lib.hid hs2
  clear hct hs2 hb2 hk2
  have hba := (Below.refl _ _ : Below w2.heap.size w2 w2).alloc (Nat.le_refl _) (.cells #[.int .i64 u] 3)
  have HR := (rowI_lit w2 [u] 3)
  simp only [List.map_cons, List.map_nil, List.length_cons, List.length_nil] at HR
  have hct := cn_kp HE.out HT.out (Kp.below hba) (by decide) (by decide)
  obtain ⟨v3, hv3⟩ : ∃ x, w2.alloc (.cells #[.int .i64 u] 3) = x := ⟨_, rfl⟩
  obtain ⟨h3, hh3⟩ : ∃ x, w2.heap.size = x := ⟨_, rfl⟩
  obtain ⟨c0, c1, c2, c3, c4⟩ := cn5 HE.out
  go_wp2_with fail
  clear c0 c1 c2 c3 c4

  rw [hv3] at hba hct HR
  rw [hh3] at HR
  replace HE := Lib.hid hct.1
  replace HT := Lib.hid hct.2
  replace HS := Lib.hid (HS.out.below hba)
  replace HB := Lib.hid (HB.out.trans (hba.mono HLE.out))
  replace HK := Lib.hid (HK.out.trans (Kp.below hba))
  replace HLE := Lib.hid (Nat.le_trans HLE.out hba.size)
  clear hba hct hv3
  refine (numS q mb B 4 (some ⟨h3, 0, none⟩) 1 1 [u] _ (X1 ++ joinL 2 [t, c]) v3 HR (by decide) HS.out HQ.out.1 HQ.out.2.2 (by have h2 := joinL_le 4 [u]; simp only [List.length_cons, List.length_nil] at h2; have := HM.out; have := HX2.out; have h3 := joinL_le 2 [t, c]; simp only [List.length_cons, List.length_nil] at h3; rw [List.length_append]; omega)).mono ?_; rintro e w3 ⟨rfl, hs3, hb3, hk3⟩
  clear HR hh3
  replace HB := Lib.hid (HB.out.trans hb3)
  replace HK := Lib.hid (HK.out.trans hk3)
  replace HLE := Lib.hid (Nat.le_trans HLE.out hb3.size)
  have hct := cn_kp HE.out HT.out hk3 (by decide) (by decide)
  replace HE := Lib.hid hct.1
  replace HT := Lib.hid hct.2
  replace HS := Lib.hid hs3
  clear hct hs3 hb3 hk3
  obtain ⟨X2, hx2⟩ : ∃ x, X1 ++ joinL 2 [t, c] ++ joinL 4 [u] = x := ⟨_, rfl⟩
  have HX3 := Lib.hid (show X2.length ≤ X.length + 300 by
    have h1 := HX2.out; have h2 := joinL_le 2 [t, c]; have h3 := joinL_le 4 [u]
    rw [← hx2, List.length_append, List.length_append]
    simp only [List.length_cons, List.length_nil] at h2 h3
    omega)
  rw [hx2] at HS HR2
  rw [HR2.out] at HR4
  clear hx2
  obtain ⟨bv, D1, n1, hc, ht, ho, hmp, hDD, hf, hn1⟩ := HS.out
  obtain ⟨fr, hfr⟩ : ∃ x, X2.length = x := ⟨_, rfl⟩
  rw [hfr] at ho
  obtain ⟨sa, sc, rfl, -⟩ := cellsK_own ho
  have c0 := (hc.2 0 _ rfl).1
  have HFR := Lib.hid hfr
  clear ht ho hmp hDD hf hn1 hc hfr
  go_upto_region 5 with (fail)
  clear c0
  have hba := (Below.refl _ _ : Below w3.heap.size w3 w3).alloc (Nat.le_refl _) (.cells #[.int .i64 0] 3)
  have HR := (rowI_lit w3 [0] 3)
  simp only [List.map_cons, List.map_nil, List.length_cons, List.length_nil] at HR
  have hct := cn_kp HE.out HT.out (Kp.below hba) (by decide) (by decide)
  obtain ⟨v4, hv4⟩ : ∃ x, w3.alloc (.cells #[.int .i64 0] 3) = x := ⟨_, rfl⟩
  obtain ⟨h4, hh4⟩ : ∃ x, w3.heap.size = x := ⟨_, rfl⟩
  go_wp2_with fail

  rw [hv4] at hba hct HR
  rw [hh4] at HR
  replace HE := Lib.hid hct.1
  replace HT := Lib.hid hct.2
  replace HS := Lib.hid (HS.out.below hba)
  replace HB := Lib.hid (HB.out.trans (hba.mono HLE.out))
  replace HK := Lib.hid (HK.out.trans (Kp.below hba))
  replace HLE := Lib.hid (Nat.le_trans HLE.out hba.size)
  clear hba hct hv4
  refine (numS q mb B 2 (some ⟨h4, 0, none⟩) 1 1 [0] _ X2 v4 HR (by decide) HS.out HQ.out.1 HQ.out.2.2 (by have h2 := joinL_le 2 [0]; simp only [List.length_cons, List.length_nil] at h2; have := HM.out; have := HX3.out; omega)).mono ?_; rintro e w4 ⟨rfl, hs4, hb4, hk4⟩
  clear HR hh4
  replace HB := Lib.hid (HB.out.trans hb4)
  replace HK := Lib.hid (HK.out.trans hk4)
  replace HLE := Lib.hid (Nat.le_trans HLE.out hb4.size)
  have hct := cn_kp HE.out HT.out hk4 (by decide) (by decide)
  replace HE := Lib.hid hct.1
  replace HT := Lib.hid hct.2
  replace HS := Lib.hid hs4
  clear hct hs4 hb4 hk4
  have hz2 := zeros2
  rw [hz2] at HS HR4
  clear hz2
  obtain ⟨c0, c1, c2, c3, c4⟩ := cn5 HE.out
  go_wp2_with fail
  clear c0 c1 c2 c3 c4
  refine (data_any q mb B t d f1 (X2 ++ [0, 0]) _ HD.out.1 HD.out.2.1 HD.out.2.2 HS.out HQ.out.1 HQ.out.2.1 HQ.out.2.2 (by rw [List.length_append]; have := HX3.out; have := HM.out; simp only [List.length_cons, List.length_nil]; omega)).mono ?_; rintro e w6 ⟨rfl, hs6, hb6, hk6⟩
  replace HB := Lib.hid (HB.out.trans hb6)
  replace HK := Lib.hid (HK.out.trans hk6)
  replace HLE := Lib.hid (Nat.le_trans HLE.out hb6.size)
  have HGE := Lib.hid (wDat_ge f1 (X2 ++ [0, 0]) t d)
  have HLL := Lib.hid (wDat_le f1 (X2 ++ [0, 0]) HD.out.1 HD.out.2.1 HD.out.2.2)
  rw [← HR4.out] at hs6 HGE HLL
  have HRR := Lib.hid (show wRec f X ⟨⟨n, t, c⟩, u, d⟩ = (setLen (rec4 f X ⟨⟨n, t, c⟩, u, d⟩).1 fr, (rec4 f X ⟨⟨n, t, c⟩, u, d⟩).2) by rw [← HFR.out, ← HR2.out]; rfl)
  obtain ⟨⟨X4, f4⟩, hx4⟩ : ∃ x, rec4 f X ⟨⟨n, t, c⟩, u, d⟩ = x := ⟨_, rfl⟩
  rw [hx4] at hs6 HGE HLL HRR
  replace hs6 : WrS w6 B q mb f4 X4 := hs6
  clear hb6 hk6 HS HE HT hx4
  obtain ⟨bv, D1, n1, hc, ht, ho, hmp, hDD, hf, hn1⟩ := hs6
  obtain ⟨xl, hxl⟩ : ∃ x, X4.length = x := ⟨_, rfl⟩
  rw [hxl] at ho
  obtain ⟨sz, hsz⟩ : ∃ x, xl - fr - 2 = x := ⟨_, rfl⟩
  have HZ := Lib.hid (show xl = fr + 2 + sz ∧ xl ≤ 1000000 ∧ sz ≤ 60000 by
    have h1 : (X2 ++ [0, 0]).length ≤ X4.length := HGE.out
    have h2 : X4.length ≤ (X2 ++ [0, 0]).length + 1600 := HLL.out
    rw [List.length_append] at h1 h2
    have := HFR.out; have := HX3.out; have := HM.out
    simp only [List.length_cons, List.length_nil] at h1 h2
    omega)
  have hnot : ∃ g cap, bv = .slice (some ⟨g, 0, none⟩) xl cap := by
    have hz := HZ.out
    rcases ho.2 with ⟨h1, h2⟩ | ⟨g, cap, cur, h1, _⟩
    · omega
    · exact ⟨g, cap, h1⟩
  obtain ⟨gb, cap, rfl⟩ := hnot
  have HC := Lib.hid hc
  have HT := Lib.hid ht
  have HO := Lib.hid ho
  have HP := Lib.hid hmp
  have HPD := Lib.hid hDD
  have HF := Lib.hid hf
  have HN1 := Lib.hid hn1
  have HXL := Lib.hid hxl
  have c0 := (hc.2 0 _ rfl).1
  obtain ⟨s2, hs2⟩ : ∃ x, sz + 2 = x := ⟨_, rfl⟩
  have x1 : IntKind.i64.wrap ((xl : Int) - (fr : Int)) = (s2 : Int) := by have := HZ.out; rw [IntKind.wrap_i64]; omega
  have x2 : IntKind.i64.wrap ((s2 : Int) - 2) = (sz : Int) := by have := HZ.out; rw [IntKind.wrap_i64]; omega
  clear hs2
  clear hc ht ho hmp hDD hf hn1 hxl hsz
  go_upto_region 8 with (fail)
  have HNE := Lib.hid (show gb ≠ q from fun e => own_ne HO.out HT.out (by decide) (by rw [← e]; rfl))
  have a1 : IntKind.i64.wrap ((fr : Int) + 1) = ((fr + 1 : Nat) : Int) := by have := HZ.out; rw [IntKind.wrap_i64]; omega
  have b0 : fr < xl := by have := HZ.out; omega
  have b1 : fr + 1 < xl := by have := HZ.out; omega
  have sh : IntKind.u8.wrap ((sz : Int) / 256) = (((UInt8.ofNat (sz / 256)).toNat : Nat) : Int) := by rw [IntKind.wrap_u8, UInt8.toNat_ofNat']; omega
  have sh2 : IntKind.u8.wrap (sz : Int) = (((UInt8.ofNat sz).toNat : Nat) : Int) := by rw [IntKind.wrap_u8, UInt8.toNat_ofNat']; omega
  obtain ⟨k0, hk0⟩ : ∃ x : Nat, fr + 1 = x := ⟨_, rfl⟩
  rw [hk0] at a1 b1
  have HK0 := Lib.hid hk0
  obtain ⟨u0, hu0⟩ : ∃ x, UInt8.ofNat (sz / 256) = x := ⟨_, rfl⟩
  obtain ⟨u1, hu1⟩ : ∃ x, UInt8.ofNat sz = x := ⟨_, rfl⟩
  rw [hu0] at sh
  rw [hu1] at sh2
  have HU := Lib.hid (show UInt8.ofNat (sz / 256) = u0 ∧ UInt8.ofNat sz = u1 from ⟨hu0, hu1⟩)
  clear hk0 hu0 hu1 c0 x1 x2
  refine wp_region_held_drew (S := (fun wx => CN wx q [(.slice (some ⟨gb, 0, none⟩) xl cap), .map (some mb)])) (by kernel_rfl) (HC.out) (fun hHeld => ?_)
  refine wpAnyH_take (i := 0) (oi := { dst := some 44, op := Go.Op.move (Go.Operand.tmp 0), type := 111, pos := "encode.go:74", after := #[], guard := none }) (v := ?v0_340101) rfl (by kernel_rfl) (by kernel_rfl) (by kernel_rfl) (fun _ _ _ h => h) (Or.inl ⟨by rfl, ?y0_340101⟩) hHeld ?r0_340101
  case y0_340101 => intro w hSw; (try dsimp only at hSw); have y0 := (hSw.2 0 _ rfl).1; go_simp; try with_reducible rfl
  try simp only [Act.put, List.setIfInBounds_toArray, List.set_cons_zero, List.set_cons_succ]
  refine wpAnyH_take (i := 4) (oi := { dst := some 48, op := Go.Op.move (Go.Operand.tmp 4), type := 3, pos := "encode.go:74", after := #[], guard := none }) (v := ?v4_340101) rfl (by kernel_rfl) (by kernel_rfl) (by kernel_rfl) (fun _ _ _ h => h) (Or.inl ⟨by rfl, ?y4_340101⟩) hHeld ?r4_340101
  case y4_340101 => intro w hSw; (try dsimp only at hSw); have y0 := (hSw.2 0 _ rfl).1; go_simp; try with_reducible rfl
  try simp only [Act.put, List.setIfInBounds_toArray, List.set_cons_zero, List.set_cons_succ]
  refine wpAnyH_take (i := 5) (oi := { dst := some 49, op := Go.Op.move (Go.Operand.tmp 0), type := 111, pos := "encode.go:74", after := #[], guard := none }) (v := ?v5_340101) rfl (by kernel_rfl) (by kernel_rfl) (by kernel_rfl) (fun _ _ _ h => h) (Or.inl ⟨by rfl, ?y5_340101⟩) hHeld ?r5_340101
  case y5_340101 => intro w hSw; (try dsimp only at hSw); have y0 := (hSw.2 0 _ rfl).1; go_simp; try with_reducible rfl
  try simp only [Act.put, List.setIfInBounds_toArray, List.set_cons_zero, List.set_cons_succ]
  refine wpAnyH_take (i := 9) (oi := { dst := some 53, op := Go.Op.move (Go.Operand.tmp 4), type := 3, pos := "encode.go:74", after := #[{ on := 17, ground := Go.Ground.gcOnly Go.Departure.lateStores }], guard := none }) (v := ?v9_340101) rfl (by kernel_rfl) (by kernel_rfl) (by kernel_rfl) (fun _ _ _ h => h) (Or.inl ⟨by rfl, ?y9_340101⟩) hHeld ?r9_340101
  case y9_340101 => intro w hSw; (try dsimp only at hSw); have y0 := (hSw.2 0 _ rfl).1; go_simp; try with_reducible rfl
  try simp only [Act.put, List.setIfInBounds_toArray, List.set_cons_zero, List.set_cons_succ]
  refine wpAnyH_take (i := 10) (oi := { dst := some 54, op := Go.Op.binOp Go.BinOp.add 3 (Go.Operand.tmp 53) (Go.Operand.const (Go.Value.int Go.IntKind.i64 1)) 3, type := 3, pos := "encode.go:74", after := #[{ on := 9, ground := Go.Ground.data }, { on := 17, ground := Go.Ground.gcOnly Go.Departure.lateStores }], guard := none }) (v := ?v10_340101) rfl (by kernel_rfl) (by kernel_rfl) (by kernel_rfl) (fun _ _ _ h => h) (Or.inl ⟨by rfl, ?y10_340101⟩) hHeld ?r10_340101
  case y10_340101 => intro w hSw; (try dsimp only at hSw); have y0 := (hSw.2 0 _ rfl).1; go_simp; try with_reducible rfl
  try simp only [Act.put, List.setIfInBounds_toArray, List.set_cons_zero, List.set_cons_succ]
  refine wpAnyH_take (i := 11) (oi := { dst := some 55, op := Go.Op.move (Go.Operand.tmp 5), type := 3, pos := "encode.go:74", after := #[], guard := none }) (v := ?v11_340101) rfl (by kernel_rfl) (by kernel_rfl) (by kernel_rfl) (fun _ _ _ h => h) (Or.inl ⟨by rfl, ?y11_340101⟩) hHeld ?r11_340101
  case y11_340101 => intro w hSw; (try dsimp only at hSw); have y0 := (hSw.2 0 _ rfl).1; go_simp; try with_reducible rfl
  try simp only [Act.put, List.setIfInBounds_toArray, List.set_cons_zero, List.set_cons_succ]
  refine wpAnyH_take (i := 12) (oi := { dst := some 56, op := Go.Op.binOp Go.BinOp.shr 3 (Go.Operand.tmp 55) (Go.Operand.const (Go.Value.int Go.IntKind.u64 8)) 59, type := 3, pos := "encode.go:74", after := #[{ on := 11, ground := Go.Ground.data }], guard := none }) (v := ?v12_340101) rfl (by kernel_rfl) (by kernel_rfl) (by kernel_rfl) (fun _ _ _ h => h) (Or.inl ⟨by rfl, ?y12_340101⟩) hHeld ?r12_340101
  case y12_340101 => intro w hSw; (try dsimp only at hSw); have y0 := (hSw.2 0 _ rfl).1; go_simp; try with_reducible rfl
  try simp only [Act.put, List.setIfInBounds_toArray, List.set_cons_zero, List.set_cons_succ]
  refine wpAnyH_take (i := 13) (oi := { dst := some 57, op := Go.Op.convert 3 5 (Go.Operand.tmp 56), type := 5, pos := "encode.go:74", after := #[{ on := 12, ground := Go.Ground.data }], guard := none }) (v := ?v13_340101) rfl (by kernel_rfl) (by kernel_rfl) (by kernel_rfl) (fun _ _ _ h => h) (Or.inl ⟨by rfl, ?y13_340101⟩) hHeld ?r13_340101
  case y13_340101 => intro w hSw; (try dsimp only at hSw); have y0 := (hSw.2 0 _ rfl).1; go_simp; try with_reducible rfl
  try simp only [Act.put, List.setIfInBounds_toArray, List.set_cons_zero, List.set_cons_succ]
  refine wpAnyH_take (i := 14) (oi := { dst := some 58, op := Go.Op.move (Go.Operand.tmp 5), type := 3, pos := "encode.go:74", after := #[{ on := 17, ground := Go.Ground.gcOnly Go.Departure.lateStores }], guard := none }) (v := ?v14_340101) rfl (by kernel_rfl) (by kernel_rfl) (by kernel_rfl) (fun _ _ _ h => h) (Or.inl ⟨by rfl, ?y14_340101⟩) hHeld ?r14_340101
  case y14_340101 => intro w hSw; (try dsimp only at hSw); have y0 := (hSw.2 0 _ rfl).1; go_simp; try with_reducible rfl
  try simp only [Act.put, List.setIfInBounds_toArray, List.set_cons_zero, List.set_cons_succ]
  refine wpAnyH_take (i := 15) (oi := { dst := some 59, op := Go.Op.convert 3 5 (Go.Operand.tmp 58), type := 5, pos := "encode.go:74", after := #[{ on := 14, ground := Go.Ground.data }, { on := 17, ground := Go.Ground.gcOnly Go.Departure.lateStores }], guard := none }) (v := ?v15_340101) rfl (by kernel_rfl) (by kernel_rfl) (by kernel_rfl) (fun _ _ _ h => h) (Or.inl ⟨by rfl, ?y15_340101⟩) hHeld ?r15_340101
  case y15_340101 => intro w hSw; (try dsimp only at hSw); have y0 := (hSw.2 0 _ rfl).1; go_simp; try with_reducible rfl
  try simp only [Act.put, List.setIfInBounds_toArray, List.set_cons_zero, List.set_cons_succ]
  refine wpAnyH_ready (rs := [1, 6]) (by kernel_rfl) (by simp) ?_
  refine AllReadyH.cons (o := { dst := some 45, op := Go.Op.nilCheck (Go.Operand.tmp 44), type := 0, pos := "encode.go:74", after := #[{ on := 0, ground := Go.Ground.data }], guard := none }) rfl (fun K hK => ?_) (AllReadyH.cons (o := { dst := some 50, op := Go.Op.nilCheck (Go.Operand.tmp 49), type := 0, pos := "encode.go:74", after := #[{ on := 5, ground := Go.Ground.data }], guard := none }) rfl (fun K hK => ?_) AllReadyH.nil)
  · go_simp
    refine hK.out _ _ (hHeld) (fun hHeld2 => ?_)
    clear hK K hHeld
    have hHeld := hHeld2
    clear hHeld2
    try simp only [Act.put, List.setIfInBounds_toArray, List.set_cons_zero, List.set_cons_succ]
    refine wpAnyH_take (i := 2) (oi := { dst := some 46, op := Go.Op.fieldAddr 85 (Go.Operand.tmp 45) 0, type := 0, pos := "encode.go:74", after := #[{ on := 1, ground := Go.Ground.data }], guard := none }) (v := ?v2_340102) rfl (by kernel_rfl) (by kernel_rfl) (by kernel_rfl) (fun _ _ _ h => h) (Or.inl ⟨by rfl, ?y2_340102⟩) hHeld ?r2_340102
    case y2_340102 => intro w hSw; (try dsimp only at hSw); have y0 := (hSw.2 0 _ rfl).1; go_simp; try with_reducible rfl
    try simp only [Act.put, List.setIfInBounds_toArray, List.set_cons_zero, List.set_cons_succ]
    refine wpAnyH_take (i := 3) (oi := { dst := some 47, op := Go.Op.load 22 (Go.Operand.tmp 46), type := 22, pos := "encode.go:74", after := #[{ on := 2, ground := Go.Ground.data }], guard := none }) (v := ?v3_340102) rfl (by kernel_rfl) (by kernel_rfl) (by kernel_rfl) (fun _ _ _ h => h) (Or.inl ⟨by rfl, ?y3_340102⟩) hHeld ?r3_340102
    case y3_340102 => intro w hSw; (try dsimp only at hSw); have y0 := (hSw.2 0 _ rfl).1; go_simp; try with_reducible rfl
    try simp only [Act.put, List.setIfInBounds_toArray, List.set_cons_zero, List.set_cons_succ]
    refine wpAnyH_ready (rs := [6]) (by kernel_rfl) (by simp) ?_
    refine AllReadyH.cons (o := { dst := some 50, op := Go.Op.nilCheck (Go.Operand.tmp 49), type := 0, pos := "encode.go:74", after := #[{ on := 5, ground := Go.Ground.data }], guard := none }) rfl (fun K hK => ?_) AllReadyH.nil
    go_simp
    refine hK.out _ _ (hHeld) (fun hHeld2 => ?_)
    clear hK K hHeld
    have hHeld := hHeld2
    clear hHeld2
    try simp only [Act.put, List.setIfInBounds_toArray, List.set_cons_zero, List.set_cons_succ]
    refine wpAnyH_take (i := 7) (oi := { dst := some 51, op := Go.Op.fieldAddr 85 (Go.Operand.tmp 50) 0, type := 0, pos := "encode.go:74", after := #[{ on := 6, ground := Go.Ground.data }], guard := none }) (v := ?v7_340103) rfl (by kernel_rfl) (by kernel_rfl) (by kernel_rfl) (fun _ _ _ h => h) (Or.inl ⟨by rfl, ?y7_340103⟩) hHeld ?r7_340103
    case y7_340103 => intro w hSw; (try dsimp only at hSw); have y0 := (hSw.2 0 _ rfl).1; go_simp; try with_reducible rfl
    try simp only [Act.put, List.setIfInBounds_toArray, List.set_cons_zero, List.set_cons_succ]
    refine wpAnyH_take (i := 8) (oi := { dst := some 52, op := Go.Op.load 22 (Go.Operand.tmp 51), type := 22, pos := "encode.go:74", after := #[{ on := 7, ground := Go.Ground.data }], guard := none }) (v := ?v8_340103) rfl (by kernel_rfl) (by kernel_rfl) (by kernel_rfl) (fun _ _ _ h => h) (Or.inl ⟨by rfl, ?y8_340103⟩) hHeld ?r8_340103
    case y8_340103 => intro w hSw; (try dsimp only at hSw); have y0 := (hSw.2 0 _ rfl).1; go_simp; try with_reducible rfl
    try simp only [Act.put, List.setIfInBounds_toArray, List.set_cons_zero, List.set_cons_succ]
    refine wpAnyH_take (i := 16) (oi := { dst := some 60, op := Go.Op.indexAddr 22 (Go.Operand.tmp 47) (Go.Operand.tmp 48), type := 0, pos := "encode.go:74", after := #[{ on := 3, ground := Go.Ground.data }, { on := 4, ground := Go.Ground.data }, { on := 0, ground := Go.Ground.phase }, { on := 1, ground := Go.Ground.phase }, { on := 2, ground := Go.Ground.phase }, { on := 3, ground := Go.Ground.phase }, { on := 4, ground := Go.Ground.phase }, { on := 5, ground := Go.Ground.textOnly Go.Departure.lateStores }, { on := 6, ground := Go.Ground.textOnly Go.Departure.lateStoresUnsure }, { on := 7, ground := Go.Ground.textOnly Go.Departure.lateStoresUnsure }, { on := 8, ground := Go.Ground.phase }, { on := 9, ground := Go.Ground.textOnly Go.Departure.lateStores }, { on := 10, ground := Go.Ground.textOnly Go.Departure.lateStores }, { on := 11, ground := Go.Ground.phase }, { on := 12, ground := Go.Ground.phase }, { on := 13, ground := Go.Ground.phase }, { on := 14, ground := Go.Ground.textOnly Go.Departure.lateStores }, { on := 15, ground := Go.Ground.textOnly Go.Departure.lateStores }], guard := none }) (v := ?v16_340103) rfl (by kernel_rfl) (by kernel_rfl) (by kernel_rfl) (fun _ _ _ h => h) (Or.inl ⟨by rfl, ?y16_340103⟩) hHeld ?r16_340103
    case y16_340103 => intro w hSw; (try dsimp only at hSw); have y0 := (hSw.2 0 _ rfl).1; go_simp; try with_reducible rfl
    try simp only [Act.put, List.setIfInBounds_toArray, List.set_cons_zero, List.set_cons_succ]
    refine wpAnyH_ready (rs := [17]) (by kernel_rfl) (by simp) ?_
    refine AllReadyH.cons (o := { dst := none, op := Go.Op.store 5 (Go.Operand.tmp 60) (Go.Operand.tmp 57), type := 0, pos := "encode.go:74", after := #[{ on := 16, ground := Go.Ground.data }, { on := 13, ground := Go.Ground.data }, { on := 0, ground := Go.Ground.phase }, { on := 1, ground := Go.Ground.phase }, { on := 2, ground := Go.Ground.phase }, { on := 3, ground := Go.Ground.phase }, { on := 4, ground := Go.Ground.phase }, { on := 5, ground := Go.Ground.textOnly Go.Departure.lateStores }, { on := 6, ground := Go.Ground.textOnly Go.Departure.lateStoresUnsure }, { on := 7, ground := Go.Ground.textOnly Go.Departure.lateStoresUnsure }, { on := 8, ground := Go.Ground.phase }, { on := 9, ground := Go.Ground.textOnly Go.Departure.lateStores }, { on := 10, ground := Go.Ground.textOnly Go.Departure.lateStores }, { on := 11, ground := Go.Ground.phase }, { on := 12, ground := Go.Ground.phase }, { on := 13, ground := Go.Ground.phase }, { on := 14, ground := Go.Ground.textOnly Go.Departure.lateStores }, { on := 15, ground := Go.Ground.textOnly Go.Departure.lateStores }], guard := none }) rfl (fun K hK => ?_) AllReadyH.nil
    obtain ⟨⟨p0, p1⟩, p2⟩ := own_at8 HO.out fr b0
    go_simp
    clear p1 p2
    refine hK.out _ _ ((show CN (w6.setCell ⟨gb, fr, none⟩ (.int .u8 (u0.toNat : Int))).drew q [(.slice (some ⟨gb, 0, none⟩) xl cap), .map (some mb)] from CN.far HC.out ⟨gb, fr, none⟩ HNE.out _)) (fun hHeld2 => ?_)
    clear hK K hHeld
    have hHeld := hHeld2
    clear hHeld2
    try simp only [Act.put, List.setIfInBounds_toArray, List.set_cons_zero, List.set_cons_succ]
    refine wpAnyH_take (i := 18) (oi := { dst := some 61, op := Go.Op.indexAddr 22 (Go.Operand.tmp 52) (Go.Operand.tmp 54), type := 0, pos := "encode.go:74", after := #[{ on := 8, ground := Go.Ground.data }, { on := 10, ground := Go.Ground.data }, { on := 0, ground := Go.Ground.phase }, { on := 1, ground := Go.Ground.phase }, { on := 2, ground := Go.Ground.phase }, { on := 3, ground := Go.Ground.phase }, { on := 4, ground := Go.Ground.phase }, { on := 5, ground := Go.Ground.phase }, { on := 6, ground := Go.Ground.phase }, { on := 7, ground := Go.Ground.phase }, { on := 8, ground := Go.Ground.phase }, { on := 9, ground := Go.Ground.phase }, { on := 10, ground := Go.Ground.phase }, { on := 11, ground := Go.Ground.phase }, { on := 12, ground := Go.Ground.phase }, { on := 13, ground := Go.Ground.phase }, { on := 14, ground := Go.Ground.phase }, { on := 15, ground := Go.Ground.phase }, { on := 16, ground := Go.Ground.phase }, { on := 17, ground := Go.Ground.phase }], guard := none }) (v := ?v18_340104) rfl (by kernel_rfl) (by kernel_rfl) (by kernel_rfl) (fun _ _ _ h => h) (Or.inl ⟨by rfl, ?y18_340104⟩) hHeld ?r18_340104
    case y18_340104 => intro w hSw; (try dsimp only at hSw); have y0 := (hSw.2 0 _ rfl).1; go_simp; try with_reducible rfl
    try simp only [Act.put, List.setIfInBounds_toArray, List.set_cons_zero, List.set_cons_succ]
    refine wpAnyH_ready (rs := [19]) (by kernel_rfl) (by simp) ?_
    refine AllReadyH.cons (o := { dst := none, op := Go.Op.store 5 (Go.Operand.tmp 61) (Go.Operand.tmp 59), type := 0, pos := "encode.go:74", after := #[{ on := 18, ground := Go.Ground.data }, { on := 15, ground := Go.Ground.data }, { on := 17, ground := Go.Ground.chain }, { on := 0, ground := Go.Ground.phase }, { on := 1, ground := Go.Ground.phase }, { on := 2, ground := Go.Ground.phase }, { on := 3, ground := Go.Ground.phase }, { on := 4, ground := Go.Ground.phase }, { on := 5, ground := Go.Ground.phase }, { on := 6, ground := Go.Ground.phase }, { on := 7, ground := Go.Ground.phase }, { on := 8, ground := Go.Ground.phase }, { on := 9, ground := Go.Ground.phase }, { on := 10, ground := Go.Ground.phase }, { on := 11, ground := Go.Ground.phase }, { on := 12, ground := Go.Ground.phase }, { on := 13, ground := Go.Ground.phase }, { on := 14, ground := Go.Ground.phase }, { on := 15, ground := Go.Ground.phase }, { on := 16, ground := Go.Ground.phase }, { on := 17, ground := Go.Ground.phase }], guard := none }) rfl (fun K hK => ?_) AllReadyH.nil
    have HOS := Lib.hid (show World.ownsRow (w6.setCell ⟨gb, fr, none⟩ (.int .u8 (u0.toNat : Int))) B 5 1 (.slice (some ⟨gb, 0, none⟩) xl cap) xl (bc (X4.set fr u0)) from by rw [← bc_set]; exact (World.ownsRow.stored HO.out fr _).1)
    obtain ⟨⟨p0, p1⟩, p2⟩ := own_at8 HOS.out k0 b1
    go_simp
    clear p1 p2
    refine hK.out _ _ ((show CN (((w6.setCell ⟨gb, fr, none⟩ (.int .u8 (u0.toNat : Int))).setCell ⟨gb, k0, none⟩ (.int .u8 (u1.toNat : Int))).drew) q [(.slice (some ⟨gb, 0, none⟩) xl cap), .map (some mb)] from CN.far (CN.far HC.out ⟨gb, fr, none⟩ HNE.out _) ⟨gb, k0, none⟩ HNE.out _)) (fun hHeld2 => ?_)
    clear hK K hHeld
    have hHeld := hHeld2
    clear hHeld2
    try simp only [Act.put, List.setIfInBounds_toArray, List.set_cons_zero, List.set_cons_succ]
    refine wpAnyH_done (by kernel_rfl) ?_ _
    have HG := Lib.hid (show World.grownBy w6 ((w6.setCell ⟨gb, fr, none⟩ (.int .u8 (u0.toNat : Int))).setCell ⟨gb, k0, none⟩ (.int .u8 (u1.toNat : Int))) (some gb) from (World.ownsRow.stored HO.out fr _).2.trans (World.ownsRow.stored (World.ownsRow.stored HO.out fr (.int .u8 (u0.toNat : Int))).1 k0 _).2)
    have HO9 := Lib.hid (show World.ownsRow ((w6.setCell ⟨gb, fr, none⟩ (.int .u8 (u0.toNat : Int))).setCell ⟨gb, k0, none⟩ (.int .u8 (u1.toNat : Int))).drew B 5 1 (.slice (some ⟨gb, 0, none⟩) xl cap) xl (bc ((X4.set fr u0).set k0 u1)) from by rw [← bc_set, ← bc_set]; exact (World.ownsRow.stored (World.ownsRow.stored HO.out fr (.int .u8 (u0.toNat : Int))).1 k0 _).1)
    have HT9 := Lib.hid (show TB ((w6.setCell ⟨gb, fr, none⟩ (.int .u8 (u0.toNat : Int))).setCell ⟨gb, k0, none⟩ (.int .u8 (u1.toNat : Int))).drew q 85 from HT.out.grown (grown_drew HG.out) (fun e => HNE.out (by injection e)))
    have HM9 := Lib.hid (show World.ownsMap ((w6.setCell ⟨gb, fr, none⟩ (.int .u8 (u0.toNat : Int))).setCell ⟨gb, k0, none⟩ (.int .u8 (u1.toNat : Int))).drew Try.prog 9 (plainElem Try.prog 3) mb _ _ from HP.out.kept (grown_drew HG.out) (fun e => map_apart HO.out HP.out e))
    have HB9 := Lib.hid ((HB.out.grown HG.out HLE.out (fun k hk => (HO.out.lt k hk).1)).drew)
    have HK9 := Lib.hid ((HK.out.trans (Kp.grown HO.out HG.out)).drew)
    go_wp2
    refine bodyPost_end (v := .tuple #[]) (by simp [results, Try.results39, go_sem]) rfl ⟨rfl, ?_⟩
    unfold WrN WrS
    rw [HRR.out]
    have hsl : setLen X4 fr = (X4.set fr u0).set k0 u1 := by unfold setLen; rw [show X4.length - fr - 2 = sz by have := HXL.out; have := HZ.out; omega, HU.out.1, HU.out.2, HK0.out]
    refine ⟨⟨(.slice (some ⟨gb, 0, none⟩) xl cap), D1, n1, hHeld, HT9.out, ?_, HM9.out, HPD.out, HF.out, ?_⟩, HB9.out, HK9.out⟩
    · show World.ownsRow _ B _ 1 _ (setLen X4 fr).length (bc (setLen X4 fr))
      rw [setLen_length, HXL.out, hsl]
      exact HO9.out
    · show n1 ≤ (setLen X4 fr).length
      rw [setLen_length]; exact HN1.out
  · go_simp
    refine hK.out _ _ (hHeld) (fun hHeld2 => ?_)
    clear hK K hHeld
    have hHeld := hHeld2
    clear hHeld2
    try simp only [Act.put, List.setIfInBounds_toArray, List.set_cons_zero, List.set_cons_succ]
    refine wpAnyH_take (i := 7) (oi := { dst := some 51, op := Go.Op.fieldAddr 85 (Go.Operand.tmp 50) 0, type := 0, pos := "encode.go:74", after := #[{ on := 6, ground := Go.Ground.data }], guard := none }) (v := ?v7_340106) rfl (by kernel_rfl) (by kernel_rfl) (by kernel_rfl) (fun _ _ _ h => h) (Or.inl ⟨by rfl, ?y7_340106⟩) hHeld ?r7_340106
    case y7_340106 => intro w hSw; (try dsimp only at hSw); have y0 := (hSw.2 0 _ rfl).1; go_simp; try with_reducible rfl
    try simp only [Act.put, List.setIfInBounds_toArray, List.set_cons_zero, List.set_cons_succ]
    refine wpAnyH_take (i := 8) (oi := { dst := some 52, op := Go.Op.load 22 (Go.Operand.tmp 51), type := 22, pos := "encode.go:74", after := #[{ on := 7, ground := Go.Ground.data }], guard := none }) (v := ?v8_340106) rfl (by kernel_rfl) (by kernel_rfl) (by kernel_rfl) (fun _ _ _ h => h) (Or.inl ⟨by rfl, ?y8_340106⟩) hHeld ?r8_340106
    case y8_340106 => intro w hSw; (try dsimp only at hSw); have y0 := (hSw.2 0 _ rfl).1; go_simp; try with_reducible rfl
    try simp only [Act.put, List.setIfInBounds_toArray, List.set_cons_zero, List.set_cons_succ]
    refine wpAnyH_ready (rs := [1]) (by kernel_rfl) (by simp) ?_
    refine AllReadyH.cons (o := { dst := some 45, op := Go.Op.nilCheck (Go.Operand.tmp 44), type := 0, pos := "encode.go:74", after := #[{ on := 0, ground := Go.Ground.data }], guard := none }) rfl (fun K hK => ?_) AllReadyH.nil
    go_simp
    refine hK.out _ _ (hHeld) (fun hHeld2 => ?_)
    clear hK K hHeld
    have hHeld := hHeld2
    clear hHeld2
    try simp only [Act.put, List.setIfInBounds_toArray, List.set_cons_zero, List.set_cons_succ]
    refine wpAnyH_take (i := 2) (oi := { dst := some 46, op := Go.Op.fieldAddr 85 (Go.Operand.tmp 45) 0, type := 0, pos := "encode.go:74", after := #[{ on := 1, ground := Go.Ground.data }], guard := none }) (v := ?v2_340107) rfl (by kernel_rfl) (by kernel_rfl) (by kernel_rfl) (fun _ _ _ h => h) (Or.inl ⟨by rfl, ?y2_340107⟩) hHeld ?r2_340107
    case y2_340107 => intro w hSw; (try dsimp only at hSw); have y0 := (hSw.2 0 _ rfl).1; go_simp; try with_reducible rfl
    try simp only [Act.put, List.setIfInBounds_toArray, List.set_cons_zero, List.set_cons_succ]
    refine wpAnyH_take (i := 3) (oi := { dst := some 47, op := Go.Op.load 22 (Go.Operand.tmp 46), type := 22, pos := "encode.go:74", after := #[{ on := 2, ground := Go.Ground.data }], guard := none }) (v := ?v3_340107) rfl (by kernel_rfl) (by kernel_rfl) (by kernel_rfl) (fun _ _ _ h => h) (Or.inl ⟨by rfl, ?y3_340107⟩) hHeld ?r3_340107
    case y3_340107 => intro w hSw; (try dsimp only at hSw); have y0 := (hSw.2 0 _ rfl).1; go_simp; try with_reducible rfl
    try simp only [Act.put, List.setIfInBounds_toArray, List.set_cons_zero, List.set_cons_succ]
    refine wpAnyH_take (i := 16) (oi := { dst := some 60, op := Go.Op.indexAddr 22 (Go.Operand.tmp 47) (Go.Operand.tmp 48), type := 0, pos := "encode.go:74", after := #[{ on := 3, ground := Go.Ground.data }, { on := 4, ground := Go.Ground.data }, { on := 0, ground := Go.Ground.phase }, { on := 1, ground := Go.Ground.phase }, { on := 2, ground := Go.Ground.phase }, { on := 3, ground := Go.Ground.phase }, { on := 4, ground := Go.Ground.phase }, { on := 5, ground := Go.Ground.textOnly Go.Departure.lateStores }, { on := 6, ground := Go.Ground.textOnly Go.Departure.lateStoresUnsure }, { on := 7, ground := Go.Ground.textOnly Go.Departure.lateStoresUnsure }, { on := 8, ground := Go.Ground.phase }, { on := 9, ground := Go.Ground.textOnly Go.Departure.lateStores }, { on := 10, ground := Go.Ground.textOnly Go.Departure.lateStores }, { on := 11, ground := Go.Ground.phase }, { on := 12, ground := Go.Ground.phase }, { on := 13, ground := Go.Ground.phase }, { on := 14, ground := Go.Ground.textOnly Go.Departure.lateStores }, { on := 15, ground := Go.Ground.textOnly Go.Departure.lateStores }], guard := none }) (v := ?v16_340107) rfl (by kernel_rfl) (by kernel_rfl) (by kernel_rfl) (fun _ _ _ h => h) (Or.inl ⟨by rfl, ?y16_340107⟩) hHeld ?r16_340107
    case y16_340107 => intro w hSw; (try dsimp only at hSw); have y0 := (hSw.2 0 _ rfl).1; go_simp; try with_reducible rfl
    try simp only [Act.put, List.setIfInBounds_toArray, List.set_cons_zero, List.set_cons_succ]
    refine wpAnyH_ready (rs := [17]) (by kernel_rfl) (by simp) ?_
    refine AllReadyH.cons (o := { dst := none, op := Go.Op.store 5 (Go.Operand.tmp 60) (Go.Operand.tmp 57), type := 0, pos := "encode.go:74", after := #[{ on := 16, ground := Go.Ground.data }, { on := 13, ground := Go.Ground.data }, { on := 0, ground := Go.Ground.phase }, { on := 1, ground := Go.Ground.phase }, { on := 2, ground := Go.Ground.phase }, { on := 3, ground := Go.Ground.phase }, { on := 4, ground := Go.Ground.phase }, { on := 5, ground := Go.Ground.textOnly Go.Departure.lateStores }, { on := 6, ground := Go.Ground.textOnly Go.Departure.lateStoresUnsure }, { on := 7, ground := Go.Ground.textOnly Go.Departure.lateStoresUnsure }, { on := 8, ground := Go.Ground.phase }, { on := 9, ground := Go.Ground.textOnly Go.Departure.lateStores }, { on := 10, ground := Go.Ground.textOnly Go.Departure.lateStores }, { on := 11, ground := Go.Ground.phase }, { on := 12, ground := Go.Ground.phase }, { on := 13, ground := Go.Ground.phase }, { on := 14, ground := Go.Ground.textOnly Go.Departure.lateStores }, { on := 15, ground := Go.Ground.textOnly Go.Departure.lateStores }], guard := none }) rfl (fun K hK => ?_) AllReadyH.nil
    obtain ⟨⟨p0, p1⟩, p2⟩ := own_at8 HO.out fr b0
    go_simp
    clear p1 p2
    refine hK.out _ _ ((show CN (w6.setCell ⟨gb, fr, none⟩ (.int .u8 (u0.toNat : Int))).drew q [(.slice (some ⟨gb, 0, none⟩) xl cap), .map (some mb)] from CN.far HC.out ⟨gb, fr, none⟩ HNE.out _)) (fun hHeld2 => ?_)
    clear hK K hHeld
    have hHeld := hHeld2
    clear hHeld2
    try simp only [Act.put, List.setIfInBounds_toArray, List.set_cons_zero, List.set_cons_succ]
    refine wpAnyH_take (i := 18) (oi := { dst := some 61, op := Go.Op.indexAddr 22 (Go.Operand.tmp 52) (Go.Operand.tmp 54), type := 0, pos := "encode.go:74", after := #[{ on := 8, ground := Go.Ground.data }, { on := 10, ground := Go.Ground.data }, { on := 0, ground := Go.Ground.phase }, { on := 1, ground := Go.Ground.phase }, { on := 2, ground := Go.Ground.phase }, { on := 3, ground := Go.Ground.phase }, { on := 4, ground := Go.Ground.phase }, { on := 5, ground := Go.Ground.phase }, { on := 6, ground := Go.Ground.phase }, { on := 7, ground := Go.Ground.phase }, { on := 8, ground := Go.Ground.phase }, { on := 9, ground := Go.Ground.phase }, { on := 10, ground := Go.Ground.phase }, { on := 11, ground := Go.Ground.phase }, { on := 12, ground := Go.Ground.phase }, { on := 13, ground := Go.Ground.phase }, { on := 14, ground := Go.Ground.phase }, { on := 15, ground := Go.Ground.phase }, { on := 16, ground := Go.Ground.phase }, { on := 17, ground := Go.Ground.phase }], guard := none }) (v := ?v18_340108) rfl (by kernel_rfl) (by kernel_rfl) (by kernel_rfl) (fun _ _ _ h => h) (Or.inl ⟨by rfl, ?y18_340108⟩) hHeld ?r18_340108
    case y18_340108 => intro w hSw; (try dsimp only at hSw); have y0 := (hSw.2 0 _ rfl).1; go_simp; try with_reducible rfl
    try simp only [Act.put, List.setIfInBounds_toArray, List.set_cons_zero, List.set_cons_succ]
    refine wpAnyH_ready (rs := [19]) (by kernel_rfl) (by simp) ?_
    refine AllReadyH.cons (o := { dst := none, op := Go.Op.store 5 (Go.Operand.tmp 61) (Go.Operand.tmp 59), type := 0, pos := "encode.go:74", after := #[{ on := 18, ground := Go.Ground.data }, { on := 15, ground := Go.Ground.data }, { on := 17, ground := Go.Ground.chain }, { on := 0, ground := Go.Ground.phase }, { on := 1, ground := Go.Ground.phase }, { on := 2, ground := Go.Ground.phase }, { on := 3, ground := Go.Ground.phase }, { on := 4, ground := Go.Ground.phase }, { on := 5, ground := Go.Ground.phase }, { on := 6, ground := Go.Ground.phase }, { on := 7, ground := Go.Ground.phase }, { on := 8, ground := Go.Ground.phase }, { on := 9, ground := Go.Ground.phase }, { on := 10, ground := Go.Ground.phase }, { on := 11, ground := Go.Ground.phase }, { on := 12, ground := Go.Ground.phase }, { on := 13, ground := Go.Ground.phase }, { on := 14, ground := Go.Ground.phase }, { on := 15, ground := Go.Ground.phase }, { on := 16, ground := Go.Ground.phase }, { on := 17, ground := Go.Ground.phase }], guard := none }) rfl (fun K hK => ?_) AllReadyH.nil
    have HOS := Lib.hid (show World.ownsRow (w6.setCell ⟨gb, fr, none⟩ (.int .u8 (u0.toNat : Int))) B 5 1 (.slice (some ⟨gb, 0, none⟩) xl cap) xl (bc (X4.set fr u0)) from by rw [← bc_set]; exact (World.ownsRow.stored HO.out fr _).1)
    obtain ⟨⟨p0, p1⟩, p2⟩ := own_at8 HOS.out k0 b1
    go_simp
    clear p1 p2
    refine hK.out _ _ ((show CN (((w6.setCell ⟨gb, fr, none⟩ (.int .u8 (u0.toNat : Int))).setCell ⟨gb, k0, none⟩ (.int .u8 (u1.toNat : Int))).drew) q [(.slice (some ⟨gb, 0, none⟩) xl cap), .map (some mb)] from CN.far (CN.far HC.out ⟨gb, fr, none⟩ HNE.out _) ⟨gb, k0, none⟩ HNE.out _)) (fun hHeld2 => ?_)
    clear hK K hHeld
    have hHeld := hHeld2
    clear hHeld2
    try simp only [Act.put, List.setIfInBounds_toArray, List.set_cons_zero, List.set_cons_succ]
    refine wpAnyH_done (by kernel_rfl) ?_ _
    have HG := Lib.hid (show World.grownBy w6 ((w6.setCell ⟨gb, fr, none⟩ (.int .u8 (u0.toNat : Int))).setCell ⟨gb, k0, none⟩ (.int .u8 (u1.toNat : Int))) (some gb) from (World.ownsRow.stored HO.out fr _).2.trans (World.ownsRow.stored (World.ownsRow.stored HO.out fr (.int .u8 (u0.toNat : Int))).1 k0 _).2)
    have HO9 := Lib.hid (show World.ownsRow ((w6.setCell ⟨gb, fr, none⟩ (.int .u8 (u0.toNat : Int))).setCell ⟨gb, k0, none⟩ (.int .u8 (u1.toNat : Int))).drew B 5 1 (.slice (some ⟨gb, 0, none⟩) xl cap) xl (bc ((X4.set fr u0).set k0 u1)) from by rw [← bc_set, ← bc_set]; exact (World.ownsRow.stored (World.ownsRow.stored HO.out fr (.int .u8 (u0.toNat : Int))).1 k0 _).1)
    have HT9 := Lib.hid (show TB ((w6.setCell ⟨gb, fr, none⟩ (.int .u8 (u0.toNat : Int))).setCell ⟨gb, k0, none⟩ (.int .u8 (u1.toNat : Int))).drew q 85 from HT.out.grown (grown_drew HG.out) (fun e => HNE.out (by injection e)))
    have HM9 := Lib.hid (show World.ownsMap ((w6.setCell ⟨gb, fr, none⟩ (.int .u8 (u0.toNat : Int))).setCell ⟨gb, k0, none⟩ (.int .u8 (u1.toNat : Int))).drew Try.prog 9 (plainElem Try.prog 3) mb _ _ from HP.out.kept (grown_drew HG.out) (fun e => map_apart HO.out HP.out e))
    have HB9 := Lib.hid ((HB.out.grown HG.out HLE.out (fun k hk => (HO.out.lt k hk).1)).drew)
    have HK9 := Lib.hid ((HK.out.trans (Kp.grown HO.out HG.out)).drew)
    go_wp2
    refine bodyPost_end (v := .tuple #[]) (by simp [results, Try.results39, go_sem]) rfl ⟨rfl, ?_⟩
    unfold WrN WrS
    rw [HRR.out]
    have hsl : setLen X4 fr = (X4.set fr u0).set k0 u1 := by unfold setLen; rw [show X4.length - fr - 2 = sz by have := HXL.out; have := HZ.out; omega, HU.out.1, HU.out.2, HK0.out]
    refine ⟨⟨(.slice (some ⟨gb, 0, none⟩) xl cap), D1, n1, hHeld, HT9.out, ?_, HM9.out, HPD.out, HF.out, ?_⟩, HB9.out, HK9.out⟩
    · show World.ownsRow _ B _ 1 _ (setLen X4 fr).length (bc (setLen X4 fr))
      rw [setLen_length, HXL.out, hsl]
      exact HO9.out
    · show n1 ≤ (setLen X4 fr).length
      rw [setLen_length]; exact HN1.out
end Go.Proofs.Ytgppkpdjpcegbaa
