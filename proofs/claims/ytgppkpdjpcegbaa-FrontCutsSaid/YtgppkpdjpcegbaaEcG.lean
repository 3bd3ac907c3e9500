/- Encode of any message. -/
import Derived.Test.YtgppkpdjpcegbaaEcQ
import Derived.Test.YtgppkpdjpcegbaaMaG
import Derived.Test.YtgppkpdjpcegbaaWrR
namespace Go.Proofs.Ytgppkpdjpcegbaa
open Go.RowKit

noncomputable def wR (a : List UInt8 × Pls) (r : R5) : List UInt8 × Pls := wRec a.2 a.1 r
noncomputable def encX0 (mi mo mr : Int) (b1 b2 b3 b4 b5 : Bool) (Q : List Ky) (A N X : List R5) : List UInt8 := joinL 2 [mi, flagV mo mr b1 b2 b3 b4 b5, (Q.length : Int), (A.length : Int), (N.length : Int), (X.length : Int)]
noncomputable def encXG (mi mo mr : Int) (b1 b2 b3 b4 b5 : Bool) (Q : List Ky) (A N X : List R5) : List UInt8 := ((A ++ (N ++ X)).foldl wR (Q.foldl wQ (encX0 mi mo mr b1 b2 b3 b4 b5 Q A N X, fun _ => none))).1
noncomputable def encEG (mi mo mr : Int) (b1 b2 b3 b4 b5 : Bool) (Q : List Ky) (A N X : List R5) (most : Int) : Int := if mayM mi mo mr Q A N X = true then (if most < ((encXG mi mo mr b1 b2 b3 b4 b5 Q A N X).length : Int) ∨ 16000 < (encXG mi mo mr b1 b2 b3 b4 b5 Q A N X).length then 3 else 0) else 4
noncomputable def encLG (mi mo mr : Int) (b1 b2 b3 b4 b5 : Bool) (Q : List Ky) (A N X : List R5) (most : Int) : List UInt8 := if encEG mi mo mr b1 b2 b3 b4 b5 Q A N X most = 0 then encXG mi mo mr b1 b2 b3 b4 b5 Q A N X else []
section
variable {mi mo mr most : Int} {b1 b2 b3 b4 b5 : Bool} {Q : List Ky} {A N X : List R5}
theorem encG_no (h : mayM mi mo mr Q A N X = false) : encEG mi mo mr b1 b2 b3 b4 b5 Q A N X most = 4 ∧ encLG mi mo mr b1 b2 b3 b4 b5 Q A N X most = [] := by
  have h1 : encEG mi mo mr b1 b2 b3 b4 b5 Q A N X most = 4 := by rw [encEG, h]; rfl
  exact ⟨h1, by rw [encLG, h1]; rfl⟩
theorem encG_long (h : mayM mi mo mr Q A N X = true) (h2 : most < ((encXG mi mo mr b1 b2 b3 b4 b5 Q A N X).length : Int) ∨ 16000 < (encXG mi mo mr b1 b2 b3 b4 b5 Q A N X).length) : encEG mi mo mr b1 b2 b3 b4 b5 Q A N X most = 3 ∧ encLG mi mo mr b1 b2 b3 b4 b5 Q A N X most = [] := by
  have h1 : encEG mi mo mr b1 b2 b3 b4 b5 Q A N X most = 3 := by rw [encEG, if_pos h, if_pos h2]
  exact ⟨h1, by rw [encLG, h1]; rfl⟩
theorem encG_yes (h : mayM mi mo mr Q A N X = true) (h2 : ¬ most < ((encXG mi mo mr b1 b2 b3 b4 b5 Q A N X).length : Int)) (h3 : ¬ 16000 < (encXG mi mo mr b1 b2 b3 b4 b5 Q A N X).length) : encEG mi mo mr b1 b2 b3 b4 b5 Q A N X most = 0 ∧ encLG mi mo mr b1 b2 b3 b4 b5 Q A N X most = encXG mi mo mr b1 b2 b3 b4 b5 Q A N X := by
  have h1 : encEG mi mo mr b1 b2 b3 b4 b5 Q A N X most = 0 := by rw [encEG, if_pos h, if_neg (by omega)]
  exact ⟨h1, by rw [encLG, h1]; rfl⟩
theorem mayM_parts (h : mayM mi mo mr Q A N X = true) : headM mi mo mr = true ∧ Q.length + A.length + N.length + X.length ≤ 300 ∧ Q.all mayK = true ∧ X.all mayX = true ∧ A.all mayRr = true ∧ N.all mayRr = true := by
  simpa [mayM, and_assoc] using h
end
/-- What a record must be to be written. -/
def RecOk (r : R5) : Prop := mayN r.k.n = true ∧ r.d.size ≤ 1000 ∧ (mayD r.k.t r.d = true ∨ r.k.t = 41) ∧ (r.k.t = 15 → 2 ≤ r.d.size)
theorem rec_ok {r : R5} (h : mayRr r = true) : RecOk r := by
  have h1 : mayR r.k.n r.k.t r.k.c r.ttl r.d = true := h
  simp only [mayR, Bool.and_eq_true] at h1
  obtain ⟨_, h2, _, _, h5⟩ := h1
  refine ⟨h2, ?_, Or.inl h5, fun e => ?_⟩
  · simp only [mayD, Bool.and_eq_true, decide_eq_true_eq] at h5
    exact h5.1.2
  · rw [e] at h5
    have := (mayD_15 h5).1
    omega
theorem rec_okX {r : R5} (h : mayX r = true) : RecOk r := by
  unfold mayX at h
  cases h1 : mayRr r
  · rw [h1, Bool.false_or] at h
    simp only [mayO, Bool.and_eq_true, decide_eq_true_eq] at h
    obtain ⟨h2, h3, _, _, h6⟩ := h
    refine ⟨?_, h6, Or.inr h2, fun e => by omega⟩
    have e : r.k.n = ⟨#[0]⟩ := by
      apply ba_eq
      have h7 := eq_of_beq h3
      rw [ByteArray.toList_eq] at h7
      exact h7
    rw [e]; exact may_root
  · exact rec_ok h1
theorem recs_ok {A N X : List R5} (ha : A.all mayRr = true) (hn : N.all mayRr = true) (hx : X.all mayX = true) : ∀ r ∈ A ++ (N ++ X), RecOk r := by
  intro r hr
  simp only [List.mem_append] at hr
  rcases hr with h | h | h
  · exact rec_ok (List.all_eq_true.1 ha _ h)
  · exact rec_ok (List.all_eq_true.1 hn _ h)
  · exact rec_okX (List.all_eq_true.1 hx _ h)
theorem wRec_le (f : Pls) (X : List UInt8) {r : R5} (h : RecOk r) : (wRec f X r).1.length ≤ X.length + 2000 := by
  have h1 := wNm_le (labs r.k.n) f X
  have h2 := (labs_spec h.1).2.1
  have h3 := joinL_le 2 [r.k.t, r.k.c]
  have h4 := joinL_le 4 [r.ttl]
  have h5 := wDat_le (wNm f X (labs r.k.n)).2 (rec2 f X r ++ joinL 2 [0]) h.2.1 h.2.2.1 h.2.2.2
  have h6 : (rec2 f X r ++ joinL 2 [0]).length ≤ X.length + 300 := by
    rw [List.length_append, zeros2]
    unfold rec2
    rw [List.length_append, List.length_append]
    simp only [List.length_cons, List.length_nil] at h3 h4 ⊢
    omega
  show (setLen (rec4 f X r).1 (rec2 f X r).length).length ≤ _
  rw [setLen_length]
  have h7 : (rec4 f X r).1.length ≤ (rec2 f X r ++ joinL 2 [0]).length + 1600 := h5
  omega
theorem foldR_le : ∀ (l : List R5) (a : List UInt8 × Pls), (∀ r ∈ l, RecOk r) → (l.foldl wR a).1.length ≤ a.1.length + 2000 * l.length
  | [], a, _ => by simp
  | r :: l, a, h => by
    have h1 := foldR_le l (wR a r) (fun x hx => h x (List.mem_cons_of_mem _ hx))
    have h2 : (wR a r).1.length ≤ a.1.length + 2000 := wRec_le a.2 a.1 (h r List.mem_cons_self)
    simp only [List.foldl_cons, List.length_cons]
    omega
theorem own_kp {w w' : World} {B n size : Nat} {e : TypeId} {v : Value} {xs : List Value} (h : w.ownsRow B e size v n xs) (hk : Kp w w') (h1 : e ≠ 85) (h2 : e ≠ 5) : w'.ownsRow B e size v n xs := by
  refine ⟨h.1, ?_⟩
  rcases h.2 with hn | ⟨g, cap, cur, e1, e2, hg, rest⟩
  · exact Or.inl hn
  · exact Or.inr ⟨g, cap, cur, e1, e2, (hk g cur e hg h1 h2).trans hg, rest⟩

set_option maxRecDepth 100000 in
set_option maxHeartbeats 8000000 in
theorem encode_any (mi mo mr : Int) (b1 b2 b3 b4 b5 : Bool) (most : Int) (qa na sa xa : Option Addr) (ql qc nl nc sl sc xl xc : Nat) (Q : List Ky) (A N X : List R5) (w : World) (hq : RowQ w qa ql Q) (ha : RowR w na nl A) (han : na = none → nl = 0 ∧ nc = 0) (hn : RowR w sa sl N) (hnn : sa = none → sl = 0 ∧ sc = 0) (hx : RowR w xa xl X) (hxn : xa = none → xl = 0 ∧ xc = 0) (hl : ql ≤ 100000 ∧ nl ≤ 30000 ∧ sl ≤ 30000 ∧ xl ≤ 30000) (hz : ∀ r ∈ Q, r.n.size ≤ 1000000) (hza : SzN A) (hzn : SzN N) (hzx : SzN X) :
    Calls Try.prog 16 #[.agg #[.int .i64 mi, .int .i64 mo, .int .i64 mr, .bool b1, .bool b2, .bool b3, .bool b4, .bool b5, .slice qa ql qc, .slice na nl nc, .slice sa sl sc, .slice xa xl xc], .int .i64 most] w fun e w' => ∃ v, e = .returned (.tuple #[v, .int .i64 (encEG mi mo mr b1 b2 b3 b4 b5 Q A N X most)]) ∧ w'.ownsRow w.heap.size 5 1 v (encLG mi mo mr b1 b2 b3 b4 b5 Q A N X most).length (bc (encLG mi mo mr b1 b2 b3 b4 b5 Q A N X most)) ∧ Below w.heap.size w w' := by
  have hb1 := (Below.refl w.heap.size w).alloc (Nat.le_refl _) (.cells #[.int .i64 mi, .int .i64 mo, .int .i64 mr, .bool b1, .bool b2, .bool b3, .bool b4, .bool b5, .slice qa ql qc, .slice na nl nc, .slice sa sl sc, .slice xa xl xc] 37)
  have HC := Lib.hid (CN.new w #[.int .i64 mi, .int .i64 mo, .int .i64 mr, .bool b1, .bool b2, .bool b3, .bool b4, .bool b5, .slice qa ql qc, .slice na nl nc, .slice sa sl sc, .slice xa xl xc] 37)
  have HQ := Lib.hid (hq.below hb1)
  have HB := Lib.hid hb1
  have HRA := Lib.hid (ha.below hb1)
  have HRN := Lib.hid (hn.below hb1)
  have HRX := Lib.hid (hx.below hb1)
  have HNO := Lib.hid (show (na = none → nl = 0 ∧ nc = 0) ∧ (sa = none → sl = 0 ∧ sc = 0) ∧ (xa = none → xl = 0 ∧ xc = 0) from ⟨han, hnn, hxn⟩)
  have HLL := Lib.hid hl
  have HZ := Lib.hid hz
  have HZA := Lib.hid (show SzN A ∧ SzN N ∧ SzN X from ⟨hza, hzn, hzx⟩)
  have HQL := Lib.hid (show Q.length = ql ∧ A.length = nl ∧ N.length = sl ∧ X.length = xl from ⟨hq.1, ha.1, hn.1, hx.1⟩)
  clear hb1 hq ha han hn hnn hx hxn hl hz hza hzn hzx
  have hmm := @run_makeMap Try.prog
  go_enter Try.func16, Try.ntmps16
  go_wp2_with fail
  refine (may_any5 mi mo mr b1 b2 b3 b4 b5 qa na sa xa ql qc nl nc sl sc xl xc Q A N X _ HQ.out HRA.out HRN.out HRX.out (by have := HLL.out; omega) HZ.out HZA.out.1 HZA.out.2.1 HZA.out.2.2).mono ?_; rintro e w2 ⟨rfl, hb⟩
  obtain ⟨q, hq⟩ : ∃ x, w.heap.size = x := ⟨_, rfl⟩
  rw [hq] at HC
  rw [show (Value.pointer (some { block := w.heap.size, off := 0 })) = Value.pointer (some { block := q, off := 0 }) by rw [hq]]
  replace HC := Lib.hid (HC.out.below hb)
  replace HQ := Lib.hid (HQ.out.below hb)
  replace HRA := Lib.hid (HRA.out.below hb)
  replace HRN := Lib.hid (HRN.out.below hb)
  replace HRX := Lib.hid (HRX.out.below hb)
  replace HB := Lib.hid (HB.out.trans (hb.mono HB.out.size))
  clear hb hq
  cases hmay : mayM mi mo mr Q A N X
  · have HE := Lib.hid (encG_no (b1 := b1) (b2 := b2) (b3 := b3) (b4 := b4) (b5 := b5) (most := most) hmay)
    clear hmay
    go_wp2
    go_ret2
    refine ⟨.slice none 0 0, ret_vi5 (v := .slice none 0 0) HE.out.1.symm, by rw [HE.out.2]; exact World.ownsRow_nil _ _ _ _, HB.out⟩
  have HMAY := Lib.hid hmay
  obtain ⟨p1, p2, p3, p4, p5, p6⟩ := mayM_parts hmay
  have HRO := Lib.hid (recs_ok p5 p6 p4)
  have HQK := Lib.hid p3
  have HCT := Lib.hid (show ql + nl + sl + xl ≤ 300 by have := HQL.out; omega)
  have HOF := Lib.hid (show okF mo mr = true by simp only [headM, Bool.and_eq_true] at p1; rw [okF, p1.2.1, p1.2.2]; rfl)
  clear hmay p1 p2 p3 p4 p5 p6
  go_upto_region 4 with (fail)
  have hb3 := ((Below.refl _ _ : Below w2.heap.size w2 w2).alloc (Nat.le_refl _) (.map #[] 0)).alloc (by simp) (.cells #[.slice none 0 0, .map (some w2.heap.size)] 85)
  have c6 := CN.new (w2.alloc (.map #[] 0)) #[.slice none 0 0, .map (some w2.heap.size)] 85
  have t6 := TB.new (w2.alloc (.map #[] 0)) #[.slice none 0 0, .map (some w2.heap.size)] 85
  have m6 := (World.ownsMap_made w2 Try.prog 9 (plainElem (H := Unit) Try.prog 3)).alloc (.cells #[.slice none 0 0, .map (some w2.heap.size)] 85)
  rw [World.size_alloc] at c6 t6
  obtain ⟨w3, hw3⟩ : ∃ x, (w2.alloc (.map #[] 0)).alloc (.cells #[.slice none 0 0, .map (some w2.heap.size)] 85) = x := ⟨_, rfl⟩
  obtain ⟨mb, hmb⟩ : ∃ x, w2.heap.size = x := ⟨_, rfl⟩
  obtain ⟨q6, hq6⟩ : ∃ x, mb + 1 = x := ⟨_, rfl⟩
  rw [hw3] at hb3 c6 t6 m6 ⊢
  rw [hmb] at c6 t6 m6 hb3 ⊢
  rw [hq6] at c6 t6 ⊢
  have HW := Lib.hid hb3
  have HS := Lib.hid (show WrS w3 mb q6 mb (fun _ => none) [] from ⟨_, _, _, c6, t6, ⟨rfl, Or.inl ⟨rfl, rfl⟩⟩, m6, PlsD.nil, (fun _ _ h => by cases h), Nat.le_refl _⟩)
  have HQ6 := Lib.hid (show mb ≤ q6 ∧ q6 ≠ mb by omega)
  have HMB := Lib.hid hmb
  clear hb3 c6 t6 m6 hw3 hq6 hmm hmb
  obtain ⟨y0, y1, y2, y3, y4, y5, y6, y7, y8, y9, y10, y11, -⟩ := (HC.out.below (by rw [HMB.out]; exact HW.out)).u12
  go_wp2_with fail
  refine (flags_any _ _ _ _ _ _ _ _ _).mono ?_; rintro e w4 ⟨rfl, hb⟩
  rw [if_pos HOF.out, if_pos HOF.out]
  obtain ⟨fl, hfl⟩ : ∃ x, flagV mo mr b1 b2 b3 b4 b5 = x := ⟨_, rfl⟩
  rw [hfl]
  have HFL := Lib.hid hfl
  clear hfl
  clear y0 y1 y2 y3 y4 y5 y6 y7 y8 y9 y10 y11
  have HLE := Lib.hid (show mb ≤ w3.heap.size by have := HW.out.size; have := HMB.out; omega)
  replace HS := Lib.hid (HS.out.below hb)
  replace HW := Lib.hid (HW.out.trans (hb.mono HLE.out))
  replace HLE := Lib.hid (Nat.le_trans HLE.out hb.size)
  clear hb
  obtain ⟨y0, y1, y2, y3, y4, y5, y6, y7, y8, y9, y10, y11, -⟩ := (HC.out.below (by rw [HMB.out]; exact HW.out)).u12
  have hba := (Below.refl _ _ : Below w4.heap.size w4 w4).alloc (Nat.le_refl _) (.cells #[.int .i64 mi, .int .i64 fl, .int .i64 (ql : Int), .int .i64 (nl : Int), .int .i64 (sl : Int), .int .i64 (xl : Int)] 3)
  have HR := Lib.hid (rowI_lit w4 [mi, fl, (ql : Int), (nl : Int), (sl : Int), (xl : Int)] 3)
  replace HS := Lib.hid (HS.out.below hba)
  replace HW := Lib.hid (HW.out.trans (hba.mono HLE.out))
  replace HLE := Lib.hid (Nat.le_trans HLE.out hba.size)
  obtain ⟨w5, hw5⟩ : ∃ x, w4.alloc (.cells #[.int .i64 mi, .int .i64 fl, .int .i64 (ql : Int), .int .i64 (nl : Int), .int .i64 (sl : Int), .int .i64 (xl : Int)] 3) = x := ⟨_, rfl⟩
  obtain ⟨g5, hg5⟩ : ∃ x, w4.heap.size = x := ⟨_, rfl⟩
  have HR' := HR.out
  simp only [List.map_cons, List.map_nil, List.length_cons, List.length_nil] at HR'
  rw [hw5, hg5] at HR'
  rw [hw5] at HS HW HLE
  replace HR := Lib.hid HR'
  have HW5 := Lib.hid hw5
  have HG5 := Lib.hid hg5
  clear HR' hba hw5 hg5
  go_wp2_with fail
  rw [HW5.out, HG5.out]
  clear HW5 HG5 y0 y1 y2 y3 y4 y5 y6 y7 y8 y9 y10 y11
  refine (numS q6 mb mb 2 (some ⟨g5, 0, none⟩) 6 6 [mi, fl, (ql : Int), (nl : Int), (sl : Int), (xl : Int)] _ [] w5 HR.out (by decide) HS.out HQ6.out.1 HQ6.out.2 (by have := joinL_two [mi, fl, (ql : Int), (nl : Int), (sl : Int), (xl : Int)]; simp only [List.length_cons, List.length_nil] at this ⊢; omega)).mono ?_; rintro e w6 ⟨rfl, hs6, hb6, -⟩
  rw [List.nil_append] at hs6
  replace HW := Lib.hid (HW.out.trans hb6)
  replace HLE := Lib.hid (Nat.le_trans HLE.out hb6.size)
  obtain ⟨X0, hX0⟩ : ∃ x, joinL 2 [mi, fl, (ql : Int), (nl : Int), (sl : Int), (xl : Int)] = x := ⟨_, rfl⟩
  rw [hX0] at hs6
  have HX0L := Lib.hid (show X0.length ≤ 12 by have := joinL_two [mi, fl, (ql : Int), (nl : Int), (sl : Int), (xl : Int)]; rw [hX0] at this; exact this)
  have HEX := Lib.hid (show encXG mi mo mr b1 b2 b3 b4 b5 Q A N X = ((A ++ (N ++ X)).foldl wR (Q.foldl wQ (X0, fun _ => none))).1 by unfold encXG encX0; rw [← hX0, HFL.out, HQL.out.1, HQL.out.2.1, HQL.out.2.2.1, HQL.out.2.2.2])
  have HS6 := Lib.hid hs6
  clear HS HR hs6 hb6 hX0
  obtain ⟨y0, y1, y2, y3, y4, y5, y6, y7, y8, y9, y10, y11, -⟩ := (HC.out.below (by rw [HMB.out]; exact HW.out)).u12
  go_wp2_with fail
  clear y0 y1 y2 y3 y4 y5 y6 y7 y8 y9 y10 y11
  have hql : ql ≤ 300 := by have := HCT.out; omega
  go_loopw [45] (fun i wr => ∃ (k : Nat), i = .int .i64 k ∧ k ≤ ql ∧ Hid (WrS wr mb q6 mb ((Q.take k).foldl wQ (X0, fun _ => none)).2 ((Q.take k).foldl wQ (X0, fun _ => none)).1) ∧ Hid (((Q.take k).foldl wQ (X0, fun _ => none)).1.length ≤ 12 + 270 * k) ∧ Hid (Below mb w2 wr) ∧ Hid (mb ≤ wr.heap.size)) (fun i _ => ql - (intOf i).toNat)
  case atStart => exact ⟨0, rfl, by omega, HS6, by simpa using HX0L, HW, HLE⟩
  case round =>
    obtain ⟨k, rfl, hk, HS, HXL, HW, HLE⟩ := hrel
    by_cases hlt : k < ql
    · obtain ⟨b, o, r, rfl, hbl, hr, c0, c1, c2⟩ := (HQ.out.below (by rw [HMB.out]; exact HW.out)).at k hlt
      obtain ⟨n, t, c⟩ := r
      have hmk : mayN n = true := by
        have h := List.all_eq_true.1 HQK.out _ (List.mem_of_getElem? hr)
        simp only [mayK, Bool.and_eq_true] at h
        exact h.1
      obtain ⟨l1, l2, l3⟩ := labs_spec hmk
      have HNX := Lib.hid (show (Q.take (k + 1)).foldl wQ (X0, fun _ => none) = wQ ((Q.take k).foldl wQ (X0, fun _ => none)) ⟨n, t, c⟩ by
        rw [List.take_add_one, hr]; simp)
      obtain ⟨L, hL⟩ : ∃ L, labs n = L := ⟨_, rfl⟩
      rw [hL] at l1 l2 l3
      have HLB := Lib.hid hL
      have HOK := Lib.hid (show OkL L ∧ off L L.length ≤ 254 from ⟨l1, l2⟩)
      replace c0 : wr.cell? ⟨b, o + k * 3, none⟩ = some (.string n) := c0
      replace c1 : wr.cell? ⟨b, o + k * 3 + 1, none⟩ = some (.int .i64 t) := c1
      replace c2 : wr.cell? ⟨b, o + k * 3 + 2, none⟩ = some (.int .i64 c) := c2
      have HN := Lib.hid l3
      obtain ⟨⟨X, f⟩, hXf⟩ : ∃ a, (Q.take k).foldl wQ (X0, fun _ => none) = a := ⟨_, rfl⟩
      rw [hXf] at HS HXL HNX
      replace HS : Hid (WrS wr mb q6 mb f X) := HS
      replace HXL : Hid (X.length ≤ 12 + 270 * k) := HXL
      have HNX2 := Lib.hid (show (Q.take (k + 1)).foldl wQ (X0, fun _ => none) = ((wNm f X L).1 ++ joinL 2 [t, c], (wNm f X L).2) by rw [HNX.out, ← HLB.out]; rfl)
      have HXN := Lib.hid (wNm_le L f X)
      have hba := (Below.refl _ _ : Below wr.heap.size wr wr).alloc (Nat.le_refl _) (.cells #[.string n, .int .i64 t, .int .i64 c] 27)
      have HE := Lib.hid (CN.new wr #[.string n, .int .i64 t, .int .i64 c] 27)
      have HT7 := Lib.hid (TB.new wr #[.string n, .int .i64 t, .int .i64 c] 27)
      replace HS := Lib.hid (HS.out.below hba)
      replace HW := Lib.hid (HW.out.trans (hba.mono HLE.out))
      replace HLE := Lib.hid (Nat.le_trans HLE.out hba.size)
      obtain ⟨w7, hw7⟩ : ∃ x, wr.alloc (.cells #[.string n, .int .i64 t, .int .i64 c] 27) = x := ⟨_, rfl⟩
      obtain ⟨g7, hg7⟩ : ∃ x, wr.heap.size = x := ⟨_, rfl⟩
      rw [hw7] at HS HW HE HT7 HLE
      rw [hg7] at HE HT7
      have HW7 := Lib.hid hw7
      have HG7 := Lib.hid hg7
      clear hr hba hbl hw7 hg7 hL hXf HNX hmk l1 l2 l3
      go_upto_region 9 with (fail)
      rw [HW7.out, HG7.out]
      clear HW7 HG7 c0 c1 c2
      have c0 := (HE.out.2 0 _ rfl).1
      go_wp2_with fail
      rw [HN.out]
      refine (name_any q6 mb mb L X f w7 HOK.out.1 HOK.out.2 HS.out HQ6.out.1 (Nat.le_refl _) HQ6.out.2 (by have := HXL.out; omega)).mono ?_; rintro e w8 ⟨rfl, hs8, hb8, hk8⟩
      have he8 : w8.heap[g7]? = w7.heap[g7]? := hk8.tb HT7.out (by decide) (by decide)
      have HE8 := Lib.hid (show w8.cell? ⟨g7, 1, none⟩ = some (.int .i64 t) ∧ w8.cell? ⟨g7, 2, none⟩ = some (.int .i64 c) from ⟨(World.cell?_of_block (a := ⟨g7, 1, none⟩) he8).trans (HE.out.2 1 _ rfl).1, (World.cell?_of_block (a := ⟨g7, 2, none⟩) he8).trans (HE.out.2 2 _ rfl).1⟩)
      replace HW := Lib.hid (HW.out.trans hb8)
      replace HLE := Lib.hid (Nat.le_trans HLE.out hb8.size)
      replace HS := Lib.hid hs8
      clear hs8 hb8 hk8 c0 he8 HE HT7
      have hba := (Below.refl _ _ : Below w8.heap.size w8 w8).alloc (Nat.le_refl _) (.cells #[.int .i64 t, .int .i64 c] 3)
      have HR := (rowI_lit w8 [t, c] 3)
      simp only [List.map_cons, List.map_nil, List.length_cons, List.length_nil] at HR
      replace HS := Lib.hid (HS.out.below hba)
      replace HW := Lib.hid (HW.out.trans (hba.mono HLE.out))
      replace HLE := Lib.hid (Nat.le_trans HLE.out hba.size)
      obtain ⟨w9, hw9⟩ : ∃ x, w8.alloc (.cells #[.int .i64 t, .int .i64 c] 3) = x := ⟨_, rfl⟩
      obtain ⟨g9, hg9⟩ : ∃ x, w8.heap.size = x := ⟨_, rfl⟩
      rw [hw9, hg9] at HR
      rw [hw9] at HS HW HLE
      replace HR := Lib.hid HR
      have HW9 := Lib.hid hw9
      have HG9 := Lib.hid hg9
      obtain ⟨c1, c2⟩ := HE8.out
      clear hba hw9 hg9
      go_wp2_with fail
      rw [HW9.out, HG9.out]
      clear HW9 HG9 c1 c2
      have HJ := Lib.hid (joinL_two [t, c])
      refine (numS q6 mb mb 2 (some ⟨g9, 0, none⟩) 2 2 [t, c] _ _ w9 HR.out (by decide) HS.out HQ6.out.1 HQ6.out.2 (by have := HXL.out; have := HXN.out; have := HOK.out.2; have := HJ.out; simp only [List.length_cons, List.length_nil] at this; omega)).mono ?_; rintro e w10 ⟨rfl, hs10, hb10, -⟩
      replace HW := Lib.hid (HW.out.trans hb10)
      replace HLE := Lib.hid (Nat.le_trans HLE.out hb10.size)
      have HS2 := Lib.hid (show WrS w10 mb q6 mb ((Q.take (k + 1)).foldl wQ (X0, fun _ => none)).2 ((Q.take (k + 1)).foldl wQ (X0, fun _ => none)).1 by rw [HNX2.out]; exact hs10)
      have HXL2 := Lib.hid (show ((Q.take (k + 1)).foldl wQ (X0, fun _ => none)).1.length ≤ 12 + 270 * (k + 1) by
        rw [HNX2.out]
        show ((wNm f X L).1 ++ joinL 2 [t, c]).length ≤ _
        rw [List.length_append]
        have := HXL.out; have := HXN.out; have := HOK.out.2; have := HJ.out; simp only [List.length_cons, List.length_nil] at this; omega)
      clear hs10 hb10 HR HS HXL HNX2
      go_wp2
      go_roundw
      case rel => exact ⟨k + 1, by go_num, by omega, HS2, HXL2, HW, HLE⟩
      case measure => simp [intOf]; omega
    · obtain rfl : k = ql := by omega
      have htk : Q.take k = Q := by rw [← HQL.out.1]; exact List.take_length
      rw [htk] at HS HXL
      obtain ⟨⟨X1, f1⟩, hXf⟩ : ∃ a, Q.foldl wQ (X0, fun _ => none) = a := ⟨_, rfl⟩
      rw [hXf] at HS HXL HEX
      replace HS : Hid (WrS wr mb q6 mb f1 X1) := HS
      replace HXL : Hid (X1.length ≤ 12 + 270 * k) := HXL
      clear hlt hk htk hXf
      have hbw : Below w2.heap.size w2 wr := by rw [HMB.out]; exact HW.out
      have HRA2 := Lib.hid (HRA.out.below hbw)
      have HRN2 := Lib.hid (HRN.out.below hbw)
      have HRX2 := Lib.hid (HRX.out.below hbw)
      obtain ⟨y0, y1, y2, y3, y4, y5, y6, y7, y8, y9, y10, y11, -⟩ := (HC.out.below hbw).u12
      clear hbw
      go_wp2_with fail
      refine (all_ex mi mo mr b1 b2 b3 b4 b5 _ _ _ _ _ _ nl nc sl sc xl xc A N X wr HRA2.out HNO.out.1 HRN2.out HNO.out.2.1 HRX2.out HNO.out.2.2 (by have := HLL.out; omega)).mono ?_; rintro e w9 ⟨v9, rfl, ho, hb⟩
      clear y0 y1 y2 y3 y4 y5 y6 y7 y8 y9 y10 y11
      obtain ⟨L, hL⟩ : ∃ x, A ++ (N ++ X) = x := ⟨_, rfl⟩
      obtain ⟨nn, hnn⟩ : ∃ x, nl + sl + xl = x := ⟨_, rfl⟩
      rw [hL, hnn] at ho
      rw [hL] at HEX HRO
      have HNN := Lib.hid (show nn ≤ 300 by have := HCT.out; omega)
      have HLN := Lib.hid (show L.length = nn by have := HQL.out; rw [← hL, ← hnn]; simp only [List.length_append]; omega)
      obtain ⟨a9, c9, rfl, -⟩ := rowR_own ho
      have HO9 := Lib.hid ho
      replace HS := Lib.hid (HS.out.below hb)
      replace HW := Lib.hid (HW.out.trans (hb.mono HLE.out))
      replace HLE := Lib.hid (Nat.le_trans HLE.out hb.size)
      obtain ⟨b9, hb9⟩ : ∃ x, wr.heap.size = x := ⟨_, rfl⟩
      rw [hb9] at HO9
      clear ho hb hL hnn HRA2 HRN2 HRX2 hb9
      go_wp2_with fail
      have hnn9 := HNN.out
      go_loopw [62] (fun i wx => ∃ j : Nat, i = .int .i64 j ∧ j ≤ nn ∧ Hid (WrS wx mb q6 mb ((L.take j).foldl wR (X1, f1)).2 ((L.take j).foldl wR (X1, f1)).1) ∧ Hid (Below mb w2 wx) ∧ Hid (mb ≤ wx.heap.size) ∧ Hid (wx.ownsRow b9 77 5 (.slice a9 nn c9) nn (flatR L))) (fun i _ => nn - (intOf i).toNat)
      case atStart => exact ⟨0, rfl, by omega, HS, HW, HLE, HO9⟩
      case round =>
        clear HS HW HLE HO9
        obtain ⟨j, rfl, hj, HS, HW, HLE, HO9⟩ := hrel
        by_cases hlt : j < nn
        · obtain ⟨b, o, r, rfl, hbl, hr, c0, c1, c2, c3, c4⟩ := (rowR_own2 HO9.out).1.at j hlt
          have hro := HRO.out r (List.mem_of_getElem? hr)
          have HLB := Lib.hid (foldR_le (L.take j) (X1, f1) (fun x hx => HRO.out x (List.mem_of_mem_take hx)))
          have HNX := Lib.hid (show (L.take (j + 1)).foldl wR (X1, f1) = wR ((L.take j).foldl wR (X1, f1)) r by
            rw [List.take_add_one, hr]; simp)
          obtain ⟨⟨rn, rt, rc⟩, ru, rd⟩ := r
          have HRK := Lib.hid hro
          replace c0 : wr.cell? ⟨b, o + j * 5, none⟩ = some (.string rn) := c0
          replace c1 : wr.cell? ⟨b, o + j * 5 + 1, none⟩ = some (.int .i64 rt) := c1
          replace c2 : wr.cell? ⟨b, o + j * 5 + 2, none⟩ = some (.int .i64 rc) := c2
          replace c3 : wr.cell? ⟨b, o + j * 5 + 3, none⟩ = some (.int .i64 ru) := c3
          replace c4 : wr.cell? ⟨b, o + j * 5 + 4, none⟩ = some (.string rd) := c4
          have hba := (Below.refl _ _ : Below wr.heap.size wr wr).alloc (Nat.le_refl _) (.cells #[.string rn, .int .i64 rt, .int .i64 rc, .int .i64 ru, .string rd] 77)
          replace HS := Lib.hid (HS.out.below hba)
          replace HW := Lib.hid (HW.out.trans (hba.mono HLE.out))
          replace HLE := Lib.hid (Nat.le_trans HLE.out hba.size)
          replace HO9 := Lib.hid (own_below' HO9.out hba)
          have HLJ := Lib.hid (show ((L.take j).foldl wR (X1, f1)).1.length ≤ 681012 by
            have h1 := HLB.out; have h2 := HXL.out; have h3 := HNN.out
            have h4 : (L.take j).length ≤ 300 := by rw [List.length_take, HLN.out]; omega
            have h5 : ((X1, f1) : List UInt8 × Pls).1.length = X1.length := rfl
            rw [h5] at h1
            have h6 := HCT.out
            omega)
          clear hr hbl hro hba HLB
          go_wp2_with fail
          clear c0 c1 c2 c3 c4
          refine (record_any q6 mb mb rn rt rc ru rd _ _ _ HRK.out.1 HRK.out.2.1 HRK.out.2.2.1 HRK.out.2.2.2 HS.out HQ6.out.1 (Nat.le_refl _) HQ6.out.2 (by have := HLJ.out; omega)).mono ?_; rintro e w10 ⟨rfl, hs10, hb10, hk10⟩
          replace HW := Lib.hid (HW.out.trans hb10)
          replace HLE := Lib.hid (Nat.le_trans HLE.out hb10.size)
          replace HO9 := Lib.hid (own_kp HO9.out hk10 (by decide) (by decide))
          have HS2 := Lib.hid (show WrS w10 mb q6 mb ((L.take (j + 1)).foldl wR (X1, f1)).2 ((L.take (j + 1)).foldl wR (X1, f1)).1 by rw [HNX.out]; exact hs10)
          clear hs10 hb10 hk10 HS HNX
          go_wp2
          go_roundw
          case rel => exact ⟨j + 1, by go_num, by omega, HS2, HW, HLE, HO9⟩
          case measure => simp [intOf]; omega
        · obtain rfl : j = nn := by omega
          have htk : L.take j = L := by rw [← HLN.out]; exact List.take_length
          rw [htk, ← HEX.out] at HS
          obtain ⟨bv, D, m, hc, ht, ho, -⟩ := HS.out
          obtain ⟨zl, hzl⟩ : ∃ x, (encXG mi mo mr b1 b2 b3 b4 b5 Q A N X).length = x := ⟨_, rfl⟩
          rw [hzl] at ho
          obtain ⟨va, vc, rfl, -⟩ := cellsK_own ho
          have HO := Lib.hid ho
          have HXV := Lib.hid hzl
          have HBZ := Lib.hid (HB.out.trans (HW.out.mono (by have := HB.out.size; have := HMB.out; omega)))
          have HSZ := Lib.hid (show w.heap.size ≤ mb by have := HB.out.size; have := HMB.out; omega)
          obtain ⟨z0, z1⟩ : wr.cell? ⟨q6, 0, none⟩ = some (.slice va zl vc) ∧ wr.cell? ⟨q6, 1, none⟩ = some (.map (some mb)) := ⟨(hc.2 0 _ rfl).1, (hc.2 1 _ rfl).1⟩
          clear hc ht ho hzl htk hlt hj
          by_cases hc1 : most < (zl : Int)
          · have d1 := dT hc1
            have HE := Lib.hid (encG_long (b1 := b1) (b2 := b2) (b3 := b3) (b4 := b4) (b5 := b5) (most := most) HMAY.out (Or.inl (by rw [HXV.out]; exact hc1)))
            clear hc1
            go_wp2
            go_ret2
            refine ⟨.slice none 0 0, ret_vi5 (v := .slice none 0 0) HE.out.1.symm, by rw [HE.out.2]; exact World.ownsRow_nil _ _ _ _, HBZ.out⟩
          have d1 := dF hc1
          by_cases hc2 : 16000 < zl
          · have d2 := dT (p := (16000 : Int) < (zl : Int)) (by omega)
            have HE := Lib.hid (encG_long (b1 := b1) (b2 := b2) (b3 := b3) (b4 := b4) (b5 := b5) (most := most) HMAY.out (Or.inr (by rw [HXV.out]; exact hc2)))
            clear hc1 hc2
            go_wp2
            go_ret2
            refine ⟨.slice none 0 0, ret_vi5 (v := .slice none 0 0) HE.out.1.symm, by rw [HE.out.2]; exact World.ownsRow_nil _ _ _ _, HBZ.out⟩
          have d2 := dF (p := (16000 : Int) < (zl : Int)) (by omega)
          have HE := Lib.hid (encG_yes (b1 := b1) (b2 := b2) (b3 := b3) (b4 := b4) (b5 := b5) (most := most) HMAY.out (by rw [HXV.out]; exact hc1) (by rw [HXV.out]; exact hc2))
          clear hc1 hc2
          go_wp2
          go_ret2
          refine ⟨.slice va zl vc, ret_vi5 (v := .slice va zl vc) HE.out.1.symm, by rw [HE.out.2, HXV.out]; exact own_mono4 HO.out HSZ.out, HBZ.out⟩
end Go.Proofs.Ytgppkpdjpcegbaa
