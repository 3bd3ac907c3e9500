/- Read: what a client asks. -/
import Derived.Test.YtgppkpdjpcegbaaFtC
namespace Go.Proofs.Ytgppkpdjpcegbaa
open Go.RowKit

theorem header_is (a : Option Addr) (n cp : Nat) (l : List UInt8) (w : World) (hr : RowB w a n l) (hn : a = none → n = 0 ∧ cp = 0) (hb : n ≤ 20000) (hc : n ≤ cp) (h0 h1 h2 : Int) (b1 b2 b3 b4 b5 k : Bool) (he : hdO (bs l) = (⟨h0, h1, h2, b1, b2, b3, b4, b5⟩, k)) : Calls Try.prog 21 #[.slice a n cp] w fun e w' => e = .returned (.tuple #[.agg #[.int .i64 h0, .int .i64 h1, .int .i64 h2, .bool b1, .bool b2, .bool b3, .bool b4, .bool b5], .bool k]) ∧ Below w.heap.size w w' := by
  have h := header_any a n cp l w hr hn hb hc
  rw [he] at h
  exact h
theorem MsgAt.lens {w : World} {mi mo mr : Int} {b1 b2 b3 b4 b5 : Bool} {Q : List Ky} {A N X : List R5} {qa na sa xa : Option Addr} {lq qc nl nc sl sc xl xc : Nat} (h : MsgAt w (.agg #[.int .i64 mi, .int .i64 mo, .int .i64 mr, .bool b1, .bool b2, .bool b3, .bool b4, .bool b5, .slice qa lq qc, .slice na nl nc, .slice sa sl sc, .slice xa xl xc]) ⟨mi, mo, mr, b1, b2, b3, b4, b5, Q, A, N, X⟩) : (Q.length = lq ∧ A.length = nl ∧ N.length = sl ∧ X.length = xl) ∧ RowQ w qa lq Q ∧ (qa = none → lq = 0 ∧ qc = 0) := by
  obtain ⟨qa', qc', na', nc', sa', sc', xa', xc', e, h1, _⟩ := h
  simp at e
  obtain ⟨⟨e1, e2, e3⟩, ⟨e4, e5, e6⟩, ⟨e7, e8, e9⟩, e10, e11, e12⟩ := e
  subst e1 e2 e3
  exact ⟨⟨rfl, e5.symm, e8.symm, e11.symm⟩, h1⟩
/-- What Read tells. -/
def RdQ (w : World) (x : List UInt8 ⊕ ClP) (e : Ending) (w' : World) : Prop := (∃ v, e = .returned (.tuple #[clV (rdC x), v, .bool (rdK x)]) ∧ w'.ownsRow w.heap.size 5 1 v (rdL x).length (bc (rdL x))) ∧ Below w.heap.size w w'
theorem rowQ_one (w : World) (n : ByteArray) (t c : Int) : RowQ (w.alloc (.cells #[.string n, .int .i64 t, .int .i64 c] 27)) (some ⟨w.heap.size, 0, none⟩) 1 [⟨n, t, c⟩] := ⟨rfl, cells_lit w _ _⟩
theorem putE_w {rc : Int} (h : rc = 0 ∨ rc = 1) : putE (optW rc) = 0 := by
  rcases h with rfl | rfl <;> rfl
theorem withE_w {rc : Int} (h : rc = 0 ∨ rc = 1) : withE [optW rc] = 0 := by
  rw [withE, if_pos (putE_w h), withE]
theorem withP_w {rc : Int} (m : MsgP) (h : rc = 0 ∨ rc = 1) : withP m [optW rc] = { m with x := keepR optB m.x ++ [putR (optW rc)] } := by
  rw [withP, if_pos (withE_w h)]; rfl
theorem mok_with {m : MsgP} (h : Mok m) (rc : Int) (hrc : rc = 0 ∨ rc = 1 := by decide) (hx : m.x = [] := by rfl) : Mok (withP m [optW rc]) := by
  rw [withP_w m hrc, hx]
  obtain ⟨⟨h1, h2, h3, h4⟩, h5, h6, h7, h8⟩ := h
  refine ⟨⟨h1, h2, h3, ?_⟩, h5, h6, h7, ?_⟩
  · exact (show (1 : Nat) ≤ 30000 by decide)
  · show SzN (keepR optB [] ++ [putR (optW rc)])
    intro r hr
    rw [show keepR optB [] = [] from rfl, List.nil_append, List.mem_singleton] at hr
    rw [hr, putR_ok (putE_w hrc)]
    exact ⟨by show (ByteArray.mk #[0]).size ≤ _; decide, by show (ByteArray.mk #[]).size ≤ _; decide⟩
set_option maxRecDepth 100000 in
set_option maxHeartbeats 32000000 in
theorem read_any (fr : ByteArray) (tcp : Bool) (a : Option Addr) (n cp : Nat) (l : List UInt8) (w : World) (hr : RowB w a n l) (hn : a = none → n = 0 ∧ cp = 0) (hb : n ≤ 20000) (hc : n ≤ cp) : Calls Try.prog 9 #[.string fr, .bool tcp, .slice a n cp] w fun e w' => RdQ w (readO fr tcp (bs l)) e w' := by
  have HRB := Lib.hid hr
  have HN := Lib.hid hn
  have HSZ := Lib.hid (show (bs l).size = n by rw [bs_size]; exact hr.len)
  have HNB := Lib.hid hb
  have HNC := Lib.hid hc
  have HB := Lib.hid (Below.refl w.heap.size w)
  clear hr hn hb hc
  by_cases g1 : n < 12
  · have HV := Lib.hid (readO_short (fr := fr) (tcp := tcp) (s := bs l) (by rw [HSZ.out]; exact g1))
    have HHD := Lib.hid (show hdO (bs l) = (⟨0, 0, 0, false, false, false, false, false⟩, false) from if_pos (by rw [HSZ.out]; exact g1))
    clear g1
    go_enter Try.func9, Try.ntmps9
    have hba := (Below.refl _ _ : Below w.heap.size w w).alloc (Nat.le_refl _) (.cells #[.string ⟨#[]⟩, .int .i64 0, .int .i64 0, .string ⟨#[]⟩, .int .i64 0, .int .i64 0, .bool false, .bool false, .bool false] 29)
    have HC := Lib.hid (CN.new w #[.string ⟨#[]⟩, .int .i64 0, .int .i64 0, .string ⟨#[]⟩, .int .i64 0, .int .i64 0, .bool false, .bool false, .bool false] 29)
    replace HRB := Lib.hid (HRB.out.below hba)
    replace HB := Lib.hid (HB.out.trans (hba.mono HB.out.size))
    obtain ⟨w2, hw⟩ : ∃ x, w.alloc (.cells #[.string ⟨#[]⟩, .int .i64 0, .int .i64 0, .string ⟨#[]⟩, .int .i64 0, .int .i64 0, .bool false, .bool false, .bool false] 29) = x := ⟨_, rfl⟩
    obtain ⟨q2, hq⟩ : ∃ x, w.heap.size = x := ⟨_, rfl⟩
    rw [hw, hq] at HC
    rw [hw] at HRB HB
    have HW := Lib.hid hw
    have HQ_ := Lib.hid hq
    have HQZ := Lib.hid (show w.heap.size ≤ q2 from by rw [← hq]; exact Nat.le_refl _)
    clear hba hw hq
    go_upto_region 1 with (fail)
    rw [HW.out, HQ_.out]
    clear HW HQ_
    go_wp2_with fail
    refine (header_is a n cp l _ HRB.out HN.out HNB.out HNC.out 0 0 0 false false false false false false HHD.out).mono ?_; rintro e w3 ⟨rfl, hb⟩
    replace HRB := Lib.hid (HRB.out.below hb)
    replace HB := Lib.hid (HB.out.trans (hb.mono HB.out.size))
    replace HC := Lib.hid (HC.out.below hb)
    clear hb
    have hba := (Below.refl _ _ : Below w3.heap.size w3 w3).alloc (Nat.le_refl _) (.cells #[.int .i64 0, .int .i64 0, .int .i64 0, .bool false, .bool false, .bool false, .bool false, .bool false] 33)
    have H9 := Lib.hid (CN.new w3 #[.int .i64 0, .int .i64 0, .int .i64 0, .bool false, .bool false, .bool false, .bool false, .bool false] 33)
    replace HRB := Lib.hid (HRB.out.below hba)
    replace HB := Lib.hid (HB.out.trans (hba.mono HB.out.size))
    replace HC := Lib.hid (HC.out.below hba)
    obtain ⟨w4, hw⟩ : ∃ x, w3.alloc (.cells #[.int .i64 0, .int .i64 0, .int .i64 0, .bool false, .bool false, .bool false, .bool false, .bool false] 33) = x := ⟨_, rfl⟩
    obtain ⟨q4, hq⟩ : ∃ x, w3.heap.size = x := ⟨_, rfl⟩
    rw [hw, hq] at H9
    rw [hw] at HRB HB HC
    have HW := Lib.hid hw
    have HQ_ := Lib.hid hq
    clear hba hw hq
    go_upto_region 2 with (fail)
    rw [HW.out, HQ_.out]
    clear HW HQ_
    obtain ⟨y0, y1, y2, y3, y4, y5, y6, y7, y8, g0, g1, g2, g3, g4, g5, g6, g7, g8⟩ := HC.out.v9
    have KZ := Lib.hid (HC.out.t9 (.string ⟨#[]⟩) (.int .i64 0) (.int .i64 0) (.string ⟨#[]⟩) (.int .i64 0) (.int .i64 0) (.bool false) (.bool false) (.bool false))
    have HGZ := Lib.hid (grown_t9 w4 q2 (.string ⟨#[]⟩) (.int .i64 0) (.int .i64 0) (.string ⟨#[]⟩) (.int .i64 0) (.int .i64 0) (.bool false) (.bool false) (.bool false))
    have HBZ := Lib.hid (HB.out.grown HGZ.out HB.out.size (fun k hk => by injection hk with hk; rw [← hk]; exact HQZ.out))
    go_wp2
    obtain ⟨wz, hwz⟩ : ∃ x, (((((((((w4.setCell ⟨q2, 0, none⟩ (.string ⟨#[]⟩)).setCell ⟨q2, 1, none⟩ (.int .i64 0)).setCell ⟨q2, 2, none⟩ (.int .i64 0)).setCell ⟨q2, 3, none⟩ (.string ⟨#[]⟩)).setCell ⟨q2, 4, none⟩ (.int .i64 0)).setCell ⟨q2, 5, none⟩ (.int .i64 0)).setCell ⟨q2, 6, none⟩ (.bool false)).setCell ⟨q2, 7, none⟩ (.bool false)).setCell ⟨q2, 8, none⟩ (.bool false)) = x := ⟨_, rfl⟩
    rw [hwz] at KZ HBZ ⊢
    clear hwz HGZ y0 y1 y2 y3 y4 y5 y6 y7 y8 g0 g1 g2 g3 g4 g5 g6 g7 g8
    obtain ⟨z0, z1, z2, z3, z4, z5, z6, z7, z8, _⟩ := KZ.out.v9
    refine bodyPost_ret (v := .tuple #[.agg #[.string ⟨#[]⟩, .int .i64 0, .int .i64 0, .string ⟨#[]⟩, .int .i64 0, .int .i64 0, .bool false, .bool false, .bool false], .slice none 0 0, .bool false]) (by simp [results, Try.results9, go_sem, z0, z1, z2, z3, z4, z5, z6, z7, z8]) rfl (by show RdQ w (readO fr tcp (bs l)) _ _; rw [HV.out]; exact ⟨⟨_, rfl, World.ownsRow_nil _ _ _ _⟩, HBZ.out⟩)
  have HL12 := Lib.hid (show ¬ (bs l).size < 12 by rw [HSZ.out]; exact g1)
  have HHD := Lib.hid (show hdO (bs l) = (hdH (bs l), true) from if_neg HL12.out)
  obtain ⟨⟨h0, h1, h2, b1, b2, b3, b4, b5⟩, hh⟩ : ∃ x, hdH (bs l) = x := ⟨_, rfl⟩
  have HH := Lib.hid hh
  rw [hh] at HHD
  clear hh g1
  cases hb1 : b1
  rotate_left
  · subst hb1
    have HV := Lib.hid (readO_qr (fr := fr) (tcp := tcp) HL12.out (by rw [HH.out]))
    go_enter Try.func9, Try.ntmps9
    have hba := (Below.refl _ _ : Below w.heap.size w w).alloc (Nat.le_refl _) (.cells #[.string ⟨#[]⟩, .int .i64 0, .int .i64 0, .string ⟨#[]⟩, .int .i64 0, .int .i64 0, .bool false, .bool false, .bool false] 29)
    have HC := Lib.hid (CN.new w #[.string ⟨#[]⟩, .int .i64 0, .int .i64 0, .string ⟨#[]⟩, .int .i64 0, .int .i64 0, .bool false, .bool false, .bool false] 29)
    replace HRB := Lib.hid (HRB.out.below hba)
    replace HB := Lib.hid (HB.out.trans (hba.mono HB.out.size))
    obtain ⟨w2, hw⟩ : ∃ x, w.alloc (.cells #[.string ⟨#[]⟩, .int .i64 0, .int .i64 0, .string ⟨#[]⟩, .int .i64 0, .int .i64 0, .bool false, .bool false, .bool false] 29) = x := ⟨_, rfl⟩
    obtain ⟨q2, hq⟩ : ∃ x, w.heap.size = x := ⟨_, rfl⟩
    rw [hw, hq] at HC
    rw [hw] at HRB HB
    have HW := Lib.hid hw
    have HQ_ := Lib.hid hq
    have HQZ := Lib.hid (show w.heap.size ≤ q2 from by rw [← hq]; exact Nat.le_refl _)
    clear hba hw hq
    go_upto_region 1 with (fail)
    rw [HW.out, HQ_.out]
    clear HW HQ_
    go_wp2_with fail
    refine (header_is a n cp l _ HRB.out HN.out HNB.out HNC.out h0 h1 h2 true b2 b3 b4 b5 true HHD.out).mono ?_; rintro e w3 ⟨rfl, hb⟩
    replace HRB := Lib.hid (HRB.out.below hb)
    replace HB := Lib.hid (HB.out.trans (hb.mono HB.out.size))
    replace HC := Lib.hid (HC.out.below hb)
    clear hb
    have hba := (Below.refl _ _ : Below w3.heap.size w3 w3).alloc (Nat.le_refl _) (.cells #[.int .i64 h0, .int .i64 h1, .int .i64 h2, .bool true, .bool b2, .bool b3, .bool b4, .bool b5] 33)
    have H9 := Lib.hid (CN.new w3 #[.int .i64 h0, .int .i64 h1, .int .i64 h2, .bool true, .bool b2, .bool b3, .bool b4, .bool b5] 33)
    replace HRB := Lib.hid (HRB.out.below hba)
    replace HB := Lib.hid (HB.out.trans (hba.mono HB.out.size))
    replace HC := Lib.hid (HC.out.below hba)
    obtain ⟨w4, hw⟩ : ∃ x, w3.alloc (.cells #[.int .i64 h0, .int .i64 h1, .int .i64 h2, .bool true, .bool b2, .bool b3, .bool b4, .bool b5] 33) = x := ⟨_, rfl⟩
    obtain ⟨q4, hq⟩ : ∃ x, w3.heap.size = x := ⟨_, rfl⟩
    rw [hw, hq] at H9
    rw [hw] at HRB HB HC
    have HW := Lib.hid hw
    have HQ_ := Lib.hid hq
    clear hba hw hq
    go_upto_region 2 with (fail)
    rw [HW.out, HQ_.out]
    clear HW HQ_
    obtain ⟨x0, x1, x2, x3, x4, x5, x6, x7, _⟩ := H9.out.v8
    obtain ⟨y0, y1, y2, y3, y4, y5, y6, y7, y8, g0, g1, g2, g3, g4, g5, g6, g7, g8⟩ := HC.out.v9
    have KZ := Lib.hid (HC.out.t9 (.string ⟨#[]⟩) (.int .i64 0) (.int .i64 0) (.string ⟨#[]⟩) (.int .i64 0) (.int .i64 0) (.bool false) (.bool false) (.bool false))
    have HGZ := Lib.hid (grown_t9 w4 q2 (.string ⟨#[]⟩) (.int .i64 0) (.int .i64 0) (.string ⟨#[]⟩) (.int .i64 0) (.int .i64 0) (.bool false) (.bool false) (.bool false))
    have HBZ := Lib.hid (HB.out.grown HGZ.out HB.out.size (fun k hk => by injection hk with hk; rw [← hk]; exact HQZ.out))
    go_wp2
    obtain ⟨wz, hwz⟩ : ∃ x, (((((((((w4.setCell ⟨q2, 0, none⟩ (.string ⟨#[]⟩)).setCell ⟨q2, 1, none⟩ (.int .i64 0)).setCell ⟨q2, 2, none⟩ (.int .i64 0)).setCell ⟨q2, 3, none⟩ (.string ⟨#[]⟩)).setCell ⟨q2, 4, none⟩ (.int .i64 0)).setCell ⟨q2, 5, none⟩ (.int .i64 0)).setCell ⟨q2, 6, none⟩ (.bool false)).setCell ⟨q2, 7, none⟩ (.bool false)).setCell ⟨q2, 8, none⟩ (.bool false)) = x := ⟨_, rfl⟩
    rw [hwz] at KZ HBZ ⊢
    clear hwz HGZ y0 y1 y2 y3 y4 y5 y6 y7 y8 g0 g1 g2 g3 g4 g5 g6 g7 g8
    obtain ⟨z0, z1, z2, z3, z4, z5, z6, z7, z8, _⟩ := KZ.out.v9
    refine bodyPost_ret (v := .tuple #[.agg #[.string ⟨#[]⟩, .int .i64 0, .int .i64 0, .string ⟨#[]⟩, .int .i64 0, .int .i64 0, .bool false, .bool false, .bool false], .slice none 0 0, .bool false]) (by simp [results, Try.results9, go_sem, z0, z1, z2, z3, z4, z5, z6, z7, z8]) rfl (by show RdQ w (readO fr tcp (bs l)) _ _; rw [HV.out]; exact ⟨⟨_, rfl, World.ownsRow_nil _ _ _ _⟩, HBZ.out⟩)
  subst hb1
  cases hd : decP (bs l)
  case none =>
    have HV := Lib.hid (readO_no (fr := fr) (tcp := tcp) HL12.out (by rw [HH.out]) hd)
    rw [HH.out] at HV
    have HD := Lib.hid hd
    clear hd
    go_enter Try.func9, Try.ntmps9
    have hba := (Below.refl _ _ : Below w.heap.size w w).alloc (Nat.le_refl _) (.cells #[.string ⟨#[]⟩, .int .i64 0, .int .i64 0, .string ⟨#[]⟩, .int .i64 0, .int .i64 0, .bool false, .bool false, .bool false] 29)
    have HC := Lib.hid (CN.new w #[.string ⟨#[]⟩, .int .i64 0, .int .i64 0, .string ⟨#[]⟩, .int .i64 0, .int .i64 0, .bool false, .bool false, .bool false] 29)
    replace HRB := Lib.hid (HRB.out.below hba)
    replace HB := Lib.hid (HB.out.trans (hba.mono HB.out.size))
    obtain ⟨w2, hw⟩ : ∃ x, w.alloc (.cells #[.string ⟨#[]⟩, .int .i64 0, .int .i64 0, .string ⟨#[]⟩, .int .i64 0, .int .i64 0, .bool false, .bool false, .bool false] 29) = x := ⟨_, rfl⟩
    obtain ⟨q2, hq⟩ : ∃ x, w.heap.size = x := ⟨_, rfl⟩
    rw [hw, hq] at HC
    rw [hw] at HRB HB
    have HW := Lib.hid hw
    have HQ_ := Lib.hid hq
    have HQZ := Lib.hid (show w.heap.size ≤ q2 from by rw [← hq]; exact Nat.le_refl _)
    clear hba hw hq
    go_upto_region 1 with (fail)
    rw [HW.out, HQ_.out]
    clear HW HQ_
    go_wp2_with fail
    refine (header_is a n cp l _ HRB.out HN.out HNB.out HNC.out h0 h1 h2 false b2 b3 b4 b5 true HHD.out).mono ?_; rintro e w3 ⟨rfl, hb⟩
    replace HRB := Lib.hid (HRB.out.below hb)
    replace HB := Lib.hid (HB.out.trans (hb.mono HB.out.size))
    replace HC := Lib.hid (HC.out.below hb)
    clear hb
    have hba := (Below.refl _ _ : Below w3.heap.size w3 w3).alloc (Nat.le_refl _) (.cells #[.int .i64 h0, .int .i64 h1, .int .i64 h2, .bool false, .bool b2, .bool b3, .bool b4, .bool b5] 33)
    have H9 := Lib.hid (CN.new w3 #[.int .i64 h0, .int .i64 h1, .int .i64 h2, .bool false, .bool b2, .bool b3, .bool b4, .bool b5] 33)
    replace HRB := Lib.hid (HRB.out.below hba)
    replace HB := Lib.hid (HB.out.trans (hba.mono HB.out.size))
    replace HC := Lib.hid (HC.out.below hba)
    obtain ⟨w4, hw⟩ : ∃ x, w3.alloc (.cells #[.int .i64 h0, .int .i64 h1, .int .i64 h2, .bool false, .bool b2, .bool b3, .bool b4, .bool b5] 33) = x := ⟨_, rfl⟩
    obtain ⟨q4, hq⟩ : ∃ x, w3.heap.size = x := ⟨_, rfl⟩
    rw [hw, hq] at H9
    rw [hw] at HRB HB HC
    have HW := Lib.hid hw
    have HQ_ := Lib.hid hq
    clear hba hw hq
    go_upto_region 2 with (fail)
    rw [HW.out, HQ_.out]
    clear HW HQ_
    obtain ⟨x0, x1, x2, x3, x4, x5, x6, x7, _⟩ := H9.out.v8
    go_wp2_with fail
    refine (decode_no l a n cp _ HRB.out HN.out HNB.out HD.out).mono ?_; rintro e w5 ⟨er, rfl, he, hb⟩
    replace HRB := Lib.hid (HRB.out.below hb)
    replace HB := Lib.hid (HB.out.trans (hb.mono HB.out.size))
    replace HC := Lib.hid (HC.out.below hb)
    replace H9 := Lib.hid (H9.out.below hb)
    clear hb
    clear x0 x1 x2 x3 x4 x5 x6 x7
    have e1 := nT he
    clear he
    have hba := (Below.refl _ _ : Below w5.heap.size w5 w5).alloc (Nat.le_refl _) (.cells #[.int .i64 0, .int .i64 0, .int .i64 0, .bool false, .bool false, .bool false, .bool false, .bool false, .slice none 0 0, .slice none 0 0, .slice none 0 0, .slice none 0 0] 37)
    have H11 := Lib.hid (CN.new w5 #[.int .i64 0, .int .i64 0, .int .i64 0, .bool false, .bool false, .bool false, .bool false, .bool false, .slice none 0 0, .slice none 0 0, .slice none 0 0, .slice none 0 0] 37)
    replace HRB := Lib.hid (HRB.out.below hba)
    replace HB := Lib.hid (HB.out.trans (hba.mono HB.out.size))
    replace HC := Lib.hid (HC.out.below hba)
    replace H9 := Lib.hid (H9.out.below hba)
    obtain ⟨w6, hw⟩ : ∃ x, w5.alloc (.cells #[.int .i64 0, .int .i64 0, .int .i64 0, .bool false, .bool false, .bool false, .bool false, .bool false, .slice none 0 0, .slice none 0 0, .slice none 0 0, .slice none 0 0] 37) = x := ⟨_, rfl⟩
    obtain ⟨q6, hq⟩ : ∃ x, w5.heap.size = x := ⟨_, rfl⟩
    rw [hw, hq] at H11
    rw [hw] at HRB HB HC H9
    have HW := Lib.hid hw
    have HQ_ := Lib.hid hq
    clear hba hw hq
    go_upto_region 5 with (fail)
    rw [HW.out, HQ_.out]
    clear HW HQ_
    obtain ⟨x0, x1, x2, x3, x4, x5, x6, x7, _⟩ := H9.out.v8
    have HSW := Lib.hid (show q2 < w6.heap.size from HC.out.1)
    have HSB := Lib.hid HB.out.size
    go_wp2_with fail
    refine (ffail_any h0 h1 1 b4 none 0 0 [] _ (⟨rfl, rfl, Or.inl rfl⟩) (fun _ => ⟨rfl, rfl⟩) (by decide) (fun r hr => by cases hr)).mono ?_; rintro e w7 ⟨u, rfl, ho, hb⟩
    replace HRB := Lib.hid (HRB.out.below hb)
    replace HB := Lib.hid (HB.out.trans (hb.mono HB.out.size))
    replace HC := Lib.hid (HC.out.below hb)
    replace H9 := Lib.hid (H9.out.below hb)
    replace H11 := Lib.hid (H11.out.below hb)
    clear hb
    obtain ⟨nu, hnu⟩ : ∃ x, (failL h0 h1 1 b4 []).length = x := ⟨_, rfl⟩
    rw [hnu] at ho
    obtain ⟨au, cu, rfl, -⟩ := cellsK_own ho
    have HO := Lib.hid ho
    have HNU := Lib.hid hnu
    clear ho hnu
    obtain ⟨y0, y1, y2, y3, y4, y5, y6, y7, y8, g0, g1, g2, g3, g4, g5, g6, g7, g8⟩ := HC.out.v9
    have KZ := Lib.hid (HC.out.t9 (.string ⟨#[]⟩) (.int .i64 0) (.int .i64 0) (.string ⟨#[]⟩) (.int .i64 0) (.int .i64 0) (.bool false) (.bool false) (.bool false))
    have HGZ := Lib.hid (grown_t9 w7 q2 (.string ⟨#[]⟩) (.int .i64 0) (.int .i64 0) (.string ⟨#[]⟩) (.int .i64 0) (.int .i64 0) (.bool false) (.bool false) (.bool false))
    have HBZ := Lib.hid (HB.out.grown HGZ.out HB.out.size (fun k hk => by injection hk with hk; rw [← hk]; exact HQZ.out))
    have HOZ := Lib.hid (own_apart7 HO.out HGZ.out (fun k hk e => by have h1 := (HO.out.lt k hk).1; have h2 := HSW.out; injection e with e; omega))
    go_wp2
    obtain ⟨wz, hwz⟩ : ∃ x, (((((((((w7.setCell ⟨q2, 0, none⟩ (.string ⟨#[]⟩)).setCell ⟨q2, 1, none⟩ (.int .i64 0)).setCell ⟨q2, 2, none⟩ (.int .i64 0)).setCell ⟨q2, 3, none⟩ (.string ⟨#[]⟩)).setCell ⟨q2, 4, none⟩ (.int .i64 0)).setCell ⟨q2, 5, none⟩ (.int .i64 0)).setCell ⟨q2, 6, none⟩ (.bool false)).setCell ⟨q2, 7, none⟩ (.bool false)).setCell ⟨q2, 8, none⟩ (.bool false)) = x := ⟨_, rfl⟩
    rw [hwz] at KZ HBZ HOZ ⊢
    clear hwz HGZ y0 y1 y2 y3 y4 y5 y6 y7 y8 g0 g1 g2 g3 g4 g5 g6 g7 g8
    obtain ⟨z0, z1, z2, z3, z4, z5, z6, z7, z8, _⟩ := KZ.out.v9
    refine bodyPost_ret (v := .tuple #[.agg #[.string ⟨#[]⟩, .int .i64 0, .int .i64 0, .string ⟨#[]⟩, .int .i64 0, .int .i64 0, .bool false, .bool false, .bool false], .slice au nu cu, .bool false]) (by simp [results, Try.results9, go_sem, z0, z1, z2, z3, z4, z5, z6, z7, z8]) rfl (by show RdQ w (readO fr tcp (bs l)) _ _; rw [HV.out]; exact ⟨⟨_, rfl, by show World.ownsRow _ _ _ _ _ (failL h0 h1 1 b4 []).length _; rw [HNU.out]; exact own_mono4 HOZ.out HSB.out⟩, HBZ.out⟩)
  rename_i M
  have hM := (decP_hd hd).1
  rw [HH.out] at hM
  obtain ⟨hx, Q, A, N, X⟩ := M
  replace hM : ⟨h0, h1, h2, false, b2, b3, b4, b5⟩ = hx := hM.symm
  subst hM
  have HR := Lib.hid (readO_some (fr := fr) (tcp := tcp) HL12.out (by rw [HH.out]) hd)
  have HD := Lib.hid (show decP (bs l) = some (fromP ⟨h0, h1, h2, false, b2, b3, b4, b5, Q, A, N, X⟩) from hd)
  clear hd
  by_cases ho0 : h1 = 0
  rotate_left
  · have HV := Lib.hid (HR.out.trans (readM_op (fr := fr) (tcp := tcp) (M := (⟨⟨h0, h1, h2, false, b2, b3, b4, b5⟩, Q, A, N, X⟩ : MsgD)) ho0))
    have e1 := nT ho0
    clear ho0
    go_enter Try.func9, Try.ntmps9
    have hba := (Below.refl _ _ : Below w.heap.size w w).alloc (Nat.le_refl _) (.cells #[.string ⟨#[]⟩, .int .i64 0, .int .i64 0, .string ⟨#[]⟩, .int .i64 0, .int .i64 0, .bool false, .bool false, .bool false] 29)
    have HC := Lib.hid (CN.new w #[.string ⟨#[]⟩, .int .i64 0, .int .i64 0, .string ⟨#[]⟩, .int .i64 0, .int .i64 0, .bool false, .bool false, .bool false] 29)
    replace HRB := Lib.hid (HRB.out.below hba)
    replace HB := Lib.hid (HB.out.trans (hba.mono HB.out.size))
    obtain ⟨w2, hw⟩ : ∃ x, w.alloc (.cells #[.string ⟨#[]⟩, .int .i64 0, .int .i64 0, .string ⟨#[]⟩, .int .i64 0, .int .i64 0, .bool false, .bool false, .bool false] 29) = x := ⟨_, rfl⟩
    obtain ⟨q2, hq⟩ : ∃ x, w.heap.size = x := ⟨_, rfl⟩
    rw [hw, hq] at HC
    rw [hw] at HRB HB
    have HW := Lib.hid hw
    have HQ_ := Lib.hid hq
    have HQZ := Lib.hid (show w.heap.size ≤ q2 from by rw [← hq]; exact Nat.le_refl _)
    clear hba hw hq
    go_upto_region 1 with (fail)
    rw [HW.out, HQ_.out]
    clear HW HQ_
    go_wp2_with fail
    refine (header_is a n cp l _ HRB.out HN.out HNB.out HNC.out h0 h1 h2 false b2 b3 b4 b5 true HHD.out).mono ?_; rintro e w3 ⟨rfl, hb⟩
    replace HRB := Lib.hid (HRB.out.below hb)
    replace HB := Lib.hid (HB.out.trans (hb.mono HB.out.size))
    replace HC := Lib.hid (HC.out.below hb)
    clear hb
    have hba := (Below.refl _ _ : Below w3.heap.size w3 w3).alloc (Nat.le_refl _) (.cells #[.int .i64 h0, .int .i64 h1, .int .i64 h2, .bool false, .bool b2, .bool b3, .bool b4, .bool b5] 33)
    have H9 := Lib.hid (CN.new w3 #[.int .i64 h0, .int .i64 h1, .int .i64 h2, .bool false, .bool b2, .bool b3, .bool b4, .bool b5] 33)
    replace HRB := Lib.hid (HRB.out.below hba)
    replace HB := Lib.hid (HB.out.trans (hba.mono HB.out.size))
    replace HC := Lib.hid (HC.out.below hba)
    obtain ⟨w4, hw⟩ : ∃ x, w3.alloc (.cells #[.int .i64 h0, .int .i64 h1, .int .i64 h2, .bool false, .bool b2, .bool b3, .bool b4, .bool b5] 33) = x := ⟨_, rfl⟩
    obtain ⟨q4, hq⟩ : ∃ x, w3.heap.size = x := ⟨_, rfl⟩
    rw [hw, hq] at H9
    rw [hw] at HRB HB HC
    have HW := Lib.hid hw
    have HQ_ := Lib.hid hq
    clear hba hw hq
    go_upto_region 2 with (fail)
    rw [HW.out, HQ_.out]
    clear HW HQ_
    obtain ⟨x0, x1, x2, x3, x4, x5, x6, x7, _⟩ := H9.out.v8
    go_wp2_with fail
    refine (decode_ok l (⟨h0, h1, h2, false, b2, b3, b4, b5, Q, A, N, X⟩ : MsgP) a n cp _ HRB.out HN.out HNB.out HD.out).mono ?_; rintro e w5 ⟨v, rfl, ho, hsz, hb⟩
    replace HRB := Lib.hid (HRB.out.below hb)
    replace HB := Lib.hid (HB.out.trans (hb.mono HB.out.size))
    replace HC := Lib.hid (HC.out.below hb)
    replace H9 := Lib.hid (H9.out.below hb)
    clear hb
    clear x0 x1 x2 x3 x4 x5 x6 x7
    obtain ⟨qa, ql, qc, na, nl, nc, sa, sl, sc, xa, xl, xc, rfl, hp⟩ := ho.at.parts
    have HP := Lib.hid hp
    obtain ⟨⟨l1, l2, l3, l4⟩, -⟩ := hp.lens
    have HLS := Lib.hid (show Q.length = ql ∧ A.length = nl ∧ N.length = sl ∧ X.length = xl from ⟨l1, l2, l3, l4⟩)
    have HZM := Lib.hid hsz
    clear hp ho l1 l2 l3 l4 hsz
    clear H9
    have hba := (Below.refl _ _ : Below w5.heap.size w5 w5).alloc (Nat.le_refl _) (.cells #[.int .i64 h0, .int .i64 h1, .int .i64 h2, .bool false, .bool b2, .bool b3, .bool b4, .bool b5, .slice qa ql qc, .slice na nl nc, .slice sa sl sc, .slice xa xl xc] 37)
    have HM := Lib.hid (CN.new w5 #[.int .i64 h0, .int .i64 h1, .int .i64 h2, .bool false, .bool b2, .bool b3, .bool b4, .bool b5, .slice qa ql qc, .slice na nl nc, .slice sa sl sc, .slice xa xl xc] 37)
    replace HRB := Lib.hid (HRB.out.below hba)
    replace HB := Lib.hid (HB.out.trans (hba.mono HB.out.size))
    replace HC := Lib.hid (HC.out.below hba)
    replace HP := Lib.hid (HP.out.below hba)
    obtain ⟨w6, hw⟩ : ∃ x, w5.alloc (.cells #[.int .i64 h0, .int .i64 h1, .int .i64 h2, .bool false, .bool b2, .bool b3, .bool b4, .bool b5, .slice qa ql qc, .slice na nl nc, .slice sa sl sc, .slice xa xl xc] 37) = x := ⟨_, rfl⟩
    obtain ⟨q6, hq⟩ : ∃ x, w5.heap.size = x := ⟨_, rfl⟩
    rw [hw, hq] at HM
    rw [hw] at HRB HB HC HP
    have HW := Lib.hid hw
    have HQ_ := Lib.hid hq
    clear hba hw hq
    go_upto_region 5 with (fail)
    rw [HW.out, HQ_.out]
    clear HW HQ_
    obtain ⟨y0, y1, y2, y3, y4, y5, y6, y7, y8, y9, y10, y11, _⟩ := HM.out.u12
    have HSW := Lib.hid (show q2 < w6.heap.size from HC.out.1)
    have HSB := Lib.hid HB.out.size
    go_wp2_with fail
    refine (ffail_any h0 h1 4 b4 none 0 0 [] _ (⟨rfl, rfl, Or.inl rfl⟩) (fun _ => ⟨rfl, rfl⟩) (by decide) (fun r hr => by cases hr)).mono ?_; rintro e w7 ⟨u, rfl, ho, hb⟩
    replace HRB := Lib.hid (HRB.out.below hb)
    replace HB := Lib.hid (HB.out.trans (hb.mono HB.out.size))
    replace HC := Lib.hid (HC.out.below hb)
    replace HP := Lib.hid (HP.out.below hb)
    replace HM := Lib.hid (HM.out.below hb)
    clear hb
    obtain ⟨nu, hnu⟩ : ∃ x, (failL h0 h1 4 b4 []).length = x := ⟨_, rfl⟩
    rw [hnu] at ho
    obtain ⟨au, cu, rfl, -⟩ := cellsK_own ho
    have HO := Lib.hid ho
    have HNU := Lib.hid hnu
    clear ho hnu
    obtain ⟨y0, y1, y2, y3, y4, y5, y6, y7, y8, g0, g1, g2, g3, g4, g5, g6, g7, g8⟩ := HC.out.v9
    have KZ := Lib.hid (HC.out.t9 (.string ⟨#[]⟩) (.int .i64 0) (.int .i64 0) (.string ⟨#[]⟩) (.int .i64 0) (.int .i64 0) (.bool false) (.bool false) (.bool false))
    have HGZ := Lib.hid (grown_t9 w7 q2 (.string ⟨#[]⟩) (.int .i64 0) (.int .i64 0) (.string ⟨#[]⟩) (.int .i64 0) (.int .i64 0) (.bool false) (.bool false) (.bool false))
    have HBZ := Lib.hid (HB.out.grown HGZ.out HB.out.size (fun k hk => by injection hk with hk; rw [← hk]; exact HQZ.out))
    have HOZ := Lib.hid (own_apart7 HO.out HGZ.out (fun k hk e => by have h1 := (HO.out.lt k hk).1; have h2 := HSW.out; injection e with e; omega))
    go_wp2
    obtain ⟨wz, hwz⟩ : ∃ x, (((((((((w7.setCell ⟨q2, 0, none⟩ (.string ⟨#[]⟩)).setCell ⟨q2, 1, none⟩ (.int .i64 0)).setCell ⟨q2, 2, none⟩ (.int .i64 0)).setCell ⟨q2, 3, none⟩ (.string ⟨#[]⟩)).setCell ⟨q2, 4, none⟩ (.int .i64 0)).setCell ⟨q2, 5, none⟩ (.int .i64 0)).setCell ⟨q2, 6, none⟩ (.bool false)).setCell ⟨q2, 7, none⟩ (.bool false)).setCell ⟨q2, 8, none⟩ (.bool false)) = x := ⟨_, rfl⟩
    rw [hwz] at KZ HBZ HOZ ⊢
    clear hwz HGZ y0 y1 y2 y3 y4 y5 y6 y7 y8 g0 g1 g2 g3 g4 g5 g6 g7 g8
    obtain ⟨z0, z1, z2, z3, z4, z5, z6, z7, z8, _⟩ := KZ.out.v9
    refine bodyPost_ret (v := .tuple #[.agg #[.string ⟨#[]⟩, .int .i64 0, .int .i64 0, .string ⟨#[]⟩, .int .i64 0, .int .i64 0, .bool false, .bool false, .bool false], .slice au nu cu, .bool false]) (by simp [results, Try.results9, go_sem, z0, z1, z2, z3, z4, z5, z6, z7, z8]) rfl (by show RdQ w (readO fr tcp (bs l)) _ _; rw [HV.out]; exact ⟨⟨_, rfl, by show World.ownsRow _ _ _ _ _ (failL h0 h1 4 b4 []).length _; rw [HNU.out]; exact own_mono4 HOZ.out HSB.out⟩, HBZ.out⟩)
  subst ho0
  obtain ⟨⟨⟨os, ov, orc, od, odt⟩, ok, oe⟩, hG⟩ : ∃ x, getO X = x := ⟨_, rfl⟩
  have HG := Lib.hid hG
  clear hG
  have HRN := Lib.hid (fun (hx : Q.length ≠ 1 ∨ 0 < A.length ∨ 0 < N.length ∨ oe ≠ 0) => HR.out.trans (readM_form (fr := fr) (tcp := tcp) (M := (⟨⟨h0, 0, h2, false, b2, b3, b4, b5⟩, Q, A, N, X⟩ : MsgD)) rfl (by show Q.length ≠ 1 ∨ 0 < A.length ∨ 0 < N.length ∨ (getO X).2.2 ≠ 0; rw [HG.out]; exact hx)))
  have HSX := Lib.hid (show True from trivial)
  go_enter Try.func9, Try.ntmps9
  have hba := (Below.refl _ _ : Below w.heap.size w w).alloc (Nat.le_refl _) (.cells #[.string ⟨#[]⟩, .int .i64 0, .int .i64 0, .string ⟨#[]⟩, .int .i64 0, .int .i64 0, .bool false, .bool false, .bool false] 29)
  have HC := Lib.hid (CN.new w #[.string ⟨#[]⟩, .int .i64 0, .int .i64 0, .string ⟨#[]⟩, .int .i64 0, .int .i64 0, .bool false, .bool false, .bool false] 29)
  replace HRB := Lib.hid (HRB.out.below hba)
  replace HB := Lib.hid (HB.out.trans (hba.mono HB.out.size))
  obtain ⟨w2, hw⟩ : ∃ x, w.alloc (.cells #[.string ⟨#[]⟩, .int .i64 0, .int .i64 0, .string ⟨#[]⟩, .int .i64 0, .int .i64 0, .bool false, .bool false, .bool false] 29) = x := ⟨_, rfl⟩
  obtain ⟨q2, hq⟩ : ∃ x, w.heap.size = x := ⟨_, rfl⟩
  rw [hw, hq] at HC
  rw [hw] at HRB HB
  have HW := Lib.hid hw
  have HQ_ := Lib.hid hq
  have HQZ := Lib.hid (show w.heap.size ≤ q2 from by rw [← hq]; exact Nat.le_refl _)
  clear hba hw hq
  go_upto_region 1 with (fail)
  rw [HW.out, HQ_.out]
  clear HW HQ_
  go_wp2_with fail
  refine (header_is a n cp l _ HRB.out HN.out HNB.out HNC.out h0 0 h2 false b2 b3 b4 b5 true HHD.out).mono ?_; rintro e w3 ⟨rfl, hb⟩
  replace HRB := Lib.hid (HRB.out.below hb)
  replace HB := Lib.hid (HB.out.trans (hb.mono HB.out.size))
  replace HC := Lib.hid (HC.out.below hb)
  clear hb
  have hba := (Below.refl _ _ : Below w3.heap.size w3 w3).alloc (Nat.le_refl _) (.cells #[.int .i64 h0, .int .i64 0, .int .i64 h2, .bool false, .bool b2, .bool b3, .bool b4, .bool b5] 33)
  have H9 := Lib.hid (CN.new w3 #[.int .i64 h0, .int .i64 0, .int .i64 h2, .bool false, .bool b2, .bool b3, .bool b4, .bool b5] 33)
  replace HRB := Lib.hid (HRB.out.below hba)
  replace HB := Lib.hid (HB.out.trans (hba.mono HB.out.size))
  replace HC := Lib.hid (HC.out.below hba)
  obtain ⟨w4, hw⟩ : ∃ x, w3.alloc (.cells #[.int .i64 h0, .int .i64 0, .int .i64 h2, .bool false, .bool b2, .bool b3, .bool b4, .bool b5] 33) = x := ⟨_, rfl⟩
  obtain ⟨q4, hq⟩ : ∃ x, w3.heap.size = x := ⟨_, rfl⟩
  rw [hw, hq] at H9
  rw [hw] at HRB HB HC
  have HW := Lib.hid hw
  have HQ_ := Lib.hid hq
  clear hba hw hq
  go_upto_region 2 with (fail)
  rw [HW.out, HQ_.out]
  clear HW HQ_
  obtain ⟨x0, x1, x2, x3, x4, x5, x6, x7, _⟩ := H9.out.v8
  go_wp2_with fail
  refine (decode_ok l (⟨h0, 0, h2, false, b2, b3, b4, b5, Q, A, N, X⟩ : MsgP) a n cp _ HRB.out HN.out HNB.out HD.out).mono ?_; rintro e w5 ⟨v, rfl, ho, hsz, hb⟩
  replace HRB := Lib.hid (HRB.out.below hb)
  replace HB := Lib.hid (HB.out.trans (hb.mono HB.out.size))
  replace HC := Lib.hid (HC.out.below hb)
  replace H9 := Lib.hid (H9.out.below hb)
  clear hb
  clear x0 x1 x2 x3 x4 x5 x6 x7
  obtain ⟨qa, ql, qc, na, nl, nc, sa, sl, sc, xa, xl, xc, rfl, hp⟩ := ho.at.parts
  have HP := Lib.hid hp
  obtain ⟨⟨l1, l2, l3, l4⟩, -⟩ := hp.lens
  have HLS := Lib.hid (show Q.length = ql ∧ A.length = nl ∧ N.length = sl ∧ X.length = xl from ⟨l1, l2, l3, l4⟩)
  have HZM := Lib.hid hsz
  clear hp ho l1 l2 l3 l4 hsz
  clear H9
  have hba := (Below.refl _ _ : Below w5.heap.size w5 w5).alloc (Nat.le_refl _) (.cells #[.int .i64 h0, .int .i64 0, .int .i64 h2, .bool false, .bool b2, .bool b3, .bool b4, .bool b5, .slice qa ql qc, .slice na nl nc, .slice sa sl sc, .slice xa xl xc] 37)
  have HM := Lib.hid (CN.new w5 #[.int .i64 h0, .int .i64 0, .int .i64 h2, .bool false, .bool b2, .bool b3, .bool b4, .bool b5, .slice qa ql qc, .slice na nl nc, .slice sa sl sc, .slice xa xl xc] 37)
  replace HRB := Lib.hid (HRB.out.below hba)
  replace HB := Lib.hid (HB.out.trans (hba.mono HB.out.size))
  replace HC := Lib.hid (HC.out.below hba)
  replace HP := Lib.hid (HP.out.below hba)
  obtain ⟨w6, hw⟩ : ∃ x, w5.alloc (.cells #[.int .i64 h0, .int .i64 0, .int .i64 h2, .bool false, .bool b2, .bool b3, .bool b4, .bool b5, .slice qa ql qc, .slice na nl nc, .slice sa sl sc, .slice xa xl xc] 37) = x := ⟨_, rfl⟩
  obtain ⟨q6, hq⟩ : ∃ x, w5.heap.size = x := ⟨_, rfl⟩
  rw [hw, hq] at HM
  rw [hw] at HRB HB HC HP
  have HW := Lib.hid hw
  have HQ_ := Lib.hid hq
  clear hba hw hq
  go_upto_region 5 with (fail)
  rw [HW.out, HQ_.out]
  clear HW HQ_
  obtain ⟨y0, y1, y2, y3, y4, y5, y6, y7, y8, y9, y10, y11, _⟩ := HM.out.u12
  have HXL := Lib.hid (show X.length ≤ 100000 by have := HZM.out.2.2.2.1; have h2 : (fromP (⟨h0, 0, h2, false, b2, b3, b4, b5, Q, A, N, X⟩ : MsgP)).x.length = X.length := rfl; omega)
  go_wp2_with fail
  refine (getM_is _ (⟨h0, 0, h2, false, b2, b3, b4, b5, Q, A, N, X⟩ : MsgP) _ os ov orc od odt ok oe HP.out HXL.out HG.out).mono ?_; rintro e w7 ⟨rfl, hb⟩
  replace HRB := Lib.hid (HRB.out.below hb)
  replace HB := Lib.hid (HB.out.trans (hb.mono HB.out.size))
  replace HC := Lib.hid (HC.out.below hb)
  replace HP := Lib.hid (HP.out.below hb)
  replace HM := Lib.hid (HM.out.below hb)
  clear hb
  clear y0 y1 y2 y3 y4 y5 y6 y7 y8 y9 y10 y11
  have hba := (Below.refl _ _ : Below w7.heap.size w7 w7).alloc (Nat.le_refl _) (.cells #[.int .i64 os, .int .i64 ov, .int .i64 orc, .bool od, .string odt] 42)
  have HO5 := Lib.hid (CN.new w7 #[.int .i64 os, .int .i64 ov, .int .i64 orc, .bool od, .string odt] 42)
  replace HRB := Lib.hid (HRB.out.below hba)
  replace HB := Lib.hid (HB.out.trans (hba.mono HB.out.size))
  replace HC := Lib.hid (HC.out.below hba)
  replace HP := Lib.hid (HP.out.below hba)
  replace HM := Lib.hid (HM.out.below hba)
  obtain ⟨w8, hw⟩ : ∃ x, w7.alloc (.cells #[.int .i64 os, .int .i64 ov, .int .i64 orc, .bool od, .string odt] 42) = x := ⟨_, rfl⟩
  obtain ⟨q8, hq⟩ : ∃ x, w7.heap.size = x := ⟨_, rfl⟩
  rw [hw, hq] at HO5
  rw [hw] at HRB HB HC HP HM
  have HW := Lib.hid hw
  have HQ_ := Lib.hid hq
  clear hba hw hq
  go_upto_region 10 with (fail)
  rw [HW.out, HQ_.out]
  clear HW HQ_
  obtain ⟨y0, y1, y2, y3, y4, y5, y6, y7, y8, y9, y10, y11, _⟩ := HM.out.u12
  by_cases t1 : ql = 1
  rotate_left
  · have d1 : ((ql : Int) != 1) = true := nT (by omega)
    have HV := Lib.hid (HRN.out (Or.inl (by rw [HLS.out.1]; exact t1)))
    have HSW := Lib.hid (show q2 < w8.heap.size from HC.out.1)
    have HSB := Lib.hid HB.out.size
    go_wp2_with fail
    refine (ffail_any h0 0 1 b4 none 0 0 [] _ (⟨rfl, rfl, Or.inl rfl⟩) (fun _ => ⟨rfl, rfl⟩) (by decide) (fun r hr => by cases hr)).mono ?_; rintro e w9 ⟨u, rfl, ho, hb⟩
    replace HRB := Lib.hid (HRB.out.below hb)
    replace HB := Lib.hid (HB.out.trans (hb.mono HB.out.size))
    replace HC := Lib.hid (HC.out.below hb)
    replace HP := Lib.hid (HP.out.below hb)
    replace HM := Lib.hid (HM.out.below hb)
    replace HO5 := Lib.hid (HO5.out.below hb)
    clear hb
    obtain ⟨nu, hnu⟩ : ∃ x, (failL h0 0 1 b4 []).length = x := ⟨_, rfl⟩
    rw [hnu] at ho
    obtain ⟨au, cu, rfl, -⟩ := cellsK_own ho
    have HO := Lib.hid ho
    have HNU := Lib.hid hnu
    clear ho hnu
    obtain ⟨y0, y1, y2, y3, y4, y5, y6, y7, y8, g0, g1, g2, g3, g4, g5, g6, g7, g8⟩ := HC.out.v9
    have KZ := Lib.hid (HC.out.t9 (.string ⟨#[]⟩) (.int .i64 0) (.int .i64 0) (.string ⟨#[]⟩) (.int .i64 0) (.int .i64 0) (.bool false) (.bool false) (.bool false))
    have HGZ := Lib.hid (grown_t9 w9 q2 (.string ⟨#[]⟩) (.int .i64 0) (.int .i64 0) (.string ⟨#[]⟩) (.int .i64 0) (.int .i64 0) (.bool false) (.bool false) (.bool false))
    have HBZ := Lib.hid (HB.out.grown HGZ.out HB.out.size (fun k hk => by injection hk with hk; rw [← hk]; exact HQZ.out))
    have HOZ := Lib.hid (own_apart7 HO.out HGZ.out (fun k hk e => by have h1 := (HO.out.lt k hk).1; have h2 := HSW.out; injection e with e; omega))
    go_wp2
    obtain ⟨wz, hwz⟩ : ∃ x, (((((((((w9.setCell ⟨q2, 0, none⟩ (.string ⟨#[]⟩)).setCell ⟨q2, 1, none⟩ (.int .i64 0)).setCell ⟨q2, 2, none⟩ (.int .i64 0)).setCell ⟨q2, 3, none⟩ (.string ⟨#[]⟩)).setCell ⟨q2, 4, none⟩ (.int .i64 0)).setCell ⟨q2, 5, none⟩ (.int .i64 0)).setCell ⟨q2, 6, none⟩ (.bool false)).setCell ⟨q2, 7, none⟩ (.bool false)).setCell ⟨q2, 8, none⟩ (.bool false)) = x := ⟨_, rfl⟩
    rw [hwz] at KZ HBZ HOZ ⊢
    clear hwz HGZ y0 y1 y2 y3 y4 y5 y6 y7 y8 g0 g1 g2 g3 g4 g5 g6 g7 g8
    obtain ⟨z0, z1, z2, z3, z4, z5, z6, z7, z8, _⟩ := KZ.out.v9
    refine bodyPost_ret (v := .tuple #[.agg #[.string ⟨#[]⟩, .int .i64 0, .int .i64 0, .string ⟨#[]⟩, .int .i64 0, .int .i64 0, .bool false, .bool false, .bool false], .slice au nu cu, .bool false]) (by simp [results, Try.results9, go_sem, z0, z1, z2, z3, z4, z5, z6, z7, z8]) rfl (by show RdQ w (readO fr tcp (bs l)) _ _; rw [HV.out]; exact ⟨⟨_, rfl, by show World.ownsRow _ _ _ _ _ (failL h0 0 1 b4 []).length _; rw [HNU.out]; exact own_mono4 HOZ.out HSB.out⟩, HBZ.out⟩)
  have d1 : ((ql : Int) != 1) = false := nF (by omega)
  by_cases t2 : 0 < nl
  · have d2 : decide ((0 : Int) < (nl : Int)) = true := dT (by omega)
    have HV := Lib.hid (HRN.out (Or.inr (Or.inl (by rw [HLS.out.2.1]; exact t2))))
    have HSW := Lib.hid (show q2 < w8.heap.size from HC.out.1)
    have HSB := Lib.hid HB.out.size
    go_wp2_with fail
    refine (ffail_any h0 0 1 b4 none 0 0 [] _ (⟨rfl, rfl, Or.inl rfl⟩) (fun _ => ⟨rfl, rfl⟩) (by decide) (fun r hr => by cases hr)).mono ?_; rintro e w9 ⟨u, rfl, ho, hb⟩
    replace HRB := Lib.hid (HRB.out.below hb)
    replace HB := Lib.hid (HB.out.trans (hb.mono HB.out.size))
    replace HC := Lib.hid (HC.out.below hb)
    replace HP := Lib.hid (HP.out.below hb)
    replace HM := Lib.hid (HM.out.below hb)
    replace HO5 := Lib.hid (HO5.out.below hb)
    clear hb
    obtain ⟨nu, hnu⟩ : ∃ x, (failL h0 0 1 b4 []).length = x := ⟨_, rfl⟩
    rw [hnu] at ho
    obtain ⟨au, cu, rfl, -⟩ := cellsK_own ho
    have HO := Lib.hid ho
    have HNU := Lib.hid hnu
    clear ho hnu
    obtain ⟨y0, y1, y2, y3, y4, y5, y6, y7, y8, g0, g1, g2, g3, g4, g5, g6, g7, g8⟩ := HC.out.v9
    have KZ := Lib.hid (HC.out.t9 (.string ⟨#[]⟩) (.int .i64 0) (.int .i64 0) (.string ⟨#[]⟩) (.int .i64 0) (.int .i64 0) (.bool false) (.bool false) (.bool false))
    have HGZ := Lib.hid (grown_t9 w9 q2 (.string ⟨#[]⟩) (.int .i64 0) (.int .i64 0) (.string ⟨#[]⟩) (.int .i64 0) (.int .i64 0) (.bool false) (.bool false) (.bool false))
    have HBZ := Lib.hid (HB.out.grown HGZ.out HB.out.size (fun k hk => by injection hk with hk; rw [← hk]; exact HQZ.out))
    have HOZ := Lib.hid (own_apart7 HO.out HGZ.out (fun k hk e => by have h1 := (HO.out.lt k hk).1; have h2 := HSW.out; injection e with e; omega))
    go_wp2
    obtain ⟨wz, hwz⟩ : ∃ x, (((((((((w9.setCell ⟨q2, 0, none⟩ (.string ⟨#[]⟩)).setCell ⟨q2, 1, none⟩ (.int .i64 0)).setCell ⟨q2, 2, none⟩ (.int .i64 0)).setCell ⟨q2, 3, none⟩ (.string ⟨#[]⟩)).setCell ⟨q2, 4, none⟩ (.int .i64 0)).setCell ⟨q2, 5, none⟩ (.int .i64 0)).setCell ⟨q2, 6, none⟩ (.bool false)).setCell ⟨q2, 7, none⟩ (.bool false)).setCell ⟨q2, 8, none⟩ (.bool false)) = x := ⟨_, rfl⟩
    rw [hwz] at KZ HBZ HOZ ⊢
    clear hwz HGZ y0 y1 y2 y3 y4 y5 y6 y7 y8 g0 g1 g2 g3 g4 g5 g6 g7 g8
    obtain ⟨z0, z1, z2, z3, z4, z5, z6, z7, z8, _⟩ := KZ.out.v9
    refine bodyPost_ret (v := .tuple #[.agg #[.string ⟨#[]⟩, .int .i64 0, .int .i64 0, .string ⟨#[]⟩, .int .i64 0, .int .i64 0, .bool false, .bool false, .bool false], .slice au nu cu, .bool false]) (by simp [results, Try.results9, go_sem, z0, z1, z2, z3, z4, z5, z6, z7, z8]) rfl (by show RdQ w (readO fr tcp (bs l)) _ _; rw [HV.out]; exact ⟨⟨_, rfl, by show World.ownsRow _ _ _ _ _ (failL h0 0 1 b4 []).length _; rw [HNU.out]; exact own_mono4 HOZ.out HSB.out⟩, HBZ.out⟩)
  have d2 : decide ((0 : Int) < (nl : Int)) = false := dF (by omega)
  by_cases t3 : 0 < sl
  · have d3 : decide ((0 : Int) < (sl : Int)) = true := dT (by omega)
    have HV := Lib.hid (HRN.out (Or.inr (Or.inr (Or.inl (by rw [HLS.out.2.2.1]; exact t3)))))
    have HSW := Lib.hid (show q2 < w8.heap.size from HC.out.1)
    have HSB := Lib.hid HB.out.size
    go_wp2_with fail
    refine (ffail_any h0 0 1 b4 none 0 0 [] _ (⟨rfl, rfl, Or.inl rfl⟩) (fun _ => ⟨rfl, rfl⟩) (by decide) (fun r hr => by cases hr)).mono ?_; rintro e w9 ⟨u, rfl, ho, hb⟩
    replace HRB := Lib.hid (HRB.out.below hb)
    replace HB := Lib.hid (HB.out.trans (hb.mono HB.out.size))
    replace HC := Lib.hid (HC.out.below hb)
    replace HP := Lib.hid (HP.out.below hb)
    replace HM := Lib.hid (HM.out.below hb)
    replace HO5 := Lib.hid (HO5.out.below hb)
    clear hb
    obtain ⟨nu, hnu⟩ : ∃ x, (failL h0 0 1 b4 []).length = x := ⟨_, rfl⟩
    rw [hnu] at ho
    obtain ⟨au, cu, rfl, -⟩ := cellsK_own ho
    have HO := Lib.hid ho
    have HNU := Lib.hid hnu
    clear ho hnu
    obtain ⟨y0, y1, y2, y3, y4, y5, y6, y7, y8, g0, g1, g2, g3, g4, g5, g6, g7, g8⟩ := HC.out.v9
    have KZ := Lib.hid (HC.out.t9 (.string ⟨#[]⟩) (.int .i64 0) (.int .i64 0) (.string ⟨#[]⟩) (.int .i64 0) (.int .i64 0) (.bool false) (.bool false) (.bool false))
    have HGZ := Lib.hid (grown_t9 w9 q2 (.string ⟨#[]⟩) (.int .i64 0) (.int .i64 0) (.string ⟨#[]⟩) (.int .i64 0) (.int .i64 0) (.bool false) (.bool false) (.bool false))
    have HBZ := Lib.hid (HB.out.grown HGZ.out HB.out.size (fun k hk => by injection hk with hk; rw [← hk]; exact HQZ.out))
    have HOZ := Lib.hid (own_apart7 HO.out HGZ.out (fun k hk e => by have h1 := (HO.out.lt k hk).1; have h2 := HSW.out; injection e with e; omega))
    go_wp2
    obtain ⟨wz, hwz⟩ : ∃ x, (((((((((w9.setCell ⟨q2, 0, none⟩ (.string ⟨#[]⟩)).setCell ⟨q2, 1, none⟩ (.int .i64 0)).setCell ⟨q2, 2, none⟩ (.int .i64 0)).setCell ⟨q2, 3, none⟩ (.string ⟨#[]⟩)).setCell ⟨q2, 4, none⟩ (.int .i64 0)).setCell ⟨q2, 5, none⟩ (.int .i64 0)).setCell ⟨q2, 6, none⟩ (.bool false)).setCell ⟨q2, 7, none⟩ (.bool false)).setCell ⟨q2, 8, none⟩ (.bool false)) = x := ⟨_, rfl⟩
    rw [hwz] at KZ HBZ HOZ ⊢
    clear hwz HGZ y0 y1 y2 y3 y4 y5 y6 y7 y8 g0 g1 g2 g3 g4 g5 g6 g7 g8
    obtain ⟨z0, z1, z2, z3, z4, z5, z6, z7, z8, _⟩ := KZ.out.v9
    refine bodyPost_ret (v := .tuple #[.agg #[.string ⟨#[]⟩, .int .i64 0, .int .i64 0, .string ⟨#[]⟩, .int .i64 0, .int .i64 0, .bool false, .bool false, .bool false], .slice au nu cu, .bool false]) (by simp [results, Try.results9, go_sem, z0, z1, z2, z3, z4, z5, z6, z7, z8]) rfl (by show RdQ w (readO fr tcp (bs l)) _ _; rw [HV.out]; exact ⟨⟨_, rfl, by show World.ownsRow _ _ _ _ _ (failL h0 0 1 b4 []).length _; rw [HNU.out]; exact own_mono4 HOZ.out HSB.out⟩, HBZ.out⟩)
  have d3 : decide ((0 : Int) < (sl : Int)) = false := dF (by omega)
  by_cases t4 : oe = 0
  rotate_left
  · have d4 : (oe != 0) = true := nT t4
    have HV := Lib.hid (HRN.out (Or.inr (Or.inr (Or.inr t4))))
    have HSW := Lib.hid (show q2 < w8.heap.size from HC.out.1)
    have HSB := Lib.hid HB.out.size
    go_wp2_with fail
    refine (ffail_any h0 0 1 b4 none 0 0 [] _ (⟨rfl, rfl, Or.inl rfl⟩) (fun _ => ⟨rfl, rfl⟩) (by decide) (fun r hr => by cases hr)).mono ?_; rintro e w9 ⟨u, rfl, ho, hb⟩
    replace HRB := Lib.hid (HRB.out.below hb)
    replace HB := Lib.hid (HB.out.trans (hb.mono HB.out.size))
    replace HC := Lib.hid (HC.out.below hb)
    replace HP := Lib.hid (HP.out.below hb)
    replace HM := Lib.hid (HM.out.below hb)
    replace HO5 := Lib.hid (HO5.out.below hb)
    clear hb
    obtain ⟨nu, hnu⟩ : ∃ x, (failL h0 0 1 b4 []).length = x := ⟨_, rfl⟩
    rw [hnu] at ho
    obtain ⟨au, cu, rfl, -⟩ := cellsK_own ho
    have HO := Lib.hid ho
    have HNU := Lib.hid hnu
    clear ho hnu
    obtain ⟨y0, y1, y2, y3, y4, y5, y6, y7, y8, g0, g1, g2, g3, g4, g5, g6, g7, g8⟩ := HC.out.v9
    have KZ := Lib.hid (HC.out.t9 (.string ⟨#[]⟩) (.int .i64 0) (.int .i64 0) (.string ⟨#[]⟩) (.int .i64 0) (.int .i64 0) (.bool false) (.bool false) (.bool false))
    have HGZ := Lib.hid (grown_t9 w9 q2 (.string ⟨#[]⟩) (.int .i64 0) (.int .i64 0) (.string ⟨#[]⟩) (.int .i64 0) (.int .i64 0) (.bool false) (.bool false) (.bool false))
    have HBZ := Lib.hid (HB.out.grown HGZ.out HB.out.size (fun k hk => by injection hk with hk; rw [← hk]; exact HQZ.out))
    have HOZ := Lib.hid (own_apart7 HO.out HGZ.out (fun k hk e => by have h1 := (HO.out.lt k hk).1; have h2 := HSW.out; injection e with e; omega))
    go_wp2
    obtain ⟨wz, hwz⟩ : ∃ x, (((((((((w9.setCell ⟨q2, 0, none⟩ (.string ⟨#[]⟩)).setCell ⟨q2, 1, none⟩ (.int .i64 0)).setCell ⟨q2, 2, none⟩ (.int .i64 0)).setCell ⟨q2, 3, none⟩ (.string ⟨#[]⟩)).setCell ⟨q2, 4, none⟩ (.int .i64 0)).setCell ⟨q2, 5, none⟩ (.int .i64 0)).setCell ⟨q2, 6, none⟩ (.bool false)).setCell ⟨q2, 7, none⟩ (.bool false)).setCell ⟨q2, 8, none⟩ (.bool false)) = x := ⟨_, rfl⟩
    rw [hwz] at KZ HBZ HOZ ⊢
    clear hwz HGZ y0 y1 y2 y3 y4 y5 y6 y7 y8 g0 g1 g2 g3 g4 g5 g6 g7 g8
    obtain ⟨z0, z1, z2, z3, z4, z5, z6, z7, z8, _⟩ := KZ.out.v9
    refine bodyPost_ret (v := .tuple #[.agg #[.string ⟨#[]⟩, .int .i64 0, .int .i64 0, .string ⟨#[]⟩, .int .i64 0, .int .i64 0, .bool false, .bool false, .bool false], .slice au nu cu, .bool false]) (by simp [results, Try.results9, go_sem, z0, z1, z2, z3, z4, z5, z6, z7, z8]) rfl (by show RdQ w (readO fr tcp (bs l)) _ _; rw [HV.out]; exact ⟨⟨_, rfl, by show World.ownsRow _ _ _ _ _ (failL h0 0 1 b4 []).length _; rw [HNU.out]; exact own_mono4 HOZ.out HSB.out⟩, HBZ.out⟩)
  have d4 : (oe != 0) = false := nF t4
  have hq1 := HLS.out.1
  obtain rfl : nl = 0 := by omega
  obtain rfl : sl = 0 := by omega
  clear t2 t3 d1 d2 d3 d4
  subst t4
  subst t1
  obtain ⟨⟨qn, qt, qk⟩, rfl⟩ := List.length_eq_one_iff.1 hq1
  have HNOT := Lib.hid (show ¬ ([(⟨qn, qt, qk⟩ : Ky)].length ≠ 1 ∨ 0 < A.length ∨ 0 < N.length ∨ (getO X).2.2 ≠ 0) by rw [HLS.out.2.1, HLS.out.2.2.1, HG.out]; simp)
  obtain ⟨-, hrq, -⟩ := HP.out.lens
  obtain ⟨bq, oq, r, rfl, hbl, hr2, c0, c1, c2⟩ := hrq.at 0 (by decide)
  obtain rfl : ⟨qn, qt, qk⟩ = r := by simpa using hr2
  clear hrq hr2 hq1
  replace c0 : w8.cell? ⟨bq, oq, none⟩ = some (.string qn) := by simpa using c0
  replace c1 : w8.cell? ⟨bq, oq + 1, none⟩ = some (.int .i64 qt) := by simpa using c1
  replace c2 : w8.cell? ⟨bq, oq + 2, none⟩ = some (.int .i64 qk) := by simpa using c2
  have hba := (Below.refl _ _ : Below w8.heap.size w8 w8).alloc (Nat.le_refl _) (.cells #[.string qn, .int .i64 qt, .int .i64 qk] 27)
  have HQQ := Lib.hid (CN.new w8 #[.string qn, .int .i64 qt, .int .i64 qk] 27)
  replace HRB := Lib.hid (HRB.out.below hba)
  replace HB := Lib.hid (HB.out.trans (hba.mono HB.out.size))
  replace HC := Lib.hid (HC.out.below hba)
  replace HP := Lib.hid (HP.out.below hba)
  replace HM := Lib.hid (HM.out.below hba)
  replace HO5 := Lib.hid (HO5.out.below hba)
  obtain ⟨w9, hw⟩ : ∃ x, w8.alloc (.cells #[.string qn, .int .i64 qt, .int .i64 qk] 27) = x := ⟨_, rfl⟩
  obtain ⟨q9, hq⟩ : ∃ x, w8.heap.size = x := ⟨_, rfl⟩
  rw [hw, hq] at HQQ
  rw [hw] at HRB HB HC HP HM HO5
  have HW := Lib.hid hw
  have HQ_ := Lib.hid hq
  clear hba hw hq
  go_upto_region 13 with (fail)
  rw [HW.out, HQ_.out]
  clear HW HQ_
  clear y0 y1 y2 y3 y4 y5 y6 y7 y8 y9 y10 y11
  clear c0 c1 c2 hbl
  obtain ⟨o0, o1, o2, o3, o4, _⟩ := HO5.out.u5
  have HQN2 := Lib.hid (show qn.size ≤ 1000000 by have := HZM.out.1.2 ⟨qn, qt, qk⟩ (List.mem_singleton.2 rfl); have h2 : (Ky.mk qn qt qk).n = qn := rfl; rw [h2] at this; omega)
  by_cases t5 : 0 < ov
  · have d5 := dT t5
    have HV := Lib.hid (HR.out.trans (readM_ver (fr := fr) (tcp := tcp) (M := (⟨⟨h0, 0, h2, false, b2, b3, b4, b5⟩, [⟨qn, qt, qk⟩], A, N, X⟩ : MsgD)) rfl HNOT.out (by show 0 < (getO X).1.ver; rw [HG.out]; exact t5)))
    obtain ⟨y0, y1, y2, y3, y4, y5, y6, y7, y8, y9, y10, y11, _⟩ := HM.out.u12
    obtain ⟨p0, p1, p2, _⟩ := HQQ.out.v3
    have hba := (Below.refl w9.heap.size w9).alloc (Nat.le_refl _) (.cells #[.string qn, .int .i64 qt, .int .i64 qk] 27)
    have HRQ := Lib.hid (rowQ_one w9 qn qt qk)
    replace HRB := Lib.hid (HRB.out.below hba)
    replace HB := Lib.hid (HB.out.trans (hba.mono HB.out.size))
    replace HC := Lib.hid (HC.out.below hba)
    replace HP := Lib.hid (HP.out.below hba)
    replace HM := Lib.hid (HM.out.below hba)
    replace HO5 := Lib.hid (HO5.out.below hba)
    replace HQQ := Lib.hid (HQQ.out.below hba)
    obtain ⟨wq, hwq⟩ : ∃ x, w9.alloc (.cells #[.string qn, .int .i64 qt, .int .i64 qk] 27) = x := ⟨_, rfl⟩
    obtain ⟨qq, hqq⟩ : ∃ x, w9.heap.size = x := ⟨_, rfl⟩
    rw [hwq, hqq] at HRQ
    rw [hwq] at HRB HB HC HP HM HO5 HQQ
    have HW := Lib.hid hwq
    have HQ_ := Lib.hid hqq
    clear hba hwq hqq
    go_wp2_with fail
    rw [HW.out, HQ_.out]
    clear HW HQ_
    have HSW := Lib.hid (show q2 < wq.heap.size from HC.out.1)
    have HSB := Lib.hid HB.out.size
    refine (failure_any h0 0 0 b4 (some ⟨qq, 0, none⟩) 1 1 [⟨qn, qt, qk⟩] _ HRQ.out (fun h => by cases h) (by decide)).mono ?_; rintro e w10 ⟨u1, rfl, hm1, hb⟩
    replace HRB := Lib.hid (HRB.out.below hb)
    replace HB := Lib.hid (HB.out.trans (hb.mono HB.out.size))
    replace HC := Lib.hid (HC.out.below hb)
    replace HP := Lib.hid (HP.out.below hb)
    replace HM := Lib.hid (HM.out.below hb)
    replace HO5 := Lib.hid (HO5.out.below hb)
    replace HQQ := Lib.hid (HQQ.out.below hb)
    clear hb
    clear y0 y1 y2 y3 y4 y5 y6 y7 y8 y9 y10 y11
    clear p0 p1 p2 o0 o1 o2 o3 o4
    go_wp2_with fail
    refine (withOpt_any _ _ 1 _ hm1.at ⟨(by show (1 : Nat) ≤ 10000; decide), Nat.zero_le _, Nat.zero_le _, Nat.zero_le _⟩).mono ?_; rintro e w11 ⟨⟨u2, rfl, hm2⟩, hb⟩
    replace HRB := Lib.hid (HRB.out.below hb)
    replace HB := Lib.hid (HB.out.trans (hb.mono HB.out.size))
    replace HC := Lib.hid (HC.out.below hb)
    replace HP := Lib.hid (HP.out.below hb)
    replace HM := Lib.hid (HM.out.below hb)
    replace HO5 := Lib.hid (HO5.out.below hb)
    replace HQQ := Lib.hid (HQQ.out.below hb)
    clear hb
    have HSW2 := Lib.hid (show q2 < w11.heap.size from HC.out.1)
    have HSB2 := Lib.hid HB.out.size
    go_wp2_with fail
    refine (fencode_any _ _ 16000 _ hm2.at (mok_with (mok_fail (by show (1 : Nat) ≤ 100000; decide) (fun r hr => by rw [List.mem_singleton.1 hr]; exact HQN2.out)) 1)).mono ?_; rintro e w12 ⟨u, rfl, ho, hb⟩
    replace HRB := Lib.hid (HRB.out.below hb)
    replace HB := Lib.hid (HB.out.trans (hb.mono HB.out.size))
    replace HC := Lib.hid (HC.out.below hb)
    replace HP := Lib.hid (HP.out.below hb)
    replace HM := Lib.hid (HM.out.below hb)
    replace HO5 := Lib.hid (HO5.out.below hb)
    replace HQQ := Lib.hid (HQQ.out.below hb)
    clear hb
    clear hm1 hm2
    clear HSW HSB
    have HSW := HSW2
    have HSB := HSB2
    obtain ⟨nu, hnu⟩ : ∃ x, (encL2 (withP (failM h0 0 0 b4 [⟨qn, qt, qk⟩]) [optW 1]) 16000).length = x := ⟨_, rfl⟩
    rw [hnu] at ho
    obtain ⟨au, cu, rfl, -⟩ := cellsK_own ho
    have HO := Lib.hid ho
    have HNU := Lib.hid hnu
    clear ho hnu
    obtain ⟨y0, y1, y2, y3, y4, y5, y6, y7, y8, g0, g1, g2, g3, g4, g5, g6, g7, g8⟩ := HC.out.v9
    have KZ := Lib.hid (HC.out.t9 (.string ⟨#[]⟩) (.int .i64 0) (.int .i64 0) (.string ⟨#[]⟩) (.int .i64 0) (.int .i64 0) (.bool false) (.bool false) (.bool false))
    have HGZ := Lib.hid (grown_t9 w12 q2 (.string ⟨#[]⟩) (.int .i64 0) (.int .i64 0) (.string ⟨#[]⟩) (.int .i64 0) (.int .i64 0) (.bool false) (.bool false) (.bool false))
    have HBZ := Lib.hid (HB.out.grown HGZ.out HB.out.size (fun k hk => by injection hk with hk; rw [← hk]; exact HQZ.out))
    have HOZ := Lib.hid (own_apart7 HO.out HGZ.out (fun k hk e => by have h1 := (HO.out.lt k hk).1; have h2 := HSW.out; injection e with e; omega))
    go_wp2
    obtain ⟨wz, hwz⟩ : ∃ x, (((((((((w12.setCell ⟨q2, 0, none⟩ (.string ⟨#[]⟩)).setCell ⟨q2, 1, none⟩ (.int .i64 0)).setCell ⟨q2, 2, none⟩ (.int .i64 0)).setCell ⟨q2, 3, none⟩ (.string ⟨#[]⟩)).setCell ⟨q2, 4, none⟩ (.int .i64 0)).setCell ⟨q2, 5, none⟩ (.int .i64 0)).setCell ⟨q2, 6, none⟩ (.bool false)).setCell ⟨q2, 7, none⟩ (.bool false)).setCell ⟨q2, 8, none⟩ (.bool false)) = x := ⟨_, rfl⟩
    rw [hwz] at KZ HBZ HOZ ⊢
    clear hwz HGZ y0 y1 y2 y3 y4 y5 y6 y7 y8 g0 g1 g2 g3 g4 g5 g6 g7 g8
    obtain ⟨z0, z1, z2, z3, z4, z5, z6, z7, z8, _⟩ := KZ.out.v9
    refine bodyPost_ret (v := .tuple #[.agg #[.string ⟨#[]⟩, .int .i64 0, .int .i64 0, .string ⟨#[]⟩, .int .i64 0, .int .i64 0, .bool false, .bool false, .bool false], .slice au nu cu, .bool false]) (by simp [results, Try.results9, go_sem, z0, z1, z2, z3, z4, z5, z6, z7, z8]) rfl (by show RdQ w (readO fr tcp (bs l)) _ _; rw [HV.out]; exact ⟨⟨_, rfl, by show World.ownsRow _ _ _ _ _ (encL2 (withP (failM h0 0 0 b4 [⟨qn, qt, qk⟩]) [optW 1]) 16000).length _; rw [HNU.out]; exact own_mono4 HOZ.out HSB.out⟩, HBZ.out⟩)
  have d5 := dF t5
  have HT5 := Lib.hid t5
  clear t5
  obtain ⟨p0, p1, p2, _⟩ := HQQ.out.v3
  obtain ⟨kk, hkk⟩ : ∃ x, askK ⟨qn, qt, qk⟩ = x := ⟨_, rfl⟩
  have HKK := Lib.hid hkk
  clear hkk
  go_wp2_with fail
  refine (fask_any qn qt qk _).mono ?_; rintro e w10 ⟨rfl, hb⟩
  replace HRB := Lib.hid (HRB.out.below hb)
  replace HB := Lib.hid (HB.out.trans (hb.mono HB.out.size))
  replace HC := Lib.hid (HC.out.below hb)
  replace HP := Lib.hid (HP.out.below hb)
  replace HM := Lib.hid (HM.out.below hb)
  replace HO5 := Lib.hid (HO5.out.below hb)
  replace HQQ := Lib.hid (HQQ.out.below hb)
  clear hb
  rw [HKK.out]
  clear p0 p1 p2 o0 o1 o2 o3 o4
  cases kk
  · have HV := Lib.hid (HR.out.trans (readM_ref (fr := fr) (tcp := tcp) (M := (⟨⟨h0, 0, h2, false, b2, b3, b4, b5⟩, [⟨qn, qt, qk⟩], A, N, X⟩ : MsgD)) rfl HNOT.out (by show ¬ 0 < (getO X).1.ver; rw [HG.out]; show ¬ 0 < ov; have := HT5.out; omega) HKK.out))
    obtain ⟨y0, y1, y2, y3, y4, y5, y6, y7, y8, y9, y10, y11, _⟩ := HM.out.u12
    obtain ⟨p0, p1, p2, _⟩ := HQQ.out.v3
    have hba := (Below.refl w10.heap.size w10).alloc (Nat.le_refl _) (.cells #[.string qn, .int .i64 qt, .int .i64 qk] 27)
    have HRQ := Lib.hid (rowQ_one w10 qn qt qk)
    replace HRB := Lib.hid (HRB.out.below hba)
    replace HB := Lib.hid (HB.out.trans (hba.mono HB.out.size))
    replace HC := Lib.hid (HC.out.below hba)
    replace HP := Lib.hid (HP.out.below hba)
    replace HM := Lib.hid (HM.out.below hba)
    replace HO5 := Lib.hid (HO5.out.below hba)
    replace HQQ := Lib.hid (HQQ.out.below hba)
    obtain ⟨wq, hwq⟩ : ∃ x, w10.alloc (.cells #[.string qn, .int .i64 qt, .int .i64 qk] 27) = x := ⟨_, rfl⟩
    obtain ⟨qq, hqq⟩ : ∃ x, w10.heap.size = x := ⟨_, rfl⟩
    rw [hwq, hqq] at HRQ
    rw [hwq] at HRB HB HC HP HM HO5 HQQ
    have HW := Lib.hid hwq
    have HQ_ := Lib.hid hqq
    clear hba hwq hqq
    go_wp2_with fail
    rw [HW.out, HQ_.out]
    clear HW HQ_
    have HSW := Lib.hid (show q2 < wq.heap.size from HC.out.1)
    have HSB := Lib.hid HB.out.size
    refine (ffail_any h0 0 5 b4 (some ⟨qq, 0, none⟩) 1 1 [⟨qn, qt, qk⟩] _ HRQ.out (fun h => by cases h) (by decide) (fun r hr => by rw [List.mem_singleton.1 hr]; exact HQN2.out)).mono ?_; rintro e w11 ⟨u, rfl, ho, hb⟩
    replace HRB := Lib.hid (HRB.out.below hb)
    replace HB := Lib.hid (HB.out.trans (hb.mono HB.out.size))
    replace HC := Lib.hid (HC.out.below hb)
    replace HP := Lib.hid (HP.out.below hb)
    replace HM := Lib.hid (HM.out.below hb)
    replace HO5 := Lib.hid (HO5.out.below hb)
    replace HQQ := Lib.hid (HQQ.out.below hb)
    clear hb
    clear y0 y1 y2 y3 y4 y5 y6 y7 y8 y9 y10 y11
    clear p0 p1 p2
    obtain ⟨nu, hnu⟩ : ∃ x, (failL h0 0 5 b4 [⟨qn, qt, qk⟩]).length = x := ⟨_, rfl⟩
    rw [hnu] at ho
    obtain ⟨au, cu, rfl, -⟩ := cellsK_own ho
    have HO := Lib.hid ho
    have HNU := Lib.hid hnu
    clear ho hnu
    obtain ⟨y0, y1, y2, y3, y4, y5, y6, y7, y8, g0, g1, g2, g3, g4, g5, g6, g7, g8⟩ := HC.out.v9
    have KZ := Lib.hid (HC.out.t9 (.string ⟨#[]⟩) (.int .i64 0) (.int .i64 0) (.string ⟨#[]⟩) (.int .i64 0) (.int .i64 0) (.bool false) (.bool false) (.bool false))
    have HGZ := Lib.hid (grown_t9 w11 q2 (.string ⟨#[]⟩) (.int .i64 0) (.int .i64 0) (.string ⟨#[]⟩) (.int .i64 0) (.int .i64 0) (.bool false) (.bool false) (.bool false))
    have HBZ := Lib.hid (HB.out.grown HGZ.out HB.out.size (fun k hk => by injection hk with hk; rw [← hk]; exact HQZ.out))
    have HOZ := Lib.hid (own_apart7 HO.out HGZ.out (fun k hk e => by have h1 := (HO.out.lt k hk).1; have h2 := HSW.out; injection e with e; omega))
    go_wp2
    obtain ⟨wz, hwz⟩ : ∃ x, (((((((((w11.setCell ⟨q2, 0, none⟩ (.string ⟨#[]⟩)).setCell ⟨q2, 1, none⟩ (.int .i64 0)).setCell ⟨q2, 2, none⟩ (.int .i64 0)).setCell ⟨q2, 3, none⟩ (.string ⟨#[]⟩)).setCell ⟨q2, 4, none⟩ (.int .i64 0)).setCell ⟨q2, 5, none⟩ (.int .i64 0)).setCell ⟨q2, 6, none⟩ (.bool false)).setCell ⟨q2, 7, none⟩ (.bool false)).setCell ⟨q2, 8, none⟩ (.bool false)) = x := ⟨_, rfl⟩
    rw [hwz] at KZ HBZ HOZ ⊢
    clear hwz HGZ y0 y1 y2 y3 y4 y5 y6 y7 y8 g0 g1 g2 g3 g4 g5 g6 g7 g8
    obtain ⟨z0, z1, z2, z3, z4, z5, z6, z7, z8, _⟩ := KZ.out.v9
    refine bodyPost_ret (v := .tuple #[.agg #[.string ⟨#[]⟩, .int .i64 0, .int .i64 0, .string ⟨#[]⟩, .int .i64 0, .int .i64 0, .bool false, .bool false, .bool false], .slice au nu cu, .bool false]) (by simp [results, Try.results9, go_sem, z0, z1, z2, z3, z4, z5, z6, z7, z8]) rfl (by show RdQ w (readO fr tcp (bs l)) _ _; rw [HV.out]; exact ⟨⟨_, rfl, by show World.ownsRow _ _ _ _ _ (failL h0 0 5 b4 [⟨qn, qt, qk⟩]).length _; rw [HNU.out]; exact own_mono4 HOZ.out HSB.out⟩, HBZ.out⟩)
  obtain ⟨y0, y1, y2, y3, y4, y5, y6, y7, y8, y9, y10, y11, _⟩ := HM.out.u12
  obtain ⟨p0, p1, p2, _⟩ := HQQ.out.v3
  have HSX2 := Lib.hid (show q2 < w10.heap.size from HC.out.1)
  have hba := (Below.refl _ _ : Below w10.heap.size w10 w10).alloc (Nat.le_refl _) (.cells #[.string qn, .int .i64 qt, .int .i64 qk, .string fr, .int .i64 h0, .int .i64 16000, .bool b4, .bool ok, .bool tcp] 29)
  have H16 := Lib.hid (CN.new w10 #[.string qn, .int .i64 qt, .int .i64 qk, .string fr, .int .i64 h0, .int .i64 16000, .bool b4, .bool ok, .bool tcp] 29)
  replace HRB := Lib.hid (HRB.out.below hba)
  replace HB := Lib.hid (HB.out.trans (hba.mono HB.out.size))
  replace HC := Lib.hid (HC.out.below hba)
  replace HP := Lib.hid (HP.out.below hba)
  replace HM := Lib.hid (HM.out.below hba)
  replace HO5 := Lib.hid (HO5.out.below hba)
  replace HQQ := Lib.hid (HQQ.out.below hba)
  obtain ⟨w11, hw⟩ : ∃ x, w10.alloc (.cells #[.string qn, .int .i64 qt, .int .i64 qk, .string fr, .int .i64 h0, .int .i64 16000, .bool b4, .bool ok, .bool tcp] 29) = x := ⟨_, rfl⟩
  obtain ⟨q11, hq⟩ : ∃ x, w10.heap.size = x := ⟨_, rfl⟩
  rw [hw, hq] at H16
  rw [hw] at HRB HB HC HP HM HO5 HQQ
  have HW := Lib.hid hw
  have HQ_ := Lib.hid hq
  have HQX := Lib.hid (show q2 < q11 from by rw [← hq]; exact HSX2.out)
  clear hba hw hq
  go_upto_region 18 with (fail)
  rw [HW.out, HQ_.out]
  clear HW HQ_
  clear y0 y1 y2 y3 y4 y5 y6 y7 y8 y9 y10 y11
  clear p0 p1 p2
  have HV1 := Lib.hid (HR.out.trans (readM_yes (fr := fr) (tcp := tcp) (M := (⟨⟨h0, 0, h2, false, b2, b3, b4, b5⟩, [⟨qn, qt, qk⟩], A, N, X⟩ : MsgD)) rfl HNOT.out (by show ¬ 0 < (getO X).1.ver; rw [HG.out]; show ¬ 0 < ov; have := HT5.out; omega) HKK.out))
  cases tcp
  rotate_left
  · have HV := Lib.hid (show readO fr true (bs l) = .inr ⟨⟨qn, qt, qk⟩, fr, h0, 16000, b4, ok, true⟩ from HV1.out.trans (by dsimp only; rw [HG.out]; rfl))
    obtain ⟨x0, x1, x2, x3, x4, x5, x6, x7, x8, _⟩ := H16.out.v9
    obtain ⟨y0, y1, y2, y3, y4, y5, y6, y7, y8, g0, g1, g2, g3, g4, g5, g6, g7, g8⟩ := HC.out.v9
    have KZ := Lib.hid (HC.out.t9 (.string qn) (.int .i64 qt) (.int .i64 qk) (.string fr) (.int .i64 h0) (.int .i64 16000) (.bool b4) (.bool ok) (.bool true))
    have HGZ := Lib.hid (grown_t9 w11 q2 (.string qn) (.int .i64 qt) (.int .i64 qk) (.string fr) (.int .i64 h0) (.int .i64 16000) (.bool b4) (.bool ok) (.bool true))
    have HBZ := Lib.hid (HB.out.grown HGZ.out HB.out.size (fun k hk => by injection hk with hk; rw [← hk]; exact HQZ.out))
    go_wp2
    obtain ⟨wz, hwz⟩ : ∃ x, (((((((((w11.setCell ⟨q2, 0, none⟩ (.string qn)).setCell ⟨q2, 1, none⟩ (.int .i64 qt)).setCell ⟨q2, 2, none⟩ (.int .i64 qk)).setCell ⟨q2, 3, none⟩ (.string fr)).setCell ⟨q2, 4, none⟩ (.int .i64 h0)).setCell ⟨q2, 5, none⟩ (.int .i64 16000)).setCell ⟨q2, 6, none⟩ (.bool b4)).setCell ⟨q2, 7, none⟩ (.bool ok)).setCell ⟨q2, 8, none⟩ (.bool true)) = x := ⟨_, rfl⟩
    rw [hwz] at KZ HBZ ⊢
    clear hwz HGZ y0 y1 y2 y3 y4 y5 y6 y7 y8 g0 g1 g2 g3 g4 g5 g6 g7 g8
    obtain ⟨z0, z1, z2, z3, z4, z5, z6, z7, z8, _⟩ := KZ.out.v9
    refine bodyPost_ret (v := .tuple #[.agg #[.string qn, .int .i64 qt, .int .i64 qk, .string fr, .int .i64 h0, .int .i64 16000, .bool b4, .bool ok, .bool true], .slice none 0 0, .bool true]) (by simp [results, Try.results9, go_sem, z0, z1, z2, z3, z4, z5, z6, z7, z8]) rfl (by show RdQ w (readO fr true (bs l)) _ _; rw [HV.out]; exact ⟨⟨_, rfl, World.ownsRow_nil _ _ _ _⟩, HBZ.out⟩)
  obtain ⟨sz, hsz⟩ : ∃ x, sizeO X 512 1232 = x := ⟨_, rfl⟩
  have HSO := Lib.hid hsz
  clear hsz
  have HV := Lib.hid (show readO fr false (bs l) = .inr ⟨⟨qn, qt, qk⟩, fr, h0, sz, b4, ok, false⟩ from HV1.out.trans (by dsimp only; rw [HG.out, HSO.out]; rfl))
  obtain ⟨y0, y1, y2, y3, y4, y5, y6, y7, y8, y9, y10, y11, _⟩ := HM.out.u12
  go_wp2_with fail
  refine (sizeM_any _ (⟨h0, 0, h2, false, b2, b3, b4, b5, [⟨qn, qt, qk⟩], A, N, X⟩ : MsgP) _ 512 1232 HP.out HXL.out).mono ?_; rintro e w12 ⟨rfl, hb⟩
  replace HRB := Lib.hid (HRB.out.below hb)
  replace HB := Lib.hid (HB.out.trans (hb.mono HB.out.size))
  replace HC := Lib.hid (HC.out.below hb)
  replace HP := Lib.hid (HP.out.below hb)
  replace HM := Lib.hid (HM.out.below hb)
  replace HO5 := Lib.hid (HO5.out.below hb)
  replace HQQ := Lib.hid (HQQ.out.below hb)
  replace H16 := Lib.hid (H16.out.below hb)
  clear hb
  rw [HSO.out]
  clear y0 y1 y2 y3 y4 y5 y6 y7 y8 y9 y10 y11
  obtain ⟨x0, x1, x2, x3, x4, x5, x6, x7, x8, k0, k1, k2, k3, k4, k5, k6, k7, k8⟩ := H16.out.v9
  have K16 := Lib.hid (show CN (w12.setCell ⟨q11, 5, none⟩ (.int .i64 sz)) q11 [.string qn, .int .i64 qt, .int .i64 qk, .string fr, .int .i64 h0, .int .i64 sz, .bool b4, .bool ok, .bool false] from H16.out.set 5 (by simp) (.int .i64 sz))
  have HG6 := Lib.hid (grown_cell w12 q11 5 (.int .i64 sz))
  replace HC := Lib.hid (HC.out.grown HG6.out (fun e => by have := HQX.out; injection e with e; omega))
  replace HB := Lib.hid (HB.out.grown HG6.out HB.out.size (fun k hk => by injection hk with hk; have h1 := HQX.out; have h2 := HQZ.out; omega))
  go_upto_region 20 with (fail)
  obtain ⟨wy, hwy⟩ : ∃ x, (w12.setCell ⟨q11, 5, none⟩ (.int .i64 sz)) = x := ⟨_, rfl⟩
  rw [hwy] at K16 HB HC ⊢
  clear hwy HG6 H16 x0 x1 x2 x3 x4 x5 x6 x7 x8 k0 k1 k2 k3 k4 k5 k6 k7 k8
  obtain ⟨x0, x1, x2, x3, x4, x5, x6, x7, x8, _⟩ := K16.out.v9
  obtain ⟨y0, y1, y2, y3, y4, y5, y6, y7, y8, g0, g1, g2, g3, g4, g5, g6, g7, g8⟩ := HC.out.v9
  have KZ := Lib.hid (HC.out.t9 (.string qn) (.int .i64 qt) (.int .i64 qk) (.string fr) (.int .i64 h0) (.int .i64 sz) (.bool b4) (.bool ok) (.bool false))
  have HGZ := Lib.hid (grown_t9 wy q2 (.string qn) (.int .i64 qt) (.int .i64 qk) (.string fr) (.int .i64 h0) (.int .i64 sz) (.bool b4) (.bool ok) (.bool false))
  have HBZ := Lib.hid (HB.out.grown HGZ.out HB.out.size (fun k hk => by injection hk with hk; rw [← hk]; exact HQZ.out))
  go_wp2
  obtain ⟨wz, hwz⟩ : ∃ x, (((((((((wy.setCell ⟨q2, 0, none⟩ (.string qn)).setCell ⟨q2, 1, none⟩ (.int .i64 qt)).setCell ⟨q2, 2, none⟩ (.int .i64 qk)).setCell ⟨q2, 3, none⟩ (.string fr)).setCell ⟨q2, 4, none⟩ (.int .i64 h0)).setCell ⟨q2, 5, none⟩ (.int .i64 sz)).setCell ⟨q2, 6, none⟩ (.bool b4)).setCell ⟨q2, 7, none⟩ (.bool ok)).setCell ⟨q2, 8, none⟩ (.bool false)) = x := ⟨_, rfl⟩
  rw [hwz] at KZ HBZ ⊢
  clear hwz HGZ y0 y1 y2 y3 y4 y5 y6 y7 y8 g0 g1 g2 g3 g4 g5 g6 g7 g8
  obtain ⟨z0, z1, z2, z3, z4, z5, z6, z7, z8, _⟩ := KZ.out.v9
  refine bodyPost_ret (v := .tuple #[.agg #[.string qn, .int .i64 qt, .int .i64 qk, .string fr, .int .i64 h0, .int .i64 sz, .bool b4, .bool ok, .bool false], .slice none 0 0, .bool true]) (by simp [results, Try.results9, go_sem, z0, z1, z2, z3, z4, z5, z6, z7, z8]) rfl (by show RdQ w (readO fr false (bs l)) _ _; rw [HV.out]; exact ⟨⟨_, rfl, World.ownsRow_nil _ _ _ _⟩, HBZ.out⟩)

end Go.Proofs.Ytgppkpdjpcegbaa
