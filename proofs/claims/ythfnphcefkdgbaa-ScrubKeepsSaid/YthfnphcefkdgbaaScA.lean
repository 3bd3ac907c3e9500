/- Contract of scrub.answered. -/
import Derived.Test.YthfnphcefkdgbaaScO
namespace Go.Proofs.Ythfnphcefkdgbaa
open Go.RowKit

def ScL (l : List R5) : Prop := l.length ≤ 10000 ∧ (∀ r ∈ l, r.k.n.size ≤ 1000000) ∧ ∀ r ∈ l, r.d.size ≤ 1000000
def ScM (m : MsgP) : Prop := ScL m.a ∧ ScL m.n ∧ ScL m.x
/-- Something is told, or not. -/
def OkO (o : Option OutP) (w : World) (e : Ending) (w' : World) : Prop := (∃ v, e = .returned (.tuple #[v, .bool o.isSome]) ∧ OutUp w' w.heap.size v (o.getD badO)) ∧ Below w.heap.size w w'

set_option maxRecDepth 100000 in
set_option maxHeartbeats 8000000 in
theorem answered_any (cut qn : ByteArray) (qt qc : Int) (m : MsgP) (mv : Value) (w : World) (h : MsgAt w mv m) (hs : ScM m) (hc : cut.size ≤ 1000000) :
    Calls Try.prog 71 #[.string cut, .agg #[.string qn, .int .i64 qt, .int .i64 qc], mv] w fun e w' => OkO (ansO (wiF cut m.a) qn qt qc (rankF m.b2)) w e w' := by
  obtain ⟨mi, mo, mr, b1, b2, b3, b4, b5, Q, A, N, X⟩ := m
  obtain ⟨pa, pc, aa, ac, na, nc, xa, xc, rfl, -, ⟨hra, -⟩, ⟨hrn, -⟩, ⟨hrx, -⟩⟩ := h
  obtain ⟨⟨hl1, hk1, hd1⟩, ⟨hl2, hk2, hd2⟩, ⟨hl3, hk3, hd3⟩⟩ := hs
  dsimp only at *
  obtain ⟨pl, hpl⟩ : ∃ x, Q.length = x := ⟨_, rfl⟩
  obtain ⟨al, hal⟩ : ∃ x, A.length = x := ⟨_, rfl⟩
  obtain ⟨nl, hnl⟩ : ∃ x, N.length = x := ⟨_, rfl⟩
  obtain ⟨xl, hxl⟩ : ∃ x, X.length = x := ⟨_, rfl⟩
  rw [hal] at hra hl1
  rw [hnl] at hrn hl2
  rw [hxl] at hrx hl3
  rw [hpl, hal, hnl, hxl]
  have HCT := Lib.hid hc
  have HB := Lib.hid (Below.refl w.heap.size w)
  have HRa := Lib.hid hra
  have HLa := Lib.hid hl1
  have HKa := Lib.hid hk1
  have HDa := Lib.hid hd1
  clear hra hrn hrx hl1 hk1 hd1 hl2 hk2 hd2 hl3 hk3 hd3 hpl hal hnl hxl hc
  go_enter Try.func71, Try.ntmps71
  have hba := (Below.refl _ _ : Below w.heap.size w w).alloc (Nat.le_refl _) (.cells #[.string qn, .int .i64 qt, .int .i64 qc] 71)
  have C1 := Lib.hid (CN.new w #[.string qn, .int .i64 qt, .int .i64 qc] 71)
  replace HRa := Lib.hid (HRa.out.below hba)
  replace HB := Lib.hid (HB.out.trans (hba.mono HB.out.size))
  obtain ⟨w2, hw⟩ : ∃ x, w.alloc (.cells #[.string qn, .int .i64 qt, .int .i64 qc] 71) = x := ⟨_, rfl⟩
  obtain ⟨q2, hq⟩ : ∃ x, w.heap.size = x := ⟨_, rfl⟩
  rw [hw, hq] at C1
  rw [hw] at HRa HB
  have HWw2 := Lib.hid hw
  have HQq2 := Lib.hid hq
  clear hba hw hq
  have hba := (Below.refl _ _ : Below w2.heap.size w2 w2).alloc (Nat.le_refl _) (.cells #[.int .i64 mi, .int .i64 mo, .int .i64 mr, .bool b1, .bool b2, .bool b3, .bool b4, .bool b5, .slice pa pl pc, .slice aa al ac, .slice na nl nc, .slice xa xl xc] 77)
  have C2 := Lib.hid (CN.new w2 #[.int .i64 mi, .int .i64 mo, .int .i64 mr, .bool b1, .bool b2, .bool b3, .bool b4, .bool b5, .slice pa pl pc, .slice aa al ac, .slice na nl nc, .slice xa xl xc] 77)
  replace HRa := Lib.hid (HRa.out.below hba)
  replace HB := Lib.hid (HB.out.trans (hba.mono HB.out.size))
  replace C1 := Lib.hid (C1.out.below hba)
  obtain ⟨w3, hw⟩ : ∃ x, w2.alloc (.cells #[.int .i64 mi, .int .i64 mo, .int .i64 mr, .bool b1, .bool b2, .bool b3, .bool b4, .bool b5, .slice pa pl pc, .slice aa al ac, .slice na nl nc, .slice xa xl xc] 77) = x := ⟨_, rfl⟩
  obtain ⟨q3, hq⟩ : ∃ x, w2.heap.size = x := ⟨_, rfl⟩
  rw [hw, hq] at C2
  rw [hw] at HRa HB C1
  have HSq3 := Lib.hid (show q2 + 1 = q3 by rw [← HQq2.out, ← hq, ← HWw2.out, World.size_alloc])
  have HWw3 := Lib.hid hw
  have HQq3 := Lib.hid hq
  clear hba hw hq
  have hba := (Below.refl _ _ : Below w3.heap.size w3 w3).alloc (Nat.le_refl _) (.cells #[.int .i64 0, .int .i64 0, .slice none 0 0, .string ⟨#[]⟩] 81)
  have C3 := Lib.hid (CN.new w3 #[.int .i64 0, .int .i64 0, .slice none 0 0, .string ⟨#[]⟩] 81)
  replace HRa := Lib.hid (HRa.out.below hba)
  replace HB := Lib.hid (HB.out.trans (hba.mono HB.out.size))
  replace C1 := Lib.hid (C1.out.below hba)
  replace C2 := Lib.hid (C2.out.below hba)
  obtain ⟨w4, hw⟩ : ∃ x, w3.alloc (.cells #[.int .i64 0, .int .i64 0, .slice none 0 0, .string ⟨#[]⟩] 81) = x := ⟨_, rfl⟩
  obtain ⟨q4, hq⟩ : ∃ x, w3.heap.size = x := ⟨_, rfl⟩
  rw [hw, hq] at C3
  rw [hw] at HRa HB C1 C2
  have HSq4 := Lib.hid (show q3 + 1 = q4 by rw [← HQq3.out, ← hq, ← HWw3.out, World.size_alloc])
  have HWw4 := Lib.hid hw
  have HQq4 := Lib.hid hq
  clear hba hw hq
  go_upto_region 1 with (fail)
  rw [HWw2.out, HWw3.out, HWw4.out]
  rw [show (Value.pointer (some { block := w.heap.size + 1 + 1, off := 0 })) = Value.pointer (some { block := q4, off := 0 }) by rw [HQq2.out, HSq3.out, HSq4.out]]
  rw [show (Value.pointer (some { block := w.heap.size + 1, off := 0 })) = Value.pointer (some { block := q3, off := 0 }) by rw [HQq2.out, HSq3.out]]
  rw [show (Value.pointer (some { block := w.heap.size, off := 0 })) = Value.pointer (some { block := q2, off := 0 }) by rw [HQq2.out]]
  have HQZ := Lib.hid (show w.heap.size ≤ q4 by have h := HSq3.out; have h2 := HSq4.out; have h3 := HQq2.out; omega)
  obtain ⟨m0, m1, m2, m3, m4, m5, m6, m7, m8, m9, m10, m11, _⟩ := C2.out.u12
  have HFAR := Lib.hid C3.out.1
  go_wp2_with fail
  refine (within_any cut aa al ac A w4 HRa.out (Nat.le_trans HLa.out (by decide)) HKa.out HDa.out HCT.out).mono ?_; rintro e w5 ⟨waa, wca, Sa, rfl, hS, hs1, hs2, hsu, hso, hb⟩
  clear m0 m1 m2 m3 m4 m5 m6 m7 m8 m9 m10 m11
  replace HRa := Lib.hid (HRa.out.below hb)
  replace HB := Lib.hid (HB.out.trans (hb.mono HB.out.size))
  replace C1 := Lib.hid (C1.out.below hb)
  replace C2 := Lib.hid (C2.out.below hb)
  replace C3 := Lib.hid (C3.out.below hb)
  clear hb
  have HSa := Lib.hid hS
  have HSMa := Lib.hid (show ∀ s ∈ Sa, s.k.n.size ≤ 1000000 ∧ s.data.length ≤ 100000 ∧ ∀ d ∈ s.data, d.size ≤ 1000000 by have h := wiF_small (cut := cut) (by rw [HRa.out.1]; exact Nat.le_trans HLa.out (by decide)) HKa.out HDa.out (by rw [hS]; exact hs1); rw [hS] at h; exact h)
  have HZLa := Lib.hid (show Sa.length ≤ 10000 by have h := HLa.out; rw [← HRa.out.1] at h; omega)
  obtain ⟨zla, hzl⟩ : ∃ x, Sa.length = x := ⟨_, rfl⟩
  rw [hzl] at hsu HZLa ⊢
  have HSUa := Lib.hid hsu
  have HLNa := Lib.hid hzl
  clear hS hs1 hs2 hsu hso hzl
  clear HRa
  cases b2
  · obtain ⟨p0, p1, p2, _⟩ := C1.out.u3
    obtain ⟨m0, m1, m2, m3, m4, m5, m6, m7, m8, m9, m10, m11, _⟩ := C2.out.u12
    have HSA := Lib.hid HSUa.out.at
    have HFA := Lib.hid (show q4 + 1 ≤ w5.heap.size from C3.out.1)
    go_wp2_with fail
    refine (find_any waa zla wca Sa qn qt qc w5 HSA.out (Nat.le_trans HZLa.out (by decide)) (fun s hs => (HSMa.out s hs).2.1)).mono ?_; rintro e w6 ⟨hf, hb⟩
    clear p0 p1 p2 m0 m1 m2 m3 m4 m5 m6 m7 m8 m9 m10 m11
    replace HB := Lib.hid (HB.out.trans (hb.mono HB.out.size))
    replace C1 := Lib.hid (C1.out.below hb)
    replace C2 := Lib.hid (C2.out.below hb)
    replace C3 := Lib.hid (C3.out.below hb)
    replace HSUa := Lib.hid (HSUa.out.below hb)
    clear hb
    clear HSA
    obtain ⟨⟨⟨sn, st, sk⟩, su, sd⟩, da, dc, hgd, rfl, hor⟩ := found_getC hf
    replace hor : w6.ownsRow w5.heap.size 9 1 (.slice da sd.length dc) sd.length (sc sd) := hor
    dsimp only
    obtain ⟨dl, hdl⟩ : ∃ x, sd.length = x := ⟨_, rfl⟩
    rw [hdl] at hor ⊢
    have HDL := Lib.hid hdl
    have HO := Lib.hid (own_mono4 hor HFA.out)
    have HGD := Lib.hid hgd
    clear hf hdl hor hgd HFA
    have hba := (Below.refl _ _ : Below w6.heap.size w6 w6).alloc (Nat.le_refl _) (.cells #[.string sn, .int .i64 st, .int .i64 sk, .int .i64 su, .slice da dl dc] 39)
    have D1 := Lib.hid (CN.new w6 #[.string sn, .int .i64 st, .int .i64 sk, .int .i64 su, .slice da dl dc] 39)
    replace HB := Lib.hid (HB.out.trans (hba.mono HB.out.size))
    replace C1 := Lib.hid (C1.out.below hba)
    replace C2 := Lib.hid (C2.out.below hba)
    replace C3 := Lib.hid (C3.out.below hba)
    replace HSUa := Lib.hid (HSUa.out.below hba)
    replace HO := Lib.hid (own_below' HO.out hba)
    obtain ⟨w7, hw⟩ : ∃ x, w6.alloc (.cells #[.string sn, .int .i64 st, .int .i64 sk, .int .i64 su, .slice da dl dc] 39) = x := ⟨_, rfl⟩
    obtain ⟨q7, hq⟩ : ∃ x, w6.heap.size = x := ⟨_, rfl⟩
    rw [hw, hq] at D1
    rw [hw] at HB C1 C2 C3 HSUa HO
    have HW := Lib.hid hw
    have HQ_ := Lib.hid hq
    clear hba hw hq
    go_upto_region 6 with (fail)
    rw [HW.out, HQ_.out]
    clear HW HQ_
    cases hfk : findK Sa ⟨qn, qt, qc⟩ with
    | some s =>
      have hs := HGD.out
      rw [hfk] at hs
      obtain rfl : s = ⟨⟨sn, st, sk⟩, su, sd⟩ := hs
      have HV := Lib.hid (show ansO (wiF cut A) qn qt qc (rankF false) = some ⟨1, 0, [(⟨⟨sn, st, sk⟩, su, sd⟩, 3)], emB⟩ by rw [show rankF false = 3 from rfl, HSa.out, ansO, hfk])
      clear HGD
      simp only [Option.isSome_some]
      go_upto_region 7 with (fail)
      obtain ⟨y0, y1, y2, y3, y4, _⟩ := D1.out.u5
      have HS1 := Lib.hid (RkUp.one (w := w7) (sn := sn) (st := st) (sk := sk) (su := su) 3 HDL.out HO.out C3.out.1)
      iterate 13 go_step
      have hba := (Below.refl _ _ : Below w7.heap.size w7 w7).alloc (Nat.le_refl _) (.cells #[.string sn, .int .i64 st, .int .i64 sk, .int .i64 su, .slice da dl dc, .int .i64 3] 85)
      replace HB := Lib.hid (HB.out.trans (hba.mono HB.out.size))
      replace C1 := Lib.hid (C1.out.below hba)
      replace C2 := Lib.hid (C2.out.below hba)
      replace C3 := Lib.hid (C3.out.below hba)
      replace HSUa := Lib.hid (HSUa.out.below hba)
      replace HO := Lib.hid (own_below' HO.out hba)
      replace D1 := Lib.hid (D1.out.below hba)
      clear hba
      obtain ⟨w8, hwA⟩ : ∃ x, w7.alloc (.cells #[.string sn, .int .i64 st, .int .i64 sk, .int .i64 su, .slice da dl dc, .int .i64 3] 85) = x := ⟨_, rfl⟩
      obtain ⟨q8, hgA⟩ : ∃ x, w7.heap.size = x := ⟨_, rfl⟩
      rw [hwA] at HB C1 C2 C3 HSUa HO D1 HS1 ⊢
      rw [hgA] at HS1 ⊢
      clear hwA hgA
      clear y0 y1 y2 y3 y4
      obtain ⟨y0, y1, y2, y3, g0, g1, g2, g3⟩ := C3.out.o4
      have KZ := Lib.hid (C3.out.p4 (.int .i64 1) (.int .i64 0) (.slice (some ⟨q8, 0, none⟩) 1 1) (.string ⟨#[]⟩))
      have HGZ := Lib.hid (grown_p4 w8 q4 (.int .i64 1) (.int .i64 0) (.slice (some ⟨q8, 0, none⟩) 1 1) (.string ⟨#[]⟩))
      have HBZ := Lib.hid (HB.out.grown HGZ.out HB.out.size (fun k hk => by injection hk with hk; rw [← hk]; exact HQZ.out))
      have HS1Z := Lib.hid (HS1.out.far HGZ.out (Nat.lt_succ_self _))
      repeat go_step
      obtain ⟨wz, hwz⟩ : ∃ x, ((((w8.setCell ⟨q4, 0, none⟩ (.int .i64 1)).setCell ⟨q4, 1, none⟩ (.int .i64 0)).setCell ⟨q4, 2, none⟩ (.slice (some ⟨q8, 0, none⟩) 1 1)).setCell ⟨q4, 3, none⟩ (.string ⟨#[]⟩)) = x := ⟨_, rfl⟩
      rw [hwz] at KZ HBZ HS1Z ⊢
      clear hwz HGZ y0 y1 y2 y3 g0 g1 g2 g3
      obtain ⟨z0, z1, z2, z3, _⟩ := KZ.out.o4
      refine bodyPost_ret (v := .tuple #[.agg #[.int .i64 1, .int .i64 0, .slice (some ⟨q8, 0, none⟩) 1 1, .string ⟨#[]⟩], .bool true]) (by simp [results, Try.results71, go_sem, z0, z1, z2, z3]) rfl ⟨⟨_, by rw [HV.out]; rfl, by rw [HV.out]; exact ⟨_, _, _, rfl, HS1Z.out.mono (Nat.le_succ_of_le HQZ.out), fun h => by cases h⟩⟩, HBZ.out⟩
    | none =>
      clear HGD
      simp only [Option.isSome_none]
      clear HO D1
      obtain ⟨p0, p1, p2, _⟩ := C1.out.u3
      have HSA := Lib.hid HSUa.out.at
      have HFA := Lib.hid (show q4 + 1 ≤ w7.heap.size from C3.out.1)
      go_wp2_with fail
      refine (find_any waa zla wca Sa qn 5 1 w7 HSA.out (Nat.le_trans HZLa.out (by decide)) (fun s hs => (HSMa.out s hs).2.1)).mono ?_; rintro e w8 ⟨hf, hb⟩
      clear p0 p1 p2
      replace HB := Lib.hid (HB.out.trans (hb.mono HB.out.size))
      replace C1 := Lib.hid (C1.out.below hb)
      replace C2 := Lib.hid (C2.out.below hb)
      replace C3 := Lib.hid (C3.out.below hb)
      replace HSUa := Lib.hid (HSUa.out.below hb)
      clear hb
      clear HSA
      obtain ⟨⟨⟨sn, st, sk⟩, su, sd⟩, da, dc, hgd, rfl, hor⟩ := found_getC hf
      replace hor : w8.ownsRow w7.heap.size 9 1 (.slice da sd.length dc) sd.length (sc sd) := hor
      dsimp only
      obtain ⟨dl, hdl⟩ : ∃ x, sd.length = x := ⟨_, rfl⟩
      rw [hdl] at hor ⊢
      have HDL := Lib.hid hdl
      have HO := Lib.hid (own_mono4 hor HFA.out)
      have HGD := Lib.hid hgd
      clear hf hdl hor hgd HFA
      have hba := (Below.refl _ _ : Below w8.heap.size w8 w8).alloc (Nat.le_refl _) (.cells #[.string sn, .int .i64 st, .int .i64 sk, .int .i64 su, .slice da dl dc] 39)
      have D2 := Lib.hid (CN.new w8 #[.string sn, .int .i64 st, .int .i64 sk, .int .i64 su, .slice da dl dc] 39)
      replace HB := Lib.hid (HB.out.trans (hba.mono HB.out.size))
      replace C1 := Lib.hid (C1.out.below hba)
      replace C2 := Lib.hid (C2.out.below hba)
      replace C3 := Lib.hid (C3.out.below hba)
      replace HSUa := Lib.hid (HSUa.out.below hba)
      replace HO := Lib.hid (own_below' HO.out hba)
      obtain ⟨w9, hw⟩ : ∃ x, w8.alloc (.cells #[.string sn, .int .i64 st, .int .i64 sk, .int .i64 su, .slice da dl dc] 39) = x := ⟨_, rfl⟩
      obtain ⟨q9, hq⟩ : ∃ x, w8.heap.size = x := ⟨_, rfl⟩
      rw [hw, hq] at D2
      rw [hw] at HB C1 C2 C3 HSUa HO
      have HW := Lib.hid hw
      have HQ_ := Lib.hid hq
      clear hba hw hq
      go_upto_region 9 with (fail)
      rw [HW.out, HQ_.out]
      clear HW HQ_
      cases hfk2 : findK Sa ⟨qn, 5, 1⟩ with
      | none =>
        simp only [Option.isSome_none]
        go_upto_region 10 with (fail)
        have HV := Lib.hid (show ansO (wiF cut A) qn qt qc (rankF false) = none by rw [show rankF false = 3 from rfl, HSa.out, ansO, hfk]; show aliO Sa qn qt 3 = none; rw [aliO, hfk2])
        obtain ⟨y0, y1, y2, y3, g0, g1, g2, g3⟩ := C3.out.o4
        have KZ := Lib.hid (C3.out.p4 (.int .i64 0) (.int .i64 0) (.slice none 0 0) (.string ⟨#[]⟩))
        have HGZ := Lib.hid (grown_p4 w9 q4 (.int .i64 0) (.int .i64 0) (.slice none 0 0) (.string ⟨#[]⟩))
        have HBZ := Lib.hid (HB.out.grown HGZ.out HB.out.size (fun k hk => by injection hk with hk; rw [← hk]; exact HQZ.out))
        repeat go_step
        obtain ⟨wz, hwz⟩ : ∃ x, ((((w9.setCell ⟨q4, 0, none⟩ (.int .i64 0)).setCell ⟨q4, 1, none⟩ (.int .i64 0)).setCell ⟨q4, 2, none⟩ (.slice none 0 0)).setCell ⟨q4, 3, none⟩ (.string ⟨#[]⟩)) = x := ⟨_, rfl⟩
        rw [hwz] at KZ HBZ ⊢
        clear hwz HGZ y0 y1 y2 y3 g0 g1 g2 g3
        obtain ⟨z0, z1, z2, z3, _⟩ := KZ.out.o4
        refine bodyPost_ret (v := .tuple #[.agg #[.int .i64 0, .int .i64 0, .slice none 0 0, .string ⟨#[]⟩], .bool false]) (by simp [results, Try.results71, go_sem, z0, z1, z2, z3]) rfl ⟨⟨_, by rw [HV.out]; rfl, by rw [HV.out]; exact OutUp.bad _ _⟩, HBZ.out⟩
      | some s =>
        have hs := HGD.out
        rw [hfk2] at hs
        obtain rfl : s = ⟨⟨sn, st, sk⟩, su, sd⟩ := hs
        have HMEM := Lib.hid (find_memC hfk2)
        simp only [Option.isSome_some]
        clear HGD
        obtain ⟨y0, y1, y2, y3, y4, _⟩ := D2.out.u5
        obtain ⟨p0, p1, p2, _⟩ := C1.out.u3
        by_cases h1 : dl = 1
        · by_cases h5 : qt = 5
          · have f2 : (qt == 5) = true := eT h5
            have f1 : ((dl : Int) != 1) = false := nF (by omega)
            have HV := Lib.hid (show ansO (wiF cut A) qn qt qc (rankF false) = none by rw [show rankF false = 3 from rfl, HSa.out, ansO, hfk]; show aliO Sa qn qt 3 = none; rw [aliO, hfk2]; exact if_neg (fun h => h.2 h5))
            clear h1 h5
            go_upto_region 10 with (fail)
            clear y0 y1 y2 y3 y4 p0 p1 p2
            clear f1 f2
            have HV := Lib.hid (show ansO (wiF cut A) qn qt qc (rankF false) = none by exact HV.out)
            obtain ⟨y0, y1, y2, y3, g0, g1, g2, g3⟩ := C3.out.o4
            have KZ := Lib.hid (C3.out.p4 (.int .i64 0) (.int .i64 0) (.slice none 0 0) (.string ⟨#[]⟩))
            have HGZ := Lib.hid (grown_p4 w9 q4 (.int .i64 0) (.int .i64 0) (.slice none 0 0) (.string ⟨#[]⟩))
            have HBZ := Lib.hid (HB.out.grown HGZ.out HB.out.size (fun k hk => by injection hk with hk; rw [← hk]; exact HQZ.out))
            repeat go_step
            obtain ⟨wz, hwz⟩ : ∃ x, ((((w9.setCell ⟨q4, 0, none⟩ (.int .i64 0)).setCell ⟨q4, 1, none⟩ (.int .i64 0)).setCell ⟨q4, 2, none⟩ (.slice none 0 0)).setCell ⟨q4, 3, none⟩ (.string ⟨#[]⟩)) = x := ⟨_, rfl⟩
            rw [hwz] at KZ HBZ ⊢
            clear hwz HGZ y0 y1 y2 y3 g0 g1 g2 g3
            obtain ⟨z0, z1, z2, z3, _⟩ := KZ.out.o4
            refine bodyPost_ret (v := .tuple #[.agg #[.int .i64 0, .int .i64 0, .slice none 0 0, .string ⟨#[]⟩], .bool false]) (by simp [results, Try.results71, go_sem, z0, z1, z2, z3]) rfl ⟨⟨_, by rw [HV.out]; rfl, by rw [HV.out]; exact OutUp.bad _ _⟩, HBZ.out⟩
          · have f2 : (qt == 5) = false := eF h5
            have f1 : ((dl : Int) != 1) = false := nF (by omega)
            obtain ⟨d0, hd0⟩ : ∃ d, sd = [d] := List.length_eq_one_iff.1 (HDL.out.trans h1)
            subst hd0
            have HV := Lib.hid (show ansO (wiF cut A) qn qt qc (rankF false) = some ⟨2, 0, [(⟨⟨sn, st, sk⟩, su, [d0]⟩, 3)], tgS 5 d0⟩ by rw [show rankF false = 3 from rfl, HSa.out, ansO, hfk]; show aliO Sa qn qt 3 = _; rw [aliO, hfk2]; exact if_pos ⟨rfl, h5⟩)
            subst h1
            clear h5
            go_upto_region 11 with (fail)
            clear f1 f2
            clear y0 y1 y2 y3 y4 p0 p1 p2
            obtain ⟨y0, y1, y2, y3, y4, _⟩ := D2.out.u5
            obtain ⟨a', c', he, hdr, -⟩ := rowS_of_own HO.out
            simp only [Value.slice.injEq] at he
            obtain ⟨rfl, -, rfl⟩ := he
            rcases hdr.2 with h9 | ⟨db, dof, rfl, hdb, hdc⟩
            · omega
            have c0 := hdc 0 (by omega)
            rw [show [d0].getD 0 ByteArray.empty = d0 from rfl, Nat.add_zero] at c0
            clear hdr hdb hdc
            have HTG := Lib.hid (fun wx => target_any 5 d0 wx ((HSMa.out _ HMEM.out).2.2 d0 (by simp)))
            go_wp2_with fail
            refine (HTG.out _).mono ?_; rintro e w10 ⟨rfl, hb⟩
            clear y0 y1 y2 y3 y4 c0
            replace HB := Lib.hid (HB.out.trans (hb.mono HB.out.size))
            replace C1 := Lib.hid (C1.out.below hb)
            replace C2 := Lib.hid (C2.out.below hb)
            replace C3 := Lib.hid (C3.out.below hb)
            replace HSUa := Lib.hid (HSUa.out.below hb)
            replace HO := Lib.hid (own_below' HO.out hb)
            replace D2 := Lib.hid (D2.out.below hb)
            clear hb
            go_upto_region 12 with (fail)
            obtain ⟨y0, y1, y2, y3, y4, _⟩ := D2.out.u5
            have HS1 := Lib.hid (RkUp.one (w := w10) (sn := sn) (st := st) (sk := sk) (su := su) 3 HDL.out HO.out C3.out.1)
            iterate 13 go_step
            have hba := (Below.refl _ _ : Below w10.heap.size w10 w10).alloc (Nat.le_refl _) (.cells #[.string sn, .int .i64 st, .int .i64 sk, .int .i64 su, .slice (some ⟨db, dof, none⟩) 1 dc, .int .i64 3] 85)
            replace HB := Lib.hid (HB.out.trans (hba.mono HB.out.size))
            replace C1 := Lib.hid (C1.out.below hba)
            replace C2 := Lib.hid (C2.out.below hba)
            replace C3 := Lib.hid (C3.out.below hba)
            replace HSUa := Lib.hid (HSUa.out.below hba)
            replace HO := Lib.hid (own_below' HO.out hba)
            replace D2 := Lib.hid (D2.out.below hba)
            clear hba
            obtain ⟨w11, hwA⟩ : ∃ x, w10.alloc (.cells #[.string sn, .int .i64 st, .int .i64 sk, .int .i64 su, .slice (some ⟨db, dof, none⟩) 1 dc, .int .i64 3] 85) = x := ⟨_, rfl⟩
            obtain ⟨q11, hgA⟩ : ∃ x, w10.heap.size = x := ⟨_, rfl⟩
            rw [hwA] at HB C1 C2 C3 HSUa HO D2 HS1 ⊢
            rw [hgA] at HS1 ⊢
            clear hwA hgA
            clear y0 y1 y2 y3 y4
            obtain ⟨y0, y1, y2, y3, g0, g1, g2, g3⟩ := C3.out.o4
            have KZ := Lib.hid (C3.out.p4 (.int .i64 2) (.int .i64 0) (.slice (some ⟨q11, 0, none⟩) 1 1) (.string (tgS 5 d0)))
            have HGZ := Lib.hid (grown_p4 w11 q4 (.int .i64 2) (.int .i64 0) (.slice (some ⟨q11, 0, none⟩) 1 1) (.string (tgS 5 d0)))
            have HBZ := Lib.hid (HB.out.grown HGZ.out HB.out.size (fun k hk => by injection hk with hk; rw [← hk]; exact HQZ.out))
            have HS1Z := Lib.hid (HS1.out.far HGZ.out (Nat.lt_succ_self _))
            repeat go_step
            obtain ⟨wz, hwz⟩ : ∃ x, ((((w11.setCell ⟨q4, 0, none⟩ (.int .i64 2)).setCell ⟨q4, 1, none⟩ (.int .i64 0)).setCell ⟨q4, 2, none⟩ (.slice (some ⟨q11, 0, none⟩) 1 1)).setCell ⟨q4, 3, none⟩ (.string (tgS 5 d0))) = x := ⟨_, rfl⟩
            rw [hwz] at KZ HBZ HS1Z ⊢
            clear hwz HGZ y0 y1 y2 y3 g0 g1 g2 g3
            obtain ⟨z0, z1, z2, z3, _⟩ := KZ.out.o4
            refine bodyPost_ret (v := .tuple #[.agg #[.int .i64 2, .int .i64 0, .slice (some ⟨q11, 0, none⟩) 1 1, .string (tgS 5 d0)], .bool true]) (by simp [results, Try.results71, go_sem, z0, z1, z2, z3]) rfl ⟨⟨_, by rw [HV.out]; rfl, by rw [HV.out]; exact ⟨_, _, _, rfl, HS1Z.out.mono (Nat.le_succ_of_le HQZ.out), fun h => by cases h⟩⟩, HBZ.out⟩
        · have f1 : ((dl : Int) != 1) = true := nT (by omega)
          have HV := Lib.hid (show ansO (wiF cut A) qn qt qc (rankF false) = none by rw [show rankF false = 3 from rfl, HSa.out, ansO, hfk]; show aliO Sa qn qt 3 = none; rw [aliO, hfk2]; exact if_neg (fun h => h1 (HDL.out.symm.trans h.1)))
          clear h1
          go_upto_region 10 with (fail)
          clear y0 y1 y2 y3 y4 p0 p1 p2
          clear f1
          have HV := Lib.hid (show ansO (wiF cut A) qn qt qc (rankF false) = none by exact HV.out)
          obtain ⟨y0, y1, y2, y3, g0, g1, g2, g3⟩ := C3.out.o4
          have KZ := Lib.hid (C3.out.p4 (.int .i64 0) (.int .i64 0) (.slice none 0 0) (.string ⟨#[]⟩))
          have HGZ := Lib.hid (grown_p4 w9 q4 (.int .i64 0) (.int .i64 0) (.slice none 0 0) (.string ⟨#[]⟩))
          have HBZ := Lib.hid (HB.out.grown HGZ.out HB.out.size (fun k hk => by injection hk with hk; rw [← hk]; exact HQZ.out))
          repeat go_step
          obtain ⟨wz, hwz⟩ : ∃ x, ((((w9.setCell ⟨q4, 0, none⟩ (.int .i64 0)).setCell ⟨q4, 1, none⟩ (.int .i64 0)).setCell ⟨q4, 2, none⟩ (.slice none 0 0)).setCell ⟨q4, 3, none⟩ (.string ⟨#[]⟩)) = x := ⟨_, rfl⟩
          rw [hwz] at KZ HBZ ⊢
          clear hwz HGZ y0 y1 y2 y3 g0 g1 g2 g3
          obtain ⟨z0, z1, z2, z3, _⟩ := KZ.out.o4
          refine bodyPost_ret (v := .tuple #[.agg #[.int .i64 0, .int .i64 0, .slice none 0 0, .string ⟨#[]⟩], .bool false]) (by simp [results, Try.results71, go_sem, z0, z1, z2, z3]) rfl ⟨⟨_, by rw [HV.out]; rfl, by rw [HV.out]; exact OutUp.bad _ _⟩, HBZ.out⟩
  · obtain ⟨p0, p1, p2, _⟩ := C1.out.u3
    obtain ⟨m0, m1, m2, m3, m4, m5, m6, m7, m8, m9, m10, m11, _⟩ := C2.out.u12
    have HSA := Lib.hid HSUa.out.at
    have HFA := Lib.hid (show q4 + 1 ≤ w5.heap.size from C3.out.1)
    go_wp2_with fail
    refine (find_any waa zla wca Sa qn qt qc w5 HSA.out (Nat.le_trans HZLa.out (by decide)) (fun s hs => (HSMa.out s hs).2.1)).mono ?_; rintro e w6 ⟨hf, hb⟩
    clear p0 p1 p2 m0 m1 m2 m3 m4 m5 m6 m7 m8 m9 m10 m11
    replace HB := Lib.hid (HB.out.trans (hb.mono HB.out.size))
    replace C1 := Lib.hid (C1.out.below hb)
    replace C2 := Lib.hid (C2.out.below hb)
    replace C3 := Lib.hid (C3.out.below hb)
    replace HSUa := Lib.hid (HSUa.out.below hb)
    clear hb
    clear HSA
    obtain ⟨⟨⟨sn, st, sk⟩, su, sd⟩, da, dc, hgd, rfl, hor⟩ := found_getC hf
    replace hor : w6.ownsRow w5.heap.size 9 1 (.slice da sd.length dc) sd.length (sc sd) := hor
    dsimp only
    obtain ⟨dl, hdl⟩ : ∃ x, sd.length = x := ⟨_, rfl⟩
    rw [hdl] at hor ⊢
    have HDL := Lib.hid hdl
    have HO := Lib.hid (own_mono4 hor HFA.out)
    have HGD := Lib.hid hgd
    clear hf hdl hor hgd HFA
    have hba := (Below.refl _ _ : Below w6.heap.size w6 w6).alloc (Nat.le_refl _) (.cells #[.string sn, .int .i64 st, .int .i64 sk, .int .i64 su, .slice da dl dc] 39)
    have D1 := Lib.hid (CN.new w6 #[.string sn, .int .i64 st, .int .i64 sk, .int .i64 su, .slice da dl dc] 39)
    replace HB := Lib.hid (HB.out.trans (hba.mono HB.out.size))
    replace C1 := Lib.hid (C1.out.below hba)
    replace C2 := Lib.hid (C2.out.below hba)
    replace C3 := Lib.hid (C3.out.below hba)
    replace HSUa := Lib.hid (HSUa.out.below hba)
    replace HO := Lib.hid (own_below' HO.out hba)
    obtain ⟨w7, hw⟩ : ∃ x, w6.alloc (.cells #[.string sn, .int .i64 st, .int .i64 sk, .int .i64 su, .slice da dl dc] 39) = x := ⟨_, rfl⟩
    obtain ⟨q7, hq⟩ : ∃ x, w6.heap.size = x := ⟨_, rfl⟩
    rw [hw, hq] at D1
    rw [hw] at HB C1 C2 C3 HSUa HO
    have HW := Lib.hid hw
    have HQ_ := Lib.hid hq
    clear hba hw hq
    go_upto_region 6 with (fail)
    rw [HW.out, HQ_.out]
    clear HW HQ_
    cases hfk : findK Sa ⟨qn, qt, qc⟩ with
    | some s =>
      have hs := HGD.out
      rw [hfk] at hs
      obtain rfl : s = ⟨⟨sn, st, sk⟩, su, sd⟩ := hs
      have HV := Lib.hid (show ansO (wiF cut A) qn qt qc (rankF true) = some ⟨1, 0, [(⟨⟨sn, st, sk⟩, su, sd⟩, 4)], emB⟩ by rw [show rankF true = 4 from rfl, HSa.out, ansO, hfk])
      clear HGD
      simp only [Option.isSome_some]
      go_upto_region 7 with (fail)
      obtain ⟨y0, y1, y2, y3, y4, _⟩ := D1.out.u5
      have HS1 := Lib.hid (RkUp.one (w := w7) (sn := sn) (st := st) (sk := sk) (su := su) 4 HDL.out HO.out C3.out.1)
      iterate 13 go_step
      have hba := (Below.refl _ _ : Below w7.heap.size w7 w7).alloc (Nat.le_refl _) (.cells #[.string sn, .int .i64 st, .int .i64 sk, .int .i64 su, .slice da dl dc, .int .i64 4] 85)
      replace HB := Lib.hid (HB.out.trans (hba.mono HB.out.size))
      replace C1 := Lib.hid (C1.out.below hba)
      replace C2 := Lib.hid (C2.out.below hba)
      replace C3 := Lib.hid (C3.out.below hba)
      replace HSUa := Lib.hid (HSUa.out.below hba)
      replace HO := Lib.hid (own_below' HO.out hba)
      replace D1 := Lib.hid (D1.out.below hba)
      clear hba
      obtain ⟨w8, hwA⟩ : ∃ x, w7.alloc (.cells #[.string sn, .int .i64 st, .int .i64 sk, .int .i64 su, .slice da dl dc, .int .i64 4] 85) = x := ⟨_, rfl⟩
      obtain ⟨q8, hgA⟩ : ∃ x, w7.heap.size = x := ⟨_, rfl⟩
      rw [hwA] at HB C1 C2 C3 HSUa HO D1 HS1 ⊢
      rw [hgA] at HS1 ⊢
      clear hwA hgA
      clear y0 y1 y2 y3 y4
      obtain ⟨y0, y1, y2, y3, g0, g1, g2, g3⟩ := C3.out.o4
      have KZ := Lib.hid (C3.out.p4 (.int .i64 1) (.int .i64 0) (.slice (some ⟨q8, 0, none⟩) 1 1) (.string ⟨#[]⟩))
      have HGZ := Lib.hid (grown_p4 w8 q4 (.int .i64 1) (.int .i64 0) (.slice (some ⟨q8, 0, none⟩) 1 1) (.string ⟨#[]⟩))
      have HBZ := Lib.hid (HB.out.grown HGZ.out HB.out.size (fun k hk => by injection hk with hk; rw [← hk]; exact HQZ.out))
      have HS1Z := Lib.hid (HS1.out.far HGZ.out (Nat.lt_succ_self _))
      repeat go_step
      obtain ⟨wz, hwz⟩ : ∃ x, ((((w8.setCell ⟨q4, 0, none⟩ (.int .i64 1)).setCell ⟨q4, 1, none⟩ (.int .i64 0)).setCell ⟨q4, 2, none⟩ (.slice (some ⟨q8, 0, none⟩) 1 1)).setCell ⟨q4, 3, none⟩ (.string ⟨#[]⟩)) = x := ⟨_, rfl⟩
      rw [hwz] at KZ HBZ HS1Z ⊢
      clear hwz HGZ y0 y1 y2 y3 g0 g1 g2 g3
      obtain ⟨z0, z1, z2, z3, _⟩ := KZ.out.o4
      refine bodyPost_ret (v := .tuple #[.agg #[.int .i64 1, .int .i64 0, .slice (some ⟨q8, 0, none⟩) 1 1, .string ⟨#[]⟩], .bool true]) (by simp [results, Try.results71, go_sem, z0, z1, z2, z3]) rfl ⟨⟨_, by rw [HV.out]; rfl, by rw [HV.out]; exact ⟨_, _, _, rfl, HS1Z.out.mono (Nat.le_succ_of_le HQZ.out), fun h => by cases h⟩⟩, HBZ.out⟩
    | none =>
      clear HGD
      simp only [Option.isSome_none]
      clear HO D1
      obtain ⟨p0, p1, p2, _⟩ := C1.out.u3
      have HSA := Lib.hid HSUa.out.at
      have HFA := Lib.hid (show q4 + 1 ≤ w7.heap.size from C3.out.1)
      go_wp2_with fail
      refine (find_any waa zla wca Sa qn 5 1 w7 HSA.out (Nat.le_trans HZLa.out (by decide)) (fun s hs => (HSMa.out s hs).2.1)).mono ?_; rintro e w8 ⟨hf, hb⟩
      clear p0 p1 p2
      replace HB := Lib.hid (HB.out.trans (hb.mono HB.out.size))
      replace C1 := Lib.hid (C1.out.below hb)
      replace C2 := Lib.hid (C2.out.below hb)
      replace C3 := Lib.hid (C3.out.below hb)
      replace HSUa := Lib.hid (HSUa.out.below hb)
      clear hb
      clear HSA
      obtain ⟨⟨⟨sn, st, sk⟩, su, sd⟩, da, dc, hgd, rfl, hor⟩ := found_getC hf
      replace hor : w8.ownsRow w7.heap.size 9 1 (.slice da sd.length dc) sd.length (sc sd) := hor
      dsimp only
      obtain ⟨dl, hdl⟩ : ∃ x, sd.length = x := ⟨_, rfl⟩
      rw [hdl] at hor ⊢
      have HDL := Lib.hid hdl
      have HO := Lib.hid (own_mono4 hor HFA.out)
      have HGD := Lib.hid hgd
      clear hf hdl hor hgd HFA
      have hba := (Below.refl _ _ : Below w8.heap.size w8 w8).alloc (Nat.le_refl _) (.cells #[.string sn, .int .i64 st, .int .i64 sk, .int .i64 su, .slice da dl dc] 39)
      have D2 := Lib.hid (CN.new w8 #[.string sn, .int .i64 st, .int .i64 sk, .int .i64 su, .slice da dl dc] 39)
      replace HB := Lib.hid (HB.out.trans (hba.mono HB.out.size))
      replace C1 := Lib.hid (C1.out.below hba)
      replace C2 := Lib.hid (C2.out.below hba)
      replace C3 := Lib.hid (C3.out.below hba)
      replace HSUa := Lib.hid (HSUa.out.below hba)
      replace HO := Lib.hid (own_below' HO.out hba)
      obtain ⟨w9, hw⟩ : ∃ x, w8.alloc (.cells #[.string sn, .int .i64 st, .int .i64 sk, .int .i64 su, .slice da dl dc] 39) = x := ⟨_, rfl⟩
      obtain ⟨q9, hq⟩ : ∃ x, w8.heap.size = x := ⟨_, rfl⟩
      rw [hw, hq] at D2
      rw [hw] at HB C1 C2 C3 HSUa HO
      have HW := Lib.hid hw
      have HQ_ := Lib.hid hq
      clear hba hw hq
      go_upto_region 9 with (fail)
      rw [HW.out, HQ_.out]
      clear HW HQ_
      cases hfk2 : findK Sa ⟨qn, 5, 1⟩ with
      | none =>
        simp only [Option.isSome_none]
        go_upto_region 10 with (fail)
        have HV := Lib.hid (show ansO (wiF cut A) qn qt qc (rankF true) = none by rw [show rankF true = 4 from rfl, HSa.out, ansO, hfk]; show aliO Sa qn qt 4 = none; rw [aliO, hfk2])
        obtain ⟨y0, y1, y2, y3, g0, g1, g2, g3⟩ := C3.out.o4
        have KZ := Lib.hid (C3.out.p4 (.int .i64 0) (.int .i64 0) (.slice none 0 0) (.string ⟨#[]⟩))
        have HGZ := Lib.hid (grown_p4 w9 q4 (.int .i64 0) (.int .i64 0) (.slice none 0 0) (.string ⟨#[]⟩))
        have HBZ := Lib.hid (HB.out.grown HGZ.out HB.out.size (fun k hk => by injection hk with hk; rw [← hk]; exact HQZ.out))
        repeat go_step
        obtain ⟨wz, hwz⟩ : ∃ x, ((((w9.setCell ⟨q4, 0, none⟩ (.int .i64 0)).setCell ⟨q4, 1, none⟩ (.int .i64 0)).setCell ⟨q4, 2, none⟩ (.slice none 0 0)).setCell ⟨q4, 3, none⟩ (.string ⟨#[]⟩)) = x := ⟨_, rfl⟩
        rw [hwz] at KZ HBZ ⊢
        clear hwz HGZ y0 y1 y2 y3 g0 g1 g2 g3
        obtain ⟨z0, z1, z2, z3, _⟩ := KZ.out.o4
        refine bodyPost_ret (v := .tuple #[.agg #[.int .i64 0, .int .i64 0, .slice none 0 0, .string ⟨#[]⟩], .bool false]) (by simp [results, Try.results71, go_sem, z0, z1, z2, z3]) rfl ⟨⟨_, by rw [HV.out]; rfl, by rw [HV.out]; exact OutUp.bad _ _⟩, HBZ.out⟩
      | some s =>
        have hs := HGD.out
        rw [hfk2] at hs
        obtain rfl : s = ⟨⟨sn, st, sk⟩, su, sd⟩ := hs
        have HMEM := Lib.hid (find_memC hfk2)
        simp only [Option.isSome_some]
        clear HGD
        obtain ⟨y0, y1, y2, y3, y4, _⟩ := D2.out.u5
        obtain ⟨p0, p1, p2, _⟩ := C1.out.u3
        by_cases h1 : dl = 1
        · by_cases h5 : qt = 5
          · have f2 : (qt == 5) = true := eT h5
            have f1 : ((dl : Int) != 1) = false := nF (by omega)
            have HV := Lib.hid (show ansO (wiF cut A) qn qt qc (rankF true) = none by rw [show rankF true = 4 from rfl, HSa.out, ansO, hfk]; show aliO Sa qn qt 4 = none; rw [aliO, hfk2]; exact if_neg (fun h => h.2 h5))
            clear h1 h5
            go_upto_region 10 with (fail)
            clear y0 y1 y2 y3 y4 p0 p1 p2
            clear f1 f2
            have HV := Lib.hid (show ansO (wiF cut A) qn qt qc (rankF true) = none by exact HV.out)
            obtain ⟨y0, y1, y2, y3, g0, g1, g2, g3⟩ := C3.out.o4
            have KZ := Lib.hid (C3.out.p4 (.int .i64 0) (.int .i64 0) (.slice none 0 0) (.string ⟨#[]⟩))
            have HGZ := Lib.hid (grown_p4 w9 q4 (.int .i64 0) (.int .i64 0) (.slice none 0 0) (.string ⟨#[]⟩))
            have HBZ := Lib.hid (HB.out.grown HGZ.out HB.out.size (fun k hk => by injection hk with hk; rw [← hk]; exact HQZ.out))
            repeat go_step
            obtain ⟨wz, hwz⟩ : ∃ x, ((((w9.setCell ⟨q4, 0, none⟩ (.int .i64 0)).setCell ⟨q4, 1, none⟩ (.int .i64 0)).setCell ⟨q4, 2, none⟩ (.slice none 0 0)).setCell ⟨q4, 3, none⟩ (.string ⟨#[]⟩)) = x := ⟨_, rfl⟩
            rw [hwz] at KZ HBZ ⊢
            clear hwz HGZ y0 y1 y2 y3 g0 g1 g2 g3
            obtain ⟨z0, z1, z2, z3, _⟩ := KZ.out.o4
            refine bodyPost_ret (v := .tuple #[.agg #[.int .i64 0, .int .i64 0, .slice none 0 0, .string ⟨#[]⟩], .bool false]) (by simp [results, Try.results71, go_sem, z0, z1, z2, z3]) rfl ⟨⟨_, by rw [HV.out]; rfl, by rw [HV.out]; exact OutUp.bad _ _⟩, HBZ.out⟩
          · have f2 : (qt == 5) = false := eF h5
            have f1 : ((dl : Int) != 1) = false := nF (by omega)
            obtain ⟨d0, hd0⟩ : ∃ d, sd = [d] := List.length_eq_one_iff.1 (HDL.out.trans h1)
            subst hd0
            have HV := Lib.hid (show ansO (wiF cut A) qn qt qc (rankF true) = some ⟨2, 0, [(⟨⟨sn, st, sk⟩, su, [d0]⟩, 4)], tgS 5 d0⟩ by rw [show rankF true = 4 from rfl, HSa.out, ansO, hfk]; show aliO Sa qn qt 4 = _; rw [aliO, hfk2]; exact if_pos ⟨rfl, h5⟩)
            subst h1
            clear h5
            go_upto_region 11 with (fail)
            clear f1 f2
            clear y0 y1 y2 y3 y4 p0 p1 p2
            obtain ⟨y0, y1, y2, y3, y4, _⟩ := D2.out.u5
            obtain ⟨a', c', he, hdr, -⟩ := rowS_of_own HO.out
            simp only [Value.slice.injEq] at he
            obtain ⟨rfl, -, rfl⟩ := he
            rcases hdr.2 with h9 | ⟨db, dof, rfl, hdb, hdc⟩
            · omega
            have c0 := hdc 0 (by omega)
            rw [show [d0].getD 0 ByteArray.empty = d0 from rfl, Nat.add_zero] at c0
            clear hdr hdb hdc
            have HTG := Lib.hid (fun wx => target_any 5 d0 wx ((HSMa.out _ HMEM.out).2.2 d0 (by simp)))
            go_wp2_with fail
            refine (HTG.out _).mono ?_; rintro e w10 ⟨rfl, hb⟩
            clear y0 y1 y2 y3 y4 c0
            replace HB := Lib.hid (HB.out.trans (hb.mono HB.out.size))
            replace C1 := Lib.hid (C1.out.below hb)
            replace C2 := Lib.hid (C2.out.below hb)
            replace C3 := Lib.hid (C3.out.below hb)
            replace HSUa := Lib.hid (HSUa.out.below hb)
            replace HO := Lib.hid (own_below' HO.out hb)
            replace D2 := Lib.hid (D2.out.below hb)
            clear hb
            go_upto_region 12 with (fail)
            obtain ⟨y0, y1, y2, y3, y4, _⟩ := D2.out.u5
            have HS1 := Lib.hid (RkUp.one (w := w10) (sn := sn) (st := st) (sk := sk) (su := su) 4 HDL.out HO.out C3.out.1)
            iterate 13 go_step
            have hba := (Below.refl _ _ : Below w10.heap.size w10 w10).alloc (Nat.le_refl _) (.cells #[.string sn, .int .i64 st, .int .i64 sk, .int .i64 su, .slice (some ⟨db, dof, none⟩) 1 dc, .int .i64 4] 85)
            replace HB := Lib.hid (HB.out.trans (hba.mono HB.out.size))
            replace C1 := Lib.hid (C1.out.below hba)
            replace C2 := Lib.hid (C2.out.below hba)
            replace C3 := Lib.hid (C3.out.below hba)
            replace HSUa := Lib.hid (HSUa.out.below hba)
            replace HO := Lib.hid (own_below' HO.out hba)
            replace D2 := Lib.hid (D2.out.below hba)
            clear hba
            obtain ⟨w11, hwA⟩ : ∃ x, w10.alloc (.cells #[.string sn, .int .i64 st, .int .i64 sk, .int .i64 su, .slice (some ⟨db, dof, none⟩) 1 dc, .int .i64 4] 85) = x := ⟨_, rfl⟩
            obtain ⟨q11, hgA⟩ : ∃ x, w10.heap.size = x := ⟨_, rfl⟩
            rw [hwA] at HB C1 C2 C3 HSUa HO D2 HS1 ⊢
            rw [hgA] at HS1 ⊢
            clear hwA hgA
            clear y0 y1 y2 y3 y4
            obtain ⟨y0, y1, y2, y3, g0, g1, g2, g3⟩ := C3.out.o4
            have KZ := Lib.hid (C3.out.p4 (.int .i64 2) (.int .i64 0) (.slice (some ⟨q11, 0, none⟩) 1 1) (.string (tgS 5 d0)))
            have HGZ := Lib.hid (grown_p4 w11 q4 (.int .i64 2) (.int .i64 0) (.slice (some ⟨q11, 0, none⟩) 1 1) (.string (tgS 5 d0)))
            have HBZ := Lib.hid (HB.out.grown HGZ.out HB.out.size (fun k hk => by injection hk with hk; rw [← hk]; exact HQZ.out))
            have HS1Z := Lib.hid (HS1.out.far HGZ.out (Nat.lt_succ_self _))
            repeat go_step
            obtain ⟨wz, hwz⟩ : ∃ x, ((((w11.setCell ⟨q4, 0, none⟩ (.int .i64 2)).setCell ⟨q4, 1, none⟩ (.int .i64 0)).setCell ⟨q4, 2, none⟩ (.slice (some ⟨q11, 0, none⟩) 1 1)).setCell ⟨q4, 3, none⟩ (.string (tgS 5 d0))) = x := ⟨_, rfl⟩
            rw [hwz] at KZ HBZ HS1Z ⊢
            clear hwz HGZ y0 y1 y2 y3 g0 g1 g2 g3
            obtain ⟨z0, z1, z2, z3, _⟩ := KZ.out.o4
            refine bodyPost_ret (v := .tuple #[.agg #[.int .i64 2, .int .i64 0, .slice (some ⟨q11, 0, none⟩) 1 1, .string (tgS 5 d0)], .bool true]) (by simp [results, Try.results71, go_sem, z0, z1, z2, z3]) rfl ⟨⟨_, by rw [HV.out]; rfl, by rw [HV.out]; exact ⟨_, _, _, rfl, HS1Z.out.mono (Nat.le_succ_of_le HQZ.out), fun h => by cases h⟩⟩, HBZ.out⟩
        · have f1 : ((dl : Int) != 1) = true := nT (by omega)
          have HV := Lib.hid (show ansO (wiF cut A) qn qt qc (rankF true) = none by rw [show rankF true = 4 from rfl, HSa.out, ansO, hfk]; show aliO Sa qn qt 4 = none; rw [aliO, hfk2]; exact if_neg (fun h => h1 (HDL.out.symm.trans h.1)))
          clear h1
          go_upto_region 10 with (fail)
          clear y0 y1 y2 y3 y4 p0 p1 p2
          clear f1
          have HV := Lib.hid (show ansO (wiF cut A) qn qt qc (rankF true) = none by exact HV.out)
          obtain ⟨y0, y1, y2, y3, g0, g1, g2, g3⟩ := C3.out.o4
          have KZ := Lib.hid (C3.out.p4 (.int .i64 0) (.int .i64 0) (.slice none 0 0) (.string ⟨#[]⟩))
          have HGZ := Lib.hid (grown_p4 w9 q4 (.int .i64 0) (.int .i64 0) (.slice none 0 0) (.string ⟨#[]⟩))
          have HBZ := Lib.hid (HB.out.grown HGZ.out HB.out.size (fun k hk => by injection hk with hk; rw [← hk]; exact HQZ.out))
          repeat go_step
          obtain ⟨wz, hwz⟩ : ∃ x, ((((w9.setCell ⟨q4, 0, none⟩ (.int .i64 0)).setCell ⟨q4, 1, none⟩ (.int .i64 0)).setCell ⟨q4, 2, none⟩ (.slice none 0 0)).setCell ⟨q4, 3, none⟩ (.string ⟨#[]⟩)) = x := ⟨_, rfl⟩
          rw [hwz] at KZ HBZ ⊢
          clear hwz HGZ y0 y1 y2 y3 g0 g1 g2 g3
          obtain ⟨z0, z1, z2, z3, _⟩ := KZ.out.o4
          refine bodyPost_ret (v := .tuple #[.agg #[.int .i64 0, .int .i64 0, .slice none 0 0, .string ⟨#[]⟩], .bool false]) (by simp [results, Try.results71, go_sem, z0, z1, z2, z3]) rfl ⟨⟨_, by rw [HV.out]; rfl, by rw [HV.out]; exact OutUp.bad _ _⟩, HBZ.out⟩
end Go.Proofs.Ythfnphcefkdgbaa
