/- Contract of scrub.nothing. -/
import Derived.Test.YthfnphcefkdgbaaScA
namespace Go.Proofs.Ythfnphcefkdgbaa
open Go.RowKit

theorem row_litC1 (w : World) (x : Int) (t : TypeId) : Row (w.alloc (.cells #[.int .i64 x] t)) (some ⟨w.heap.size, 0, none⟩) 1 [x] := by
  refine ⟨rfl, Or.inr ⟨w.heap.size, 0, rfl, by simp, ?_⟩⟩
  intro j hj
  have : j = 0 := by omega
  subst this
  simp [World.cell?_alloc_at]
theorem find_none {p : SetP → Bool} {l : List SetP} (h : ∀ s ∈ l, p s = false) : l.find? p = none := List.find?_eq_none.2 (fun s hs => by rw [h s hs]; simp)
theorem find_next {p : SetP → Bool} {l : List SetP} {k : Nat} {s : SetP} (h : ∀ s ∈ l.take k, p s = false) (hk : l[k]? = some s) (hp : p s = true) : l.find? p = some s := by
  have e : l = l.take k ++ s :: l.drop (k + 1) := by
    have h1 := List.take_append_drop k l
    rw [List.drop_eq_getElem_cons (List.getElem?_eq_some_iff.1 hk).1, (List.getElem?_eq_some_iff.1 hk).2] at h1
    exact h1.symm
  rw [e, List.find?_append, find_none h, Option.none_or, List.find?_cons, hp]
theorem soaMin_of {d M R : ByteArray} {v1 v2 v3 v4 v5 : Int} {b : Bool} (h : getSoaV d = .tuple #[.agg #[.string M, .string R, .int .i64 v1, .int .i64 v2, .int .i64 v3, .int .i64 v4, .int .i64 v5], .bool b]) : soaMin d = v5 := by
  rw [getSoaV] at h
  rw [soaMin]
  split at h
  · rename_i hk
    rw [if_pos hk]
    simp only [Value.tuple.injEq, Array.mk.injEq, List.cons.injEq, Value.agg.injEq, Value.int.injEq, and_true, true_and] at h
    exact h.1.2.2.2.2.2.2
  · rename_i hk
    rw [if_neg hk]
    simp only [Value.tuple.injEq, Array.mk.injEq, List.cons.injEq, Value.agg.injEq, Value.int.injEq, and_true, true_and] at h
    exact h.1.2.2.2.2.2.2
set_option maxRecDepth 100000 in
set_option maxHeartbeats 8000000 in
theorem nothing_any (kd : Int) (cut qn : ByteArray) (qt qc : Int) (m : MsgP) (mv : Value) (w : World) (h : MsgAt w mv m) (hs : ScM m) (hc : cut.size ≤ 1000000) (hqs : qn.size ≤ 1000000) :
    Calls Try.prog 72 #[.int .i64 kd, .string cut, .agg #[.string qn, .int .i64 qt, .int .i64 qc], mv] w fun e w' => (∃ v, e = .returned v ∧ OutUp w' w.heap.size v (noO kd qn m.b2 (wiF cut m.n))) ∧ Below w.heap.size w w' := by
  obtain ⟨mi, mo, mr, b1, b2, b3, b4, b5, Q, A, N, X⟩ := m
  obtain ⟨pa, pc, aa, ac, na, nc, xa, xc, rfl, -, ⟨hra, -⟩, ⟨hrn, -⟩, ⟨hrx, -⟩⟩ := h
  obtain ⟨⟨hl1, hk1, hd1⟩, ⟨hl2, hk2, hd2⟩, ⟨hl3, hk3, hd3⟩⟩ := hs
  dsimp only at *
  obtain ⟨pl, hpl⟩ : ∃ x, Q.length = x := ⟨_, rfl⟩
  obtain ⟨al, hal⟩ : ∃ x, A.length = x := ⟨_, rfl⟩
  obtain ⟨nl, hnl⟩ : ∃ x, N.length = x := ⟨_, rfl⟩
  obtain ⟨xl, hxl⟩ : ∃ x, X.length = x := ⟨_, rfl⟩
  rw [hal] at hra hl1
  rw [hnl] at hrn hl2
  rw [hxl] at hrx hl3
  rw [hpl, hal, hnl, hxl]
  have HCT := Lib.hid hc
  have HB := Lib.hid (Below.refl w.heap.size w)
  have HRn := Lib.hid hrn
  have HLn := Lib.hid hl2
  have HKn := Lib.hid hk2
  have HDn := Lib.hid hd2
  have HQS := Lib.hid hqs
  clear hra hrn hrx hl1 hk1 hd1 hl2 hk2 hd2 hl3 hk3 hd3 hpl hal hnl hxl hc hqs
  go_enter Try.func72, Try.ntmps72
  have hba := (Below.refl _ _ : Below w.heap.size w w).alloc (Nat.le_refl _) (.cells #[.string qn, .int .i64 qt, .int .i64 qc] 71)
  have C1 := Lib.hid (CN.new w #[.string qn, .int .i64 qt, .int .i64 qc] 71)
  replace HRn := Lib.hid (HRn.out.below hba)
  replace HB := Lib.hid (HB.out.trans (hba.mono HB.out.size))
  obtain ⟨w2, hw⟩ : ∃ x, w.alloc (.cells #[.string qn, .int .i64 qt, .int .i64 qc] 71) = x := ⟨_, rfl⟩
  obtain ⟨q2, hq⟩ : ∃ x, w.heap.size = x := ⟨_, rfl⟩
  rw [hw, hq] at C1
  rw [hw] at HRn HB
  have HWw2 := Lib.hid hw
  have HQq2 := Lib.hid hq
  clear hba hw hq
  have hba := (Below.refl _ _ : Below w2.heap.size w2 w2).alloc (Nat.le_refl _) (.cells #[.int .i64 mi, .int .i64 mo, .int .i64 mr, .bool b1, .bool b2, .bool b3, .bool b4, .bool b5, .slice pa pl pc, .slice aa al ac, .slice na nl nc, .slice xa xl xc] 77)
  have C2 := Lib.hid (CN.new w2 #[.int .i64 mi, .int .i64 mo, .int .i64 mr, .bool b1, .bool b2, .bool b3, .bool b4, .bool b5, .slice pa pl pc, .slice aa al ac, .slice na nl nc, .slice xa xl xc] 77)
  replace HRn := Lib.hid (HRn.out.below hba)
  replace HB := Lib.hid (HB.out.trans (hba.mono HB.out.size))
  replace C1 := Lib.hid (C1.out.below hba)
  obtain ⟨w3, hw⟩ : ∃ x, w2.alloc (.cells #[.int .i64 mi, .int .i64 mo, .int .i64 mr, .bool b1, .bool b2, .bool b3, .bool b4, .bool b5, .slice pa pl pc, .slice aa al ac, .slice na nl nc, .slice xa xl xc] 77) = x := ⟨_, rfl⟩
  obtain ⟨q3, hq⟩ : ∃ x, w2.heap.size = x := ⟨_, rfl⟩
  rw [hw, hq] at C2
  rw [hw] at HRn HB C1
  have HSq3 := Lib.hid (show q2 + 1 = q3 by rw [← HQq2.out, ← hq, ← HWw2.out, World.size_alloc])
  have HWw3 := Lib.hid hw
  have HQq3 := Lib.hid hq
  clear hba hw hq
  have hba := (Below.refl _ _ : Below w3.heap.size w3 w3).alloc (Nat.le_refl _) (.cells #[.int .i64 0, .int .i64 0, .slice none 0 0, .string ⟨#[]⟩] 81)
  have C3 := Lib.hid (CN.new w3 #[.int .i64 0, .int .i64 0, .slice none 0 0, .string ⟨#[]⟩] 81)
  replace HRn := Lib.hid (HRn.out.below hba)
  replace HB := Lib.hid (HB.out.trans (hba.mono HB.out.size))
  replace C1 := Lib.hid (C1.out.below hba)
  replace C2 := Lib.hid (C2.out.below hba)
  obtain ⟨w4, hw⟩ : ∃ x, w3.alloc (.cells #[.int .i64 0, .int .i64 0, .slice none 0 0, .string ⟨#[]⟩] 81) = x := ⟨_, rfl⟩
  obtain ⟨q4, hq⟩ : ∃ x, w3.heap.size = x := ⟨_, rfl⟩
  rw [hw, hq] at C3
  rw [hw] at HRn HB C1 C2
  have HSq4 := Lib.hid (show q3 + 1 = q4 by rw [← HQq3.out, ← hq, ← HWw3.out, World.size_alloc])
  have HWw4 := Lib.hid hw
  have HQq4 := Lib.hid hq
  clear hba hw hq
  go_upto_region 1 with (fail)
  rw [HWw2.out, HWw3.out, HWw4.out]
  rw [show (Value.pointer (some { block := w.heap.size + 1 + 1, off := 0 })) = Value.pointer (some { block := q4, off := 0 }) by rw [HQq2.out, HSq3.out, HSq4.out]]
  rw [show (Value.pointer (some { block := w.heap.size + 1, off := 0 })) = Value.pointer (some { block := q3, off := 0 }) by rw [HQq2.out, HSq3.out]]
  rw [show (Value.pointer (some { block := w.heap.size, off := 0 })) = Value.pointer (some { block := q2, off := 0 }) by rw [HQq2.out]]
  have HQZ := Lib.hid (show w.heap.size ≤ q4 by have h := HSq3.out; have h2 := HSq4.out; have h3 := HQq2.out; omega)
  obtain ⟨m0, m1, m2, m3, m4, m5, m6, m7, m8, m9, m10, m11, _⟩ := C2.out.u12
  cases b2
  · go_upto_region 2 with (fail)
    clear m0 m1 m2 m3 m4 m5 m6 m7 m8 m9 m10 m11
    obtain ⟨y0, y1, y2, y3, g0, g1, g2, g3⟩ := C3.out.o4
    have KZ := Lib.hid (C3.out.p4 (.int .i64 0) (.int .i64 0) (.slice none 0 0) (.string ⟨#[]⟩))
    have HGZ := Lib.hid (grown_p4 w4 q4 (.int .i64 0) (.int .i64 0) (.slice none 0 0) (.string ⟨#[]⟩))
    have HBZ := Lib.hid (HB.out.grown HGZ.out HB.out.size (fun k hk => by injection hk with hk; rw [← hk]; exact HQZ.out))
    repeat go_step
    obtain ⟨wz, hwz⟩ : ∃ x, ((((w4.setCell ⟨q4, 0, none⟩ (.int .i64 0)).setCell ⟨q4, 1, none⟩ (.int .i64 0)).setCell ⟨q4, 2, none⟩ (.slice none 0 0)).setCell ⟨q4, 3, none⟩ (.string ⟨#[]⟩)) = x := ⟨_, rfl⟩
    rw [hwz] at KZ HBZ ⊢
    clear hwz HGZ y0 y1 y2 y3 g0 g1 g2 g3
    obtain ⟨z0, z1, z2, z3, _⟩ := KZ.out.o4
    refine bodyPost_ret (v := .agg #[.int .i64 0, .int .i64 0, .slice none 0 0, .string ⟨#[]⟩]) (by simp [results, Try.results72, go_sem, z0, z1, z2, z3]) rfl ⟨⟨_, rfl, by rw [show noO kd qn false (wiF cut N) = badO from if_neg (by simp)]; exact ⟨none, 0, 0, rfl, RkUp.nil _ _ _, fun _ => ⟨rfl, rfl⟩⟩⟩, HBZ.out⟩
  · go_wp2_with fail
    refine (within_any cut na nl nc N w4 HRn.out (Nat.le_trans HLn.out (by decide)) HKn.out HDn.out HCT.out).mono ?_; rintro e w5 ⟨wan, wcn, Sn, rfl, hS, hs1, hs2, hsu, hso, hb⟩
    clear m0 m1 m2 m3 m4 m5 m6 m7 m8 m9 m10 m11
    replace HRn := Lib.hid (HRn.out.below hb)
    replace HB := Lib.hid (HB.out.trans (hb.mono HB.out.size))
    replace C1 := Lib.hid (C1.out.below hb)
    replace C2 := Lib.hid (C2.out.below hb)
    replace C3 := Lib.hid (C3.out.below hb)
    clear hb
    have HSn := Lib.hid hS
    have HSMn := Lib.hid (show ∀ s ∈ Sn, s.k.n.size ≤ 1000000 ∧ s.data.length ≤ 100000 ∧ ∀ d ∈ s.data, d.size ≤ 1000000 by have h := wiF_small (cut := cut) (by rw [HRn.out.1]; exact Nat.le_trans HLn.out (by decide)) HKn.out HDn.out (by rw [hS]; exact hs1); rw [hS] at h; exact h)
    have HZLn := Lib.hid (show Sn.length ≤ 10000 by have h := HLn.out; rw [← HRn.out.1] at h; omega)
    obtain ⟨zln, hzl⟩ : ∃ x, Sn.length = x := ⟨_, rfl⟩
    rw [hzl] at hsu HZLn ⊢
    have HSUn := Lib.hid hsu
    have HLNn := Lib.hid hzl
    clear hS hs1 hs2 hsu hso hzl
    clear HRn
    have HSA := Lib.hid HSUn.out.at
    clear HSUn
    go_wp2_with fail
    go_loopw [23] (fun i wr => ∃ k : Nat, k ≤ zln ∧ i = .int .i64 k ∧ Hid (∀ s ∈ Sn.take k, soaB qn s = false) ∧ Hid (Below w5.heap.size w5 wr)) (fun i _ => zln - (intOf i).toNat)
    case atStart => exact ⟨0, Nat.zero_le _, rfl, Lib.hid (fun s hs => by simp at hs), Lib.hid (Below.refl _ _)⟩
    case round =>
      obtain ⟨k, hk, rfl, hall, hbw⟩ := hrel
      replace HB := Lib.hid (HB.out.trans (hbw.out.mono HB.out.size))
      replace C1 := Lib.hid (C1.out.below hbw.out)
      replace C2 := Lib.hid (C2.out.below hbw.out)
      replace C3 := Lib.hid (C3.out.below hbw.out)
      replace HSA := Lib.hid (HSA.out.below hbw.out)
      by_cases hlt : k < zln
      · rcases HSA.out.2 with h9 | ⟨b, o, rfl, hbl, hc⟩
        · omega
        obtain ⟨da, dc, x0, x1, x2, x3, x4, hsr, -⟩ := hc k hlt
        have hLk : Sn[k]? = some (Sn.getD k ssD) := by rw [List.getD_eq_getElem?_getD, List.getElem?_eq_getElem (by rw [HLNn.out]; exact hlt)]; rfl
        obtain ⟨s, hss⟩ : ∃ s, Sn.getD k ssD = s := ⟨_, rfl⟩
        rw [hss] at x0 x1 x2 x3 x4 hsr hLk
        obtain ⟨⟨sn, st, sk⟩, su, sd⟩ := s
        replace x0 : wr.cell? ⟨b, o + k * 5, none⟩ = some (.string sn) := x0
        replace x1 : wr.cell? ⟨b, o + k * 5 + 1, none⟩ = some (.int .i64 st) := x1
        replace x2 : wr.cell? ⟨b, o + k * 5 + 2, none⟩ = some (.int .i64 sk) := x2
        replace x3 : wr.cell? ⟨b, o + k * 5 + 3, none⟩ = some (.int .i64 su) := x3
        replace x4 : wr.cell? ⟨b, o + k * 5 + 4, none⟩ = some (.slice da sd.length dc) := x4
        replace hsr : RowS wr da sd.length sd := hsr
        obtain ⟨dl, hdl⟩ : ∃ x, sd.length = x := ⟨_, rfl⟩
        rw [hdl] at x4 hsr
        have HDL := Lib.hid hdl
        have HLK := Lib.hid hLk
        have HMM := Lib.hid (HSMn.out _ (List.mem_of_getElem? hLk))
        have HSR := Lib.hid hsr
        have HLT := Lib.hid hlt
        have i1 : (0 : Int) ≤ (k : Int) := by omega
        have i2 : (k : Int) < (zln : Int) := by omega
        clear hdl hLk hsr hss hc hbl hlt hk
        have HBR := Lib.hid (Below.refl wr.heap.size wr)
        have hba := (Below.refl _ _ : Below wr.heap.size wr wr).alloc (Nat.le_refl _) (.cells #[.string sn, .int .i64 st, .int .i64 sk, .int .i64 su, .slice da dl dc] 39)
        have D1 := Lib.hid (CN.new wr #[.string sn, .int .i64 st, .int .i64 sk, .int .i64 su, .slice da dl dc] 39)
        replace HB := Lib.hid (HB.out.trans (hba.mono HB.out.size))
        replace C1 := Lib.hid (C1.out.below hba)
        replace C2 := Lib.hid (C2.out.below hba)
        replace C3 := Lib.hid (C3.out.below hba)
        replace HSA := Lib.hid (HSA.out.below hba)
        replace HSR := Lib.hid (HSR.out.below hba)
        replace HBR := Lib.hid (HBR.out.trans (hba.mono HBR.out.size))
        obtain ⟨w6, hw⟩ : ∃ x, wr.alloc (.cells #[.string sn, .int .i64 st, .int .i64 sk, .int .i64 su, .slice da dl dc] 39) = x := ⟨_, rfl⟩
        obtain ⟨q6, hq⟩ : ∃ x, wr.heap.size = x := ⟨_, rfl⟩
        rw [hw, hq] at D1
        rw [hw] at HB C1 C2 C3 HSA HSR HBR
        have HW := Lib.hid hw
        have HQ_ := Lib.hid hq
        clear hba hw hq
        go_upto_region 6 with (fail)
        rw [HW.out, HQ_.out]
        clear HW HQ_
        clear x0 x1 x2 x3 x4
        obtain ⟨y0, y1, y2, y3, y4, _⟩ := D1.out.u5
        obtain ⟨p0, p1, p2, _⟩ := C1.out.u3
        have HI := Lib.hid (isK ⟨sn, st, sk⟩ _ 1 1 [6] _ (row_litC1 w6 6 3) (by decide))
        have hba := (Below.refl _ _ : Below w6.heap.size w6 w6).alloc (Nat.le_refl _) (.cells #[.int .i64 6] 3)
        replace HB := Lib.hid (HB.out.trans (hba.mono HB.out.size))
        replace C1 := Lib.hid (C1.out.below hba)
        replace C2 := Lib.hid (C2.out.below hba)
        replace C3 := Lib.hid (C3.out.below hba)
        replace HSA := Lib.hid (HSA.out.below hba)
        replace HSR := Lib.hid (HSR.out.below hba)
        replace HBR := Lib.hid (HBR.out.trans (hba.mono HBR.out.size))
        replace D1 := Lib.hid (D1.out.below hba)
        clear hba
        obtain ⟨vt, hvt⟩ : ∃ x, decide ((⟨sn, st, sk⟩ : Ky).t ∈ [(6 : Int)]) = x := ⟨_, rfl⟩
        rw [hvt] at HI
        have HVT := Lib.hid (show decide (st = 6) = vt by rw [← hvt]; simp)
        clear hvt
        go_wp2_with fail
        refine HI.out.mono ?_; rintro e w7 ⟨rfl, hb⟩
        clear y0 y1 y2 y3 y4 p0 p1 p2
        clear HI
        replace HB := Lib.hid (HB.out.trans (hb.mono HB.out.size))
        replace C1 := Lib.hid (C1.out.below hb)
        replace C2 := Lib.hid (C2.out.below hb)
        replace C3 := Lib.hid (C3.out.below hb)
        replace HSA := Lib.hid (HSA.out.below hb)
        replace HSR := Lib.hid (HSR.out.below hb)
        replace HBR := Lib.hid (HBR.out.trans (hb.mono HBR.out.size))
        replace D1 := Lib.hid (D1.out.below hb)
        clear hb
        obtain ⟨y0, y1, y2, y3, y4, _⟩ := D1.out.u5
        obtain ⟨p0, p1, p2, _⟩ := C1.out.u3
        cases vt
        · have hmn := HZLn.out
          have hlt9 := HLT.out
          have HNO := Lib.hid (show soaB qn ⟨⟨sn, st, sk⟩, su, sd⟩ = false by show (decide (st = 6) && _) = false; rw [HVT.out]; rfl)
          have HBN := Lib.hid (hbw.out.trans (HBR.out.mono hbw.out.size))
          go_wp2
          go_roundw
          case rel => exact ⟨k + 1, by have := HLT.out; omega, by have := HLT.out; have := HZLn.out; go_num, Lib.hid (fun s hs => by
              rw [List.take_add_one, HLK.out] at hs
              rcases List.mem_append.1 hs with h1 | h1
              · exact hall.out s h1
              · obtain rfl := List.mem_singleton.1 h1; exact HNO.out), HBN⟩
          case measure => have := HLT.out; have := HZLn.out; simp [intOf]; omega
        · by_cases h1 : dl = 1
          · have f1 : ((dl : Int) == 1) = true := eT (by omega)
            obtain ⟨vu, hvu⟩ : ∃ x, undS qn sn = x := ⟨_, rfl⟩
            have HU := Lib.hid (fun wx => under_any qn sn wx HQS.out HMM.out.1)
            rw [hvu] at HU
            have HVU := Lib.hid hvu
            have HD1 := Lib.hid h1
            clear hvu h1
            go_wp2_with fail
            refine (HU.out _).mono ?_; rintro e w9 ⟨rfl, rfl⟩
            clear HU f1
            cases vu
            · have hmn := HZLn.out
              have hlt9 := HLT.out
              have HNO := Lib.hid (show soaB qn ⟨⟨sn, st, sk⟩, su, sd⟩ = false by show (decide (st = 6) && (_ && undS qn sn)) = false; rw [HVU.out]; simp)
              have HBN := Lib.hid (hbw.out.trans (HBR.out.mono hbw.out.size))
              go_wp2
              go_roundw
              case rel => exact ⟨k + 1, by have := HLT.out; omega, by have := HLT.out; have := HZLn.out; go_num, Lib.hid (fun s hs => by
                  rw [List.take_add_one, HLK.out] at hs
                  rcases List.mem_append.1 hs with h1 | h1
                  · exact hall.out s h1
                  · obtain rfl := List.mem_singleton.1 h1; exact HNO.out), HBN⟩
              case measure => have := HLT.out; have := HZLn.out; simp [intOf]; omega
            · obtain ⟨d0, hd0⟩ : ∃ d, sd = [d] := List.length_eq_one_iff.1 (HDL.out.trans HD1.out)
              subst hd0
              obtain rfl : dl = 1 := HD1.out
              rcases HSR.out.2 with h9 | ⟨db, dof, hda, hdb, hdc⟩
              · omega
              subst hda
              have c0 := hdc 0 (by omega)
              rw [show [d0].getD 0 ByteArray.empty = d0 from rfl, Nat.add_zero] at c0
              clear hdb hdc
              have HDS := Lib.hid (HMM.out.2.2 d0 (by simp))
              obtain ⟨M, R, v1, v2, v3, v4, v5, vb, hgv⟩ := getSoaV_ex d0
              have HMIN := Lib.hid (soaMin_of hgv)
              have HGS := Lib.hid (fun wx => getSoa_any d0 wx HDS.out)
              rw [hgv] at HGS
              clear hgv
              go_wp2_with fail
              refine (HGS.out _).mono ?_; rintro e w8 ⟨rfl, hb⟩
              clear y0 y1 y2 y3 y4 p0 p1 p2 c0
              replace HB := Lib.hid (HB.out.trans (hb.mono HB.out.size))
              replace C1 := Lib.hid (C1.out.below hb)
              replace C2 := Lib.hid (C2.out.below hb)
              replace C3 := Lib.hid (C3.out.below hb)
              replace HSA := Lib.hid (HSA.out.below hb)
              replace HSR := Lib.hid (HSR.out.below hb)
              replace HBR := Lib.hid (HBR.out.trans (hb.mono HBR.out.size))
              replace D1 := Lib.hid (D1.out.below hb)
              clear hb
              have hba := (Below.refl _ _ : Below w8.heap.size w8 w8).alloc (Nat.le_refl _) (.cells #[.string M, .string R, .int .i64 v1, .int .i64 v2, .int .i64 v3, .int .i64 v4, .int .i64 v5] 149)
              have D2 := Lib.hid (CN.new w8 #[.string M, .string R, .int .i64 v1, .int .i64 v2, .int .i64 v3, .int .i64 v4, .int .i64 v5] 149)
              replace HB := Lib.hid (HB.out.trans (hba.mono HB.out.size))
              replace C1 := Lib.hid (C1.out.below hba)
              replace C2 := Lib.hid (C2.out.below hba)
              replace C3 := Lib.hid (C3.out.below hba)
              replace HSA := Lib.hid (HSA.out.below hba)
              replace HSR := Lib.hid (HSR.out.below hba)
              replace HBR := Lib.hid (HBR.out.trans (hba.mono HBR.out.size))
              replace D1 := Lib.hid (D1.out.below hba)
              obtain ⟨w9, hw⟩ : ∃ x, w8.alloc (.cells #[.string M, .string R, .int .i64 v1, .int .i64 v2, .int .i64 v3, .int .i64 v4, .int .i64 v5] 149) = x := ⟨_, rfl⟩
              obtain ⟨q9, hq⟩ : ∃ x, w8.heap.size = x := ⟨_, rfl⟩
              rw [hw, hq] at D2
              rw [hw] at HB C1 C2 C3 HSA HSR HBR D1
              have HW := Lib.hid hw
              have HQ_ := Lib.hid hq
              clear hba hw hq
              go_upto_region 8 with (fail)
              rw [HW.out, HQ_.out]
              clear HW HQ_
              have HV := Lib.hid (show noO kd qn true (wiF cut N) = ⟨kd, min su v5, [], emB⟩ by
                  rw [HSn.out, noO, if_pos rfl, noTtl, find_next hall.out HLK.out (show soaB qn ⟨⟨sn, st, sk⟩, su, [d0]⟩ = true by show (decide (st = 6) && (true && undS qn sn)) = true; rw [HVT.out, HVU.out]; rfl)]
                  show (⟨kd, min su (soaMin d0), [], emB⟩ : OutP) = _
                  rw [HMIN.out])
              replace HB := Lib.hid HB.out
              obtain ⟨y0, y1, y2, y3, y4, _⟩ := D1.out.u5
              obtain ⟨t0, t1, t2, t3, t4, t5, t6, _⟩ := D2.out.u7
              obtain ⟨y0, y1, y2, y3, g0, g1, g2, g3⟩ := C3.out.o4
              have KZ := Lib.hid (C3.out.p4 (.int .i64 kd) (.int .i64 (min su v5)) (.slice none 0 0) (.string ⟨#[]⟩))
              have HGZ := Lib.hid (grown_p4 w9 q4 (.int .i64 kd) (.int .i64 (min su v5)) (.slice none 0 0) (.string ⟨#[]⟩))
              have HBZ := Lib.hid (HB.out.grown HGZ.out HB.out.size (fun k hk => by injection hk with hk; rw [← hk]; exact HQZ.out))
              repeat go_step
              obtain ⟨wz, hwz⟩ : ∃ x, ((((w9.setCell ⟨q4, 0, none⟩ (.int .i64 kd)).setCell ⟨q4, 1, none⟩ (.int .i64 (min su v5))).setCell ⟨q4, 2, none⟩ (.slice none 0 0)).setCell ⟨q4, 3, none⟩ (.string ⟨#[]⟩)) = x := ⟨_, rfl⟩
              rw [hwz] at KZ HBZ ⊢
              clear hwz HGZ y0 y1 y2 y3 g0 g1 g2 g3
              obtain ⟨z0, z1, z2, z3, _⟩ := KZ.out.o4
              refine bodyPost_ret (v := .agg #[.int .i64 kd, .int .i64 (min su v5), .slice none 0 0, .string ⟨#[]⟩]) (by simp [results, Try.results72, go_sem, z0, z1, z2, z3]) rfl ⟨⟨_, rfl, by rw [HV.out]; exact ⟨none, 0, 0, rfl, RkUp.nil _ _ _, fun _ => ⟨rfl, rfl⟩⟩⟩, HBZ.out⟩
          · have f1 : ((dl : Int) == 1) = false := eF (by omega)
            have HD1 := Lib.hid h1
            clear h1
            have hmn := HZLn.out
            have hlt9 := HLT.out
            have HNO := Lib.hid (show soaB qn ⟨⟨sn, st, sk⟩, su, sd⟩ = false by show (decide (st = 6) && (decide (sd.length = 1) && _)) = false; rw [show decide (sd.length = 1) = false from dF (fun h => HD1.out (HDL.out.symm.trans h))]; simp)
            have HBN := Lib.hid (hbw.out.trans (HBR.out.mono hbw.out.size))
            go_wp2
            go_roundw
            case rel => exact ⟨k + 1, by have := HLT.out; omega, by have := HLT.out; have := HZLn.out; go_num, Lib.hid (fun s hs => by
                rw [List.take_add_one, HLK.out] at hs
                rcases List.mem_append.1 hs with h1 | h1
                · exact hall.out s h1
                · obtain rfl := List.mem_singleton.1 h1; exact HNO.out), HBN⟩
            case measure => have := HLT.out; have := HZLn.out; simp [intOf]; omega
      · obtain rfl : k = zln := by omega
        have HV := Lib.hid (show noO kd qn true (wiF cut N) = ⟨kd, 0, [], emB⟩ by rw [HSn.out, noO, if_pos rfl, noTtl, find_none (by have h := hall.out; rw [List.take_of_length_le (by rw [HLNn.out]; exact Nat.le_refl _)] at h; exact h)])
        clear hlt hk
        go_upto_region 10 with (fail)
        obtain ⟨y0, y1, y2, y3, g0, g1, g2, g3⟩ := C3.out.o4
        have KZ := Lib.hid (C3.out.p4 (.int .i64 kd) (.int .i64 0) (.slice none 0 0) (.string ⟨#[]⟩))
        have HGZ := Lib.hid (grown_p4 wr q4 (.int .i64 kd) (.int .i64 0) (.slice none 0 0) (.string ⟨#[]⟩))
        have HBZ := Lib.hid (HB.out.grown HGZ.out HB.out.size (fun k hk => by injection hk with hk; rw [← hk]; exact HQZ.out))
        repeat go_step
        obtain ⟨wz, hwz⟩ : ∃ x, ((((wr.setCell ⟨q4, 0, none⟩ (.int .i64 kd)).setCell ⟨q4, 1, none⟩ (.int .i64 0)).setCell ⟨q4, 2, none⟩ (.slice none 0 0)).setCell ⟨q4, 3, none⟩ (.string ⟨#[]⟩)) = x := ⟨_, rfl⟩
        rw [hwz] at KZ HBZ ⊢
        clear hwz HGZ y0 y1 y2 y3 g0 g1 g2 g3
        obtain ⟨z0, z1, z2, z3, _⟩ := KZ.out.o4
        refine bodyPost_ret (v := .agg #[.int .i64 kd, .int .i64 0, .slice none 0 0, .string ⟨#[]⟩]) (by simp [results, Try.results72, go_sem, z0, z1, z2, z3]) rfl ⟨⟨_, rfl, by rw [HV.out]; exact ⟨none, 0, 0, rfl, RkUp.nil _ _ _, fun _ => ⟨rfl, rfl⟩⟩⟩, HBZ.out⟩
end Go.Proofs.Ythfnphcefkdgbaa
