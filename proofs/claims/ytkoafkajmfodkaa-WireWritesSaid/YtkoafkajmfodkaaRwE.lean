/- The document's writer's record. -/
import Derived.Test.YtkoafkajmfodkaaRwD
namespace Go.Proofs.Ytkoafkajmfodkaa
open Go.RowKit

def FitR (r : R5) : Prop := fits r.k.t 2 = true ∧ fits r.k.c 2 = true ∧ fits r.ttl 4 = true
theorem DrS.ne {w : World} {B q g : Nat} {nv : Value} {E : Ents} {X : List UInt8} {T : TypeId} (h : DrS w B q nv E X) (ht : TB w g T) (hT : T ≠ 9) : nv.ownBlock ≠ some g := by
  obtain ⟨_, _, _, _, _, hn, _⟩ := h
  exact own_ne hn ht (fun e => hT e.symm)
theorem cn_kd {w w' : World} {B q g : Nat} {nv : Value} {E : Ents} {X : List UInt8} {cs : List Value} {T : TypeId} (h : CN w g cs) (ht : TB w g T) (hs : DrS w B q nv E X) (hk : Kd w w' nv) (h1 : T ≠ 108) (h2 : T ≠ 5) (h3 : T ≠ 3) (h4 : T ≠ 9) : CN w' g cs ∧ TB w' g T := by
  have hne := hs.ne ht h4
  obtain ⟨c, ht⟩ := ht
  have e := hk g c T ht h1 h2 h3 hne
  exact ⟨⟨(Array.getElem?_eq_some_iff.1 (e.trans ht)).1, fun j v hj => ⟨(World.cell?_of_block (a := ⟨g, j, none⟩) e).trans (h.2 j v hj).1, (World.frozen?_of_block (a := ⟨g, j, none⟩) e).trans (h.2 j v hj).2⟩⟩, c, e.trans ht⟩
theorem zeroP : putL 0 2 = [0, 0] := by decide +kernel
theorem rec2_put (f : Pls) (X : List UInt8) {r : R5} (h : FitR r) : rec2 f X r = (wNm f X (labs r.k.n)).1 ++ putL r.k.t 2 ++ putL r.k.c 2 ++ putL r.ttl 4 := by
  unfold rec2
  rw [joinL_app h.1 h.2.1, putL_join h.2.2]
  simp only [List.append_assoc]
set_option maxRecDepth 100000 in
set_option maxHeartbeats 8000000 in
theorem rrecord_any (q B : Nat) (nv : Value) (E : Ents) (n : ByteArray) (t c u : Int) (d : ByteArray) (X : List UInt8) (w : World) (hn : mayN n = true) (hd : d.size ≤ 1000) (hk : mayD t d = true ∨ t = 41) (h15 : t = 15 → 2 ≤ d.size) (hft : FitR ⟨⟨n, t, c⟩, u, d⟩) (hs : DrS w B q nv E X) (hB : B ≤ q) (hm : X.length + 6000 ≤ 1000000) :
    Calls Try.prog 57 #[.pointer (some ⟨q, 0, none⟩), .agg #[.string n, .int .i64 t, .int .i64 c, .int .i64 u, .string d]] w fun e w' => e = .returned (.tuple #[]) ∧ DrN w B q nv (wRec (lkE E) X ⟨⟨n, t, c⟩, u, d⟩).2 (wRec (lkE E) X ⟨⟨n, t, c⟩, u, d⟩).1 w' := by
  have HQ := Lib.hid hB
  have HD := Lib.hid (show d.size ≤ 1000 ∧ (mayD t d = true ∨ t = 41) ∧ (t = 15 → 2 ≤ d.size) from ⟨hd, hk, h15⟩)
  have HM := Lib.hid hm
  obtain ⟨l1, l2, l3⟩ := labs_spec hn
  have hr2 := rec2_put (lkE E) X hft
  obtain ⟨L, hL⟩ : ∃ x, labs n = x := ⟨_, rfl⟩
  rw [hL] at l1 l2 l3
  have HL := Lib.hid (show OkL L ∧ off L L.length ≤ 254 ∧ n = nameB L from ⟨l1, l2, l3⟩)
  have HLE := Lib.hid (show B ≤ w.heap.size from Nat.le_trans hB (Nat.le_of_lt hs.lt))
  have HR2 := Lib.hid (show rec2 (lkE E) X ⟨⟨n, t, c⟩, u, d⟩ = (wNm (lkE E) X L).1 ++ putL t 2 ++ putL c 2 ++ putL u 4 by rw [hr2, ← hL])
  have HR4 := Lib.hid (show rec4 (lkE E) X ⟨⟨n, t, c⟩, u, d⟩ = wDat (wNm (lkE E) X L).2 (rec2 (lkE E) X ⟨⟨n, t, c⟩, u, d⟩ ++ joinL 2 [0]) t d by rw [← hL]; rfl)
  have hb0 := (Below.refl w.heap.size w).alloc (Nat.le_refl _) (.cells #[.string n, .int .i64 t, .int .i64 c, .int .i64 u, .string d] 75)
  have HE := Lib.hid (CN.new w #[.string n, .int .i64 t, .int .i64 c, .int .i64 u, .string d] 75)
  have HT := Lib.hid (TB.new w #[.string n, .int .i64 t, .int .i64 c, .int .i64 u, .string d] 75)
  have HS := Lib.hid (hs.below hb0)
  have HB := Lib.hid (hb0.mono HLE.out)
  have HK := Lib.hid (Kd.below nv hb0)
  have HOW := Lib.hid (Ow.refl w nv)
  replace HLE := Lib.hid (Nat.le_trans HLE.out hb0.size)
  obtain ⟨w0, hw0⟩ : ∃ x, w.alloc (.cells #[.string n, .int .i64 t, .int .i64 c, .int .i64 u, .string d] 75) = x := ⟨_, rfl⟩
  obtain ⟨g, hg⟩ : ∃ x, w.heap.size = x := ⟨_, rfl⟩
  have HSZ0 := Lib.hid (show w.heap.size ≤ w0.heap.size by rw [← hw0]; simp)
  rw [hw0] at HE HT HS HB HK HLE
  rw [hg] at HE HT
  have HW0 := Lib.hid hw0
  have HG0 := Lib.hid hg
  clear hb0 hw0 hg hs hd hk h15 hB hm hn hL l1 l2 l3 hft hr2
  go_enter Try.func57, Try.ntmps57
  go_upto_region 1 with (fail)
  rw [HW0.out, HG0.out]
  clear HW0 HG0
  have c0 := (HE.out.2 0 _ rfl).1
  go_wp2_with fail
  clear c0
  rw [HL.out.2.2]
  refine (rname_any q B nv E X L w0 HL.out.1 HL.out.2.1 HS.out HQ.out (by have := HM.out; omega)).mono ?_; rintro e w1 ⟨rfl, hd1⟩
  rw [← HL.out.2.2]
  obtain ⟨nv1, E1, hs1, he1, hb1, hk1, ho1⟩ := hd1
  replace HB := Lib.hid (HB.out.trans hb1)
  replace HK := Lib.hid (HK.out.trans HOW.out hk1)
  replace HOW := Lib.hid ((Ow.refl w nv).trans (by have := HB.out.size; exact HSZ0.out) ho1)
  replace HLE := Lib.hid (Nat.le_trans HLE.out hb1.size)
  have hct := cn_kd HE.out HT.out HS.out hk1 (by decide) (by decide) (by decide) (by decide)
  replace HE := Lib.hid hct.1
  replace HT := Lib.hid hct.2
  replace HS := Lib.hid hs1
  clear hct hs1 hb1 hk1 ho1
  have HX1 := Lib.hid (wNm_le L (lkE E) X)
  obtain ⟨⟨X1, f1⟩, hx1⟩ : ∃ x, wNm (lkE E) X L = x := ⟨_, rfl⟩
  rw [hx1] at HS HX1 HR2 HR4 he1
  replace HS : Hid (DrS w1 B q nv1 E1 X1) := HS
  have HE1 := Lib.hid (show lkE E1 = f1 from he1)
  replace HX1 : Hid (X1.length ≤ X.length + off L L.length + 2) := HX1
  replace HR2 : Hid (rec2 (lkE E) X ⟨⟨n, t, c⟩, u, d⟩ = X1 ++ putL t 2 ++ putL c 2 ++ putL u 4) := HR2
  replace HR4 : Hid (rec4 (lkE E) X ⟨⟨n, t, c⟩, u, d⟩ = wDat f1 (rec2 (lkE E) X ⟨⟨n, t, c⟩, u, d⟩ ++ joinL 2 [0]) t d) := HR4
  have HX2 := Lib.hid (show X1.length ≤ X.length + 256 by have := HX1.out; have := HL.out.2.1; omega)
  clear hx1 HX1 he1
  obtain ⟨c0, c1, c2, c3, c4⟩ := cn5 HE.out
  go_wp2_with fail
  clear c0 c1 c2 c3 c4
  refine (rnumS q B nv1 E1 X1 t 2 _ HS.out HQ.out (by have := HX2.out; have := HM.out; omega)).mono ?_; rintro e w2 ⟨rfl, hs2, hb2, hk2⟩
  replace HB := Lib.hid (HB.out.trans hb2)
  replace HK := Lib.hid (HK.out.trans HOW.out hk2)
  skip
  replace HLE := Lib.hid (Nat.le_trans HLE.out hb2.size)
  have hct := cn_kd HE.out HT.out HS.out hk2 (by decide) (by decide) (by decide) (by decide)
  replace HE := Lib.hid hct.1
  replace HT := Lib.hid hct.2
  replace HS := Lib.hid hs2
  clear hct hs2 hb2 hk2
  obtain ⟨c0, c1, c2, c3, c4⟩ := cn5 HE.out
  go_wp2_with fail
  clear c0 c1 c2 c3 c4
  refine (rnumS q B nv1 E1 (X1 ++ putL t 2) c 2 _ HS.out HQ.out (by have := HX2.out; have := HM.out; have h3 := putL_le t 2; rw [List.length_append]; omega)).mono ?_; rintro e w3 ⟨rfl, hs3, hb3, hk3⟩
  replace HB := Lib.hid (HB.out.trans hb3)
  replace HK := Lib.hid (HK.out.trans HOW.out hk3)
  skip
  replace HLE := Lib.hid (Nat.le_trans HLE.out hb3.size)
  have hct := cn_kd HE.out HT.out HS.out hk3 (by decide) (by decide) (by decide) (by decide)
  replace HE := Lib.hid hct.1
  replace HT := Lib.hid hct.2
  replace HS := Lib.hid hs3
  clear hct hs3 hb3 hk3
  obtain ⟨c0, c1, c2, c3, c4⟩ := cn5 HE.out
  go_wp2_with fail
  clear c0 c1 c2 c3 c4
  refine (rnumS q B nv1 E1 (X1 ++ putL t 2 ++ putL c 2) u 4 _ HS.out HQ.out (by have := HX2.out; have := HM.out; have h3 := putL_le t 2; have h4 := putL_le c 2; rw [List.length_append, List.length_append]; omega)).mono ?_; rintro e w4 ⟨rfl, hs4, hb4, hk4⟩
  replace HB := Lib.hid (HB.out.trans hb4)
  replace HK := Lib.hid (HK.out.trans HOW.out hk4)
  skip
  replace HLE := Lib.hid (Nat.le_trans HLE.out hb4.size)
  have hct := cn_kd HE.out HT.out HS.out hk4 (by decide) (by decide) (by decide) (by decide)
  replace HE := Lib.hid hct.1
  replace HT := Lib.hid hct.2
  replace HS := Lib.hid hs4
  clear hct hs4 hb4 hk4
  obtain ⟨X2, hx2⟩ : ∃ x, X1 ++ putL t 2 ++ putL c 2 ++ putL u 4 = x := ⟨_, rfl⟩
  have HX3 := Lib.hid (show X2.length ≤ X.length + 300 by
    have h1 := HX2.out; have h2 := putL_le t 2; have h3 := putL_le c 2; have h4 := putL_le u 4
    rw [← hx2, List.length_append, List.length_append, List.length_append]
    omega)
  rw [hx2] at HS HR2
  rw [HR2.out] at HR4
  clear hx2
  obtain ⟨bv, av, hc, ht, ho, hnn, haa, hok, hle⟩ := HS.out
  obtain ⟨fr, hfr⟩ : ∃ x, X2.length = x := ⟨_, rfl⟩
  rw [hfr] at ho
  obtain ⟨sa, sc, rfl, -⟩ := cellsK_own ho
  have c0 := (hc.2 0 _ rfl).1
  have HFR := Lib.hid hfr
  clear ht ho hnn haa hok hle hc hfr
  go_wp2_with fail
  clear c0
  skip
  refine (rnumS q B nv1 E1 X2 0 2 _ HS.out HQ.out (by have := HX3.out; have := HM.out; omega)).mono ?_; rintro e w5 ⟨rfl, hs5, hb5, hk5⟩
  replace HB := Lib.hid (HB.out.trans hb5)
  replace HK := Lib.hid (HK.out.trans HOW.out hk5)
  skip
  replace HLE := Lib.hid (Nat.le_trans HLE.out hb5.size)
  have hct := cn_kd HE.out HT.out HS.out hk5 (by decide) (by decide) (by decide) (by decide)
  replace HE := Lib.hid hct.1
  replace HT := Lib.hid hct.2
  replace HS := Lib.hid hs5
  clear hct hs5 hb5 hk5
  have hz2 := zeroP
  have hj2 := zeros2
  rw [hz2] at HS
  rw [hj2] at HR4
  clear hz2 hj2
  obtain ⟨c0, c1, c2, c3, c4⟩ := cn5 HE.out
  go_wp2_with fail
  clear c0 c1 c2 c3 c4
  refine (rdata5_any q B nv1 E1 (X2 ++ [0, 0]) t d _ HD.out.1 HD.out.2.1 HS.out HQ.out (by rw [List.length_append]; have := HX3.out; have := HM.out; simp only [List.length_cons, List.length_nil]; omega)).mono ?_; rintro e w6 ⟨rfl, hd6⟩
  obtain ⟨nv6, E6, hs6, he6, hb6, hk6, ho6⟩ := hd6
  have HB6 := Lib.hid (HB.out.trans hb6)
  have HK6 := Lib.hid (HK.out.trans HOW.out hk6)
  have HOW6 := Lib.hid (HOW.out.trans HB.out.size ho6)
  replace HLE := Lib.hid (Nat.le_trans HLE.out hb6.size)
  rw [HE1.out] at hs6 he6
  have HGE := Lib.hid (wDat_ge f1 (X2 ++ [0, 0]) t d)
  have HLL := Lib.hid (wDat_le f1 (X2 ++ [0, 0]) HD.out.1 HD.out.2.1 HD.out.2.2)
  rw [← HR4.out] at hs6 he6 HGE HLL
  have HRR := Lib.hid (show wRec (lkE E) X ⟨⟨n, t, c⟩, u, d⟩ = (setLen (rec4 (lkE E) X ⟨⟨n, t, c⟩, u, d⟩).1 fr, (rec4 (lkE E) X ⟨⟨n, t, c⟩, u, d⟩).2) by rw [← HFR.out, ← HR2.out]; rfl)
  obtain ⟨⟨X4, f4⟩, hx4⟩ : ∃ x, rec4 (lkE E) X ⟨⟨n, t, c⟩, u, d⟩ = x := ⟨_, rfl⟩
  rw [hx4] at hs6 he6 HGE HLL HRR
  replace hs6 : DrS w6 B q nv6 E6 X4 := hs6
  have HE6 := Lib.hid (show lkE E6 = f4 from he6)
  clear hb6 hk6 ho6 he6 HS HE HT hx4
  obtain ⟨bv, av, hc, ht, ho, hnn, haa, hok, hle⟩ := hs6
  obtain ⟨xl, hxl⟩ : ∃ x, X4.length = x := ⟨_, rfl⟩
  rw [hxl] at ho
  obtain ⟨sz, hsz⟩ : ∃ x, xl - fr - 2 = x := ⟨_, rfl⟩
  have HZ := Lib.hid (show xl = fr + 2 + sz ∧ xl ≤ 1000000 ∧ sz ≤ 60000 by
    have h1 : (X2 ++ [0, 0]).length ≤ X4.length := HGE.out
    have h2 : X4.length ≤ (X2 ++ [0, 0]).length + 1600 := HLL.out
    rw [List.length_append] at h1 h2
    have := HFR.out; have := HX3.out; have := HM.out
    simp only [List.length_cons, List.length_nil] at h1 h2
    omega)
  have hnot : ∃ g cap, bv = .slice (some ⟨g, 0, none⟩) xl cap := by
    have hz := HZ.out
    rcases ho.2 with ⟨h1, h2⟩ | ⟨g, cap, cur, h1, _⟩
    · omega
    · exact ⟨g, cap, h1⟩
  obtain ⟨gb, cap, rfl⟩ := hnot
  have HC := Lib.hid hc
  have HT := Lib.hid ht
  have HO := Lib.hid ho
  have HNN := Lib.hid hnn
  have HAA := Lib.hid haa
  have HOK := Lib.hid hok
  have HEL := Lib.hid hle
  have HXL := Lib.hid hxl
  have c0 := (hc.2 0 _ rfl).1
  obtain ⟨s2, hs2⟩ : ∃ x, sz + 2 = x := ⟨_, rfl⟩
  have x1 : IntKind.i64.wrap ((xl : Int) - (fr : Int)) = (s2 : Int) := by have := HZ.out; rw [IntKind.wrap_i64]; omega
  have x2 : IntKind.i64.wrap ((s2 : Int) - 2) = (sz : Int) := by have := HZ.out; rw [IntKind.wrap_i64]; omega
  clear hs2
  clear hc ht ho hnn haa hok hle hxl hsz
  go_upto_region 9 with (fail)
  have HNE := Lib.hid (show gb ≠ q from fun e => own_ne HO.out HT.out (by decide) (by rw [← e]; rfl))
  have a1 : IntKind.i64.wrap ((fr : Int) + 1) = ((fr + 1 : Nat) : Int) := by have := HZ.out; rw [IntKind.wrap_i64]; omega
  have b0 : fr < xl := by have := HZ.out; omega
  have b1 : fr + 1 < xl := by have := HZ.out; omega
  have sh : IntKind.u8.wrap ((sz : Int) / 256) = (((UInt8.ofNat (sz / 256)).toNat : Nat) : Int) := by rw [IntKind.wrap_u8, UInt8.toNat_ofNat']; omega
  have sh2 : IntKind.u8.wrap (sz : Int) = (((UInt8.ofNat sz).toNat : Nat) : Int) := by rw [IntKind.wrap_u8, UInt8.toNat_ofNat']; omega
  obtain ⟨k0, hk0⟩ : ∃ x : Nat, fr + 1 = x := ⟨_, rfl⟩
  rw [hk0] at a1 b1
  have HK0 := Lib.hid hk0
  obtain ⟨u0, hu0⟩ : ∃ x, UInt8.ofNat (sz / 256) = x := ⟨_, rfl⟩
  obtain ⟨u1, hu1⟩ : ∃ x, UInt8.ofNat sz = x := ⟨_, rfl⟩
  rw [hu0] at sh
  rw [hu1] at sh2
  have HU := Lib.hid (show UInt8.ofNat (sz / 256) = u0 ∧ UInt8.ofNat sz = u1 from ⟨hu0, hu1⟩)
  clear hk0 hu0 hu1 c0 x1 x2
  refine wp_region_held_drew (S := (fun wx => CN wx q [(.slice (some ⟨gb, 0, none⟩) xl cap), nv6, av])) (by kernel_rfl) (HC.out) (fun hHeld => ?_)
  refine wpAnyH_take (i := 0) (oi := { dst := some 43, op := Go.Op.move (Go.Operand.tmp 0), type := 105, pos := "ref.go:152", after := #[], guard := none }) (v := ?v0_450101) rfl (by kernel_rfl) (by kernel_rfl) (by kernel_rfl) (fun _ _ _ h => h) (Or.inl ⟨by rfl, ?y0_450101⟩) hHeld ?r0_450101
  case y0_450101 => intro w hSw; (try dsimp only at hSw); have y0 := (hSw.2 0 _ rfl).1; go_simp; try with_reducible rfl
  try simp only [Act.put, List.setIfInBounds_toArray, List.set_cons_zero, List.set_cons_succ]
  refine wpAnyH_take (i := 1) (oi := { dst := some 44, op := Go.Op.nilCheck (Go.Operand.tmp 43), type := 0, pos := "ref.go:152", after := #[{ on := 0, ground := Go.Ground.data }], guard := none }) (v := ?v1_450101) rfl (by kernel_rfl) (by kernel_rfl) (by kernel_rfl) (fun _ _ _ h => h) (Or.inl ⟨by rfl, ?y1_450101⟩) hHeld ?r1_450101
  case y1_450101 => intro w hSw; (try dsimp only at hSw); have y0 := (hSw.2 0 _ rfl).1; go_simp; try with_reducible rfl
  try simp only [Act.put, List.setIfInBounds_toArray, List.set_cons_zero, List.set_cons_succ]
  refine wpAnyH_take (i := 2) (oi := { dst := some 45, op := Go.Op.fieldAddr 108 (Go.Operand.tmp 44) 0, type := 0, pos := "ref.go:152", after := #[{ on := 1, ground := Go.Ground.data }], guard := none }) (v := ?v2_450101) rfl (by kernel_rfl) (by kernel_rfl) (by kernel_rfl) (fun _ _ _ h => h) (Or.inl ⟨by rfl, ?y2_450101⟩) hHeld ?r2_450101
  case y2_450101 => intro w hSw; (try dsimp only at hSw); have y0 := (hSw.2 0 _ rfl).1; go_simp; try with_reducible rfl
  try simp only [Act.put, List.setIfInBounds_toArray, List.set_cons_zero, List.set_cons_succ]
  refine wpAnyH_take (i := 3) (oi := { dst := some 46, op := Go.Op.load 35 (Go.Operand.tmp 45), type := 35, pos := "ref.go:152", after := #[{ on := 2, ground := Go.Ground.data }], guard := none }) (v := ?v3_450101) rfl (by kernel_rfl) (by kernel_rfl) (by kernel_rfl) (fun _ _ _ h => h) (Or.inl ⟨by rfl, ?y3_450101⟩) hHeld ?r3_450101
  case y3_450101 => intro w hSw; (try dsimp only at hSw); have y0 := (hSw.2 0 _ rfl).1; go_simp; try with_reducible rfl
  try simp only [Act.put, List.setIfInBounds_toArray, List.set_cons_zero, List.set_cons_succ]
  refine wpAnyH_take (i := 4) (oi := { dst := some 47, op := Go.Op.move (Go.Operand.tmp 4), type := 3, pos := "ref.go:152", after := #[], guard := none }) (v := ?v4_450101) rfl (by kernel_rfl) (by kernel_rfl) (by kernel_rfl) (fun _ _ _ h => h) (Or.inl ⟨by rfl, ?y4_450101⟩) hHeld ?r4_450101
  case y4_450101 => intro w hSw; (try dsimp only at hSw); have y0 := (hSw.2 0 _ rfl).1; go_simp; try with_reducible rfl
  try simp only [Act.put, List.setIfInBounds_toArray, List.set_cons_zero, List.set_cons_succ]
  refine wpAnyH_take (i := 5) (oi := { dst := some 48, op := Go.Op.move (Go.Operand.tmp 0), type := 105, pos := "ref.go:152", after := #[], guard := none }) (v := ?v5_450101) rfl (by kernel_rfl) (by kernel_rfl) (by kernel_rfl) (fun _ _ _ h => h) (Or.inl ⟨by rfl, ?y5_450101⟩) hHeld ?r5_450101
  case y5_450101 => intro w hSw; (try dsimp only at hSw); have y0 := (hSw.2 0 _ rfl).1; go_simp; try with_reducible rfl
  try simp only [Act.put, List.setIfInBounds_toArray, List.set_cons_zero, List.set_cons_succ]
  refine wpAnyH_take (i := 6) (oi := { dst := some 49, op := Go.Op.nilCheck (Go.Operand.tmp 48), type := 0, pos := "ref.go:152", after := #[{ on := 5, ground := Go.Ground.data }], guard := none }) (v := ?v6_450101) rfl (by kernel_rfl) (by kernel_rfl) (by kernel_rfl) (fun _ _ _ h => h) (Or.inl ⟨by rfl, ?y6_450101⟩) hHeld ?r6_450101
  case y6_450101 => intro w hSw; (try dsimp only at hSw); have y0 := (hSw.2 0 _ rfl).1; go_simp; try with_reducible rfl
  try simp only [Act.put, List.setIfInBounds_toArray, List.set_cons_zero, List.set_cons_succ]
  refine wpAnyH_take (i := 7) (oi := { dst := some 50, op := Go.Op.fieldAddr 108 (Go.Operand.tmp 49) 0, type := 0, pos := "ref.go:152", after := #[{ on := 6, ground := Go.Ground.data }], guard := none }) (v := ?v7_450101) rfl (by kernel_rfl) (by kernel_rfl) (by kernel_rfl) (fun _ _ _ h => h) (Or.inl ⟨by rfl, ?y7_450101⟩) hHeld ?r7_450101
  case y7_450101 => intro w hSw; (try dsimp only at hSw); have y0 := (hSw.2 0 _ rfl).1; go_simp; try with_reducible rfl
  try simp only [Act.put, List.setIfInBounds_toArray, List.set_cons_zero, List.set_cons_succ]
  refine wpAnyH_take (i := 8) (oi := { dst := some 51, op := Go.Op.load 35 (Go.Operand.tmp 50), type := 35, pos := "ref.go:152", after := #[{ on := 7, ground := Go.Ground.data }], guard := none }) (v := ?v8_450101) rfl (by kernel_rfl) (by kernel_rfl) (by kernel_rfl) (fun _ _ _ h => h) (Or.inl ⟨by rfl, ?y8_450101⟩) hHeld ?r8_450101
  case y8_450101 => intro w hSw; (try dsimp only at hSw); have y0 := (hSw.2 0 _ rfl).1; go_simp; try with_reducible rfl
  try simp only [Act.put, List.setIfInBounds_toArray, List.set_cons_zero, List.set_cons_succ]
  refine wpAnyH_take (i := 9) (oi := { dst := some 52, op := Go.Op.move (Go.Operand.tmp 4), type := 3, pos := "ref.go:152", after := #[{ on := 17, ground := Go.Ground.gcOnly Go.Departure.lateStores }], guard := none }) (v := ?v9_450101) rfl (by kernel_rfl) (by kernel_rfl) (by kernel_rfl) (fun _ _ _ h => h) (Or.inl ⟨by rfl, ?y9_450101⟩) hHeld ?r9_450101
  case y9_450101 => intro w hSw; (try dsimp only at hSw); have y0 := (hSw.2 0 _ rfl).1; go_simp; try with_reducible rfl
  try simp only [Act.put, List.setIfInBounds_toArray, List.set_cons_zero, List.set_cons_succ]
  refine wpAnyH_take (i := 10) (oi := { dst := some 53, op := Go.Op.binOp Go.BinOp.add 3 (Go.Operand.tmp 52) (Go.Operand.const (Go.Value.int Go.IntKind.i64 1)) 3, type := 3, pos := "ref.go:152", after := #[{ on := 9, ground := Go.Ground.data }, { on := 17, ground := Go.Ground.gcOnly Go.Departure.lateStores }], guard := none }) (v := ?v10_450101) rfl (by kernel_rfl) (by kernel_rfl) (by kernel_rfl) (fun _ _ _ h => h) (Or.inl ⟨by rfl, ?y10_450101⟩) hHeld ?r10_450101
  case y10_450101 => intro w hSw; (try dsimp only at hSw); have y0 := (hSw.2 0 _ rfl).1; go_simp; try with_reducible rfl
  try simp only [Act.put, List.setIfInBounds_toArray, List.set_cons_zero, List.set_cons_succ]
  refine wpAnyH_take (i := 11) (oi := { dst := some 54, op := Go.Op.move (Go.Operand.tmp 5), type := 3, pos := "ref.go:152", after := #[], guard := none }) (v := ?v11_450101) rfl (by kernel_rfl) (by kernel_rfl) (by kernel_rfl) (fun _ _ _ h => h) (Or.inl ⟨by rfl, ?y11_450101⟩) hHeld ?r11_450101
  case y11_450101 => intro w hSw; (try dsimp only at hSw); have y0 := (hSw.2 0 _ rfl).1; go_simp; try with_reducible rfl
  try simp only [Act.put, List.setIfInBounds_toArray, List.set_cons_zero, List.set_cons_succ]
  refine wpAnyH_take (i := 12) (oi := { dst := some 55, op := Go.Op.binOp Go.BinOp.shr 3 (Go.Operand.tmp 54) (Go.Operand.const (Go.Value.int Go.IntKind.u64 8)) 111, type := 3, pos := "ref.go:152", after := #[{ on := 11, ground := Go.Ground.data }], guard := none }) (v := ?v12_450101) rfl (by kernel_rfl) (by kernel_rfl) (by kernel_rfl) (fun _ _ _ h => h) (Or.inl ⟨by rfl, ?y12_450101⟩) hHeld ?r12_450101
  case y12_450101 => intro w hSw; (try dsimp only at hSw); have y0 := (hSw.2 0 _ rfl).1; go_simp; try with_reducible rfl
  try simp only [Act.put, List.setIfInBounds_toArray, List.set_cons_zero, List.set_cons_succ]
  refine wpAnyH_take (i := 13) (oi := { dst := some 56, op := Go.Op.convert 3 5 (Go.Operand.tmp 55), type := 5, pos := "ref.go:152", after := #[{ on := 12, ground := Go.Ground.data }], guard := none }) (v := ?v13_450101) rfl (by kernel_rfl) (by kernel_rfl) (by kernel_rfl) (fun _ _ _ h => h) (Or.inl ⟨by rfl, ?y13_450101⟩) hHeld ?r13_450101
  case y13_450101 => intro w hSw; (try dsimp only at hSw); have y0 := (hSw.2 0 _ rfl).1; go_simp; try with_reducible rfl
  try simp only [Act.put, List.setIfInBounds_toArray, List.set_cons_zero, List.set_cons_succ]
  refine wpAnyH_take (i := 14) (oi := { dst := some 57, op := Go.Op.move (Go.Operand.tmp 5), type := 3, pos := "ref.go:152", after := #[{ on := 17, ground := Go.Ground.gcOnly Go.Departure.lateStores }], guard := none }) (v := ?v14_450101) rfl (by kernel_rfl) (by kernel_rfl) (by kernel_rfl) (fun _ _ _ h => h) (Or.inl ⟨by rfl, ?y14_450101⟩) hHeld ?r14_450101
  case y14_450101 => intro w hSw; (try dsimp only at hSw); have y0 := (hSw.2 0 _ rfl).1; go_simp; try with_reducible rfl
  try simp only [Act.put, List.setIfInBounds_toArray, List.set_cons_zero, List.set_cons_succ]
  refine wpAnyH_take (i := 15) (oi := { dst := some 58, op := Go.Op.convert 3 5 (Go.Operand.tmp 57), type := 5, pos := "ref.go:152", after := #[{ on := 14, ground := Go.Ground.data }, { on := 17, ground := Go.Ground.gcOnly Go.Departure.lateStores }], guard := none }) (v := ?v15_450101) rfl (by kernel_rfl) (by kernel_rfl) (by kernel_rfl) (fun _ _ _ h => h) (Or.inl ⟨by rfl, ?y15_450101⟩) hHeld ?r15_450101
  case y15_450101 => intro w hSw; (try dsimp only at hSw); have y0 := (hSw.2 0 _ rfl).1; go_simp; try with_reducible rfl
  try simp only [Act.put, List.setIfInBounds_toArray, List.set_cons_zero, List.set_cons_succ]
  refine wpAnyH_take (i := 16) (oi := { dst := some 59, op := Go.Op.indexAddr 35 (Go.Operand.tmp 46) (Go.Operand.tmp 47), type := 0, pos := "ref.go:152", after := #[{ on := 3, ground := Go.Ground.data }, { on := 4, ground := Go.Ground.data }, { on := 0, ground := Go.Ground.phase }, { on := 1, ground := Go.Ground.phase }, { on := 2, ground := Go.Ground.phase }, { on := 3, ground := Go.Ground.phase }, { on := 4, ground := Go.Ground.phase }, { on := 5, ground := Go.Ground.textOnly Go.Departure.lateStores }, { on := 6, ground := Go.Ground.textOnly Go.Departure.lateStoresUnsure }, { on := 7, ground := Go.Ground.textOnly Go.Departure.lateStoresUnsure }, { on := 8, ground := Go.Ground.phase }, { on := 9, ground := Go.Ground.textOnly Go.Departure.lateStores }, { on := 10, ground := Go.Ground.textOnly Go.Departure.lateStores }, { on := 11, ground := Go.Ground.phase }, { on := 12, ground := Go.Ground.phase }, { on := 13, ground := Go.Ground.phase }, { on := 14, ground := Go.Ground.textOnly Go.Departure.lateStores }, { on := 15, ground := Go.Ground.textOnly Go.Departure.lateStores }], guard := none }) (v := ?v16_450101) rfl (by kernel_rfl) (by kernel_rfl) (by kernel_rfl) (fun _ _ _ h => h) (Or.inl ⟨by rfl, ?y16_450101⟩) hHeld ?r16_450101
  case y16_450101 => intro w hSw; (try dsimp only at hSw); have y0 := (hSw.2 0 _ rfl).1; go_simp; try with_reducible rfl
  try simp only [Act.put, List.setIfInBounds_toArray, List.set_cons_zero, List.set_cons_succ]
  refine wpAnyH_ready (rs := [17]) (by kernel_rfl) (by simp) ?_
  refine AllReadyH.cons (o := { dst := none, op := Go.Op.store 5 (Go.Operand.tmp 59) (Go.Operand.tmp 56), type := 0, pos := "ref.go:152", after := #[{ on := 16, ground := Go.Ground.data }, { on := 13, ground := Go.Ground.data }, { on := 0, ground := Go.Ground.phase }, { on := 1, ground := Go.Ground.phase }, { on := 2, ground := Go.Ground.phase }, { on := 3, ground := Go.Ground.phase }, { on := 4, ground := Go.Ground.phase }, { on := 5, ground := Go.Ground.textOnly Go.Departure.lateStores }, { on := 6, ground := Go.Ground.textOnly Go.Departure.lateStoresUnsure }, { on := 7, ground := Go.Ground.textOnly Go.Departure.lateStoresUnsure }, { on := 8, ground := Go.Ground.phase }, { on := 9, ground := Go.Ground.textOnly Go.Departure.lateStores }, { on := 10, ground := Go.Ground.textOnly Go.Departure.lateStores }, { on := 11, ground := Go.Ground.phase }, { on := 12, ground := Go.Ground.phase }, { on := 13, ground := Go.Ground.phase }, { on := 14, ground := Go.Ground.textOnly Go.Departure.lateStores }, { on := 15, ground := Go.Ground.textOnly Go.Departure.lateStores }], guard := none }) rfl (fun K hK => ?_) AllReadyH.nil
  obtain ⟨⟨p0, p1⟩, p2⟩ := own_at8 HO.out fr b0
  go_simp
  clear p1 p2
  refine hK.out _ _ ((show CN (w6.setCell ⟨gb, fr, none⟩ (.int .u8 (u0.toNat : Int))).drew q [(.slice (some ⟨gb, 0, none⟩) xl cap), nv6, av] from CN.far HC.out ⟨gb, fr, none⟩ HNE.out _)) (fun hHeld2 => ?_)
  clear hK K hHeld
  have hHeld := hHeld2
  clear hHeld2
  try simp only [Act.put, List.setIfInBounds_toArray, List.set_cons_zero, List.set_cons_succ]
  refine wpAnyH_take (i := 18) (oi := { dst := some 60, op := Go.Op.indexAddr 35 (Go.Operand.tmp 51) (Go.Operand.tmp 53), type := 0, pos := "ref.go:152", after := #[{ on := 8, ground := Go.Ground.data }, { on := 10, ground := Go.Ground.data }, { on := 0, ground := Go.Ground.phase }, { on := 1, ground := Go.Ground.phase }, { on := 2, ground := Go.Ground.phase }, { on := 3, ground := Go.Ground.phase }, { on := 4, ground := Go.Ground.phase }, { on := 5, ground := Go.Ground.phase }, { on := 6, ground := Go.Ground.phase }, { on := 7, ground := Go.Ground.phase }, { on := 8, ground := Go.Ground.phase }, { on := 9, ground := Go.Ground.phase }, { on := 10, ground := Go.Ground.phase }, { on := 11, ground := Go.Ground.phase }, { on := 12, ground := Go.Ground.phase }, { on := 13, ground := Go.Ground.phase }, { on := 14, ground := Go.Ground.phase }, { on := 15, ground := Go.Ground.phase }, { on := 16, ground := Go.Ground.phase }, { on := 17, ground := Go.Ground.phase }], guard := none }) (v := ?v18_450102) rfl (by kernel_rfl) (by kernel_rfl) (by kernel_rfl) (fun _ _ _ h => h) (Or.inl ⟨by rfl, ?y18_450102⟩) hHeld ?r18_450102
  case y18_450102 => intro w hSw; (try dsimp only at hSw); have y0 := (hSw.2 0 _ rfl).1; go_simp; try with_reducible rfl
  try simp only [Act.put, List.setIfInBounds_toArray, List.set_cons_zero, List.set_cons_succ]
  refine wpAnyH_ready (rs := [19]) (by kernel_rfl) (by simp) ?_
  refine AllReadyH.cons (o := { dst := none, op := Go.Op.store 5 (Go.Operand.tmp 60) (Go.Operand.tmp 58), type := 0, pos := "ref.go:152", after := #[{ on := 18, ground := Go.Ground.data }, { on := 15, ground := Go.Ground.data }, { on := 17, ground := Go.Ground.chain }, { on := 0, ground := Go.Ground.phase }, { on := 1, ground := Go.Ground.phase }, { on := 2, ground := Go.Ground.phase }, { on := 3, ground := Go.Ground.phase }, { on := 4, ground := Go.Ground.phase }, { on := 5, ground := Go.Ground.phase }, { on := 6, ground := Go.Ground.phase }, { on := 7, ground := Go.Ground.phase }, { on := 8, ground := Go.Ground.phase }, { on := 9, ground := Go.Ground.phase }, { on := 10, ground := Go.Ground.phase }, { on := 11, ground := Go.Ground.phase }, { on := 12, ground := Go.Ground.phase }, { on := 13, ground := Go.Ground.phase }, { on := 14, ground := Go.Ground.phase }, { on := 15, ground := Go.Ground.phase }, { on := 16, ground := Go.Ground.phase }, { on := 17, ground := Go.Ground.phase }], guard := none }) rfl (fun K hK => ?_) AllReadyH.nil
  have HOS := Lib.hid (show World.ownsRow (w6.setCell ⟨gb, fr, none⟩ (.int .u8 (u0.toNat : Int))) B 5 1 (.slice (some ⟨gb, 0, none⟩) xl cap) xl (bc (X4.set fr u0)) from by rw [← bc_set]; exact (World.ownsRow.stored HO.out fr _).1)
  obtain ⟨⟨p0, p1⟩, p2⟩ := own_at8 HOS.out k0 b1
  go_simp
  clear p1 p2
  refine hK.out _ _ ((show CN (((w6.setCell ⟨gb, fr, none⟩ (.int .u8 (u0.toNat : Int))).setCell ⟨gb, k0, none⟩ (.int .u8 (u1.toNat : Int))).drew) q [(.slice (some ⟨gb, 0, none⟩) xl cap), nv6, av] from CN.far (CN.far HC.out ⟨gb, fr, none⟩ HNE.out _) ⟨gb, k0, none⟩ HNE.out _)) (fun hHeld2 => ?_)
  clear hK K hHeld
  have hHeld := hHeld2
  clear hHeld2
  try simp only [Act.put, List.setIfInBounds_toArray, List.set_cons_zero, List.set_cons_succ]
  refine wpAnyH_done (by kernel_rfl) ?_ _
  have HG := Lib.hid (show World.grownBy w6 ((w6.setCell ⟨gb, fr, none⟩ (.int .u8 (u0.toNat : Int))).setCell ⟨gb, k0, none⟩ (.int .u8 (u1.toNat : Int))) (some gb) from (World.ownsRow.stored HO.out fr _).2.trans (World.ownsRow.stored (World.ownsRow.stored HO.out fr (.int .u8 (u0.toNat : Int))).1 k0 _).2)
  have HO9 := Lib.hid (show World.ownsRow ((w6.setCell ⟨gb, fr, none⟩ (.int .u8 (u0.toNat : Int))).setCell ⟨gb, k0, none⟩ (.int .u8 (u1.toNat : Int))).drew B 5 1 (.slice (some ⟨gb, 0, none⟩) xl cap) xl (bc ((X4.set fr u0).set k0 u1)) from by rw [← bc_set, ← bc_set]; exact (World.ownsRow.stored (World.ownsRow.stored HO.out fr (.int .u8 (u0.toNat : Int))).1 k0 _).1)
  have HT9 := Lib.hid (show TB ((w6.setCell ⟨gb, fr, none⟩ (.int .u8 (u0.toNat : Int))).setCell ⟨gb, k0, none⟩ (.int .u8 (u1.toNat : Int))).drew q 108 from HT.out.grown (grown_drew HG.out) (fun e => HNE.out (by injection e)))
  have HN9 := Lib.hid (show World.ownsRow ((w6.setCell ⟨gb, fr, none⟩ (.int .u8 (u0.toNat : Int))).setCell ⟨gb, k0, none⟩ (.int .u8 (u1.toNat : Int))).drew B 9 1 nv6 E6.length (nmsC E6) from own_other HNN.out HO.out (by decide) (grown_drew HG.out))
  have HA9 := Lib.hid (show World.ownsRow ((w6.setCell ⟨gb, fr, none⟩ (.int .u8 (u0.toNat : Int))).setCell ⟨gb, k0, none⟩ (.int .u8 (u1.toNat : Int))).drew B 3 1 av E6.length (atsC E6) from own_other HAA.out HO.out (by decide) (grown_drew HG.out))
  have HB9 := Lib.hid ((HB6.out.grown HG.out HLE.out (fun k hk => (HO.out.lt k hk).1)).drew)
  have HK9 := Lib.hid ((HK6.out.trans HOW6.out (Kd.rowB HO.out HG.out)).drew)
  go_wp2
  refine bodyPost_end (v := .tuple #[]) (by simp [results, Try.results57, go_sem]) rfl ⟨rfl, ?_⟩
  rw [HRR.out]
  have hsl : setLen X4 fr = (X4.set fr u0).set k0 u1 := by unfold setLen; rw [show X4.length - fr - 2 = sz by have := HXL.out; have := HZ.out; omega, HU.out.1, HU.out.2, HK0.out]
  refine ⟨nv6, E6, ⟨(.slice (some ⟨gb, 0, none⟩) xl cap), av, hHeld, HT9.out, ?_, HN9.out, HA9.out, HOK.out, ?_⟩, HE6.out, HB9.out, HK9.out, HOW6.out⟩
  · show World.ownsRow _ B _ 1 _ (setLen X4 fr).length (bc (setLen X4 fr))
    rw [setLen_length, HXL.out, hsl]
    exact HO9.out
  · show E6.length ≤ (setLen X4 fr).length
    rw [setLen_length]; exact HEL.out
end Go.Proofs.Ytkoafkajmfodkaa
