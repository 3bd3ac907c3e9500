/- Zones: the search by halves, and Get. -/
import Derived.Test.YthfnphcefkdgbaaGreatMgA
import Derived.Test.YthfnphcefkdgbaaGreatMgN
namespace Go.Proofs.YthfnphcefkdgbaaGreat
open Go.RowKit
set_option maxRecDepth 100000 in
set_option maxHeartbeats 1600000 in
theorem getc_any (sn : ByteArray) (st sc su : Int) (a : Option Addr) (n c : Nat) (kn : ByteArray) (kt kc : Int) (w : World) (hs : sn.size ≤ 1000000) (hk : kn.size ≤ 1000000) : Calls Tryz.prog 62 #[.agg #[.string sn, .int .i64 st, .int .i64 sc, .int .i64 su, .slice a n c], .agg #[.string kn, .int .i64 kt, .int .i64 kc]] w fun e w' => e = .returned (.int .i64 (kcmp ⟨sn, st, sc⟩ ⟨kn, kt, kc⟩)) ∧ Below w.heap.size w w' := by
 have HC := Lib.hid (fun wx => kcompare_any ⟨sn, st, sc⟩ ⟨kn, kt, kc⟩ wx hs hk)
 obtain ⟨v, hv⟩ : ∃ x, kcmp ⟨sn, st, sc⟩ ⟨kn, kt, kc⟩ = x := ⟨_, rfl⟩
 rw [hv] at HC ⊢
 clear hv hs hk
 have HB := Lib.hid (((Below.refl w.heap.size w).alloc (Nat.le_refl _) (.cells #[.string sn, .int .i64 st, .int .i64 sc, .int .i64 su, .slice a n c] 38)).alloc (by simp) (.cells #[.string kn, .int .i64 kt, .int .i64 kc] 24))
 go_enter Tryz.func62, Tryz.ntmps62
 go_wp2_with fail
 refine (HC.out _).mono ?_; rintro e w9 ⟨rfl, hb⟩
 have HB2 := Lib.hid (HB.out.trans (hb.b.mono (by simp [World.size_alloc]; omega)))
 clear hb HB
 go_wp2
 go_ret
 exact ⟨rfl, HB2.out⟩
-- SEARCH
def ZS (wr : World) (b o q : Nat) (sn : ByteArray) (st sc1 su : Int) (dv : Value) (kn : ByteArray) (kt kc : Int) (wx : World) : Prop := Hid (Below wr.heap.size wr wx) ∧ wx.cell? ⟨b, o, none⟩ = some (.string sn) ∧ wx.cell? ⟨b, o + 1, none⟩ = some (.int .i64 st) ∧ wx.cell? ⟨b, o + 2, none⟩ = some (.int .i64 sc1) ∧ wx.cell? ⟨b, o + 3, none⟩ = some (.int .i64 su) ∧ wx.cell? ⟨b, o + 4, none⟩ = some dv ∧ wx.cell? ⟨q, 0, none⟩ = some (.string kn) ∧ wx.cell? ⟨q, 1, none⟩ = some (.int .i64 kt) ∧ wx.cell? ⟨q, 2, none⟩ = some (.int .i64 kc)
theorem ZS.of {wr : World} {b o q : Nat} {sn : ByteArray} {st sc1 su : Int} {dv : Value} {kn : ByteArray} {kt kc : Int} {wx : World} (hb : Below wr.heap.size wr wx) (h1 : b < wr.heap.size) (h2 : q < wr.heap.size) (h : ZS wr b o q sn st sc1 su dv kn kt kc wr) : ZS wr b o q sn st sc1 su dv kn kt kc wx :=
 ⟨hb, (hb.cell h1).trans h.2.1, (hb.cell h1).trans h.2.2.1, (hb.cell h1).trans h.2.2.2.1, (hb.cell h1).trans h.2.2.2.2.1, (hb.cell h1).trans h.2.2.2.2.2.1, (hb.cell h2).trans h.2.2.2.2.2.2.1, (hb.cell h2).trans h.2.2.2.2.2.2.2.1, (hb.cell h2).trans h.2.2.2.2.2.2.2.2⟩
theorem ZS.next {wr : World} {b o q : Nat} {sn : ByteArray} {st sc1 su : Int} {dv : Value} {kn : ByteArray} {kt kc : Int} {wx wy : World} (hb : Below wx.heap.size wx wy) (h1 : b < wr.heap.size) (h2 : q < wr.heap.size) (h0 : ZS wr b o q sn st sc1 su dv kn kt kc wr) (h : ZS wr b o q sn st sc1 su dv kn kt kc wx) : ZS wr b o q sn st sc1 su dv kn kt kc wy :=
 ZS.of (h.1.out.trans (hb.mono h.1.out.size)) h1 h2 h0
theorem ZS.get {wr : World} {b o q : Nat} {sn : ByteArray} {st sc1 su : Int} {dv : Value} {kn : ByteArray} {kt kc : Int} {wx : World} (h : ZS wr b o q sn st sc1 su dv kn kt kc wx) : Below wr.heap.size wr wx := h.1.out
set_option maxRecDepth 100000 in
set_option maxHeartbeats 4000000 in
theorem bsearch_any (a : Option Addr) (len cap : Nat) (S : List SetP) (kn : ByteArray) (kt kc : Int) (w : World) (h : SetsAt w a len S) (hlen : len ≤ 100000) (hr : RiseS S) (hz : ∀ s ∈ S, s.k.n.size ≤ 1000000) (hk : kn.size ≤ 1000000) :
  Calls Tryz.prog 61 #[.slice a len cap, .agg #[.string kn, .int .i64 kt, .int .i64 kc], .func (Fn.func 62) #[] #[]] w fun e w' => (∃ (i : Nat) (b : Bool), e = .returned (.tuple #[.int .i64 (i : Int), .bool b]) ∧ (b = true → i < len ∧ findK S ⟨kn, kt, kc⟩ = some (S.getD i ssD)) ∧ (b = false → findK S ⟨kn, kt, kc⟩ = none)) ∧ Below w.heap.size w w' := by
 have HR := Lib.hid h
 have HL := Lib.hid h.1
 have HRI := Lib.hid hr
 have HZ := Lib.hid hz
 have HKS := Lib.hid hk
 have HK := Lib.hid (kyAt_new w ⟨kn, kt, kc⟩ 24)
 have HB := Lib.hid ((Below.refl w.heap.size w).alloc (Nat.le_refl _) (.cells #[.string kn, .int .i64 kt, .int .i64 kc] 24))
 have HH := Lib.hid (show Half S ⟨kn, kt, kc⟩ 0 len from ⟨fun t ht => absurd ht (by omega), fun t h1 h2 => absurd h2 (by have := h.1; omega)⟩)
 clear h hr hz hk
 go_enter Tryz.func61, Tryz.ntmps61
 go_wp2_with fail
 obtain ⟨w1, hw1⟩ : ∃ x, (w.alloc (.cells #[.string kn, .int .i64 kt, .int .i64 kc] 24)) = x := ⟨_, rfl⟩
 rw [hw1] at HK HB ⊢
 clear hw1
 obtain ⟨q, hq⟩ : ∃ q, w.heap.size = q := ⟨_, rfl⟩
 rw [show (Value.pointer (some { block := w.heap.size, off := 0 })) = Value.pointer (some { block := q, off := 0 }) by rw [hq]]
 rw [hq] at HK
 clear hq
 go_loopw [9, 10] (fun iv jv wr => ∃ i j : Nat, i ≤ j ∧ j ≤ len ∧ iv = .int .i64 i ∧ jv = .int .i64 j ∧ Hid (Half S ⟨kn, kt, kc⟩ i j) ∧ Hid (KyAt wr q ⟨kn, kt, kc⟩) ∧ Hid (Below w.heap.size w wr)) (fun iv jv _ => (intOf jv).toNat - (intOf iv).toNat)
 case atStart => exact ⟨0, len, Nat.zero_le _, Nat.le_refl _, rfl, rfl, HH, HK, HB⟩
 case round =>
  obtain ⟨i, j, hij, hj, rfl, rfl, hh, hky, hbw⟩ := hrel
  clear HK HB HH
  by_cases hlt : i < j
  · have d0 : decide (i < j) = true := dT hlt
    go_upto_region 5 with (fail)
    rw [show ((i : Int) + (j : Int)) / 2 = (((i + j) / 2 : Nat) : Int) by omega]
    obtain ⟨m, hm⟩ : ∃ m, (i + j) / 2 = m := ⟨_, rfl⟩
    rw [hm]
    have HM := Lib.hid (show i ≤ m ∧ m < j by omega)
    clear hm d0
    rcases (HR.out.below hbw.out).2 with h9 | ⟨b, o, rfl, hbl, hc⟩
    · omega
    obtain ⟨p, c, hs⟩ := hc m (by have := HM.out; omega)
    have hsz : (S.getD m ssD).k.n.size ≤ 1000000 := HZ.out _ (by
      rw [List.getD_eq_getElem?_getD, List.getElem?_eq_getElem (by have := HL.out; have := HM.out; omega)]
      exact List.getElem_mem _)
    have HUP := Lib.hid (fun (hl : kcmp (S.getD m ssD).k ⟨kn, kt, kc⟩ < 0) => Half.up HRI.out hh.out (h := m) (by have := HM.out; have := HL.out; omega) hl)
    have HDN := Lib.hid (fun (hl : ¬ kcmp (S.getD m ssD).k ⟨kn, kt, kc⟩ < 0) => Half.down HRI.out hh.out (h := m) hl)
    obtain ⟨s, hss⟩ : ∃ s, S.getD m ssD = s := ⟨_, rfl⟩
    rw [hss] at hs hsz HUP HDN
    obtain ⟨⟨sn, st, sc1⟩, su, sd⟩ := s
    obtain ⟨dl, hdl⟩ : ∃ x, sd.length = x := ⟨_, rfl⟩
    obtain ⟨c0, c1, c2, c3, c4, -, -⟩ := hs
    replace c4 : wr.cell? ⟨b, o + m * 5 + 4, none⟩ = some (.slice p sd.length c) := c4
    rw [hdl] at c4
    obtain ⟨hql, p0, p1, p2⟩ := hky.out
    have HBL := Lib.hid hbl
    have HQL := Lib.hid hql
    have HS0 := Lib.hid (show ZS wr b (o + m * 5) q sn st sc1 su (.slice p dl c) kn kt kc wr from ⟨Below.refl _ _, c0, c1, c2, c3, c4, p0, p1, p2⟩)
    have HCC := Lib.hid (fun wx => getc_any sn st sc1 su p dl c kn kt kc wx hsz HKS.out)
    obtain ⟨v, hv⟩ : ∃ x, kcmp ⟨sn, st, sc1⟩ ⟨kn, kt, kc⟩ = x := ⟨_, rfl⟩
    rw [hv] at HCC
    replace HUP : Hid (v < 0 → Half S ⟨kn, kt, kc⟩ (m + 1) j) := fun hl => HUP.out (by rw [← hv] at hl; exact hl)
    replace HDN : Hid (¬ v < 0 → Half S ⟨kn, kt, kc⟩ i m) := fun hl => HDN.out (by rw [← hv] at hl; exact hl)
    have i1 : (0 : Int) ≤ (m : Int) := by omega
    have i2 : (m : Int) < (len : Int) := by have := HM.out; omega
    clear hc hss hdl hv hsz hbl hql c0 c1 c2 c3 c4 p0 p1 p2
    by_cases hv0 : v < 0
    · have d1 : decide (v < 0) = true := dT hv0
      go_region_held3 (fun wx => Hid (Below wr.heap.size wr wx) ∧ wx.cell? ⟨b, o + m * 5, none⟩ = some (.string sn) ∧ wx.cell? ⟨b, o + m * 5 + 1, none⟩ = some (.int .i64 st) ∧ wx.cell? ⟨b, o + m * 5 + 2, none⟩ = some (.int .i64 sc1) ∧ wx.cell? ⟨b, o + m * 5 + 3, none⟩ = some (.int .i64 su) ∧ wx.cell? ⟨b, o + m * 5 + 4, none⟩ = some (.slice p dl c) ∧ wx.cell? ⟨q, 0, none⟩ = some (.string kn) ∧ wx.cell? ⟨q, 1, none⟩ = some (.int .i64 kt) ∧ wx.cell? ⟨q, 2, none⟩ = some (.int .i64 kc)) (first | (exact ZS.of ((Below.refl wr.heap.size wr).drew) HBL.out HQL.out HS0.out) | assumption | (refine ZS.next hb HBL.out HQL.out HS0.out ?_; assumption)) ((go_at_call 62; refine (HCC.out _).mono ?_; rintro e wy ⟨rfl, hb⟩))
      have HBX := Lib.hid (hbw.out.trans ((ZS.get (b := b) (o := o + m * 5) (q := q) (sn := sn) (st := st) (sc1 := sc1) (su := su) (dv := .slice p dl c) (kn := kn) (kt := kt) (kc := kc) (by assumption)).mono hbw.out.size))
      have HKX := Lib.hid (hky.out.below (ZS.get (b := b) (o := o + m * 5) (q := q) (sn := sn) (st := st) (sc1 := sc1) (su := su) (dv := .slice p dl c) (kn := kn) (kt := kt) (kc := kc) (by assumption)))
      go_wp2
      go_roundw
      case rel => exact ⟨m + 1, j, by have := HM.out; omega, hj, by go_num, rfl, HUP.out hv0, HKX, HBX⟩
      case measure => simp only [intOf]; have := HM.out; omega
    · have d1 : decide (v < 0) = false := dF hv0
      go_region_held3 (fun wx => Hid (Below wr.heap.size wr wx) ∧ wx.cell? ⟨b, o + m * 5, none⟩ = some (.string sn) ∧ wx.cell? ⟨b, o + m * 5 + 1, none⟩ = some (.int .i64 st) ∧ wx.cell? ⟨b, o + m * 5 + 2, none⟩ = some (.int .i64 sc1) ∧ wx.cell? ⟨b, o + m * 5 + 3, none⟩ = some (.int .i64 su) ∧ wx.cell? ⟨b, o + m * 5 + 4, none⟩ = some (.slice p dl c) ∧ wx.cell? ⟨q, 0, none⟩ = some (.string kn) ∧ wx.cell? ⟨q, 1, none⟩ = some (.int .i64 kt) ∧ wx.cell? ⟨q, 2, none⟩ = some (.int .i64 kc)) (first | (exact ZS.of ((Below.refl wr.heap.size wr).drew) HBL.out HQL.out HS0.out) | assumption | (refine ZS.next hb HBL.out HQL.out HS0.out ?_; assumption)) ((go_at_call 62; refine (HCC.out _).mono ?_; rintro e wy ⟨rfl, hb⟩))
      have HBX := Lib.hid (hbw.out.trans ((ZS.get (b := b) (o := o + m * 5) (q := q) (sn := sn) (st := st) (sc1 := sc1) (su := su) (dv := .slice p dl c) (kn := kn) (kt := kt) (kc := kc) (by assumption)).mono hbw.out.size))
      have HKX := Lib.hid (hky.out.below (ZS.get (b := b) (o := o + m * 5) (q := q) (sn := sn) (st := st) (sc1 := sc1) (su := su) (dv := .slice p dl c) (kn := kn) (kt := kt) (kc := kc) (by assumption)))
      go_wp2
      go_roundw
      case rel => exact ⟨i, m, by have := HM.out; omega, by have := HM.out; omega, rfl, rfl, HDN.out hv0, HKX, HBX⟩
      case measure => simp only [intOf]; have := HM.out; omega
  · have d0 : decide (i < j) = false := dF hlt
    obtain rfl : i = j := by omega
    clear hlt hij
    by_cases hil : i < len
    · have d2 : decide (i < len) = true := dT hil
      rcases (HR.out.below hbw.out).2 with h9 | ⟨b, o, rfl, hbl, hc⟩
      · omega
      obtain ⟨p, c, hs⟩ := hc i (hil)
      have hsz : (S.getD i ssD).k.n.size ≤ 1000000 := HZ.out _ (by
        rw [List.getD_eq_getElem?_getD, List.getElem?_eq_getElem (by have := HL.out; omega)]
        exact List.getElem_mem _)
      have HY := Lib.hid (fun (h0 : kcmp (S.getD i ssD).k ⟨kn, kt, kc⟩ = 0) => half_yes hh.out (by have := HL.out; omega) h0)
      have HN := Lib.hid (fun (h0 : kcmp (S.getD i ssD).k ⟨kn, kt, kc⟩ ≠ 0) => half_no HRI.out hh.out (fun _ => h0))
      have HSS := Lib.hid (show S.getD i ssD = S.getD i ssD from rfl)
      obtain ⟨s, hss⟩ : ∃ s, S.getD i ssD = s := ⟨_, rfl⟩
      rw [hss] at hs hsz HY HN
      obtain ⟨⟨sn, st, sc1⟩, su, sd⟩ := s
      obtain ⟨dl, hdl⟩ : ∃ x, sd.length = x := ⟨_, rfl⟩
      obtain ⟨c0, c1, c2, c3, c4, -, -⟩ := hs
      replace c4 : wr.cell? ⟨b, o + i * 5 + 4, none⟩ = some (.slice p sd.length c) := c4
      rw [hdl] at c4
      obtain ⟨hql, p0, p1, p2⟩ := hky.out
      have HBL := Lib.hid hbl
      have HQL := Lib.hid hql
      have HS0 := Lib.hid (show ZS wr b (o + i * 5) q sn st sc1 su (.slice p dl c) kn kt kc wr from ⟨Below.refl _ _, c0, c1, c2, c3, c4, p0, p1, p2⟩)
      have HCC := Lib.hid (fun wx => getc_any sn st sc1 su p dl c kn kt kc wx hsz HKS.out)
      obtain ⟨v, hv⟩ : ∃ x, kcmp ⟨sn, st, sc1⟩ ⟨kn, kt, kc⟩ = x := ⟨_, rfl⟩
      rw [hv] at HCC
      replace HY : Hid (v = 0 → findK S ⟨kn, kt, kc⟩ = some (S.getD i ssD)) := fun hl => by rw [hss]; exact HY.out (by rw [← hv] at hl; exact hl)
      replace HN : Hid (v ≠ 0 → findK S ⟨kn, kt, kc⟩ = none) := fun hl => HN.out (by rw [← hv] at hl; exact hl)
      have i1 : (0 : Int) ≤ (i : Int) := by omega
      have i2 : (i : Int) < (len : Int) := by omega
      have HIL := Lib.hid hil
      clear hc hss hdl hv hsz hbl hql c0 c1 c2 c3 c4 p0 p1 p2 hil
      by_cases hv0 : v = 0
      · have e1 : (v == 0) = true := eT hv0
        go_upto_region 8 with (fail)
        go_region_held3 (fun wx => Hid (Below wr.heap.size wr wx) ∧ wx.cell? ⟨b, o + i * 5, none⟩ = some (.string sn) ∧ wx.cell? ⟨b, o + i * 5 + 1, none⟩ = some (.int .i64 st) ∧ wx.cell? ⟨b, o + i * 5 + 2, none⟩ = some (.int .i64 sc1) ∧ wx.cell? ⟨b, o + i * 5 + 3, none⟩ = some (.int .i64 su) ∧ wx.cell? ⟨b, o + i * 5 + 4, none⟩ = some (.slice p dl c) ∧ wx.cell? ⟨q, 0, none⟩ = some (.string kn) ∧ wx.cell? ⟨q, 1, none⟩ = some (.int .i64 kt) ∧ wx.cell? ⟨q, 2, none⟩ = some (.int .i64 kc)) (first | (exact ZS.of ((Below.refl wr.heap.size wr).drew) HBL.out HQL.out HS0.out) | assumption | (refine ZS.next hb HBL.out HQL.out HS0.out ?_; assumption)) ((go_at_call 62; refine (HCC.out _).mono ?_; rintro e wy ⟨rfl, hb⟩))
        have HBX := Lib.hid (hbw.out.trans ((ZS.get (b := b) (o := o + i * 5) (q := q) (sn := sn) (st := st) (sc1 := sc1) (su := su) (dv := .slice p dl c) (kn := kn) (kt := kt) (kc := kc) (by assumption)).mono hbw.out.size))
        go_wp2
        refine bodyPost_ret (v := .tuple #[.int .i64 (i : Int), .bool true]) (by simp [results, Tryz.results61, go_sem]) rfl ⟨⟨i, true, rfl, fun _ => ⟨HIL.out, HY.out hv0⟩, (fun h => by cases h)⟩, HBX.out⟩
      · have e1 : (v == 0) = false := eF hv0
        go_upto_region 8 with (fail)
        go_region_held3 (fun wx => Hid (Below wr.heap.size wr wx) ∧ wx.cell? ⟨b, o + i * 5, none⟩ = some (.string sn) ∧ wx.cell? ⟨b, o + i * 5 + 1, none⟩ = some (.int .i64 st) ∧ wx.cell? ⟨b, o + i * 5 + 2, none⟩ = some (.int .i64 sc1) ∧ wx.cell? ⟨b, o + i * 5 + 3, none⟩ = some (.int .i64 su) ∧ wx.cell? ⟨b, o + i * 5 + 4, none⟩ = some (.slice p dl c) ∧ wx.cell? ⟨q, 0, none⟩ = some (.string kn) ∧ wx.cell? ⟨q, 1, none⟩ = some (.int .i64 kt) ∧ wx.cell? ⟨q, 2, none⟩ = some (.int .i64 kc)) (first | (exact ZS.of ((Below.refl wr.heap.size wr).drew) HBL.out HQL.out HS0.out) | assumption | (refine ZS.next hb HBL.out HQL.out HS0.out ?_; assumption)) ((go_at_call 62; refine (HCC.out _).mono ?_; rintro e wy ⟨rfl, hb⟩))
        have HBX := Lib.hid (hbw.out.trans ((ZS.get (b := b) (o := o + i * 5) (q := q) (sn := sn) (st := st) (sc1 := sc1) (su := su) (dv := .slice p dl c) (kn := kn) (kt := kt) (kc := kc) (by assumption)).mono hbw.out.size))
        go_wp2
        refine bodyPost_ret (v := .tuple #[.int .i64 (i : Int), .bool false]) (by simp [results, Tryz.results61, go_sem]) rfl ⟨⟨i, false, rfl, (fun h => by cases h), fun _ => HN.out hv0⟩, HBX.out⟩
    · have d2 : decide (i < len) = false := dF hil
      have HN := Lib.hid (half_no HRI.out hh.out (fun h => absurd h (by have := HL.out; omega)))
      go_upto_region 8 with (fail)
      refine wp_region_held_drew (S := (fun wx => Hid (Below w.heap.size w wx))) (by kernel_rfl) (Lib.hid (hbw.out.drew)) (fun hHeld => ?_)
      refine Plan.of [0, 1, 2, 3, 4, 5, 6, 7, 8, 9, 10, 11, 12, 13, 14, 15] ?_
      iterate 5 (refine Plan.w (v := ?_) rfl hHeld (by rfl) ?_ ?_; rotate_left; (focus (intro w hSw; (try dsimp only at hSw); go_simp; try with_reducible rfl)); try simp only [Act.put, List.setIfInBounds_toArray, List.set_cons_zero, List.set_cons_succ])
      iterate 8 (refine Plan.n rfl hHeld (by rfl) ?_; try simp only [Act.put, List.setIfInBounds_toArray, List.set_cons_zero, List.set_cons_succ])
      iterate 3 (refine Plan.w (v := ?_) rfl hHeld (by rfl) ?_ ?_; rotate_left; (focus (intro w hSw; (try dsimp only at hSw); go_simp; try with_reducible rfl)); try simp only [Act.put, List.setIfInBounds_toArray, List.set_cons_zero, List.set_cons_succ])
      refine Plan.fin ?_
      refine wpAnyH_done (by kernel_rfl) ?_ _
      go_wp2
      refine bodyPost_ret (v := .tuple #[.int .i64 (i : Int), .bool false]) (by simp [results, Tryz.results61, go_sem]) rfl ⟨⟨i, false, rfl, (fun h => by cases h), fun _ => HN.out⟩, hHeld.out⟩
def ZT (w1 : World) (z q : Nat) (dv : Value) (kn : ByteArray) (kt kc : Int) (wx : World) : Prop := Hid (Below w1.heap.size w1 wx) ∧ wx.cell? ⟨z, 1, none⟩ = some dv ∧ wx.cell? ⟨q, 0, none⟩ = some (.string kn) ∧ wx.cell? ⟨q, 1, none⟩ = some (.int .i64 kt) ∧ wx.cell? ⟨q, 2, none⟩ = some (.int .i64 kc)
theorem ZT.of {w1 wx : World} {z q : Nat} {dv : Value} {kn : ByteArray} {kt kc : Int} (hb : Below w1.heap.size w1 wx) (h1 : z < w1.heap.size) (h2 : q < w1.heap.size) (h : ZT w1 z q dv kn kt kc w1) : ZT w1 z q dv kn kt kc wx :=
 ⟨hb, (hb.cell h1).trans h.2.1, (hb.cell h2).trans h.2.2.1, (hb.cell h2).trans h.2.2.2.1, (hb.cell h2).trans h.2.2.2.2⟩
theorem ZT.next {w1 wx wy : World} {z q : Nat} {dv : Value} {kn : ByteArray} {kt kc : Int} (hb : Below wx.heap.size wx wy) (h1 : z < w1.heap.size) (h2 : q < w1.heap.size) (h0 : ZT w1 z q dv kn kt kc w1) (h : ZT w1 z q dv kn kt kc wx) : ZT w1 z q dv kn kt kc wy :=
 ZT.of (h.1.out.trans (hb.mono h.1.out.size)) h1 h2 h0
set_option maxRecDepth 100000 in
set_option maxHeartbeats 4000000 in
theorem zget_any (z : Nat) (apex : ByteArray) (S : List SetP) (kn : ByteArray) (kt kc : Int) (w : World) (h : ZnAt w z apex S) (hr : RiseS S) (hz : SzZ S) (hk : kn.size ≤ 1000000) :
  Calls Tryz.prog 13 #[.pointer (some ⟨z, 0, none⟩), .agg #[.string kn, .int .i64 kt, .int .i64 kc]] w fun e w' => Found S ⟨kn, kt, kc⟩ w.heap.size e w' ∧ Below w.heap.size w w' := by
 obtain ⟨a, c, hz2, hsa⟩ := h
 obtain ⟨len, hlen⟩ : ∃ x, S.length = x := ⟨_, rfl⟩
 rw [hlen] at hz2 hsa
 have HR := Lib.hid hsa
 have HL := Lib.hid hlen
 have HLN := Lib.hid (show len ≤ 100000 by rw [← hlen]; exact hz.1)
 have HD := Lib.hid (fun s hs => (hz.2 s hs).2)
 have HS := Lib.hid (fun wx (hx : Below w.heap.size w wx) => bsearch_any a len c S kn kt kc wx (hsa.below hx) (by rw [← hlen]; exact hz.1) hr (fun s hs => (hz.2 s hs).1) hk)
 have hq1 := (Below.refl w.heap.size w).alloc (Nat.le_refl _) (.cells #[.string kn, .int .i64 kt, .int .i64 kc] 24)
 have hq2 := (Below.refl _ (w.alloc (.cells #[.string kn, .int .i64 kt, .int .i64 kc] 24))).alloc (Nat.le_refl _) (.cells #[.string ⟨#[]⟩, .int .i64 0, .int .i64 0, .int .i64 0, .slice none 0 0] 38)
 have HK := Lib.hid ((kyAt_new w ⟨kn, kt, kc⟩ 24).below hq2)
 have hc := c5_new (w.alloc (.cells #[.string kn, .int .i64 kt, .int .i64 kc] 24)) (.string ⟨#[]⟩) (.int .i64 0) (.int .i64 0) (.int .i64 0) (.slice none 0 0) 38
 rw [World.size_alloc] at hc
 have HC := Lib.hid hc
 have HB := Lib.hid (hq1.trans (hq2.mono hq1.size))
 have HZ := Lib.hid hz2
 have HZZ := Lib.hid (show w.heap.size + 2 ≤ ((w.alloc (.cells #[.string kn, .int .i64 kt, .int .i64 kc] 24)).alloc (.cells #[.string ⟨#[]⟩, .int .i64 0, .int .i64 0, .int .i64 0, .slice none 0 0] 38)).heap.size by simp [World.size_alloc])
 clear hz hk hr hq1 hq2 hc hz2 hsa hlen
 go_enter Tryz.func13, Tryz.ntmps13
 go_upto_region 1 with (fail)
 obtain ⟨w1, hw1⟩ : ∃ x, ((w.alloc (.cells #[.string kn, .int .i64 kt, .int .i64 kc] 24)).alloc (.cells #[.string ⟨#[]⟩, .int .i64 0, .int .i64 0, .int .i64 0, .slice none 0 0] 38)) = x := ⟨_, rfl⟩
 rw [hw1] at HK HC HB HZZ ⊢
 clear hw1
 obtain ⟨q2, hq2⟩ : ∃ q, w.heap.size + 1 = q := ⟨_, rfl⟩
 rw [hq2] at HC ⊢
 have HQ2 := Lib.hid hq2
 obtain ⟨q, hq⟩ : ∃ q, w.heap.size = q := ⟨_, rfl⟩
 rw [show (Value.pointer (some { block := w.heap.size, off := 0 })) = Value.pointer (some { block := q, off := 0 }) by rw [hq]]
 replace HK : Hid (KyAt w1 q ⟨kn, kt, kc⟩) := by rw [← hq]; exact HK
 clear hq hq2
 have HZ1 := Lib.hid (HZ.out.below HB.out)
 have HT0 := Lib.hid (show ZT w1 z q (.slice a len c) kn kt kc w1 from ⟨Below.refl _ _, HZ1.out.w2.2, HK.out.2.1, HK.out.2.2.1, HK.out.2.2.2⟩)
 refine wp_region_held_drew (S := (fun wx => Hid (Below w1.heap.size w1 wx) ∧ wx.cell? ⟨z, 1, none⟩ = some (.slice a len c) ∧ wx.cell? ⟨q, 0, none⟩ = some (.string kn) ∧ wx.cell? ⟨q, 1, none⟩ = some (.int .i64 kt) ∧ wx.cell? ⟨q, 2, none⟩ = some (.int .i64 kc))) (by kernel_rfl) (ZT.of ((Below.refl w1.heap.size w1).drew) HZ1.out.1 HK.out.1 HT0.out) (fun hHeld => ?_)
 refine Plan.of [0, 1, 2, 3, 4] ?_
 iterate 5 (refine Plan.w (v := ?_) rfl hHeld (by rfl) ?_ ?_; rotate_left; (focus (intro w hSw; (try dsimp only at hSw); go_simp; try with_reducible rfl)); try simp only [Act.put, List.setIfInBounds_toArray, List.set_cons_zero, List.set_cons_succ])
 refine Plan.fin ?_
 refine wpAnyH_ready (rs := [5]) (by kernel_rfl) (by simp) ?_
 refine AllReadyH.cons (o := { dst := some 14, op := Go.Op.call { callee := Go.Callee.value (Go.Operand.func 61), args := #[Go.Operand.tmp 12, Go.Operand.tmp 13, Go.Operand.func 62], argTypes := #[61, 24, 122] }, type := 119, pos := "zone.go:89", after := #[{ on := 3, ground := Go.Ground.data }, { on := 4, ground := Go.Ground.data }], guard := none }) rfl (fun K hK => ?_) AllReadyH.nil
 go_simp
 refine (HS.out _ (HB.out.trans (hHeld.1.out.mono HB.out.size))).mono ?_; rintro e wy ⟨⟨i, b, rfl, ht, hf⟩, hb⟩
 go_wp2_with fail
 refine hK.out _ _ (ZT.next hb HZ1.out.1 HK.out.1 HT0.out hHeld) (fun hHeld2 => ?_)
 clear hK K hHeld
 have hHeld := hHeld2
 clear hHeld2
 try simp only [Act.put, List.setIfInBounds_toArray, List.set_cons_zero, List.set_cons_succ]
 refine Plan.of [6, 7, 8, 9, 10] ?_
 iterate 5 (refine Plan.w (v := ?_) rfl hHeld (by rfl) ?_ ?_; rotate_left; (focus (intro w hSw; (try dsimp only at hSw); go_simp; try with_reducible rfl)); try simp only [Act.put, List.setIfInBounds_toArray, List.set_cons_zero, List.set_cons_succ])
 refine Plan.fin ?_
 refine wpAnyH_done (by kernel_rfl) ?_ _
 have HBX := Lib.hid (HB.out.trans (hHeld.1.out.mono HB.out.size))
 have HC2 := Lib.hid (HC.out.below hHeld.1.out)
 have HZZ2 := Lib.hid (Nat.le_trans HZZ.out hHeld.1.out.size)
 have HZY := Lib.hid (HZ1.out.below hHeld.1.out)
 clear hHeld hb HC HZ1 HT0 HK HB HZ HZZ HS
 cases b with
 | false =>
  have HN := Lib.hid (hf rfl)
  clear ht hf
  have HC3 := Lib.hid (HC2.out.set (.string ⟨#[]⟩) (.int .i64 0) (.int .i64 0) (.int .i64 0) (.slice none 0 0))
  have HB3 := Lib.hid (below_set5 HBX.out (q := q2) (by have := HQ2.out; omega) (.string ⟨#[]⟩) (.int .i64 0) (.int .i64 0) (.int .i64 0) (.slice none 0 0))
  obtain ⟨_, r0, r1, r2, r3, r4, f0, f1, f2, f3, f4⟩ := HC2.out
  go_wp2
  obtain ⟨wz, hwz⟩ : ∃ x, (((((wy.setCell { block := q2, off := 0 } (.string ⟨#[]⟩)).setCell { block := q2, off := 1 } (.int .i64 0)).setCell { block := q2, off := 2 } (.int .i64 0)).setCell { block := q2, off := 3 } (.int .i64 0)).setCell { block := q2, off := 4 } (.slice none 0 0)) = x := ⟨_, rfl⟩
  rw [hwz] at HC3 HB3 ⊢
  clear hwz r0 r1 r2 r3 r4 f0 f1 f2 f3 f4 HC2
  obtain ⟨_, z0, z1, z2, z3, z4, _⟩ := HC3.out
  refine bodyPost_ret (v := .tuple #[.agg #[.string ⟨#[]⟩, .int .i64 0, .int .i64 0, .int .i64 0, .slice none 0 0], .bool false]) (by simp [results, Tryz.results13, go_sem, z0, z1, z2, z3, z4]) rfl ⟨Or.inr ⟨HN.out, rfl⟩, HB3.out⟩
 | true =>
  obtain ⟨hil, hfd⟩ := ht rfl
  clear hf ht
  rcases (HR.out.below HBX.out).2 with h9 | ⟨b, o, rfl, hbl, hc⟩
  · omega
  obtain ⟨p, c9, hs⟩ := hc i hil
  have hdl : (S.getD i ssD).data.length ≤ 100000 := HD.out _ (by
    rw [List.getD_eq_getElem?_getD, List.getElem?_eq_getElem (by have := HL.out; omega)]
    exact List.getElem_mem _)
  obtain ⟨s, hss⟩ : ∃ s, S.getD i ssD = s := ⟨_, rfl⟩
  rw [hss] at hs hfd hdl
  obtain ⟨⟨sn, st, sc1⟩, su, sd⟩ := s
  obtain ⟨dl, hdl2⟩ : ∃ x, sd.length = x := ⟨_, rfl⟩
  obtain ⟨c0, c1, c2, c3, c4, hrow, hnil⟩ := hs
  replace c0 : wy.cell? ⟨b, o + i * 5, none⟩ = some (.string sn) := c0
  replace c1 : wy.cell? ⟨b, o + i * 5 + 1, none⟩ = some (.int .i64 st) := c1
  replace c2 : wy.cell? ⟨b, o + i * 5 + 2, none⟩ = some (.int .i64 sc1) := c2
  replace c3 : wy.cell? ⟨b, o + i * 5 + 3, none⟩ = some (.int .i64 su) := c3
  replace c4 : wy.cell? ⟨b, o + i * 5 + 4, none⟩ = some (.slice p sd.length c9) := c4
  replace hrow : RowS wy p sd.length sd := hrow
  replace hnil : p = none → sd.length = 0 ∧ c9 = 0 := hnil
  replace hdl : sd.length ≤ 100000 := hdl
  rw [hdl2] at c4 hrow hnil hdl
  have HDL := Lib.hid hdl2
  have HFD := Lib.hid hfd
  have HCP := Lib.hid (copy_any sn st sc1 su sd p dl c9 wy hrow hnil hdl)
  obtain ⟨y0, y1⟩ := HZY.out.w2
  have i1 : (0 : Int) ≤ (i : Int) := by omega
  have i2 : (i : Int) < (len : Int) := by omega
  clear hc hss hdl2 hrow hnil hdl hfd
  go_wp2_with fail
  refine HCP.out.mono ?_; rintro e w2 ⟨dv, rfl, hown, hb⟩
  have HC3 := Lib.hid (HC2.out.below hb)
  have HB3 := Lib.hid (HBX.out.trans (hb.mono HBX.out.size))
  have HO3 := Lib.hid (own_mono4 (base' := w.heap.size + 2) hown HZZ2.out)
  obtain ⟨a', c', rfl, _⟩ := cells_own hown
  clear hb hown c0 c1 c2 c3 c4 y0 y1 i1 i2 HCP HC2
  have HC4 := Lib.hid (HC3.out.set (.string sn) (.int .i64 st) (.int .i64 sc1) (.int .i64 su) (.slice a' dl c'))
  have HO4 := Lib.hid (own_set5 HO3.out (q := q2) (by have := HQ2.out; omega) (.string sn) (.int .i64 st) (.int .i64 sc1) (.int .i64 su) (.slice a' dl c'))
  have HB4 := Lib.hid (below_set5 HB3.out (q := q2) (by have := HQ2.out; omega) (.string sn) (.int .i64 st) (.int .i64 sc1) (.int .i64 su) (.slice a' dl c'))
  obtain ⟨_, r0, r1, r2, r3, r4, f0, f1, f2, f3, f4⟩ := HC3.out
  go_wp2
  obtain ⟨wz, hwz⟩ : ∃ x, (((((w2.setCell { block := q2, off := 0 } (Value.string sn)).setCell { block := q2, off := 1 } (Value.int IntKind.i64 st)).setCell { block := q2, off := 2 } (Value.int IntKind.i64 sc1)).setCell { block := q2, off := 3 } (Value.int IntKind.i64 su)).setCell { block := q2, off := 4 } (Value.slice a' dl c')) = x := ⟨_, rfl⟩
  rw [hwz] at HC4 HO4 HB4 ⊢
  clear hwz r0 r1 r2 r3 r4 f0 f1 f2 f3 f4 HC3
  obtain ⟨_, z0, z1, z2, z3, z4, _⟩ := HC4.out
  refine bodyPost_ret (v := .tuple #[.agg #[.string sn, .int .i64 st, .int .i64 sc1, .int .i64 su, .slice a' dl c'], .bool true]) (by simp [results, Tryz.results13, go_sem, z0, z1, z2, z3, z4]) rfl ⟨Or.inl ⟨_, _, HFD.out, rfl, ?_⟩, HB4.out⟩
  show wz.ownsRow w.heap.size 9 1 (.slice a' dl c') sd.length (sc sd)
  rw [HDL.out]
  exact own_mono4 HO4.out (by omega)
end Go.Proofs.YthfnphcefkdgbaaGreat
