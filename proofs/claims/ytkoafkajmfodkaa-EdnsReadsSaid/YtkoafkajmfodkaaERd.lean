/- EdnsReads: the walk. -/
import Derived.Test.YtkoafkajmfodkaaDcW
import Derived.Test.YtkoafkajmfodkaaDcS
import Derived.Test.YtkoafkajmfodkaaDcZ
import Derived.Test.YtkoafkajmfodkaaPln5
namespace Go.Proofs.Ytkoafkajmfodkaa
open Go.RowKit

theorem od_equal (az bz : Int) (av bv : Int) (ar br : Int) (p1 q1 : Bool) (ad bd : ByteArray) (W : World) : (Op.equalIn 10000 81 (.agg #[.int .i64 az, .int .i64 av, .int .i64 ar, .bool p1, .string ad]) (.agg #[.int .i64 bz, .int .i64 bv, .int .i64 br, .bool q1, .string bd])).run Try.prog W = .ok (az == bz && (av == bv && (ar == br && (p1 == q1 && (ad.toList == bd.toList))))) W := by
  have u3 := Try.underlying3
  have a3 := Try.isAgg3
  have z3 := Try.sizeOf3
  have u9 := Try.underlying9
  have a9 := Try.isAgg9
  have z9 := Try.sizeOf9
  have u4 := Try.underlying4
  have a4 := Try.isAgg4
  have z4 := Try.sizeOf4
  have hS : Try.prog.underlying 81 = some (.struct (Try.prog.fieldsOf 81)) := by
    simp [Program.fieldsOf, Try.underlying81]
  rw [show (10000 : Nat) = 9999 + 1 from rfl, run_equalIn_agg W 9999 81 _ _ hS (by kernel_rfl)]
  simp only [Program.fieldsOf, Try.underlying81]
  go_simp
  by_cases h0 : az = bz <;> by_cases h1 : av = bv <;> by_cases h2 : ar = br <;> by_cases h3 : p1 = q1 <;> by_cases h4 : ad.toList = bd.toList <;> simp [h0, h1, h2, h3, h4]
theorem od_neq (az bz : Int) (av bv : Int) (ar br : Int) (p1 q1 : Bool) (ad bd : ByteArray) (W : World) : (binOp .neq 81 (.agg #[.int .i64 az, .int .i64 av, .int .i64 ar, .bool p1, .string ad]) (.agg #[.int .i64 bz, .int .i64 bv, .int .i64 br, .bool q1, .string bd])).run Try.prog W = .ok (.bool (!(az == bz && (av == bv && (ar == br && (p1 == q1 && (ad.toList == bd.toList))))))) W := by
  rw [run_neq_struct, od_equal]; rfl
theorem od_eql (az bz : Int) (av bv : Int) (ar br : Int) (p1 q1 : Bool) (ad bd : ByteArray) (W : World) : (binOp .eql 81 (.agg #[.int .i64 az, .int .i64 av, .int .i64 ar, .bool p1, .string ad]) (.agg #[.int .i64 bz, .int .i64 bv, .int .i64 br, .bool q1, .string bd])).run Try.prog W = .ok (.bool (az == bz && (av == bv && (ar == br && (p1 == q1 && (ad.toList == bd.toList)))))) W := by
  rw [run_eql_struct, od_equal]; rfl


theorem od_refl (s v r : Int) (d : Bool) (t : ByteArray) : (s == s && (v == v && (r == r && (d == d && (t.toList == t.toList))))) = true := by simp
theorem infoDO : (Try.prog.info? 81).map (fun i => (i.zero, i.size, i.bytes)) = some (some (.agg #[.int .i64 0, .int .i64 0, .int .i64 0, .bool false, .string ⟨#[]⟩]), 5, 48) := by kernel_rfl
theorem flatO_app (A B : List OptP) : flatO (A ++ B) = flatO A ++ flatO B := List.flatMap_append
theorem encO_one (r : OptP) : ∀ u ∈ encO r, u.oneCell' = true := by
  intro u hu
  simp only [encO, List.mem_cons, List.not_mem_nil, or_false] at hu
  rcases hu with rfl | rfl | rfl | rfl | rfl <;> rfl
theorem flatO_len (l : List OptP) : (flatO l).length = l.length * 5 := by
  induction l with
  | nil => rfl
  | cons a l ih => simp only [flatO, List.flatMap_cons, List.length_append, encO_len] at ih ⊢; rw [ih]; simp; omega
theorem rowO_own {w : World} {B n c : Nat} {a : Option Addr} {T : TypeId} {l : List OptP} (h : w.ownsRow B T 5 (.slice a n c) n (flatO l)) : RowO w a n l := by
  have h0 := h.1
  obtain ⟨a', c', e, h1, _⟩ := cellsK_own h
  injection e with e1 _ e3
  subst e1 e3
  rw [flatO_len] at h0
  exact ⟨by omega, h1⟩
/-- A message with OPTs, or none. -/
def withP (m : MsgP) (L : List OptP) : MsgP := if withE L = 0 then { m with x := keepR optB m.x ++ L.map putR } else askM 0 []
theorem msgAt_zero (w : World) : MsgAt w (.agg #[.int .i64 0, .int .i64 0, .int .i64 0, .bool false, .bool false, .bool false, .bool false, .bool false, .slice none 0 0, .slice none 0 0, .slice none 0 0, .slice none 0 0]) (askM 0 []) := ⟨none, 0, none, 0, none, 0, none, 0, rfl, ⟨⟨rfl, rfl, Or.inl rfl⟩, fun _ => ⟨rfl, rfl⟩⟩, ⟨⟨rfl, rfl, Or.inl rfl⟩, fun _ => ⟨rfl, rfl⟩⟩, ⟨⟨rfl, rfl, Or.inl rfl⟩, fun _ => ⟨rfl, rfl⟩⟩, ⟨rfl, rfl, Or.inl rfl⟩, fun _ => ⟨rfl, rfl⟩⟩
theorem smM_withP {m : MsgP} {L : List OptP} (h : SmallM m) (hl : L.length ≤ 100) : SmM (withP m L) := by
  rw [withP]
  split
  · refine ⟨by have := h.1.1; show m.q.length ≤ 100000; omega, by have := h.2.1.1; show m.a.length ≤ 100000; omega, by have := h.2.2.1.1; show m.n.length ≤ 100000; omega, ?_⟩
    show (keepR optB m.x ++ L.map putR).length ≤ 100000
    have h1 := List.length_filter_le (fun r => !optB r) m.x
    have h2 := h.2.2.2.1
    rw [List.length_append, List.length_map, keepR]; omega
  · exact (small_ask 0).sm
theorem withMA_any (v : Value) (m : MsgP) (la : Option Addr) (n lc : Nat) (L : List OptP) (w : World) (h : MsgAt w v m) (hs : SmallM m) (hl : RowO w la n L) (hln : n ≤ 1000) (hlz : ∀ o ∈ L, o.data.size ≤ 9223372036854775807) :
    Calls Try.prog 46 #[v, .slice la n lc] w fun e w' => (∃ v', e = .returned (.tuple #[v', .int .i64 (withE L)]) ∧ MsgAt w' v' (withP m L)) ∧ Below w.heap.size w w' :=
  (withM_any v m la n lc L w h hs hl hln hlz).mono fun e w' ⟨he, hb⟩ => ⟨by
    rcases he with ⟨h0, v', rfl, ho⟩ | ⟨h0, rfl⟩
    · exact ⟨v', by rw [h0], by rw [withP, if_pos h0]; exact ho.at⟩
    · exact ⟨_, rfl, by rw [withP, if_neg h0]; exact msgAt_zero w'⟩, hb⟩
theorem withMDA_any (v : Value) (m : MsgP) (la : Option Addr) (n lc : Nat) (L : List OptP) (w : World) (h : MsgAt w v m) (hs : SmM m) (hl : RowO w la n L) (hln : n ≤ 1000) (hlz : ∀ o ∈ L, o.data.size ≤ 9223372036854775807) :
    Calls Try.prog 47 #[v, .slice la n lc] w fun e w' => (∃ v', e = .returned (.tuple #[v', .int .i64 (withE L)]) ∧ MsgAt w' v' (withP m L)) ∧ Below w.heap.size w w' :=
  (withMD_any v m la n lc L w h hs hl hln hlz).mono fun e w' ⟨he, hb⟩ => ⟨by
    rcases he with ⟨h0, v', rfl, ho⟩ | ⟨h0, rfl⟩
    · exact ⟨v', by rw [h0], by rw [withP, if_pos h0]; exact ho⟩
    · exact ⟨_, rfl, by rw [withP, if_neg h0]; exact msgAt_zero w'⟩, hb⟩
theorem getM_is (v : Value) (m : MsgP) (w : World) (s a c : Int) (d : Bool) (t : ByteArray) (k : Bool) (r : Int) (h : MsgAt w v m) (hs : m.x.length ≤ 100000) (hg : getO m.x = (⟨s, a, c, d, t⟩, k, r)) :
    Calls Try.prog 44 #[v] w fun e w' => e = .returned (.tuple #[.agg #[.int .i64 s, .int .i64 a, .int .i64 c, .bool d, .string t], .bool k, .int .i64 r]) ∧ Below w.heap.size w w' := by
  refine (getM_any v m w h hs).mono ?_
  rintro e w' ⟨rfl, hb⟩
  rw [hg]
  exact ⟨rfl, hb⟩
theorem getMD_is (v : Value) (m : MsgP) (w : World) (s a c : Int) (d : Bool) (t : ByteArray) (k : Bool) (r : Int) (h : MsgAt w v m) (hs : m.x.length ≤ 100000) (hg : getO m.x = (⟨s, a, c, d, t⟩, k, r)) :
    Calls Try.prog 45 #[v] w fun e w' => e = .returned (.tuple #[.agg #[.int .i64 s, .int .i64 a, .int .i64 c, .bool d, .string t], .bool k, .int .i64 r]) ∧ Below w.heap.size w w' := by
  refine (getMD_any v m w h hs).mono ?_
  rintro e w' ⟨rfl, hb⟩
  rw [hg]
  exact ⟨rfl, hb⟩
theorem MsgAt.open {w : World} {v : Value} {m : MsgP} (h : MsgAt w v m) : ∃ (mi mo mr : Int) (b1 b2 b3 b4 b5 : Bool) (qa na sa xa : Option Addr) (ql qc nl nc sl sc xl xc : Nat), v = .agg #[.int .i64 mi, .int .i64 mo, .int .i64 mr, .bool b1, .bool b2, .bool b3, .bool b4, .bool b5, .slice qa ql qc, .slice na nl nc, .slice sa sl sc, .slice xa xl xc] ∧ m.q.length = ql ∧ m.a.length = nl ∧ m.n.length = sl ∧ m.x.length = xl ∧ RowQ w qa ql m.q ∧ RowR w na nl m.a ∧ RowR w sa sl m.n ∧ RowR w xa xl m.x := by
  obtain ⟨qa, qc, na, nc, sa, sc, xa, xc, rfl, h1, h2, h3, h4⟩ := h
  exact ⟨_, _, _, _, _, _, _, _, qa, na, sa, xa, _, qc, _, nc, _, sc, _, xc, rfl, rfl, rfl, rfl, rfl, h1.1, h2.1, h3.1, h4.1⟩

set_option maxRecDepth 100000 in
set_option maxHeartbeats 32000000 in
theorem walkReads (v : Value) (m : MsgP) (l u : Int) (la : Option Addr) (n lc : Nat) (L : List OptP) (w : World) (hm : MsgAt w v m) (hz : SzM m) (hl : RowO w la n L) (hlz : ∀ o ∈ L, o.data.size ≤ 9223372036854775807) :
    Calls Try.prog 10 #[v, .int .i64 l, .int .i64 u, .slice la n lc] w fun e w' => e = .returned (.bool true) ∧ Below w.heap.size w w' := by
  have hA := hm
  obtain ⟨mi, mo, mr, b1, b2, b3, b4, b5, qa, na, sa, xa, ql, qc, nl, nc, sl, sc, xl, xc, rfl, -, -, -, -, -, -, -, -⟩ := hA.open
  have hb0 := (Below.refl w.heap.size w).alloc (Nat.le_refl _) (.cells #[.int .i64 mi, .int .i64 mo, .int .i64 mr, .bool b1, .bool b2, .bool b3, .bool b4, .bool b5, .slice qa ql qc, .slice na nl nc, .slice sa sl sc, .slice xa xl xc] 27)
  have HC := Lib.hid (CN.new w #[.int .i64 mi, .int .i64 mo, .int .i64 mr, .bool b1, .bool b2, .bool b3, .bool b4, .bool b5, .slice qa ql qc, .slice na nl nc, .slice sa sl sc, .slice xa xl xc] 27)
  have HB := Lib.hid hb0
  have HM := Lib.hid (hm.below hb0)
  have HL := Lib.hid (hl.below hb0)
  have HLL := Lib.hid hl.1
  have HLZ := Lib.hid hlz
  have HZ := Lib.hid hz
  obtain ⟨q0, hq0⟩ : ∃ x, w.heap.size = x := ⟨_, rfl⟩
  rw [hq0] at HC
  have HQ0 := Lib.hid hq0
  clear hA hm hz hb0 hq0 hl hlz
  go_enter Try.func10, Try.ntmps10
  go_wp2_with fail
  refine (first6 _).mono ?_; rintro e w2 ⟨rfl, hb⟩
  replace HB := Lib.hid (HB.out.trans (hb.mono HB.out.size))
  replace HC := Lib.hid (HC.out.below hb)
  replace HM := Lib.hid (HM.out.below hb)
  replace HL := Lib.hid (HL.out.below hb)
  clear hb
  rw [HQ0.out]
  obtain ⟨y0, y1, y2, y3, y4, y5, y6, y7, y8, y9, y10, y11, _⟩ := HC.out.u12
  go_wp2_with fail
  refine (few5_any _ m _ HM.out HZ.out).mono ?_; rintro e w3 ⟨he, hb⟩
  clear y0 y1 y2 y3 y4 y5 y6 y7 y8 y9 y10 y11
  replace HB := Lib.hid (HB.out.trans (hb.mono HB.out.size))
  replace HC := Lib.hid (HC.out.below hb)
  replace HM := Lib.hid (HM.out.below hb)
  replace HL := Lib.hid (HL.out.below hb)
  clear hb
  rcases he with rfl | ⟨rfl, hsm⟩
  · go_wp2_with fail
    refine (first6 _).mono ?_; rintro e w4 ⟨rfl, hb⟩
    replace HB := Lib.hid (HB.out.trans (hb.mono HB.out.size))
    replace HC := Lib.hid (HC.out.below hb)
    replace HM := Lib.hid (HM.out.below hb)
    replace HL := Lib.hid (HL.out.below hb)
    clear hb
    go_wp2
    go_ret
    exact ⟨rfl, HB.out⟩
  have HSM := Lib.hid hsm
  clear hsm
  by_cases hn20 : 20 < n
  · have d1 := dT (p := (20 : Int) < (n : Int)) (by omega)
    go_wp2_with fail
    refine (first6 _).mono ?_; rintro e w5 ⟨rfl, hb⟩
    replace HB := Lib.hid (HB.out.trans (hb.mono HB.out.size))
    replace HC := Lib.hid (HC.out.below hb)
    replace HM := Lib.hid (HM.out.below hb)
    replace HL := Lib.hid (HL.out.below hb)
    clear hb
    go_wp2
    go_ret
    exact ⟨rfl, HB.out⟩
  have d1 := dF (p := (20 : Int) < (n : Int)) (by omega)
  go_wp2_with fail
  clear d1
  obtain ⟨i0, hi, hz0, hz1, hz2⟩ := info_parts infoDO
  have HI := Lib.hid hi
  have HZ0 := Lib.hid hz0
  have HZ1 := Lib.hid hz1
  have HZ2 := Lib.hid hz2
  clear hi hz0 hz1 hz2
  go_loopw [9, 10] (fun p i wr => ∃ (k : Nat) (pa : Option Addr) (pc : Nat), k ≤ n ∧ i = .int .i64 k ∧ p = .slice pa k pc ∧ Hid (wr.ownsRow w3.heap.size 81 5 (.slice pa k pc) k (flatO (L.take k))) ∧ Hid (Below w3.heap.size w3 wr)) (fun _ i _ => n - (intOf i).toNat)
  case atStart => exact ⟨0, none, 0, Nat.zero_le _, rfl, rfl, Lib.hid (by rw [List.take_zero]; exact ⟨rfl, Or.inl ⟨rfl, rfl⟩⟩), Lib.hid (Below.refl _ _)⟩
  case round =>
    obtain ⟨k, pa, pc, hk, rfl, rfl, HO, HW3⟩ := hrel
    by_cases hlt : k < n
    · obtain ⟨b, o, r, rfl, hbl, hr, x0, x1, x2, x3, x4⟩ := HL.out.at k hlt
      have hoz := HLZ.out r (List.mem_of_getElem? hr)
      have HTK := Lib.hid (show L.take (k + 1) = L.take k ++ [r] by rw [List.take_add_one, hr]; rfl)
      have HKR := Lib.hid (show (L.take (k + 1))[k]? = some r by rw [List.getElem?_take_of_lt (by omega)]; exact hr)
      obtain ⟨os, ov, orc, ob, od⟩ := r
      replace x0 : w3.cell? ⟨b, o + k * 5, none⟩ = some (.int .i64 os) := x0
      replace x1 : w3.cell? ⟨b, o + k * 5 + 1, none⟩ = some (.int .i64 ov) := x1
      replace x2 : w3.cell? ⟨b, o + k * 5 + 2, none⟩ = some (.int .i64 orc) := x2
      replace x3 : w3.cell? ⟨b, o + k * 5 + 3, none⟩ = some (.bool ob) := x3
      replace x4 : w3.cell? ⟨b, o + k * 5 + 4, none⟩ = some (.string od) := x4
      have HX := Lib.hid (fun wx (hx : Below w3.heap.size w3 wx) => (⟨cell_bel hx x0, cell_bel hx x1, cell_bel hx x2, cell_bel hx x3, cell_bel hx x4⟩ : wx.cell? ⟨b, o + k * 5, none⟩ = some (.int .i64 os) ∧ wx.cell? ⟨b, o + k * 5 + 1, none⟩ = some (.int .i64 ov) ∧ wx.cell? ⟨b, o + k * 5 + 2, none⟩ = some (.int .i64 orc) ∧ wx.cell? ⟨b, o + k * 5 + 3, none⟩ = some (.bool ob) ∧ wx.cell? ⟨b, o + k * 5 + 4, none⟩ = some (.string od)))
      have i1 : (0 : Int) ≤ (k : Int) := by omega
      have i2 : (k : Int) < (n : Int) := by omega
      have HOZ := Lib.hid (show od.size ≤ 9223372036854775807 from hoz)
      clear hr hoz x0 x1 x2 x3 x4 hbl
      obtain ⟨x0, x1, x2, x3, x4⟩ := HX.out _ HW3.out
      by_cases hbig : 2000 < od.size
      · have d1 := dT (p := (2000 : Int) < (od.size : Int)) (by omega)
        have HBw := Lib.hid (HB.out.trans (HW3.out.mono HB.out.size))
        go_wp2_with fail
        refine (first6 _).mono ?_; rintro e w6 ⟨rfl, hb⟩
        replace HBw := Lib.hid (HBw.out.trans (hb.mono HBw.out.size))
        clear hb
        go_wp2
        go_ret
        exact ⟨rfl, HBw.out⟩
      have d1 := dF (p := (2000 : Int) < (od.size : Int)) (by omega)
      clear hbig
      go_wp2_with fail
      refine (optD_any _ _ _ _ _ _).mono ?_; rintro e w7 ⟨rfl, hb⟩
      clear x0 x1 x2 x3 x4
      replace HO := Lib.hid (own_below' HO.out hb)
      replace HW3 := Lib.hid (HW3.out.trans (hb.mono HW3.out.size))
      clear hb
      clear d1
      have HAL := Lib.hid ((Below.refl _ _ : Below w7.heap.size w7 w7).alloc (Nat.le_refl _) (.cells #[.int .i64 os, .int .i64 ov, .int .i64 orc, .bool ob, .string od] 81))
      have HBS8 := Lib.hid (show w3.heap.size ≤ (w7.alloc (.cells #[.int .i64 os, .int .i64 ov, .int .i64 orc, .bool ob, .string od] 81)).heap.size from Nat.le_trans HW3.out.size HAL.out.size)
      go_wp2_with (at_builtin; refine append_cellsK rfl _ _ 78 81 rfl i0 _ 5 48 Try.underlying78 HI.out HZ0.out HZ1.out HZ2.out rfl (by decide) w3.heap.size _ k _ rfl (own_below' HO.out HAL.out) (some ⟨w7.heap.size, 0, none⟩) 1 1 (encO ⟨os, ov, orc, ob, od⟩) rfl (fun h => by cases h) (cells_lit w7 #[.int .i64 os, .int .i64 ov, .int .i64 orc, .bool ob, .string od] _) (encO_one ⟨os, ov, orc, ob, od⟩) (by omega) (by decide) HBS8.out ?_)
      intro v8 w8 hown hgrow
      obtain ⟨pa2, pc2, rfl, -, -⟩ := cellsK_own hown
      have hlow : ∀ j, (Value.slice pa k pc).ownBlock = some j → w3.heap.size ≤ j := fun j hj => (HO.out.lt j hj).1
      replace HW3 := Lib.hid ((HW3.out.trans (HAL.out.mono HW3.out.size)).grown hgrow HBS8.out hlow)
      replace HO := Lib.hid (show w8.ownsRow w3.heap.size 81 5 (.slice pa2 (k + 1) pc2) (k + 1) (flatO (L.take (k + 1))) by rw [HTK.out, flatO_app]; simpa [flatO] using hown)
      clear hown hgrow hlow HBS8 HAL
      obtain ⟨x0, x1, x2, x3, x4⟩ := HX.out _ HW3.out
      go_wp2_with fail
      refine (putO_any ⟨os, ov, orc, ob, od⟩ _ HOZ.out).mono ?_; rintro e w9 ⟨rfl, hb⟩
      clear x0 x1 x2 x3 x4
      replace HO := Lib.hid (own_below' HO.out hb)
      replace HW3 := Lib.hid (HW3.out.trans (hb.mono HW3.out.size))
      clear hb
      obtain ⟨⟨⟨rn, rt, rc⟩, ru, rd⟩, hR⟩ : ∃ x, putR ⟨os, ov, orc, ob, od⟩ = x := ⟨_, rfl⟩
      obtain ⟨E, hE⟩ : ∃ x, putE ⟨os, ov, orc, ob, od⟩ = x := ⟨_, rfl⟩
      rw [hR, hE]
      have HR := Lib.hid hR
      have HE := Lib.hid hE
      clear hR hE
      simp only
      have hba := (Below.refl _ _ : Below w9.heap.size w9 w9).alloc (Nat.le_refl _) (.cells #[.string rn, .int .i64 rt, .int .i64 rc, .int .i64 ru, .string rd] 75)
      have HA1 := Lib.hid (CN.new w9 #[.string rn, .int .i64 rt, .int .i64 rc, .int .i64 ru, .string rd] 75)
      replace HO := Lib.hid (own_below' HO.out hba)
      replace HW3 := Lib.hid (HW3.out.trans (hba.mono HW3.out.size))
      obtain ⟨w10, hw⟩ : ∃ x, w9.alloc (.cells #[.string rn, .int .i64 rt, .int .i64 rc, .int .i64 ru, .string rd] 75) = x := ⟨_, rfl⟩
      obtain ⟨q10, hq⟩ : ∃ x, w9.heap.size = x := ⟨_, rfl⟩
      rw [hw, hq] at HA1
      rw [hw] at HO HW3
      have HW := Lib.hid hw
      have HQ_ := Lib.hid hq
      clear hba hw hq
      go_upto_region 13 with (fail)
      rw [HW.out, HQ_.out]
      clear HW HQ_
      obtain ⟨pb, po, r2, rfl, -, hr2, p0, p1, p2, p3, p4⟩ := (rowO_own HO.out).at k (by omega)
      rw [HKR.out] at hr2
      obtain rfl := (Option.some.inj hr2).symm
      clear hr2
      replace p0 : w10.cell? ⟨pb, po + k * 5, none⟩ = some (.int .i64 os) := p0
      replace p1 : w10.cell? ⟨pb, po + k * 5 + 1, none⟩ = some (.int .i64 ov) := p1
      replace p2 : w10.cell? ⟨pb, po + k * 5 + 2, none⟩ = some (.int .i64 orc) := p2
      replace p3 : w10.cell? ⟨pb, po + k * 5 + 3, none⟩ = some (.bool ob) := p3
      replace p4 : w10.cell? ⟨pb, po + k * 5 + 4, none⟩ = some (.string od) := p4
      have i3 : (k : Int) < ((k + 1 : Nat) : Int) := by omega
      go_wp2_with fail
      refine (putD_any ⟨os, ov, orc, ob, od⟩ _ HOZ.out).mono ?_; rintro e w11 ⟨rfl, hb⟩
      clear p0 p1 p2 p3 p4
      replace HO := Lib.hid (own_below' HO.out hb)
      replace HW3 := Lib.hid (HW3.out.trans (hb.mono HW3.out.size))
      replace HA1 := Lib.hid (HA1.out.below hb)
      clear hb
      rw [HR.out, HE.out]
      simp only
      have hba := (Below.refl _ _ : Below w11.heap.size w11 w11).alloc (Nat.le_refl _) (.cells #[.string rn, .int .i64 rt, .int .i64 rc, .int .i64 ru, .string rd] 75)
      have HA2 := Lib.hid (CN.new w11 #[.string rn, .int .i64 rt, .int .i64 rc, .int .i64 ru, .string rd] 75)
      replace HO := Lib.hid (own_below' HO.out hba)
      replace HW3 := Lib.hid (HW3.out.trans (hba.mono HW3.out.size))
      replace HA1 := Lib.hid (HA1.out.below hba)
      obtain ⟨w12, hw⟩ : ∃ x, w11.alloc (.cells #[.string rn, .int .i64 rt, .int .i64 rc, .int .i64 ru, .string rd] 75) = x := ⟨_, rfl⟩
      obtain ⟨q12, hq⟩ : ∃ x, w11.heap.size = x := ⟨_, rfl⟩
      rw [hw, hq] at HA2
      rw [hw] at HO HW3 HA1
      have HW := Lib.hid hw
      have HQ_ := Lib.hid hq
      clear hba hw hq
      go_upto_region 14 with (fail)
      rw [HW.out, HQ_.out]
      clear HW HQ_
      obtain ⟨y0, y1, y2, y3, y4, _⟩ := HA1.out.u5
      obtain ⟨z0, z1, z2, z3, z4, _⟩ := HA2.out.u5
      have e1 : (E != E) = false := nF rfl
      have hke : ∀ W, (binOp .neq 75 (.agg #[.string rn, .int .i64 rt, .int .i64 rc, .int .i64 ru, .string rd]) (.agg #[.string rn, .int .i64 rt, .int .i64 rc, .int .i64 ru, .string rd])).run Try.prog W = .ok (.bool false) W := fun W => by rw [rr_neq, (rr_same rn rn rt rt rc rc ru ru rd rd).2 rfl]; rfl
      go_wp2
      go_roundw
      case rel => exact ⟨k + 1, some ⟨pb, po, none⟩, pc2, by omega, by go_num, rfl, HO, HW3⟩
      case measure => simp [intOf]; omega
    obtain rfl : k = n := by omega
    have hfull : L.take k = L := by rw [List.take_of_length_le (by rw [HLL.out]; omega)]
    rw [hfull] at HO
    have hnk : k ≤ 20 := by omega
    clear hfull hlt hk hn20
    replace HB := Lib.hid (HB.out.trans (HW3.out.mono HB.out.size))
    replace HC := Lib.hid (HC.out.below HW3.out)
    replace HM := Lib.hid (HM.out.below HW3.out)
    replace HL := Lib.hid (HL.out.below HW3.out)
    clear HW3
    obtain ⟨y0, y1, y2, y3, y4, y5, y6, y7, y8, y9, y10, y11, _⟩ := HC.out.u12
    go_wp2_with fail
    refine (plainM_any _ m _ HM.out).mono ?_; rintro e w13 ⟨rfl, hb⟩
    clear y0 y1 y2 y3 y4 y5 y6 y7 y8 y9 y10 y11
    replace HB := Lib.hid (HB.out.trans (hb.mono HB.out.size))
    replace HC := Lib.hid (HC.out.below hb)
    replace HM := Lib.hid (HM.out.below hb)
    replace HL := Lib.hid (HL.out.below hb)
    replace HO := Lib.hid (own_below' HO.out hb)
    clear hb
    have hba := (Below.refl _ _ : Below w13.heap.size w13 w13).alloc (Nat.le_refl _) (.cells #[.int .i64 mi, .int .i64 mo, .int .i64 mr, .bool b1, .bool b2, .bool b3, .bool b4, .bool b5, .slice qa ql qc, .slice na nl nc, .slice sa sl sc, .slice xa xl xc] 32)
    have HP := Lib.hid (CN.new w13 #[.int .i64 mi, .int .i64 mo, .int .i64 mr, .bool b1, .bool b2, .bool b3, .bool b4, .bool b5, .slice qa ql qc, .slice na nl nc, .slice sa sl sc, .slice xa xl xc] 32)
    replace HB := Lib.hid (HB.out.trans (hba.mono HB.out.size))
    replace HC := Lib.hid (HC.out.below hba)
    replace HM := Lib.hid (HM.out.below hba)
    replace HL := Lib.hid (HL.out.below hba)
    replace HO := Lib.hid (own_below' HO.out hba)
    obtain ⟨w14, hw⟩ : ∃ x, w13.alloc (.cells #[.int .i64 mi, .int .i64 mo, .int .i64 mr, .bool b1, .bool b2, .bool b3, .bool b4, .bool b5, .slice qa ql qc, .slice na nl nc, .slice sa sl sc, .slice xa xl xc] 32) = x := ⟨_, rfl⟩
    obtain ⟨q14, hq⟩ : ∃ x, w13.heap.size = x := ⟨_, rfl⟩
    rw [hw, hq] at HP
    rw [hw] at HB HC HM HL HO
    have HW := Lib.hid hw
    have HQ_ := Lib.hid hq
    clear hba hw hq
    go_upto_region 17 with (fail)
    rw [HW.out, HQ_.out]
    clear HW HQ_
    obtain ⟨⟨⟨gs, gv, gr, gd, gt⟩, gk, ge⟩, hG⟩ : ∃ x, getO m.x = x := ⟨_, rfl⟩
    have HG := Lib.hid hG
    clear hG
    have HLX := Lib.hid (show m.x.length ≤ 100000 by have := HSM.out.2.2.2.1; omega)
    obtain ⟨y0, y1, y2, y3, y4, y5, y6, y7, y8, y9, y10, y11, _⟩ := HC.out.u12
    go_wp2_with fail
    refine (getM_is _ m _ gs gv gr gd gt gk ge HM.out HLX.out HG.out).mono ?_; rintro e w15 ⟨rfl, hb⟩
    clear y0 y1 y2 y3 y4 y5 y6 y7 y8 y9 y10 y11
    replace HB := Lib.hid (HB.out.trans (hb.mono HB.out.size))
    replace HC := Lib.hid (HC.out.below hb)
    replace HM := Lib.hid (HM.out.below hb)
    replace HL := Lib.hid (HL.out.below hb)
    replace HO := Lib.hid (own_below' HO.out hb)
    replace HP := Lib.hid (HP.out.below hb)
    clear hb
    have hba := (Below.refl _ _ : Below w15.heap.size w15 w15).alloc (Nat.le_refl _) (.cells #[.int .i64 gs, .int .i64 gv, .int .i64 gr, .bool gd, .string gt] 80)
    have HG1 := Lib.hid (CN.new w15 #[.int .i64 gs, .int .i64 gv, .int .i64 gr, .bool gd, .string gt] 80)
    replace HB := Lib.hid (HB.out.trans (hba.mono HB.out.size))
    replace HC := Lib.hid (HC.out.below hba)
    replace HM := Lib.hid (HM.out.below hba)
    replace HL := Lib.hid (HL.out.below hba)
    replace HO := Lib.hid (own_below' HO.out hba)
    replace HP := Lib.hid (HP.out.below hba)
    obtain ⟨w16, hw⟩ : ∃ x, w15.alloc (.cells #[.int .i64 gs, .int .i64 gv, .int .i64 gr, .bool gd, .string gt] 80) = x := ⟨_, rfl⟩
    obtain ⟨q16, hq⟩ : ∃ x, w15.heap.size = x := ⟨_, rfl⟩
    rw [hw, hq] at HG1
    rw [hw] at HB HC HM HL HO HP
    have HW := Lib.hid hw
    have HQ_ := Lib.hid hq
    clear hba hw hq
    go_upto_region 18 with (fail)
    rw [HW.out, HQ_.out]
    clear HW HQ_
    obtain ⟨y0, y1, y2, y3, y4, y5, y6, y7, y8, y9, y10, y11, _⟩ := HP.out.u12
    go_wp2_with fail
    refine (getMD_is _ m _ gs gv gr gd gt gk ge HM.out HLX.out HG.out).mono ?_; rintro e w17 ⟨rfl, hb⟩
    clear y0 y1 y2 y3 y4 y5 y6 y7 y8 y9 y10 y11
    replace HB := Lib.hid (HB.out.trans (hb.mono HB.out.size))
    replace HC := Lib.hid (HC.out.below hb)
    replace HM := Lib.hid (HM.out.below hb)
    replace HL := Lib.hid (HL.out.below hb)
    replace HO := Lib.hid (own_below' HO.out hb)
    replace HP := Lib.hid (HP.out.below hb)
    replace HG1 := Lib.hid (HG1.out.below hb)
    clear hb
    have hba := (Below.refl _ _ : Below w17.heap.size w17 w17).alloc (Nat.le_refl _) (.cells #[.int .i64 gs, .int .i64 gv, .int .i64 gr, .bool gd, .string gt] 81)
    have HG2 := Lib.hid (CN.new w17 #[.int .i64 gs, .int .i64 gv, .int .i64 gr, .bool gd, .string gt] 81)
    replace HB := Lib.hid (HB.out.trans (hba.mono HB.out.size))
    replace HC := Lib.hid (HC.out.below hba)
    replace HM := Lib.hid (HM.out.below hba)
    replace HL := Lib.hid (HL.out.below hba)
    replace HO := Lib.hid (own_below' HO.out hba)
    replace HP := Lib.hid (HP.out.below hba)
    replace HG1 := Lib.hid (HG1.out.below hba)
    obtain ⟨w18, hw⟩ : ∃ x, w17.alloc (.cells #[.int .i64 gs, .int .i64 gv, .int .i64 gr, .bool gd, .string gt] 81) = x := ⟨_, rfl⟩
    obtain ⟨q18, hq⟩ : ∃ x, w17.heap.size = x := ⟨_, rfl⟩
    rw [hw, hq] at HG2
    rw [hw] at HB HC HM HL HO HP HG1
    have HW := Lib.hid hw
    have HQ_ := Lib.hid hq
    clear hba hw hq
    go_upto_region 19 with (fail)
    rw [HW.out, HQ_.out]
    clear HW HQ_
    obtain ⟨y0, y1, y2, y3, y4, y5, y6, y7, y8, y9, y10, y11, _⟩ := HC.out.u12
    go_wp2_with fail
    refine (withMA_any _ m _ _ _ L _ HM.out HSM.out HL.out (by omega) HLZ.out).mono ?_; rintro e w19 ⟨⟨v5, rfl, hat⟩, hb⟩
    clear y0 y1 y2 y3 y4 y5 y6 y7 y8 y9 y10 y11
    replace HB := Lib.hid (HB.out.trans (hb.mono HB.out.size))
    replace HC := Lib.hid (HC.out.below hb)
    replace HM := Lib.hid (HM.out.below hb)
    replace HL := Lib.hid (HL.out.below hb)
    replace HO := Lib.hid (own_below' HO.out hb)
    replace HP := Lib.hid (HP.out.below hb)
    replace HG1 := Lib.hid (HG1.out.below hb)
    replace HG2 := Lib.hid (HG2.out.below hb)
    clear hb
    have HV := Lib.hid hat
    have hA := hat
    obtain ⟨mi_1, mo_1, mr_1, b1_1, b2_1, b3_1, b4_1, b5_1, qa_1, na_1, sa_1, xa_1, ql_1, qc_1, nl_1, nc_1, sl_1, sc_1, xl_1, xc_1, rfl, -, -, -, -, -, -, -, -⟩ := hA.open
    clear hA hat
    have hba := (Below.refl _ _ : Below w19.heap.size w19 w19).alloc (Nat.le_refl _) (.cells #[.int .i64 mi_1, .int .i64 mo_1, .int .i64 mr_1, .bool b1_1, .bool b2_1, .bool b3_1, .bool b4_1, .bool b5_1, .slice qa_1 ql_1 qc_1, .slice na_1 nl_1 nc_1, .slice sa_1 sl_1 sc_1, .slice xa_1 xl_1 xc_1] 27)
    have HN1 := Lib.hid (CN.new w19 #[.int .i64 mi_1, .int .i64 mo_1, .int .i64 mr_1, .bool b1_1, .bool b2_1, .bool b3_1, .bool b4_1, .bool b5_1, .slice qa_1 ql_1 qc_1, .slice na_1 nl_1 nc_1, .slice sa_1 sl_1 sc_1, .slice xa_1 xl_1 xc_1] 27)
    replace HB := Lib.hid (HB.out.trans (hba.mono HB.out.size))
    replace HC := Lib.hid (HC.out.below hba)
    replace HM := Lib.hid (HM.out.below hba)
    replace HL := Lib.hid (HL.out.below hba)
    replace HO := Lib.hid (own_below' HO.out hba)
    replace HP := Lib.hid (HP.out.below hba)
    replace HG1 := Lib.hid (HG1.out.below hba)
    replace HG2 := Lib.hid (HG2.out.below hba)
    replace HV := Lib.hid (HV.out.below hba)
    obtain ⟨w20, hw⟩ : ∃ x, w19.alloc (.cells #[.int .i64 mi_1, .int .i64 mo_1, .int .i64 mr_1, .bool b1_1, .bool b2_1, .bool b3_1, .bool b4_1, .bool b5_1, .slice qa_1 ql_1 qc_1, .slice na_1 nl_1 nc_1, .slice sa_1 sl_1 sc_1, .slice xa_1 xl_1 xc_1] 27) = x := ⟨_, rfl⟩
    obtain ⟨q20, hq⟩ : ∃ x, w19.heap.size = x := ⟨_, rfl⟩
    rw [hw, hq] at HN1
    rw [hw] at HB HC HM HL HO HP HG1 HG2 HV
    have HW := Lib.hid hw
    have HQ_ := Lib.hid hq
    clear hba hw hq
    go_upto_region 20 with (fail)
    rw [HW.out, HQ_.out]
    clear HW HQ_
    obtain ⟨y0, y1, y2, y3, y4, y5, y6, y7, y8, y9, y10, y11, _⟩ := HP.out.u12
    go_wp2_with fail
    refine (withMDA_any _ m _ _ _ L _ HM.out HSM.out.sm (rowO_own HO.out) (by omega) HLZ.out).mono ?_; rintro e w21 ⟨⟨v6, rfl, hat⟩, hb⟩
    clear y0 y1 y2 y3 y4 y5 y6 y7 y8 y9 y10 y11
    replace HB := Lib.hid (HB.out.trans (hb.mono HB.out.size))
    replace HC := Lib.hid (HC.out.below hb)
    replace HM := Lib.hid (HM.out.below hb)
    replace HL := Lib.hid (HL.out.below hb)
    replace HO := Lib.hid (own_below' HO.out hb)
    replace HP := Lib.hid (HP.out.below hb)
    replace HG1 := Lib.hid (HG1.out.below hb)
    replace HG2 := Lib.hid (HG2.out.below hb)
    replace HV := Lib.hid (HV.out.below hb)
    replace HN1 := Lib.hid (HN1.out.below hb)
    clear hb
    have HU := Lib.hid hat
    have hA := hat
    obtain ⟨mi_2, mo_2, mr_2, b1_2, b2_2, b3_2, b4_2, b5_2, qa_2, na_2, sa_2, xa_2, ql_2, qc_2, nl_2, nc_2, sl_2, sc_2, xl_2, xc_2, rfl, -, -, -, -, -, -, -, -⟩ := hA.open
    clear hA hat
    have hba := (Below.refl _ _ : Below w21.heap.size w21 w21).alloc (Nat.le_refl _) (.cells #[.int .i64 mi_2, .int .i64 mo_2, .int .i64 mr_2, .bool b1_2, .bool b2_2, .bool b3_2, .bool b4_2, .bool b5_2, .slice qa_2 ql_2 qc_2, .slice na_2 nl_2 nc_2, .slice sa_2 sl_2 sc_2, .slice xa_2 xl_2 xc_2] 32)
    have HN2 := Lib.hid (CN.new w21 #[.int .i64 mi_2, .int .i64 mo_2, .int .i64 mr_2, .bool b1_2, .bool b2_2, .bool b3_2, .bool b4_2, .bool b5_2, .slice qa_2 ql_2 qc_2, .slice na_2 nl_2 nc_2, .slice sa_2 sl_2 sc_2, .slice xa_2 xl_2 xc_2] 32)
    replace HB := Lib.hid (HB.out.trans (hba.mono HB.out.size))
    replace HC := Lib.hid (HC.out.below hba)
    replace HM := Lib.hid (HM.out.below hba)
    replace HL := Lib.hid (HL.out.below hba)
    replace HO := Lib.hid (own_below' HO.out hba)
    replace HP := Lib.hid (HP.out.below hba)
    replace HG1 := Lib.hid (HG1.out.below hba)
    replace HG2 := Lib.hid (HG2.out.below hba)
    replace HV := Lib.hid (HV.out.below hba)
    replace HN1 := Lib.hid (HN1.out.below hba)
    replace HU := Lib.hid (HU.out.below hba)
    obtain ⟨w22, hw⟩ : ∃ x, w21.alloc (.cells #[.int .i64 mi_2, .int .i64 mo_2, .int .i64 mr_2, .bool b1_2, .bool b2_2, .bool b3_2, .bool b4_2, .bool b5_2, .slice qa_2 ql_2 qc_2, .slice na_2 nl_2 nc_2, .slice sa_2 sl_2 sc_2, .slice xa_2 xl_2 xc_2] 32) = x := ⟨_, rfl⟩
    obtain ⟨q22, hq⟩ : ∃ x, w21.heap.size = x := ⟨_, rfl⟩
    rw [hw, hq] at HN2
    rw [hw] at HB HC HM HL HO HP HG1 HG2 HV HN1 HU
    have HW := Lib.hid hw
    have HQ_ := Lib.hid hq
    clear hba hw hq
    go_upto_region 21 with (fail)
    rw [HW.out, HQ_.out]
    clear HW HQ_
    have HSW := Lib.hid (smM_withP (m := m) (L := L) HSM.out (by rw [HLL.out]; omega))
    have HSS := Lib.hid HSM.out.sm
    have HST := Lib.hid (show SmM ({ m with x := keepR optB m.x } : MsgP) from ⟨HSS.out.1, HSS.out.2.1, HSS.out.2.2.1, Nat.le_trans (List.length_filter_le _ _) HSS.out.2.2.2⟩)
    obtain ⟨EW, hEW⟩ : ∃ x, withE L = x := ⟨_, rfl⟩
    rw [hEW]
    clear hEW
    obtain ⟨ZZ, hZZ⟩ : ∃ x, sizeO m.x l u = x := ⟨_, rfl⟩
    have HZZ := Lib.hid hZZ
    clear hZZ
    have hke : ∀ W, (binOp .eql 81 (.agg #[.int .i64 gs, .int .i64 gv, .int .i64 gr, .bool gd, .string gt]) (.agg #[.int .i64 gs, .int .i64 gv, .int .i64 gr, .bool gd, .string gt])).run Try.prog W = .ok (.bool true) W := fun W => by rw [od_eql, od_refl gs gv gr gd gt]
    have e1 : (gk == gk) = true := beq_self_eq_true gk
    have e2 : (ge == ge) = true := eT rfl
    have e3 : (ZZ == ZZ) = true := eT rfl
    have e4 : (EW == EW) = true := eT rfl
    refine wp_region_held_drew (S := (fun wx => Below w22.heap.size w22 wx)) (by kernel_rfl) ((Below.refl w22.heap.size w22).drew) (fun hHeld => ?_)
    refine wpAnyH_ready (rs := [0]) (by kernel_rfl) (by simp) ?_
    refine AllReadyH.cons (o := { dst := some 109, op := Go.Op.call { callee := Go.Callee.value (Go.Operand.func 40), args := #[], argTypes := #[] }, type := 4, pos := "law.go:49", after := #[], guard := none }) rfl (fun K hK => ?_) AllReadyH.nil
    go_simp
    refine (first6 _).mono ?_; rintro e wy0 ⟨rfl, hb⟩
    go_wp2_with fail
    refine hK.out _ _ (hHeld.trans (hb.mono hHeld.size)) (fun hHeld2 => ?_)
    clear hK K hHeld
    have hHeld := hHeld2
    clear hHeld2
    try simp only [Act.put, List.setIfInBounds_toArray, List.set_cons_zero, List.set_cons_succ]
    refine wpAnyH_take (i := 1) (oi := { dst := some 110, op := Go.Op.move (Go.Operand.tmp 109), type := 4, pos := "law.go:49", after := #[{ on := 0, ground := Go.Ground.data }, { on := 0, ground := Go.Ground.chain }], guard := none }) (v := ?v1_140102) rfl (by kernel_rfl) (by kernel_rfl) (by kernel_rfl) (fun _ _ _ h => h) (Or.inl ⟨by rfl, ?y1_140102⟩) hHeld ?r1_140102
    case y1_140102 => intro w hSw; (try dsimp only at hSw); go_simp; try with_reducible rfl
    try simp only [Act.put, List.setIfInBounds_toArray, List.set_cons_zero, List.set_cons_succ]
    refine wpAnyH_take (i := 2) (oi := { dst := some 111, op := Go.Op.load 80 (Go.Operand.tmp 16), type := 80, pos := "law.go:49", after := #[{ on := 1, ground := Go.Ground.guard }], guard := some (1, true) }) (v := ?v2_140102) rfl (by kernel_rfl) (by kernel_rfl) (by kernel_rfl) (fun _ _ _ h => h) (Or.inl ⟨by rfl, ?y2_140102⟩) hHeld ?r2_140102
    case y2_140102 => intro w hSw; (try dsimp only at hSw); obtain ⟨y0, y1, y2, y3, y4, _⟩ := (HG1.out.below hSw).u5; go_simp; try with_reducible rfl
    try simp only [Act.put, List.setIfInBounds_toArray, List.set_cons_zero, List.set_cons_succ]
    refine wpAnyH_take (i := 4) (oi := { dst := some 113, op := Go.Op.load 81 (Go.Operand.tmp 19), type := 81, pos := "law.go:49", after := #[{ on := 1, ground := Go.Ground.guard }], guard := some (1, true) }) (v := ?v4_140102) rfl (by kernel_rfl) (by kernel_rfl) (by kernel_rfl) (fun _ _ _ h => h) (Or.inl ⟨by rfl, ?y4_140102⟩) hHeld ?r4_140102
    case y4_140102 => intro w hSw; (try dsimp only at hSw); obtain ⟨y0, y1, y2, y3, y4, _⟩ := (HG2.out.below hSw).u5; go_simp; try with_reducible rfl
    try simp only [Act.put, List.setIfInBounds_toArray, List.set_cons_zero, List.set_cons_succ]
    refine wpAnyH_ready (rs := [3]) (by kernel_rfl) (by simp) ?_
    refine AllReadyH.cons (o := { dst := some 112, op := Go.Op.call { callee := Go.Callee.value (Go.Operand.func 41), args := #[Go.Operand.tmp 111], argTypes := #[80] }, type := 81, pos := "law.go:49", after := #[{ on := 2, ground := Go.Ground.data }, { on := 1, ground := Go.Ground.chain }, { on := 1, ground := Go.Ground.guard }], guard := some (1, true) }) rfl (fun K hK => ?_) AllReadyH.nil
    go_simp
    refine (optD_any _ _ _ _ _ _).mono ?_; rintro e wy3 ⟨rfl, hb⟩
    go_wp2_with fail
    refine hK.out _ _ (hHeld.trans (hb.mono hHeld.size)) (fun hHeld2 => ?_)
    clear hK K hHeld
    have hHeld := hHeld2
    clear hHeld2
    try simp only [Act.put, List.setIfInBounds_toArray, List.set_cons_zero, List.set_cons_succ]
    refine wpAnyH_take (i := 5) (oi := { dst := some 114, op := Go.Op.binOp Go.BinOp.eql 81 (Go.Operand.tmp 112) (Go.Operand.tmp 113) 81, type := 4, pos := "law.go:49", after := #[{ on := 3, ground := Go.Ground.data }, { on := 4, ground := Go.Ground.data }, { on := 1, ground := Go.Ground.guard }], guard := some (1, true) }) (v := ?v5_140103) rfl (by kernel_rfl) (by kernel_rfl) (by kernel_rfl) (fun _ _ _ h => h) (Or.inl ⟨by rfl, ?y5_140103⟩) hHeld ?r5_140103
    case y5_140103 => intro w hSw; (try dsimp only at hSw); go_simp; try with_reducible rfl
    try simp only [Act.put, List.setIfInBounds_toArray, List.set_cons_zero, List.set_cons_succ]
    refine wpAnyH_take (i := 6) (oi := { dst := some 115, op := Go.Op.pick (Go.Operand.tmp 110) (Go.Operand.tmp 114) (Go.Operand.const (Go.Value.bool false)), type := 4, pos := "law.go:49", after := #[{ on := 1, ground := Go.Ground.data }, { on := 5, ground := Go.Ground.data }], guard := none }) (v := ?v6_140103) rfl (by kernel_rfl) (by kernel_rfl) (by kernel_rfl) (fun _ _ _ h => h) (Or.inl ⟨by rfl, ?y6_140103⟩) hHeld ?r6_140103
    case y6_140103 => intro w hSw; (try dsimp only at hSw); go_simp; try with_reducible rfl
    try simp only [Act.put, List.setIfInBounds_toArray, List.set_cons_zero, List.set_cons_succ]
    refine wpAnyH_take (i := 7) (oi := { dst := some 116, op := Go.Op.move (Go.Operand.tmp 115), type := 4, pos := "law.go:49", after := #[{ on := 6, ground := Go.Ground.data }, { on := 3, ground := Go.Ground.chain }], guard := none }) (v := ?v7_140103) rfl (by kernel_rfl) (by kernel_rfl) (by kernel_rfl) (fun _ _ _ h => h) (Or.inl ⟨by rfl, ?y7_140103⟩) hHeld ?r7_140103
    case y7_140103 => intro w hSw; (try dsimp only at hSw); go_simp; try with_reducible rfl
    try simp only [Act.put, List.setIfInBounds_toArray, List.set_cons_zero, List.set_cons_succ]
    refine wpAnyH_take (i := 8) (oi := { dst := some 117, op := Go.Op.move (Go.Operand.tmp 17), type := 4, pos := "law.go:49", after := #[{ on := 7, ground := Go.Ground.guard }], guard := some (7, true) }) (v := ?v8_140103) rfl (by kernel_rfl) (by kernel_rfl) (by kernel_rfl) (fun _ _ _ h => h) (Or.inl ⟨by rfl, ?y8_140103⟩) hHeld ?r8_140103
    case y8_140103 => intro w hSw; (try dsimp only at hSw); go_simp; try with_reducible rfl
    try simp only [Act.put, List.setIfInBounds_toArray, List.set_cons_zero, List.set_cons_succ]
    refine wpAnyH_take (i := 9) (oi := { dst := some 118, op := Go.Op.move (Go.Operand.tmp 20), type := 4, pos := "law.go:49", after := #[{ on := 7, ground := Go.Ground.guard }], guard := some (7, true) }) (v := ?v9_140103) rfl (by kernel_rfl) (by kernel_rfl) (by kernel_rfl) (fun _ _ _ h => h) (Or.inl ⟨by rfl, ?y9_140103⟩) hHeld ?r9_140103
    case y9_140103 => intro w hSw; (try dsimp only at hSw); go_simp; try with_reducible rfl
    try simp only [Act.put, List.setIfInBounds_toArray, List.set_cons_zero, List.set_cons_succ]
    refine wpAnyH_take (i := 10) (oi := { dst := some 119, op := Go.Op.binOp Go.BinOp.eql 4 (Go.Operand.tmp 117) (Go.Operand.tmp 118) 4, type := 4, pos := "law.go:49", after := #[{ on := 8, ground := Go.Ground.data }, { on := 9, ground := Go.Ground.data }, { on := 7, ground := Go.Ground.guard }], guard := some (7, true) }) (v := ?v10_140103) rfl (by kernel_rfl) (by kernel_rfl) (by kernel_rfl) (fun _ _ _ h => h) (Or.inl ⟨by rfl, ?y10_140103⟩) hHeld ?r10_140103
    case y10_140103 => intro w hSw; (try dsimp only at hSw); go_simp; try with_reducible rfl
    try simp only [Act.put, List.setIfInBounds_toArray, List.set_cons_zero, List.set_cons_succ]
    refine wpAnyH_take (i := 11) (oi := { dst := some 120, op := Go.Op.pick (Go.Operand.tmp 116) (Go.Operand.tmp 119) (Go.Operand.const (Go.Value.bool false)), type := 4, pos := "law.go:49", after := #[{ on := 7, ground := Go.Ground.data }, { on := 10, ground := Go.Ground.data }], guard := none }) (v := ?v11_140103) rfl (by kernel_rfl) (by kernel_rfl) (by kernel_rfl) (fun _ _ _ h => h) (Or.inl ⟨by rfl, ?y11_140103⟩) hHeld ?r11_140103
    case y11_140103 => intro w hSw; (try dsimp only at hSw); go_simp; try with_reducible rfl
    try simp only [Act.put, List.setIfInBounds_toArray, List.set_cons_zero, List.set_cons_succ]
    refine wpAnyH_take (i := 12) (oi := { dst := some 121, op := Go.Op.move (Go.Operand.tmp 120), type := 4, pos := "law.go:49", after := #[{ on := 11, ground := Go.Ground.data }, { on := 7, ground := Go.Ground.chain }], guard := none }) (v := ?v12_140103) rfl (by kernel_rfl) (by kernel_rfl) (by kernel_rfl) (fun _ _ _ h => h) (Or.inl ⟨by rfl, ?y12_140103⟩) hHeld ?r12_140103
    case y12_140103 => intro w hSw; (try dsimp only at hSw); go_simp; try with_reducible rfl
    try simp only [Act.put, List.setIfInBounds_toArray, List.set_cons_zero, List.set_cons_succ]
    refine wpAnyH_take (i := 13) (oi := { dst := some 122, op := Go.Op.move (Go.Operand.tmp 18), type := 36, pos := "law.go:49", after := #[{ on := 12, ground := Go.Ground.guard }], guard := some (12, true) }) (v := ?v13_140103) rfl (by kernel_rfl) (by kernel_rfl) (by kernel_rfl) (fun _ _ _ h => h) (Or.inl ⟨by rfl, ?y13_140103⟩) hHeld ?r13_140103
    case y13_140103 => intro w hSw; (try dsimp only at hSw); go_simp; try with_reducible rfl
    try simp only [Act.put, List.setIfInBounds_toArray, List.set_cons_zero, List.set_cons_succ]
    refine wpAnyH_take (i := 14) (oi := { dst := some 123, op := Go.Op.move (Go.Operand.tmp 21), type := 36, pos := "law.go:49", after := #[{ on := 12, ground := Go.Ground.guard }], guard := some (12, true) }) (v := ?v14_140103) rfl (by kernel_rfl) (by kernel_rfl) (by kernel_rfl) (fun _ _ _ h => h) (Or.inl ⟨by rfl, ?y14_140103⟩) hHeld ?r14_140103
    case y14_140103 => intro w hSw; (try dsimp only at hSw); go_simp; try with_reducible rfl
    try simp only [Act.put, List.setIfInBounds_toArray, List.set_cons_zero, List.set_cons_succ]
    refine wpAnyH_take (i := 15) (oi := { dst := some 124, op := Go.Op.binOp Go.BinOp.eql 36 (Go.Operand.tmp 122) (Go.Operand.tmp 123) 36, type := 4, pos := "law.go:49", after := #[{ on := 13, ground := Go.Ground.data }, { on := 14, ground := Go.Ground.data }, { on := 12, ground := Go.Ground.guard }], guard := some (12, true) }) (v := ?v15_140103) rfl (by kernel_rfl) (by kernel_rfl) (by kernel_rfl) (fun _ _ _ h => h) (Or.inl ⟨by rfl, ?y15_140103⟩) hHeld ?r15_140103
    case y15_140103 => intro w hSw; (try dsimp only at hSw); go_simp; try with_reducible rfl
    try simp only [Act.put, List.setIfInBounds_toArray, List.set_cons_zero, List.set_cons_succ]
    refine wpAnyH_take (i := 16) (oi := { dst := some 125, op := Go.Op.pick (Go.Operand.tmp 121) (Go.Operand.tmp 124) (Go.Operand.const (Go.Value.bool false)), type := 4, pos := "law.go:49", after := #[{ on := 12, ground := Go.Ground.data }, { on := 15, ground := Go.Ground.data }], guard := none }) (v := ?v16_140103) rfl (by kernel_rfl) (by kernel_rfl) (by kernel_rfl) (fun _ _ _ h => h) (Or.inl ⟨by rfl, ?y16_140103⟩) hHeld ?r16_140103
    case y16_140103 => intro w hSw; (try dsimp only at hSw); go_simp; try with_reducible rfl
    try simp only [Act.put, List.setIfInBounds_toArray, List.set_cons_zero, List.set_cons_succ]
    refine wpAnyH_take (i := 17) (oi := { dst := some 126, op := Go.Op.move (Go.Operand.tmp 125), type := 4, pos := "law.go:49", after := #[{ on := 16, ground := Go.Ground.data }, { on := 12, ground := Go.Ground.chain }], guard := none }) (v := ?v17_140103) rfl (by kernel_rfl) (by kernel_rfl) (by kernel_rfl) (fun _ _ _ h => h) (Or.inl ⟨by rfl, ?y17_140103⟩) hHeld ?r17_140103
    case y17_140103 => intro w hSw; (try dsimp only at hSw); go_simp; try with_reducible rfl
    try simp only [Act.put, List.setIfInBounds_toArray, List.set_cons_zero, List.set_cons_succ]
    refine wpAnyH_take (i := 18) (oi := { dst := some 127, op := Go.Op.load 27 (Go.Operand.tmp 4), type := 27, pos := "law.go:49", after := #[{ on := 17, ground := Go.Ground.guard }], guard := some (17, true) }) (v := ?v18_140103) rfl (by kernel_rfl) (by kernel_rfl) (by kernel_rfl) (fun _ _ _ h => h) (Or.inl ⟨by rfl, ?y18_140103⟩) hHeld ?r18_140103
    case y18_140103 => intro w hSw; (try dsimp only at hSw); obtain ⟨y0, y1, y2, y3, y4, y5, y6, y7, y8, y9, y10, y11, _⟩ := (HC.out.below hSw).u12; go_simp; try with_reducible rfl
    try simp only [Act.put, List.setIfInBounds_toArray, List.set_cons_zero, List.set_cons_succ]
    refine wpAnyH_take (i := 19) (oi := { dst := some 128, op := Go.Op.move (Go.Operand.tmp 1), type := 3, pos := "law.go:49", after := #[{ on := 17, ground := Go.Ground.guard }], guard := some (17, true) }) (v := ?v19_140103) rfl (by kernel_rfl) (by kernel_rfl) (by kernel_rfl) (fun _ _ _ h => h) (Or.inl ⟨by rfl, ?y19_140103⟩) hHeld ?r19_140103
    case y19_140103 => intro w hSw; (try dsimp only at hSw); go_simp; try with_reducible rfl
    try simp only [Act.put, List.setIfInBounds_toArray, List.set_cons_zero, List.set_cons_succ]
    refine wpAnyH_take (i := 20) (oi := { dst := some 129, op := Go.Op.move (Go.Operand.tmp 2), type := 3, pos := "law.go:49", after := #[{ on := 17, ground := Go.Ground.guard }], guard := some (17, true) }) (v := ?v20_140103) rfl (by kernel_rfl) (by kernel_rfl) (by kernel_rfl) (fun _ _ _ h => h) (Or.inl ⟨by rfl, ?y20_140103⟩) hHeld ?r20_140103
    case y20_140103 => intro w hSw; (try dsimp only at hSw); go_simp; try with_reducible rfl
    try simp only [Act.put, List.setIfInBounds_toArray, List.set_cons_zero, List.set_cons_succ]
    refine wpAnyH_take (i := 22) (oi := { dst := some 131, op := Go.Op.load 32 (Go.Operand.tmp 15), type := 32, pos := "law.go:49", after := #[{ on := 17, ground := Go.Ground.guard }], guard := some (17, true) }) (v := ?v22_140103) rfl (by kernel_rfl) (by kernel_rfl) (by kernel_rfl) (fun _ _ _ h => h) (Or.inl ⟨by rfl, ?y22_140103⟩) hHeld ?r22_140103
    case y22_140103 => intro w hSw; (try dsimp only at hSw); obtain ⟨y0, y1, y2, y3, y4, y5, y6, y7, y8, y9, y10, y11, _⟩ := (HP.out.below hSw).u12; go_simp; try with_reducible rfl
    try simp only [Act.put, List.setIfInBounds_toArray, List.set_cons_zero, List.set_cons_succ]
    refine wpAnyH_take (i := 23) (oi := { dst := some 132, op := Go.Op.move (Go.Operand.tmp 1), type := 3, pos := "law.go:49", after := #[{ on := 17, ground := Go.Ground.guard }], guard := some (17, true) }) (v := ?v23_140103) rfl (by kernel_rfl) (by kernel_rfl) (by kernel_rfl) (fun _ _ _ h => h) (Or.inl ⟨by rfl, ?y23_140103⟩) hHeld ?r23_140103
    case y23_140103 => intro w hSw; (try dsimp only at hSw); go_simp; try with_reducible rfl
    try simp only [Act.put, List.setIfInBounds_toArray, List.set_cons_zero, List.set_cons_succ]
    refine wpAnyH_take (i := 24) (oi := { dst := some 133, op := Go.Op.move (Go.Operand.tmp 2), type := 3, pos := "law.go:49", after := #[{ on := 17, ground := Go.Ground.guard }], guard := some (17, true) }) (v := ?v24_140103) rfl (by kernel_rfl) (by kernel_rfl) (by kernel_rfl) (fun _ _ _ h => h) (Or.inl ⟨by rfl, ?y24_140103⟩) hHeld ?r24_140103
    case y24_140103 => intro w hSw; (try dsimp only at hSw); go_simp; try with_reducible rfl
    try simp only [Act.put, List.setIfInBounds_toArray, List.set_cons_zero, List.set_cons_succ]
    refine wpAnyH_ready (rs := [21]) (by kernel_rfl) (by simp) ?_
    refine AllReadyH.cons (o := { dst := some 130, op := Go.Op.call { callee := Go.Callee.value (Go.Operand.func 48), args := #[Go.Operand.tmp 127, Go.Operand.tmp 128, Go.Operand.tmp 129], argTypes := #[27, 3, 3] }, type := 3, pos := "law.go:49", after := #[{ on := 18, ground := Go.Ground.data }, { on := 19, ground := Go.Ground.data }, { on := 20, ground := Go.Ground.data }, { on := 17, ground := Go.Ground.chain }, { on := 17, ground := Go.Ground.guard }], guard := some (17, true) }) rfl (fun K hK => ?_) AllReadyH.nil
    go_simp
    refine (sizeM_any _ m _ l u (HM.out.below hHeld) HLX.out).mono ?_; rintro e wy21 ⟨rfl, hb⟩
    rw [HZZ.out]
    go_wp2_with fail
    refine hK.out _ _ (hHeld.trans (hb.mono hHeld.size)) (fun hHeld2 => ?_)
    clear hK K hHeld
    have hHeld := hHeld2
    clear hHeld2
    try simp only [Act.put, List.setIfInBounds_toArray, List.set_cons_zero, List.set_cons_succ]
    refine wpAnyH_ready (rs := [25]) (by kernel_rfl) (by simp) ?_
    refine AllReadyH.cons (o := { dst := some 134, op := Go.Op.call { callee := Go.Callee.value (Go.Operand.func 49), args := #[Go.Operand.tmp 131, Go.Operand.tmp 132, Go.Operand.tmp 133], argTypes := #[32, 3, 3] }, type := 3, pos := "law.go:49", after := #[{ on := 22, ground := Go.Ground.data }, { on := 23, ground := Go.Ground.data }, { on := 24, ground := Go.Ground.data }, { on := 21, ground := Go.Ground.chain }, { on := 17, ground := Go.Ground.guard }], guard := some (17, true) }) rfl (fun K hK => ?_) AllReadyH.nil
    go_simp
    refine (sizeMD_any _ m _ l u (HM.out.below hHeld) HLX.out).mono ?_; rintro e wy25 ⟨rfl, hb⟩
    rw [HZZ.out]
    go_wp2_with fail
    refine hK.out _ _ (hHeld.trans (hb.mono hHeld.size)) (fun hHeld2 => ?_)
    clear hK K hHeld
    have hHeld := hHeld2
    clear hHeld2
    try simp only [Act.put, List.setIfInBounds_toArray, List.set_cons_zero, List.set_cons_succ]
    refine wpAnyH_take (i := 26) (oi := { dst := some 135, op := Go.Op.binOp Go.BinOp.eql 3 (Go.Operand.tmp 130) (Go.Operand.tmp 134) 3, type := 4, pos := "law.go:49", after := #[{ on := 21, ground := Go.Ground.data }, { on := 25, ground := Go.Ground.data }, { on := 17, ground := Go.Ground.guard }], guard := some (17, true) }) (v := ?v26_140105) rfl (by kernel_rfl) (by kernel_rfl) (by kernel_rfl) (fun _ _ _ h => h) (Or.inl ⟨by rfl, ?y26_140105⟩) hHeld ?r26_140105
    case y26_140105 => intro w hSw; (try dsimp only at hSw); go_simp; try with_reducible rfl
    try simp only [Act.put, List.setIfInBounds_toArray, List.set_cons_zero, List.set_cons_succ]
    refine wpAnyH_take (i := 27) (oi := { dst := some 136, op := Go.Op.pick (Go.Operand.tmp 126) (Go.Operand.tmp 135) (Go.Operand.const (Go.Value.bool false)), type := 4, pos := "law.go:49", after := #[{ on := 17, ground := Go.Ground.data }, { on := 26, ground := Go.Ground.data }], guard := none }) (v := ?v27_140105) rfl (by kernel_rfl) (by kernel_rfl) (by kernel_rfl) (fun _ _ _ h => h) (Or.inl ⟨by rfl, ?y27_140105⟩) hHeld ?r27_140105
    case y27_140105 => intro w hSw; (try dsimp only at hSw); go_simp; try with_reducible rfl
    try simp only [Act.put, List.setIfInBounds_toArray, List.set_cons_zero, List.set_cons_succ]
    refine wpAnyH_take (i := 28) (oi := { dst := some 137, op := Go.Op.move (Go.Operand.tmp 136), type := 4, pos := "law.go:49", after := #[{ on := 27, ground := Go.Ground.data }, { on := 25, ground := Go.Ground.chain }], guard := none }) (v := ?v28_140105) rfl (by kernel_rfl) (by kernel_rfl) (by kernel_rfl) (fun _ _ _ h => h) (Or.inl ⟨by rfl, ?y28_140105⟩) hHeld ?r28_140105
    case y28_140105 => intro w hSw; (try dsimp only at hSw); go_simp; try with_reducible rfl
    try simp only [Act.put, List.setIfInBounds_toArray, List.set_cons_zero, List.set_cons_succ]
    refine wpAnyH_take (i := 29) (oi := { dst := some 138, op := Go.Op.load 27 (Go.Operand.tmp 4), type := 27, pos := "law.go:49", after := #[{ on := 28, ground := Go.Ground.guard }], guard := some (28, true) }) (v := ?v29_140105) rfl (by kernel_rfl) (by kernel_rfl) (by kernel_rfl) (fun _ _ _ h => h) (Or.inl ⟨by rfl, ?y29_140105⟩) hHeld ?r29_140105
    case y29_140105 => intro w hSw; (try dsimp only at hSw); obtain ⟨y0, y1, y2, y3, y4, y5, y6, y7, y8, y9, y10, y11, _⟩ := (HC.out.below hSw).u12; go_simp; try with_reducible rfl
    try simp only [Act.put, List.setIfInBounds_toArray, List.set_cons_zero, List.set_cons_succ]
    refine wpAnyH_take (i := 32) (oi := { dst := some 141, op := Go.Op.load 32 (Go.Operand.tmp 15), type := 32, pos := "law.go:49", after := #[{ on := 28, ground := Go.Ground.guard }], guard := some (28, true) }) (v := ?v32_140105) rfl (by kernel_rfl) (by kernel_rfl) (by kernel_rfl) (fun _ _ _ h => h) (Or.inl ⟨by rfl, ?y32_140105⟩) hHeld ?r32_140105
    case y32_140105 => intro w hSw; (try dsimp only at hSw); obtain ⟨y0, y1, y2, y3, y4, y5, y6, y7, y8, y9, y10, y11, _⟩ := (HP.out.below hSw).u12; go_simp; try with_reducible rfl
    try simp only [Act.put, List.setIfInBounds_toArray, List.set_cons_zero, List.set_cons_succ]
    refine wpAnyH_ready (rs := [30]) (by kernel_rfl) (by simp) ?_
    refine AllReadyH.cons (o := { dst := some 139, op := Go.Op.call { callee := Go.Callee.value (Go.Operand.func 50), args := #[Go.Operand.tmp 138], argTypes := #[27] }, type := 27, pos := "law.go:49", after := #[{ on := 29, ground := Go.Ground.data }, { on := 28, ground := Go.Ground.chain }, { on := 28, ground := Go.Ground.guard }], guard := some (28, true) }) rfl (fun K hK => ?_) AllReadyH.nil
    go_simp
    refine (stripM_any _ m _ (HM.out.below hHeld) HSS.out).mono ?_; rintro e wy30 ⟨v30, rfl, ho, hb⟩
    have HV30 := Lib.hid ho.at
    clear ho
    go_wp2_with fail
    refine hK.out _ _ (hHeld.trans (hb.mono hHeld.size)) (fun hHeld2 => ?_)
    clear hK K hHeld
    have hHeld := hHeld2
    clear hHeld2
    try simp only [Act.put, List.setIfInBounds_toArray, List.set_cons_zero, List.set_cons_succ]
    refine wpAnyH_ready (rs := [31]) (by kernel_rfl) (by simp) ?_
    refine AllReadyH.cons (o := { dst := some 140, op := Go.Op.call { callee := Go.Callee.value (Go.Operand.func 15), args := #[Go.Operand.tmp 139], argTypes := #[27] }, type := 32, pos := "law.go:49", after := #[{ on := 30, ground := Go.Ground.data }, { on := 30, ground := Go.Ground.chain }, { on := 28, ground := Go.Ground.guard }], guard := some (28, true) }) rfl (fun K hK => ?_) AllReadyH.nil
    go_simp
    refine (plainM_any _ _ _ HV30.out).mono ?_; rintro e wy31 ⟨rfl, hb⟩
    replace HV30 := Lib.hid (HV30.out.below hb)
    go_wp2_with fail
    refine hK.out _ _ (hHeld.trans (hb.mono hHeld.size)) (fun hHeld2 => ?_)
    clear hK K hHeld
    have hHeld := hHeld2
    clear hHeld2
    try simp only [Act.put, List.setIfInBounds_toArray, List.set_cons_zero, List.set_cons_succ]
    refine wpAnyH_ready (rs := [33]) (by kernel_rfl) (by simp) ?_
    refine AllReadyH.cons (o := { dst := some 142, op := Go.Op.call { callee := Go.Callee.value (Go.Operand.func 51), args := #[Go.Operand.tmp 141], argTypes := #[32] }, type := 32, pos := "law.go:49", after := #[{ on := 32, ground := Go.Ground.data }, { on := 31, ground := Go.Ground.chain }, { on := 28, ground := Go.Ground.guard }], guard := some (28, true) }) rfl (fun K hK => ?_) AllReadyH.nil
    go_simp
    refine (stripMD_any _ m _ (HM.out.below hHeld) HSS.out).mono ?_; rintro e wy33 ⟨v33, rfl, ho, hb⟩
    replace HV30 := Lib.hid (HV30.out.below hb)
    have HV33 := Lib.hid ho.own.at
    clear ho
    go_wp2_with fail
    refine hK.out _ _ (hHeld.trans (hb.mono hHeld.size)) (fun hHeld2 => ?_)
    clear hK K hHeld
    have hHeld := hHeld2
    clear hHeld2
    try simp only [Act.put, List.setIfInBounds_toArray, List.set_cons_zero, List.set_cons_succ]
    refine wpAnyH_ready (rs := [34]) (by kernel_rfl) (by simp) ?_
    refine AllReadyH.cons (o := { dst := some 143, op := Go.Op.call { callee := Go.Callee.value (Go.Operand.func 30), args := #[Go.Operand.tmp 140, Go.Operand.tmp 142], argTypes := #[32, 32] }, type := 4, pos := "law.go:49", after := #[{ on := 31, ground := Go.Ground.data }, { on := 33, ground := Go.Ground.data }, { on := 33, ground := Go.Ground.chain }, { on := 28, ground := Go.Ground.guard }], guard := some (28, true) }) rfl (fun K hK => ?_) AllReadyH.nil
    go_simp
    refine (sameMD_any _ _ _ _ _ HV30.out HV33.out HST.out HST.out).mono ?_; rintro e wy34 ⟨rfl, hb⟩
    rw [(sameB_iff _ _).2 rfl]
    go_wp2_with fail
    refine hK.out _ _ (hHeld.trans (hb.mono hHeld.size)) (fun hHeld2 => ?_)
    clear hK K hHeld
    have hHeld := hHeld2
    clear hHeld2
    try simp only [Act.put, List.setIfInBounds_toArray, List.set_cons_zero, List.set_cons_succ]
    refine wpAnyH_take (i := 35) (oi := { dst := some 144, op := Go.Op.pick (Go.Operand.tmp 137) (Go.Operand.tmp 143) (Go.Operand.const (Go.Value.bool false)), type := 4, pos := "law.go:49", after := #[{ on := 28, ground := Go.Ground.data }, { on := 34, ground := Go.Ground.data }], guard := none }) (v := ?v35_140109) rfl (by kernel_rfl) (by kernel_rfl) (by kernel_rfl) (fun _ _ _ h => h) (Or.inl ⟨by rfl, ?y35_140109⟩) hHeld ?r35_140109
    case y35_140109 => intro w hSw; (try dsimp only at hSw); go_simp; try with_reducible rfl
    try simp only [Act.put, List.setIfInBounds_toArray, List.set_cons_zero, List.set_cons_succ]
    refine wpAnyH_take (i := 36) (oi := { dst := some 145, op := Go.Op.move (Go.Operand.tmp 144), type := 4, pos := "law.go:49", after := #[{ on := 35, ground := Go.Ground.data }, { on := 34, ground := Go.Ground.chain }], guard := none }) (v := ?v36_140109) rfl (by kernel_rfl) (by kernel_rfl) (by kernel_rfl) (fun _ _ _ h => h) (Or.inl ⟨by rfl, ?y36_140109⟩) hHeld ?r36_140109
    case y36_140109 => intro w hSw; (try dsimp only at hSw); go_simp; try with_reducible rfl
    try simp only [Act.put, List.setIfInBounds_toArray, List.set_cons_zero, List.set_cons_succ]
    refine wpAnyH_take (i := 37) (oi := { dst := some 146, op := Go.Op.load 27 (Go.Operand.tmp 22), type := 27, pos := "law.go:49", after := #[{ on := 36, ground := Go.Ground.guard }], guard := some (36, true) }) (v := ?v37_140109) rfl (by kernel_rfl) (by kernel_rfl) (by kernel_rfl) (fun _ _ _ h => h) (Or.inl ⟨by rfl, ?y37_140109⟩) hHeld ?r37_140109
    case y37_140109 => intro w hSw; (try dsimp only at hSw); obtain ⟨y0, y1, y2, y3, y4, y5, y6, y7, y8, y9, y10, y11, _⟩ := (HN1.out.below hSw).u12; go_simp; try with_reducible rfl
    try simp only [Act.put, List.setIfInBounds_toArray, List.set_cons_zero, List.set_cons_succ]
    refine wpAnyH_take (i := 39) (oi := { dst := some 148, op := Go.Op.load 32 (Go.Operand.tmp 24), type := 32, pos := "law.go:49", after := #[{ on := 36, ground := Go.Ground.guard }], guard := some (36, true) }) (v := ?v39_140109) rfl (by kernel_rfl) (by kernel_rfl) (by kernel_rfl) (fun _ _ _ h => h) (Or.inl ⟨by rfl, ?y39_140109⟩) hHeld ?r39_140109
    case y39_140109 => intro w hSw; (try dsimp only at hSw); obtain ⟨y0, y1, y2, y3, y4, y5, y6, y7, y8, y9, y10, y11, _⟩ := (HN2.out.below hSw).u12; go_simp; try with_reducible rfl
    try simp only [Act.put, List.setIfInBounds_toArray, List.set_cons_zero, List.set_cons_succ]
    refine wpAnyH_ready (rs := [38]) (by kernel_rfl) (by simp) ?_
    refine AllReadyH.cons (o := { dst := some 147, op := Go.Op.call { callee := Go.Callee.value (Go.Operand.func 15), args := #[Go.Operand.tmp 146], argTypes := #[27] }, type := 32, pos := "law.go:49", after := #[{ on := 37, ground := Go.Ground.data }, { on := 36, ground := Go.Ground.chain }, { on := 36, ground := Go.Ground.guard }], guard := some (36, true) }) rfl (fun K hK => ?_) AllReadyH.nil
    go_simp
    refine (plainM_any _ _ _ (HV.out.below hHeld)).mono ?_; rintro e wy38 ⟨rfl, hb⟩
    go_wp2_with fail
    refine hK.out _ _ (hHeld.trans (hb.mono hHeld.size)) (fun hHeld2 => ?_)
    clear hK K hHeld
    have hHeld := hHeld2
    clear hHeld2
    try simp only [Act.put, List.setIfInBounds_toArray, List.set_cons_zero, List.set_cons_succ]
    refine wpAnyH_ready (rs := [40]) (by kernel_rfl) (by simp) ?_
    refine AllReadyH.cons (o := { dst := some 149, op := Go.Op.call { callee := Go.Callee.value (Go.Operand.func 30), args := #[Go.Operand.tmp 147, Go.Operand.tmp 148], argTypes := #[32, 32] }, type := 4, pos := "law.go:49", after := #[{ on := 38, ground := Go.Ground.data }, { on := 39, ground := Go.Ground.data }, { on := 38, ground := Go.Ground.chain }, { on := 36, ground := Go.Ground.guard }], guard := some (36, true) }) rfl (fun K hK => ?_) AllReadyH.nil
    go_simp
    refine (sameMD_any _ _ _ _ _ (HV.out.below hHeld) (HU.out.below hHeld) HSW.out HSW.out).mono ?_; rintro e wy40 ⟨rfl, hb⟩
    rw [(sameB_iff _ _).2 rfl]
    go_wp2_with fail
    refine hK.out _ _ (hHeld.trans (hb.mono hHeld.size)) (fun hHeld2 => ?_)
    clear hK K hHeld
    have hHeld := hHeld2
    clear hHeld2
    try simp only [Act.put, List.setIfInBounds_toArray, List.set_cons_zero, List.set_cons_succ]
    refine wpAnyH_take (i := 41) (oi := { dst := some 150, op := Go.Op.pick (Go.Operand.tmp 145) (Go.Operand.tmp 149) (Go.Operand.const (Go.Value.bool false)), type := 4, pos := "law.go:49", after := #[{ on := 36, ground := Go.Ground.data }, { on := 40, ground := Go.Ground.data }], guard := none }) (v := ?v41_140111) rfl (by kernel_rfl) (by kernel_rfl) (by kernel_rfl) (fun _ _ _ h => h) (Or.inl ⟨by rfl, ?y41_140111⟩) hHeld ?r41_140111
    case y41_140111 => intro w hSw; (try dsimp only at hSw); go_simp; try with_reducible rfl
    try simp only [Act.put, List.setIfInBounds_toArray, List.set_cons_zero, List.set_cons_succ]
    refine wpAnyH_take (i := 42) (oi := { dst := some 151, op := Go.Op.move (Go.Operand.tmp 150), type := 4, pos := "law.go:49", after := #[{ on := 41, ground := Go.Ground.data }, { on := 40, ground := Go.Ground.chain }], guard := none }) (v := ?v42_140111) rfl (by kernel_rfl) (by kernel_rfl) (by kernel_rfl) (fun _ _ _ h => h) (Or.inl ⟨by rfl, ?y42_140111⟩) hHeld ?r42_140111
    case y42_140111 => intro w hSw; (try dsimp only at hSw); go_simp; try with_reducible rfl
    try simp only [Act.put, List.setIfInBounds_toArray, List.set_cons_zero, List.set_cons_succ]
    refine wpAnyH_take (i := 43) (oi := { dst := some 152, op := Go.Op.move (Go.Operand.tmp 23), type := 36, pos := "law.go:49", after := #[{ on := 42, ground := Go.Ground.guard }], guard := some (42, true) }) (v := ?v43_140111) rfl (by kernel_rfl) (by kernel_rfl) (by kernel_rfl) (fun _ _ _ h => h) (Or.inl ⟨by rfl, ?y43_140111⟩) hHeld ?r43_140111
    case y43_140111 => intro w hSw; (try dsimp only at hSw); go_simp; try with_reducible rfl
    try simp only [Act.put, List.setIfInBounds_toArray, List.set_cons_zero, List.set_cons_succ]
    refine wpAnyH_take (i := 44) (oi := { dst := some 153, op := Go.Op.move (Go.Operand.tmp 25), type := 36, pos := "law.go:49", after := #[{ on := 42, ground := Go.Ground.guard }], guard := some (42, true) }) (v := ?v44_140111) rfl (by kernel_rfl) (by kernel_rfl) (by kernel_rfl) (fun _ _ _ h => h) (Or.inl ⟨by rfl, ?y44_140111⟩) hHeld ?r44_140111
    case y44_140111 => intro w hSw; (try dsimp only at hSw); go_simp; try with_reducible rfl
    try simp only [Act.put, List.setIfInBounds_toArray, List.set_cons_zero, List.set_cons_succ]
    refine wpAnyH_take (i := 45) (oi := { dst := some 154, op := Go.Op.binOp Go.BinOp.eql 36 (Go.Operand.tmp 152) (Go.Operand.tmp 153) 36, type := 4, pos := "law.go:49", after := #[{ on := 43, ground := Go.Ground.data }, { on := 44, ground := Go.Ground.data }, { on := 42, ground := Go.Ground.guard }], guard := some (42, true) }) (v := ?v45_140111) rfl (by kernel_rfl) (by kernel_rfl) (by kernel_rfl) (fun _ _ _ h => h) (Or.inl ⟨by rfl, ?y45_140111⟩) hHeld ?r45_140111
    case y45_140111 => intro w hSw; (try dsimp only at hSw); go_simp; try with_reducible rfl
    try simp only [Act.put, List.setIfInBounds_toArray, List.set_cons_zero, List.set_cons_succ]
    refine wpAnyH_take (i := 46) (oi := { dst := some 155, op := Go.Op.pick (Go.Operand.tmp 151) (Go.Operand.tmp 154) (Go.Operand.const (Go.Value.bool false)), type := 4, pos := "law.go:49", after := #[{ on := 42, ground := Go.Ground.data }, { on := 45, ground := Go.Ground.data }], guard := none }) (v := ?v46_140111) rfl (by kernel_rfl) (by kernel_rfl) (by kernel_rfl) (fun _ _ _ h => h) (Or.inl ⟨by rfl, ?y46_140111⟩) hHeld ?r46_140111
    case y46_140111 => intro w hSw; (try dsimp only at hSw); go_simp; try with_reducible rfl
    try simp only [Act.put, List.setIfInBounds_toArray, List.set_cons_zero, List.set_cons_succ]
    refine wpAnyH_take (i := 47) (oi := { dst := some 8, op := Go.Op.assign (Go.Operand.tmp 155), type := 4, pos := "law.go:49", after := #[{ on := 46, ground := Go.Ground.data }, { on := 42, ground := Go.Ground.chain }, { on := 0, ground := Go.Ground.phase }, { on := 1, ground := Go.Ground.phase }, { on := 2, ground := Go.Ground.phase }, { on := 3, ground := Go.Ground.phase }, { on := 4, ground := Go.Ground.phase }, { on := 5, ground := Go.Ground.phase }, { on := 6, ground := Go.Ground.phase }, { on := 7, ground := Go.Ground.phase }, { on := 8, ground := Go.Ground.phase }, { on := 9, ground := Go.Ground.phase }, { on := 10, ground := Go.Ground.phase }, { on := 11, ground := Go.Ground.phase }, { on := 12, ground := Go.Ground.phase }, { on := 13, ground := Go.Ground.phase }, { on := 14, ground := Go.Ground.phase }, { on := 15, ground := Go.Ground.phase }, { on := 16, ground := Go.Ground.phase }, { on := 17, ground := Go.Ground.phase }, { on := 18, ground := Go.Ground.phase }, { on := 19, ground := Go.Ground.phase }, { on := 20, ground := Go.Ground.phase }, { on := 21, ground := Go.Ground.phase }, { on := 22, ground := Go.Ground.phase }, { on := 23, ground := Go.Ground.phase }, { on := 24, ground := Go.Ground.phase }, { on := 25, ground := Go.Ground.phase }, { on := 26, ground := Go.Ground.phase }, { on := 27, ground := Go.Ground.phase }, { on := 28, ground := Go.Ground.phase }, { on := 29, ground := Go.Ground.phase }, { on := 30, ground := Go.Ground.phase }, { on := 31, ground := Go.Ground.phase }, { on := 32, ground := Go.Ground.phase }, { on := 33, ground := Go.Ground.phase }, { on := 34, ground := Go.Ground.phase }, { on := 35, ground := Go.Ground.phase }, { on := 36, ground := Go.Ground.phase }, { on := 37, ground := Go.Ground.phase }, { on := 38, ground := Go.Ground.phase }, { on := 39, ground := Go.Ground.phase }, { on := 40, ground := Go.Ground.phase }, { on := 41, ground := Go.Ground.phase }, { on := 42, ground := Go.Ground.phase }, { on := 43, ground := Go.Ground.phase }, { on := 44, ground := Go.Ground.phase }, { on := 45, ground := Go.Ground.phase }, { on := 46, ground := Go.Ground.phase }], guard := none }) (v := ?v47_140111) rfl (by kernel_rfl) (by kernel_rfl) (by kernel_rfl) (fun _ _ _ h => h) (Or.inl ⟨by rfl, ?y47_140111⟩) hHeld ?r47_140111
    case y47_140111 => intro w hSw; (try dsimp only at hSw); go_simp; try with_reducible rfl
    try simp only [Act.put, List.setIfInBounds_toArray, List.set_cons_zero, List.set_cons_succ]
    refine wpAnyH_done (by kernel_rfl) ?_ _
    go_wp2
    go_ret
    exact ⟨rfl, HB.out.trans (Below.mono hHeld HB.out.size)⟩
end Go.Proofs.Ytkoafkajmfodkaa
