/- May any message be. -/
import Derived.Test.YtgppkpdjpcegbaaMaQ
import Derived.Test.YtgppkpdjpcegbaaMgC
namespace Go.Proofs.Ytgppkpdjpcegbaa
open Go.RowKit

theorem cn5m {w : World} {q : Nat} {c0 c1 c2 c3 c4 : Value} (h : CN w q [c0, c1, c2, c3, c4]) : w.cell? ⟨q, 0, none⟩ = some c0 ∧ w.cell? ⟨q, 1, none⟩ = some c1 ∧ w.cell? ⟨q, 2, none⟩ = some c2 ∧ w.cell? ⟨q, 3, none⟩ = some c3 ∧ w.cell? ⟨q, 4, none⟩ = some c4 := ⟨(h.2 0 _ rfl).1, (h.2 1 _ rfl).1, (h.2 2 _ rfl).1, (h.2 3 _ rfl).1, (h.2 4 _ rfl).1⟩
def mayRr (r : R5) : Bool := mayR r.k.n r.k.t r.k.c r.ttl r.d
def mayO (r : R5) : Bool := decide (r.k.t = 41) && ((r.k.n.toList == [0]) && (inR r.k.c 65535 && (inR r.ttl 4294967295 && decide (r.d.size ≤ 1000))))
def mayX (r : R5) : Bool := mayRr r || mayO r
def SzN (l : List R5) : Prop := ∀ r ∈ l, r.k.n.size ≤ 1000000 ∧ r.d.size ≤ 1000000
def headM (mi mo mr : Int) : Bool := inR mi 65535 && (inR mo 15 && inR mr 15)
def mayM (mi mo mr : Int) (Q : List Ky) (A N X : List R5) : Bool := headM mi mo mr && (decide (Q.length + A.length + N.length + X.length ≤ 300) && (Q.all mayK && (X.all mayX && (A.all mayRr && N.all mayRr))))
set_option maxRecDepth 100000 in
set_option maxHeartbeats 4000000 in
theorem mayOpt_any (n : ByteArray) (t c u : Int) (d : ByteArray) (w : World) : Calls Try.prog 55 #[.agg #[.string n, .int .i64 t, .int .i64 c, .int .i64 u, .string d]] w fun e w' => e = .returned (.bool (mayO ⟨⟨n, t, c⟩, u, d⟩)) ∧ Below w.heap.size w w' := by
  have HB := Lib.hid ((Below.refl w.heap.size w).alloc (Nat.le_refl _) (.cells #[.string n, .int .i64 t, .int .i64 c, .int .i64 u, .string d] 77))
  have HV := Lib.hid (show mayO ⟨⟨n, t, c⟩, u, d⟩ = (decide (t = 41) && ((n.toList == [0]) && (inR c 65535 && (inR u 4294967295 && decide (d.size ≤ 1000))))) from rfl)
  rw [HV.out]
  clear HV
  by_cases h1 : t = 41
  · have e1 := eT h1
    rw [dT h1, Bool.true_and]
    clear h1
    cases h2 : (n.toList == [0])
    · go_enter Try.func55, Try.ntmps55
      go_wp2
      go_ret
      exact ⟨rfl, HB.out⟩
    · rw [Bool.true_and]
      cases h3 : inR c 65535
      · have H3 := Lib.hid h3
        clear h3
        go_enter Try.func55, Try.ntmps55
        go_wp2_with fail
        refine (wfits_any _ _ _).mono ?_; rintro e w1 ⟨rfl, rfl⟩
        rw [H3.out]
        go_wp2
        go_ret
        exact ⟨rfl, HB.out⟩
      · have H3 := Lib.hid h3
        clear h3
        rw [Bool.true_and]
        cases h4 : inR u 4294967295
        · have H4 := Lib.hid h4
          clear h4
          go_enter Try.func55, Try.ntmps55
          go_wp2_with fail
          refine (wfits_any _ _ _).mono ?_; rintro e w1 ⟨rfl, rfl⟩
          rw [H3.out]
          go_wp2_with fail
          refine (wfits_any _ _ _).mono ?_; rintro e w1 ⟨rfl, rfl⟩
          rw [H4.out]
          go_wp2
          go_ret
          exact ⟨rfl, HB.out⟩
        · have H4 := Lib.hid h4
          clear h4
          rw [Bool.true_and]
          by_cases h5 : d.size ≤ 1000
          · have d5 := dT (p := (d.size : Int) ≤ (1000 : Int)) (by omega)
            rw [dT h5]
            go_enter Try.func55, Try.ntmps55
            go_wp2_with fail
            refine (wfits_any _ _ _).mono ?_; rintro e w1 ⟨rfl, rfl⟩
            rw [H3.out]
            go_wp2_with fail
            refine (wfits_any _ _ _).mono ?_; rintro e w1 ⟨rfl, rfl⟩
            rw [H4.out]
            go_wp2
            go_ret
            exact ⟨rfl, HB.out⟩
          · have d5 := dF (p := (d.size : Int) ≤ (1000 : Int)) (by omega)
            rw [dF h5]
            go_enter Try.func55, Try.ntmps55
            go_wp2_with fail
            refine (wfits_any _ _ _).mono ?_; rintro e w1 ⟨rfl, rfl⟩
            rw [H3.out]
            go_wp2_with fail
            refine (wfits_any _ _ _).mono ?_; rintro e w1 ⟨rfl, rfl⟩
            rw [H4.out]
            go_wp2
            go_ret
            exact ⟨rfl, HB.out⟩
  · have e1 := eF h1
    rw [dF h1, Bool.false_and]
    clear h1
    go_enter Try.func55, Try.ntmps55
    go_wp2
    go_ret
    exact ⟨rfl, HB.out⟩
set_option maxRecDepth 100000 in
set_option maxHeartbeats 4000000 in
theorem mayAll_any (a : Option Addr) (n c : Nat) (l : List R5) (w : World) (hr : RowR w a n l) (hn : n ≤ 100000) (hz : SzN l) : Calls Try.prog 56 #[.slice a n c] w fun e w' => e = .returned (.bool (l.all mayRr)) ∧ Below w.heap.size w w' := by
  have HR := Lib.hid hr
  have HZ := Lib.hid hz
  have HL := Lib.hid hr.1
  clear hr hz
  go_enter Try.func56, Try.ntmps56
  go_wp2_with fail
  go_loopw [7] (fun i wr => ∃ k : Nat, k ≤ n ∧ i = .int .i64 k ∧ Hid (Below w.heap.size w wr) ∧ Hid (∀ j r, j < k → l[j]? = some r → mayRr r = true)) (fun i _ => n - (intOf i).toNat)
  case atStart => exact ⟨0, Nat.zero_le _, rfl, Lib.hid (Below.refl _ _), Lib.hid (fun j r hj _ => absurd hj (by omega))⟩
  case round =>
    obtain ⟨k, hk, rfl, HW, HA⟩ := hrel
    by_cases hlt : k < n
    · obtain ⟨b, o, r, rfl, hbl, hr, c0, c1, c2, c3, c4⟩ := (HR.out.below HW.out).at k hlt
      obtain ⟨⟨rn, rt, rc⟩, ru, rd⟩ := r
      obtain ⟨z1, z2⟩ := HZ.out _ (List.mem_of_getElem? hr)
      replace z1 : rn.size ≤ 1000000 := z1
      replace z2 : rd.size ≤ 1000000 := z2
      have HRK := Lib.hid hr
      have HW2 := Lib.hid (HW.out.trans (((Below.refl _ _ : Below wr.heap.size wr wr).alloc (Nat.le_refl _) (.cells #[.string rn, .int .i64 rt, .int .i64 rc, .int .i64 ru, .string rd] 77)).mono HW.out.size))
      replace c0 : wr.cell? ⟨b, o + k * 5, none⟩ = some (.string rn) := c0
      replace c1 : wr.cell? ⟨b, o + k * 5 + 1, none⟩ = some (.int .i64 rt) := c1
      replace c2 : wr.cell? ⟨b, o + k * 5 + 2, none⟩ = some (.int .i64 rc) := c2
      replace c3 : wr.cell? ⟨b, o + k * 5 + 3, none⟩ = some (.int .i64 ru) := c3
      replace c4 : wr.cell? ⟨b, o + k * 5 + 4, none⟩ = some (.string rd) := c4
      clear hr hbl
      cases hm : mayRr ⟨⟨rn, rt, rc⟩, ru, rd⟩
      · have HN := Lib.hid (show l.all mayRr = false by
          cases h2 : l.all mayRr
          · rfl
          · have := List.all_eq_true.1 h2 _ (List.mem_of_getElem? HRK.out)
            rw [hm] at this; cases this)
        have HM := Lib.hid (show mayR rn rt rc ru rd = false from hm)
        clear hm
        go_wp2_with fail
        refine (mayRR_any rn rt rc ru rd _ z1 z2).mono ?_; rintro e w3 ⟨rfl, hb⟩
        have HW3 := Lib.hid (HW2.out.trans (hb.mono HW2.out.size))
        rw [HM.out]
        clear hb c0 c1 c2 c3 c4
        go_wp2
        go_ret
        exact ⟨ret_bool HN.out.symm, HW3.out⟩
      · have HM := Lib.hid (show mayR rn rt rc ru rd = true from hm)
        have HA2 := Lib.hid (show ∀ j r, j < k + 1 → l[j]? = some r → mayRr r = true from fun j r hj h2 => by
          by_cases e : j = k
          · subst e; rw [HRK.out] at h2; obtain rfl := Option.some.inj h2; exact hm
          · exact HA.out j r (by omega) h2)
        clear hm
        go_wp2_with fail
        refine (mayRR_any rn rt rc ru rd _ z1 z2).mono ?_; rintro e w3 ⟨rfl, hb⟩
        have HW3 := Lib.hid (HW2.out.trans (hb.mono HW2.out.size))
        rw [HM.out]
        clear hb c0 c1 c2 c3 c4
        go_wp2
        go_roundw
        case rel => exact ⟨k + 1, by omega, by go_num, HW3, HA2⟩
        case measure => simp [intOf]; omega
    · obtain rfl : k = n := by omega
      have HN := Lib.hid (show l.all mayRr = true from List.all_eq_true.2 (fun r hr => by
        obtain ⟨j, hj, rfl⟩ := List.mem_iff_getElem.1 hr
        exact HA.out j _ (by have := HL.out; omega) (List.getElem?_eq_getElem hj)))
      clear hlt hk
      go_wp2
      go_ret
      exact ⟨ret_bool HN.out.symm, HW.out⟩
set_option maxRecDepth 100000 in
set_option maxHeartbeats 8000000 in
theorem may_any5 (mi mo mr : Int) (b1 b2 b3 b4 b5 : Bool) (qa na sa xa : Option Addr) (ql qc nl nc sl sc xl xc : Nat) (Q : List Ky) (A N X : List R5) (w : World) (hq : RowQ w qa ql Q) (ha : RowR w na nl A) (hn : RowR w sa sl N) (hx : RowR w xa xl X) (hl : ql ≤ 100000 ∧ nl ≤ 100000 ∧ sl ≤ 100000 ∧ xl ≤ 100000) (hz : ∀ r ∈ Q, r.n.size ≤ 1000000) (hza : SzN A) (hzn : SzN N) (hzx : SzN X) :
    Calls Try.prog 34 #[.agg #[.int .i64 mi, .int .i64 mo, .int .i64 mr, .bool b1, .bool b2, .bool b3, .bool b4, .bool b5, .slice qa ql qc, .slice na nl nc, .slice sa sl sc, .slice xa xl xc]] w fun e w' => e = .returned (.bool (mayM mi mo mr Q A N X)) ∧ Below w.heap.size w w' := by
  have hb1 := (Below.refl w.heap.size w).alloc (Nat.le_refl _) (.cells #[.int .i64 mi, .int .i64 mo, .int .i64 mr, .bool b1, .bool b2, .bool b3, .bool b4, .bool b5, .slice qa ql qc, .slice na nl nc, .slice sa sl sc, .slice xa xl xc] 37)
  have HC := Lib.hid (CN.new w #[.int .i64 mi, .int .i64 mo, .int .i64 mr, .bool b1, .bool b2, .bool b3, .bool b4, .bool b5, .slice qa ql qc, .slice na nl nc, .slice sa sl sc, .slice xa xl xc] 37)
  have HQ := Lib.hid (hq.below hb1)
  have HRA := Lib.hid (ha.below hb1)
  have HRN := Lib.hid (hn.below hb1)
  have HRX := Lib.hid (hx.below hb1)
  have HB := Lib.hid hb1
  have HZ := Lib.hid hz
  have HZX := Lib.hid hzx
  have HZA := Lib.hid hza
  have HZN := Lib.hid hzn
  have HLS := Lib.hid (show Q.length = ql ∧ A.length = nl ∧ N.length = sl ∧ X.length = xl from ⟨hq.1, ha.1, hn.1, hx.1⟩)
  have HLL := Lib.hid hl
  clear hb1 hq ha hn hx hz hza hzn hzx
  have HV := Lib.hid (show mayM mi mo mr Q A N X = (headM mi mo mr && (decide (Q.length + A.length + N.length + X.length ≤ 300) && (Q.all mayK && (X.all mayX && (A.all mayRr && N.all mayRr))))) from rfl)
  cases g1 : inR mi 65535
  · have HE := Lib.hid (show mayM mi mo mr Q A N X = false by rw [HV.out, headM, g1]; rfl)
    have G1 := Lib.hid g1
    clear g1
    go_enter Try.func34, Try.ntmps34
    go_wp2_with fail
    refine (wfits_any _ _ _).mono ?_; rintro e w1 ⟨rfl, rfl⟩
    rw [G1.out]
    go_wp2
    go_ret
    exact ⟨ret_bool HE.out.symm, HB.out⟩
  have G1 := Lib.hid g1
  cases g2 : inR mo 15
  · have HE := Lib.hid (show mayM mi mo mr Q A N X = false by rw [HV.out, headM, g1, g2]; rfl)
    have G2 := Lib.hid g2
    clear g1 g2
    go_enter Try.func34, Try.ntmps34
    go_wp2_with fail
    refine (wfits_any _ _ _).mono ?_; rintro e w1 ⟨rfl, rfl⟩
    rw [G1.out]
    go_wp2_with fail
    refine (wfits_any _ _ _).mono ?_; rintro e w1 ⟨rfl, rfl⟩
    rw [G2.out]
    go_wp2
    go_ret
    exact ⟨ret_bool HE.out.symm, HB.out⟩
  have G2 := Lib.hid g2
  cases g3 : inR mr 15
  · have HE := Lib.hid (show mayM mi mo mr Q A N X = false by rw [HV.out, headM, g1, g2, g3]; rfl)
    have G3 := Lib.hid g3
    clear g1 g2 g3
    go_enter Try.func34, Try.ntmps34
    go_wp2_with fail
    refine (wfits_any _ _ _).mono ?_; rintro e w1 ⟨rfl, rfl⟩
    rw [G1.out]
    go_wp2_with fail
    refine (wfits_any _ _ _).mono ?_; rintro e w1 ⟨rfl, rfl⟩
    rw [G2.out]
    go_wp2_with fail
    refine (wfits_any _ _ _).mono ?_; rintro e w1 ⟨rfl, rfl⟩
    rw [G3.out]
    go_wp2
    go_ret
    exact ⟨ret_bool HE.out.symm, HB.out⟩
  have G3 := Lib.hid g3
  have HHD := Lib.hid (show headM mi mo mr = true by rw [headM, g1, g2, g3]; rfl)
  clear g1 g2 g3
  obtain ⟨t1, ht1⟩ : ∃ x, ql + nl = x := ⟨_, rfl⟩
  obtain ⟨t2, ht2⟩ : ∃ x, t1 + sl = x := ⟨_, rfl⟩
  obtain ⟨t3, ht3⟩ : ∃ x, t2 + xl = x := ⟨_, rfl⟩
  have p1 : IntKind.i64.wrap ((ql : Int) + (nl : Int)) = (t1 : Int) := by have := HLL.out; rw [IntKind.wrap_i64]; omega
  have p2 : IntKind.i64.wrap ((t1 : Int) + (sl : Int)) = (t2 : Int) := by have := HLL.out; rw [IntKind.wrap_i64]; omega
  have p3 : IntKind.i64.wrap ((t2 : Int) + (xl : Int)) = (t3 : Int) := by have := HLL.out; rw [IntKind.wrap_i64]; omega
  have HT3 := Lib.hid (show Q.length + A.length + N.length + X.length = t3 by have := HLS.out; omega)
  clear ht1 ht2 ht3
  by_cases g4 : 300 < t3
  · have HE := Lib.hid (show mayM mi mo mr Q A N X = false by rw [HV.out, HHD.out, dF (p := Q.length + A.length + N.length + X.length ≤ 300) (by have := HT3.out; omega)]; rfl)
    have d4 := dT (p := (300 : Int) < (t3 : Int)) (by omega)
    clear g4
    go_enter Try.func34, Try.ntmps34
    go_wp2_with fail
    refine (wfits_any _ _ _).mono ?_; rintro e w1 ⟨rfl, rfl⟩
    rw [G1.out]
    go_wp2_with fail
    refine (wfits_any _ _ _).mono ?_; rintro e w1 ⟨rfl, rfl⟩
    rw [G2.out]
    go_wp2_with fail
    refine (wfits_any _ _ _).mono ?_; rintro e w1 ⟨rfl, rfl⟩
    rw [G3.out]
    go_wp2
    go_ret
    exact ⟨ret_bool HE.out.symm, HB.out⟩
  have HE := Lib.hid (show mayM mi mo mr Q A N X = (Q.all mayK && (X.all mayX && (A.all mayRr && N.all mayRr))) by rw [HV.out, HHD.out, dT (p := Q.length + A.length + N.length + X.length ≤ 300) (by have := HT3.out; omega)]; rfl)
  have d4 := dF (p := (300 : Int) < (t3 : Int)) (by omega)
  clear g4 HV
  go_enter Try.func34, Try.ntmps34
  go_wp2_with fail
  refine (wfits_any _ _ _).mono ?_; rintro e w1 ⟨rfl, rfl⟩
  rw [G1.out]
  go_wp2_with fail
  refine (wfits_any _ _ _).mono ?_; rintro e w1 ⟨rfl, rfl⟩
  rw [G2.out]
  go_wp2_with fail
  refine (wfits_any _ _ _).mono ?_; rintro e w1 ⟨rfl, rfl⟩
  rw [G3.out]
  go_wp2_with fail
  clear p1 p2 p3 d4
  obtain ⟨w1, hw1⟩ : ∃ x, w.alloc (.cells #[.int .i64 mi, .int .i64 mo, .int .i64 mr, .bool b1, .bool b2, .bool b3, .bool b4, .bool b5, .slice qa ql qc, .slice na nl nc, .slice sa sl sc, .slice xa xl xc] 37) = x := ⟨_, rfl⟩
  obtain ⟨q, hq⟩ : ∃ x, w.heap.size = x := ⟨_, rfl⟩
  rw [hw1] at HC HQ HB HRA HRN HRX ⊢
  rw [hq] at HC
  rw [show (Value.pointer (some { block := w.heap.size, off := 0 })) = Value.pointer (some { block := q, off := 0 }) by rw [hq]]
  clear hw1 hq
  have hql := HLL.out.1
  go_loopw [45] (fun i wr => ∃ k : Nat, k ≤ ql ∧ i = .int .i64 k ∧ Hid (Below w1.heap.size w1 wr) ∧ Hid (∀ j r, j < k → Q[j]? = some r → mayK r = true)) (fun i _ => ql - (intOf i).toNat)
  case atStart => exact ⟨0, by omega, rfl, Lib.hid (Below.refl _ _), Lib.hid (fun j r hj _ => absurd hj (by omega))⟩
  case round =>
    obtain ⟨k, hk, rfl, HW, HA⟩ := hrel
    by_cases hlt : k < ql
    · obtain ⟨b, o, r, rfl, hbl, hr, c0, c1, c2⟩ := (HQ.out.below HW.out).at k hlt
      obtain ⟨n, t, c⟩ := r
      have hsz : n.size ≤ 1000000 := HZ.out ⟨n, t, c⟩ (List.mem_of_getElem? hr)
      have HR := Lib.hid hr
      have hba := (Below.refl _ _ : Below wr.heap.size wr wr).alloc (Nat.le_refl _) (.cells #[.string n, .int .i64 t, .int .i64 c] 27)
      have HW2 := Lib.hid (HW.out.trans (hba.mono HW.out.size))
      replace c0 : wr.cell? ⟨b, o + k * 3, none⟩ = some (.string n) := c0
      replace c1 : wr.cell? ⟨b, o + k * 3 + 1, none⟩ = some (.int .i64 t) := c1
      replace c2 : wr.cell? ⟨b, o + k * 3 + 2, none⟩ = some (.int .i64 c) := c2
      clear hr hba hbl
      cases hm : mayK ⟨n, t, c⟩
      · have HNN := Lib.hid (show mayM mi mo mr Q A N X = false by
          rw [HE.out]
          cases h2 : Q.all mayK
          · rfl
          · have := List.all_eq_true.1 h2 _ (List.mem_of_getElem? HR.out)
            rw [hm] at this; cases this)
        have HM := Lib.hid hm
        clear hm
        go_wp2_with fail
        refine (mayAsk_any n t c _ hsz).mono ?_; rintro e w3 ⟨rfl, hb⟩
        have HW3 := Lib.hid (HB.out.trans ((HW2.out.trans (hb.mono HW2.out.size)).mono HB.out.size))
        rw [HM.out]
        clear hb c0 c1 c2
        go_wp2
        go_ret
        exact ⟨ret_bool HNN.out.symm, HW3.out⟩
      · have HM := Lib.hid hm
        have HA2 := Lib.hid (show ∀ j r, j < k + 1 → Q[j]? = some r → mayK r = true from fun j r hj h2 => by
          by_cases e : j = k
          · subst e; rw [HR.out] at h2; obtain rfl := Option.some.inj h2; exact hm
          · exact HA.out j r (by omega) h2)
        clear hm
        go_wp2_with fail
        refine (mayAsk_any n t c _ hsz).mono ?_; rintro e w3 ⟨rfl, hb⟩
        have HW3 := Lib.hid (HW2.out.trans (hb.mono HW2.out.size))
        rw [HM.out]
        clear hb c0 c1 c2
        go_wp2
        go_roundw
        case rel => exact ⟨k + 1, by omega, by go_num, HW3, HA2⟩
        case measure => simp [intOf]; omega
    · obtain rfl : k = ql := by omega
      have HN := Lib.hid (show Q.all mayK = true from List.all_eq_true.2 (fun r hr => by
        obtain ⟨j, hj, rfl⟩ := List.mem_iff_getElem.1 hr
        exact HA.out j _ (by have := HLS.out; omega) (List.getElem?_eq_getElem hj)))
      have HE2 := Lib.hid (show mayM mi mo mr Q A N X = (X.all mayX && (A.all mayRr && N.all mayRr)) by rw [HE.out, HN.out, Bool.true_and])
      clear hlt hk hql
      obtain ⟨y0, y1, y2, y3, y4, y5, y6, y7, y8, y9, y10, y11, -⟩ := (HC.out.below HW.out).u12
      go_wp2_with fail
      clear y0 y1 y2 y3 y4 y5 y6 y7 y8 y9 y10 y11
      have hxl := HLL.out.2.2.2
      obtain ⟨v0, hv0⟩ : ∃ x, wr = x := ⟨_, rfl⟩
      rw [hv0] at HW ⊢
      clear hv0
      go_loopw [56] (fun i wx => ∃ j : Nat, j ≤ xl ∧ i = .int .i64 j ∧ Hid (Below v0.heap.size v0 wx) ∧ Hid (∀ i r, i < j → X[i]? = some r → mayX r = true)) (fun i _ => xl - (intOf i).toNat)
      case atStart => exact ⟨0, by omega, rfl, Lib.hid (Below.refl _ _), Lib.hid (fun j r hj _ => absurd hj (by omega))⟩
      case round =>
        obtain ⟨j, hj, rfl, HV, HA⟩ := hrel
        have HWV := Lib.hid (HW.out.trans (HV.out.mono HW.out.size))
        by_cases hlt : j < xl
        · obtain ⟨b, o, r, rfl, hbl, hr, c0, c1, c2, c3, c4⟩ := (HRX.out.below HWV.out).at j hlt
          obtain ⟨⟨rn, rt, rc⟩, ru, rd⟩ := r
          obtain ⟨z1, z2⟩ := HZX.out _ (List.mem_of_getElem? hr)
          replace z1 : rn.size ≤ 1000000 := z1
          replace z2 : rd.size ≤ 1000000 := z2
          have HRK := Lib.hid hr
          have hba := (Below.refl _ _ : Below wr.heap.size wr wr).alloc (Nat.le_refl _) (.cells #[.string rn, .int .i64 rt, .int .i64 rc, .int .i64 ru, .string rd] 77)
          have HE5 := Lib.hid (CN.new wr #[.string rn, .int .i64 rt, .int .i64 rc, .int .i64 ru, .string rd] 77)
          have HV2 := Lib.hid (HV.out.trans (hba.mono HV.out.size))
          obtain ⟨g5, hg5⟩ : ∃ x, wr.heap.size = x := ⟨_, rfl⟩
          obtain ⟨w5, hw5⟩ : ∃ x, wr.alloc (.cells #[.string rn, .int .i64 rt, .int .i64 rc, .int .i64 ru, .string rd] 77) = x := ⟨_, rfl⟩
          rw [hw5] at HE5 HV2
          rw [hg5] at HE5
          replace c0 : wr.cell? ⟨b, o + j * 5, none⟩ = some (.string rn) := c0
          replace c1 : wr.cell? ⟨b, o + j * 5 + 1, none⟩ = some (.int .i64 rt) := c1
          replace c2 : wr.cell? ⟨b, o + j * 5 + 2, none⟩ = some (.int .i64 rc) := c2
          replace c3 : wr.cell? ⟨b, o + j * 5 + 3, none⟩ = some (.int .i64 ru) := c3
          replace c4 : wr.cell? ⟨b, o + j * 5 + 4, none⟩ = some (.string rd) := c4
          clear hr hbl hba
          cases hm : mayRr ⟨⟨rn, rt, rc⟩, ru, rd⟩
          · cases hm2 : mayO ⟨⟨rn, rt, rc⟩, ru, rd⟩
            · have HNN := Lib.hid (show mayM mi mo mr Q A N X = false by
                rw [HE2.out]
                cases h2 : X.all mayX
                · rfl
                · have := List.all_eq_true.1 h2 _ (List.mem_of_getElem? HRK.out)
                  unfold mayX at this
                  rw [hm, hm2] at this; cases this)
              have HM := Lib.hid (show mayR rn rt rc ru rd = false from hm)
              have HM2 := Lib.hid hm2
              clear hm hm2
              obtain ⟨e0, e1, e2, e3, e4⟩ := cn5m HE5.out
              go_wp2_with fail
              refine (mayRR_any rn rt rc ru rd _ z1 z2).mono ?_; rintro e w3 ⟨rfl, hb⟩
              have HV3 := Lib.hid (HV2.out.trans (hb.mono HV2.out.size))
              replace HE5 := Lib.hid (HE5.out.below hb)
              rw [HM.out]
              clear hb c0 c1 c2 c3 c4 hw5 hg5 e0 e1 e2 e3 e4
              obtain ⟨e0, e1, e2, e3, e4⟩ := cn5m HE5.out
              go_wp2_with fail
              refine (mayOpt_any rn rt rc ru rd _).mono ?_; rintro e w4 ⟨rfl, hb⟩
              have HV4 := Lib.hid (HV3.out.trans (hb.mono HV3.out.size))
              rw [HM2.out]
              clear hb e0 e1 e2 e3 e4
              go_wp2
              go_ret
              exact ⟨ret_bool HNN.out.symm, HB.out.trans ((HW.out.trans (HV4.out.mono HW.out.size)).mono HB.out.size)⟩
            · have HM := Lib.hid (show mayR rn rt rc ru rd = false from hm)
              have HM2 := Lib.hid hm2
              have HA2 := Lib.hid (show ∀ i r, i < j + 1 → X[i]? = some r → mayX r = true from fun i r hj h2 => by
                by_cases e : i = j
                · subst e; rw [HRK.out] at h2; obtain rfl := Option.some.inj h2; unfold mayX; rw [hm, hm2]; rfl
                · exact HA.out i r (by omega) h2)
              clear hm hm2
              obtain ⟨e0, e1, e2, e3, e4⟩ := cn5m HE5.out
              go_wp2_with fail
              refine (mayRR_any rn rt rc ru rd _ z1 z2).mono ?_; rintro e w3 ⟨rfl, hb⟩
              have HV3 := Lib.hid (HV2.out.trans (hb.mono HV2.out.size))
              replace HE5 := Lib.hid (HE5.out.below hb)
              rw [HM.out]
              clear hb c0 c1 c2 c3 c4 hw5 hg5 e0 e1 e2 e3 e4
              obtain ⟨e0, e1, e2, e3, e4⟩ := cn5m HE5.out
              go_wp2_with fail
              refine (mayOpt_any rn rt rc ru rd _).mono ?_; rintro e w4 ⟨rfl, hb⟩
              have HV4 := Lib.hid (HV3.out.trans (hb.mono HV3.out.size))
              rw [HM2.out]
              clear hb e0 e1 e2 e3 e4
              go_wp2
              go_roundw
              case rel => exact ⟨j + 1, by omega, by go_num, HV4, HA2⟩
              case measure => simp [intOf]; omega
          · have HM := Lib.hid (show mayR rn rt rc ru rd = true from hm)
            have HA2 := Lib.hid (show ∀ i r, i < j + 1 → X[i]? = some r → mayX r = true from fun i r hj h2 => by
              by_cases e : i = j
              · subst e; rw [HRK.out] at h2; obtain rfl := Option.some.inj h2; unfold mayX; rw [hm]; rfl
              · exact HA.out i r (by omega) h2)
            clear hm
            obtain ⟨e0, e1, e2, e3, e4⟩ := cn5m HE5.out
            go_wp2_with fail
            refine (mayRR_any rn rt rc ru rd _ z1 z2).mono ?_; rintro e w3 ⟨rfl, hb⟩
            clear e0 e1 e2 e3 e4
            have HV3 := Lib.hid (HV2.out.trans (hb.mono HV2.out.size))
            rw [HM.out]
            clear hb c0 c1 c2 c3 c4 hw5 hg5
            go_wp2
            go_roundw
            case rel => exact ⟨j + 1, by omega, by go_num, HV3, HA2⟩
            case measure => simp [intOf]; omega
        · obtain rfl : j = xl := by omega
          have HNX := Lib.hid (show X.all mayX = true from List.all_eq_true.2 (fun r hr => by
            obtain ⟨i, hi, rfl⟩ := List.mem_iff_getElem.1 hr
            exact HA.out i _ (by have := HLS.out; omega) (List.getElem?_eq_getElem hi)))
          have HE3 := Lib.hid (show mayM mi mo mr Q A N X = (A.all mayRr && N.all mayRr) by rw [HE2.out, HNX.out, Bool.true_and])
          clear hlt hj hxl
          obtain ⟨y0, y1, y2, y3, y4, y5, y6, y7, y8, y9, y10, y11, -⟩ := (HC.out.below HWV.out).u12
          go_wp2_with fail
          refine (mayAll_any na nl nc A _ (HRA.out.below HWV.out) HLL.out.2.1 HZA.out).mono ?_; rintro e w4 ⟨rfl, hb⟩
          have HW4 := Lib.hid (HWV.out.trans (hb.mono HWV.out.size))
          clear hb y0 y1 y2 y3 y4 y5 y6 y7 y8 y9 y10 y11
          cases ha : A.all mayRr
          · have HNN := Lib.hid (show mayM mi mo mr Q A N X = false by rw [HE3.out, ha]; rfl)
            clear ha
            go_wp2
            go_ret
            exact ⟨ret_bool HNN.out.symm, HB.out.trans (HW4.out.mono HB.out.size)⟩
          · have HNN := Lib.hid (show mayM mi mo mr Q A N X = N.all mayRr by rw [HE3.out, ha]; rfl)
            clear ha
            obtain ⟨y0, y1, y2, y3, y4, y5, y6, y7, y8, y9, y10, y11, -⟩ := (HC.out.below HW4.out).u12
            go_wp2_with fail
            refine (mayAll_any sa sl sc N _ (HRN.out.below HW4.out) HLL.out.2.2.1 HZN.out).mono ?_; rintro e w5 ⟨rfl, hb⟩
            have HW5 := Lib.hid (HW4.out.trans (hb.mono HW4.out.size))
            clear hb y0 y1 y2 y3 y4 y5 y6 y7 y8 y9 y10 y11
            go_wp2
            go_ret
            exact ⟨ret_bool HNN.out.symm, HB.out.trans (HW5.out.mono HB.out.size)⟩
end Go.Proofs.Ytgppkpdjpcegbaa
