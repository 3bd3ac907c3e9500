/- rhzlaw5.Few: is a message small? -/
import Derived.Test.YtkoafkajmfodkaaWth
namespace Go.Proofs.Ytkoafkajmfodkaa
open Go.RowKit

def SzM (m : MsgP) : Prop := (m.q.length ≤ 9223372036854775807 ∧ ∀ k ∈ m.q, k.n.size ≤ 9223372036854775807) ∧ (m.a.length ≤ 9223372036854775807 ∧ ∀ r ∈ m.a, SzR r) ∧ (m.n.length ≤ 9223372036854775807 ∧ ∀ r ∈ m.n, SzR r) ∧ (m.x.length ≤ 9223372036854775807 ∧ ∀ r ∈ m.x, SzR r)
def SmallM (m : MsgP) : Prop := (m.q.length ≤ 310 ∧ ∀ k ∈ m.q, k.n.size ≤ 60000) ∧ (m.a.length ≤ 400 ∧ ∀ r ∈ m.a, SmR r) ∧ (m.n.length ≤ 400 ∧ ∀ r ∈ m.n, SmR r) ∧ (m.x.length ≤ 400 ∧ ∀ r ∈ m.x, SmR r)
theorem SmallM.sm {m : MsgP} (h : SmallM m) : SmM m := ⟨by have := h.1.1; omega, by have := h.2.1.1; omega, by have := h.2.2.1.1; omega, by have := h.2.2.2.1; omega⟩
set_option maxRecDepth 100000 in
set_option maxHeartbeats 4000000 in
theorem few5_ex (mi mo mr : Int) (b1 b2 b3 b4 b5 : Bool) (qa na sa xa : Option Addr) (ql qc nl nc sl sc xl xc : Nat) (Q : List Ky) (A N X : List R5) (w : World) (hq : RowQ w qa ql Q) (ha : RowR w na nl A) (hn : RowR w sa sl N) (hx : RowR w xa xl X) (hql : ql ≤ 9223372036854775807) (hqz : ∀ k ∈ Q, k.n.size ≤ 9223372036854775807) (hnl : nl ≤ 9223372036854775807) (haz : ∀ r ∈ A, SzR r) (hsl : sl ≤ 9223372036854775807) (hnz : ∀ r ∈ N, SzR r) (hxl : xl ≤ 9223372036854775807) (hxz : ∀ r ∈ X, SzR r) :
    Calls Try.prog 14 #[.agg #[.int .i64 mi, .int .i64 mo, .int .i64 mr, .bool b1, .bool b2, .bool b3, .bool b4, .bool b5, .slice qa ql qc, .slice na nl nc, .slice sa sl sc, .slice xa xl xc]] w fun e w' => (e = .returned (.bool false) ∨ e = .returned (.bool true) ∧ (ql ≤ 310 ∧ ∀ k ∈ Q, k.n.size ≤ 60000) ∧ (nl ≤ 400 ∧ ∀ r ∈ A, SmR r) ∧ (sl ≤ 400 ∧ ∀ r ∈ N, SmR r) ∧ (xl ≤ 400 ∧ ∀ r ∈ X, SmR r)) ∧ Below w.heap.size w w' := by
  have hb1 := (Below.refl w.heap.size w).alloc (Nat.le_refl _) (.cells #[.int .i64 mi, .int .i64 mo, .int .i64 mr, .bool b1, .bool b2, .bool b3, .bool b4, .bool b5, .slice qa ql qc, .slice na nl nc, .slice sa sl sc, .slice xa xl xc] 27)
  have hc := CN.new w #[.int .i64 mi, .int .i64 mo, .int .i64 mr, .bool b1, .bool b2, .bool b3, .bool b4, .bool b5, .slice qa ql qc, .slice na nl nc, .slice sa sl sc, .slice xa xl xc] 27
  have HB := Lib.hid hb1
  have HC := Lib.hid hc
  have HQ := Lib.hid (hq.below hb1)
  have HA := Lib.hid (ha.below hb1)
  have HN := Lib.hid (hn.below hb1)
  have HX := Lib.hid (hx.below hb1)
  have HQZ := Lib.hid hqz
  have HAZ := Lib.hid haz
  have HNZ := Lib.hid hnz
  have HXZ := Lib.hid hxz
  have HQL := Lib.hid hq.1
  clear hb1 hc hq ha hn hx hqz haz hnz hxz
  go_enter Try.func14, Try.ntmps14
  go_wp2_with fail
  obtain ⟨w1, hw1⟩ : ∃ x, w.alloc (.cells #[.int .i64 mi, .int .i64 mo, .int .i64 mr, .bool b1, .bool b2, .bool b3, .bool b4, .bool b5, .slice qa ql qc, .slice na nl nc, .slice sa sl sc, .slice xa xl xc] 27) = x := ⟨_, rfl⟩
  rw [hw1] at HB HC HQ HA HN HX ⊢
  clear hw1
  obtain ⟨q, hqq⟩ : ∃ x, w.heap.size = x := ⟨_, rfl⟩
  have HC' := HC.out
  rw [hqq] at HC' ⊢
  replace HC := Lib.hid HC'
  have HQQ := Lib.hid hqq
  clear hqq HC'
  obtain ⟨y0, y1, y2, y3, y4, y5, y6, y7, y8, y9, y10, y11, _⟩ := HC.out.u12
  go_loopw [3, 4] (fun n i wr => ∃ k S : Nat, k ≤ ql ∧ k ≤ 310 ∧ S ≤ 60000 ∧ n = .int .i64 S ∧ i = .int .i64 k ∧ Hid (∀ r ∈ Q.take k, r.n.size ≤ 60000) ∧ w1 = wr) (fun _ i _ => ql - (intOf i).toNat)
  case atStart => exact ⟨0, 0, Nat.zero_le _, Nat.zero_le _, Nat.zero_le _, rfl, rfl, (fun r hr => by simp at hr), rfl⟩
  case round =>
    obtain ⟨k, S, hk, hk60, hS, rfl, rfl, hall, rfl⟩ := hrel
    by_cases hlt : k < ql ∧ k < 310
    · obtain ⟨l1, l2⟩ := hlt
      obtain ⟨b, o, r, rfl, hbl, hr, c0, _, _⟩ := HQ.out.at k l1
      have z1 := HQZ.out r (List.mem_of_getElem? hr)
      obtain ⟨rn, rt, rc⟩ := r
      replace c0 : w1.cell? ⟨b, o + k * 3, none⟩ = some (.string rn) := c0
      replace z1 : rn.size ≤ 9223372036854775807 := z1
      obtain ⟨v, hv, hv1, hv2⟩ := min60 rn
      have HN1 := Lib.hid (show S + v ≤ 60000 → ∀ r ∈ Q.take (k + 1), r.n.size ≤ 60000 from fun h r hr2 => by
        rw [List.take_add_one, hr] at hr2
        rcases List.mem_append.1 hr2 with h1 | h1
        · exact hall.out r h1
        · obtain rfl : r = ⟨rn, rt, rc⟩ := by simpa using h1
          exact hv2 (by omega))
      clear hr hv2
      have i1 : (0 : Int) ≤ (k : Int) := by omega
      have i2 : (k : Int) < (ql : Int) := by omega
      by_cases hov : 60000 < S + v
      · have d5 := dT (p := (60000 : Int) < (S : Int) + (v : Int)) (by omega)
        go_wp2
        go_ret
        exact ⟨Or.inl rfl, HB.out⟩
      · have d5 := dF (p := (60000 : Int) < (S : Int) + (v : Int)) (by omega)
        go_wp2
        go_roundw
        case rel => exact ⟨k + 1, S + v, by omega, by omega, by omega, by go_num, by go_num, HN1.out (by omega), trivial⟩
        case measure => simp [intOf]; omega
    · have hd : decide (k < ql) = false ∨ decide (k < ql) = true ∧ decide ((k : Int) < 310) = false := by
        simp only [decide_eq_true_eq, decide_eq_false_iff_not]; omega
      by_cases h6 : ql ≤ 310
      · have HF := Lib.hid (show ∀ r ∈ Q, r.n.size ≤ 60000 from fun r hr => by
          have h1 := hall.out r
          rw [show k = ql by omega, ← HQL.out, List.take_length] at h1
          exact h1 hr)
        obtain rfl : k = ql := by omega
        have e6 := dT (p := (k : Int) ≤ 310) (by omega)
        clear hd hlt hall
        go_wp2_with fail
        refine (few4 _ _ _ _ _ HA.out hnl HAZ.out).mono ?_; rintro e w2 ⟨he, m1, rfl⟩
        have HB2 := Lib.hid (below_drewN HB.out m1)
        have HC2 := Lib.hid (HC.out.below (below_drewN (Below.refl _ _) m1))
        have HN2 := Lib.hid (HN.out.below (below_drewN (Below.refl _ _) m1))
        have HX2 := Lib.hid (HX.out.below (below_drewN (Below.refl _ _) m1))
        obtain ⟨w2, hw2⟩ : ∃ x, w1.drewN m1 = x := ⟨_, rfl⟩
        rw [hw2] at HB2 HC2 HN2 HX2 ⊢
        clear hw2 y0 y1 y2 y3 y4 y5 y6 y7 y8 y9 y10 y11
        obtain ⟨y0, y1, y2, y3, y4, y5, y6, y7, y8, y9, y10, y11, _⟩ := HC2.out.u12
        rcases he with rfl | ⟨rfl, ha1, ha2⟩
        · go_wp2
          go_ret
          exact ⟨Or.inl rfl, HB2.out⟩
        have HA2 := Lib.hid ha2
        clear ha2
        go_wp2_with fail
        refine (few4 _ _ _ _ _ HN2.out hsl HNZ.out).mono ?_; rintro e w3 ⟨he, m2, rfl⟩
        have HB3 := Lib.hid (below_drewN HB2.out m2)
        have HC3 := Lib.hid (HC2.out.below (below_drewN (Below.refl _ _) m2))
        have HX3 := Lib.hid (HX2.out.below (below_drewN (Below.refl _ _) m2))
        obtain ⟨w3, hw3⟩ : ∃ x, w2.drewN m2 = x := ⟨_, rfl⟩
        rw [hw3] at HB3 HC3 HX3 ⊢
        clear hw3 y0 y1 y2 y3 y4 y5 y6 y7 y8 y9 y10 y11
        obtain ⟨y0, y1, y2, y3, y4, y5, y6, y7, y8, y9, y10, y11, _⟩ := HC3.out.u12
        rcases he with rfl | ⟨rfl, hb1, hb2⟩
        · go_wp2
          go_ret
          exact ⟨Or.inl rfl, HB3.out⟩
        have HN3 := Lib.hid hb2
        clear hb2
        go_wp2_with fail
        refine (few4 _ _ _ _ _ HX3.out hxl HXZ.out).mono ?_; rintro e w4 ⟨he, m3, rfl⟩
        have HB4 := Lib.hid (below_drewN HB3.out m3)
        obtain ⟨w4, hw4⟩ : ∃ x, w3.drewN m3 = x := ⟨_, rfl⟩
        rw [hw4] at HB4 ⊢
        clear hw4
        rcases he with rfl | ⟨rfl, hx1, hx2⟩
        · go_wp2
          go_ret
          exact ⟨Or.inl rfl, HB4.out⟩
        have HX4 := Lib.hid hx2
        clear hx2
        go_wp2
        go_ret
        refine ⟨?_, HB4.out⟩
        exact Or.inr ⟨rfl, ⟨h6, HF.out⟩, ⟨ha1, HA2.out⟩, ⟨hb1, HN3.out⟩, ⟨hx1, HX4.out⟩⟩
      · have e6 := dF (p := (ql : Int) ≤ 310) (by omega)
        rcases hd with d1 | ⟨d1, d2⟩
        all_goals
          go_wp2
          go_ret
          exact ⟨by first | exact Or.inl rfl | rfl, HB.out⟩
theorem few5_any (v : Value) (m : MsgP) (w : World) (h : MsgAt w v m) (hz : SzM m) :
    Calls Try.prog 14 #[v] w fun e w' => (e = .returned (.bool false) ∨ e = .returned (.bool true) ∧ SmallM m) ∧ Below w.heap.size w w' := by
  obtain ⟨qa, qc, na, nc, sa, sc, xa, xc, rfl, h1, h2, h3, h4⟩ := h
  exact few5_ex _ _ _ _ _ _ _ _ _ _ _ _ _ _ _ _ _ _ _ _ m.q m.a m.n m.x w h1.1 h2.1 h3.1 h4.1 hz.1.1 hz.1.2 hz.2.1.1 hz.2.1.2 hz.2.2.1.1 hz.2.2.1.2 hz.2.2.2.1 hz.2.2.2.2
theorem withM_any (v : Value) (m : MsgP) (la : Option Addr) (n lc : Nat) (L : List OptP) (w : World) (h : MsgAt w v m) (hs : SmallM m) (hl : RowO w la n L) (hln : n ≤ 1000) (hlz : ∀ o ∈ L, o.data.size ≤ 9223372036854775807) :
    Calls Try.prog 46 #[v, .slice la n lc] w fun e w' => ((withE L = 0 ∧ ∃ v', e = .returned (.tuple #[v', .int .i64 0]) ∧ MsgOwn w' w.heap.size v' { m with x := keepR optB m.x ++ L.map putR }) ∨ (withE L ≠ 0 ∧ e = .returned (.tuple #[.agg #[.int .i64 0, .int .i64 0, .int .i64 0, .bool false, .bool false, .bool false, .bool false, .bool false, .slice none 0 0, .slice none 0 0, .slice none 0 0, .slice none 0 0], .int .i64 (withE L)]))) ∧ Below w.heap.size w w' := by
  obtain ⟨qa, qc, na, nc, sa, sc, xa, xc, rfl, h1, h2, h3, h4⟩ := h
  exact with_ex _ _ _ _ _ _ _ _ _ _ _ _ _ _ _ _ _ _ _ _ m.q m.a m.n m.x la n lc L w h1.1 h1.2 h2.1 h2.2 h3.1 h3.2 h4.1 h4.2 (by have := hs.1.1; omega) (by have := hs.2.1.1; omega) (by have := hs.2.2.1.1; omega) (by have := hs.2.2.2.1; omega) hl hln hlz
end Go.Proofs.Ytkoafkajmfodkaa
