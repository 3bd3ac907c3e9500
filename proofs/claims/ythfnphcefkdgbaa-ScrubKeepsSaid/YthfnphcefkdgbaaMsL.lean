/- MsL -/
import Derived.Test.YthfnphcefkdgbaaZnU
import Derived.Test.YthfnphcefkdgbaaMgS
import Derived.Test.YthfnphcefkdgbaaFew4
import Derived.ChangeArms
import Derived.WideShapes
import Derived.Deep.RegionHeld3
import Derived.Deep.DeepCutAuto
import Derived.Deep.Slices
import Derived.Deep.Fields
import Derived.ChangeSame
namespace Go.Proofs.Ythfnphcefkdgbaa
open Go.ChangeShapes Go.WideShapes Go.RowKit Go.Deep

def flatQ (l : List Ky) : List Value := l.flatMap encK
theorem encK_len (r : Ky) : (encK r).length = 3 := rfl
theorem flatQ_len (l : List Ky) : (flatQ l).length = l.length * 3 := by
  induction l with
  | nil => rfl
  | cons x l ih => rw [flatQ, List.flatMap_cons, List.length_append, encK_len]; show 3 + (flatQ l).length = _; rw [ih, List.length_cons]; omega
/-- The questions of a slice. -/
def RowQ (w : World) (a : Option Addr) (n : Nat) (l : List Ky) : Prop := l.length = n ∧ CellsAt w a (n * 3) (flatQ l)
theorem RowQ.below {w w' : World} {a : Option Addr} {n : Nat} {l : List Ky} (h : RowQ w a n l) (hb : Below w.heap.size w w') : RowQ w' a n l := ⟨h.1, h.2.below hb⟩
theorem RowQ.at {w : World} {a : Option Addr} {n : Nat} {l : List Ky} (h : RowQ w a n l) (j : Nat) (hj : j < n) : ∃ b off r, a = some ⟨b, off, none⟩ ∧ b < w.heap.size ∧ l[j]? = some r ∧ w.cell? ⟨b, off + j * 3, none⟩ = some (.string r.n) ∧ w.cell? ⟨b, off + j * 3 + 1, none⟩ = some (.int .i64 r.t) ∧ w.cell? ⟨b, off + j * 3 + 2, none⟩ = some (.int .i64 r.c) := by
  obtain ⟨h1, h2, h3⟩ := h
  rcases h3 with h0 | ⟨b, off, rfl, hlt, hc⟩
  · omega
  obtain ⟨r, hr⟩ : ∃ r, l[j]? = some r := ⟨l[j]'(by omega), List.getElem?_eq_getElem (by omega)⟩
  have hg : ∀ i, i < 3 → ∀ u, (encK r)[i]? = some u → w.cell? ⟨b, off + j * 3 + i, none⟩ = some u := fun i hi u hu => by
    have h4 := hc (j * 3 + i) u (by
      rw [flatQ, flatMap_get encK 3 encK_len (by omega), show (j * 3 + i) / 3 = j by omega, show (j * 3 + i) % 3 = i by omega, hr]
      exact hu)
    rw [Nat.add_assoc]; exact h4
  exact ⟨b, off, r, rfl, hlt, hr, hg 0 (by omega) _ rfl, hg 1 (by omega) _ rfl, hg 2 (by omega) _ rfl⟩
theorem flatQ_one (l : List Ky) : ∀ u ∈ flatQ l, u.oneCell' = true := by
  intro u hu
  obtain ⟨r, _, hr⟩ := List.mem_flatMap.1 hu
  simp only [encK, List.mem_cons, List.not_mem_nil, or_false] at hr
  rcases hr with rfl | rfl | rfl <;> rfl
theorem CN.u12 {w : World} {q : Nat} {c0 c1 c2 c3 c4 c5 c6 c7 c8 c9 c10 c11 : Value} (h : CN w q [c0, c1, c2, c3, c4, c5, c6, c7, c8, c9, c10, c11]) : w.cell? ⟨q, 0, none⟩ = some c0 ∧ w.cell? ⟨q, 1, none⟩ = some c1 ∧ w.cell? ⟨q, 2, none⟩ = some c2 ∧ w.cell? ⟨q, 3, none⟩ = some c3 ∧ w.cell? ⟨q, 4, none⟩ = some c4 ∧ w.cell? ⟨q, 5, none⟩ = some c5 ∧ w.cell? ⟨q, 6, none⟩ = some c6 ∧ w.cell? ⟨q, 7, none⟩ = some c7 ∧ w.cell? ⟨q, 8, none⟩ = some c8 ∧ w.cell? ⟨q, 9, none⟩ = some c9 ∧ w.cell? ⟨q, 10, none⟩ = some c10 ∧ w.cell? ⟨q, 11, none⟩ = some c11 ∧ w.frozen? ⟨q, 0, none⟩ = false ∧ w.frozen? ⟨q, 1, none⟩ = false ∧ w.frozen? ⟨q, 2, none⟩ = false ∧ w.frozen? ⟨q, 3, none⟩ = false ∧ w.frozen? ⟨q, 4, none⟩ = false ∧ w.frozen? ⟨q, 5, none⟩ = false ∧ w.frozen? ⟨q, 6, none⟩ = false ∧ w.frozen? ⟨q, 7, none⟩ = false ∧ w.frozen? ⟨q, 8, none⟩ = false ∧ w.frozen? ⟨q, 9, none⟩ = false ∧ w.frozen? ⟨q, 10, none⟩ = false ∧ w.frozen? ⟨q, 11, none⟩ = false :=
  ⟨(h.2 0 _ rfl).1, (h.2 1 _ rfl).1, (h.2 2 _ rfl).1, (h.2 3 _ rfl).1, (h.2 4 _ rfl).1, (h.2 5 _ rfl).1, (h.2 6 _ rfl).1, (h.2 7 _ rfl).1, (h.2 8 _ rfl).1, (h.2 9 _ rfl).1, (h.2 10 _ rfl).1, (h.2 11 _ rfl).1, (h.2 0 _ rfl).2, (h.2 1 _ rfl).2, (h.2 2 _ rfl).2, (h.2 3 _ rfl).2, (h.2 4 _ rfl).2, (h.2 5 _ rfl).2, (h.2 6 _ rfl).2, (h.2 7 _ rfl).2, (h.2 8 _ rfl).2, (h.2 9 _ rfl).2, (h.2 10 _ rfl).2, (h.2 11 _ rfl).2⟩
/-- A message. -/
structure MsgP where
  i : Int
  o : Int
  r : Int
  b1 : Bool
  b2 : Bool
  b3 : Bool
  b4 : Bool
  b5 : Bool
  q : List Ky
  a : List R5
  n : List R5
  x : List R5
/-- A value reads as a message. -/
def MsgAt (w : World) (v : Value) (m : MsgP) : Prop := ∃ (qa : Option Addr) (qc : Nat) (na : Option Addr) (nc : Nat) (sa : Option Addr) (sc : Nat) (xa : Option Addr) (xc : Nat), v = .agg #[.int .i64 m.i, .int .i64 m.o, .int .i64 m.r, .bool m.b1, .bool m.b2, .bool m.b3, .bool m.b4, .bool m.b5, .slice qa m.q.length qc, .slice na m.a.length nc, .slice sa m.n.length sc, .slice xa m.x.length xc] ∧ (RowQ w qa m.q.length m.q ∧ (qa = none → m.q.length = 0 ∧ qc = 0)) ∧ (RowR w na m.a.length m.a ∧ (na = none → m.a.length = 0 ∧ nc = 0)) ∧ (RowR w sa m.n.length m.n ∧ (sa = none → m.n.length = 0 ∧ sc = 0)) ∧ (RowR w xa m.x.length m.x ∧ (xa = none → m.x.length = 0 ∧ xc = 0))
theorem MsgAt.below {w w' : World} {v : Value} {m : MsgP} (h : MsgAt w v m) (hb : Below w.heap.size w w') : MsgAt w' v m := by
  obtain ⟨qa, qc, na, nc, sa, sc, xa, xc, rfl, h1, h2, h3, h4⟩ := h
  exact ⟨qa, qc, na, nc, sa, sc, xa, xc, rfl, ⟨h1.1.below hb, h1.2⟩, ⟨h2.1.below hb, h2.2⟩, ⟨h3.1.below hb, h3.2⟩, ⟨h4.1.below hb, h4.2⟩⟩
def SmM (m : MsgP) : Prop := m.q.length ≤ 100000 ∧ m.a.length ≤ 100000 ∧ m.n.length ≤ 100000 ∧ m.x.length ≤ 100000
def SzM (m : MsgP) : Prop := (m.q.length ≤ 9223372036854775807 ∧ ∀ k ∈ m.q, k.n.size ≤ 9223372036854775807) ∧ (m.a.length ≤ 9223372036854775807 ∧ ∀ r ∈ m.a, SzR r) ∧ (m.n.length ≤ 9223372036854775807 ∧ ∀ r ∈ m.n, SzR r) ∧ (m.x.length ≤ 9223372036854775807 ∧ ∀ r ∈ m.x, SzR r)
def SmallM (m : MsgP) : Prop := (m.q.length ≤ 310 ∧ ∀ k ∈ m.q, k.n.size ≤ 60000) ∧ (m.a.length ≤ 400 ∧ ∀ r ∈ m.a, SmR r) ∧ (m.n.length ≤ 400 ∧ ∀ r ∈ m.n, SmR r) ∧ (m.x.length ≤ 400 ∧ ∀ r ∈ m.x, SmR r)
theorem SmallM.sm {m : MsgP} (h : SmallM m) : SmM m := ⟨by have := h.1.1; omega, by have := h.2.1.1; omega, by have := h.2.2.1.1; omega, by have := h.2.2.2.1; omega⟩
set_option maxRecDepth 100000 in
set_option maxHeartbeats 4000000 in
theorem few5_ex (mi mo mr : Int) (b1 b2 b3 b4 b5 : Bool) (qa na sa xa : Option Addr) (ql qc nl nc sl sc xl xc : Nat) (Q : List Ky) (A N X : List R5) (w : World) (hq : RowQ w qa ql Q) (ha : RowR w na nl A) (hn : RowR w sa sl N) (hx : RowR w xa xl X) (hql : ql ≤ 9223372036854775807) (hqz : ∀ k ∈ Q, k.n.size ≤ 9223372036854775807) (hnl : nl ≤ 9223372036854775807) (haz : ∀ r ∈ A, SzR r) (hsl : sl ≤ 9223372036854775807) (hnz : ∀ r ∈ N, SzR r) (hxl : xl ≤ 9223372036854775807) (hxz : ∀ r ∈ X, SzR r) :
    Calls Try.prog 36 #[.agg #[.int .i64 mi, .int .i64 mo, .int .i64 mr, .bool b1, .bool b2, .bool b3, .bool b4, .bool b5, .slice qa ql qc, .slice na nl nc, .slice sa sl sc, .slice xa xl xc]] w fun e w' => (e = .returned (.bool false) ∨ e = .returned (.bool true) ∧ (ql ≤ 310 ∧ ∀ k ∈ Q, k.n.size ≤ 60000) ∧ (nl ≤ 400 ∧ ∀ r ∈ A, SmR r) ∧ (sl ≤ 400 ∧ ∀ r ∈ N, SmR r) ∧ (xl ≤ 400 ∧ ∀ r ∈ X, SmR r)) ∧ Below w.heap.size w w' := by
  have hb1 := (Below.refl w.heap.size w).alloc (Nat.le_refl _) (.cells #[.int .i64 mi, .int .i64 mo, .int .i64 mr, .bool b1, .bool b2, .bool b3, .bool b4, .bool b5, .slice qa ql qc, .slice na nl nc, .slice sa sl sc, .slice xa xl xc] 77)
  have hc := CN.new w #[.int .i64 mi, .int .i64 mo, .int .i64 mr, .bool b1, .bool b2, .bool b3, .bool b4, .bool b5, .slice qa ql qc, .slice na nl nc, .slice sa sl sc, .slice xa xl xc] 77
  have HB := Lib.hid hb1
  have HC := Lib.hid hc
  have HQ := Lib.hid (hq.below hb1)
  have HA := Lib.hid (ha.below hb1)
  have HN := Lib.hid (hn.below hb1)
  have HX := Lib.hid (hx.below hb1)
  have HQZ := Lib.hid hqz
  have HAZ := Lib.hid haz
  have HNZ := Lib.hid hnz
  have HXZ := Lib.hid hxz
  have HQL := Lib.hid hq.1
  clear hb1 hc hq ha hn hx hqz haz hnz hxz
  go_enter Try.func36, Try.ntmps36
  go_wp2_with fail
  obtain ⟨w1, hw1⟩ : ∃ x, w.alloc (.cells #[.int .i64 mi, .int .i64 mo, .int .i64 mr, .bool b1, .bool b2, .bool b3, .bool b4, .bool b5, .slice qa ql qc, .slice na nl nc, .slice sa sl sc, .slice xa xl xc] 77) = x := ⟨_, rfl⟩
  rw [hw1] at HB HC HQ HA HN HX ⊢
  clear hw1
  obtain ⟨q, hqq⟩ : ∃ x, w.heap.size = x := ⟨_, rfl⟩
  have HC' := HC.out
  rw [hqq] at HC' ⊢
  replace HC := Lib.hid HC'
  have HQQ := Lib.hid hqq
  clear hqq HC'
  obtain ⟨y0, y1, y2, y3, y4, y5, y6, y7, y8, y9, y10, y11, _⟩ := HC.out.u12
  go_loopw [3, 4] (fun n i wr => ∃ k S : Nat, k ≤ ql ∧ k ≤ 310 ∧ S ≤ 60000 ∧ n = .int .i64 S ∧ i = .int .i64 k ∧ Hid (∀ r ∈ Q.take k, r.n.size ≤ 60000) ∧ w1 = wr) (fun _ i _ => ql - (intOf i).toNat)
  case atStart => exact ⟨0, 0, Nat.zero_le _, Nat.zero_le _, Nat.zero_le _, rfl, rfl, (fun r hr => by simp at hr), rfl⟩
  case round =>
    obtain ⟨k, S, hk, hk60, hS, rfl, rfl, hall, rfl⟩ := hrel
    by_cases hlt : k < ql ∧ k < 310
    · obtain ⟨l1, l2⟩ := hlt
      obtain ⟨b, o, r, rfl, hbl, hr, c0, _, _⟩ := HQ.out.at k l1
      have z1 := HQZ.out r (List.mem_of_getElem? hr)
      obtain ⟨rn, rt, rc⟩ := r
      replace c0 : w1.cell? ⟨b, o + k * 3, none⟩ = some (.string rn) := c0
      replace z1 : rn.size ≤ 9223372036854775807 := z1
      obtain ⟨v, hv, hv1, hv2⟩ := min60 rn
      have HN1 := Lib.hid (show S + v ≤ 60000 → ∀ r ∈ Q.take (k + 1), r.n.size ≤ 60000 from fun h r hr2 => by
        rw [List.take_add_one, hr] at hr2
        rcases List.mem_append.1 hr2 with h1 | h1
        · exact hall.out r h1
        · obtain rfl : r = ⟨rn, rt, rc⟩ := by simpa using h1
          exact hv2 (by omega))
      clear hr hv2
      have i1 : (0 : Int) ≤ (k : Int) := by omega
      have i2 : (k : Int) < (ql : Int) := by omega
      by_cases hov : 60000 < S + v
      · have d5 := dT (p := (60000 : Int) < (S : Int) + (v : Int)) (by omega)
        go_wp2
        go_ret
        exact ⟨Or.inl rfl, HB.out⟩
      · have d5 := dF (p := (60000 : Int) < (S : Int) + (v : Int)) (by omega)
        go_wp2
        go_roundw
        case rel => exact ⟨k + 1, S + v, by omega, by omega, by omega, by go_num, by go_num, HN1.out (by omega), trivial⟩
        case measure => simp [intOf]; omega
    · have hd : decide (k < ql) = false ∨ decide (k < ql) = true ∧ decide ((k : Int) < 310) = false := by
        simp only [decide_eq_true_eq, decide_eq_false_iff_not]; omega
      by_cases h6 : ql ≤ 310
      · have HF := Lib.hid (show ∀ r ∈ Q, r.n.size ≤ 60000 from fun r hr => by
          have h1 := hall.out r
          rw [show k = ql by omega, ← HQL.out, List.take_length] at h1
          exact h1 hr)
        obtain rfl : k = ql := by omega
        have e6 := dT (p := (k : Int) ≤ 310) (by omega)
        clear hd hlt hall
        go_wp2_with fail
        refine (few4 _ _ _ _ _ HA.out hnl HAZ.out).mono ?_; rintro e w2 ⟨he, m1, rfl⟩
        have HB2 := Lib.hid (below_drewN HB.out m1)
        have HC2 := Lib.hid (HC.out.below (below_drewN (Below.refl _ _) m1))
        have HN2 := Lib.hid (HN.out.below (below_drewN (Below.refl _ _) m1))
        have HX2 := Lib.hid (HX.out.below (below_drewN (Below.refl _ _) m1))
        obtain ⟨w2, hw2⟩ : ∃ x, w1.drewN m1 = x := ⟨_, rfl⟩
        rw [hw2] at HB2 HC2 HN2 HX2 ⊢
        clear hw2 y0 y1 y2 y3 y4 y5 y6 y7 y8 y9 y10 y11
        obtain ⟨y0, y1, y2, y3, y4, y5, y6, y7, y8, y9, y10, y11, _⟩ := HC2.out.u12
        rcases he with rfl | ⟨rfl, ha1, ha2⟩
        · go_wp2
          go_ret
          exact ⟨Or.inl rfl, HB2.out⟩
        have HA2 := Lib.hid ha2
        clear ha2
        go_wp2_with fail
        refine (few4 _ _ _ _ _ HN2.out hsl HNZ.out).mono ?_; rintro e w3 ⟨he, m2, rfl⟩
        have HB3 := Lib.hid (below_drewN HB2.out m2)
        have HC3 := Lib.hid (HC2.out.below (below_drewN (Below.refl _ _) m2))
        have HX3 := Lib.hid (HX2.out.below (below_drewN (Below.refl _ _) m2))
        obtain ⟨w3, hw3⟩ : ∃ x, w2.drewN m2 = x := ⟨_, rfl⟩
        rw [hw3] at HB3 HC3 HX3 ⊢
        clear hw3 y0 y1 y2 y3 y4 y5 y6 y7 y8 y9 y10 y11
        obtain ⟨y0, y1, y2, y3, y4, y5, y6, y7, y8, y9, y10, y11, _⟩ := HC3.out.u12
        rcases he with rfl | ⟨rfl, hb1, hb2⟩
        · go_wp2
          go_ret
          exact ⟨Or.inl rfl, HB3.out⟩
        have HN3 := Lib.hid hb2
        clear hb2
        go_wp2_with fail
        refine (few4 _ _ _ _ _ HX3.out hxl HXZ.out).mono ?_; rintro e w4 ⟨he, m3, rfl⟩
        have HB4 := Lib.hid (below_drewN HB3.out m3)
        obtain ⟨w4, hw4⟩ : ∃ x, w3.drewN m3 = x := ⟨_, rfl⟩
        rw [hw4] at HB4 ⊢
        clear hw4
        rcases he with rfl | ⟨rfl, hx1, hx2⟩
        · go_wp2
          go_ret
          exact ⟨Or.inl rfl, HB4.out⟩
        have HX4 := Lib.hid hx2
        clear hx2
        go_wp2
        go_ret
        refine ⟨?_, HB4.out⟩
        exact Or.inr ⟨rfl, ⟨h6, HF.out⟩, ⟨ha1, HA2.out⟩, ⟨hb1, HN3.out⟩, ⟨hx1, HX4.out⟩⟩
      · have e6 := dF (p := (ql : Int) ≤ 310) (by omega)
        rcases hd with d1 | ⟨d1, d2⟩
        all_goals
          go_wp2
          go_ret
          exact ⟨by first | exact Or.inl rfl | rfl, HB.out⟩
theorem few5_any (v : Value) (m : MsgP) (w : World) (h : MsgAt w v m) (hz : SzM m) :
    Calls Try.prog 36 #[v] w fun e w' => (e = .returned (.bool false) ∨ e = .returned (.bool true) ∧ SmallM m) ∧ Below w.heap.size w w' := by
  obtain ⟨qa, qc, na, nc, sa, sc, xa, xc, rfl, h1, h2, h3, h4⟩ := h
  exact few5_ex _ _ _ _ _ _ _ _ _ _ _ _ _ _ _ _ _ _ _ _ m.q m.a m.n m.x w h1.1 h2.1 h3.1 h4.1 hz.1.1 hz.1.2 hz.2.1.1 hz.2.1.2 hz.2.2.1.1 hz.2.2.1.2 hz.2.2.2.1 hz.2.2.2.2
/-- A question out of its cells' readings. -/
theorem open_qq {H : Type} {enc : TypeId × Value → H} {w : World} {base : Nat} {spare : Nat → Bool} {held : Bool} {fuel : Nat} {cs : List Value} {y : DataW H × List MemPlace} (hl : cs.length = 3) (h : DataW.trod enc Try.prog w base spare held fuel 71 cs = some y) : ∃ r : Ky, cs = encK r ∧ r.n.size ≤ 9223372036854775807 := by
  obtain ⟨c0, c1, c2, rfl⟩ : ∃ a b c, cs = [a, b, c] := by
    match cs, hl with
    | [a, b, c], _ => exact ⟨a, b, c, rfl⟩
  have hf := open_fields Try.underlying71 (by kernel_rfl) rfl h
  obtain ⟨_, _, h0⟩ := hf 0 _ _ rfl rfl
  obtain ⟨_, _, h1⟩ := hf 1 _ _ rfl rfl
  obtain ⟨_, _, h2⟩ := hf 2 _ _ rfl rfl
  obtain ⟨s0, e0, _, z0⟩ := DataW.trod_string Try.underlying9 h0
  obtain ⟨s1, e1, _, z1⟩ := DataW.trod_int Try.underlying3 h1
  obtain ⟨s2, e2, _, z2⟩ := DataW.trod_int Try.underlying3 h2
  obtain rfl : c0 = .string s0 := by simpa using e0
  obtain rfl : c1 = .int .i64 s1 := by simpa using e1
  obtain rfl : c2 = .int .i64 s2 := by simpa using e2
  unfold maxLen at z0
  exact ⟨⟨s0, s1, s2⟩, rfl, z0⟩
theorem open_rowsQ {H : Type} {enc : TypeId × Value → H} {w : World} {base : Nat} {held : Bool} {fuel : Nat} {a : Option Addr} {len cap : Nat} {x : DataW H × List MemPlace} (h : DataW.trod enc Try.prog w base (fun _ => true) held fuel 74 (Value.slice a len cap).cells.toList = some x) :
    ∃ l, RowQ w a len l ∧ (a = none → len = 0 ∧ cap = 0) ∧ len ≤ maxLen ∧ ∀ r ∈ l, r.n.size ≤ 9223372036854775807 := by
  have hc3 : Try.prog.cellsOf 71 = 3 := by kernel_rfl
  rcases open_slice Try.underlying74 h with ⟨hcs, _⟩ | ⟨a', len', cap', m, n, D, Pl, hcs, _, hl, hm, hmm, _, hi⟩
  · simp [Value.cells] at hcs
    obtain ⟨rfl, rfl, rfl⟩ := hcs
    exact ⟨[], ⟨rfl, ⟨rfl, Or.inl rfl⟩⟩, fun _ => ⟨rfl, rfl⟩, Nat.zero_le _, by simp⟩
  · simp [Value.cells] at hcs
    obtain ⟨rfl, rfl, rfl⟩ := hcs
    rw [hc3] at hi
    have hlm : len ≤ m := by
      rw [hmm]; split <;> omega
    have hr : ∀ i, i < len → ∃ r : Ky, r.n.size ≤ 9223372036854775807 ∧ ∀ j, j < 3 → w.cell? ((a'.add (i * 3)).add j) = (encK r)[j]? := fun i hil => by
      obtain ⟨cs', hc, ht⟩ := hi i (by omega)
      obtain ⟨_, hcl, hat⟩ := World.cells?_some hc
      obtain ⟨r, rfl, hz⟩ := open_qq hcl ht
      exact ⟨r, hz, fun j hj => hat j hj⟩
    obtain ⟨l, hll, hlp⟩ := list_choose _ len hr
    refine ⟨l, ⟨hll, by rw [flatQ_len, hll], ?_⟩, (fun h => by cases h), by omega, ?_⟩
    · by_cases h0 : len = 0
      · exact Or.inl (by rw [h0])
      right
      obtain ⟨b, off, spot⟩ := a'
      obtain ⟨r0, hr0⟩ : ∃ r, l[0]? = some r := ⟨_, List.getElem?_eq_getElem (by omega)⟩
      have hc0 := (hlp 0 r0 hr0).2 0 (by omega)
      have hc0' : w.cell? (((⟨b, off, spot⟩ : Addr).add (0 * 3)).add 0) = some (.string r0.n) := hc0
      have hspot : spot = none := by simpa [Addr.add] using World.cell?_spot hc0'
      subst hspot
      refine ⟨b, off, rfl, ?_, fun j u hj => ?_⟩
      · have := block_lt_of_cell hc0'
        simpa [Addr.add] using this
      · rw [flatQ, flatMap_get encK 3 encK_len (by omega)] at hj
        cases hr1 : l[j / 3]? with
        | none => rw [hr1] at hj; cases hj
        | some r =>
          rw [hr1] at hj
          have h1 := (hlp (j / 3) r hr1).2 (j % 3) (Nat.mod_lt _ (by omega))
          rw [Go.Deep.add_add, show j / 3 * 3 + j % 3 = j by omega] at h1
          rw [show (⟨b, off + j, none⟩ : Addr) = (⟨b, off, none⟩ : Addr).add j by simp only [Addr.add]; split <;> simp_all, h1]
          exact hj
    · intro r hr'
      obtain ⟨i, hi'⟩ := List.getElem?_of_mem hr'
      exact (hlp i r hi').1
theorem slice_shape {H : Type} {enc : TypeId × Value → H} {w : World} {base : Nat} {held : Bool} {fuel : Nat} {T E : TypeId} {c : Value} {x : DataW H × List MemPlace} (hu : Try.prog.underlying T = some (.slice E)) (h : DataW.trod enc Try.prog w base (fun _ => true) held fuel T [c] = some x) : ∃ a l k, c = .slice a l k := by
  rcases open_slice hu h with ⟨hcs, _⟩ | ⟨a, l, k, _, _, _, _, hcs, _⟩
  · exact ⟨none, 0, 0, by simpa using hcs⟩
  · exact ⟨some a, l, k, by simpa using hcs⟩
theorem open_hd {H : Type} {enc : TypeId × Value → H} {w : World} {base : Nat} {spare : Nat → Bool} {held : Bool} {fuel : Nat} {cs : List Value} {y : DataW H × List MemPlace} (hl : cs.length = 8) (h : DataW.trod enc Try.prog w base spare held fuel 73 cs = some y) : ∃ (i o r : Int) (b1 b2 b3 b4 b5 : Bool), cs = [.int .i64 i, .int .i64 o, .int .i64 r, .bool b1, .bool b2, .bool b3, .bool b4, .bool b5] := by
  obtain ⟨c0, c1, c2, c3, c4, c5, c6, c7, rfl⟩ : ∃ a b c d e f g h, cs = [a, b, c, d, e, f, g, h] := by
    match cs, hl with
    | [a, b, c, d, e, f, g, h], _ => exact ⟨a, b, c, d, e, f, g, h, rfl⟩
  have hf := open_fields Try.underlying73 (by kernel_rfl) rfl h
  obtain ⟨_, _, h0⟩ := hf 0 _ _ rfl rfl
  obtain ⟨_, _, h1⟩ := hf 1 _ _ rfl rfl
  obtain ⟨_, _, h2⟩ := hf 2 _ _ rfl rfl
  obtain ⟨_, _, h3⟩ := hf 3 _ _ rfl rfl
  obtain ⟨_, _, h4⟩ := hf 4 _ _ rfl rfl
  obtain ⟨_, _, h5⟩ := hf 5 _ _ rfl rfl
  obtain ⟨_, _, h6⟩ := hf 6 _ _ rfl rfl
  obtain ⟨_, _, h7⟩ := hf 7 _ _ rfl rfl
  obtain ⟨s0, e0, _, _⟩ := DataW.trod_int Try.underlying3 h0
  obtain ⟨s1, e1, _, _⟩ := DataW.trod_int Try.underlying3 h1
  obtain ⟨s2, e2, _, _⟩ := DataW.trod_int Try.underlying3 h2
  obtain ⟨s3, e3, _⟩ := DataW.trod_bool Try.underlying4 h3
  obtain ⟨s4, e4, _⟩ := DataW.trod_bool Try.underlying4 h4
  obtain ⟨s5, e5, _⟩ := DataW.trod_bool Try.underlying4 h5
  obtain ⟨s6, e6, _⟩ := DataW.trod_bool Try.underlying4 h6
  obtain ⟨s7, e7, _⟩ := DataW.trod_bool Try.underlying4 h7
  obtain rfl : c0 = .int .i64 s0 := by simpa using e0
  obtain rfl : c1 = .int .i64 s1 := by simpa using e1
  obtain rfl : c2 = .int .i64 s2 := by simpa using e2
  obtain rfl : c3 = .bool s3 := by simpa using e3
  obtain rfl : c4 = .bool s4 := by simpa using e4
  obtain rfl : c5 = .bool s5 := by simpa using e5
  obtain rfl : c6 = .bool s6 := by simpa using e6
  obtain rfl : c7 = .bool s7 := by simpa using e7
  exact ⟨s0, s1, s2, s3, s4, s5, s6, s7, rfl⟩
/-- A message out of its cells' readings. -/
theorem open_msgCells {H : Type} {enc : TypeId × Value → H} {w : World} {base : Nat} {held : Bool} {fuel : Nat} {cs : List Value} {y : DataW H × List MemPlace} (hl : cs.length = 12) (h : DataW.trod enc Try.prog w base (fun _ => true) held fuel 77 cs = some y) :
    ∃ m : MsgP, MsgAt w (.agg cs.toArray) m ∧ SzM m := by
  obtain ⟨c0, c1, c2, c3, c4, c5, c6, c7, c8, c9, c10, c11, rfl⟩ : ∃ c0 c1 c2 c3 c4 c5 c6 c7 c8 c9 c10 c11, cs = [c0, c1, c2, c3, c4, c5, c6, c7, c8, c9, c10, c11] := by
    match cs, hl with
    | [c0, c1, c2, c3, c4, c5, c6, c7, c8, c9, c10, c11], _ => exact ⟨c0, c1, c2, c3, c4, c5, c6, c7, c8, c9, c10, c11, rfl⟩
  have hcH : Try.prog.cellsOf 73 = 8 := by kernel_rfl
  have hcQ : Try.prog.cellsOf 74 = 1 := by kernel_rfl
  have hcR : Try.prog.cellsOf 75 = 1 := by kernel_rfl
  obtain ⟨xs, n, _, _, hcl, hlen, hg⟩ := DataW.trod_struct Try.underlying77 h
  have hlen : xs.length = 5 := hlen
  have f0 := hg 0 _ rfl
  have f1 := hg 1 _ rfl
  have f2 := hg 2 _ rfl
  have f3 := hg 3 _ rfl
  have f4 := hg 4 _ rfl
  have e0 : (([c0, c1, c2, c3, c4, c5, c6, c7, c8, c9, c10, c11] : List Value).drop 0).take (Try.prog.cellsOf 73) = [c0, c1, c2, c3, c4, c5, c6, c7] := by rw [hcH]; rfl
  have e1 : (([c0, c1, c2, c3, c4, c5, c6, c7, c8, c9, c10, c11] : List Value).drop 8).take (Try.prog.cellsOf 74) = [c8] := by rw [hcQ]; rfl
  have e2 : (([c0, c1, c2, c3, c4, c5, c6, c7, c8, c9, c10, c11] : List Value).drop 9).take (Try.prog.cellsOf 75) = [c9] := by rw [hcR]; rfl
  have e3 : (([c0, c1, c2, c3, c4, c5, c6, c7, c8, c9, c10, c11] : List Value).drop 10).take (Try.prog.cellsOf 75) = [c10] := by rw [hcR]; rfl
  have e4 : (([c0, c1, c2, c3, c4, c5, c6, c7, c8, c9, c10, c11] : List Value).drop 11).take (Try.prog.cellsOf 75) = [c11] := by rw [hcR]; rfl
  have g0 : DataW.trod enc Try.prog w base (fun _ => true) held n 73 [c0, c1, c2, c3, c4, c5, c6, c7] = xs[0]? := by rw [← e0]; exact f0
  have g1 : DataW.trod enc Try.prog w base (fun _ => true) held n 74 [c8] = xs[1]? := by rw [← e1]; exact f1
  have g2 : DataW.trod enc Try.prog w base (fun _ => true) held n 75 [c9] = xs[2]? := by rw [← e2]; exact f2
  have g3 : DataW.trod enc Try.prog w base (fun _ => true) held n 75 [c10] = xs[3]? := by rw [← e3]; exact f3
  have g4 : DataW.trod enc Try.prog w base (fun _ => true) held n 75 [c11] = xs[4]? := by rw [← e4]; exact f4
  rw [List.getElem?_eq_getElem (by omega)] at g0 g1 g2 g3 g4
  obtain ⟨i, o, r, b1, b2, b3, b4, b5, hh⟩ := open_hd rfl g0
  injection hh with e hh; subst e
  injection hh with e hh; subst e
  injection hh with e hh; subst e
  injection hh with e hh; subst e
  injection hh with e hh; subst e
  injection hh with e hh; subst e
  injection hh with e hh; subst e
  injection hh with e hh; subst e
  obtain ⟨qa, ql, qc, rfl⟩ := slice_shape Try.underlying74 g1
  obtain ⟨na, nl, nc, rfl⟩ := slice_shape Try.underlying75 g2
  obtain ⟨sa, sl, sc, rfl⟩ := slice_shape Try.underlying75 g3
  obtain ⟨xa, xl, xc, rfl⟩ := slice_shape Try.underlying75 g4
  obtain ⟨Q, q1, q2, q3, q4⟩ := open_rowsQ (a := qa) (len := ql) (cap := qc) (by simpa [Value.cells] using g1)
  obtain ⟨A, a1, a2, a3, a4⟩ := open_rowsR (a := na) (len := nl) (cap := nc) (by simpa [Value.cells] using g2)
  obtain ⟨N, n1, n2, n3, n4⟩ := open_rowsR (a := sa) (len := sl) (cap := sc) (by simpa [Value.cells] using g3)
  obtain ⟨X, x1, x2, x3, x4⟩ := open_rowsR (a := xa) (len := xl) (cap := xc) (by simpa [Value.cells] using g4)
  unfold maxLen at q3 a3 n3 x3
  have l1 := q1.1
  have l2 := a1.1
  have l3 := n1.1
  have l4 := x1.1
  subst l1 l2 l3 l4
  exact ⟨⟨i, o, r, b1, b2, b3, b4, b5, Q, A, N, X⟩, ⟨qa, qc, na, nc, sa, sc, xa, xc, rfl, ⟨q1, q2⟩, ⟨a1, a2⟩, ⟨n1, n2⟩, ⟨x1, x2⟩⟩, ⟨q3, q4⟩, ⟨a3, a4⟩, ⟨n3, n4⟩, ⟨x3, x4⟩⟩
set_option maxRecDepth 100000 in
theorem open_msgV {H : Type} {enc : TypeId × Value → H} {w : World} {base b0 : Nat} {held : Bool} {r : Reach} {v : Value} {d : DataW H} {p : List MemPlace} (hv : Value.okWide Try.prog w r b0 77 v) (h : DataW.Trod enc Try.prog w base (fun _ => true) held 77 v d p) :
    ∃ m : MsgP, MsgAt w v m ∧ SzM m := by
  obtain ⟨cs, rfl, hsz⟩ := okWide_struct Try.underlying77 hv
  obtain ⟨fuel, hf⟩ := h
  have hc5 : Try.prog.cellsOf 77 = 12 := by kernel_rfl
  obtain ⟨l⟩ := cs
  have hl : l.length = 12 := hsz.trans hc5
  exact open_msgCells hl (by simpa [Value.cells] using hf)
end Go.Proofs.Ythfnphcefkdgbaa
