/- Rows of the statement's calls (layer 20) as they lie; few. -/
import Derived.Test.YtocfphijheidbaaMsT
namespace Go.Proofs.Ytocfphijheidbaa
open Go.RowKit

structure O20 where
  kind : Int
  now : Int
  job : Int
  which : Int
  n : Int
  tx : ByteArray
  tcp : Bool
  q : QsP
  J : List Int
  k : MkP
  m : MsgP
def o20D : O20 := ⟨0, 0, 0, 0, 0, ⟨#[]⟩, false, ⟨⟨#[]⟩, 0, 0⟩, [], ⟨0, 0, ⟨#[]⟩, false⟩, ⟨0, 0, 0, false, false, false, false, false, [], [], [], []⟩⟩
/-- A call's cells, but for its message. -/
def o20L (o : O20) (ja : Option Addr) (jc : Nat) : List Value := [.int .i64 o.kind, .int .i64 o.now, .int .i64 o.job, .int .i64 o.which, .int .i64 o.n, .string o.tx, .bool o.tcp, .string o.q.name, .int .i64 o.q.ty, .int .i64 o.q.cl, .slice ja o.J.length jc, .int .i64 o.k.id, .int .i64 o.k.port, .string o.k.tx, .bool o.k.tcp]
/-- A message's cells. -/
def msgL (m : MsgP) (qa : Option Addr) (qc : Nat) (na : Option Addr) (nc : Nat) (sa : Option Addr) (sc : Nat) (xa : Option Addr) (xc : Nat) : List Value := [.int .i64 m.i, .int .i64 m.o, .int .i64 m.r, .bool m.b1, .bool m.b2, .bool m.b3, .bool m.b4, .bool m.b5, .slice qa m.q.length qc, .slice na m.a.length nc, .slice sa m.n.length sc, .slice xa m.x.length xc]
structure O20z (o : O20) : Prop where
  tx : o.tx.size ≤ 9223372036854775807
  qn : o.q.name.size ≤ 9223372036854775807
  jn : o.J.length ≤ 9223372036854775807
  mx : o.k.tx.size ≤ 9223372036854775807
  sz : SzM o.m
def Op20 (w : World) (b off j : Nat) (o : O20) : Prop := ∃ (ja : Option Addr) (jc : Nat) (qa : Option Addr) (qc : Nat) (na : Option Addr) (nc : Nat) (sa : Option Addr) (sc : Nat) (xa : Option Addr) (xc : Nat), w.rangeAt b (off + j * 27) (o20L o ja jc ++ msgL o.m qa qc na nc sa sc xa xc) ∧ Row w ja o.J.length o.J ∧ MsgAt w (.agg (msgL o.m qa qc na nc sa sc xa xc).toArray) o.m ∧ O20z o
def Row20 (w : World) (a : Option Addr) (n : Nat) (L : List O20) : Prop := L.length = n ∧ (n = 0 ∨ ∃ b off, a = some ⟨b, off, none⟩ ∧ b < w.heap.size ∧ ∀ j, j < n → Op20 w b off j (L.getD j o20D))
theorem Op20.below {w w' : World} {b off j : Nat} {o : O20} (h : Op20 w b off j o) (hb : Below w.heap.size w w') : Op20 w' b off j o := by
  obtain ⟨ja, jc, qa, qc, na, nc, sa, sc, xa, xc, h0, h1, h2, h3⟩ := h
  exact ⟨ja, jc, qa, qc, na, nc, sa, sc, xa, xc, fun j v hj => cell_later hb (h0 j v hj), h1.below hb, h2.below hb, h3⟩
theorem Row20.below {w w' : World} {a : Option Addr} {n : Nat} {L : List O20} (h : Row20 w a n L) (hb : Below w.heap.size w w') : Row20 w' a n L := by
  refine ⟨h.1, h.2.imp id ?_⟩
  rintro ⟨b, off, e, hlt, hc⟩
  exact ⟨b, off, e, Nat.lt_of_lt_of_le hlt hb.size, fun j hj => (hc j hj).below hb⟩
theorem Row20.at {w : World} {a : Option Addr} {n : Nat} {L : List O20} (h : Row20 w a n L) (j : Nat) (hj : j < n) : ∃ b off, a = some ⟨b, off, none⟩ ∧ Op20 w b off j (L.getD j o20D) := by
  rcases h.2 with h0 | ⟨b, off, e, _, hc⟩
  · omega
  · exact ⟨b, off, e, hc j hj⟩
set_option maxRecDepth 100000 in
set_option maxHeartbeats 4000000 in
theorem few20 (a : Option Addr) (n c : Nat) (L : List O20) (w : World) (h : Row20 w a n L) (hn : n ≤ 9223372036854775807) :
    Calls Try.prog 40 #[.slice a n c] w fun e w' => (e = .returned (.bool false) ∨ e = .returned (.bool true) ∧ n ≤ 100 ∧ ∀ j, j < n → (L.getD j o20D).J.length ≤ 100) ∧ Below w.heap.size w w' := by
  have HR := Lib.hid h
  clear h
  go_enter Try.func40, Try.ntmps40
  go_wp2_with fail
  go_loopw [3] (fun i wr => ∃ k : Nat, k ≤ n ∧ k ≤ 100 ∧ i = .int .i64 k ∧ Hid (∀ j, j < k → (L.getD j o20D).J.length ≤ 100) ∧ Hid (Below w.heap.size w wr)) (fun i _ => n - (intOf i).toNat)
  case atStart => exact ⟨0, Nat.zero_le _, Nat.zero_le _, rfl, Lib.hid (fun j hj => by omega), Lib.hid (Below.refl _ _)⟩
  case round =>
    obtain ⟨k, hk, hk60, rfl, HS, HB⟩ := hrel
    by_cases hlt : k < n ∧ k < 100
    · obtain ⟨l1, l2⟩ := hlt
      obtain ⟨b, off, rfl, h9⟩ := (HR.out.below HB.out).at k l1
      obtain ⟨o, ho⟩ : ∃ z, L.getD k o20D = z := ⟨_, rfl⟩
      rw [ho] at h9
      obtain ⟨ja, jc, qa, qc, na, nc, sa, sc, xa, xc, h0, h1, h2, h3⟩ := h9
      have HO := Lib.hid ho
      have HM := Lib.hid (show MsgAt wr (.agg #[.int .i64 o.m.i, .int .i64 o.m.o, .int .i64 o.m.r, .bool o.m.b1, .bool o.m.b2, .bool o.m.b3, .bool o.m.b4, .bool o.m.b5, .slice qa o.m.q.length qc, .slice na o.m.a.length nc, .slice sa o.m.n.length sc, .slice xa o.m.x.length xc]) o.m from h2)
      have HZ := Lib.hid h3
      have c5 := h0 5 _ rfl
      have c7 := h0 7 _ rfl
      have c10 := h0 10 _ rfl
      have c13 := h0 13 _ rfl
      have HRG := Lib.hid (show wr.rangeAt b (off + k * 27 + 15) (msgL o.m qa qc na nc sa sc xa xc) from fun j v hj => by
        rw [Nat.add_assoc (off + k * 27) 15 j]
        exact h0 (15 + j) v (by rw [List.getElem?_append_right (by show 15 ≤ 15 + j; omega)]; show (msgL o.m qa qc na nc sa sc xa xc)[15 + j - 15]? = _; rw [Nat.add_sub_cancel_left]; exact hj))
      clear h0 h1 h2 h3 ho
      have i1 : (0 : Int) ≤ (k : Int) := by omega
      have i2 : (k : Int) < (n : Int) := by omega
      have d1 : decide (k < n) = true := dT l1
      have d2 : decide ((k : Int) < 100) = true := dT (by omega)
      go_upto_region 4 with (fail)
      have z5 := HZ.out.tx
      have z7 := HZ.out.qn
      have z10 := HZ.out.jn
      have z13 := HZ.out.mx
      replace c5 : wr.cell? ⟨b, off + k * 27 + 5, none⟩ = some (.string o.tx) := c5
      replace c7 : wr.cell? ⟨b, off + k * 27 + 7, none⟩ = some (.string o.q.name) := c7
      replace c10 : wr.cell? ⟨b, off + k * 27 + 10, none⟩ = some (.slice ja o.J.length jc) := c10
      replace c13 : wr.cell? ⟨b, off + k * 27 + 13, none⟩ = some (.string o.k.tx) := c13
      by_cases h5 : 1000 < o.tx.size
      · have d5 : decide ((1000 : Int) < (o.tx.size : Int)) = true := dT (by omega)
        go_wp2
        go_ret
        exact ⟨Or.inl rfl, HB.out⟩
      have d5 : decide ((1000 : Int) < (o.tx.size : Int)) = false := dF (by omega)
      by_cases h7 : 1000 < o.q.name.size
      · have d7 : decide ((1000 : Int) < (o.q.name.size : Int)) = true := dT (by omega)
        go_wp2
        go_ret
        exact ⟨Or.inl rfl, HB.out⟩
      have d7 : decide ((1000 : Int) < (o.q.name.size : Int)) = false := dF (by omega)
      by_cases h10 : 100 < o.J.length
      · have d10 : decide ((100 : Int) < (o.J.length : Int)) = true := dT (by omega)
        go_wp2
        go_ret
        exact ⟨Or.inl rfl, HB.out⟩
      have d10 : decide ((100 : Int) < (o.J.length : Int)) = false := dF (by omega)
      have HJ := Lib.hid (show o.J.length ≤ 100 by omega)
      clear h5 h7 h10
      have hrg := HRG.out
      have m0 : wr.cell? ⟨b, off + k * 27 + 15, none⟩ = some (.int .i64 o.m.i) := hrg 0 _ rfl
      have m1 : wr.cell? ⟨b, off + k * 27 + 15 + 1, none⟩ = some (.int .i64 o.m.o) := hrg 1 _ rfl
      have m2 : wr.cell? ⟨b, off + k * 27 + 15 + 2, none⟩ = some (.int .i64 o.m.r) := hrg 2 _ rfl
      have m3 : wr.cell? ⟨b, off + k * 27 + 15 + 3, none⟩ = some (.bool o.m.b1) := hrg 3 _ rfl
      have m4 : wr.cell? ⟨b, off + k * 27 + 15 + 4, none⟩ = some (.bool o.m.b2) := hrg 4 _ rfl
      have m5 : wr.cell? ⟨b, off + k * 27 + 15 + 5, none⟩ = some (.bool o.m.b3) := hrg 5 _ rfl
      have m6 : wr.cell? ⟨b, off + k * 27 + 15 + 6, none⟩ = some (.bool o.m.b4) := hrg 6 _ rfl
      have m7 : wr.cell? ⟨b, off + k * 27 + 15 + 7, none⟩ = some (.bool o.m.b5) := hrg 7 _ rfl
      have m8 : wr.cell? ⟨b, off + k * 27 + 15 + 8, none⟩ = some (.slice qa o.m.q.length qc) := hrg 8 _ rfl
      have m9 : wr.cell? ⟨b, off + k * 27 + 15 + 9, none⟩ = some (.slice na o.m.a.length nc) := hrg 9 _ rfl
      have m10 : wr.cell? ⟨b, off + k * 27 + 15 + 10, none⟩ = some (.slice sa o.m.n.length sc) := hrg 10 _ rfl
      have m11 : wr.cell? ⟨b, off + k * 27 + 15 + 11, none⟩ = some (.slice xa o.m.x.length xc) := hrg 11 _ rfl
      clear hrg
      go_wp2_with fail
      clear m0 m1 m2 m3 m4 m5 m6 m7 m8 m9 m10 m11
      refine (few5_any _ o.m wr HM.out HZ.out.sz).mono ?_; rintro e w2 ⟨he, hb2⟩
      have HB2 := Lib.hid (HB.out.trans (hb2.mono HB.out.size))
      have hc13 := cell_later hb2 c13
      clear c5 c7 c10 c13 hb2 HRG HM
      have c13 := hc13
      clear hc13
      rcases he with rfl | ⟨rfl, -⟩
      · go_wp2
        go_ret
        exact ⟨Or.inl rfl, HB2.out⟩
      by_cases h13 : 1000 < o.k.tx.size
      · have d13 : decide ((1000 : Int) < (o.k.tx.size : Int)) = true := dT (by omega)
        go_wp2
        go_ret
        exact ⟨Or.inl rfl, HB2.out⟩
      have d13 : decide ((1000 : Int) < (o.k.tx.size : Int)) = false := dF (by omega)
      go_wp2
      go_roundw
      case rel => exact ⟨k + 1, by omega, by omega, by go_num, Lib.hid (fun j hj => by
        rcases Nat.lt_succ_iff_lt_or_eq.1 hj with h | rfl
        · exact HS.out j h
        · rw [HO.out]; exact HJ.out), HB2⟩
      case measure => simp [intOf]; omega
    · have hd : decide (k < n) = false ∨ decide (k < n) = true ∧ decide ((k : Int) < 100) = false := by
        simp only [decide_eq_true_eq, decide_eq_false_iff_not]; omega
      by_cases h6 : n ≤ 100
      · have e6 : decide ((n : Int) ≤ 100) = true := dT (by omega)
        have HF := Lib.hid (show ∀ j, j < n → (L.getD j o20D).J.length ≤ 100 from fun j hj => HS.out j (by omega))
        rcases hd with d1 | ⟨d1, d2⟩
        all_goals
          go_wp2
          go_ret
          exact ⟨Or.inr ⟨rfl, h6, HF.out⟩, HB.out⟩
      · have e6 : decide ((n : Int) ≤ 100) = false := dF (by omega)
        rcases hd with d1 | ⟨d1, d2⟩
        all_goals
          go_wp2
          go_ret
          exact ⟨Or.inl rfl, HB.out⟩
end Go.Proofs.Ytocfphijheidbaa
