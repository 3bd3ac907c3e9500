/- May a set be: the code's answer. -/
import Derived.Test.YtfopfplpfhncfaaRFi
import Derived.Test.YtfopfplpfhncfaaSBk
import Derived.Test.YtfopfplpfhncfaaMgC
namespace Go.Proofs.Ytfopfplpfhncfaa
open Go.RowKit

/-- The first k data are in order, and may be. -/
def GoodD (n : ByteArray) (t c u : Int) (d : List ByteArray) (k : Nat) : Prop := ∀ j, j < k → (0 < j → cmpB (d.getD (j - 1) ByteArray.empty) (d.getD j ByteArray.empty) < 0) ∧ mayR n t c u (d.getD j ByteArray.empty) = true
def MayP (s : SetP) : Prop := 0 < s.data.length ∧ GoodD s.k.n s.k.t s.k.c s.ttl s.data s.data.length
theorem may_next {n : ByteArray} {t c u : Int} {d : List ByteArray} {k : Nat} (h : GoodD n t c u d k) (h1 : 0 < k → cmpB (d.getD (k - 1) ByteArray.empty) (d.getD k ByteArray.empty) < 0) (h2 : mayR n t c u (d.getD k ByteArray.empty) = true) : GoodD n t c u d (k + 1) := by
  intro j hj
  by_cases e : j = k
  · subst e; exact ⟨h1, h2⟩
  · exact h j (by omega)
theorem may_not {n : ByteArray} {t c u : Int} {d : List ByteArray} {k : Nat} (hk : k < d.length) (h : (0 < k ∧ ¬ cmpB (d.getD (k - 1) ByteArray.empty) (d.getD k ByteArray.empty) < 0) ∨ mayR n t c u (d.getD k ByteArray.empty) = false) : ¬ MayP ⟨⟨n, t, c⟩, u, d⟩ := by
  rintro ⟨_, h2⟩
  obtain ⟨h3, h4⟩ := h2 k hk
  rcases h with ⟨h0, h5⟩ | h5
  · exact h5 (h3 h0)
  · rw [h4] at h5; cases h5

set_option maxRecDepth 100000 in
set_option maxHeartbeats 1600000 in
theorem maySet_any (n : ByteArray) (t c u : Int) (d : List ByteArray) (a : Option Addr) (dn dc : Nat) (w : World) (h : RowS w a dn d) (hl : dn ≤ 100000) (hn : n.size ≤ 1000000) (hd : ∀ j, j < dn → (d.getD j ByteArray.empty).size ≤ 1000000) : Calls Try.prog 21 #[.agg #[.string n, .int .i64 t, .int .i64 c, .int .i64 u, .slice a dn dc]] w fun e w' => (∃ x : Bool, e = .returned (.bool x) ∧ (x = true ↔ MayP ⟨⟨n, t, c⟩, u, d⟩)) ∧ Below w.heap.size w w' := by
  have h1 := (Below.refl w.heap.size w).alloc (Nat.le_refl _) (.cells #[.string n, .int .i64 t, .int .i64 c, .int .i64 u, .slice a dn dc] 32)
  have C1 := Lib.hid (c5_new w (.string n) (.int .i64 t) (.int .i64 c) (.int .i64 u) (.slice a dn dc) 32)
  have HB1 := Lib.hid h1
  have HR := Lib.hid h
  have HDL := Lib.hid h.1
  have HD := Lib.hid hd
  clear h1 h hd
  go_enter Try.func21, Try.ntmps21
  obtain ⟨w1, hw1⟩ : ∃ x, w.alloc (.cells #[.string n, .int .i64 t, .int .i64 c, .int .i64 u, .slice a dn dc] 32) = x := ⟨_, rfl⟩
  obtain ⟨q, hq⟩ : ∃ x, w.heap.size = x := ⟨_, rfl⟩
  rw [hw1] at C1 HB1
  have C1' : C5 w1 q (.string n) (.int .i64 t) (.int .i64 c) (.int .i64 u) (.slice a dn dc) := by rw [← hq]; exact C1.out
  have HW1 := Lib.hid hw1
  have HQ := Lib.hid hq
  have HC := Lib.hid C1'
  clear hw1 hq C1' C1
  go_wp2_with fail
  rw [HW1.out]
  rw [show (Value.pointer (some { block := w.heap.size, off := 0 })) = Value.pointer (some { block := q, off := 0 }) by rw [HQ.out]]
  rw [show (Value.pointer (some { block := w.heap.size, off := 4 })) = Value.pointer (some { block := q, off := 4 }) by rw [HQ.out]]
  go_loopw [8] (fun i wr => ∃ k : Nat, k ≤ dn ∧ i = .int .i64 k ∧ Hid (GoodD n t c u d k) ∧ Hid (Below w.heap.size w wr) ∧ Hid (Below w1.heap.size w1 wr)) (fun i _ => dn - (intOf i).toNat)
  case atStart => exact ⟨0, Nat.zero_le _, rfl, (fun j hj => absurd hj (by omega)), HB1, Below.refl _ _⟩
  case round =>
    obtain ⟨k, hk, rfl, HGD, hbw, HBX⟩ := hrel
    have hbx : Below w1.heap.size w1 wr := HBX.out
    obtain ⟨hqs, p0, p1, p2, p3, p4, _⟩ := HC.out.below hbx
    by_cases hlt : k < dn
    · rcases (HR.out.below hbw.out).2 with h9 | ⟨b, o, rfl, hbl, hc⟩
      · omega
      have e0 := hc k hlt
      have hx1s := HD.out k hlt
      obtain ⟨x1, hx1⟩ : ∃ x, d.getD k ByteArray.empty = x := ⟨_, rfl⟩
      rw [hx1] at e0 hx1s
      have HX1 := Lib.hid hx1
      by_cases hk0 : k = 0
      · have HORD := Lib.hid (show 0 < k → cmpB (d.getD (k - 1) ByteArray.empty) (d.getD k ByteArray.empty) < 0 from fun h => absurd h (by omega))
        have d3 : decide (0 < k) = false := dF (by omega)
        have d4 : decide ((0 : Int) < (k : Int)) = false := dF (by omega)
        clear hc hx1 hk0
        go_wp2_with fail
        refine (record_any n t c u _ _ _ _ x1 _ rfl).mono ?_; rintro e w2 ⟨rfl, hb⟩
        have HB2 := Lib.hid (hbw.out.trans (hb.mono hbw.out.size))
        have HX2 := Lib.hid (hbx.trans (hb.mono hbx.size))
        clear hb p0 p1 p2 p3 p4 e0
        go_wp2_with fail
        refine (mayRR_any n t c u x1 _ hn hx1s).mono ?_; rintro e w3 ⟨rfl, hb⟩
        have HB3 := Lib.hid (HB2.out.trans (hb.mono HB2.out.size))
        have HX3 := Lib.hid (HX2.out.trans (hb.mono HX2.out.size))
        clear hb
        cases hy : mayR n t c u x1 with
        | true =>
          have HN := Lib.hid (may_next HGD.out HORD.out (show mayR n t c u (d.getD k ByteArray.empty) = true by rw [HX1.out]; exact hy))
          clear hy
          go_wp2
          go_roundw
          case rel => exact ⟨k + 1, by omega, by go_num, HN, HB3, HX3⟩
          case measure => simp [intOf]; omega
        | false =>
          have HF := Lib.hid (may_not (n := n) (t := t) (c := c) (u := u) (d := d) (k := k) (by rw [HDL.out]; exact hlt) (Or.inr (show mayR n t c u (d.getD k ByteArray.empty) = false by rw [HX1.out]; exact hy)))
          clear hy
          go_wp2
          go_ret
          exact ⟨⟨false, rfl, ⟨(fun h => by cases h), fun h => absurd h HF.out⟩⟩, HB3.out⟩
      · obtain ⟨k0, hk1⟩ : ∃ k0, k = k0 + 1 := ⟨k - 1, by omega⟩
        have y0 := hc k0 (by omega)
        obtain ⟨x0, hx0⟩ : ∃ x, d.getD k0 ByteArray.empty = x := ⟨_, rfl⟩
        rw [hx0] at y0
        have i6 : k0 < dn := by omega
        have i1 : (k0 : Int) < (dn : Int) := by omega
        have i3 : (k : Int) - 1 = (k0 : Int) := by omega
        have i5 : IntKind.i64.wrap ((k : Int) - 1) = (k0 : Int) := by rw [IntKind.wrap_i64]; omega
        have i7 : IntKind.i64.wrap (k0 : Int) = (k0 : Int) := by rw [IntKind.wrap_i64]; omega
        have hix := ix_st b o dn dc k0 i6
        have d3 : decide (0 < k) = true := dT (by omega)
        have d4 : decide ((0 : Int) < (k : Int)) = true := dT (by omega)
        by_cases hcm : cmpB x0 x1 < 0
        · have HORD := Lib.hid (show 0 < k → cmpB (d.getD (k - 1) ByteArray.empty) (d.getD k ByteArray.empty) < 0 from fun _ => by
            rw [hk1, Nat.add_sub_cancel, ← hk1, hx0, hx1]; exact hcm)
          have g1 := (less_of_cmp hcm).1
          have HK1 := Lib.hid hk1
          clear hc hx1 hx0 hk0 hk1 hcm
          go_wp2_with fail
          refine (record_any n t c u _ _ _ _ x1 _ rfl).mono ?_; rintro e w2 ⟨rfl, hb⟩
          have HB2 := Lib.hid (hbw.out.trans (hb.mono hbw.out.size))
          have HX2 := Lib.hid (hbx.trans (hb.mono hbx.size))
          clear hb p0 p1 p2 p3 p4 e0 y0
          go_wp2_with fail
          refine (mayRR_any n t c u x1 _ hn hx1s).mono ?_; rintro e w3 ⟨rfl, hb⟩
          have HB3 := Lib.hid (HB2.out.trans (hb.mono HB2.out.size))
          have HX3 := Lib.hid (HX2.out.trans (hb.mono HX2.out.size))
          clear hb
          cases hy : mayR n t c u x1 with
          | true =>
            have HN := Lib.hid (may_next HGD.out HORD.out (show mayR n t c u (d.getD k ByteArray.empty) = true by rw [HX1.out]; exact hy))
            clear hy
            go_wp2
            go_roundw
            case rel => exact ⟨k + 1, by omega, by go_num, HN, HB3, HX3⟩
            case measure => simp [intOf]; omega
          | false =>
            have HF := Lib.hid (may_not (n := n) (t := t) (c := c) (u := u) (d := d) (k := k) (by rw [HDL.out]; exact hlt) (Or.inr (show mayR n t c u (d.getD k ByteArray.empty) = false by rw [HX1.out]; exact hy)))
            clear hy
            go_wp2
            go_ret
            exact ⟨⟨false, rfl, ⟨(fun h => by cases h), fun h => absurd h HF.out⟩⟩, HB3.out⟩
        · have g1 : Op.bytesLess x0.toList x1.toList = false := by
            rw [bytesLess_cmp, Lib.toList_data, Lib.toList_data]; exact dF hcm
          have HF := Lib.hid (may_not (n := n) (t := t) (c := c) (u := u) (d := d) (k := k) (by rw [HDL.out]; exact hlt) (Or.inl ⟨by omega, by rw [hk1, Nat.add_sub_cancel, ← hk1, hx0, hx1]; exact hcm⟩))
          have HK1 := Lib.hid hk1
          clear hc hx1 hx0 hk0 hk1 hcm
          go_wp2
          go_ret
          exact ⟨⟨false, rfl, ⟨(fun h => by cases h), fun h => absurd h HF.out⟩⟩, hbw.out⟩
    · have hkn : k = dn := by omega
      subst hkn
      by_cases hz : 0 < k
      · have HF := Lib.hid (show MayP ⟨⟨n, t, c⟩, u, d⟩ from ⟨by show 0 < d.length; rw [HDL.out]; exact hz, by show GoodD n t c u d d.length; rw [HDL.out]; exact HGD.out⟩)
        have d5 : decide ((0 : Int) < (k : Int)) = true := dT (by omega)
        have d6 : decide (0 < k) = true := dT (by omega)
        go_wp2
        go_ret
        exact ⟨⟨true, rfl, ⟨fun _ => HF.out, fun _ => rfl⟩⟩, hbw.out⟩
      · have HF := Lib.hid (show ¬ MayP ⟨⟨n, t, c⟩, u, d⟩ from fun h => by
          have h1 : 0 < d.length := h.1
          rw [HDL.out] at h1; exact hz h1)
        have d5 : decide ((0 : Int) < (k : Int)) = false := dF (by omega)
        have d6 : decide (0 < k) = false := dF (by omega)
        go_wp2
        go_ret
        exact ⟨⟨false, rfl, ⟨(fun h => by cases h), fun h => absurd h HF.out⟩⟩, hbw.out⟩
end Go.Proofs.Ytfopfplpfhncfaa
