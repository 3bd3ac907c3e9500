/- The order of Group's records: contract. -/
import Derived.Test.YtgdhbelcellabaaKey
namespace Go.Proofs.Ytgdhbelcellabaa
open Go.RowKit

def RRAt5 (w : World) (q : Nat) (r : R5) : Prop := q < w.heap.size ∧ w.cell? ⟨q, 0, none⟩ = some (.string r.k.n) ∧ w.cell? ⟨q, 1, none⟩ = some (.int .i64 r.k.t) ∧ w.cell? ⟨q, 2, none⟩ = some (.int .i64 r.k.c) ∧ w.cell? ⟨q, 3, none⟩ = some (.int .i64 r.ttl) ∧ w.cell? ⟨q, 4, none⟩ = some (.string r.d)
theorem RRAt5.below {w w' : World} {q : Nat} {r : R5} (h : RRAt5 w q r) (hb : Below w.heap.size w w') : RRAt5 w' q r := by
  obtain ⟨h0, h1, h2, h3, h4, h5⟩ := h
  exact ⟨Nat.lt_of_lt_of_le h0 hb.size, (hb.cell h0).trans h1, (hb.cell h0).trans h2, (hb.cell h0).trans h3, (hb.cell h0).trans h4, (hb.cell h0).trans h5⟩
theorem rrAt5_new (w : World) (r : R5) (T : TypeId) : RRAt5 (w.alloc (.cells #[.string r.k.n, .int .i64 r.k.t, .int .i64 r.k.c, .int .i64 r.ttl, .string r.d] T)) w.heap.size r := ⟨by simp, by simp [World.cell?_alloc_at], by simp [World.cell?_alloc_at], by simp [World.cell?_alloc_at], by simp [World.cell?_alloc_at], by simp [World.cell?_alloc_at]⟩
theorem keyOf' (n : ByteArray) (t c u : Int) (d : ByteArray) (w : World) : Calls Try.prog 18 #[.agg #[.string n, .int .i64 t, .int .i64 c, .int .i64 u, .string d]] w fun e w' => e = .returned (.agg #[.string n, .int .i64 t, .int .i64 c]) ∧ BelD w.heap.size w w' := keyOf_any ⟨⟨n, t, c⟩, u, d⟩ w
theorem kcompare' (an : ByteArray) (at1 ac : Int) (bn : ByteArray) (bt bk : Int) (w : World) (ha : an.size ≤ 1000000) (hb : bn.size ≤ 1000000) : Calls Try.prog 32 #[.agg #[.string an, .int .i64 at1, .int .i64 ac], .agg #[.string bn, .int .i64 bt, .int .i64 bk]] w fun e w' => e = .returned (.int .i64 (kcmp ⟨an, at1, ac⟩ ⟨bn, bt, bk⟩)) ∧ BelD w.heap.size w w' := kcompare_any ⟨an, at1, ac⟩ ⟨bn, bt, bk⟩ w ha hb
def RP (w : World) (q1 q2 : Nat) (a b : R5) (wx : World) : Prop := BelD w.heap.size w wx ∧ RRAt5 wx q1 a ∧ RRAt5 wx q2 b
theorem RP.shown {w wx : World} {q1 q2 : Nat} {a b : R5} (h : RP w q1 q2 a b wx) : Hid (RP w q1 q2 a b wx) ∧ wx.cell? ⟨q1, 0, none⟩ = some (.string a.k.n) ∧ wx.cell? ⟨q1, 1, none⟩ = some (.int .i64 a.k.t) ∧ wx.cell? ⟨q1, 2, none⟩ = some (.int .i64 a.k.c) ∧ wx.cell? ⟨q1, 3, none⟩ = some (.int .i64 a.ttl) ∧ wx.cell? ⟨q1, 4, none⟩ = some (.string a.d) ∧ wx.cell? ⟨q2, 0, none⟩ = some (.string b.k.n) ∧ wx.cell? ⟨q2, 1, none⟩ = some (.int .i64 b.k.t) ∧ wx.cell? ⟨q2, 2, none⟩ = some (.int .i64 b.k.c) ∧ wx.cell? ⟨q2, 3, none⟩ = some (.int .i64 b.ttl) ∧ wx.cell? ⟨q2, 4, none⟩ = some (.string b.d) := by
  have h' := Lib.hid h
  obtain ⟨_, ⟨_, h1, h2, h3, h4, h5⟩, ⟨_, g1, g2, g3, g4, g5⟩⟩ := h
  exact ⟨h', h1, h2, h3, h4, h5, g1, g2, g3, g4, g5⟩
theorem RP.next {w wx wy : World} {q1 q2 : Nat} {a b : R5} (hb : BelD wx.heap.size wx wy) (h : Hid (RP w q1 q2 a b wx) ∧ wx.cell? ⟨q1, 0, none⟩ = some (.string a.k.n) ∧ wx.cell? ⟨q1, 1, none⟩ = some (.int .i64 a.k.t) ∧ wx.cell? ⟨q1, 2, none⟩ = some (.int .i64 a.k.c) ∧ wx.cell? ⟨q1, 3, none⟩ = some (.int .i64 a.ttl) ∧ wx.cell? ⟨q1, 4, none⟩ = some (.string a.d) ∧ wx.cell? ⟨q2, 0, none⟩ = some (.string b.k.n) ∧ wx.cell? ⟨q2, 1, none⟩ = some (.int .i64 b.k.t) ∧ wx.cell? ⟨q2, 2, none⟩ = some (.int .i64 b.k.c) ∧ wx.cell? ⟨q2, 3, none⟩ = some (.int .i64 b.ttl) ∧ wx.cell? ⟨q2, 4, none⟩ = some (.string b.d)) : Hid (RP w q1 q2 a b wy) ∧ wy.cell? ⟨q1, 0, none⟩ = some (.string a.k.n) ∧ wy.cell? ⟨q1, 1, none⟩ = some (.int .i64 a.k.t) ∧ wy.cell? ⟨q1, 2, none⟩ = some (.int .i64 a.k.c) ∧ wy.cell? ⟨q1, 3, none⟩ = some (.int .i64 a.ttl) ∧ wy.cell? ⟨q1, 4, none⟩ = some (.string a.d) ∧ wy.cell? ⟨q2, 0, none⟩ = some (.string b.k.n) ∧ wy.cell? ⟨q2, 1, none⟩ = some (.int .i64 b.k.t) ∧ wy.cell? ⟨q2, 2, none⟩ = some (.int .i64 b.k.c) ∧ wy.cell? ⟨q2, 3, none⟩ = some (.int .i64 b.ttl) ∧ wy.cell? ⟨q2, 4, none⟩ = some (.string b.d) :=
  have h0 := h.1.out
  RP.shown ⟨h0.1.trans (hb.mono h0.1.size), h0.2.1.below hb.b, h0.2.2.below hb.b⟩
theorem RP.get {w wx : World} {q1 q2 : Nat} {a b : R5} (h : Hid (RP w q1 q2 a b wx) ∧ wx.cell? ⟨q1, 0, none⟩ = some (.string a.k.n) ∧ wx.cell? ⟨q1, 1, none⟩ = some (.int .i64 a.k.t) ∧ wx.cell? ⟨q1, 2, none⟩ = some (.int .i64 a.k.c) ∧ wx.cell? ⟨q1, 3, none⟩ = some (.int .i64 a.ttl) ∧ wx.cell? ⟨q1, 4, none⟩ = some (.string a.d) ∧ wx.cell? ⟨q2, 0, none⟩ = some (.string b.k.n) ∧ wx.cell? ⟨q2, 1, none⟩ = some (.int .i64 b.k.t) ∧ wx.cell? ⟨q2, 2, none⟩ = some (.int .i64 b.k.c) ∧ wx.cell? ⟨q2, 3, none⟩ = some (.int .i64 b.ttl) ∧ wx.cell? ⟨q2, 4, none⟩ = some (.string b.d)) : BelD w.heap.size w wx := h.1.out.1

set_option maxRecDepth 100000 in
set_option maxHeartbeats 4000000 in
theorem rcompare5 (a b : R5) (w : World) (ha : a.k.n.size ≤ 1000000) (hb : b.k.n.size ≤ 1000000) : Calls Try.prog 71 #[.agg #[.string a.k.n, .int .i64 a.k.t, .int .i64 a.k.c, .int .i64 a.ttl, .string a.d], .agg #[.string b.k.n, .int .i64 b.k.t, .int .i64 b.k.c, .int .i64 b.ttl, .string b.d]] w fun e w' => e = .returned (.int .i64 (rcmp a b)) ∧ BelD w.heap.size w w' := by
  obtain ⟨⟨an, at1, ac⟩, au, ad⟩ := a
  obtain ⟨⟨bn, bt, bk⟩, bu, bd⟩ := b
  have HV := Lib.hid (show rcmp ⟨⟨an, at1, ac⟩, au, ad⟩ ⟨⟨bn, bt, bk⟩, bu, bd⟩ = orI [kcmp ⟨an, at1, ac⟩ ⟨bn, bt, bk⟩, cmpB ad bd] from rfl)
  have HC := Lib.hid (fun wx => kcompare' an at1 ac bn bt bk wx ha hb)
  have HS := Lib.hid (show ∀ wx, Calls Try.prog 72 #[.string ad, .string bd] wx fun e w' => e = .returned (.int .i64 (cmpB ad bd)) ∧ w' = wx from fun wx => scompare_any ad bd wx)
  have HK1 := Lib.hid (fun wx => keyOf' an at1 ac au ad wx)
  have HK2 := Lib.hid (fun wx => keyOf' bn bt bk bu bd wx)
  obtain ⟨v1, hv1⟩ : ∃ x, kcmp ⟨an, at1, ac⟩ ⟨bn, bt, bk⟩ = x := ⟨_, rfl⟩
  obtain ⟨v2, hv2⟩ : ∃ x, cmpB ad bd = x := ⟨_, rfl⟩
  rw [hv1, hv2] at HV
  rw [hv1] at HC
  rw [hv2] at HS
  clear hv1 hv2 ha hb
  have hK0 : RP w w.heap.size (w.heap.size + 1) ⟨⟨an, at1, ac⟩, au, ad⟩ ⟨⟨bn, bt, bk⟩, bu, bd⟩ ((w.alloc (.cells #[.string an, .int .i64 at1, .int .i64 ac, .int .i64 au, .string ad] 45)).alloc (.cells #[.string bn, .int .i64 bt, .int .i64 bk, .int .i64 bu, .string bd] 45)) := by
    refine ⟨((BelD.refl _ _).alloc (Nat.le_refl _) _).alloc (by simp) _, (rrAt5_new w ⟨⟨an, at1, ac⟩, au, ad⟩ _).below ((Below.refl _ _).alloc (Nat.le_refl _) _), ?_⟩
    have h := rrAt5_new (w.alloc (.cells #[.string an, .int .i64 at1, .int .i64 ac, .int .i64 au, .string ad] 45)) ⟨⟨bn, bt, bk⟩, bu, bd⟩ 45
    rw [World.size_alloc] at h
    exact h
  go_enter Try.func71, Try.ntmps71
  go_wp2_with fail
  obtain ⟨w2, hw2⟩ : ∃ x, ((w.alloc (.cells #[.string an, .int .i64 at1, .int .i64 ac, .int .i64 au, .string ad] 45)).alloc (.cells #[.string bn, .int .i64 bt, .int .i64 bk, .int .i64 bu, .string bd] 45)) = x := ⟨_, rfl⟩
  rw [hw2] at hK0 ⊢
  obtain ⟨q2, hq2⟩ : ∃ q, w.heap.size + 1 = q := ⟨_, rfl⟩
  obtain ⟨q1, hq1⟩ : ∃ q, w.heap.size = q := ⟨_, rfl⟩
  rw [hq2] at hK0 ⊢
  have hK1 : RP w q1 q2 ⟨⟨an, at1, ac⟩, au, ad⟩ ⟨⟨bn, bt, bk⟩, bu, bd⟩ w2 := by rw [← hq1]; exact hK0
  have HK := Lib.hid (RP.next ((BelD.refl w2.heap.size w2).drew) (RP.shown hK1))
  rw [show (Value.pointer (some { block := w.heap.size, off := 0 })) = Value.pointer (some { block := q1, off := 0 }) by rw [hq1]]
  clear hK0 hK1 hw2 hq2 hq1
  go_region_held3 (fun wx => Hid (RP w q1 q2 ⟨⟨an, at1, ac⟩, au, ad⟩ ⟨⟨bn, bt, bk⟩, bu, bd⟩ wx) ∧ wx.cell? ⟨q1, 0, none⟩ = some (.string an) ∧ wx.cell? ⟨q1, 1, none⟩ = some (.int .i64 at1) ∧ wx.cell? ⟨q1, 2, none⟩ = some (.int .i64 ac) ∧ wx.cell? ⟨q1, 3, none⟩ = some (.int .i64 au) ∧ wx.cell? ⟨q1, 4, none⟩ = some (.string ad) ∧ wx.cell? ⟨q2, 0, none⟩ = some (.string bn) ∧ wx.cell? ⟨q2, 1, none⟩ = some (.int .i64 bt) ∧ wx.cell? ⟨q2, 2, none⟩ = some (.int .i64 bk) ∧ wx.cell? ⟨q2, 3, none⟩ = some (.int .i64 bu) ∧ wx.cell? ⟨q2, 4, none⟩ = some (.string bd)) (first | (exact HK.out) | assumption | (refine RP.next hb ?_; assumption) | (refine RP.next ((BelD.refl _ _).alloc (Nat.le_refl _) _) ?_; assumption))
    (first
      | (go_at_call 18; first | (with_reducible refine (HK1.out _).mono ?_; rintro e wy ⟨rfl, hb⟩) | (with_reducible refine (HK2.out _).mono ?_; rintro e wy ⟨rfl, hb⟩))
      | (go_at_call 32; refine (HC.out _).mono ?_; rintro e wy ⟨rfl, hb⟩)
      | (go_at_call 72; refine (HS.out _).mono ?_; rintro e wy ⟨rfl, rfl⟩)
      | (go_at_call 60; refine (or_any _ 2 2 [v1, v2] _ (row2_lit _ _ _ _) (by omega)).mono ?_; rintro e wy ⟨rfl, rfl⟩))
  all_goals
    go_wp2
    go_ret
    refine ⟨ret_int HV.out.symm, RP.get (q1 := q1) (q2 := q2) (a := ⟨⟨an, at1, ac⟩, au, ad⟩) (b := ⟨⟨bn, bt, bk⟩, bu, bd⟩) ?_⟩
    assumption
end Go.Proofs.Ytgdhbelcellabaa
