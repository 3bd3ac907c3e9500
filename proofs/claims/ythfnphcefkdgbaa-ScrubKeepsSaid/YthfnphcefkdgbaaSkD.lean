/- Plain: a set as the reference's. -/
import Derived.Test.YthfnphcefkdgbaaMgE
namespace Go.Proofs.Ythfnphcefkdgbaa
open Go.RowKit

/-- The cells of a set. -/
def PP (w : World) (q1 : Nat) (n : ByteArray) (t c u : Int) (dv : Value) (wx : World) : Prop := Below w.heap.size w wx ∧ C5 wx q1 (.string n) (.int .i64 t) (.int .i64 c) (.int .i64 u) dv
def PC (w : World) (q1 : Nat) (n : ByteArray) (t c u : Int) (dv : Value) (wx : World) : Prop := Hid (PP w q1 n t c u dv wx) ∧ wx.cell? ⟨q1, 0, none⟩ = some (.string n) ∧ wx.cell? ⟨q1, 1, none⟩ = some (.int .i64 t) ∧ wx.cell? ⟨q1, 2, none⟩ = some (.int .i64 c) ∧ wx.cell? ⟨q1, 3, none⟩ = some (.int .i64 u) ∧ wx.cell? ⟨q1, 4, none⟩ = some dv
theorem PP.shown {w wx : World} {q1 : Nat} {n : ByteArray} {t c u : Int} {dv : Value} (h : PP w q1 n t c u dv wx) : PC w q1 n t c u dv wx := by
  have h' := Lib.hid h
  obtain ⟨_, ⟨_, p0, p1, p2, p3, p4, _⟩⟩ := h
  exact ⟨h', p0, p1, p2, p3, p4⟩
theorem PC.next {w wx wy : World} {q1 : Nat} {n : ByteArray} {t c u : Int} {dv : Value} (hb : Below wx.heap.size wx wy) (h : PC w q1 n t c u dv wx) : PC w q1 n t c u dv wy :=
  PP.shown ⟨h.1.out.1.trans (hb.mono h.1.out.1.size), h.1.out.2.below hb⟩
theorem PC.set {w wx : World} {q1 : Nat} {n : ByteArray} {t c u : Int} {dv : Value} (h : PC w q1 n t c u dv wx) (p : Addr) (hp : p.block ≠ q1) (hw : w.heap.size ≤ p.block) (v : Value) : PC w q1 n t c u dv (wx.setCell p v) :=
  PP.shown ⟨h.1.out.1.setCell hw v, h.1.out.2.far p hp v⟩

set_option maxRecDepth 100000 in
set_option maxHeartbeats 1600000 in
theorem plain_any (n : ByteArray) (t c u : Int) (a : Option Addr) (dn dc : Nat) (w : World) : Calls Try.prog 32 #[.agg #[.string n, .int .i64 t, .int .i64 c, .int .i64 u, .slice a dn dc]] w fun e w' => e = .returned (.agg #[.string n, .int .i64 t, .int .i64 c, .int .i64 u, .slice a dn dc]) ∧ Below w.heap.size w w' := by
  have h1 := (Below.refl w.heap.size w).alloc (Nat.le_refl _) (.cells #[.string n, .int .i64 t, .int .i64 c, .int .i64 u, .slice a dn dc] 39)
  have h2 := (Below.refl _ (w.alloc (.cells #[.string n, .int .i64 t, .int .i64 c, .int .i64 u, .slice a dn dc] 39))).alloc (Nat.le_refl _) (.cells #[.string ⟨#[]⟩, .int .i64 0, .int .i64 0, .int .i64 0, .slice none 0 0] 52)
  have c2 := c5_new (w.alloc (.cells #[.string n, .int .i64 t, .int .i64 c, .int .i64 u, .slice a dn dc] 39)) (.string ⟨#[]⟩) (.int .i64 0) (.int .i64 0) (.int .i64 0) (.slice none 0 0) 52
  rw [World.size_alloc] at c2
  have hP : PP w w.heap.size n t c u (.slice a dn dc) ((w.alloc (.cells #[.string n, .int .i64 t, .int .i64 c, .int .i64 u, .slice a dn dc] 39)).alloc (.cells #[.string ⟨#[]⟩, .int .i64 0, .int .i64 0, .int .i64 0, .slice none 0 0] 52)) :=
    ⟨h1.trans (h2.mono h1.size), (c5_new w (.string n) (.int .i64 t) (.int .i64 c) (.int .i64 u) (.slice a dn dc) 39).below h2⟩
  have HK := Lib.hid (fun wx => keyConv n t c wx)
  clear h1 h2
  go_enter Try.func32, Try.ntmps32
  go_wp2_with fail
  obtain ⟨w2, hw2⟩ : ∃ x, ((w.alloc (.cells #[.string n, .int .i64 t, .int .i64 c, .int .i64 u, .slice a dn dc] 39)).alloc (.cells #[.string ⟨#[]⟩, .int .i64 0, .int .i64 0, .int .i64 0, .slice none 0 0] 52)) = x := ⟨_, rfl⟩
  rw [hw2] at hP c2 ⊢
  obtain ⟨q2, hq2⟩ : ∃ q, w.heap.size + 1 = q := ⟨_, rfl⟩
  obtain ⟨q1, hq1⟩ : ∃ q, w.heap.size = q := ⟨_, rfl⟩
  rw [hq2] at c2 ⊢
  have hP1 : PP w q1 n t c u (.slice a dn dc) w2 := by rw [← hq1]; exact hP
  have HPd := Lib.hid (PC.next ((Below.refl w2.heap.size w2).drew) (PP.shown hP1))
  have K2 := Lib.hid (c2.below ((Below.refl w2.heap.size w2).drew))
  rw [show (Value.pointer (some { block := w.heap.size, off := 0 })) = Value.pointer (some { block := q1, off := 0 }) by rw [hq1]]
  have hq12 : w.heap.size ≤ q2 := by omega
  have hqne : q2 ≠ q1 := by omega
  clear hP hP1 hw2 hq2 hq1 c2
  go_region_held3 (fun wx => Hid (PP w q1 n t c u (.slice a dn dc) wx) ∧ wx.cell? ⟨q1, 0, none⟩ = some (.string n) ∧ wx.cell? ⟨q1, 1, none⟩ = some (.int .i64 t) ∧ wx.cell? ⟨q1, 2, none⟩ = some (.int .i64 c) ∧ wx.cell? ⟨q1, 3, none⟩ = some (.int .i64 u) ∧ wx.cell? ⟨q1, 4, none⟩ = some (.slice a dn dc)) (first | (exact HPd.out) | assumption | (refine PC.next hb ?_; assumption) | (refine PC.set ?_ _ hqne hq12 _; assumption) | (refine PC.set (PC.set (PC.set (PC.set (PC.set ?_ _ hqne hq12 _) _ hqne hq12 _) _ hqne hq12 _) _ hqne hq12 _) _ hqne hq12 _; assumption))
    (first
      | (go_at_call 69; refine (HK.out _).mono ?_; rintro e wy ⟨rfl, hb⟩; obtain ⟨hz2, r0, r1, r2, r3, r4, g0, g1, g2, g3, g4⟩ := K2.out.below hb))
  have Z := Lib.hid ((K2.out.below hb).set (.string n) (.int .i64 t) (.int .i64 c) (.int .i64 u) (.slice a dn dc))
  have HB := Lib.hid (below_set5 (HPd.out.1.out.1.trans (hb.mono HPd.out.1.out.1.size)) hq12 (.string n) (.int .i64 t) (.int .i64 c) (.int .i64 u) (.slice a dn dc))
  obtain ⟨wz, hwz⟩ : ∃ x, (((((wy.setCell { block := q2, off := 0 } (Value.string n)).setCell { block := q2, off := 1 } (Value.int IntKind.i64 t)).setCell { block := q2, off := 2 } (Value.int IntKind.i64 c)).setCell { block := q2, off := 3 } (Value.int IntKind.i64 u)).setCell { block := q2, off := 4 } (Value.slice a dn dc)) = x := ⟨_, rfl⟩
  rw [hwz] at Z HB ⊢
  clear hwz
  clear r0 r1 r2 r3 r4 g0 g1 g2 g3 g4
  obtain ⟨_, z0, z1, z2, z3, z4, _⟩ := Z.out
  go_wp2
  refine bodyPost_ret (v := .agg #[.string n, .int .i64 t, .int .i64 c, .int .i64 u, .slice a dn dc]) (by simp [results, Try.results32, go_sem, z0, z1, z2, z3, z4]) rfl ⟨rfl, HB.out⟩
end Go.Proofs.Ythfnphcefkdgbaa
