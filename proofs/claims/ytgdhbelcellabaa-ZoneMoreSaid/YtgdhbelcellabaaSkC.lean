/- Sets: copied, has, as the document's; are sets few. -/
import Derived.Test.YtgdhbelcellabaaSkB
namespace Go.Proofs.Ytgdhbelcellabaa
open Go.RowKit

/-- Five cells of a block. -/
def C5 (w : World) (q : Nat) (c0 c1 c2 c3 c4 : Value) : Prop := q < w.heap.size ∧ w.cell? ⟨q, 0, none⟩ = some c0 ∧ w.cell? ⟨q, 1, none⟩ = some c1 ∧ w.cell? ⟨q, 2, none⟩ = some c2 ∧ w.cell? ⟨q, 3, none⟩ = some c3 ∧ w.cell? ⟨q, 4, none⟩ = some c4 ∧ w.frozen? ⟨q, 0, none⟩ = false ∧ w.frozen? ⟨q, 1, none⟩ = false ∧ w.frozen? ⟨q, 2, none⟩ = false ∧ w.frozen? ⟨q, 3, none⟩ = false ∧ w.frozen? ⟨q, 4, none⟩ = false
theorem C5.below {w w' : World} {q : Nat} {c0 c1 c2 c3 c4 : Value} (h : C5 w q c0 c1 c2 c3 c4) (hb : Below w.heap.size w w') : C5 w' q c0 c1 c2 c3 c4 := by
  obtain ⟨h0, h1, h2, h3, h4, h5, f0, f1, f2, f3, f4⟩ := h
  exact ⟨Nat.lt_of_lt_of_le h0 hb.size, (hb.cell h0).trans h1, (hb.cell h0).trans h2, (hb.cell h0).trans h3, (hb.cell h0).trans h4, (hb.cell h0).trans h5, (hb.frozen h0).trans f0, (hb.frozen h0).trans f1, (hb.frozen h0).trans f2, (hb.frozen h0).trans f3, (hb.frozen h0).trans f4⟩
theorem c5_new (w : World) (c0 c1 c2 c3 c4 : Value) (T : TypeId) : C5 (w.alloc (.cells #[c0, c1, c2, c3, c4] T)) w.heap.size c0 c1 c2 c3 c4 := by
  refine ⟨by simp, ?_, ?_, ?_, ?_, ?_, ?_, ?_, ?_, ?_, ?_⟩ <;> simp [World.cell?_alloc_at, World.frozen?_alloc_new]

theorem own_mono4 {w : World} {base base' : Nat} {e : TypeId} {size n : Nat} {v : Value} {xs : List Value} (h : w.ownsRow base e size v n xs) (hb : base' ≤ base) : w.ownsRow base' e size v n xs := by
  refine ⟨h.1, ?_⟩
  rcases h.2 with hn | ⟨g, cap, cur, h1, h2, rest⟩
  · exact .inl hn
  · exact .inr ⟨g, cap, cur, h1, Nat.le_trans hb h2, rest⟩
theorem own_set4 {w : World} {base : Nat} {e : TypeId} {size n : Nat} {v : Value} {xs : List Value} (h : w.ownsRow base e size v n xs) {p : Addr} (hp : p.block < base) (u : Value) : (w.setCell p u).ownsRow base e size v n xs := by
  have hb := (Below.refl 0 w).setCell (Nat.zero_le p.block) u
  exact h.kept (row := some p.block) ⟨hb.os, hb.tape, hb.output, hb.size, fun k _ hne => heap_setCell_other w p k u (fun e => hne (by rw [e]))⟩ (Or.inr (fun e => by have := (h.lt _ e).1; omega))
theorem C5.far {w : World} {q : Nat} {c0 c1 c2 c3 c4 : Value} (h : C5 w q c0 c1 c2 c3 c4) (p : Addr) (hp : p.block ≠ q) (v : Value) : C5 (w.setCell p v) q c0 c1 c2 c3 c4 := by
  obtain ⟨h0, h1, h2, h3, h4, h5, f0, f1, f2, f3, f4⟩ := h
  exact ⟨by simpa using h0, (World.cell?_setCell_far _ _ _ _ hp).trans h1, (World.cell?_setCell_far _ _ _ _ hp).trans h2, (World.cell?_setCell_far _ _ _ _ hp).trans h3, (World.cell?_setCell_far _ _ _ _ hp).trans h4, (World.cell?_setCell_far _ _ _ _ hp).trans h5, by simpa using f0, by simpa using f1, by simpa using f2, by simpa using f3, by simpa using f4⟩
theorem C5.set {w : World} {q : Nat} {c0 c1 c2 c3 c4 : Value} (h : C5 w q c0 c1 c2 c3 c4) (v0 v1 v2 v3 v4 : Value) : C5 (((((w.setCell ⟨q, 0, none⟩ v0).setCell ⟨q, 1, none⟩ v1).setCell ⟨q, 2, none⟩ v2).setCell ⟨q, 3, none⟩ v3).setCell ⟨q, 4, none⟩ v4) q v0 v1 v2 v3 v4 := by
  obtain ⟨h0, h1, h2, h3, h4, h5, f0, f1, f2, f3, f4⟩ := h
  refine ⟨by simpa using h0, ?_, ?_, ?_, ?_, ?_, ?_, ?_, ?_, ?_, ?_⟩ <;> go_simp
theorem own_set5 {w : World} {base : Nat} {e : TypeId} {size n : Nat} {v : Value} {xs : List Value} (h : w.ownsRow base e size v n xs) {q : Nat} (hp : q < base) (v0 v1 v2 v3 v4 : Value) : (((((w.setCell ⟨q, 0, none⟩ v0).setCell ⟨q, 1, none⟩ v1).setCell ⟨q, 2, none⟩ v2).setCell ⟨q, 3, none⟩ v3).setCell ⟨q, 4, none⟩ v4).ownsRow base e size v n xs :=
  own_set4 (own_set4 (own_set4 (own_set4 (own_set4 h hp _) hp _) hp _) hp _) hp _
theorem below_set5 {B : Nat} {w w1 : World} (h : Below B w w1) {q : Nat} (hp : B ≤ q) (v0 v1 v2 v3 v4 : Value) : Below B w (((((w1.setCell ⟨q, 0, none⟩ v0).setCell ⟨q, 1, none⟩ v1).setCell ⟨q, 2, none⟩ v2).setCell ⟨q, 3, none⟩ v3).setCell ⟨q, 4, none⟩ v4) :=
  ((((h.setCell hp _).setCell hp _).setCell hp _).setCell hp _).setCell hp _

set_option maxRecDepth 100000 in
set_option maxHeartbeats 1600000 in
theorem copy_any (n : ByteArray) (t c u : Int) (d : List ByteArray) (a : Option Addr) (dn dc : Nat) (w : World) (h : RowS w a dn d) (hn : a = none → dn = 0 ∧ dc = 0) (hl : dn ≤ 100000) : Calls Try.prog 44 #[.agg #[.string n, .int .i64 t, .int .i64 c, .int .i64 u, .slice a dn dc]] w fun e w' => ∃ dv, e = .returned (.agg #[.string n, .int .i64 t, .int .i64 c, .int .i64 u, dv]) ∧ w'.ownsRow w.heap.size 9 1 dv dn (sc d) ∧ Below w.heap.size w w' := by
  have h1 := (Below.refl w.heap.size w).alloc (Nat.le_refl _) (.cells #[.string n, .int .i64 t, .int .i64 c, .int .i64 u, .slice a dn dc] 39)
  have h2 := (Below.refl _ (w.alloc (.cells #[.string n, .int .i64 t, .int .i64 c, .int .i64 u, .slice a dn dc] 39))).alloc (Nat.le_refl _) (.cells #[.string ⟨#[]⟩, .int .i64 0, .int .i64 0, .int .i64 0, .slice none 0 0] 39)
  have C1 := Lib.hid ((c5_new w (.string n) (.int .i64 t) (.int .i64 c) (.int .i64 u) (.slice a dn dc) 39).below h2)
  have c2 := c5_new (w.alloc (.cells #[.string n, .int .i64 t, .int .i64 c, .int .i64 u, .slice a dn dc] 39)) (.string ⟨#[]⟩) (.int .i64 0) (.int .i64 0) (.int .i64 0) (.slice none 0 0) 39
  rw [World.size_alloc] at c2
  have C2 := Lib.hid c2
  have HB := Lib.hid (h1.trans (h2.mono h1.size))
  have HC := Lib.hid (fun wx (hx : Below w.heap.size w wx) => cloneS4 a dn dc d wx (h.below hx) hn hl)
  clear c2 h1 h2 h hn
  go_enter Try.func44, Try.ntmps44
  go_wp2_with fail
  have hsz := HB.out.size
  have hsz2 : w.heap.size + 2 ≤ ((w.alloc (.cells #[.string n, .int .i64 t, .int .i64 c, .int .i64 u, .slice a dn dc] 39)).alloc (.cells #[.string ⟨#[]⟩, .int .i64 0, .int .i64 0, .int .i64 0, .slice none 0 0] 39)).heap.size := by simp [World.size_alloc]
  refine (HC.out _ HB.out).mono ?_; rintro e w1 ⟨dv, rfl, hown, hb⟩
  have K1 := Lib.hid (C1.out.below hb)
  have K2 := Lib.hid (C2.out.below hb)
  have HB1 := Lib.hid (HB.out.trans (hb.mono HB.out.size))
  obtain ⟨a', c', rfl, _⟩ := cells_own hown
  have HO := Lib.hid hown
  clear hb hown C1 C2
  obtain ⟨q2, hq2⟩ : ∃ q, w.heap.size + 1 = q := ⟨_, rfl⟩
  rw [hq2] at K2 ⊢
  obtain ⟨q1, hq1⟩ : ∃ q, w.heap.size = q := ⟨_, rfl⟩
  have hqne : q1 ≠ q2 := by omega
  have hqne' : q2 ≠ q1 := by omega
  have K1' : C5 w1 q1 (.string n) (.int .i64 t) (.int .i64 c) (.int .i64 u) (.slice a dn dc) := by rw [← hq1]; exact K1.out
  have HQ := Lib.hid (show q2 = w.heap.size + 1 from hq2.symm)
  obtain ⟨hq1s, p0, p1, p2, p3, p4, f0, f1, f2, f3, f4⟩ := K1'
  obtain ⟨hq2s, r0, r1, r2, r3, r4, g0, g1, g2, g3, g4⟩ := K2.out
  rw [show (Value.pointer (some { block := w.heap.size, off := 0 })) = Value.pointer (some { block := q1, off := 0 }) by rw [hq1]]
  have HN1 := Lib.hid (show w.heap.size = q1 from hq1)
  have HS := Lib.hid (show w.heap.size + 2 ≤ _ from hsz2)
  have K3 := Lib.hid ((K2.out.far ⟨q1, 4, none⟩ hqne (.slice a' dn c')).set (.string n) (.int .i64 t) (.int .i64 c) (.int .i64 u) (.slice a' dn c'))
  have HO3 := Lib.hid (own_set5 (own_set4 HO.out (p := ⟨q1, 4, none⟩) (by have := HS.out; have := HN1.out; simp; omega) (.slice a' dn c')) (q := q2) (by have := HS.out; have := HQ.out; omega) (.string n) (.int .i64 t) (.int .i64 c) (.int .i64 u) (.slice a' dn c'))
  have HB3 := Lib.hid (below_set5 (HB1.out.setCell (p := ⟨q1, 4, none⟩) (by have := HN1.out; simp; omega) (.slice a' dn c')) (q := q2) (by have := HQ.out; omega) (.string n) (.int .i64 t) (.int .i64 c) (.int .i64 u) (.slice a' dn c'))
  have HL := Lib.hid (show w.heap.size ≤ _ from hsz)
  clear f0 f1 f2 f3 hq1 hq2 K1 K2 hsz
  go_wp2
  obtain ⟨wz, hwz⟩ : ∃ x, ((((((w1.setCell { block := q1, off := 4 } (Value.slice a' dn c')).setCell { block := q2, off := 0 } (Value.string n)).setCell { block := q2, off := 1 } (Value.int IntKind.i64 t)).setCell { block := q2, off := 2 } (Value.int IntKind.i64 c)).setCell { block := q2, off := 3 } (Value.int IntKind.i64 u)).setCell { block := q2, off := 4 } (Value.slice a' dn c')) = x := ⟨_, rfl⟩
  rw [hwz] at K3 HO3 HB3 ⊢
  clear hwz p0 p1 p2 p3 p4 r0 r1 r2 r3 r4 g0 g1 g2 g3 g4 f4
  obtain ⟨_, z0, z1, z2, z3, z4, _⟩ := K3.out
  refine bodyPost_ret (v := .agg #[.string n, .int .i64 t, .int .i64 c, .int .i64 u, .slice a' dn c']) (by simp [results, Try.results44, go_sem, z0, z1, z2, z3, z4]) rfl ⟨_, rfl, own_mono4 HO3.out HL.out, HB3.out⟩
set_option maxRecDepth 100000 in
theorem has_any (n : ByteArray) (t c u : Int) (d : List ByteArray) (a : Option Addr) (dn dc : Nat) (x : ByteArray) (w : World) (h : RowS w a dn d) (hl : dn ≤ 100000) : Calls Try.prog 19 #[.agg #[.string n, .int .i64 t, .int .i64 c, .int .i64 u, .slice a dn dc], .string x] w fun e w' => e = .returned (.bool (memS x d)) ∧ Below w.heap.size w w' := by
  have HB := Lib.hid ((Below.refl w.heap.size w).alloc (Nat.le_refl _) (.cells #[.string n, .int .i64 t, .int .i64 c, .int .i64 u, .slice a dn dc] 39))
  have HC := Lib.hid (fun wx (hx : Below w.heap.size w wx) => containsS a dn dc d x wx (h.below hx) (by omega))
  clear h
  obtain ⟨mb, hmb⟩ : ∃ y, memS x d = y := ⟨_, rfl⟩
  rw [hmb] at HC
  rw [hmb]
  clear hmb
  go_enter Try.func19, Try.ntmps19
  go_wp2_with fail
  refine (HC.out _ HB.out).mono ?_; rintro e w' ⟨rfl, rfl⟩
  go_wp2
  go_ret
  exact ⟨rfl, HB.out⟩
end Go.Proofs.Ytgdhbelcellabaa
