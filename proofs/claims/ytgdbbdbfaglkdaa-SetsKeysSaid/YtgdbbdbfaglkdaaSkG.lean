/- The law on keys and sets: what the walk needs. -/
import Derived.Test.YtgdbbdbfaglkdaaSkD
import Derived.Test.YtgdbbdbfaglkdaaSkE
import Derived.Test.YtgdbbdbfaglkdaaFs4
namespace Go.Proofs.Ytgdbbdbfaglkdaa
open Go.RowKit

theorem same_at (an : ByteArray) (at1 ac au : Int) (ad : List ByteArray) (bn : ByteArray) (bt bc bu : Int) (bd : List ByteArray) (pa pb : Option Addr) (al bl ca cb : Nat) (w : World) (ha : RowS w pa al ad) (hb : RowS w pb bl bd) (hl : al ≤ 1000000) : Calls Try.prog 59 #[.agg #[.string an, .int .i64 at1, .int .i64 ac, .int .i64 au, .slice pa al ca], .agg #[.string bn, .int .i64 bt, .int .i64 bc, .int .i64 bu, .slice pb bl cb]] w fun e w' => e = .returned (.bool (sameP ⟨⟨an, at1, ac⟩, au, ad⟩ ⟨⟨bn, bt, bc⟩, bu, bd⟩)) ∧ Below w.heap.size w w' := by
  have h1 := ha.1
  have h2 := hb.1
  subst h1 h2
  exact same_any ⟨⟨an, at1, ac⟩, au, ad⟩ ⟨⟨bn, bt, bc⟩, bu, bd⟩ pa pb ca cb w ha hb hl
theorem rsame_at (an : ByteArray) (at1 ac au : Int) (ad : List ByteArray) (bn : ByteArray) (bt bc bu : Int) (bd : List ByteArray) (pa pb : Option Addr) (al bl ca cb : Nat) (w : World) (ha : RowS w pa al ad) (hb : RowS w pb bl bd) (hl : al ≤ 1000000) : Calls Try.prog 57 #[.agg #[.string an, .int .i64 at1, .int .i64 ac, .int .i64 au, .slice pa al ca], .agg #[.string bn, .int .i64 bt, .int .i64 bc, .int .i64 bu, .slice pb bl cb]] w fun e w' => e = .returned (.bool (sameP ⟨⟨an, at1, ac⟩, au, ad⟩ ⟨⟨bn, bt, bc⟩, bu, bd⟩)) ∧ Below w.heap.size w w' := by
  have h1 := ha.1
  have h2 := hb.1
  subst h1 h2
  exact rsame_any ⟨⟨an, at1, ac⟩, au, ad⟩ ⟨⟨bn, bt, bc⟩, bu, bd⟩ pa pb ca cb w ha hb hl
theorem set_ne {ad : List ByteArray} {s0 : ByteArray} (h : ad[0]? = some s0) : ad.set 0 (s0 ++ { data := #[120] }) ≠ ad := by
  cases ad with
  | nil => simp at h
  | cons x xs =>
    simp at h
    subst h
    intro h
    simp at h
    have := congrArg ByteArray.size h
    simp [ByteArray.size_append] at this
    exact absurd (congrArg ByteArray.size this) (by decide)
theorem sameP_self (s : SetP) : sameP s s = true := by simp [sameP]
/-- Two sets in their boxes. -/
def SK (w : World) (q r : Nat) (an : ByteArray) (at1 ac au : Int) (pa : Value) (bn : ByteArray) (bt bc bu : Int) (pb : Value) (W : World) : Prop := Below w.heap.size w W ∧ C5 W q (.string an) (.int .i64 at1) (.int .i64 ac) (.int .i64 au) pa ∧ C5 W r (.string bn) (.int .i64 bt) (.int .i64 bc) (.int .i64 bu) pb
theorem SK.next {w : World} {q r : Nat} {an : ByteArray} {at1 ac au : Int} {pa : Value} {bn : ByteArray} {bt bc bu : Int} {pb : Value} {W W' : World} (h : SK w q r an at1 ac au pa bn bt bc bu pb W) (hb : Below W.heap.size W W') : SK w q r an at1 ac au pa bn bt bc bu pb W' :=
  ⟨h.1.trans (hb.mono h.1.size), h.2.1.below hb, h.2.2.below hb⟩
theorem SK.far {w : World} {q r : Nat} {an : ByteArray} {at1 ac au : Int} {pa : Value} {bn : ByteArray} {bt bc bu : Int} {pb : Value} {W : World} (h : SK w q r an at1 ac au pa bn bt bc bu pb W) (p : Addr) (hp : w.heap.size ≤ p.block) (hq : p.block ≠ q) (hr : p.block ≠ r) (v : Value) : SK w q r an at1 ac au pa bn bt bc bu pb (W.setCell p v) :=
  ⟨h.1.setCell hp v, h.2.1.far p hq v, h.2.2.far p hr v⟩
theorem sc_set (l : List ByteArray) (k : Nat) (s : ByteArray) : (sc l).set k (.string s) = sc (l.set k s) := by simp [sc, List.map_set]
theorem SK.cells {w : World} {q r : Nat} {an : ByteArray} {at1 ac au : Int} {pa : Value} {bn : ByteArray} {bt bc bu : Int} {pb : Value} {W : World} (h : SK w q r an at1 ac au pa bn bt bc bu pb W) : W.cell? ⟨q, 0, none⟩ = some (.string an) ∧ W.cell? ⟨q, 1, none⟩ = some (.int .i64 at1) ∧ W.cell? ⟨q, 2, none⟩ = some (.int .i64 ac) ∧ W.cell? ⟨q, 3, none⟩ = some (.int .i64 au) ∧ W.cell? ⟨q, 4, none⟩ = some pa ∧ W.cell? ⟨r, 0, none⟩ = some (.string bn) ∧ W.cell? ⟨r, 1, none⟩ = some (.int .i64 bt) ∧ W.cell? ⟨r, 2, none⟩ = some (.int .i64 bc) ∧ W.cell? ⟨r, 3, none⟩ = some (.int .i64 bu) ∧ W.cell? ⟨r, 4, none⟩ = some pb := by
  obtain ⟨_, ⟨_, p0, p1, p2, p3, p4, _⟩, ⟨_, r0, r1, r2, r3, r4, _⟩⟩ := h
  exact ⟨p0, p1, p2, p3, p4, r0, r1, r2, r3, r4⟩
theorem sk_start (w : World) (an : ByteArray) (at1 ac au : Int) (pa : Value) (bn : ByteArray) (bt bc bu : Int) (pb : Value) (T : TypeId) : SK w w.heap.size (w.heap.size + 1) an at1 ac au pa bn bt bc bu pb ((w.alloc (.cells #[.string an, .int .i64 at1, .int .i64 ac, .int .i64 au, pa] T)).alloc (.cells #[.string bn, .int .i64 bt, .int .i64 bc, .int .i64 bu, pb] T)) := by
  have h1 := (Below.refl w.heap.size w).alloc (Nat.le_refl _) (.cells #[.string an, .int .i64 at1, .int .i64 ac, .int .i64 au, pa] T)
  have h2 := (Below.refl _ (w.alloc (.cells #[.string an, .int .i64 at1, .int .i64 ac, .int .i64 au, pa] T))).alloc (Nat.le_refl _) (.cells #[.string bn, .int .i64 bt, .int .i64 bc, .int .i64 bu, pb] T)
  have c2 := c5_new (w.alloc (.cells #[.string an, .int .i64 at1, .int .i64 ac, .int .i64 au, pa] T)) (.string bn) (.int .i64 bt) (.int .i64 bc) (.int .i64 bu) pb T
  rw [World.size_alloc] at c2
  exact ⟨h1.trans (h2.mono h1.size), (c5_new w (.string an) (.int .i64 at1) (.int .i64 ac) (.int .i64 au) pa T).below h2, c2⟩

theorem two_sets {W : World} {an : ByteArray} {at1 ac au : Int} {ad : List ByteArray} {pa : Option Addr} {al aca : Nat} {bn : ByteArray} {bt bc bu : Int} {bd : List ByteArray} {pb : Option Addr} {bl bca : Nat} (T : TypeId) (ha : RowS W pa al ad) (hb : RowS W pb bl bd) (hna : pa = none → al = 0 ∧ aca = 0) (hnb : pb = none → bl = 0 ∧ bca = 0) : SetsAt (W.alloc (.cells #[.string an, .int .i64 at1, .int .i64 ac, .int .i64 au, .slice pa al aca, .string bn, .int .i64 bt, .int .i64 bc, .int .i64 bu, .slice pb bl bca] T)) (some ⟨W.heap.size, 0, none⟩) 2 [⟨⟨an, at1, ac⟩, au, ad⟩, ⟨⟨bn, bt, bc⟩, bu, bd⟩] := by
  have hal := ha.1
  have hbl := hb.1
  subst hal hbl
  have ha' := ha.below ((Below.refl W.heap.size W).alloc (Nat.le_refl _) (.cells #[.string an, .int .i64 at1, .int .i64 ac, .int .i64 au, .slice pa ad.length aca, .string bn, .int .i64 bt, .int .i64 bc, .int .i64 bu, .slice pb bd.length bca] T))
  have hb' := hb.below ((Below.refl W.heap.size W).alloc (Nat.le_refl _) (.cells #[.string an, .int .i64 at1, .int .i64 ac, .int .i64 au, .slice pa ad.length aca, .string bn, .int .i64 bt, .int .i64 bc, .int .i64 bu, .slice pb bd.length bca] T))
  refine ⟨rfl, Or.inr ⟨W.heap.size, 0, rfl, by simp [World.size_alloc], fun k hk => ?_⟩⟩
  rcases k with _ | _ | k
  · exact ⟨pa, aca, by simp [World.cell?_alloc_at], by simp [World.cell?_alloc_at], by simp [World.cell?_alloc_at], by simp [World.cell?_alloc_at], by simp [World.cell?_alloc_at], ha', hna⟩
  · exact ⟨pb, bca, by simp [World.cell?_alloc_at], by simp [World.cell?_alloc_at], by simp [World.cell?_alloc_at], by simp [World.cell?_alloc_at], by simp [World.cell?_alloc_at], hb', hnb⟩
  · omega
theorem mem_take {l : List Int} {k : Nat} {x : Int} (h : k < l.length) : x ∈ l.take (k + 1) ↔ x ∈ l.take k ∨ l.getD k 0 = x := by
  rw [List.take_add_one, List.mem_append, List.getElem?_eq_getElem h, List.getD_eq_getElem?_getD, List.getElem?_eq_getElem h]
  simp [eq_comm]

/-- All that the last statement reads. -/
def KQ (w wb : World) (q r c R : Nat) (an : ByteArray) (at1 ac au : Int) (pa pc : Value) (bn : ByteArray) (bt bc bu : Int) (pb : Value) (wx : World) : Prop := Below wb.heap.size wb wx ∧ SK w q r an at1 ac au pa bn bt bc bu pb wx ∧ C5 wx c (.string an) (.int .i64 at1) (.int .i64 ac) (.int .i64 au) pc ∧ C5 wx R (.string an) (.int .i64 at1) (.int .i64 ac) (.int .i64 0) (.string ⟨#[]⟩)
def KS (w wb : World) (q r c R : Nat) (an : ByteArray) (at1 ac au : Int) (pa pc : Value) (bn : ByteArray) (bt bc bu : Int) (pb : Value) (wx : World) : Prop := Hid (KQ w wb q r c R an at1 ac au pa pc bn bt bc bu pb wx) ∧ wx.cell? ⟨q, 0, none⟩ = some (.string an) ∧ wx.cell? ⟨q, 1, none⟩ = some (.int .i64 at1) ∧ wx.cell? ⟨q, 2, none⟩ = some (.int .i64 ac) ∧ wx.cell? ⟨q, 3, none⟩ = some (.int .i64 au) ∧ wx.cell? ⟨q, 4, none⟩ = some (pa) ∧ wx.cell? ⟨r, 0, none⟩ = some (.string bn) ∧ wx.cell? ⟨r, 1, none⟩ = some (.int .i64 bt) ∧ wx.cell? ⟨r, 2, none⟩ = some (.int .i64 bc) ∧ wx.cell? ⟨r, 3, none⟩ = some (.int .i64 bu) ∧ wx.cell? ⟨r, 4, none⟩ = some (pb) ∧ wx.cell? ⟨c, 0, none⟩ = some (.string an) ∧ wx.cell? ⟨c, 1, none⟩ = some (.int .i64 at1) ∧ wx.cell? ⟨c, 2, none⟩ = some (.int .i64 ac) ∧ wx.cell? ⟨c, 3, none⟩ = some (.int .i64 au) ∧ wx.cell? ⟨c, 4, none⟩ = some (pc) ∧ wx.cell? ⟨R, 0, none⟩ = some (.string an) ∧ wx.cell? ⟨R, 1, none⟩ = some (.int .i64 at1) ∧ wx.cell? ⟨R, 2, none⟩ = some (.int .i64 ac) ∧ wx.cell? ⟨R, 3, none⟩ = some (.int .i64 0) ∧ wx.cell? ⟨R, 4, none⟩ = some (.string ⟨#[]⟩)
theorem KQ.shown {w wb : World} {q r c R : Nat} {an : ByteArray} {at1 ac au : Int} {pa pc : Value} {bn : ByteArray} {bt bc bu : Int} {pb : Value} {wx : World} (h : KQ w wb q r c R an at1 ac au pa pc bn bt bc bu pb wx) : KS w wb q r c R an at1 ac au pa pc bn bt bc bu pb wx := by
  have h' := Lib.hid h
  obtain ⟨_, ⟨_, ⟨_, p0, p1, p2, p3, p4, _⟩, ⟨_, r0, r1, r2, r3, r4, _⟩⟩, ⟨_, x0, x1, x2, x3, x4, _⟩, ⟨_, y0, y1, y2, y3, y4, _⟩⟩ := h
  exact ⟨h', p0, p1, p2, p3, p4, r0, r1, r2, r3, r4, x0, x1, x2, x3, x4, y0, y1, y2, y3, y4⟩
theorem KS.next {w wb : World} {q r c R : Nat} {an : ByteArray} {at1 ac au : Int} {pa pc : Value} {bn : ByteArray} {bt bc bu : Int} {pb : Value} {wx wy : World} (hb : Below wx.heap.size wx wy) (h : KS w wb q r c R an at1 ac au pa pc bn bt bc bu pb wx) : KS w wb q r c R an at1 ac au pa pc bn bt bc bu pb wy :=
  KQ.shown ⟨h.1.out.1.trans (hb.mono h.1.out.1.size), h.1.out.2.1.next hb, h.1.out.2.2.1.below hb, h.1.out.2.2.2.below hb⟩
theorem KS.get {w wb : World} {q r c R : Nat} {an : ByteArray} {at1 ac au : Int} {pa pc : Value} {bn : ByteArray} {bt bc bu : Int} {pb : Value} {wx : World} (h : KS w wb q r c R an at1 ac au pa pc bn bt bc bu pb wx) : Below wb.heap.size wb wx ∧ Below w.heap.size w wx := ⟨h.1.out.1, h.1.out.2.1.1⟩
theorem key_self (an : ByteArray) (at1 ac : Int) (W : World) : (binOp .eql 68 (.agg #[.string an, .int .i64 at1, .int .i64 ac]) (.agg #[.string an, .int .i64 at1, .int .i64 ac])).run Try.prog W = .ok (.bool true) W := by
  rw [key_eql]; simp

end Go.Proofs.Ytgdbbdbfaglkdaa
