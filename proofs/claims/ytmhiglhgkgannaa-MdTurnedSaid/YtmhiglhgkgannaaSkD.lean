/- Plain: a set as the reference's. -/
import Derived.Test.YtmhiglhgkgannaaMgE
namespace Go.Proofs.Ytmhiglhgkgannaa
open Go.RowKit

/-- The cells of a set. -/
def PP (w : World) (q1 : Nat) (n : ByteArray) (t c u : Int) (dv : Value) (wx : World) : Prop := Below w.heap.size w wx ∧ C5 wx q1 (.string n) (.int .i64 t) (.int .i64 c) (.int .i64 u) dv
def PC (w : World) (q1 : Nat) (n : ByteArray) (t c u : Int) (dv : Value) (wx : World) : Prop := Hid (PP w q1 n t c u dv wx) ∧ wx.cell? ⟨q1, 0, none⟩ = some (.string n) ∧ wx.cell? ⟨q1, 1, none⟩ = some (.int .i64 t) ∧ wx.cell? ⟨q1, 2, none⟩ = some (.int .i64 c) ∧ wx.cell? ⟨q1, 3, none⟩ = some (.int .i64 u) ∧ wx.cell? ⟨q1, 4, none⟩ = some dv
theorem PP.shown {w wx : World} {q1 : Nat} {n : ByteArray} {t c u : Int} {dv : Value} (h : PP w q1 n t c u dv wx) : PC w q1 n t c u dv wx := by
  have h' := Lib.hid h
  obtain ⟨_, ⟨_, p0, p1, p2, p3, p4, _⟩⟩ := h
  exact ⟨h', p0, p1, p2, p3, p4⟩
theorem PC.next {w wx wy : World} {q1 : Nat} {n : ByteArray} {t c u : Int} {dv : Value} (hb : Below wx.heap.size wx wy) (h : PC w q1 n t c u dv wx) : PC w q1 n t c u dv wy :=
  PP.shown ⟨h.1.out.1.trans (hb.mono h.1.out.1.size), h.1.out.2.below hb⟩
theorem PC.set {w wx : World} {q1 : Nat} {n : ByteArray} {t c u : Int} {dv : Value} (h : PC w q1 n t c u dv wx) (p : Addr) (hp : p.block ≠ q1) (hw : w.heap.size ≤ p.block) (v : Value) : PC w q1 n t c u dv (wx.setCell p v) :=
  PP.shown ⟨h.1.out.1.setCell hw v, h.1.out.2.far p hp v⟩

end Go.Proofs.Ytmhiglhgkgannaa
