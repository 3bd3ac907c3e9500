/- Zones: the search by halves, and Get. -/
import Derived.Test.YthfnphcefkdgbaaZnP
import Derived.Test.YthfnphcefkdgbaaZnK
namespace Go.Proofs.Ythfnphcefkdgbaa
open Go.RowKit

def ZS (wr : World) (b o q : Nat) (sn : ByteArray) (st sc1 su : Int) (dv : Value) (kn : ByteArray) (kt kc : Int) (wx : World) : Prop := Hid (Below wr.heap.size wr wx) ∧ wx.cell? ⟨b, o, none⟩ = some (.string sn) ∧ wx.cell? ⟨b, o + 1, none⟩ = some (.int .i64 st) ∧ wx.cell? ⟨b, o + 2, none⟩ = some (.int .i64 sc1) ∧ wx.cell? ⟨b, o + 3, none⟩ = some (.int .i64 su) ∧ wx.cell? ⟨b, o + 4, none⟩ = some dv ∧ wx.cell? ⟨q, 0, none⟩ = some (.string kn) ∧ wx.cell? ⟨q, 1, none⟩ = some (.int .i64 kt) ∧ wx.cell? ⟨q, 2, none⟩ = some (.int .i64 kc)
theorem ZS.of {wr : World} {b o q : Nat} {sn : ByteArray} {st sc1 su : Int} {dv : Value} {kn : ByteArray} {kt kc : Int} {wx : World} (hb : Below wr.heap.size wr wx) (h1 : b < wr.heap.size) (h2 : q < wr.heap.size) (h : ZS wr b o q sn st sc1 su dv kn kt kc wr) : ZS wr b o q sn st sc1 su dv kn kt kc wx :=
  ⟨hb, (hb.cell h1).trans h.2.1, (hb.cell h1).trans h.2.2.1, (hb.cell h1).trans h.2.2.2.1, (hb.cell h1).trans h.2.2.2.2.1, (hb.cell h1).trans h.2.2.2.2.2.1, (hb.cell h2).trans h.2.2.2.2.2.2.1, (hb.cell h2).trans h.2.2.2.2.2.2.2.1, (hb.cell h2).trans h.2.2.2.2.2.2.2.2⟩
theorem ZS.next {wr : World} {b o q : Nat} {sn : ByteArray} {st sc1 su : Int} {dv : Value} {kn : ByteArray} {kt kc : Int} {wx wy : World} (hb : Below wx.heap.size wx wy) (h1 : b < wr.heap.size) (h2 : q < wr.heap.size) (h0 : ZS wr b o q sn st sc1 su dv kn kt kc wr) (h : ZS wr b o q sn st sc1 su dv kn kt kc wx) : ZS wr b o q sn st sc1 su dv kn kt kc wy :=
  ZS.of (h.1.out.trans (hb.mono h.1.out.size)) h1 h2 h0
theorem ZS.get {wr : World} {b o q : Nat} {sn : ByteArray} {st sc1 su : Int} {dv : Value} {kn : ByteArray} {kt kc : Int} {wx : World} (h : ZS wr b o q sn st sc1 su dv kn kt kc wx) : Below wr.heap.size wr wx := h.1.out

def ZT (w1 : World) (z q : Nat) (dv : Value) (kn : ByteArray) (kt kc : Int) (wx : World) : Prop := Hid (Below w1.heap.size w1 wx) ∧ wx.cell? ⟨z, 1, none⟩ = some dv ∧ wx.cell? ⟨q, 0, none⟩ = some (.string kn) ∧ wx.cell? ⟨q, 1, none⟩ = some (.int .i64 kt) ∧ wx.cell? ⟨q, 2, none⟩ = some (.int .i64 kc)
theorem ZT.of {w1 wx : World} {z q : Nat} {dv : Value} {kn : ByteArray} {kt kc : Int} (hb : Below w1.heap.size w1 wx) (h1 : z < w1.heap.size) (h2 : q < w1.heap.size) (h : ZT w1 z q dv kn kt kc w1) : ZT w1 z q dv kn kt kc wx :=
  ⟨hb, (hb.cell h1).trans h.2.1, (hb.cell h2).trans h.2.2.1, (hb.cell h2).trans h.2.2.2.1, (hb.cell h2).trans h.2.2.2.2⟩
theorem ZT.next {w1 wx wy : World} {z q : Nat} {dv : Value} {kn : ByteArray} {kt kc : Int} (hb : Below wx.heap.size wx wy) (h1 : z < w1.heap.size) (h2 : q < w1.heap.size) (h0 : ZT w1 z q dv kn kt kc w1) (h : ZT w1 z q dv kn kt kc wx) : ZT w1 z q dv kn kt kc wy :=
  ZT.of (h.1.out.trans (hb.mono h.1.out.size)) h1 h2 h0

end Go.Proofs.Ythfnphcefkdgbaa
