/- Cells that stay while memory is only made. -/
import Derived.Test.YthfnphcefkdgbaaGreatMgA
namespace Go.Proofs.YthfnphcefkdgbaaGreat
open Go.RowKit
def Fix (wB : World) (cs : List (Addr × Value)) (wx : World) : Prop := Below wB.heap.size wB wx ∧ ∀ c ∈ cs, c.1.block < wB.heap.size ∧ wB.cell? c.1 = some c.2
theorem Fix.below {wB : World} {cs : List (Addr × Value)} {wx : World} (h : Fix wB cs wx) : Below wB.heap.size wB wx := h.1
theorem Fix.cell {wB : World} {cs : List (Addr × Value)} {wx : World} (h : Fix wB cs wx) {a : Addr} {v : Value} (hm : (a, v) ∈ cs) : wx.cell? a = some v := (h.1.cell (h.2 _ hm).1).trans (h.2 _ hm).2
theorem Fix.go {wB : World} {cs : List (Addr × Value)} {wx wy : World} (h : Fix wB cs wx) (hb : Below wx.heap.size wx wy) : Fix wB cs wy := ⟨h.1.trans (hb.mono h.1.size), h.2⟩
theorem Fix.start {wB : World} {cs : List (Addr × Value)} (h : ∀ c ∈ cs, c.1.block < wB.heap.size ∧ wB.cell? c.1 = some c.2) : Fix wB cs wB := ⟨Below.refl _ _, h⟩
theorem Fix.grown {wB : World} {cs : List (Addr × Value)} {wx wy : World} {row : Option Nat} (h : Fix wB cs wx) (hg : wx.grownBy wy row) (hr : ∀ k, row = some k → wB.heap.size ≤ k) : Fix wB cs wy := ⟨h.1.grown hg h.1.size hr, h.2⟩
theorem Fix.drew {wB : World} {cs : List (Addr × Value)} {wx : World} (h : Fix wB cs wx) : Fix wB cs wx.drew := h.go ((Below.refl _ _).drew)
theorem Fix.all6 {wB wx : World} {a1 a2 a3 a4 a5 a6 : Addr} {v1 v2 v3 v4 v5 v6 : Value} (h : Fix wB [(a1, v1), (a2, v2), (a3, v3), (a4, v4), (a5, v5), (a6, v6)] wx) : Hid (Fix wB [(a1, v1), (a2, v2), (a3, v3), (a4, v4), (a5, v5), (a6, v6)] wx) ∧ wx.cell? a1 = some v1 ∧ wx.cell? a2 = some v2 ∧ wx.cell? a3 = some v3 ∧ wx.cell? a4 = some v4 ∧ wx.cell? a5 = some v5 ∧ wx.cell? a6 = some v6 :=
 ⟨Lib.hid h, h.cell (by simp), h.cell (by simp), h.cell (by simp), h.cell (by simp), h.cell (by simp), h.cell (by simp)⟩
theorem Fix.next6 {wB wx wy : World} {a1 a2 a3 a4 a5 a6 : Addr} {v1 v2 v3 v4 v5 v6 : Value} (hb : Below wx.heap.size wx wy) (h : Hid (Fix wB [(a1, v1), (a2, v2), (a3, v3), (a4, v4), (a5, v5), (a6, v6)] wx) ∧ wx.cell? a1 = some v1 ∧ wx.cell? a2 = some v2 ∧ wx.cell? a3 = some v3 ∧ wx.cell? a4 = some v4 ∧ wx.cell? a5 = some v5 ∧ wx.cell? a6 = some v6) : Hid (Fix wB [(a1, v1), (a2, v2), (a3, v3), (a4, v4), (a5, v5), (a6, v6)] wy) ∧ wy.cell? a1 = some v1 ∧ wy.cell? a2 = some v2 ∧ wy.cell? a3 = some v3 ∧ wy.cell? a4 = some v4 ∧ wy.cell? a5 = some v5 ∧ wy.cell? a6 = some v6 :=
 (h.1.out.go hb).all6
theorem Fix.get6 {wB wx : World} {a1 a2 a3 a4 a5 a6 : Addr} {v1 v2 v3 v4 v5 v6 : Value} (h : Hid (Fix wB [(a1, v1), (a2, v2), (a3, v3), (a4, v4), (a5, v5), (a6, v6)] wx) ∧ wx.cell? a1 = some v1 ∧ wx.cell? a2 = some v2 ∧ wx.cell? a3 = some v3 ∧ wx.cell? a4 = some v4 ∧ wx.cell? a5 = some v5 ∧ wx.cell? a6 = some v6) : Below wB.heap.size wB wx := h.1.out.1
end Go.Proofs.YthfnphcefkdgbaaGreat
