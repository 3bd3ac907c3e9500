/- Zones: Soa. -/
import Derived.Test.YtfopfplpfhncfaaGreatZnD
namespace Go.Proofs.YtfopfplpfhncfaaGreat
open Go.RowKit

theorem CN.u7 {w : World} {q : Nat} {c0 c1 c2 c3 c4 c5 c6 : Value} (h : CN w q [c0, c1, c2, c3, c4, c5, c6]) : w.cell? ⟨q, 0, none⟩ = some c0 ∧ w.cell? ⟨q, 1, none⟩ = some c1 ∧ w.cell? ⟨q, 2, none⟩ = some c2 ∧ w.cell? ⟨q, 3, none⟩ = some c3 ∧ w.cell? ⟨q, 4, none⟩ = some c4 ∧ w.cell? ⟨q, 5, none⟩ = some c5 ∧ w.cell? ⟨q, 6, none⟩ = some c6 ∧ w.frozen? ⟨q, 0, none⟩ = false ∧ w.frozen? ⟨q, 1, none⟩ = false ∧ w.frozen? ⟨q, 2, none⟩ = false ∧ w.frozen? ⟨q, 3, none⟩ = false ∧ w.frozen? ⟨q, 4, none⟩ = false ∧ w.frozen? ⟨q, 5, none⟩ = false ∧ w.frozen? ⟨q, 6, none⟩ = false :=
  ⟨(h.2 0 _ rfl).1, (h.2 1 _ rfl).1, (h.2 2 _ rfl).1, (h.2 3 _ rfl).1, (h.2 4 _ rfl).1, (h.2 5 _ rfl).1, (h.2 6 _ rfl).1, (h.2 0 _ rfl).2, (h.2 1 _ rfl).2, (h.2 2 _ rfl).2, (h.2 3 _ rfl).2, (h.2 4 _ rfl).2, (h.2 5 _ rfl).2, (h.2 6 _ rfl).2⟩
theorem CN.s7 {w : World} {q : Nat} {c0 c1 c2 c3 c4 c5 c6 : Value} (h : CN w q [c0, c1, c2, c3, c4, c5, c6]) (v0 v1 v2 v3 v4 v5 v6 : Value) : CN (((((((w.setCell ⟨q, 0, none⟩ v0).setCell ⟨q, 1, none⟩ v1).setCell ⟨q, 2, none⟩ v2).setCell ⟨q, 3, none⟩ v3).setCell ⟨q, 4, none⟩ v4).setCell ⟨q, 5, none⟩ v5).setCell ⟨q, 6, none⟩ v6) q [v0, v1, v2, v3, v4, v5, v6] := (((((((h.set 0 (by simp) v0).set 1 (by simp) v1).set 2 (by simp) v2).set 3 (by simp) v3).set 4 (by simp) v4).set 5 (by simp) v5).set 6 (by simp) v6)
theorem grown_s7 (w : World) (q : Nat) (v0 v1 v2 v3 v4 v5 v6 : Value) : w.grownBy (((((((w.setCell ⟨q, 0, none⟩ v0).setCell ⟨q, 1, none⟩ v1).setCell ⟨q, 2, none⟩ v2).setCell ⟨q, 3, none⟩ v3).setCell ⟨q, 4, none⟩ v4).setCell ⟨q, 5, none⟩ v5).setCell ⟨q, 6, none⟩ v6) (some q) := ((((((grown_cell w q 0 v0).trans (grown_cell _ q 1 v1)).trans (grown_cell _ q 2 v2)).trans (grown_cell _ q 3 v3)).trans (grown_cell _ q 4 v4)).trans (grown_cell _ q 5 v5)).trans (grown_cell _ q 6 v6)
theorem getSoaV_ex (d : ByteArray) : ∃ M R x1 x2 x3 x4 x5 b, getSoaV d = .tuple #[.agg #[.string M, .string R, .int .i64 x1, .int .i64 x2, .int .i64 x3, .int .i64 x4, .int .i64 x5], .bool b] := by
  unfold getSoaV
  split <;> exact ⟨_, _, _, _, _, _, _, _, rfl⟩

set_option maxRecDepth 100000 in
set_option maxHeartbeats 4000000 in
theorem zsoa_any (z : Nat) (apex : ByteArray) (S : List SetP) (s0 : SetP) (d0 : ByteArray) (D : List ByteArray) (M R : ByteArray) (x1 x2 x3 x4 x5 : Int) (b : Bool) (w : World) (h : ZnAt w z apex S) (hr : RiseS S) (hz : SzZ S) (ha : apex.size ≤ 1000000) (hf : findK S ⟨apex, 6, 1⟩ = some s0) (hd : s0.data = d0 :: D) (hds : d0.size ≤ 1000000) (hg : getSoaV d0 = .tuple #[.agg #[.string M, .string R, .int .i64 x1, .int .i64 x2, .int .i64 x3, .int .i64 x4, .int .i64 x5], .bool b]) :
    Calls Tryz.prog 22 #[.pointer (some ⟨z, 0, none⟩)] w fun e w' => e = .returned (.agg #[.string M, .string R, .int .i64 x1, .int .i64 x2, .int .i64 x3, .int .i64 x4, .int .i64 x5]) ∧ Below w.heap.size w w' := by
  have HG := Lib.hid (fun wx => getSoa_any d0 wx hds)
  rw [hg] at HG
  have hb1 := (Below.refl w.heap.size w).alloc (Nat.le_refl _) (.cells #[.string ⟨#[]⟩, .string ⟨#[]⟩, .int .i64 0, .int .i64 0, .int .i64 0, .int .i64 0, .int .i64 0] 56)
  have HC := Lib.hid (CN.new w #[.string ⟨#[]⟩, .string ⟨#[]⟩, .int .i64 0, .int .i64 0, .int .i64 0, .int .i64 0, .int .i64 0] 56)
  replace HC : Hid (CN (w.alloc (.cells #[.string ⟨#[]⟩, .string ⟨#[]⟩, .int .i64 0, .int .i64 0, .int .i64 0, .int .i64 0, .int .i64 0] 56)) w.heap.size [.string ⟨#[]⟩, .string ⟨#[]⟩, .int .i64 0, .int .i64 0, .int .i64 0, .int .i64 0, .int .i64 0]) := HC
  have HB := Lib.hid hb1
  have HZA := Lib.hid h
  have HGET := Lib.hid (fun wx (hx : Below w.heap.size w wx) => zget_any z apex S apex 6 1 wx (h.below hx) hr hz ha)
  have HY := Lib.hid (h.below hb1)
  clear h hr hz ha hb1 hg hds
  go_enter Tryz.func22, Tryz.ntmps22
  go_upto_region 1 with (fail)
  obtain ⟨w1, hw1⟩ : ∃ x, w.alloc (.cells #[.string ⟨#[]⟩, .string ⟨#[]⟩, .int .i64 0, .int .i64 0, .int .i64 0, .int .i64 0, .int .i64 0] 56) = x := ⟨_, rfl⟩
  rw [hw1] at HC HB HY ⊢
  clear hw1
  obtain ⟨q, hq⟩ : ∃ q, w.heap.size = q := ⟨_, rfl⟩
  rw [show (Value.pointer (some { block := w.heap.size, off := 0 })) = Value.pointer (some { block := q, off := 0 }) by rw [hq]]
  rw [hq] at HC
  have HQ := Lib.hid (show w.heap.size ≤ q by rw [← hq]; exact Nat.le_refl _)
  clear hq
  obtain ⟨a, c, hz2, -⟩ := HY.out
  obtain ⟨y0, y1⟩ := hz2.w2
  clear hz2
  go_wp2_with fail
  refine (zkey_any apex 6 _).mono ?_; rintro e w2 ⟨rfl, hb2⟩
  have HB2 := Lib.hid (HB.out.trans (hb2.mono HB.out.size))
  clear y0 y1
  go_wp2_with fail
  refine (HGET.out w2 HB2.out).mono ?_; rintro e w3 ⟨hff, hb3⟩
  have HX := Lib.hid (hb2.trans (hb3.mono hb2.size))
  have HB3 := Lib.hid (HB.out.trans (HX.out.mono HB.out.size))
  have HC3 := Lib.hid (HC.out.below HX.out)
  clear hb2 hb3 HX HB HC HY HB2 HGET
  rcases hff with ⟨s, dv, hfs, rfl, ho⟩ | ⟨hfn, -⟩
  case inr => rw [hf] at hfn; cases hfn
  obtain rfl : s0 = s := by rw [hf] at hfs; exact Option.some.inj hfs
  clear hfs hf
  obtain ⟨⟨sn, st, sc1⟩, su, sd⟩ := s0
  obtain rfl : sd = d0 :: D := hd
  replace ho : w3.ownsRow w2.heap.size 9 1 dv (D.length + 1) (.string d0 :: sc D) := ho
  obtain ⟨g, c9, rfl⟩ : ∃ g c9, dv = .slice (some ⟨g, 0, none⟩) (D.length + 1) c9 := by
    rcases ho.2 with ⟨_, h1⟩ | ⟨g', cap, cur, e, _⟩
    · omega
    · exact ⟨g', cap, e⟩
  have hc0 : w3.cell? ⟨g, 0, none⟩ = some (.string d0) := ownsRow_at ho 0 _ rfl
  have HC0 := Lib.hid hc0
  obtain ⟨dl, hdl⟩ : ∃ x, D.length + 1 = x := ⟨_, rfl⟩
  have i2 : (0 : Int) < (dl : Int) := by omega
  rw [hdl]
  clear ho hc0 hdl
  dsimp only
  go_upto_region 2 with (fail)
  have HBA := Lib.hid ((Below.refl w3.heap.size w3).alloc (Nat.le_refl _) (.cells #[.string sn, .int .i64 st, .int .i64 sc1, .int .i64 su, .slice (some ⟨g, 0, none⟩) dl c9] 38))
  have HC7 := Lib.hid (c5_new w3 (.string sn) (.int .i64 st) (.int .i64 sc1) (.int .i64 su) (.slice (some ⟨g, 0, none⟩) dl c9) 38)
  obtain ⟨w4, hw4⟩ : ∃ x, w3.alloc (.cells #[.string sn, .int .i64 st, .int .i64 sc1, .int .i64 su, .slice (some ⟨g, 0, none⟩) dl c9] 38) = x := ⟨_, rfl⟩
  rw [hw4] at HBA HC7 ⊢
  clear hw4
  have HB4 := Lib.hid (HB3.out.trans (HBA.out.mono HB3.out.size))
  have HC4 := Lib.hid (HC3.out.below HBA.out)
  have k0 := cell_later4 HBA.out HC0.out
  obtain ⟨_, x0', x1', x2', x3', x4', _⟩ := HC7.out
  clear HBA HB3 HC3 HC0
  go_wp2_with fail
  refine (HG.out _).mono ?_; rintro e w5 ⟨rfl, hb5⟩
  have HB5 := Lib.hid (HB4.out.trans (hb5.mono HB4.out.size))
  have HC5 := Lib.hid (HC4.out.below hb5)
  clear hb5 HB4 HC4 HC7 k0 x0' x1' x2' x3' x4'
  go_upto_region 3 with (fail)
  have HBA := Lib.hid ((Below.refl w5.heap.size w5).alloc (Nat.le_refl _) (.cells #[.string M, .string R, .int .i64 x1, .int .i64 x2, .int .i64 x3, .int .i64 x4, .int .i64 x5] 56))
  have HN := Lib.hid (CN.new w5 #[.string M, .string R, .int .i64 x1, .int .i64 x2, .int .i64 x3, .int .i64 x4, .int .i64 x5] 56)
  replace HN : Hid (CN (w5.alloc (.cells #[.string M, .string R, .int .i64 x1, .int .i64 x2, .int .i64 x3, .int .i64 x4, .int .i64 x5] 56)) w5.heap.size [.string M, .string R, .int .i64 x1, .int .i64 x2, .int .i64 x3, .int .i64 x4, .int .i64 x5]) := HN
  obtain ⟨w6, hw6⟩ : ∃ x, w5.alloc (.cells #[.string M, .string R, .int .i64 x1, .int .i64 x2, .int .i64 x3, .int .i64 x4, .int .i64 x5] 56) = x := ⟨_, rfl⟩
  rw [hw6] at HBA HN ⊢
  clear hw6
  have HB6 := Lib.hid (HB5.out.trans (HBA.out.mono HB5.out.size))
  have HC6 := Lib.hid (HC5.out.below HBA.out)
  clear HBA HB5 HC5
  obtain ⟨n0, n1, n2, n3, n4, n5, n6, _⟩ := HN.out.u7
  obtain ⟨y0, y1, y2, y3, y4, y5, y6, g0, g1, g2, g3, g4, g5, g6⟩ := HC6.out.u7
  have KZ := Lib.hid (HC6.out.s7 (.string M) (.string R) (.int .i64 x1) (.int .i64 x2) (.int .i64 x3) (.int .i64 x4) (.int .i64 x5))
  have HBZ := Lib.hid (HB6.out.grown (grown_s7 w6 q (.string M) (.string R) (.int .i64 x1) (.int .i64 x2) (.int .i64 x3) (.int .i64 x4) (.int .i64 x5)) HB6.out.size (fun k hk => by injection hk with hk; rw [← hk]; exact HQ.out))
  go_wp2
  obtain ⟨wz, hwz⟩ : ∃ x, (((((((w6.setCell ⟨q, 0, none⟩ (.string M)).setCell ⟨q, 1, none⟩ (.string R)).setCell ⟨q, 2, none⟩ (.int .i64 x1)).setCell ⟨q, 3, none⟩ (.int .i64 x2)).setCell ⟨q, 4, none⟩ (.int .i64 x3)).setCell ⟨q, 5, none⟩ (.int .i64 x4)).setCell ⟨q, 6, none⟩ (.int .i64 x5)) = x := ⟨_, rfl⟩
  rw [hwz] at KZ HBZ ⊢
  clear hwz y0 y1 y2 y3 y4 y5 y6 g0 g1 g2 g3 g4 g5 g6 n0 n1 n2 n3 n4 n5 n6
  obtain ⟨z0, z1, z2, z3, z4, z5, z6, _⟩ := KZ.out.u7
  refine bodyPost_ret (v := .agg #[.string M, .string R, .int .i64 x1, .int .i64 x2, .int .i64 x3, .int .i64 x4, .int .i64 x5]) (by simp [results, Tryz.results22, go_sem, z0, z1, z2, z3, z4, z5, z6]) rfl ⟨rfl, HBZ.out⟩
end Go.Proofs.YtfopfplpfhncfaaGreat
