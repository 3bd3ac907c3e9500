/- wire.Ask, wire.Add. -/
import Derived.Test.YtgppkpdjpcegbaaStp
namespace Go.Proofs.Ytgppkpdjpcegbaa
open Go.RowKit

theorem own_set4 {w : World} {base : Nat} {e : TypeId} {size n : Nat} {v : Value} {xs : List Value} (h : w.ownsRow base e size v n xs) {p : Addr} (hp : p.block < base) (u : Value) : (w.setCell p u).ownsRow base e size v n xs := by
  have hb := (Below.refl 0 w).setCell (Nat.zero_le p.block) u
  exact h.kept (row := some p.block) ⟨hb.os, hb.tape, hb.output, hb.size, fun k _ hne => heap_setCell_other w p k u (fun e => hne (by rw [e]))⟩ (Or.inr (fun e => by have := (h.lt _ e).1; omega))
theorem rowRR2 (w : World) {xa la : Option Addr} {xl xc ll lc : Nat} {X L : List R5} (hx : RowR w xa xl X) (hxn : xa = none → xl = 0 ∧ xc = 0) (hl : RowR w la ll L) (hln : la = none → ll = 0 ∧ lc = 0) : RowRR (w.alloc (.cells #[.slice xa xl xc, .slice la ll lc] 35)) (some ⟨w.heap.size, 0, none⟩) 2 [X, L] := by
  have hba := (Below.refl w.heap.size w).alloc (Nat.le_refl _) (.cells #[.slice xa xl xc, .slice la ll lc] 35)
  refine ⟨_, cells_lit w #[.slice xa xl xc, .slice la ll lc] 35, rfl, fun j u hj => ?_⟩
  match j, hj with
  | 0, hj =>
    obtain rfl : Value.slice xa xl xc = u := by simpa using hj
    exact ⟨X, rfl, xa, xc, by rw [hx.1], by rw [hx.1]; exact hx.below hba, by rw [hx.1]; exact hxn⟩
  | 1, hj =>
    obtain rfl : Value.slice la ll lc = u := by simpa using hj
    exact ⟨L, rfl, la, lc, by rw [hl.1], by rw [hl.1]; exact hl.below hba, by rw [hl.1]; exact hln⟩
  | j + 2, hj => simp at hj

set_option maxRecDepth 100000 in
set_option maxHeartbeats 4000000 in
theorem ask_ex (i : Int) (qa : Option Addr) (ql qc : Nat) (Q : List Ky) (w : World) (hq : RowQ w qa ql Q) (hqn : qa = none → ql = 0 ∧ qc = 0) (hql : ql ≤ 100000) :
    Calls Try.prog 15 #[.int .i64 i, .slice qa ql qc] w fun e w' => ∃ (qa2 : Option Addr) (qc2 : Nat), e = .returned (.agg #[.int .i64 i, .int .i64 0, .int .i64 0, .bool false, .bool false, .bool false, .bool false, .bool false, .slice qa2 ql qc2, .slice none 0 0, .slice none 0 0, .slice none 0 0]) ∧ w'.ownsRow w.heap.size 27 3 (.slice qa2 ql qc2) ql (flatQ Q) ∧ Below w.heap.size w w' := by
  have hb1 := (Below.refl w.heap.size w).alloc (Nat.le_refl _) (.cells #[.int .i64 0, .int .i64 0, .int .i64 0, .bool false, .bool false, .bool false, .bool false, .bool false, .slice none 0 0, .slice none 0 0, .slice none 0 0, .slice none 0 0] 37)
  have HC := Lib.hid (CN.new w #[.int .i64 0, .int .i64 0, .int .i64 0, .bool false, .bool false, .bool false, .bool false, .bool false, .slice none 0 0, .slice none 0 0, .slice none 0 0, .slice none 0 0] 37)
  have HQ := Lib.hid (hq.below hb1)
  have HQN := Lib.hid hqn
  have HB := Lib.hid hb1
  clear hq hqn hb1
  go_enter Try.func15, Try.ntmps15
  go_wp2_with fail
  refine (cloneQ qa ql qc Q _ HQ.out HQN.out hql).mono ?_; rintro e w2 ⟨v, rfl, ho, hb⟩
  obtain ⟨qa2, qc2, rfl, _⟩ := rowQ_own ho
  have HO := Lib.hid ho
  have HC2 := Lib.hid (HC.out.below hb)
  have HB2 := Lib.hid (HB.out.trans (hb.mono HB.out.size))
  clear ho hb HC
  have hlt := HC2.out.1
  obtain ⟨y0, y1, y2, y3, y4, y5, y6, y7, y8, y9, y10, y11, g0, g1, g2, g3, g4, g5, g6, g7, g8, g9, g10, g11⟩ := HC2.out.u12
  have KZ := Lib.hid (HC2.out.s12 (.int .i64 i) (.int .i64 0) (.int .i64 0) (.bool false) (.bool false) (.bool false) (.bool false) (.bool false) (.slice qa2 ql qc2) (.slice none 0 0) (.slice none 0 0) (.slice none 0 0))
  have HG := Lib.hid (grown_s12 w2 w.heap.size (.int .i64 i) (.int .i64 0) (.int .i64 0) (.bool false) (.bool false) (.bool false) (.bool false) (.bool false) (.slice qa2 ql qc2) (.slice none 0 0) (.slice none 0 0) (.slice none 0 0))
  have HBZ := Lib.hid (HB2.out.grown HG.out HB2.out.size (fun k hk => by injection hk with hk; omega))
  have HOZ := Lib.hid (HO.out.kept HG.out (by
    cases hv : (Value.slice qa2 ql qc2).ownBlock with
    | none => exact Or.inl rfl
    | some k => exact Or.inr (fun e => by have := (HO.out.lt k hv).1; rw [World.size_alloc] at this; injection e with e; omega)))
  go_wp2
  obtain ⟨wz, hwz⟩ : ∃ x, ((((((((((((w2.setCell ⟨w.heap.size, 0, none⟩ (.int .i64 i)).setCell ⟨w.heap.size, 1, none⟩ (.int .i64 0)).setCell ⟨w.heap.size, 2, none⟩ (.int .i64 0)).setCell ⟨w.heap.size, 3, none⟩ (.bool false)).setCell ⟨w.heap.size, 4, none⟩ (.bool false)).setCell ⟨w.heap.size, 5, none⟩ (.bool false)).setCell ⟨w.heap.size, 6, none⟩ (.bool false)).setCell ⟨w.heap.size, 7, none⟩ (.bool false)).setCell ⟨w.heap.size, 8, none⟩ (.slice qa2 ql qc2)).setCell ⟨w.heap.size, 9, none⟩ (.slice none 0 0)).setCell ⟨w.heap.size, 10, none⟩ (.slice none 0 0)).setCell ⟨w.heap.size, 11, none⟩ (.slice none 0 0)) = x := ⟨_, rfl⟩
  rw [hwz] at KZ HBZ HOZ ⊢
  clear hwz HG y0 g0 y1 g1 y2 g2 y3 g3 y4 g4 y5 g5 y6 g6 y7 g7 y8 g8 y9 g9 y10 g10 y11 g11
  obtain ⟨z0, z1, z2, z3, z4, z5, z6, z7, z8, z9, z10, z11, _⟩ := KZ.out.u12
  refine bodyPost_ret (v := .agg #[.int .i64 i, .int .i64 0, .int .i64 0, .bool false, .bool false, .bool false, .bool false, .bool false, .slice qa2 ql qc2, .slice none 0 0, .slice none 0 0, .slice none 0 0]) (by simp [results, Try.results15, go_sem, z0, z1, z2, z3, z4, z5, z6, z7, z8, z9, z10, z11]) rfl ⟨qa2, qc2, rfl, own_mono4 HOZ.out (by simp), HBZ.out⟩
set_option maxRecDepth 100000 in
set_option maxHeartbeats 4000000 in
theorem add1 (q : Nat) (c0 : Value) (c1 : Value) (c2 : Value) (c3 : Value) (c4 : Value) (c5 : Value) (c6 : Value) (c7 : Value) (c8 : Value) (c10 : Value) (c11 : Value) (xa la : Option Addr) (xl xc ll lc : Nat) (X L : List R5) (w : World) (hc : CN w q [c0, c1, c2, c3, c4, c5, c6, c7, c8, .slice xa xl xc, c10, c11]) (hx : RowR w xa xl X) (hxn : xa = none → xl = 0 ∧ xc = 0) (hl : RowR w la ll L) (hln : la = none → ll = 0 ∧ lc = 0) (hs : xl + ll ≤ 100000) :
    Calls Try.prog 42 #[.pointer (some ⟨q, 0, none⟩), .int .i64 1, .slice la ll lc] w fun e w' => ∃ v, e = .returned (.bool true) ∧ CN w' q [c0, c1, c2, c3, c4, c5, c6, c7, c8, v, c10, c11] ∧ w'.ownsRow w.heap.size 77 5 v (xl + ll) (flatR (X ++ L)) ∧ w.grownBy w' (some q) := by
  have hba := (Below.refl w.heap.size w).alloc (Nat.le_refl _) (.cells #[.slice xa xl xc, .slice la ll lc] 35)
  have HRR := Lib.hid (rowRR2 w hx hxn hl hln)
  have HLN := Lib.hid (show [X, L].flatten.length = xl + ll by simp [hx.1, hl.1])
  have HC := Lib.hid hc
  have HCA := Lib.hid (hc.below hba)
  have HBA := Lib.hid hba
  have hql := hc.1
  obtain ⟨y0, y1, y2, y3, y4, y5, y6, y7, y8, y9, y10, y11, g0, g1, g2, g3, g4, g5, g6, g7, g8, g9, g10, g11⟩ := hc.u12
  clear hc hx hxn hl hln hba 
  go_enter Try.func42, Try.ntmps42
  go_wp2_with fail
  refine (concatRR _ _ _ _ _ HRR.out (by omega) (by rw [HLN.out]; exact hs)).mono ?_; rintro e w2 ⟨v, rfl, ho, hb⟩
  obtain ⟨va, vc, rfl, _⟩ := rowR_own ho
  rw [HLN.out] at ho
  rw [HLN.out]
  have HO := Lib.hid (own_mono4 ho HBA.out.size)
  have HC2 := Lib.hid (HCA.out.below hb)
  have HG2 := Lib.hid ((bel_grown HBA.out (some q)).trans (bel_grown hb (some q)))
  clear ho hb y0 g0 y1 g1 y2 g2 y3 g3 y4 g4 y5 g5 y6 g6 y7 g7 y8 g8 y9 g9 y10 g10 y11 g11 HC HCA
  obtain ⟨y0, y1, y2, y3, y4, y5, y6, y7, y8, y9, y10, y11, g0, g1, g2, g3, g4, g5, g6, g7, g8, g9, g10, g11⟩ := HC2.out.u12
  have HC3 := Lib.hid (HC2.out.set 9 (by simp) (.slice va (xl + ll) vc))
  have HG3 := Lib.hid (HG2.out.trans (grown_cell w2 q 9 (.slice va (xl + ll) vc)))
  have HO3 := Lib.hid (own_set4 HO.out (p := ⟨q, 9, none⟩) hql (.slice va (xl + ll) vc))
  go_wp2
  go_ret
  exact ⟨_, rfl, HC3.out, by simpa using HO3.out, HG3.out⟩
set_option maxRecDepth 100000 in
set_option maxHeartbeats 4000000 in
theorem add2 (q : Nat) (c0 : Value) (c1 : Value) (c2 : Value) (c3 : Value) (c4 : Value) (c5 : Value) (c6 : Value) (c7 : Value) (c8 : Value) (c9 : Value) (c11 : Value) (xa la : Option Addr) (xl xc ll lc : Nat) (X L : List R5) (w : World) (hc : CN w q [c0, c1, c2, c3, c4, c5, c6, c7, c8, c9, .slice xa xl xc, c11]) (hx : RowR w xa xl X) (hxn : xa = none → xl = 0 ∧ xc = 0) (hl : RowR w la ll L) (hln : la = none → ll = 0 ∧ lc = 0) (hs : xl + ll ≤ 100000) :
    Calls Try.prog 42 #[.pointer (some ⟨q, 0, none⟩), .int .i64 2, .slice la ll lc] w fun e w' => ∃ v, e = .returned (.bool true) ∧ CN w' q [c0, c1, c2, c3, c4, c5, c6, c7, c8, c9, v, c11] ∧ w'.ownsRow w.heap.size 77 5 v (xl + ll) (flatR (X ++ L)) ∧ w.grownBy w' (some q) := by
  have hba := (Below.refl w.heap.size w).alloc (Nat.le_refl _) (.cells #[.slice xa xl xc, .slice la ll lc] 35)
  have HRR := Lib.hid (rowRR2 w hx hxn hl hln)
  have HLN := Lib.hid (show [X, L].flatten.length = xl + ll by simp [hx.1, hl.1])
  have HC := Lib.hid hc
  have HCA := Lib.hid (hc.below hba)
  have HBA := Lib.hid hba
  have hql := hc.1
  obtain ⟨y0, y1, y2, y3, y4, y5, y6, y7, y8, y9, y10, y11, g0, g1, g2, g3, g4, g5, g6, g7, g8, g9, g10, g11⟩ := hc.u12
  clear hc hx hxn hl hln hba 
  go_enter Try.func42, Try.ntmps42
  go_wp2_with fail
  refine (concatRR _ _ _ _ _ HRR.out (by omega) (by rw [HLN.out]; exact hs)).mono ?_; rintro e w2 ⟨v, rfl, ho, hb⟩
  obtain ⟨va, vc, rfl, _⟩ := rowR_own ho
  rw [HLN.out] at ho
  rw [HLN.out]
  have HO := Lib.hid (own_mono4 ho HBA.out.size)
  have HC2 := Lib.hid (HCA.out.below hb)
  have HG2 := Lib.hid ((bel_grown HBA.out (some q)).trans (bel_grown hb (some q)))
  clear ho hb y0 g0 y1 g1 y2 g2 y3 g3 y4 g4 y5 g5 y6 g6 y7 g7 y8 g8 y9 g9 y10 g10 y11 g11 HC HCA
  obtain ⟨y0, y1, y2, y3, y4, y5, y6, y7, y8, y9, y10, y11, g0, g1, g2, g3, g4, g5, g6, g7, g8, g9, g10, g11⟩ := HC2.out.u12
  have HC3 := Lib.hid (HC2.out.set 10 (by simp) (.slice va (xl + ll) vc))
  have HG3 := Lib.hid (HG2.out.trans (grown_cell w2 q 10 (.slice va (xl + ll) vc)))
  have HO3 := Lib.hid (own_set4 HO.out (p := ⟨q, 10, none⟩) hql (.slice va (xl + ll) vc))
  go_wp2
  go_ret
  exact ⟨_, rfl, HC3.out, by simpa using HO3.out, HG3.out⟩
set_option maxRecDepth 100000 in
set_option maxHeartbeats 4000000 in
theorem add3 (q : Nat) (c0 : Value) (c1 : Value) (c2 : Value) (c3 : Value) (c4 : Value) (c5 : Value) (c6 : Value) (c7 : Value) (c8 : Value) (c9 : Value) (c10 : Value) (xa la : Option Addr) (xl xc ll lc : Nat) (X L : List R5) (w : World) (hc : CN w q [c0, c1, c2, c3, c4, c5, c6, c7, c8, c9, c10, .slice xa xl xc]) (hx : RowR w xa xl X) (hxn : xa = none → xl = 0 ∧ xc = 0) (hl : RowR w la ll L) (hln : la = none → ll = 0 ∧ lc = 0) (hs : xl + ll ≤ 100000) :
    Calls Try.prog 42 #[.pointer (some ⟨q, 0, none⟩), .int .i64 3, .slice la ll lc] w fun e w' => ∃ v, e = .returned (.bool true) ∧ CN w' q [c0, c1, c2, c3, c4, c5, c6, c7, c8, c9, c10, v] ∧ w'.ownsRow w.heap.size 77 5 v (xl + ll) (flatR (X ++ L)) ∧ w.grownBy w' (some q) := by
  have hba := (Below.refl w.heap.size w).alloc (Nat.le_refl _) (.cells #[.slice xa xl xc, .slice la ll lc] 35)
  have HRR := Lib.hid (rowRR2 w hx hxn hl hln)
  have HLN := Lib.hid (show [X, L].flatten.length = xl + ll by simp [hx.1, hl.1])
  have HC := Lib.hid hc
  have HCA := Lib.hid (hc.below hba)
  have HBA := Lib.hid hba
  have hql := hc.1
  obtain ⟨y0, y1, y2, y3, y4, y5, y6, y7, y8, y9, y10, y11, g0, g1, g2, g3, g4, g5, g6, g7, g8, g9, g10, g11⟩ := hc.u12
  clear hc hx hxn hl hln hba 
  go_enter Try.func42, Try.ntmps42
  go_wp2_with fail
  refine (concatRR _ _ _ _ _ HRR.out (by omega) (by rw [HLN.out]; exact hs)).mono ?_; rintro e w2 ⟨v, rfl, ho, hb⟩
  obtain ⟨va, vc, rfl, _⟩ := rowR_own ho
  rw [HLN.out] at ho
  rw [HLN.out]
  have HO := Lib.hid (own_mono4 ho HBA.out.size)
  have HC2 := Lib.hid (HCA.out.below hb)
  have HG2 := Lib.hid ((bel_grown HBA.out (some q)).trans (bel_grown hb (some q)))
  clear ho hb y0 g0 y1 g1 y2 g2 y3 g3 y4 g4 y5 g5 y6 g6 y7 g7 y8 g8 y9 g9 y10 g10 y11 g11 HC HCA
  obtain ⟨y0, y1, y2, y3, y4, y5, y6, y7, y8, y9, y10, y11, g0, g1, g2, g3, g4, g5, g6, g7, g8, g9, g10, g11⟩ := HC2.out.u12
  have HC3 := Lib.hid (HC2.out.set 11 (by simp) (.slice va (xl + ll) vc))
  have HG3 := Lib.hid (HG2.out.trans (grown_cell w2 q 11 (.slice va (xl + ll) vc)))
  have HO3 := Lib.hid (own_set4 HO.out (p := ⟨q, 11, none⟩) hql (.slice va (xl + ll) vc))
  go_wp2
  go_ret
  exact ⟨_, rfl, HC3.out, by simpa using HO3.out, HG3.out⟩
end Go.Proofs.Ytgppkpdjpcegbaa
