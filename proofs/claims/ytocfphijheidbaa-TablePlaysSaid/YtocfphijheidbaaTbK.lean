/- One Wait taken out of a row: contract of slices.Delete (written by mktbk.py). -/
import Derived.Test.YtocfphijheidbaaTbJ
namespace Go.Proofs.Ytocfphijheidbaa
open Go.RowKit

theorem flatW_take : ∀ (l : List WtP) (i : Nat), (flatW l).take (i * 9) = flatW (l.take i)
  | [], i => by simp [flatW]
  | a :: l, 0 => by simp [flatW]
  | a :: l, i + 1 => by
    rw [List.take_succ_cons, flatW, flatW, List.flatMap_cons, List.flatMap_cons, show (i + 1) * 9 = (encW a).length + i * 9 by rw [encW_len]; omega, List.take_append, List.take_of_length_le (by omega), Nat.add_sub_cancel_left]
    congr 1
    exact flatW_take l i
theorem flatW_drop : ∀ (l : List WtP) (i : Nat), (flatW l).drop (i * 9) = flatW (l.drop i)
  | [], i => by simp [flatW]
  | a :: l, 0 => by simp [flatW]
  | a :: l, i + 1 => by
    rw [List.drop_succ_cons, flatW, List.flatMap_cons, show (i + 1) * 9 = (encW a).length + i * 9 by rw [encW_len]; omega, List.drop_append, List.drop_of_length_le (by omega), Nat.add_sub_cancel_left, List.nil_append]
    exact flatW_drop l i
theorem run_clearW (w : World) (ty : TypeId) (b o c : Nat) (hc : ∀ j, j < 9 → (w.cell? ⟨b, o + j, none⟩).isSome = true) (hf : ∀ j, j < 9 → w.frozen? ⟨b, o + j, none⟩ = false) :
    (Builtin.clear_ #[102] ty #[.slice (some ⟨b, o, none⟩) 1 c]).run Try.prog w = .ok (.tuple #[]) (w.setCells b o zWt.cells.toList) := by
  obtain ⟨i0, hi, hz0, hz1, hz2⟩ := info_parts infoWt
  have hv : ∀ w, (zeroValue 79).run Try.prog w = .ok zWt w := fun w => by simp [zeroValue, typeInfo, hi, hz0, Result.andThen]
  have hzc : (Builtin.zeroCells zWt.cells 1).toList = zWt.cells.toList := by kernel_rfl
  have hst := run_storeCells_cells (P := Try.prog) b o zWt.cells.toList 0 w (by simpa [zWt, Value.cells] using hc) (by simpa [zWt, Value.cells] using hf) (by intro v hv'; simp [zWt, Value.cells] at hv'; rcases hv' with rfl | rfl | rfl | rfl | rfl <;> rfl)
  simp only [Nat.add_zero] at hst
  simp [Builtin.clear_, run_underlying Try.underlying102, hv, hzc, hst]
set_option maxRecDepth 100000 in
set_option maxHeartbeats 2000000 in
theorem delete_any (g n c i j : Nat) (l : List WtP) (w : World) (h : w.ownsRow 0 79 9 (.slice (some ⟨g, 0, none⟩) n c) n (flatW l)) (hl : l.length = n) (hi : i < n) (hij : j = i + 1) (hn : n ≤ 100000) :
    Calls Try.prog 84 #[.slice (some ⟨g, 0, none⟩) n c, .int .i64 i, .int .i64 j] w fun e w' => e = .returned (.slice (some ⟨g, 0, none⟩) (n - 1) c) ∧ w'.ownsRow 0 79 9 (.slice (some ⟨g, 0, none⟩) (n - 1) c) (n - 1) (flatW (l.eraseIdx i)) ∧ Frm w w' [g] := by
  obtain ⟨i0, hi0, hz0, hz1, hz2⟩ := info_parts infoWt
  have hnc : n ≤ c := by
    rcases h.2 with ⟨h', _⟩ | ⟨g', cap', cur, h', _, _, hnc, _⟩
    · cases h'
    · injection h' with _ _ h3; subst h3; exact hnc
  obtain ⟨n1, hn1⟩ : ∃ z, n - 1 = z := ⟨_, rfl⟩
  obtain ⟨m2, hm2⟩ : ∃ z, n - j = z := ⟨_, rfl⟩
  obtain ⟨c2, hc2⟩ : ∃ z, c - j = z := ⟨_, rfl⟩
  obtain ⟨c6, hc6⟩ : ∃ z, c - n1 = z := ⟨_, rfl⟩
  have hs1 := slice_headT Try.underlying102 hi0 hz1 g n c i (by omega)
  obtain ⟨ad, hs2, hadn, had⟩ := slice_tailT Try.underlying102 hi0 hz1 g n c j (by omega) hnc
  rw [hm2, hc2] at hs2
  have hs6 := slice_lhK Try.underlying102 hi0 hz1 g n1 c n1 n (by omega) hnc (by omega)
  rw [show n - n1 = 1 by omega, hc6] at hs6
  have HI := Lib.hid hi0
  have HZ1 := Lib.hid hz1
  have HO := Lib.hid h
  have HIJ := Lib.hid (show i < n ∧ j = i + 1 ∧ n1 + 1 = n ∧ n ≤ c from ⟨hi, hij, by omega, hnc⟩)
  have HN1 := Lib.hid (show i + m2 = n1 by omega)
  have HROOM := Lib.hid (show i + m2 ≤ c by omega)
  have HAD := Lib.hid (show ad = none → m2 = 0 ∧ c2 = 0 from fun e => by obtain ⟨x, hx⟩ := hadn; rw [hx] at e; cases e)
  have HONE := Lib.hid (show ∀ u ∈ (flatW l).drop (j * 9), u.oneCell' = true from fun u hu => flatW_one l u (List.mem_of_mem_drop hu))
  have hlt : g < w.heap.size := (h.lt g rfl).2
  have HCW := Lib.hid (show CellsAt w ad (m2 * 9) ((flatW l).drop (j * 9)) from ⟨by rw [List.length_drop, flatW_len, hl, ← hm2]; omega, by
    by_cases hjn : j < n
    · exact Or.inr ⟨g, j * 9, had hjn, hlt, fun k u hk => by rw [List.getElem?_drop] at hk; exact ownsRow_at h _ u hk⟩
    · exact Or.inl (by omega)⟩)
  have HXS := Lib.hid (show (flatW l).take (i * 9) ++ (flatW l).drop (j * 9) = flatW (l.eraseIdx i) from by rw [flatW_take, flatW_drop, ← flatW_app, hij, List.eraseIdx_eq_take_drop_succ])
  have e1 : (i == j) = false := by
    rw [beq_eq_false_iff_ne]
    have := HIJ.out
    omega
  have e2 : ((i : Int) == (j : Int)) = false := eF (by have := HIJ.out; omega)
  have e3 : ¬ n = i := by omega
  have b1 : (0 : Int) ≤ (i : Int) := by omega
  have b2 : (i : Int) ≤ (j : Int) := by omega
  have b3 : (j : Int) ≤ (n : Int) := by omega
  have b4 : (n : Int) ≤ (c : Int) := by omega
  have HND := Lib.hid hn1
  rw [hn1]
  clear h hl hi hij hn hnc hn1 hm2 hc2 hc6 hadn had hi0 hz0 hz1 hz2 hlt
  go_enter Try.func84, Try.ntmps84
  go_upto_region 5 with (fail)
  refine wp_region_held_drew (S := (fun _ => True)) (by kernel_rfl) (trivial) (fun hHeld => ?_)
  have hb := (Below.refl w.heap.size w).drew
  obtain ⟨wd, hwd⟩ : ∃ z, w.drew = z := ⟨_, rfl⟩
  rw [hwd] at hb ⊢
  have HBD := Lib.hid hb
  have HPRE := Lib.hid (own_below' (own_prefixT HO.out i (by have := HIJ.out; omega)) hb)
  have HCA := Lib.hid (HCW.out.below hb)
  clear hwd hb HCW
  refine wpAnyH_take (i := 0) (oi := { dst := some 20, op := Go.Op.move (Go.Operand.tmp 0), type := 102, pos := "slices.go:232", after := #[], guard := none }) (v := ?v0_310101) rfl (by kernel_rfl) (by kernel_rfl) (by kernel_rfl) (fun _ _ _ h => h) (Or.inl ⟨by rfl, ?y0_310101⟩) hHeld ?r0_310101
  case y0_310101 => intro w hSw; (try dsimp only at hSw); go_simp; try with_reducible rfl
  try simp only [Act.put, List.setIfInBounds_toArray, List.set_cons_zero, List.set_cons_succ]
  refine wpAnyH_take (i := 1) (oi := { dst := some 21, op := Go.Op.move (Go.Operand.tmp 1), type := 3, pos := "slices.go:232", after := #[], guard := none }) (v := ?v1_310101) rfl (by kernel_rfl) (by kernel_rfl) (by kernel_rfl) (fun _ _ _ h => h) (Or.inl ⟨by rfl, ?y1_310101⟩) hHeld ?r1_310101
  case y1_310101 => intro w hSw; (try dsimp only at hSw); go_simp; try with_reducible rfl
  try simp only [Act.put, List.setIfInBounds_toArray, List.set_cons_zero, List.set_cons_succ]
  refine wpAnyH_take (i := 2) (oi := { dst := some 22, op := Go.Op.slice 102 (Go.Operand.tmp 20) none (some (Go.Operand.tmp 21)) none, type := 102, pos := "slices.go:232", after := #[{ on := 0, ground := Go.Ground.data }, { on := 1, ground := Go.Ground.data }], guard := none }) (v := ?v2_310101) rfl (by kernel_rfl) (by kernel_rfl) (by kernel_rfl) (fun _ _ _ h => h) (Or.inl ⟨by rfl, ?y2_310101⟩) hHeld ?r2_310101
  case y2_310101 => intro w hSw; (try dsimp only at hSw); go_simp; try with_reducible rfl
  try simp only [Act.put, List.setIfInBounds_toArray, List.set_cons_zero, List.set_cons_succ]
  refine wpAnyH_take (i := 3) (oi := { dst := some 23, op := Go.Op.move (Go.Operand.tmp 0), type := 102, pos := "slices.go:232", after := #[], guard := none }) (v := ?v3_310101) rfl (by kernel_rfl) (by kernel_rfl) (by kernel_rfl) (fun _ _ _ h => h) (Or.inl ⟨by rfl, ?y3_310101⟩) hHeld ?r3_310101
  case y3_310101 => intro w hSw; (try dsimp only at hSw); go_simp; try with_reducible rfl
  try simp only [Act.put, List.setIfInBounds_toArray, List.set_cons_zero, List.set_cons_succ]
  refine wpAnyH_take (i := 4) (oi := { dst := some 24, op := Go.Op.move (Go.Operand.tmp 2), type := 3, pos := "slices.go:232", after := #[], guard := none }) (v := ?v4_310101) rfl (by kernel_rfl) (by kernel_rfl) (by kernel_rfl) (fun _ _ _ h => h) (Or.inl ⟨by rfl, ?y4_310101⟩) hHeld ?r4_310101
  case y4_310101 => intro w hSw; (try dsimp only at hSw); go_simp; try with_reducible rfl
  try simp only [Act.put, List.setIfInBounds_toArray, List.set_cons_zero, List.set_cons_succ]
  refine wpAnyH_take (i := 5) (oi := { dst := some 25, op := Go.Op.slice 102 (Go.Operand.tmp 23) (some (Go.Operand.tmp 24)) none none, type := 102, pos := "slices.go:232", after := #[{ on := 3, ground := Go.Ground.data }, { on := 4, ground := Go.Ground.data }], guard := none }) (v := ?v5_310101) rfl (by kernel_rfl) (by kernel_rfl) (by kernel_rfl) (fun _ _ _ h => h) (Or.inl ⟨by rfl, ?y5_310101⟩) hHeld ?r5_310101
  case y5_310101 => intro w hSw; (try dsimp only at hSw); go_simp; try with_reducible rfl
  try simp only [Act.put, List.setIfInBounds_toArray, List.set_cons_zero, List.set_cons_succ]
  refine wpAnyH_ready (rs := [6]) (by kernel_rfl) (by simp) ?_
  refine AllReadyH.cons (o := { dst := some 26, op := Go.Op.call { callee := Go.Callee.builtin Go.Builtin.append, args := #[Go.Operand.tmp 22, Go.Operand.tmp 25], argTypes := #[102, 102] }, type := 102, pos := "slices.go:232", after := #[{ on := 2, ground := Go.Ground.data }, { on := 5, ground := Go.Ground.data }], guard := none }) rfl (fun K hK => ?_) AllReadyH.nil
  refine step_append_in (by rfl) (.tmp 22) (.tmp 25) 102 79 (by rfl) i0 9 Try.underlying102 HI.out HZ1.out g i c ((flatW l).take (i * 9)) (by rfl) HPRE.out ad m2 c2 ((flatW l).drop (j * 9)) (by rfl) HCA.out HAD.out HONE.out HROOM.out ?_
  intro w2 g1 g2
  rw [HN1.out] at g1 ⊢
  have HO2 := Lib.hid g1
  have HF2 := Lib.hid (((Frm.refl w [g]).below HBD.out (Nat.le_refl _)).grown g2 (fun b hb => by simp at hb; subst hb; exact Or.inl (by simp)))
  clear g1 g2
  refine hK.out _ _ (trivial) (fun hHeld2 => ?_)
  clear hK K hHeld
  have hHeld := hHeld2
  clear hHeld2
  try simp only [Act.put, List.setIfInBounds_toArray, List.set_cons_zero, List.set_cons_succ]
  refine wpAnyH_take (i := 7) (oi := { dst := some 0, op := Go.Op.assign (Go.Operand.tmp 26), type := 102, pos := "slices.go:232", after := #[{ on := 6, ground := Go.Ground.data }, { on := 6, ground := Go.Ground.chain }, { on := 0, ground := Go.Ground.phase }, { on := 1, ground := Go.Ground.phase }, { on := 2, ground := Go.Ground.phase }, { on := 3, ground := Go.Ground.phase }, { on := 4, ground := Go.Ground.phase }, { on := 5, ground := Go.Ground.phase }, { on := 6, ground := Go.Ground.phase }], guard := none }) (v := ?v7_310102) rfl (by kernel_rfl) (by kernel_rfl) (by kernel_rfl) (fun _ _ _ h => h) (Or.inl ⟨by rfl, ?y7_310102⟩) hHeld ?r7_310102
  case y7_310102 => intro w hSw; (try dsimp only at hSw); go_simp; try with_reducible rfl
  try simp only [Act.put, List.setIfInBounds_toArray, List.set_cons_zero]
  refine wpAnyH_done (by kernel_rfl) ?_ _
  go_upto_region 6 with (fail)
  have hcc : ∀ k, k < 9 → (w2.cell? ⟨g, n1 * 9 + k, none⟩).isSome = true ∧ w2.frozen? ⟨g, n1 * 9 + k, none⟩ = false := fun k hk => by
    rcases HO2.out.2 with ⟨h', _⟩ | ⟨g', cap', cur, h', _, hg, hnc, _, hcs, _⟩
    · cases h'
    · injection h' with h1 h2 h3
      injection h1 with h1
      injection h1 with h1
      subst h1 h3
      have hlt : n1 * 9 + k < cur.size := by rw [hcs]; have := HIJ.out; omega
      refine ⟨?_, by simp [World.frozen?, hg]⟩
      simp [World.cell?, hg, hlt]
  have hcl := run_clearW w2 0 g (n1 * 9) c6 (fun k hk => (hcc k hk).1) (fun k hk => (hcc k hk).2)
  have HO3 := Lib.hid (own_beyonds zWt.cells.toList (n1 * 9) w2 (Nat.le_refl _) HO2.out)
  have HF3 := Lib.hid (HF2.out.sets g (n1 * 9) (Or.inl (by simp)) zWt.cells.toList)
  clear hcc HO2 HF2
  obtain ⟨w3, hw3⟩ : ∃ z, w2.setCells g (n1 * 9) zWt.cells.toList = z := ⟨_, rfl⟩
  rw [hw3] at hcl HO3 HF3
  clear hw3
  go_wp2
  go_ret
  exact ⟨rfl, by rw [← HXS.out]; exact HO3.out, HF3.out⟩
end Go.Proofs.Ytocfphijheidbaa
