/- The document's All and May. -/
import Derived.Test.YtkoafkajmfodkaaRwA
import Derived.Test.YtkoafkajmfodkaaMgC
import Derived.Test.YtkoafkajmfodkaaEc5
namespace Go.Proofs.Ytkoafkajmfodkaa
open Go.RowKit

theorem infoRR5 : (Try.prog.info? 75).map (fun i => (i.zero, i.size, i.bytes)) = some (some (.agg #[.string ⟨#[]⟩, .int .i64 0, .int .i64 0, .int .i64 0, .string ⟨#[]⟩]), 5, 56) := by kernel_rfl
theorem flat_app (A N : List R5) : flatR A ++ flatR N = flatR (A ++ N) := by simp [flatR]
theorem flat_one (A : List R5) : ∀ u ∈ flatR A, u.oneCell' = true := by
  intro u hu
  simp only [flatR, List.mem_flatMap] at hu
  obtain ⟨r, _, hu⟩ := hu
  simp only [encR, List.mem_cons, List.not_mem_nil, or_false] at hu
  rcases hu with rfl | rfl | rfl | rfl | rfl <;> rfl
set_option maxRecDepth 100000 in
set_option maxHeartbeats 4000000 in
theorem rall_any (mi mo mr : Int) (b1 b2 b3 b4 b5 : Bool) (qa na sa xa : Option Addr) (ql qc nl nc sl sc xl xc : Nat) (A N X : List R5) (w : World) (ha : RowR w na nl A) (han : na = none → nl = 0 ∧ nc = 0) (hn : RowR w sa sl N) (hnn : sa = none → sl = 0 ∧ sc = 0) (hx : RowR w xa xl X) (hxn : xa = none → xl = 0 ∧ xc = 0) (hl : nl ≤ 100000 ∧ sl ≤ 100000 ∧ xl ≤ 100000) :
    Calls Try.prog 29 #[.agg #[.int .i64 mi, .int .i64 mo, .int .i64 mr, .bool b1, .bool b2, .bool b3, .bool b4, .bool b5, .slice qa ql qc, .slice na nl nc, .slice sa sl sc, .slice xa xl xc]] w fun e w' => ∃ v, e = .returned v ∧ w'.ownsRow w.heap.size 75 5 v (nl + sl + xl) (flatR (A ++ (N ++ X))) ∧ Below w.heap.size w w' := by
  obtain ⟨i0, hi, hz0, hz1, hz2⟩ := info_parts infoRR5
  have HI := Lib.hid hi
  have HZ0 := Lib.hid hz0
  have HZ1 := Lib.hid hz1
  have HZ2 := Lib.hid hz2
  have HR := Lib.hid (show RowR w na nl A ∧ RowR w sa sl N ∧ RowR w xa xl X from ⟨ha, hn, hx⟩)
  have HNO := Lib.hid (show (na = none → nl = 0 ∧ nc = 0) ∧ (sa = none → sl = 0 ∧ sc = 0) ∧ (xa = none → xl = 0 ∧ xc = 0) from ⟨han, hnn, hxn⟩)
  have HLL := Lib.hid hl
  have hb0 := (Below.refl w.heap.size w).alloc (Nat.le_refl _) (.cells #[.int .i64 mi, .int .i64 mo, .int .i64 mr, .bool b1, .bool b2, .bool b3, .bool b4, .bool b5, .slice qa ql qc, .slice na nl nc, .slice sa sl sc, .slice xa xl xc] 32)
  have HC := Lib.hid (CN.new w #[.int .i64 mi, .int .i64 mo, .int .i64 mr, .bool b1, .bool b2, .bool b3, .bool b4, .bool b5, .slice qa ql qc, .slice na nl nc, .slice sa sl sc, .slice xa xl xc] 32)
  have HB := Lib.hid hb0
  obtain ⟨w1, hw1⟩ : ∃ x, w.alloc (.cells #[.int .i64 mi, .int .i64 mo, .int .i64 mr, .bool b1, .bool b2, .bool b3, .bool b4, .bool b5, .slice qa ql qc, .slice na nl nc, .slice sa sl sc, .slice xa xl xc] 32) = x := ⟨_, rfl⟩
  obtain ⟨g, hg⟩ : ∃ x, w.heap.size = x := ⟨_, rfl⟩
  rw [hw1] at HC HB
  have HC1 := HC.out
  rw [hg] at HC1
  replace HC := Lib.hid HC1
  have HW1 := Lib.hid hw1
  have HG := Lib.hid hg
  clear hi hz0 hz1 hz2 ha han hn hnn hx hxn hl hb0 hw1 hg HC1
  go_enter Try.func29, Try.ntmps29
  go_upto_region 1 with (fail)
  rw [HW1.out, HG.out]
  obtain ⟨wd, hwd⟩ : ∃ x, w1.drew = x := ⟨_, rfl⟩
  have HBD := Lib.hid (show Below w.heap.size w wd by rw [← hwd]; exact HB.out.drew)
  have HCD := Lib.hid (show CN wd g [.int .i64 mi, .int .i64 mo, .int .i64 mr, .bool b1, .bool b2, .bool b3, .bool b4, .bool b5, .slice qa ql qc, .slice na nl nc, .slice sa sl sc, .slice xa xl xc] by rw [← hwd]; exact HC.out)
  obtain ⟨bq, hbq⟩ : ∃ x, w1.heap.size = x := ⟨_, rfl⟩
  have HLB := Lib.hid (show bq ≤ wd.heap.size ∧ g < bq ∧ w.heap.size ≤ bq by rw [← hwd, ← hbq]; exact ⟨Nat.le_refl _, HC.out.1, HB.out.size⟩)
  clear hbq
  refine wp_region_held_drew (S := (fun wx => CN wx g [.int .i64 mi, .int .i64 mo, .int .i64 mr, .bool b1, .bool b2, .bool b3, .bool b4, .bool b5, .slice qa ql qc, .slice na nl nc, .slice sa sl sc, .slice xa xl xc])) (by kernel_rfl) (by rw [hwd]; exact HCD.out) (fun hHeld => ?_)
  rw [hwd] at hHeld ⊢
  clear hwd
  refine wpAnyH_take (i := 1) (oi := { dst := some 4, op := Go.Op.fieldAddr 32 (Go.Operand.tmp 1) 2, type := 0, pos := "ref.go:73", after := #[], guard := none }) (v := ?v1_470101) rfl (by kernel_rfl) (by kernel_rfl) (by kernel_rfl) (fun _ _ _ h => h) (Or.inl ⟨by rfl, ?y1_470101⟩) hHeld ?r1_470101
  case y1_470101 => intro w hSw; (try dsimp only at hSw); have y0 := (hSw.2 9 _ rfl).1; have y1 := (hSw.2 10 _ rfl).1; have y2 := (hSw.2 11 _ rfl).1; go_simp; try with_reducible rfl
  try simp only [Act.put, List.setIfInBounds_toArray, List.set_cons_zero, List.set_cons_succ]
  refine wpAnyH_take (i := 2) (oi := { dst := some 5, op := Go.Op.load 25 (Go.Operand.tmp 4), type := 25, pos := "ref.go:73", after := #[{ on := 1, ground := Go.Ground.data }], guard := none }) (v := ?v2_470101) rfl (by kernel_rfl) (by kernel_rfl) (by kernel_rfl) (fun _ _ _ h => h) (Or.inl ⟨by rfl, ?y2_470101⟩) hHeld ?r2_470101
  case y2_470101 => intro w hSw; (try dsimp only at hSw); have y0 := (hSw.2 9 _ rfl).1; have y1 := (hSw.2 10 _ rfl).1; have y2 := (hSw.2 11 _ rfl).1; go_simp; try with_reducible rfl
  try simp only [Act.put, List.setIfInBounds_toArray, List.set_cons_zero, List.set_cons_succ]
  refine wpAnyH_take (i := 4) (oi := { dst := some 7, op := Go.Op.fieldAddr 32 (Go.Operand.tmp 1) 3, type := 0, pos := "ref.go:73", after := #[], guard := none }) (v := ?v4_470101) rfl (by kernel_rfl) (by kernel_rfl) (by kernel_rfl) (fun _ _ _ h => h) (Or.inl ⟨by rfl, ?y4_470101⟩) hHeld ?r4_470101
  case y4_470101 => intro w hSw; (try dsimp only at hSw); have y0 := (hSw.2 9 _ rfl).1; have y1 := (hSw.2 10 _ rfl).1; have y2 := (hSw.2 11 _ rfl).1; go_simp; try with_reducible rfl
  try simp only [Act.put, List.setIfInBounds_toArray, List.set_cons_zero, List.set_cons_succ]
  refine wpAnyH_take (i := 5) (oi := { dst := some 8, op := Go.Op.load 25 (Go.Operand.tmp 7), type := 25, pos := "ref.go:73", after := #[{ on := 4, ground := Go.Ground.data }], guard := none }) (v := ?v5_470101) rfl (by kernel_rfl) (by kernel_rfl) (by kernel_rfl) (fun _ _ _ h => h) (Or.inl ⟨by rfl, ?y5_470101⟩) hHeld ?r5_470101
  case y5_470101 => intro w hSw; (try dsimp only at hSw); have y0 := (hSw.2 9 _ rfl).1; have y1 := (hSw.2 10 _ rfl).1; have y2 := (hSw.2 11 _ rfl).1; go_simp; try with_reducible rfl
  try simp only [Act.put, List.setIfInBounds_toArray, List.set_cons_zero, List.set_cons_succ]
  refine wpAnyH_take (i := 7) (oi := { dst := some 10, op := Go.Op.fieldAddr 32 (Go.Operand.tmp 1) 4, type := 0, pos := "ref.go:73", after := #[], guard := none }) (v := ?v7_470101) rfl (by kernel_rfl) (by kernel_rfl) (by kernel_rfl) (fun _ _ _ h => h) (Or.inl ⟨by rfl, ?y7_470101⟩) hHeld ?r7_470101
  case y7_470101 => intro w hSw; (try dsimp only at hSw); have y0 := (hSw.2 9 _ rfl).1; have y1 := (hSw.2 10 _ rfl).1; have y2 := (hSw.2 11 _ rfl).1; go_simp; try with_reducible rfl
  try simp only [Act.put, List.setIfInBounds_toArray, List.set_cons_zero, List.set_cons_succ]
  refine wpAnyH_take (i := 8) (oi := { dst := some 11, op := Go.Op.load 25 (Go.Operand.tmp 10), type := 25, pos := "ref.go:73", after := #[{ on := 7, ground := Go.Ground.data }], guard := none }) (v := ?v8_470101) rfl (by kernel_rfl) (by kernel_rfl) (by kernel_rfl) (fun _ _ _ h => h) (Or.inl ⟨by rfl, ?y8_470101⟩) hHeld ?r8_470101
  case y8_470101 => intro w hSw; (try dsimp only at hSw); have y0 := (hSw.2 9 _ rfl).1; have y1 := (hSw.2 10 _ rfl).1; have y2 := (hSw.2 11 _ rfl).1; go_simp; try with_reducible rfl
  try simp only [Act.put, List.setIfInBounds_toArray, List.set_cons_zero, List.set_cons_succ]
  refine wpAnyH_ready (rs := [0]) (by kernel_rfl) (by simp) ?_
  refine AllReadyH.cons (o := { dst := some 3, op := Go.Op.buildSlice 25 0 #[], type := 25, pos := "ref.go:73", after := #[], guard := none }) rfl (fun K hK => ?_) AllReadyH.nil
  go_simp
  have hba := (Below.refl wd.heap.size wd).alloc (Nat.le_refl _) (.cells #[] 75)
  have HO0 := Lib.hid (World.ownsRow_made (base := bq) (e := 75) (size := 5) wd #[] 0 HLB.out.1 (by decide) rfl)
  have HC0 := Lib.hid (HCD.out.below hba)
  have HS0 := Lib.hid (Nat.le_trans HLB.out.1 hba.size)
  have HB0 := Lib.hid (HBD.out.trans (hba.mono HBD.out.size))
  obtain ⟨z0, hz0⟩ : ∃ x, wd.alloc (.cells #[] 75) = x := ⟨_, rfl⟩
  obtain ⟨g0, hg0⟩ : ∃ x, wd.heap.size = x := ⟨_, rfl⟩
  rw [hz0] at HO0 HC0 HB0 HS0 hba ⊢
  rw [hg0] at HO0 ⊢
  clear hba hz0 hg0
  refine hK.out _ _ (HC0.out) (fun hHeld2 => ?_)
  clear hK K hHeld
  have hHeld := hHeld2
  clear hHeld2
  try simp only [Act.put, List.setIfInBounds_toArray, List.set_cons_zero, List.set_cons_succ]
  refine wpAnyH_ready (rs := [3]) (by kernel_rfl) (by simp) ?_
  refine AllReadyH.cons (o := { dst := some 6, op := Go.Op.call { callee := Go.Callee.builtin Go.Builtin.append, args := #[Go.Operand.tmp 3, Go.Operand.tmp 5], argTypes := #[25, 25] }, type := 25, pos := "ref.go:73", after := #[{ on := 0, ground := Go.Ground.data }, { on := 2, ground := Go.Ground.data }], guard := none }) rfl (fun K hK => ?_) AllReadyH.nil
  refine step_append_cellsK (by rfl) _ _ 25 75 (by rfl) i0 _ 5 56 Try.underlying25 HI.out HZ0.out HZ1.out HZ2.out (by rfl) (by decide) bq _ _ _ (by rfl) HO0.out na nl nc (flatR A) (by rfl) HNO.out.1 (HR.out.1.below HB0.out).2 (flat_one A) (by have := HLL.out; omega) (by decide) HS0.out ?_
  intro v1 z1 ho hg9
  have HC1 := Lib.hid (HC0.out.grown hg9 (fun e => by have h9 := (HO0.out.lt g e.symm).1; have := HLB.out.2.1; omega))
  have HB1 := Lib.hid (HB0.out.grown hg9 HB0.out.size (fun j hj => Nat.le_trans HLB.out.2.2 (HO0.out.lt j hj).1))
  have HS1 := Lib.hid (Nat.le_trans HS0.out hg9.size)
  rw [Nat.zero_add, show ((#[] : Array Value).toList ++ flatR A) = flatR A from rfl] at ho
  have HO1 := Lib.hid ho
  clear ho hg9
  refine hK.out _ _ (HC1.out) (fun hHeld2 => ?_)
  clear hK K hHeld
  have hHeld := hHeld2
  clear hHeld2
  try simp only [Act.put, List.setIfInBounds_toArray, List.set_cons_zero, List.set_cons_succ]
  refine wpAnyH_ready (rs := [6]) (by kernel_rfl) (by simp) ?_
  refine AllReadyH.cons (o := { dst := some 9, op := Go.Op.call { callee := Go.Callee.builtin Go.Builtin.append, args := #[Go.Operand.tmp 6, Go.Operand.tmp 8], argTypes := #[25, 25] }, type := 25, pos := "ref.go:73", after := #[{ on := 3, ground := Go.Ground.data }, { on := 5, ground := Go.Ground.data }, { on := 3, ground := Go.Ground.chain }], guard := none }) rfl (fun K hK => ?_) AllReadyH.nil
  refine step_append_cellsK (by rfl) _ _ 25 75 (by rfl) i0 _ 5 56 Try.underlying25 HI.out HZ0.out HZ1.out HZ2.out (by rfl) (by decide) bq _ _ _ (by rfl) HO1.out sa sl sc (flatR N) (by rfl) HNO.out.2.1 (HR.out.2.1.below HB1.out).2 (flat_one N) (by have := HLL.out; omega) (by decide) HS1.out ?_
  intro v2 z2 ho hg9
  have HC2 := Lib.hid (HC1.out.grown hg9 (fun e => by have h9 := (HO1.out.lt g e.symm).1; have := HLB.out.2.1; omega))
  have HB2 := Lib.hid (HB1.out.grown hg9 HB1.out.size (fun j hj => Nat.le_trans HLB.out.2.2 (HO1.out.lt j hj).1))
  have HS2 := Lib.hid (Nat.le_trans HS1.out hg9.size)
  rw [flat_app] at ho
  have HO2 := Lib.hid ho
  clear ho hg9
  refine hK.out _ _ (HC2.out) (fun hHeld2 => ?_)
  clear hK K hHeld
  have hHeld := hHeld2
  clear hHeld2
  try simp only [Act.put, List.setIfInBounds_toArray, List.set_cons_zero, List.set_cons_succ]
  refine wpAnyH_ready (rs := [9]) (by kernel_rfl) (by simp) ?_
  refine AllReadyH.cons (o := { dst := some 12, op := Go.Op.call { callee := Go.Callee.builtin Go.Builtin.append, args := #[Go.Operand.tmp 9, Go.Operand.tmp 11], argTypes := #[25, 25] }, type := 25, pos := "ref.go:73", after := #[{ on := 6, ground := Go.Ground.data }, { on := 8, ground := Go.Ground.data }, { on := 6, ground := Go.Ground.chain }], guard := none }) rfl (fun K hK => ?_) AllReadyH.nil
  refine step_append_cellsK (by rfl) _ _ 25 75 (by rfl) i0 _ 5 56 Try.underlying25 HI.out HZ0.out HZ1.out HZ2.out (by rfl) (by decide) bq _ _ _ (by rfl) HO2.out xa xl xc (flatR X) (by rfl) HNO.out.2.2 (HR.out.2.2.below HB2.out).2 (flat_one X) (by have := HLL.out; omega) (by decide) HS2.out ?_
  intro v3 z3 ho hg9
  have HC3 := Lib.hid (HC2.out.grown hg9 (fun e => by have h9 := (HO2.out.lt g e.symm).1; have := HLB.out.2.1; omega))
  have HB3 := Lib.hid (HB2.out.grown hg9 HB2.out.size (fun j hj => Nat.le_trans HLB.out.2.2 (HO2.out.lt j hj).1))
  have HS3 := Lib.hid (Nat.le_trans HS2.out hg9.size)
  rw [flat_app, List.append_assoc] at ho
  have HO3 := Lib.hid ho
  clear ho hg9
  refine hK.out _ _ (HC3.out) (fun hHeld2 => ?_)
  clear hK K hHeld
  have hHeld := hHeld2
  clear hHeld2
  try simp only [Act.put, List.setIfInBounds_toArray, List.set_cons_zero, List.set_cons_succ]
  refine wpAnyH_take (i := 10) (oi := { dst := some 2, op := Go.Op.assign (Go.Operand.tmp 12), type := 25, pos := "ref.go:73", after := #[{ on := 9, ground := Go.Ground.data }, { on := 9, ground := Go.Ground.chain }, { on := 0, ground := Go.Ground.phase }, { on := 1, ground := Go.Ground.phase }, { on := 2, ground := Go.Ground.phase }, { on := 3, ground := Go.Ground.phase }, { on := 4, ground := Go.Ground.phase }, { on := 5, ground := Go.Ground.phase }, { on := 6, ground := Go.Ground.phase }, { on := 7, ground := Go.Ground.phase }, { on := 8, ground := Go.Ground.phase }, { on := 9, ground := Go.Ground.phase }], guard := none }) (v := ?v10_470105) rfl (by kernel_rfl) (by kernel_rfl) (by kernel_rfl) (fun _ _ _ h => h) (Or.inl ⟨by rfl, ?y10_470105⟩) hHeld ?r10_470105
  case y10_470105 => intro w hSw; (try dsimp only at hSw); have y0 := (hSw.2 9 _ rfl).1; have y1 := (hSw.2 10 _ rfl).1; have y2 := (hSw.2 11 _ rfl).1; go_simp; try with_reducible rfl
  try simp only [Act.put, List.setIfInBounds_toArray, List.set_cons_zero, List.set_cons_succ]
  refine wpAnyH_done (by kernel_rfl) ?_ _
  obtain ⟨va, vc, rfl, -⟩ := cellsK_own HO3.out
  go_wp2
  go_ret
  exact ⟨_, rfl, own_mono4 HO3.out HLB.out.2.2, HB3.out⟩
theorem mayO_41 {r : R5} (h : r.k.t = 41) : mayX r = mayO' r := by
  have h1 : mayRr r = false := by
    unfold mayRr mayR
    rw [dF (p := r.k.t ≠ 41 ∧ r.k.t ≠ 252 ∧ r.k.t ≠ 255) (by omega), Bool.false_and]
  unfold mayX
  rw [h1, mayO_split, dT h, Bool.true_and, Bool.false_or]
theorem mayO_no {r : R5} (h : ¬ r.k.t = 41) : mayX r = mayRr r := by
  unfold mayX
  rw [mayO_split, dF h, Bool.false_and, Bool.or_false]
/-- What record number i of all must be. -/
def mayI (p i : Nat) (r : R5) : Bool := if i < p then mayRr r else mayX r
theorem all_mayI {A N X : List R5} : (X.all mayX && (A.all mayRr && N.all mayRr)) = true ↔ ∀ i r, (A ++ (N ++ X))[i]? = some r → mayI (A.length + N.length) i r = true := by
  constructor
  · intro h i r hr
    simp only [Bool.and_eq_true, List.all_eq_true] at h
    obtain ⟨h1, h2, h3⟩ := h
    unfold mayI
    rw [← List.append_assoc] at hr
    split
    · rename_i hi
      rw [List.getElem?_append_left (by rw [List.length_append]; exact hi)] at hr
      rcases List.mem_append.1 (List.mem_of_getElem? hr) with h | h
      · exact h2 _ h
      · exact h3 _ h
    · rename_i hi
      rw [List.getElem?_append_right (by rw [List.length_append]; omega)] at hr
      exact h1 _ (List.mem_of_getElem? hr)
  · intro h
    simp only [Bool.and_eq_true, List.all_eq_true]
    refine ⟨fun r hr => ?_, fun r hr => ?_, fun r hr => ?_⟩
    · obtain ⟨j, hj, rfl⟩ := List.mem_iff_getElem.1 hr
      have := h (A.length + N.length + j) X[j] (by rw [← List.append_assoc, List.getElem?_append_right (by rw [List.length_append]; omega), List.length_append, show A.length + N.length + j - (A.length + N.length) = j by omega, List.getElem?_eq_getElem hj])
      unfold mayI at this
      rwa [if_neg (by omega)] at this
    · obtain ⟨j, hj, rfl⟩ := List.mem_iff_getElem.1 hr
      have := h j A[j] (by rw [List.getElem?_append_left hj, List.getElem?_eq_getElem hj])
      unfold mayI at this
      rwa [if_pos (by omega)] at this
    · obtain ⟨j, hj, rfl⟩ := List.mem_iff_getElem.1 hr
      have := h (A.length + j) N[j] (by rw [List.getElem?_append_right (by omega), show A.length + j - A.length = j by omega, List.getElem?_append_left hj, List.getElem?_eq_getElem hj])
      unfold mayI at this
      rwa [if_pos (by omega)] at this
theorem cn12 {w : World} {q : Nat} {c0 c1 c2 c3 c4 c5 c6 c7 c8 c9 c10 c11 : Value} (h : CN w q [c0, c1, c2, c3, c4, c5, c6, c7, c8, c9, c10, c11]) : w.cell? ⟨q, 0, none⟩ = some c0 ∧ w.cell? ⟨q, 1, none⟩ = some c1 ∧ w.cell? ⟨q, 2, none⟩ = some c2 ∧ w.cell? ⟨q, 3, none⟩ = some c3 ∧ w.cell? ⟨q, 4, none⟩ = some c4 ∧ w.cell? ⟨q, 5, none⟩ = some c5 ∧ w.cell? ⟨q, 6, none⟩ = some c6 ∧ w.cell? ⟨q, 7, none⟩ = some c7 ∧ w.cell? ⟨q, 8, none⟩ = some c8 ∧ w.cell? ⟨q, 9, none⟩ = some c9 ∧ w.cell? ⟨q, 10, none⟩ = some c10 ∧ w.cell? ⟨q, 11, none⟩ = some c11 :=
  ⟨(h.2 0 _ rfl).1, (h.2 1 _ rfl).1, (h.2 2 _ rfl).1, (h.2 3 _ rfl).1, (h.2 4 _ rfl).1, (h.2 5 _ rfl).1, (h.2 6 _ rfl).1, (h.2 7 _ rfl).1, (h.2 8 _ rfl).1, (h.2 9 _ rfl).1, (h.2 10 _ rfl).1, (h.2 11 _ rfl).1⟩
set_option maxRecDepth 100000 in
set_option maxHeartbeats 8000000 in
theorem rmay_any5 (mi mo mr : Int) (b1 b2 b3 b4 b5 : Bool) (qa na sa xa : Option Addr) (ql qc nl nc sl sc xl xc : Nat) (Q : List Ky) (A N X : List R5) (w : World) (hq : RowQ w qa ql Q) (ha : RowR w na nl A) (han : na = none → nl = 0 ∧ nc = 0) (hn : RowR w sa sl N) (hnn : sa = none → sl = 0 ∧ sc = 0) (hx : RowR w xa xl X) (hxn : xa = none → xl = 0 ∧ xc = 0) (hl : ql ≤ 100000 ∧ nl ≤ 100000 ∧ sl ≤ 100000 ∧ xl ≤ 100000) (hz : ∀ r ∈ Q, r.n.size ≤ 1000000) (hza : SzN A) (hzn : SzN N) (hzx : SzN X) :
    Calls Try.prog 24 #[.agg #[.int .i64 mi, .int .i64 mo, .int .i64 mr, .bool b1, .bool b2, .bool b3, .bool b4, .bool b5, .slice qa ql qc, .slice na nl nc, .slice sa sl sc, .slice xa xl xc]] w fun e w' => e = .returned (.bool (mayM mi mo mr Q A N X)) ∧ Below w.heap.size w w' := by
  have hb1 := (Below.refl w.heap.size w).alloc (Nat.le_refl _) (.cells #[.int .i64 mi, .int .i64 mo, .int .i64 mr, .bool b1, .bool b2, .bool b3, .bool b4, .bool b5, .slice qa ql qc, .slice na nl nc, .slice sa sl sc, .slice xa xl xc] 32)
  have HC := Lib.hid (CN.new w #[.int .i64 mi, .int .i64 mo, .int .i64 mr, .bool b1, .bool b2, .bool b3, .bool b4, .bool b5, .slice qa ql qc, .slice na nl nc, .slice sa sl sc, .slice xa xl xc] 32)
  have HQ := Lib.hid (hq.below hb1)
  have HRA := Lib.hid (ha.below hb1)
  have HRN := Lib.hid (hn.below hb1)
  have HRX := Lib.hid (hx.below hb1)
  have HNO := Lib.hid (show (na = none → nl = 0 ∧ nc = 0) ∧ (sa = none → sl = 0 ∧ sc = 0) ∧ (xa = none → xl = 0 ∧ xc = 0) from ⟨han, hnn, hxn⟩)
  have HB := Lib.hid hb1
  have HZ := Lib.hid hz
  have HZR := Lib.hid (show SzN (A ++ (N ++ X)) from fun r hr => by
    simp only [List.mem_append] at hr
    rcases hr with h | h | h
    · exact hza r h
    · exact hzn r h
    · exact hzx r h)
  have HLS := Lib.hid (show Q.length = ql ∧ A.length = nl ∧ N.length = sl ∧ X.length = xl from ⟨hq.1, ha.1, hn.1, hx.1⟩)
  have HLL := Lib.hid hl
  have HV := Lib.hid (show mayM mi mo mr Q A N X = (headM mi mo mr && (decide (Q.length + A.length + N.length + X.length ≤ 300) && (Q.all mayK && (X.all mayX && (A.all mayRr && N.all mayRr))))) from rfl)
  obtain ⟨w1, hw1⟩ : ∃ x, w.alloc (.cells #[.int .i64 mi, .int .i64 mo, .int .i64 mr, .bool b1, .bool b2, .bool b3, .bool b4, .bool b5, .slice qa ql qc, .slice na nl nc, .slice sa sl sc, .slice xa xl xc] 32) = x := ⟨_, rfl⟩
  obtain ⟨g, hg⟩ : ∃ x, w.heap.size = x := ⟨_, rfl⟩
  rw [hw1] at HC HB HQ HRA HRN HRX
  have HC1 := HC.out
  rw [hg] at HC1
  replace HC := Lib.hid HC1
  have HW1 := Lib.hid hw1
  have HG := Lib.hid hg
  clear hb1 hq ha han hn hnn hx hxn hz hza hzn hzx hl hw1 hg HC1
  cases hof : okF mo mr
  · have HOF := Lib.hid hof
    have HE := Lib.hid (show mayM mi mo mr Q A N X = false by
      rw [HV.out, show headM mi mo mr = false by
        have h2 : (inR mo 15 && inR mr 15) = false := hof
        rw [headM, h2, Bool.and_false], Bool.false_and])
    clear hof
    go_enter Try.func24, Try.ntmps24
    go_upto_region 1 with (fail)
    rw [HW1.out, HG.out]
    obtain ⟨y0, y1, y2, y3, y4, y5, y6, y7, y8, y9, y10, y11⟩ := cn12 HC.out
    go_wp2_with fail
    clear y0 y1 y2 y3 y4 y5 y6 y7 y8 y9 y10 y11
    refine (rflags_any mi mo mr b1 b2 b3 b4 b5 _).mono ?_; rintro e w2 ⟨rfl, hb⟩
    have HX1 := Lib.hid hb
    rw [if_neg (by rw [HOF.out]; simp), if_neg (by rw [HOF.out]; simp)]
    have HW := Lib.hid (HB.out.trans (hb.mono HB.out.size))
    clear hb
    obtain ⟨y0, y1, y2, y3, y4, y5, y6, y7, y8, y9, y10, y11⟩ := cn12 (HC.out.below HX1.out)
    go_wp2
    go_ret
    exact ⟨ret_bool HE.out.symm, HW.out⟩
  have HOF := Lib.hid hof
  by_cases g0 : mi < 0
  · have d0 := dT g0
    have HE := Lib.hid (show mayM mi mo mr Q A N X = false by rw [HV.out, show headM mi mo mr = false by rw [headM, show inR mi 65535 = false by simp [inR]; omega, Bool.false_and], Bool.false_and])
    clear hof g0
    go_enter Try.func24, Try.ntmps24
    go_upto_region 1 with (fail)
    rw [HW1.out, HG.out]
    obtain ⟨y0, y1, y2, y3, y4, y5, y6, y7, y8, y9, y10, y11⟩ := cn12 HC.out
    go_wp2_with fail
    clear y0 y1 y2 y3 y4 y5 y6 y7 y8 y9 y10 y11
    refine (rflags_any mi mo mr b1 b2 b3 b4 b5 _).mono ?_; rintro e w2 ⟨rfl, hb⟩
    have HX1 := Lib.hid hb
    rw [if_pos HOF.out, if_pos HOF.out]
    have HW := Lib.hid (HB.out.trans (hb.mono HB.out.size))
    clear hb
    obtain ⟨y0, y1, y2, y3, y4, y5, y6, y7, y8, y9, y10, y11⟩ := cn12 (HC.out.below HX1.out)
    go_wp2
    go_ret
    exact ⟨ret_bool HE.out.symm, HW.out⟩
  have d0 := dF g0
  by_cases g1 : 65535 < mi
  · have d1 := dT (p := (65535 : Int) < mi) g1
    have HE := Lib.hid (show mayM mi mo mr Q A N X = false by rw [HV.out, show headM mi mo mr = false by rw [headM, show inR mi 65535 = false by simp [inR]; omega, Bool.false_and], Bool.false_and])
    clear hof g0 g1
    go_enter Try.func24, Try.ntmps24
    go_upto_region 1 with (fail)
    rw [HW1.out, HG.out]
    obtain ⟨y0, y1, y2, y3, y4, y5, y6, y7, y8, y9, y10, y11⟩ := cn12 HC.out
    go_wp2_with fail
    clear y0 y1 y2 y3 y4 y5 y6 y7 y8 y9 y10 y11
    refine (rflags_any mi mo mr b1 b2 b3 b4 b5 _).mono ?_; rintro e w2 ⟨rfl, hb⟩
    have HX1 := Lib.hid hb
    rw [if_pos HOF.out, if_pos HOF.out]
    have HW := Lib.hid (HB.out.trans (hb.mono HB.out.size))
    clear hb
    obtain ⟨y0, y1, y2, y3, y4, y5, y6, y7, y8, y9, y10, y11⟩ := cn12 (HC.out.below HX1.out)
    go_wp2
    go_ret
    exact ⟨ret_bool HE.out.symm, HW.out⟩
  have d1 := dF (p := (65535 : Int) < mi) g1
  have HHD := Lib.hid (show headM mi mo mr = true by
    have h2 : (inR mo 15 && inR mr 15) = true := hof
    rw [headM, h2, show inR mi 65535 = true by simp [inR]; omega]; rfl)
  clear hof g0 g1
  obtain ⟨t1, ht1⟩ : ∃ x, ql + nl = x := ⟨_, rfl⟩
  obtain ⟨t2, ht2⟩ : ∃ x, t1 + sl = x := ⟨_, rfl⟩
  obtain ⟨t3, ht3⟩ : ∃ x, t2 + xl = x := ⟨_, rfl⟩
  have p1 : IntKind.i64.wrap ((ql : Int) + (nl : Int)) = (t1 : Int) := by have := HLL.out; rw [IntKind.wrap_i64]; omega
  have p2 : IntKind.i64.wrap ((t1 : Int) + (sl : Int)) = (t2 : Int) := by have := HLL.out; rw [IntKind.wrap_i64]; omega
  have p3 : IntKind.i64.wrap ((t2 : Int) + (xl : Int)) = (t3 : Int) := by have := HLL.out; rw [IntKind.wrap_i64]; omega
  have HT3 := Lib.hid (show Q.length + A.length + N.length + X.length = t3 by have := HLS.out; omega)
  clear ht1 ht2 ht3
  by_cases g4 : 300 < t3
  · have HE := Lib.hid (show mayM mi mo mr Q A N X = false by rw [HV.out, dF (p := Q.length + A.length + N.length + X.length ≤ 300) (by have := HT3.out; omega), Bool.false_and, Bool.and_false])
    have d4 := dT (p := (300 : Int) < (t3 : Int)) (by omega)
    clear g4
    go_enter Try.func24, Try.ntmps24
    go_upto_region 1 with (fail)
    rw [HW1.out, HG.out]
    obtain ⟨y0, y1, y2, y3, y4, y5, y6, y7, y8, y9, y10, y11⟩ := cn12 HC.out
    go_wp2_with fail
    clear y0 y1 y2 y3 y4 y5 y6 y7 y8 y9 y10 y11
    refine (rflags_any mi mo mr b1 b2 b3 b4 b5 _).mono ?_; rintro e w2 ⟨rfl, hb⟩
    have HX1 := Lib.hid hb
    rw [if_pos HOF.out, if_pos HOF.out]
    have HW := Lib.hid (HB.out.trans (hb.mono HB.out.size))
    clear hb
    obtain ⟨y0, y1, y2, y3, y4, y5, y6, y7, y8, y9, y10, y11⟩ := cn12 (HC.out.below HX1.out)
    go_wp2
    go_ret
    exact ⟨ret_bool HE.out.symm, HW.out⟩
  have HE := Lib.hid (show mayM mi mo mr Q A N X = (Q.all mayK && (X.all mayX && (A.all mayRr && N.all mayRr))) by rw [HV.out, HHD.out, dT (p := Q.length + A.length + N.length + X.length ≤ 300) (by have := HT3.out; omega)]; rfl)
  have HCT := Lib.hid (show ql + nl + sl + xl ≤ 300 by have := HT3.out; have := HLS.out; omega)
  have d4 := dF (p := (300 : Int) < (t3 : Int)) (by omega)
  clear g4 HV
  go_enter Try.func24, Try.ntmps24
  go_upto_region 1 with (fail)
  rw [HW1.out, HG.out]
  obtain ⟨y0, y1, y2, y3, y4, y5, y6, y7, y8, y9, y10, y11⟩ := cn12 HC.out
  go_wp2_with fail
  clear y0 y1 y2 y3 y4 y5 y6 y7 y8 y9 y10 y11
  refine (rflags_any mi mo mr b1 b2 b3 b4 b5 _).mono ?_; rintro e w2 ⟨rfl, hb⟩
  have HX1 := Lib.hid hb
  rw [if_pos HOF.out, if_pos HOF.out]
  have HW := Lib.hid (HB.out.trans (hb.mono HB.out.size))
  clear hb
  obtain ⟨y0, y1, y2, y3, y4, y5, y6, y7, y8, y9, y10, y11⟩ := cn12 (HC.out.below HX1.out)
  go_wp2_with fail
  clear p1 p2 p3 d0 d1 d4 y0 y1 y2 y3 y4 y5 y6 y7 y8 y9 y10 y11
  have hql : ql ≤ 300 := by have := HCT.out; omega
  replace HC := Lib.hid (HC.out.below HX1.out)
  replace HQ := Lib.hid (HQ.out.below HX1.out)
  replace HRA := Lib.hid (HRA.out.below HX1.out)
  replace HRN := Lib.hid (HRN.out.below HX1.out)
  replace HRX := Lib.hid (HRX.out.below HX1.out)
  go_loopw [5] (fun i wr => ∃ k : Nat, k ≤ ql ∧ i = .int .i64 k ∧ Hid (Below w2.heap.size w2 wr) ∧ Hid (∀ j r, j < k → Q[j]? = some r → mayK r = true)) (fun i _ => ql - (intOf i).toNat)
  case atStart => exact ⟨0, by omega, rfl, Lib.hid (Below.refl _ _), Lib.hid (fun j r hj _ => absurd hj (by omega))⟩
  case round =>
    obtain ⟨k, hk, rfl, HD, HA⟩ := hrel
    by_cases hlt : k < ql
    · obtain ⟨b, o, r, rfl, hbl, hr, c0, c1, c2⟩ := (HQ.out.below HD.out).at k hlt
      obtain ⟨n, t, c⟩ := r
      have hsz : n.size ≤ 1000000 := HZ.out ⟨n, t, c⟩ (List.mem_of_getElem? hr)
      have HR := Lib.hid hr
      have HKC := Lib.hid (show wr.cell? ⟨b, o + k * 3, none⟩ = some (.string n) ∧ wr.cell? ⟨b, o + k * 3 + 1, none⟩ = some (.int .i64 t) ∧ wr.cell? ⟨b, o + k * 3 + 2, none⟩ = some (.int .i64 c) from ⟨c0, c1, c2⟩)
      have HBL := Lib.hid hbl
      have HCW := Lib.hid (HC.out.below HD.out)
      obtain ⟨y0, y1, y2, y3, y4, y5, y6, y7, y8, y9, y10, y11⟩ := cn12 HCW.out
      clear hr hbl c0 c1 c2
      cases hm : mayK ⟨n, t, c⟩
      · have HNN := Lib.hid (show mayM mi mo mr Q A N X = false by
          rw [HE.out]
          cases h2 : Q.all mayK
          · rfl
          · have := List.all_eq_true.1 h2 _ (List.mem_of_getElem? HR.out)
            rw [hm] at this; cases this)
        have HM := Lib.hid hm
        clear hm
        go_upto_region 7 with (fail)
        clear y0 y1 y2 y3 y4 y5 y6 y7 y8 y9 y10 y11
        refine wp_region_held_drew (S := (fun wx => Below w2.heap.size w2 wx ∧ CN wx g [.int .i64 mi, .int .i64 mo, .int .i64 mr, .bool b1, .bool b2, .bool b3, .bool b4, .bool b5, .slice (some ⟨b, o, none⟩) ql qc, .slice na nl nc, .slice sa sl sc, .slice xa xl xc] ∧ b < wx.heap.size ∧ wx.cell? ⟨b, o + k * 3, none⟩ = some (.string n) ∧ wx.cell? ⟨b, o + k * 3 + 1, none⟩ = some (.int .i64 t) ∧ wx.cell? ⟨b, o + k * 3 + 2, none⟩ = some (.int .i64 c))) (by kernel_rfl) (⟨HD.out.drew, HCW.out, HBL.out, HKC.out.1, HKC.out.2.1, HKC.out.2.2⟩) (fun hHeld => ?_)
        refine wpAnyH_take (i := 0) (oi := { dst := some 54, op := Go.Op.fieldAddr 32 (Go.Operand.tmp 1) 1, type := 0, pos := "ref.go:57", after := #[], guard := none }) (v := ?v0_480101) rfl (by kernel_rfl) (by kernel_rfl) (by kernel_rfl) (fun _ _ _ h => h) (Or.inl ⟨by rfl, ?y0_480101⟩) hHeld ?r0_480101
        case y0_480101 => intro w hSw; (try dsimp only at hSw); obtain ⟨y0, y1, y2, y3, y4, y5, y6, y7, y8, y9, y10, y11⟩ := cn12 hSw.2.1; have c0 := hSw.2.2.2.1; have c1 := hSw.2.2.2.2.1; have c2 := hSw.2.2.2.2.2; go_simp; try with_reducible rfl
        try simp only [Act.put, List.setIfInBounds_toArray, List.set_cons_zero, List.set_cons_succ]
        refine wpAnyH_take (i := 1) (oi := { dst := some 55, op := Go.Op.load 24 (Go.Operand.tmp 54), type := 24, pos := "ref.go:57", after := #[{ on := 0, ground := Go.Ground.data }], guard := none }) (v := ?v1_480101) rfl (by kernel_rfl) (by kernel_rfl) (by kernel_rfl) (fun _ _ _ h => h) (Or.inl ⟨by rfl, ?y1_480101⟩) hHeld ?r1_480101
        case y1_480101 => intro w hSw; (try dsimp only at hSw); obtain ⟨y0, y1, y2, y3, y4, y5, y6, y7, y8, y9, y10, y11⟩ := cn12 hSw.2.1; have c0 := hSw.2.2.2.1; have c1 := hSw.2.2.2.2.1; have c2 := hSw.2.2.2.2.2; go_simp; try with_reducible rfl
        try simp only [Act.put, List.setIfInBounds_toArray, List.set_cons_zero, List.set_cons_succ]
        refine wpAnyH_take (i := 2) (oi := { dst := some 56, op := Go.Op.move (Go.Operand.tmp 5), type := 3, pos := "ref.go:57", after := #[], guard := none }) (v := ?v2_480101) rfl (by kernel_rfl) (by kernel_rfl) (by kernel_rfl) (fun _ _ _ h => h) (Or.inl ⟨by rfl, ?y2_480101⟩) hHeld ?r2_480101
        case y2_480101 => intro w hSw; (try dsimp only at hSw); obtain ⟨y0, y1, y2, y3, y4, y5, y6, y7, y8, y9, y10, y11⟩ := cn12 hSw.2.1; have c0 := hSw.2.2.2.1; have c1 := hSw.2.2.2.2.1; have c2 := hSw.2.2.2.2.2; go_simp; try with_reducible rfl
        try simp only [Act.put, List.setIfInBounds_toArray, List.set_cons_zero, List.set_cons_succ]
        refine wpAnyH_take (i := 3) (oi := { dst := some 57, op := Go.Op.indexAddr 24 (Go.Operand.tmp 55) (Go.Operand.tmp 56), type := 0, pos := "ref.go:57", after := #[{ on := 1, ground := Go.Ground.data }, { on := 2, ground := Go.Ground.data }], guard := none }) (v := ?v3_480101) rfl (by kernel_rfl) (by kernel_rfl) (by kernel_rfl) (fun _ _ _ h => h) (Or.inl ⟨by rfl, ?y3_480101⟩) hHeld ?r3_480101
        case y3_480101 => intro w hSw; (try dsimp only at hSw); obtain ⟨y0, y1, y2, y3, y4, y5, y6, y7, y8, y9, y10, y11⟩ := cn12 hSw.2.1; have c0 := hSw.2.2.2.1; have c1 := hSw.2.2.2.2.1; have c2 := hSw.2.2.2.2.2; go_simp; try with_reducible rfl
        try simp only [Act.put, List.setIfInBounds_toArray, List.set_cons_zero, List.set_cons_succ]
        refine wpAnyH_take (i := 4) (oi := { dst := some 58, op := Go.Op.fieldAddr 70 (Go.Operand.tmp 57) 0, type := 0, pos := "ref.go:57", after := #[{ on := 3, ground := Go.Ground.data }], guard := none }) (v := ?v4_480101) rfl (by kernel_rfl) (by kernel_rfl) (by kernel_rfl) (fun _ _ _ h => h) (Or.inl ⟨by rfl, ?y4_480101⟩) hHeld ?r4_480101
        case y4_480101 => intro w hSw; (try dsimp only at hSw); obtain ⟨y0, y1, y2, y3, y4, y5, y6, y7, y8, y9, y10, y11⟩ := cn12 hSw.2.1; have c0 := hSw.2.2.2.1; have c1 := hSw.2.2.2.2.1; have c2 := hSw.2.2.2.2.2; go_simp; try with_reducible rfl
        try simp only [Act.put, List.setIfInBounds_toArray, List.set_cons_zero, List.set_cons_succ]
        refine wpAnyH_take (i := 5) (oi := { dst := some 59, op := Go.Op.load 9 (Go.Operand.tmp 58), type := 9, pos := "ref.go:57", after := #[{ on := 4, ground := Go.Ground.data }], guard := none }) (v := ?v5_480101) rfl (by kernel_rfl) (by kernel_rfl) (by kernel_rfl) (fun _ _ _ h => h) (Or.inl ⟨by rfl, ?y5_480101⟩) hHeld ?r5_480101
        case y5_480101 => intro w hSw; (try dsimp only at hSw); obtain ⟨y0, y1, y2, y3, y4, y5, y6, y7, y8, y9, y10, y11⟩ := cn12 hSw.2.1; have c0 := hSw.2.2.2.1; have c1 := hSw.2.2.2.2.1; have c2 := hSw.2.2.2.2.2; go_simp; try with_reducible rfl
        try simp only [Act.put, List.setIfInBounds_toArray, List.set_cons_zero, List.set_cons_succ]
        refine wpAnyH_take (i := 6) (oi := { dst := some 60, op := Go.Op.fieldAddr 32 (Go.Operand.tmp 1) 1, type := 0, pos := "ref.go:57", after := #[], guard := none }) (v := ?v6_480101) rfl (by kernel_rfl) (by kernel_rfl) (by kernel_rfl) (fun _ _ _ h => h) (Or.inl ⟨by rfl, ?y6_480101⟩) hHeld ?r6_480101
        case y6_480101 => intro w hSw; (try dsimp only at hSw); obtain ⟨y0, y1, y2, y3, y4, y5, y6, y7, y8, y9, y10, y11⟩ := cn12 hSw.2.1; have c0 := hSw.2.2.2.1; have c1 := hSw.2.2.2.2.1; have c2 := hSw.2.2.2.2.2; go_simp; try with_reducible rfl
        try simp only [Act.put, List.setIfInBounds_toArray, List.set_cons_zero, List.set_cons_succ]
        refine wpAnyH_take (i := 7) (oi := { dst := some 61, op := Go.Op.load 24 (Go.Operand.tmp 60), type := 24, pos := "ref.go:57", after := #[{ on := 6, ground := Go.Ground.data }], guard := none }) (v := ?v7_480101) rfl (by kernel_rfl) (by kernel_rfl) (by kernel_rfl) (fun _ _ _ h => h) (Or.inl ⟨by rfl, ?y7_480101⟩) hHeld ?r7_480101
        case y7_480101 => intro w hSw; (try dsimp only at hSw); obtain ⟨y0, y1, y2, y3, y4, y5, y6, y7, y8, y9, y10, y11⟩ := cn12 hSw.2.1; have c0 := hSw.2.2.2.1; have c1 := hSw.2.2.2.2.1; have c2 := hSw.2.2.2.2.2; go_simp; try with_reducible rfl
        try simp only [Act.put, List.setIfInBounds_toArray, List.set_cons_zero, List.set_cons_succ]
        refine wpAnyH_take (i := 8) (oi := { dst := some 62, op := Go.Op.move (Go.Operand.tmp 5), type := 3, pos := "ref.go:57", after := #[], guard := none }) (v := ?v8_480101) rfl (by kernel_rfl) (by kernel_rfl) (by kernel_rfl) (fun _ _ _ h => h) (Or.inl ⟨by rfl, ?y8_480101⟩) hHeld ?r8_480101
        case y8_480101 => intro w hSw; (try dsimp only at hSw); obtain ⟨y0, y1, y2, y3, y4, y5, y6, y7, y8, y9, y10, y11⟩ := cn12 hSw.2.1; have c0 := hSw.2.2.2.1; have c1 := hSw.2.2.2.2.1; have c2 := hSw.2.2.2.2.2; go_simp; try with_reducible rfl
        try simp only [Act.put, List.setIfInBounds_toArray, List.set_cons_zero, List.set_cons_succ]
        refine wpAnyH_take (i := 9) (oi := { dst := some 63, op := Go.Op.indexAddr 24 (Go.Operand.tmp 61) (Go.Operand.tmp 62), type := 0, pos := "ref.go:57", after := #[{ on := 7, ground := Go.Ground.data }, { on := 8, ground := Go.Ground.data }], guard := none }) (v := ?v9_480101) rfl (by kernel_rfl) (by kernel_rfl) (by kernel_rfl) (fun _ _ _ h => h) (Or.inl ⟨by rfl, ?y9_480101⟩) hHeld ?r9_480101
        case y9_480101 => intro w hSw; (try dsimp only at hSw); obtain ⟨y0, y1, y2, y3, y4, y5, y6, y7, y8, y9, y10, y11⟩ := cn12 hSw.2.1; have c0 := hSw.2.2.2.1; have c1 := hSw.2.2.2.2.1; have c2 := hSw.2.2.2.2.2; go_simp; try with_reducible rfl
        try simp only [Act.put, List.setIfInBounds_toArray, List.set_cons_zero, List.set_cons_succ]
        refine wpAnyH_take (i := 10) (oi := { dst := some 64, op := Go.Op.fieldAddr 70 (Go.Operand.tmp 63) 1, type := 0, pos := "ref.go:57", after := #[{ on := 9, ground := Go.Ground.data }], guard := none }) (v := ?v10_480101) rfl (by kernel_rfl) (by kernel_rfl) (by kernel_rfl) (fun _ _ _ h => h) (Or.inl ⟨by rfl, ?y10_480101⟩) hHeld ?r10_480101
        case y10_480101 => intro w hSw; (try dsimp only at hSw); obtain ⟨y0, y1, y2, y3, y4, y5, y6, y7, y8, y9, y10, y11⟩ := cn12 hSw.2.1; have c0 := hSw.2.2.2.1; have c1 := hSw.2.2.2.2.1; have c2 := hSw.2.2.2.2.2; go_simp; try with_reducible rfl
        try simp only [Act.put, List.setIfInBounds_toArray, List.set_cons_zero, List.set_cons_succ]
        refine wpAnyH_take (i := 11) (oi := { dst := some 65, op := Go.Op.load 3 (Go.Operand.tmp 64), type := 3, pos := "ref.go:57", after := #[{ on := 10, ground := Go.Ground.data }], guard := none }) (v := ?v11_480101) rfl (by kernel_rfl) (by kernel_rfl) (by kernel_rfl) (fun _ _ _ h => h) (Or.inl ⟨by rfl, ?y11_480101⟩) hHeld ?r11_480101
        case y11_480101 => intro w hSw; (try dsimp only at hSw); obtain ⟨y0, y1, y2, y3, y4, y5, y6, y7, y8, y9, y10, y11⟩ := cn12 hSw.2.1; have c0 := hSw.2.2.2.1; have c1 := hSw.2.2.2.2.1; have c2 := hSw.2.2.2.2.2; go_simp; try with_reducible rfl
        try simp only [Act.put, List.setIfInBounds_toArray, List.set_cons_zero, List.set_cons_succ]
        refine wpAnyH_take (i := 12) (oi := { dst := some 66, op := Go.Op.fieldAddr 32 (Go.Operand.tmp 1) 1, type := 0, pos := "ref.go:57", after := #[], guard := none }) (v := ?v12_480101) rfl (by kernel_rfl) (by kernel_rfl) (by kernel_rfl) (fun _ _ _ h => h) (Or.inl ⟨by rfl, ?y12_480101⟩) hHeld ?r12_480101
        case y12_480101 => intro w hSw; (try dsimp only at hSw); obtain ⟨y0, y1, y2, y3, y4, y5, y6, y7, y8, y9, y10, y11⟩ := cn12 hSw.2.1; have c0 := hSw.2.2.2.1; have c1 := hSw.2.2.2.2.1; have c2 := hSw.2.2.2.2.2; go_simp; try with_reducible rfl
        try simp only [Act.put, List.setIfInBounds_toArray, List.set_cons_zero, List.set_cons_succ]
        refine wpAnyH_take (i := 13) (oi := { dst := some 67, op := Go.Op.load 24 (Go.Operand.tmp 66), type := 24, pos := "ref.go:57", after := #[{ on := 12, ground := Go.Ground.data }], guard := none }) (v := ?v13_480101) rfl (by kernel_rfl) (by kernel_rfl) (by kernel_rfl) (fun _ _ _ h => h) (Or.inl ⟨by rfl, ?y13_480101⟩) hHeld ?r13_480101
        case y13_480101 => intro w hSw; (try dsimp only at hSw); obtain ⟨y0, y1, y2, y3, y4, y5, y6, y7, y8, y9, y10, y11⟩ := cn12 hSw.2.1; have c0 := hSw.2.2.2.1; have c1 := hSw.2.2.2.2.1; have c2 := hSw.2.2.2.2.2; go_simp; try with_reducible rfl
        try simp only [Act.put, List.setIfInBounds_toArray, List.set_cons_zero, List.set_cons_succ]
        refine wpAnyH_take (i := 14) (oi := { dst := some 68, op := Go.Op.move (Go.Operand.tmp 5), type := 3, pos := "ref.go:57", after := #[], guard := none }) (v := ?v14_480101) rfl (by kernel_rfl) (by kernel_rfl) (by kernel_rfl) (fun _ _ _ h => h) (Or.inl ⟨by rfl, ?y14_480101⟩) hHeld ?r14_480101
        case y14_480101 => intro w hSw; (try dsimp only at hSw); obtain ⟨y0, y1, y2, y3, y4, y5, y6, y7, y8, y9, y10, y11⟩ := cn12 hSw.2.1; have c0 := hSw.2.2.2.1; have c1 := hSw.2.2.2.2.1; have c2 := hSw.2.2.2.2.2; go_simp; try with_reducible rfl
        try simp only [Act.put, List.setIfInBounds_toArray, List.set_cons_zero, List.set_cons_succ]
        refine wpAnyH_take (i := 15) (oi := { dst := some 69, op := Go.Op.indexAddr 24 (Go.Operand.tmp 67) (Go.Operand.tmp 68), type := 0, pos := "ref.go:57", after := #[{ on := 13, ground := Go.Ground.data }, { on := 14, ground := Go.Ground.data }], guard := none }) (v := ?v15_480101) rfl (by kernel_rfl) (by kernel_rfl) (by kernel_rfl) (fun _ _ _ h => h) (Or.inl ⟨by rfl, ?y15_480101⟩) hHeld ?r15_480101
        case y15_480101 => intro w hSw; (try dsimp only at hSw); obtain ⟨y0, y1, y2, y3, y4, y5, y6, y7, y8, y9, y10, y11⟩ := cn12 hSw.2.1; have c0 := hSw.2.2.2.1; have c1 := hSw.2.2.2.2.1; have c2 := hSw.2.2.2.2.2; go_simp; try with_reducible rfl
        try simp only [Act.put, List.setIfInBounds_toArray, List.set_cons_zero, List.set_cons_succ]
        refine wpAnyH_take (i := 16) (oi := { dst := some 70, op := Go.Op.fieldAddr 70 (Go.Operand.tmp 69) 2, type := 0, pos := "ref.go:57", after := #[{ on := 15, ground := Go.Ground.data }], guard := none }) (v := ?v16_480101) rfl (by kernel_rfl) (by kernel_rfl) (by kernel_rfl) (fun _ _ _ h => h) (Or.inl ⟨by rfl, ?y16_480101⟩) hHeld ?r16_480101
        case y16_480101 => intro w hSw; (try dsimp only at hSw); obtain ⟨y0, y1, y2, y3, y4, y5, y6, y7, y8, y9, y10, y11⟩ := cn12 hSw.2.1; have c0 := hSw.2.2.2.1; have c1 := hSw.2.2.2.2.1; have c2 := hSw.2.2.2.2.2; go_simp; try with_reducible rfl
        try simp only [Act.put, List.setIfInBounds_toArray, List.set_cons_zero, List.set_cons_succ]
        refine wpAnyH_take (i := 17) (oi := { dst := some 71, op := Go.Op.load 3 (Go.Operand.tmp 70), type := 3, pos := "ref.go:57", after := #[{ on := 16, ground := Go.Ground.data }], guard := none }) (v := ?v17_480101) rfl (by kernel_rfl) (by kernel_rfl) (by kernel_rfl) (fun _ _ _ h => h) (Or.inl ⟨by rfl, ?y17_480101⟩) hHeld ?r17_480101
        case y17_480101 => intro w hSw; (try dsimp only at hSw); obtain ⟨y0, y1, y2, y3, y4, y5, y6, y7, y8, y9, y10, y11⟩ := cn12 hSw.2.1; have c0 := hSw.2.2.2.1; have c1 := hSw.2.2.2.2.1; have c2 := hSw.2.2.2.2.2; go_simp; try with_reducible rfl
        try simp only [Act.put, List.setIfInBounds_toArray, List.set_cons_zero, List.set_cons_succ]
        refine wpAnyH_take (i := 18) (oi := { dst := some 72, op := Go.Op.build 118 #[(0, Go.Operand.tmp 59), (1, Go.Operand.tmp 65), (2, Go.Operand.tmp 71)], type := 118, pos := "ref.go:57", after := #[{ on := 5, ground := Go.Ground.data }, { on := 11, ground := Go.Ground.data }, { on := 17, ground := Go.Ground.data }], guard := none }) (v := ?v18_480101) rfl (by kernel_rfl) (by kernel_rfl) (by kernel_rfl) (fun _ _ _ h => h) (Or.inl ⟨by rfl, ?y18_480101⟩) hHeld ?r18_480101
        case y18_480101 => intro w hSw; (try dsimp only at hSw); obtain ⟨y0, y1, y2, y3, y4, y5, y6, y7, y8, y9, y10, y11⟩ := cn12 hSw.2.1; have c0 := hSw.2.2.2.1; have c1 := hSw.2.2.2.2.1; have c2 := hSw.2.2.2.2.2; go_simp; try with_reducible rfl
        try simp only [Act.put, List.setIfInBounds_toArray, List.set_cons_zero, List.set_cons_succ]
        refine wpAnyH_ready (rs := [19]) (by kernel_rfl) (by simp) ?_
        refine AllReadyH.cons (o := { dst := some 73, op := Go.Op.call { callee := Go.Callee.value (Go.Operand.func 64), args := #[Go.Operand.tmp 72], argTypes := #[118] }, type := 4, pos := "ref.go:57", after := #[{ on := 18, ground := Go.Ground.data }], guard := none }) rfl (fun K hK => ?_) AllReadyH.nil
        go_simp
        refine (rmayKey_any5 n t c _ hsz).mono ?_; rintro e w3 ⟨rfl, hb⟩
        rw [HM.out]
        go_wp2_with fail
        refine hK.out _ _ (⟨hHeld.1.trans (hb.mono hHeld.1.size), hHeld.2.1.below hb, (hb.cell (p := ⟨b, o + k * 3, none⟩) hHeld.2.2.1).trans hHeld.2.2.2.1 |> fun h => ⟨Nat.lt_of_lt_of_le hHeld.2.2.1 hb.size, h, (hb.cell (p := ⟨b, o + k * 3 + 1, none⟩) hHeld.2.2.1).trans hHeld.2.2.2.2.1, (hb.cell (p := ⟨b, o + k * 3 + 2, none⟩) hHeld.2.2.1).trans hHeld.2.2.2.2.2⟩⟩) (fun hHeld2 => ?_)
        clear hK K hHeld
        have hHeld := hHeld2
        clear hHeld2
        try simp only [Act.put, List.setIfInBounds_toArray, List.set_cons_zero, List.set_cons_succ]
        refine wpAnyH_take (i := 20) (oi := { dst := some 74, op := Go.Op.unOp Go.UnOp.not 4 (Go.Operand.tmp 73), type := 4, pos := "ref.go:57", after := #[{ on := 19, ground := Go.Ground.data }], guard := none }) (v := ?v20_480102) rfl (by kernel_rfl) (by kernel_rfl) (by kernel_rfl) (fun _ _ _ h => h) (Or.inl ⟨by rfl, ?y20_480102⟩) hHeld ?r20_480102
        case y20_480102 => intro w hSw; (try dsimp only at hSw); obtain ⟨y0, y1, y2, y3, y4, y5, y6, y7, y8, y9, y10, y11⟩ := cn12 hSw.2.1; have c0 := hSw.2.2.2.1; have c1 := hSw.2.2.2.2.1; have c2 := hSw.2.2.2.2.2; go_simp; try with_reducible rfl
        try simp only [Act.put, List.setIfInBounds_toArray, List.set_cons_zero, List.set_cons_succ]
        refine wpAnyH_done (by kernel_rfl) ?_ _
        have HWZ := Lib.hid (HW.out.trans (hHeld.1.mono HW.out.size))
        clear hHeld
        go_wp2
        go_ret
        exact ⟨ret_bool HNN.out.symm, HWZ.out⟩
      · have HM := Lib.hid hm
        have HA2 := Lib.hid (show ∀ j r, j < k + 1 → Q[j]? = some r → mayK r = true from fun j r hj h2 => by
          by_cases e : j = k
          · subst e; rw [HR.out] at h2; obtain rfl := Option.some.inj h2; exact hm
          · exact HA.out j r (by omega) h2)
        clear hm
        go_upto_region 7 with (fail)
        clear y0 y1 y2 y3 y4 y5 y6 y7 y8 y9 y10 y11
        refine wp_region_held_drew (S := (fun wx => Below w2.heap.size w2 wx ∧ CN wx g [.int .i64 mi, .int .i64 mo, .int .i64 mr, .bool b1, .bool b2, .bool b3, .bool b4, .bool b5, .slice (some ⟨b, o, none⟩) ql qc, .slice na nl nc, .slice sa sl sc, .slice xa xl xc] ∧ b < wx.heap.size ∧ wx.cell? ⟨b, o + k * 3, none⟩ = some (.string n) ∧ wx.cell? ⟨b, o + k * 3 + 1, none⟩ = some (.int .i64 t) ∧ wx.cell? ⟨b, o + k * 3 + 2, none⟩ = some (.int .i64 c))) (by kernel_rfl) (⟨HD.out.drew, HCW.out, HBL.out, HKC.out.1, HKC.out.2.1, HKC.out.2.2⟩) (fun hHeld => ?_)
        refine wpAnyH_take (i := 0) (oi := { dst := some 54, op := Go.Op.fieldAddr 32 (Go.Operand.tmp 1) 1, type := 0, pos := "ref.go:57", after := #[], guard := none }) (v := ?v0_480201) rfl (by kernel_rfl) (by kernel_rfl) (by kernel_rfl) (fun _ _ _ h => h) (Or.inl ⟨by rfl, ?y0_480201⟩) hHeld ?r0_480201
        case y0_480201 => intro w hSw; (try dsimp only at hSw); obtain ⟨y0, y1, y2, y3, y4, y5, y6, y7, y8, y9, y10, y11⟩ := cn12 hSw.2.1; have c0 := hSw.2.2.2.1; have c1 := hSw.2.2.2.2.1; have c2 := hSw.2.2.2.2.2; go_simp; try with_reducible rfl
        try simp only [Act.put, List.setIfInBounds_toArray, List.set_cons_zero, List.set_cons_succ]
        refine wpAnyH_take (i := 1) (oi := { dst := some 55, op := Go.Op.load 24 (Go.Operand.tmp 54), type := 24, pos := "ref.go:57", after := #[{ on := 0, ground := Go.Ground.data }], guard := none }) (v := ?v1_480201) rfl (by kernel_rfl) (by kernel_rfl) (by kernel_rfl) (fun _ _ _ h => h) (Or.inl ⟨by rfl, ?y1_480201⟩) hHeld ?r1_480201
        case y1_480201 => intro w hSw; (try dsimp only at hSw); obtain ⟨y0, y1, y2, y3, y4, y5, y6, y7, y8, y9, y10, y11⟩ := cn12 hSw.2.1; have c0 := hSw.2.2.2.1; have c1 := hSw.2.2.2.2.1; have c2 := hSw.2.2.2.2.2; go_simp; try with_reducible rfl
        try simp only [Act.put, List.setIfInBounds_toArray, List.set_cons_zero, List.set_cons_succ]
        refine wpAnyH_take (i := 2) (oi := { dst := some 56, op := Go.Op.move (Go.Operand.tmp 5), type := 3, pos := "ref.go:57", after := #[], guard := none }) (v := ?v2_480201) rfl (by kernel_rfl) (by kernel_rfl) (by kernel_rfl) (fun _ _ _ h => h) (Or.inl ⟨by rfl, ?y2_480201⟩) hHeld ?r2_480201
        case y2_480201 => intro w hSw; (try dsimp only at hSw); obtain ⟨y0, y1, y2, y3, y4, y5, y6, y7, y8, y9, y10, y11⟩ := cn12 hSw.2.1; have c0 := hSw.2.2.2.1; have c1 := hSw.2.2.2.2.1; have c2 := hSw.2.2.2.2.2; go_simp; try with_reducible rfl
        try simp only [Act.put, List.setIfInBounds_toArray, List.set_cons_zero, List.set_cons_succ]
        refine wpAnyH_take (i := 3) (oi := { dst := some 57, op := Go.Op.indexAddr 24 (Go.Operand.tmp 55) (Go.Operand.tmp 56), type := 0, pos := "ref.go:57", after := #[{ on := 1, ground := Go.Ground.data }, { on := 2, ground := Go.Ground.data }], guard := none }) (v := ?v3_480201) rfl (by kernel_rfl) (by kernel_rfl) (by kernel_rfl) (fun _ _ _ h => h) (Or.inl ⟨by rfl, ?y3_480201⟩) hHeld ?r3_480201
        case y3_480201 => intro w hSw; (try dsimp only at hSw); obtain ⟨y0, y1, y2, y3, y4, y5, y6, y7, y8, y9, y10, y11⟩ := cn12 hSw.2.1; have c0 := hSw.2.2.2.1; have c1 := hSw.2.2.2.2.1; have c2 := hSw.2.2.2.2.2; go_simp; try with_reducible rfl
        try simp only [Act.put, List.setIfInBounds_toArray, List.set_cons_zero, List.set_cons_succ]
        refine wpAnyH_take (i := 4) (oi := { dst := some 58, op := Go.Op.fieldAddr 70 (Go.Operand.tmp 57) 0, type := 0, pos := "ref.go:57", after := #[{ on := 3, ground := Go.Ground.data }], guard := none }) (v := ?v4_480201) rfl (by kernel_rfl) (by kernel_rfl) (by kernel_rfl) (fun _ _ _ h => h) (Or.inl ⟨by rfl, ?y4_480201⟩) hHeld ?r4_480201
        case y4_480201 => intro w hSw; (try dsimp only at hSw); obtain ⟨y0, y1, y2, y3, y4, y5, y6, y7, y8, y9, y10, y11⟩ := cn12 hSw.2.1; have c0 := hSw.2.2.2.1; have c1 := hSw.2.2.2.2.1; have c2 := hSw.2.2.2.2.2; go_simp; try with_reducible rfl
        try simp only [Act.put, List.setIfInBounds_toArray, List.set_cons_zero, List.set_cons_succ]
        refine wpAnyH_take (i := 5) (oi := { dst := some 59, op := Go.Op.load 9 (Go.Operand.tmp 58), type := 9, pos := "ref.go:57", after := #[{ on := 4, ground := Go.Ground.data }], guard := none }) (v := ?v5_480201) rfl (by kernel_rfl) (by kernel_rfl) (by kernel_rfl) (fun _ _ _ h => h) (Or.inl ⟨by rfl, ?y5_480201⟩) hHeld ?r5_480201
        case y5_480201 => intro w hSw; (try dsimp only at hSw); obtain ⟨y0, y1, y2, y3, y4, y5, y6, y7, y8, y9, y10, y11⟩ := cn12 hSw.2.1; have c0 := hSw.2.2.2.1; have c1 := hSw.2.2.2.2.1; have c2 := hSw.2.2.2.2.2; go_simp; try with_reducible rfl
        try simp only [Act.put, List.setIfInBounds_toArray, List.set_cons_zero, List.set_cons_succ]
        refine wpAnyH_take (i := 6) (oi := { dst := some 60, op := Go.Op.fieldAddr 32 (Go.Operand.tmp 1) 1, type := 0, pos := "ref.go:57", after := #[], guard := none }) (v := ?v6_480201) rfl (by kernel_rfl) (by kernel_rfl) (by kernel_rfl) (fun _ _ _ h => h) (Or.inl ⟨by rfl, ?y6_480201⟩) hHeld ?r6_480201
        case y6_480201 => intro w hSw; (try dsimp only at hSw); obtain ⟨y0, y1, y2, y3, y4, y5, y6, y7, y8, y9, y10, y11⟩ := cn12 hSw.2.1; have c0 := hSw.2.2.2.1; have c1 := hSw.2.2.2.2.1; have c2 := hSw.2.2.2.2.2; go_simp; try with_reducible rfl
        try simp only [Act.put, List.setIfInBounds_toArray, List.set_cons_zero, List.set_cons_succ]
        refine wpAnyH_take (i := 7) (oi := { dst := some 61, op := Go.Op.load 24 (Go.Operand.tmp 60), type := 24, pos := "ref.go:57", after := #[{ on := 6, ground := Go.Ground.data }], guard := none }) (v := ?v7_480201) rfl (by kernel_rfl) (by kernel_rfl) (by kernel_rfl) (fun _ _ _ h => h) (Or.inl ⟨by rfl, ?y7_480201⟩) hHeld ?r7_480201
        case y7_480201 => intro w hSw; (try dsimp only at hSw); obtain ⟨y0, y1, y2, y3, y4, y5, y6, y7, y8, y9, y10, y11⟩ := cn12 hSw.2.1; have c0 := hSw.2.2.2.1; have c1 := hSw.2.2.2.2.1; have c2 := hSw.2.2.2.2.2; go_simp; try with_reducible rfl
        try simp only [Act.put, List.setIfInBounds_toArray, List.set_cons_zero, List.set_cons_succ]
        refine wpAnyH_take (i := 8) (oi := { dst := some 62, op := Go.Op.move (Go.Operand.tmp 5), type := 3, pos := "ref.go:57", after := #[], guard := none }) (v := ?v8_480201) rfl (by kernel_rfl) (by kernel_rfl) (by kernel_rfl) (fun _ _ _ h => h) (Or.inl ⟨by rfl, ?y8_480201⟩) hHeld ?r8_480201
        case y8_480201 => intro w hSw; (try dsimp only at hSw); obtain ⟨y0, y1, y2, y3, y4, y5, y6, y7, y8, y9, y10, y11⟩ := cn12 hSw.2.1; have c0 := hSw.2.2.2.1; have c1 := hSw.2.2.2.2.1; have c2 := hSw.2.2.2.2.2; go_simp; try with_reducible rfl
        try simp only [Act.put, List.setIfInBounds_toArray, List.set_cons_zero, List.set_cons_succ]
        refine wpAnyH_take (i := 9) (oi := { dst := some 63, op := Go.Op.indexAddr 24 (Go.Operand.tmp 61) (Go.Operand.tmp 62), type := 0, pos := "ref.go:57", after := #[{ on := 7, ground := Go.Ground.data }, { on := 8, ground := Go.Ground.data }], guard := none }) (v := ?v9_480201) rfl (by kernel_rfl) (by kernel_rfl) (by kernel_rfl) (fun _ _ _ h => h) (Or.inl ⟨by rfl, ?y9_480201⟩) hHeld ?r9_480201
        case y9_480201 => intro w hSw; (try dsimp only at hSw); obtain ⟨y0, y1, y2, y3, y4, y5, y6, y7, y8, y9, y10, y11⟩ := cn12 hSw.2.1; have c0 := hSw.2.2.2.1; have c1 := hSw.2.2.2.2.1; have c2 := hSw.2.2.2.2.2; go_simp; try with_reducible rfl
        try simp only [Act.put, List.setIfInBounds_toArray, List.set_cons_zero, List.set_cons_succ]
        refine wpAnyH_take (i := 10) (oi := { dst := some 64, op := Go.Op.fieldAddr 70 (Go.Operand.tmp 63) 1, type := 0, pos := "ref.go:57", after := #[{ on := 9, ground := Go.Ground.data }], guard := none }) (v := ?v10_480201) rfl (by kernel_rfl) (by kernel_rfl) (by kernel_rfl) (fun _ _ _ h => h) (Or.inl ⟨by rfl, ?y10_480201⟩) hHeld ?r10_480201
        case y10_480201 => intro w hSw; (try dsimp only at hSw); obtain ⟨y0, y1, y2, y3, y4, y5, y6, y7, y8, y9, y10, y11⟩ := cn12 hSw.2.1; have c0 := hSw.2.2.2.1; have c1 := hSw.2.2.2.2.1; have c2 := hSw.2.2.2.2.2; go_simp; try with_reducible rfl
        try simp only [Act.put, List.setIfInBounds_toArray, List.set_cons_zero, List.set_cons_succ]
        refine wpAnyH_take (i := 11) (oi := { dst := some 65, op := Go.Op.load 3 (Go.Operand.tmp 64), type := 3, pos := "ref.go:57", after := #[{ on := 10, ground := Go.Ground.data }], guard := none }) (v := ?v11_480201) rfl (by kernel_rfl) (by kernel_rfl) (by kernel_rfl) (fun _ _ _ h => h) (Or.inl ⟨by rfl, ?y11_480201⟩) hHeld ?r11_480201
        case y11_480201 => intro w hSw; (try dsimp only at hSw); obtain ⟨y0, y1, y2, y3, y4, y5, y6, y7, y8, y9, y10, y11⟩ := cn12 hSw.2.1; have c0 := hSw.2.2.2.1; have c1 := hSw.2.2.2.2.1; have c2 := hSw.2.2.2.2.2; go_simp; try with_reducible rfl
        try simp only [Act.put, List.setIfInBounds_toArray, List.set_cons_zero, List.set_cons_succ]
        refine wpAnyH_take (i := 12) (oi := { dst := some 66, op := Go.Op.fieldAddr 32 (Go.Operand.tmp 1) 1, type := 0, pos := "ref.go:57", after := #[], guard := none }) (v := ?v12_480201) rfl (by kernel_rfl) (by kernel_rfl) (by kernel_rfl) (fun _ _ _ h => h) (Or.inl ⟨by rfl, ?y12_480201⟩) hHeld ?r12_480201
        case y12_480201 => intro w hSw; (try dsimp only at hSw); obtain ⟨y0, y1, y2, y3, y4, y5, y6, y7, y8, y9, y10, y11⟩ := cn12 hSw.2.1; have c0 := hSw.2.2.2.1; have c1 := hSw.2.2.2.2.1; have c2 := hSw.2.2.2.2.2; go_simp; try with_reducible rfl
        try simp only [Act.put, List.setIfInBounds_toArray, List.set_cons_zero, List.set_cons_succ]
        refine wpAnyH_take (i := 13) (oi := { dst := some 67, op := Go.Op.load 24 (Go.Operand.tmp 66), type := 24, pos := "ref.go:57", after := #[{ on := 12, ground := Go.Ground.data }], guard := none }) (v := ?v13_480201) rfl (by kernel_rfl) (by kernel_rfl) (by kernel_rfl) (fun _ _ _ h => h) (Or.inl ⟨by rfl, ?y13_480201⟩) hHeld ?r13_480201
        case y13_480201 => intro w hSw; (try dsimp only at hSw); obtain ⟨y0, y1, y2, y3, y4, y5, y6, y7, y8, y9, y10, y11⟩ := cn12 hSw.2.1; have c0 := hSw.2.2.2.1; have c1 := hSw.2.2.2.2.1; have c2 := hSw.2.2.2.2.2; go_simp; try with_reducible rfl
        try simp only [Act.put, List.setIfInBounds_toArray, List.set_cons_zero, List.set_cons_succ]
        refine wpAnyH_take (i := 14) (oi := { dst := some 68, op := Go.Op.move (Go.Operand.tmp 5), type := 3, pos := "ref.go:57", after := #[], guard := none }) (v := ?v14_480201) rfl (by kernel_rfl) (by kernel_rfl) (by kernel_rfl) (fun _ _ _ h => h) (Or.inl ⟨by rfl, ?y14_480201⟩) hHeld ?r14_480201
        case y14_480201 => intro w hSw; (try dsimp only at hSw); obtain ⟨y0, y1, y2, y3, y4, y5, y6, y7, y8, y9, y10, y11⟩ := cn12 hSw.2.1; have c0 := hSw.2.2.2.1; have c1 := hSw.2.2.2.2.1; have c2 := hSw.2.2.2.2.2; go_simp; try with_reducible rfl
        try simp only [Act.put, List.setIfInBounds_toArray, List.set_cons_zero, List.set_cons_succ]
        refine wpAnyH_take (i := 15) (oi := { dst := some 69, op := Go.Op.indexAddr 24 (Go.Operand.tmp 67) (Go.Operand.tmp 68), type := 0, pos := "ref.go:57", after := #[{ on := 13, ground := Go.Ground.data }, { on := 14, ground := Go.Ground.data }], guard := none }) (v := ?v15_480201) rfl (by kernel_rfl) (by kernel_rfl) (by kernel_rfl) (fun _ _ _ h => h) (Or.inl ⟨by rfl, ?y15_480201⟩) hHeld ?r15_480201
        case y15_480201 => intro w hSw; (try dsimp only at hSw); obtain ⟨y0, y1, y2, y3, y4, y5, y6, y7, y8, y9, y10, y11⟩ := cn12 hSw.2.1; have c0 := hSw.2.2.2.1; have c1 := hSw.2.2.2.2.1; have c2 := hSw.2.2.2.2.2; go_simp; try with_reducible rfl
        try simp only [Act.put, List.setIfInBounds_toArray, List.set_cons_zero, List.set_cons_succ]
        refine wpAnyH_take (i := 16) (oi := { dst := some 70, op := Go.Op.fieldAddr 70 (Go.Operand.tmp 69) 2, type := 0, pos := "ref.go:57", after := #[{ on := 15, ground := Go.Ground.data }], guard := none }) (v := ?v16_480201) rfl (by kernel_rfl) (by kernel_rfl) (by kernel_rfl) (fun _ _ _ h => h) (Or.inl ⟨by rfl, ?y16_480201⟩) hHeld ?r16_480201
        case y16_480201 => intro w hSw; (try dsimp only at hSw); obtain ⟨y0, y1, y2, y3, y4, y5, y6, y7, y8, y9, y10, y11⟩ := cn12 hSw.2.1; have c0 := hSw.2.2.2.1; have c1 := hSw.2.2.2.2.1; have c2 := hSw.2.2.2.2.2; go_simp; try with_reducible rfl
        try simp only [Act.put, List.setIfInBounds_toArray, List.set_cons_zero, List.set_cons_succ]
        refine wpAnyH_take (i := 17) (oi := { dst := some 71, op := Go.Op.load 3 (Go.Operand.tmp 70), type := 3, pos := "ref.go:57", after := #[{ on := 16, ground := Go.Ground.data }], guard := none }) (v := ?v17_480201) rfl (by kernel_rfl) (by kernel_rfl) (by kernel_rfl) (fun _ _ _ h => h) (Or.inl ⟨by rfl, ?y17_480201⟩) hHeld ?r17_480201
        case y17_480201 => intro w hSw; (try dsimp only at hSw); obtain ⟨y0, y1, y2, y3, y4, y5, y6, y7, y8, y9, y10, y11⟩ := cn12 hSw.2.1; have c0 := hSw.2.2.2.1; have c1 := hSw.2.2.2.2.1; have c2 := hSw.2.2.2.2.2; go_simp; try with_reducible rfl
        try simp only [Act.put, List.setIfInBounds_toArray, List.set_cons_zero, List.set_cons_succ]
        refine wpAnyH_take (i := 18) (oi := { dst := some 72, op := Go.Op.build 118 #[(0, Go.Operand.tmp 59), (1, Go.Operand.tmp 65), (2, Go.Operand.tmp 71)], type := 118, pos := "ref.go:57", after := #[{ on := 5, ground := Go.Ground.data }, { on := 11, ground := Go.Ground.data }, { on := 17, ground := Go.Ground.data }], guard := none }) (v := ?v18_480201) rfl (by kernel_rfl) (by kernel_rfl) (by kernel_rfl) (fun _ _ _ h => h) (Or.inl ⟨by rfl, ?y18_480201⟩) hHeld ?r18_480201
        case y18_480201 => intro w hSw; (try dsimp only at hSw); obtain ⟨y0, y1, y2, y3, y4, y5, y6, y7, y8, y9, y10, y11⟩ := cn12 hSw.2.1; have c0 := hSw.2.2.2.1; have c1 := hSw.2.2.2.2.1; have c2 := hSw.2.2.2.2.2; go_simp; try with_reducible rfl
        try simp only [Act.put, List.setIfInBounds_toArray, List.set_cons_zero, List.set_cons_succ]
        refine wpAnyH_ready (rs := [19]) (by kernel_rfl) (by simp) ?_
        refine AllReadyH.cons (o := { dst := some 73, op := Go.Op.call { callee := Go.Callee.value (Go.Operand.func 64), args := #[Go.Operand.tmp 72], argTypes := #[118] }, type := 4, pos := "ref.go:57", after := #[{ on := 18, ground := Go.Ground.data }], guard := none }) rfl (fun K hK => ?_) AllReadyH.nil
        go_simp
        refine (rmayKey_any5 n t c _ hsz).mono ?_; rintro e w3 ⟨rfl, hb⟩
        rw [HM.out]
        go_wp2_with fail
        refine hK.out _ _ (⟨hHeld.1.trans (hb.mono hHeld.1.size), hHeld.2.1.below hb, (hb.cell (p := ⟨b, o + k * 3, none⟩) hHeld.2.2.1).trans hHeld.2.2.2.1 |> fun h => ⟨Nat.lt_of_lt_of_le hHeld.2.2.1 hb.size, h, (hb.cell (p := ⟨b, o + k * 3 + 1, none⟩) hHeld.2.2.1).trans hHeld.2.2.2.2.1, (hb.cell (p := ⟨b, o + k * 3 + 2, none⟩) hHeld.2.2.1).trans hHeld.2.2.2.2.2⟩⟩) (fun hHeld2 => ?_)
        clear hK K hHeld
        have hHeld := hHeld2
        clear hHeld2
        try simp only [Act.put, List.setIfInBounds_toArray, List.set_cons_zero, List.set_cons_succ]
        refine wpAnyH_take (i := 20) (oi := { dst := some 74, op := Go.Op.unOp Go.UnOp.not 4 (Go.Operand.tmp 73), type := 4, pos := "ref.go:57", after := #[{ on := 19, ground := Go.Ground.data }], guard := none }) (v := ?v20_480202) rfl (by kernel_rfl) (by kernel_rfl) (by kernel_rfl) (fun _ _ _ h => h) (Or.inl ⟨by rfl, ?y20_480202⟩) hHeld ?r20_480202
        case y20_480202 => intro w hSw; (try dsimp only at hSw); obtain ⟨y0, y1, y2, y3, y4, y5, y6, y7, y8, y9, y10, y11⟩ := cn12 hSw.2.1; have c0 := hSw.2.2.2.1; have c1 := hSw.2.2.2.2.1; have c2 := hSw.2.2.2.2.2; go_simp; try with_reducible rfl
        try simp only [Act.put, List.setIfInBounds_toArray, List.set_cons_zero, List.set_cons_succ]
        refine wpAnyH_done (by kernel_rfl) ?_ _
        have HDZ := Lib.hid hHeld.1
        clear hHeld
        go_wp2
        go_roundw
        case rel => exact ⟨k + 1, by omega, by go_num, HDZ, HA2⟩
        case measure => simp [intOf]; omega
    · obtain rfl : k = ql := by omega
      have HN := Lib.hid (show Q.all mayK = true from List.all_eq_true.2 (fun r hr => by
        obtain ⟨j, hj, rfl⟩ := List.mem_iff_getElem.1 hr
        exact HA.out j _ (by have := HLS.out; omega) (List.getElem?_eq_getElem hj)))
      have HE2 := Lib.hid (show mayM mi mo mr Q A N X = (X.all mayX && (A.all mayRr && N.all mayRr)) by rw [HE.out, HN.out, Bool.true_and])
      clear hlt hk hql
      obtain ⟨y0, y1, y2, y3, y4, y5, y6, y7, y8, y9, y10, y11⟩ := cn12 (HC.out.below HD.out)
      go_wp2_with fail
      clear y0 y1 y2 y3 y4 y5 y6 y7 y8 y9 y10 y11
      refine (rall_any mi mo mr b1 b2 b3 b4 b5 _ _ _ _ _ _ nl nc sl sc xl xc A N X wr (HRA.out.below HD.out) HNO.out.1 (HRN.out.below HD.out) HNO.out.2.1 (HRX.out.below HD.out) HNO.out.2.2 (by have := HLL.out; omega)).mono ?_; rintro e w9 ⟨v9, rfl, ho, hb⟩
      obtain ⟨L, hL⟩ : ∃ x, A ++ (N ++ X) = x := ⟨_, rfl⟩
      obtain ⟨nn, hnn⟩ : ∃ x, nl + sl + xl = x := ⟨_, rfl⟩
      have hai := all_mayI (A := A) (N := N) (X := X)
      rw [hL] at ho hai HZR
      rw [hnn] at ho
      have HAI := Lib.hid hai
      obtain ⟨np, hnp⟩ : ∃ x, nl + sl = x := ⟨_, rfl⟩
      have HNP := Lib.hid (show A.length + N.length = np by have := HLS.out; omega)
      have p1 : IntKind.i64.wrap ((nl : Int) + (sl : Int)) = (np : Int) := by have := HLL.out; rw [IntKind.wrap_i64]; omega
      have HP1 := Lib.hid p1
      have HNN := Lib.hid (show nn ≤ 300 by have := HCT.out; omega)
      have HLN := Lib.hid (show L.length = nn by have := HLS.out; rw [← hL, ← hnn]; simp only [List.length_append]; omega)
      obtain ⟨a9, c9, rfl, -⟩ := rowR_own ho
      have HO9 := Lib.hid (rowR_own2 ho).1
      have HD2 := Lib.hid (HD.out.trans (hb.mono HD.out.size))
      have HC2 := Lib.hid (HC.out.below HD2.out)
      have HW2 := Lib.hid (HW.out.trans (HD2.out.mono HW.out.size))
      have hnn9 := HNN.out
      clear ho hb hL hnn hnp hai p1
      go_wp2_with fail
      go_loopw [7] (fun i wx => ∃ j : Nat, j ≤ nn ∧ i = .int .i64 j ∧ Hid (Below w9.heap.size w9 wx) ∧ Hid (∀ i r, i < j → L[i]? = some r → mayI (A.length + N.length) i r = true)) (fun i _ => nn - (intOf i).toNat)
      case atStart => exact ⟨0, by omega, rfl, Lib.hid (Below.refl _ _), Lib.hid (fun j r hj _ => absurd hj (by omega))⟩
      case round =>
        obtain ⟨j, hj, rfl, HV, HA⟩ := hrel
        by_cases hlt : j < nn
        · obtain ⟨b, o, r, rfl, hbl, hr, c0, c1, c2, c3, c4⟩ := (HO9.out.below HV.out).at j hlt
          obtain ⟨⟨rn, rt, rc⟩, ru, rd⟩ := r
          obtain ⟨z1, z2⟩ := HZR.out _ (List.mem_of_getElem? hr)
          replace z1 : rn.size ≤ 1000000 := z1
          replace z2 : rd.size ≤ 1000000 := z2
          have HRK := Lib.hid hr
          replace c0 : wr.cell? ⟨b, o + j * 5, none⟩ = some (.string rn) := c0
          replace c1 : wr.cell? ⟨b, o + j * 5 + 1, none⟩ = some (.int .i64 rt) := c1
          replace c2 : wr.cell? ⟨b, o + j * 5 + 2, none⟩ = some (.int .i64 rc) := c2
          replace c3 : wr.cell? ⟨b, o + j * 5 + 3, none⟩ = some (.int .i64 ru) := c3
          replace c4 : wr.cell? ⟨b, o + j * 5 + 4, none⟩ = some (.string rd) := c4
          have HNNI := Lib.hid (fun (hf : mayI (A.length + N.length) j ⟨⟨rn, rt, rc⟩, ru, rd⟩ = false) => show mayM mi mo mr Q A N X = false by
            rw [HE2.out]
            cases h2 : (X.all mayX && (A.all mayRr && N.all mayRr))
            · rfl
            · have := HAI.out.1 h2 j _ HRK.out
              rw [hf] at this; cases this)
          have HA2 := Lib.hid (fun (ht : mayI (A.length + N.length) j ⟨⟨rn, rt, rc⟩, ru, rd⟩ = true) => show ∀ i r, i < j + 1 → L[i]? = some r → mayI (A.length + N.length) i r = true from fun i r hi h2 => by
            by_cases e : i = j
            · subst e; rw [HRK.out] at h2; obtain rfl := Option.some.inj h2; exact ht
            · exact HA.out i r (by omega) h2)
          have p1 := HP1.out
          obtain ⟨y0, y1, y2, y3, y4, y5, y6, y7, y8, y9, y10, y11⟩ := cn12 (HC2.out.below HV.out)
          clear hr hbl
          by_cases hp : j < np
          · have d1 : decide (np ≤ j) = false := dF (by omega)
            have HI := Lib.hid (show mayI (A.length + N.length) j ⟨⟨rn, rt, rc⟩, ru, rd⟩ = mayR rn rt rc ru rd by unfold mayI; rw [if_pos (by rw [HNP.out]; exact hp)]; rfl)
            clear hp
            cases hm : mayR rn rt rc ru rd
            · have HF := Lib.hid (HNNI.out (HI.out.trans hm))
              have HM := Lib.hid hm
              clear hm
              go_wp2_with fail
              refine (rmayRR_any rn rt rc ru rd _ z1 z2).mono ?_; rintro e w3 ⟨rfl, hb⟩
              have HV3 := Lib.hid (HV.out.trans (hb.mono HV.out.size))
              rw [HM.out]
              clear hb c0 c1 c2 c3 c4 y0 y1 y2 y3 y4 y5 y6 y7 y8 y9 y10 y11
              go_wp2
              go_ret
              exact ⟨ret_bool HF.out.symm, HW2.out.trans (HV3.out.mono HW2.out.size)⟩
            · have HF := Lib.hid (HA2.out (HI.out.trans hm))
              have HM := Lib.hid hm
              clear hm
              go_wp2_with fail
              refine (rmayRR_any rn rt rc ru rd _ z1 z2).mono ?_; rintro e w3 ⟨rfl, hb⟩
              have HV3 := Lib.hid (HV.out.trans (hb.mono HV.out.size))
              rw [HM.out]
              clear hb c0 c1 c2 c3 c4 y0 y1 y2 y3 y4 y5 y6 y7 y8 y9 y10 y11
              go_wp2
              go_roundw
              case rel => exact ⟨j + 1, by omega, by go_num, HV3, HF⟩
              case measure => simp [intOf]; omega
          · have d1 : decide (np ≤ j) = true := dT (by omega)
            by_cases h41 : rt = 41
            · have e1 := eT h41
              have HI := Lib.hid (show mayI (A.length + N.length) j ⟨⟨rn, rt, rc⟩, ru, rd⟩ = mayO' ⟨⟨rn, rt, rc⟩, ru, rd⟩ by unfold mayI; rw [if_neg (by rw [HNP.out]; exact hp)]; exact mayO_41 h41)
              clear hp h41
              cases hm : mayO' ⟨⟨rn, rt, rc⟩, ru, rd⟩
              · have HF := Lib.hid (HNNI.out (HI.out.trans hm))
                have HM := Lib.hid hm
                clear hm
                go_wp2_with fail
                refine (rmayOpt_any rn rt rc ru rd _).mono ?_; rintro e w3 ⟨rfl, hb⟩
                have HV3 := Lib.hid (HV.out.trans (hb.mono HV.out.size))
                rw [HM.out]
                clear hb c0 c1 c2 c3 c4 y0 y1 y2 y3 y4 y5 y6 y7 y8 y9 y10 y11
                go_wp2
                go_ret
                exact ⟨ret_bool HF.out.symm, HW2.out.trans (HV3.out.mono HW2.out.size)⟩
              · have HF := Lib.hid (HA2.out (HI.out.trans hm))
                have HM := Lib.hid hm
                clear hm
                go_wp2_with fail
                refine (rmayOpt_any rn rt rc ru rd _).mono ?_; rintro e w3 ⟨rfl, hb⟩
                have HV3 := Lib.hid (HV.out.trans (hb.mono HV.out.size))
                rw [HM.out]
                clear hb c0 c1 c2 c3 c4 y0 y1 y2 y3 y4 y5 y6 y7 y8 y9 y10 y11
                go_wp2
                go_roundw
                case rel => exact ⟨j + 1, by omega, by go_num, HV3, HF⟩
                case measure => simp [intOf]; omega
            · have e1 := eF h41
              have HI := Lib.hid (show mayI (A.length + N.length) j ⟨⟨rn, rt, rc⟩, ru, rd⟩ = mayR rn rt rc ru rd by unfold mayI; rw [if_neg (by rw [HNP.out]; exact hp)]; exact mayO_no h41)
              clear hp h41
              cases hm : mayR rn rt rc ru rd
              · have HF := Lib.hid (HNNI.out (HI.out.trans hm))
                have HM := Lib.hid hm
                clear hm
                go_wp2_with fail
                refine (rmayRR_any rn rt rc ru rd _ z1 z2).mono ?_; rintro e w3 ⟨rfl, hb⟩
                have HV3 := Lib.hid (HV.out.trans (hb.mono HV.out.size))
                rw [HM.out]
                clear hb c0 c1 c2 c3 c4 y0 y1 y2 y3 y4 y5 y6 y7 y8 y9 y10 y11
                go_wp2
                go_ret
                exact ⟨ret_bool HF.out.symm, HW2.out.trans (HV3.out.mono HW2.out.size)⟩
              · have HF := Lib.hid (HA2.out (HI.out.trans hm))
                have HM := Lib.hid hm
                clear hm
                go_wp2_with fail
                refine (rmayRR_any rn rt rc ru rd _ z1 z2).mono ?_; rintro e w3 ⟨rfl, hb⟩
                have HV3 := Lib.hid (HV.out.trans (hb.mono HV.out.size))
                rw [HM.out]
                clear hb c0 c1 c2 c3 c4 y0 y1 y2 y3 y4 y5 y6 y7 y8 y9 y10 y11
                go_wp2
                go_roundw
                case rel => exact ⟨j + 1, by omega, by go_num, HV3, HF⟩
                case measure => simp [intOf]; omega
        · obtain rfl : j = nn := by omega
          have HF := Lib.hid (show mayM mi mo mr Q A N X = true by
            rw [HE2.out]
            exact HAI.out.2 (fun i r hi => HA.out i r (by have := HLN.out; have := (List.getElem?_eq_some_iff.1 hi).1; omega) hi))
          clear hlt hj
          go_wp2
          go_ret
          exact ⟨ret_bool HF.out.symm, HW2.out.trans (HV.out.mono HW2.out.size)⟩
end Go.Proofs.Ytkoafkajmfodkaa
