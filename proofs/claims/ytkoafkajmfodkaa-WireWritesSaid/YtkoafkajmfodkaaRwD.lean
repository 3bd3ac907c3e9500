/- The document's writer's numbers and data. -/
import Derived.Test.YtkoafkajmfodkaaRwC
import Derived.Test.YtkoafkajmfodkaaMgC
namespace Go.Proofs.Ytkoafkajmfodkaa
open Go.RowKit

/-- The row alone has grown. -/
def DrX (w : World) (B q : Nat) (nv : Value) (E : Ents) (Y : List UInt8) (w' : World) : Prop := DrS w' B q nv E Y ∧ Below B w w' ∧ Kd w w' nv
theorem DrX.to {w w' : World} {B q : Nat} {nv : Value} {E : Ents} {Y : List UInt8} (h : DrX w B q nv E Y w') : DrN w B q nv (lkE E) Y w' := ⟨nv, E, h.1, rfl, h.2.1, h.2.2, Ow.refl _ _⟩
theorem putL_le (n W : Int) : (putL n W).length ≤ 6 := by
  unfold putL
  split
  · rename_i h
    rw [putTo_length]
    unfold fits at h
    simp only [decide_eq_true_eq] at h
    omega
  · simp
theorem putL_join {n : Int} {W : Int} (h : fits n W = true) : joinL W [n] = putL n W := by
  have hW : 1 ≤ W ∧ W ≤ 6 := by unfold fits at h; simp only [decide_eq_true_eq] at h; omega
  have hj : joinOk W [n] = true := join_yes hW (fun j hj => by
    have : j = 0 := by simp at hj; omega
    subst this; exact h)
  rw [joinL, if_pos hj, putL, if_pos h]
  show [] ++ putTo n W.toNat W.toNat = _
  rw [List.nil_append]
theorem joinL_app {n m : Int} {W : Int} (h : fits n W = true) (h2 : fits m W = true) : joinL W [n, m] = putL n W ++ putL m W := by
  have hW : 1 ≤ W ∧ W ≤ 6 := by unfold fits at h; simp only [decide_eq_true_eq] at h; omega
  have hj : joinOk W [n, m] = true := join_yes hW (fun j hj => by
    match j, hj with
    | 0, _ => exact h
    | 1, _ => exact h2
    | j + 2, hj => (simp at hj; omega))
  rw [joinL, if_pos hj, putL, if_pos h, putL, if_pos h2]
  show ([] ++ putTo n W.toNat W.toNat) ++ putTo m W.toNat W.toNat = _
  rw [List.nil_append]
set_option maxRecDepth 100000 in
set_option maxHeartbeats 4000000 in
theorem rnumS (q B : Nat) (nv : Value) (E : Ents) (X : List UInt8) (n W : Int) (w : World) (hs : DrS w B q nv E X) (hB : B ≤ q) (hm : X.length + 10 ≤ 1000000) :
    Calls Try.prog 55 #[.pointer (some ⟨q, 0, none⟩), .int .i64 n, .int .i64 W] w fun e w' => e = .returned (.tuple #[]) ∧ DrX w B q nv E (X ++ putL n W) w' := by
  obtain ⟨i0, hi, hz0, hz1, hz2⟩ := info_parts infoU8
  have HI := Lib.hid hi
  have HZ0 := Lib.hid hz0
  have HZ1 := Lib.hid hz1
  have HZ2 := Lib.hid hz2
  have HQ := Lib.hid hB
  have HPL := Lib.hid (putL_le n W)
  obtain ⟨P, hP⟩ : ∃ x, putL n W = x := ⟨_, rfl⟩
  rw [hP] at HPL ⊢
  have HP := Lib.hid hP
  clear hP
  have HLE := Lib.hid (show B ≤ w.heap.size from Nat.le_trans hB (Nat.le_of_lt hs.lt))
  obtain ⟨bv, av, hc, ht, h1, h2, h3, hok, hle⟩ := hs
  obtain ⟨xl, hxl⟩ : ∃ x, X.length = x := ⟨_, rfl⟩
  rw [hxl] at h1
  obtain ⟨sa, sc, rfl, -⟩ := cellsK_own h1
  have HXL := Lib.hid hxl
  have HOK := Lib.hid hok
  have HEL := Lib.hid hle
  have HXS := Lib.hid (show xl ≤ 999990 by omega)
  have HR := Lib.hid (show R5s w B q (.slice sa xl sc) nv av xl E.length (bc X) (nmsC E) (atsC E) from ⟨hc, ht, h1, h2, h3, HLE.out⟩)
  clear hi hz0 hz1 hz2 hB hm hc ht h1 h2 h3 hok hle hxl
  go_enter Try.func55, Try.ntmps55
  go_upto_region 0 with (fail)
  obtain ⟨wd, hwd⟩ : ∃ x, w.drew = x := ⟨_, rfl⟩
  have HRD := Lib.hid (show R5s wd B q (.slice sa xl sc) nv av xl E.length (bc X) (nmsC E) (atsC E) by rw [← hwd]; exact HR.out.drew)
  have HBD := Lib.hid (show Below B w wd by rw [← hwd]; exact (Below.refl B w).drew)
  have HKD := Lib.hid (show Kd w wd nv by rw [← hwd]; exact (Kd.refl w nv).drew)
  obtain ⟨sb, hsb⟩ : ∃ x, bs P = x := ⟨_, rfl⟩
  have HSE := Lib.hid hsb.symm
  obtain ⟨yl, hyl⟩ : ∃ x, P.length = x := ⟨_, rfl⟩
  have HYL := Lib.hid hyl
  have HYB := Lib.hid (show yl ≤ 6 by rw [← hyl]; exact HPL.out)
  clear hyl hsb
  refine wp_region_store_drew (S := (fun wx => CN wx q [.slice sa xl sc, nv, av])) (L := 11) (by kernel_rfl) (by rw [hwd]; exact HRD.out.cn) (fun hHeld => ?_)
  rw [hwd] at hHeld ⊢
  clear hwd
  refine wpAnyU_take0 (i := 0) (oi := { dst := some 6, op := Go.Op.move (Go.Operand.tmp 0), type := 105, pos := "ref.go:122", after := #[], guard := none }) (v := ?v0_430101) rfl (by decide) (by kernel_rfl) (by kernel_rfl) (by kernel_rfl) (fun _ _ _ h => h) (Or.inl ⟨by rfl, ?y0_430101⟩) (fun _ => hHeld) ?r0_430101
  case y0_430101 => intro w hSw; clear hSw; go_simp; try with_reducible rfl
  try simp only [Act.put, List.setIfInBounds_toArray, List.set_cons_zero, List.set_cons_succ]
  refine wpAnyU_take0 (i := 1) (oi := { dst := some 7, op := Go.Op.move (Go.Operand.tmp 0), type := 105, pos := "ref.go:122", after := #[], guard := none }) (v := ?v1_430101) rfl (by decide) (by kernel_rfl) (by kernel_rfl) (by kernel_rfl) (fun _ _ _ h => h) (Or.inl ⟨by rfl, ?y1_430101⟩) (fun _ => hHeld) ?r1_430101
  case y1_430101 => intro w hSw; clear hSw; go_simp; try with_reducible rfl
  try simp only [Act.put, List.setIfInBounds_toArray, List.set_cons_zero, List.set_cons_succ]
  refine wpAnyU_take0 (i := 2) (oi := { dst := some 8, op := Go.Op.nilCheck (Go.Operand.tmp 7), type := 0, pos := "ref.go:122", after := #[{ on := 1, ground := Go.Ground.data }], guard := none }) (v := ?v2_430101) rfl (by decide) (by kernel_rfl) (by kernel_rfl) (by kernel_rfl) (fun _ _ _ h => h) (Or.inl ⟨by rfl, ?y2_430101⟩) (fun _ => hHeld) ?r2_430101
  case y2_430101 => intro w hSw; clear hSw; go_simp; try with_reducible rfl
  try simp only [Act.put, List.setIfInBounds_toArray, List.set_cons_zero, List.set_cons_succ]
  refine wpAnyU_take0 (i := 3) (oi := { dst := some 9, op := Go.Op.fieldAddr 108 (Go.Operand.tmp 8) 0, type := 0, pos := "ref.go:122", after := #[{ on := 2, ground := Go.Ground.data }], guard := none }) (v := ?v3_430101) rfl (by decide) (by kernel_rfl) (by kernel_rfl) (by kernel_rfl) (fun _ _ _ h => h) (Or.inl ⟨by rfl, ?y3_430101⟩) (fun _ => hHeld) ?r3_430101
  case y3_430101 => intro w hSw; clear hSw; go_simp; try with_reducible rfl
  try simp only [Act.put, List.setIfInBounds_toArray, List.set_cons_zero, List.set_cons_succ]
  refine wpAnyU_take0 (i := 5) (oi := { dst := some 11, op := Go.Op.move (Go.Operand.tmp 1), type := 3, pos := "ref.go:122", after := #[], guard := none }) (v := ?v5_430101) rfl (by decide) (by kernel_rfl) (by kernel_rfl) (by kernel_rfl) (fun _ _ _ h => h) (Or.inl ⟨by rfl, ?y5_430101⟩) (fun _ => hHeld) ?r5_430101
  case y5_430101 => intro w hSw; clear hSw; go_simp; try with_reducible rfl
  try simp only [Act.put, List.setIfInBounds_toArray, List.set_cons_zero, List.set_cons_succ]
  refine wpAnyU_take0 (i := 6) (oi := { dst := some 12, op := Go.Op.move (Go.Operand.tmp 2), type := 3, pos := "ref.go:122", after := #[], guard := none }) (v := ?v6_430101) rfl (by decide) (by kernel_rfl) (by kernel_rfl) (by kernel_rfl) (fun _ _ _ h => h) (Or.inl ⟨by rfl, ?y6_430101⟩) (fun _ => hHeld) ?r6_430101
  case y6_430101 => intro w hSw; clear hSw; go_simp; try with_reducible rfl
  try simp only [Act.put, List.setIfInBounds_toArray, List.set_cons_zero, List.set_cons_succ]
  refine wpAnyU_take (i := 4) (oi := { dst := some 10, op := Go.Op.load 35 (Go.Operand.tmp 9), type := 35, pos := "ref.go:122", after := #[{ on := 3, ground := Go.Ground.data }], guard := none }) (v := ?v4_430101) rfl (by kernel_rfl) (by decide) (by kernel_rfl) (by kernel_rfl) (by kernel_rfl) (by kernel_rfl) (by kernel_rfl) (fun _ _ _ h => h) (Or.inl ⟨by rfl, ?y4_430101⟩) hHeld ?r4_430101
  case y4_430101 => intro w hSw; (try dsimp only at hSw); have y0 := (hSw.2 0 _ rfl).1; go_simp; try with_reducible rfl
  try simp only [Act.put, List.setIfInBounds_toArray, List.set_cons_zero, List.set_cons_succ]
  refine wpAnyU_ready (rs := [7]) (by kernel_rfl) (by simp) ?_
  refine AllReadyU.cons (o := { dst := some 13, op := Go.Op.call { callee := Go.Callee.value (Go.Operand.func 87), args := #[Go.Operand.tmp 11, Go.Operand.tmp 12], argTypes := #[3, 3] }, type := 9, pos := "ref.go:122", after := #[{ on := 5, ground := Go.Ground.data }, { on := 6, ground := Go.Ground.data }], guard := none }) rfl (fun K hK => ?_) AllReadyU.nil
  go_simp
  refine (rnum_any n W _).mono ?_; rintro e wk ⟨rfl, hb⟩
  rw [HP.out, ← HSE.out]
  have HRK := Lib.hid (HRD.out.below hb)
  have HBK := Lib.hid (HBD.out.trans (hb.mono HRD.out.le))
  have HKK := Lib.hid (HKD.out.trans (Ow.refl _ _) (Kd.below nv hb))
  clear hb
  go_wp2_with fail
  refine hK.out _ _ (HRK.out.cn) (fun hHeld2 => ?_)
  clear hK K hHeld
  have hHeld := hHeld2
  clear hHeld2
  try simp only [Act.put, List.setIfInBounds_toArray, List.set_cons_zero, List.set_cons_succ]
  refine wpAnyU_ready (rs := [8]) (by kernel_rfl) (by simp) ?_
  refine AllReadyU.cons (o := { dst := some 14, op := Go.Op.call { callee := Go.Callee.builtin Go.Builtin.append, args := #[Go.Operand.tmp 10, Go.Operand.tmp 13], argTypes := #[35, 9] }, type := 35, pos := "ref.go:122", after := #[{ on := 4, ground := Go.Ground.data }, { on := 7, ground := Go.Ground.data }, { on := 7, ground := Go.Ground.chain }], guard := none }) rfl (fun K hK => ?_) AllReadyU.nil
  refine step_append_str5 (by rfl) _ _ 35 9 (by rfl) B 5 i0 Try.underlying35 Try.underlying9 HI.out HZ0.out HZ1.out HZ2.out (.slice sa xl sc) xl (bc X) (by rfl) HRK.out.row (sb) (by rfl) (by rw [HSE.out, bs_size, HYL.out]; have := HXS.out; have := HYB.out; unfold maxLen; omega) (by rw [HSE.out, bs_size, HYL.out]; have := HXS.out; have := HYB.out; omega) HRK.out.le ?_
  intro v7 w7 ho7 hg7
  rw [HSE.out, bs_size, HYL.out, strCells_bs, ← bc_append] at ho7
  obtain ⟨sa7, sc7, rfl, -⟩ := cellsK_own ho7
  have hne7 := own_ne HRK.out.row HRK.out.tb (by decide)
  have HC7 := Lib.hid (HRK.out.cn.grown hg7 (fun e => hne7 e.symm))
  have HT7 := Lib.hid (HRK.out.tb.grown hg7 hne7)
  have HO7 := Lib.hid ho7
  have HG7 := Lib.hid hg7
  clear ho7 hg7 hne7
  refine hK.out _ _ (HC7.out) (fun hHeld2 => ?_)
  clear hK K hHeld
  have hHeld := hHeld2
  clear hHeld2
  try simp only [Act.put, List.setIfInBounds_toArray, List.set_cons_zero, List.set_cons_succ]
  refine wpAnyU_take0 (i := 9) (oi := { dst := some 15, op := Go.Op.nilCheck (Go.Operand.tmp 6), type := 0, pos := "ref.go:122", after := #[{ on := 0, ground := Go.Ground.data }, { on := 0, ground := Go.Ground.phase }, { on := 1, ground := Go.Ground.phase }, { on := 2, ground := Go.Ground.phase }, { on := 3, ground := Go.Ground.phase }, { on := 4, ground := Go.Ground.phase }, { on := 5, ground := Go.Ground.phase }, { on := 6, ground := Go.Ground.phase }, { on := 7, ground := Go.Ground.phase }, { on := 8, ground := Go.Ground.phase }], guard := none }) (v := ?v9_430103) rfl (by decide) (by kernel_rfl) (by kernel_rfl) (by kernel_rfl) (fun _ _ _ h => h) (Or.inl ⟨by rfl, ?y9_430103⟩) (fun _ => hHeld) ?r9_430103
  case y9_430103 => intro w hSw; clear hSw; go_simp; try with_reducible rfl
  try simp only [Act.put, List.setIfInBounds_toArray, List.set_cons_zero, List.set_cons_succ]
  refine wpAnyU_take0 (i := 10) (oi := { dst := some 16, op := Go.Op.fieldAddr 108 (Go.Operand.tmp 15) 0, type := 0, pos := "ref.go:122", after := #[{ on := 9, ground := Go.Ground.data }, { on := 0, ground := Go.Ground.phase }, { on := 1, ground := Go.Ground.phase }, { on := 2, ground := Go.Ground.phase }, { on := 3, ground := Go.Ground.phase }, { on := 4, ground := Go.Ground.phase }, { on := 5, ground := Go.Ground.phase }, { on := 6, ground := Go.Ground.phase }, { on := 7, ground := Go.Ground.phase }, { on := 8, ground := Go.Ground.phase }], guard := none }) (v := ?v10_430103) rfl (by decide) (by kernel_rfl) (by kernel_rfl) (by kernel_rfl) (fun _ _ _ h => h) (Or.inl ⟨by rfl, ?y10_430103⟩) (fun _ => hHeld) ?r10_430103
  case y10_430103 => intro w hSw; clear hSw; go_simp; try with_reducible rfl
  try simp only [Act.put, List.setIfInBounds_toArray, List.set_cons_zero, List.set_cons_succ]
  refine wpAnyU_ready (rs := [11]) (by kernel_rfl) (by simp) ?_
  refine AllReadyU.last (o := { dst := none, op := Go.Op.store 35 (Go.Operand.tmp 16) (Go.Operand.tmp 14), type := 0, pos := "ref.go:122", after := #[{ on := 10, ground := Go.Ground.data }, { on := 8, ground := Go.Ground.data }, { on := 8, ground := Go.Ground.chain }, { on := 0, ground := Go.Ground.phase }, { on := 1, ground := Go.Ground.phase }, { on := 2, ground := Go.Ground.phase }, { on := 3, ground := Go.Ground.phase }, { on := 4, ground := Go.Ground.phase }, { on := 5, ground := Go.Ground.phase }, { on := 6, ground := Go.Ground.phase }, { on := 7, ground := Go.Ground.phase }, { on := 8, ground := Go.Ground.phase }], guard := none }) rfl (by kernel_rfl) (fun K hK => ?_) AllReadyU.nil
  have y0 := (HC7.out.2 0 _ rfl).1
  have g0 := (HC7.out.2 0 _ rfl).2
  go_simp
  refine hK.out _ _ trivial (fun _ => ?_)
  clear hK K
  try simp only [Act.put, List.setIfInBounds_toArray, List.set_cons_zero, List.set_cons_succ]
  refine wpAnyU_done (by kernel_rfl) ?_ _
  have HB8 := Lib.hid ((HBK.out.grown HG7.out HRK.out.le (fun k hk => (HRK.out.row.lt k hk).1)).setCell HQ.out (.slice sa7 (xl + yl) sc7) (p := ⟨q, 0, none⟩))
  have HK8 := Lib.hid ((HKK.out.trans (Ow.refl _ _) (Kd.rowB HRK.out.row HG7.out)).trans (Ow.refl _ _) (Kd.set HT7.out 0 (.slice sa7 (xl + yl) sc7)))
  have HS8 := Lib.hid (show DrS (w7.setCell ⟨q, 0, none⟩ (.slice sa7 (xl + yl) sc7)) B q nv E (X ++ P) from ⟨(.slice sa7 (xl + yl) sc7), av, HC7.out.set 0 (by simp) (.slice sa7 (xl + yl) sc7), HT7.out.set 0 (.slice sa7 (xl + yl) sc7), by rw [List.length_append, HXL.out, HYL.out]; exact own_keeps HO7.out HT7.out (by decide) (grown_cell w7 q 0 (.slice sa7 (xl + yl) sc7)), own_keeps (own_other HRK.out.names HRK.out.row (by decide) HG7.out) HT7.out (by decide) (grown_cell w7 q 0 (.slice sa7 (xl + yl) sc7)), own_keeps (own_other HRK.out.ats HRK.out.row (by decide) HG7.out) HT7.out (by decide) (grown_cell w7 q 0 (.slice sa7 (xl + yl) sc7)), HOK.out, by rw [List.length_append]; have := HEL.out; omega⟩)
  go_wp2
  refine bodyPost_end (v := .tuple #[]) (by simp [results, Try.results55, go_sem]) rfl ⟨rfl, HS8.out, HB8.out, HK8.out⟩
theorem extract_end (s : ByteArray) : (s.extract s.size s.size).data.toList = [] := by
  rw [extract_toList]; simp
theorem wDat_of {f : Pls} {X X0 : List UInt8} {k : Int} {s R0 : ByteArray} {l : List ByteArray} (hn : nmL k s = l) (hx : datX X k s = X0) (hr : datR k s = R0) : wDat f X k s = ((l.foldl wD1 (X0, f, R0)).1 ++ (l.foldl wD1 (X0, f, R0)).2.2.data.toList, (l.foldl wD1 (X0, f, R0)).2.1) := by subst hn hx hr; rfl
theorem wD_one (n : ByteArray) (X0 : List UInt8) (f : Pls) (R0 : ByteArray) : [n].foldl wD1 (X0, f, R0) = ((wNm f X0 (labs n)).1, (wNm f X0 (labs n)).2, R0.extract n.size R0.size) := rfl
theorem wD_two (n m : ByteArray) (X0 : List UInt8) (f : Pls) (R0 : ByteArray) : [n, m].foldl wD1 (X0, f, R0) = ((wNm (wNm f X0 (labs n)).2 (wNm f X0 (labs n)).1 (labs m)).1, (wNm (wNm f X0 (labs n)).2 (wNm f X0 (labs n)).1 (labs m)).2, (R0.extract n.size R0.size).extract m.size (R0.extract n.size R0.size).size) := rfl
theorem wDat_2 {k : Int} {s : ByteArray} (f : Pls) (X : List UInt8) (hk : k = 2 ∨ k = 5) (h : mayD k s = true) : mayN s = true ∧ wDat f X k s = wNm f X (labs s) := by
  have ht : tgB k s = true := by rw [tgB, h, dT (p := k = 2 ∨ k = 5 ∨ k = 15) (by omega)]; rfl
  have hs : tgS k s = s := by rw [tgS, if_pos ht, if_neg (by omega)]
  have hn : nmL k s = [s] := by rw [nmL, if_neg (by omega), if_pos ht, hs]
  have hx : datX X k s = X := by unfold datX; rw [if_neg (by omega)]
  have hr : datR k s = s := by unfold datR; rw [if_neg (by omega)]
  refine ⟨?_, ?_⟩
  · rcases hk with rfl | rfl <;> (simp [mayD, mayKR] at h; exact h.2)
  · rw [wDat_of hn hx hr, wD_one]
    show ((wNm f X (labs s)).1 ++ (s.extract s.size s.size).data.toList, (wNm f X (labs s)).2) = _
    rw [extract_end, List.append_nil]
theorem wDat_15 {s : ByteArray} (f : Pls) (X : List UInt8) (h : mayD 15 s = true) : mayN (s.extract 2 s.size) = true ∧ 2 ≤ s.size ∧ wDat f X 15 s = wNm f (X ++ (s.extract 0 2).data.toList) (labs (s.extract 2 s.size)) := by
  have ht : tgB 15 s = true := by rw [tgB, h]; rfl
  have hs : tgS 15 s = s.extract 2 s.size := by rw [tgS, if_pos ht]; rfl
  have hn : nmL 15 s = [s.extract 2 s.size] := by rw [nmL, if_neg (by omega), if_pos ht, hs]
  obtain ⟨h2, h3⟩ := mayD_15 h
  have hx : datX X 15 s = X ++ (s.extract 0 2).data.toList := by unfold datX; rw [if_pos rfl]
  have hr : datR 15 s = s.extract 2 s.size := by unfold datR; rw [if_pos rfl]
  refine ⟨h3, by omega, ?_⟩
  obtain ⟨R, hR⟩ : ∃ x, s.extract 2 s.size = x := ⟨_, rfl⟩
  obtain ⟨X0, hX0⟩ : ∃ x, X ++ (s.extract 0 2).data.toList = x := ⟨_, rfl⟩
  rw [hR] at hn hr
  rw [hX0] at hx
  rw [wDat_of hn hx hr, wD_one, hR, hX0]
  show ((wNm f X0 (labs R)).1 ++ (R.extract R.size R.size).data.toList, (wNm f X0 (labs R)).2) = _
  rw [extract_end, List.append_nil]
theorem wDat_no {k : Int} (f : Pls) (X : List UInt8) (s : ByteArray) (hk : k ≠ 2 ∧ k ≠ 5 ∧ k ≠ 15 ∧ k ≠ 6) : wDat f X k s = (X ++ s.data.toList, f) := by
  have ht : tgB k s = false := by rw [tgB, dF (p := k = 2 ∨ k = 5 ∨ k = 15) (by omega), Bool.and_false]
  have hn : nmL k s = [] := by rw [nmL, if_neg (by omega), ht]; rfl
  have hx : datX X k s = X := by unfold datX; rw [if_neg (by omega)]
  have hr : datR k s = s := by unfold datR; rw [if_neg (by omega)]
  rw [wDat_of hn hx hr]
  rfl
theorem soaT_end {s : ByteArray} (h : soaOk s = true) : soaT s = s.extract (s.size - 20) s.size ∧ (soaT s).size = 20 ∧ 20 ≤ s.size := by
  obtain ⟨h1, h2, h3⟩ := soaOk_parts h
  simp only [headOk, Bool.and_eq_true, decide_eq_true_eq] at h1 h2
  have z1 : (rest1 s).size = s.size - (hN s + 1) := by unfold rest1; rw [extract_size _ _ _ (Nat.le_refl _)]
  have z2 : (soaT s).size = (rest1 s).size - (hN (rest1 s) + 1) := by unfold soaT; rw [show rest1 (rest1 s) = (rest1 s).extract (hN (rest1 s) + 1) (rest1 s).size from rfl, extract_size _ _ _ (Nat.le_refl _)]
  refine ⟨?_, h3, by omega⟩
  apply ba_eq
  have e1 : (soaT s).data.toList = ((s.data.toList.drop (hN s + 1)).take (s.size - (hN s + 1))).drop (hN (rest1 s) + 1) := by
    show ((rest1 s).extract (hN (rest1 s) + 1) (rest1 s).size).data.toList = _
    rw [extract_toList, show rest1 s = s.extract (hN s + 1) s.size from rfl, extract_toList]
    rw [List.take_of_length_le (by rw [List.length_drop, List.length_take, List.length_drop, size_data]; have := extract_size s (hN s + 1) s.size (Nat.le_refl _); omega)]
  rw [e1, extract_toList, List.take_of_length_le (by rw [List.length_drop, size_data]; omega), List.take_of_length_le (by rw [List.length_drop, size_data]; omega), List.drop_drop, show hN s + 1 + (hN (rest1 s) + 1) = s.size - 20 by omega]
theorem wDat_6 {s : ByteArray} (f : Pls) (X : List UInt8) (h : mayD 6 s = true) : mayN (soaM s) = true ∧ mayN (soaR s) = true ∧ nmL 6 s = [soaM s, soaR s] ∧ soaT s = s.extract (s.size - 20) s.size ∧ (soaT s).size = 20 ∧ 20 ≤ s.size ∧ wDat f X 6 s = ((wNm (wNm f X (labs (soaM s))).2 (wNm f X (labs (soaM s))).1 (labs (soaR s))).1 ++ (soaT s).data.toList, (wNm (wNm f X (labs (soaM s))).2 (wNm f X (labs (soaM s))).1 (labs (soaR s))).2) := by
  have h2 : soaOk s = true := by rw [← mayD_6]; exact h
  have hn : nmL 6 s = [soaM s, soaR s] := by rw [nmL, h2]; rfl
  obtain ⟨t1, t2, t3⟩ := soaT_end h2
  have h3 := h2
  simp only [soaOk, Bool.and_eq_true, decide_eq_true_eq] at h3
  obtain ⟨a1, a2, a3⟩ := headOk_head h3.1.1
  obtain ⟨b1, b2, b3⟩ := headOk_head h3.1.2
  refine ⟨a1, b1, hn, t1, t2, t3, ?_⟩
  have hx : datX X 6 s = X := by unfold datX; rw [if_neg (by omega)]
  have hr : datR 6 s = s := by unfold datR; rw [if_neg (by omega)]
  have e2 : s.extract (soaM s).size s.size = rest1 s := a3
  have e3 : (rest1 s).extract (soaR s).size (rest1 s).size = soaT s := b3
  rw [wDat_of hn hx hr, wD_two, e2, e3]
set_option maxRecDepth 100000 in
set_option maxHeartbeats 8000000 in
theorem rdata_2 (q B : Nat) (nv : Value) (E : Ents) (X : List UInt8) (k : Int) (d : ByteArray) (w : World) (hk : k = 2 ∨ k = 5) (h : mayD k d = true) (hs : DrS w B q nv E X) (hB : B ≤ q) (hm : X.length + 3000 ≤ 1000000) :
    Calls Try.prog 89 #[.pointer (some ⟨q, 0, none⟩), .int .i64 k, .string d] w fun e w' => e = .returned (.tuple #[]) ∧ DrN w B q nv (wDat (lkE E) X k d).2 (wDat (lkE E) X k d).1 w' := by
  obtain ⟨hn, hw⟩ := wDat_2 (lkE E) X hk h
  rw [hw]
  obtain ⟨l1, l2, l3⟩ := labs_spec hn
  obtain ⟨L, hL⟩ : ∃ x, labs d = x := ⟨_, rfl⟩
  rw [hL] at l1 l2 l3 ⊢
  have HL := Lib.hid (show OkL L ∧ off L L.length ≤ 254 ∧ d = nameB L from ⟨l1, l2, l3⟩)
  have HS := Lib.hid hs
  clear hw hn hL l1 l2 l3 hs h
  rcases hk with rfl | rfl
  all_goals
    go_enter Try.func89, Try.ntmps89
    go_wp2_with fail
    rw [HL.out.2.2]
    refine (rname_any q B nv E X L w HL.out.1 HL.out.2.1 HS.out hB (by omega)).mono ?_; rintro e w1 ⟨rfl, hd⟩
    have HD := Lib.hid hd
    clear hd
    go_wp2
    refine bodyPost_end (v := .tuple #[]) (by simp [results, Try.results89, go_sem]) rfl ⟨rfl, HD.out⟩
set_option maxRecDepth 100000 in
set_option maxHeartbeats 8000000 in
theorem rdata_no (q B : Nat) (nv : Value) (E : Ents) (X : List UInt8) (k : Int) (d : ByteArray) (w : World) (hd : d.size ≤ 1000) (hk : k ≠ 2 ∧ k ≠ 5 ∧ k ≠ 15 ∧ k ≠ 6) (hs : DrS w B q nv E X) (hB : B ≤ q) (hm : X.length + 3000 ≤ 1000000) :
    Calls Try.prog 89 #[.pointer (some ⟨q, 0, none⟩), .int .i64 k, .string d] w fun e w' => e = .returned (.tuple #[]) ∧ DrN w B q nv (wDat (lkE E) X k d).2 (wDat (lkE E) X k d).1 w' := by
  obtain ⟨i0, hi, hz0, hz1, hz2⟩ := info_parts infoU8
  have HI := Lib.hid hi
  have HZ0 := Lib.hid hz0
  have HZ1 := Lib.hid hz1
  have HZ2 := Lib.hid hz2
  have HQ := Lib.hid hB
  rw [wDat_no (lkE E) X d hk]
  have HD := Lib.hid hd
  have HLE := Lib.hid (show B ≤ w.heap.size from Nat.le_trans hB (Nat.le_of_lt hs.lt))
  obtain ⟨bv, av, hc, ht, h1, h2, h3, hok, hle⟩ := hs
  obtain ⟨xl, hxl⟩ : ∃ x, X.length = x := ⟨_, rfl⟩
  rw [hxl] at h1
  obtain ⟨sa, sc, rfl, -⟩ := cellsK_own h1
  have HXL := Lib.hid hxl
  have HOK := Lib.hid hok
  have HEL := Lib.hid hle
  have HXS := Lib.hid (show xl ≤ 997000 by omega)
  have HR := Lib.hid (show R5s w B q (.slice sa xl sc) nv av xl E.length (bc X) (nmsC E) (atsC E) from ⟨hc, ht, h1, h2, h3, HLE.out⟩)
  clear hi hz0 hz1 hz2 hB hm hc ht h1 h2 h3 hok hle hxl
  obtain ⟨k1, k2, k3, k4⟩ := hk
  have e1 := eF k1
  have e2 := eF k2
  have e3 := eF k3
  have e4 := eF k4
  clear hd k1 k2 k3 k4
  go_enter Try.func89, Try.ntmps89
  have c0 := (HR.out.cn.2 0 _ rfl).1
  go_wp2_with (at_builtin; refine Lib.wpList_append_own_string _ rfl _ _ 35 9 rfl B 5 i0 Try.underlying35 Try.underlying9 HI.out HZ0.out HZ1.out HZ2.out _ xl _ rfl HR.out.row d rfl ?c1 ?c2 ?c3 ?_)
  case c1 => have := HXS.out; have := HD.out; unfold maxLen; omega
  case c2 => have := HXS.out; have := HD.out; omega
  case c3 => exact HR.out.le
  intro bv' w2 hown hgrow _
  rw [strCells_bc, ← bc_append] at hown
  obtain ⟨sa7, sc7, rfl, -⟩ := cellsK_own hown
  have hne7 := own_ne HR.out.row HR.out.tb (by decide)
  have HC7 := Lib.hid (HR.out.cn.grown hgrow (fun e => hne7 e.symm))
  have HT7 := Lib.hid (HR.out.tb.grown hgrow hne7)
  have HO7 := Lib.hid hown
  have HG7 := Lib.hid hgrow
  have HB8 := Lib.hid (((Below.refl B w).grown hgrow HR.out.le (fun k hk => (HR.out.row.lt k hk).1)).setCell HQ.out (.slice sa7 (xl + d.size) sc7) (p := ⟨q, 0, none⟩))
  have HK8 := Lib.hid ((Kd.rowB (nv := nv) HR.out.row HG7.out).trans (Ow.refl _ _) (Kd.set HT7.out 0 (.slice sa7 (xl + d.size) sc7)))
  have HS8 := Lib.hid (show DrS (w2.setCell ⟨q, 0, none⟩ (.slice sa7 (xl + d.size) sc7)) B q nv E (X ++ d.data.toList) from ⟨.slice sa7 (xl + d.size) sc7, av, HC7.out.set 0 (by simp) (.slice sa7 (xl + d.size) sc7), HT7.out.set 0 (.slice sa7 (xl + d.size) sc7), by rw [List.length_append, HXL.out, size_data]; exact own_keeps HO7.out HT7.out (by decide) (grown_cell w2 q 0 (.slice sa7 (xl + d.size) sc7)), own_keeps (own_other HR.out.names HR.out.row (by decide) HG7.out) HT7.out (by decide) (grown_cell w2 q 0 (.slice sa7 (xl + d.size) sc7)), own_keeps (own_other HR.out.ats HR.out.row (by decide) HG7.out) HT7.out (by decide) (grown_cell w2 q 0 (.slice sa7 (xl + d.size) sc7)), HOK.out, by rw [List.length_append]; have := HEL.out; omega⟩)
  have c0' := (HC7.out.2 0 _ rfl).1
  have f0' := (HC7.out.2 0 _ rfl).2
  clear c0 hown hgrow hne7
  go_wp2
  refine bodyPost_end (v := .tuple #[]) (by simp [results, Try.results89, go_sem]) rfl ⟨rfl, ?_⟩
  exact DrX.to ⟨HS8.out, HB8.out, HK8.out⟩
set_option maxRecDepth 100000 in
set_option maxHeartbeats 8000000 in
theorem rdata_15 (q B : Nat) (nv : Value) (E : Ents) (X : List UInt8) (d : ByteArray) (w : World) (hd : d.size ≤ 1000) (h : mayD 15 d = true) (hs : DrS w B q nv E X) (hB : B ≤ q) (hm : X.length + 3000 ≤ 1000000) :
    Calls Try.prog 89 #[.pointer (some ⟨q, 0, none⟩), .int .i64 15, .string d] w fun e w' => e = .returned (.tuple #[]) ∧ DrN w B q nv (wDat (lkE E) X 15 d).2 (wDat (lkE E) X 15 d).1 w' := by
  obtain ⟨i0, hi, hz0, hz1, hz2⟩ := info_parts infoU8
  have HI := Lib.hid hi
  have HZ0 := Lib.hid hz0
  have HZ1 := Lib.hid hz1
  have HZ2 := Lib.hid hz2
  have HQ := Lib.hid hB
  obtain ⟨hn, h2d, hw⟩ := wDat_15 (lkE E) X h
  rw [hw]
  obtain ⟨l1, l2, l3⟩ := labs_spec hn
  obtain ⟨L, hL⟩ : ∃ x, labs (d.extract 2 d.size) = x := ⟨_, rfl⟩
  rw [hL] at l1 l2 l3 ⊢
  have HL := Lib.hid (show OkL L ∧ off L L.length ≤ 254 ∧ d.extract 2 d.size = nameB L from ⟨l1, l2, l3⟩)
  have HD := Lib.hid hd
  have HE2 := Lib.hid (show (d.extract 0 2).size = 2 by rw [extract_size _ _ _ h2d])
  have hds : (2 : Int) ≤ (d.size : Int) := by omega
  clear hw hn hL l1 l2 l3 h hd
  have HLE := Lib.hid (show B ≤ w.heap.size from Nat.le_trans hB (Nat.le_of_lt hs.lt))
  obtain ⟨bv, av, hc, ht, h1, h2, h3, hok, hle⟩ := hs
  obtain ⟨xl, hxl⟩ : ∃ x, X.length = x := ⟨_, rfl⟩
  rw [hxl] at h1
  obtain ⟨sa, sc, rfl, -⟩ := cellsK_own h1
  have HXL := Lib.hid hxl
  have HOK := Lib.hid hok
  have HEL := Lib.hid hle
  have HXS := Lib.hid (show xl ≤ 997000 by omega)
  have HR := Lib.hid (show R5s w B q (.slice sa xl sc) nv av xl E.length (bc X) (nmsC E) (atsC E) from ⟨hc, ht, h1, h2, h3, HLE.out⟩)
  clear hi hz0 hz1 hz2 hB hm hc ht h1 h2 h3 hok hle hxl
  go_enter Try.func89, Try.ntmps89
  go_upto_region 6 with (fail)
  obtain ⟨wd, hwd⟩ : ∃ x, w.drew = x := ⟨_, rfl⟩
  have HRD := Lib.hid (show R5s wd B q (.slice sa xl sc) nv av xl E.length (bc X) (nmsC E) (atsC E) by rw [← hwd]; exact HR.out.drew)
  have HBD := Lib.hid (show Below B w wd by rw [← hwd]; exact (Below.refl B w).drew)
  have HKD := Lib.hid (show Kd w wd nv by rw [← hwd]; exact (Kd.refl w nv).drew)
  obtain ⟨Y, hY⟩ : ∃ x, (d.extract 0 2).data.toList = x := ⟨_, rfl⟩
  have HSE := Lib.hid (show d.extract 0 2 = bs Y by rw [← hY]; exact (bs_data _).symm)
  obtain ⟨yl, hyl⟩ : ∃ x, Y.length = x := ⟨_, rfl⟩
  have HYL := Lib.hid hyl
  have HYB := Lib.hid (show yl ≤ 2 by rw [← hyl, ← hY, size_data]; rw [HE2.out]; exact Nat.le_refl _)
  have HYD := Lib.hid hY
  clear hyl hY
  refine wp_region_store_drew (S := (fun wx => CN wx q [.slice sa xl sc, nv, av])) (L := 10) (by kernel_rfl) (by rw [hwd]; exact HRD.out.cn) (fun hHeld => ?_)
  rw [hwd] at hHeld ⊢
  clear hwd
  refine wpAnyU_take0 (i := 0) (oi := { dst := some 25, op := Go.Op.move (Go.Operand.tmp 0), type := 105, pos := "ref.go:130", after := #[], guard := none }) (v := ?v0_430301) rfl (by decide) (by kernel_rfl) (by kernel_rfl) (by kernel_rfl) (fun _ _ _ h => h) (Or.inl ⟨by rfl, ?y0_430301⟩) (fun _ => hHeld) ?r0_430301
  case y0_430301 => intro w hSw; clear hSw; go_simp; try with_reducible rfl
  try simp only [Act.put, List.setIfInBounds_toArray, List.set_cons_zero, List.set_cons_succ]
  refine wpAnyU_take0 (i := 1) (oi := { dst := some 26, op := Go.Op.move (Go.Operand.tmp 0), type := 105, pos := "ref.go:130", after := #[], guard := none }) (v := ?v1_430301) rfl (by decide) (by kernel_rfl) (by kernel_rfl) (by kernel_rfl) (fun _ _ _ h => h) (Or.inl ⟨by rfl, ?y1_430301⟩) (fun _ => hHeld) ?r1_430301
  case y1_430301 => intro w hSw; clear hSw; go_simp; try with_reducible rfl
  try simp only [Act.put, List.setIfInBounds_toArray, List.set_cons_zero, List.set_cons_succ]
  refine wpAnyU_take0 (i := 2) (oi := { dst := some 27, op := Go.Op.nilCheck (Go.Operand.tmp 26), type := 0, pos := "ref.go:130", after := #[{ on := 1, ground := Go.Ground.data }], guard := none }) (v := ?v2_430301) rfl (by decide) (by kernel_rfl) (by kernel_rfl) (by kernel_rfl) (fun _ _ _ h => h) (Or.inl ⟨by rfl, ?y2_430301⟩) (fun _ => hHeld) ?r2_430301
  case y2_430301 => intro w hSw; clear hSw; go_simp; try with_reducible rfl
  try simp only [Act.put, List.setIfInBounds_toArray, List.set_cons_zero, List.set_cons_succ]
  refine wpAnyU_take0 (i := 3) (oi := { dst := some 28, op := Go.Op.fieldAddr 108 (Go.Operand.tmp 27) 0, type := 0, pos := "ref.go:130", after := #[{ on := 2, ground := Go.Ground.data }], guard := none }) (v := ?v3_430301) rfl (by decide) (by kernel_rfl) (by kernel_rfl) (by kernel_rfl) (fun _ _ _ h => h) (Or.inl ⟨by rfl, ?y3_430301⟩) (fun _ => hHeld) ?r3_430301
  case y3_430301 => intro w hSw; clear hSw; go_simp; try with_reducible rfl
  try simp only [Act.put, List.setIfInBounds_toArray, List.set_cons_zero, List.set_cons_succ]
  refine wpAnyU_take0 (i := 5) (oi := { dst := some 30, op := Go.Op.move (Go.Operand.tmp 2), type := 9, pos := "ref.go:130", after := #[], guard := none }) (v := ?v5_430301) rfl (by decide) (by kernel_rfl) (by kernel_rfl) (by kernel_rfl) (fun _ _ _ h => h) (Or.inl ⟨by rfl, ?y5_430301⟩) (fun _ => hHeld) ?r5_430301
  case y5_430301 => intro w hSw; clear hSw; go_simp; try with_reducible rfl
  try simp only [Act.put, List.setIfInBounds_toArray, List.set_cons_zero, List.set_cons_succ]
  refine wpAnyU_take0 (i := 6) (oi := { dst := some 31, op := Go.Op.slice 9 (Go.Operand.tmp 30) none (some (Go.Operand.const (Go.Value.int Go.IntKind.i64 2))) none, type := 9, pos := "ref.go:130", after := #[{ on := 5, ground := Go.Ground.data }], guard := none }) (v := ?v6_430301) rfl (by decide) (by kernel_rfl) (by kernel_rfl) (by kernel_rfl) (fun _ _ _ h => h) (Or.inl ⟨by rfl, ?y6_430301⟩) (fun _ => hHeld) ?r6_430301
  case y6_430301 => intro w hSw; clear hSw; go_simp; try with_reducible rfl
  try simp only [Act.put, List.setIfInBounds_toArray, List.set_cons_zero, List.set_cons_succ]
  refine wpAnyU_take (i := 4) (oi := { dst := some 29, op := Go.Op.load 35 (Go.Operand.tmp 28), type := 35, pos := "ref.go:130", after := #[{ on := 3, ground := Go.Ground.data }], guard := none }) (v := ?v4_430301) rfl (by kernel_rfl) (by decide) (by kernel_rfl) (by kernel_rfl) (by kernel_rfl) (by kernel_rfl) (by kernel_rfl) (fun _ _ _ h => h) (Or.inl ⟨by rfl, ?y4_430301⟩) hHeld ?r4_430301
  case y4_430301 => intro w hSw; (try dsimp only at hSw); have y0 := (hSw.2 0 _ rfl).1; go_simp; try with_reducible rfl
  try simp only [Act.put, List.setIfInBounds_toArray, List.set_cons_zero, List.set_cons_succ]
  refine wpAnyU_ready (rs := [7]) (by kernel_rfl) (by simp) ?_
  refine AllReadyU.cons (o := { dst := some 32, op := Go.Op.call { callee := Go.Callee.builtin Go.Builtin.append, args := #[Go.Operand.tmp 29, Go.Operand.tmp 31], argTypes := #[35, 9] }, type := 35, pos := "ref.go:130", after := #[{ on := 4, ground := Go.Ground.data }, { on := 6, ground := Go.Ground.data }], guard := none }) rfl (fun K hK => ?_) AllReadyU.nil
  refine step_append_str5 (by rfl) _ _ 35 9 (by rfl) B 5 i0 Try.underlying35 Try.underlying9 HI.out HZ0.out HZ1.out HZ2.out (.slice sa xl sc) xl (bc X) (by rfl) HRD.out.row (d.extract 0 2) (by rfl) (by rw [HSE.out, bs_size, HYL.out]; have := HXS.out; have := HYB.out; unfold maxLen; omega) (by rw [HSE.out, bs_size, HYL.out]; have := HXS.out; have := HYB.out; omega) HRD.out.le ?_
  intro v7 w7 ho7 hg7
  rw [HSE.out, bs_size, HYL.out, strCells_bs, ← bc_append] at ho7
  obtain ⟨sa7, sc7, rfl, -⟩ := cellsK_own ho7
  have hne7 := own_ne HRD.out.row HRD.out.tb (by decide)
  have HC7 := Lib.hid (HRD.out.cn.grown hg7 (fun e => hne7 e.symm))
  have HT7 := Lib.hid (HRD.out.tb.grown hg7 hne7)
  have HO7 := Lib.hid ho7
  have HG7 := Lib.hid hg7
  clear ho7 hg7 hne7
  refine hK.out _ _ (HC7.out) (fun hHeld2 => ?_)
  clear hK K hHeld
  have hHeld := hHeld2
  clear hHeld2
  try simp only [Act.put, List.setIfInBounds_toArray, List.set_cons_zero, List.set_cons_succ]
  refine wpAnyU_take0 (i := 8) (oi := { dst := some 33, op := Go.Op.nilCheck (Go.Operand.tmp 25), type := 0, pos := "ref.go:130", after := #[{ on := 0, ground := Go.Ground.data }, { on := 0, ground := Go.Ground.phase }, { on := 1, ground := Go.Ground.phase }, { on := 2, ground := Go.Ground.phase }, { on := 3, ground := Go.Ground.phase }, { on := 4, ground := Go.Ground.phase }, { on := 5, ground := Go.Ground.phase }, { on := 6, ground := Go.Ground.phase }, { on := 7, ground := Go.Ground.phase }], guard := none }) (v := ?v8_430302) rfl (by decide) (by kernel_rfl) (by kernel_rfl) (by kernel_rfl) (fun _ _ _ h => h) (Or.inl ⟨by rfl, ?y8_430302⟩) (fun _ => hHeld) ?r8_430302
  case y8_430302 => intro w hSw; clear hSw; go_simp; try with_reducible rfl
  try simp only [Act.put, List.setIfInBounds_toArray, List.set_cons_zero, List.set_cons_succ]
  refine wpAnyU_take0 (i := 9) (oi := { dst := some 34, op := Go.Op.fieldAddr 108 (Go.Operand.tmp 33) 0, type := 0, pos := "ref.go:130", after := #[{ on := 8, ground := Go.Ground.data }, { on := 0, ground := Go.Ground.phase }, { on := 1, ground := Go.Ground.phase }, { on := 2, ground := Go.Ground.phase }, { on := 3, ground := Go.Ground.phase }, { on := 4, ground := Go.Ground.phase }, { on := 5, ground := Go.Ground.phase }, { on := 6, ground := Go.Ground.phase }, { on := 7, ground := Go.Ground.phase }], guard := none }) (v := ?v9_430302) rfl (by decide) (by kernel_rfl) (by kernel_rfl) (by kernel_rfl) (fun _ _ _ h => h) (Or.inl ⟨by rfl, ?y9_430302⟩) (fun _ => hHeld) ?r9_430302
  case y9_430302 => intro w hSw; clear hSw; go_simp; try with_reducible rfl
  try simp only [Act.put, List.setIfInBounds_toArray, List.set_cons_zero, List.set_cons_succ]
  refine wpAnyU_ready (rs := [10]) (by kernel_rfl) (by simp) ?_
  refine AllReadyU.last (o := { dst := none, op := Go.Op.store 35 (Go.Operand.tmp 34) (Go.Operand.tmp 32), type := 0, pos := "ref.go:130", after := #[{ on := 9, ground := Go.Ground.data }, { on := 7, ground := Go.Ground.data }, { on := 7, ground := Go.Ground.chain }, { on := 0, ground := Go.Ground.phase }, { on := 1, ground := Go.Ground.phase }, { on := 2, ground := Go.Ground.phase }, { on := 3, ground := Go.Ground.phase }, { on := 4, ground := Go.Ground.phase }, { on := 5, ground := Go.Ground.phase }, { on := 6, ground := Go.Ground.phase }, { on := 7, ground := Go.Ground.phase }], guard := none }) rfl (by kernel_rfl) (fun K hK => ?_) AllReadyU.nil
  have y0 := (HC7.out.2 0 _ rfl).1
  have g0 := (HC7.out.2 0 _ rfl).2
  go_simp
  refine hK.out _ _ trivial (fun _ => ?_)
  clear hK K
  try simp only [Act.put, List.setIfInBounds_toArray, List.set_cons_zero, List.set_cons_succ]
  refine wpAnyU_done (by kernel_rfl) ?_ _
  have HB8 := Lib.hid ((HBD.out.grown HG7.out HRD.out.le (fun k hk => (HRD.out.row.lt k hk).1)).setCell HQ.out (.slice sa7 (xl + yl) sc7) (p := ⟨q, 0, none⟩))
  have HK8 := Lib.hid ((HKD.out.trans (Ow.refl _ _) (Kd.rowB HRD.out.row HG7.out)).trans (Ow.refl _ _) (Kd.set HT7.out 0 (.slice sa7 (xl + yl) sc7)))
  have HS8 := Lib.hid (show DrS (w7.setCell ⟨q, 0, none⟩ (.slice sa7 (xl + yl) sc7)) B q nv E (X ++ Y) from ⟨(.slice sa7 (xl + yl) sc7), av, HC7.out.set 0 (by simp) (.slice sa7 (xl + yl) sc7), HT7.out.set 0 (.slice sa7 (xl + yl) sc7), by rw [List.length_append, HXL.out, HYL.out]; exact own_keeps HO7.out HT7.out (by decide) (grown_cell w7 q 0 (.slice sa7 (xl + yl) sc7)), own_keeps (own_other HRD.out.names HRD.out.row (by decide) HG7.out) HT7.out (by decide) (grown_cell w7 q 0 (.slice sa7 (xl + yl) sc7)), own_keeps (own_other HRD.out.ats HRD.out.row (by decide) HG7.out) HT7.out (by decide) (grown_cell w7 q 0 (.slice sa7 (xl + yl) sc7)), HOK.out, by rw [List.length_append]; have := HEL.out; omega⟩)
  go_wp2_with fail
  rw [HL.out.2.2]
  refine (rname_any q B nv E (X ++ Y) L _ HL.out.1 HL.out.2.1 HS8.out HQ.out (by rw [List.length_append, HXL.out, HYL.out]; have := HXS.out; have := HYB.out; omega)).mono ?_; rintro e w9 ⟨rfl, hd9⟩
  obtain ⟨nv9, E9, hs9, he9, hb9, hk9, ho9⟩ := hd9
  have HF := Lib.hid (show DrN w B q nv (wNm (lkE E) (X ++ Y) L).2 (wNm (lkE E) (X ++ Y) L).1 w9 from ⟨nv9, E9, hs9, he9, HB8.out.trans hb9, HK8.out.trans (Ow.refl _ _) hk9, (Ow.refl w nv).trans HB8.out.size ho9⟩)
  clear hs9 he9 hb9 hk9 ho9
  go_wp2
  refine bodyPost_end (v := .tuple #[]) (by simp [results, Try.results89, go_sem]) rfl ⟨rfl, ?_⟩
  rw [HYD.out]
  exact HF.out
set_option maxRecDepth 100000 in
set_option maxHeartbeats 8000000 in
theorem rdata_6 (q B : Nat) (nv : Value) (E : Ents) (X : List UInt8) (d : ByteArray) (w : World) (hd : d.size ≤ 1000) (h : mayD 6 d = true) (hs : DrS w B q nv E X) (hB : B ≤ q) (hm : X.length + 3000 ≤ 1000000) :
    Calls Try.prog 89 #[.pointer (some ⟨q, 0, none⟩), .int .i64 6, .string d] w fun e w' => e = .returned (.tuple #[]) ∧ DrN w B q nv (wDat (lkE E) X 6 d).2 (wDat (lkE E) X 6 d).1 w' := by
  obtain ⟨i0, hi, hz0, hz1, hz2⟩ := info_parts infoU8
  have HI := Lib.hid hi
  have HZ0 := Lib.hid hz0
  have HZ1 := Lib.hid hz1
  have HZ2 := Lib.hid hz2
  have HQ := Lib.hid hB
  have HLE0 := Lib.hid (show B ≤ w.heap.size from Nat.le_trans hB (Nat.le_of_lt hs.lt))
  obtain ⟨hm1, hm2, hnl, hT, hT2, hT3, hw⟩ := wDat_6 (lkE E) X h
  rw [hw]
  obtain ⟨l1, l2, l3⟩ := labs_spec hm1
  obtain ⟨p1, p2, p3⟩ := labs_spec hm2
  obtain ⟨L, hL⟩ : ∃ x, labs (soaM d) = x := ⟨_, rfl⟩
  obtain ⟨P, hP⟩ : ∃ x, labs (soaR d) = x := ⟨_, rfl⟩
  rw [hL] at l1 l2 l3 ⊢
  rw [hP] at p1 p2 p3 ⊢
  obtain ⟨sm, hsm⟩ : ∃ x, soaM d = x := ⟨_, rfl⟩
  obtain ⟨sr, hsr⟩ : ∃ x, soaR d = x := ⟨_, rfl⟩
  rw [hsm] at l3 hnl
  rw [hsr] at p3 hnl
  have HL := Lib.hid (show OkL L ∧ off L L.length ≤ 254 ∧ sm = nameB L from ⟨l1, l2, l3⟩)
  have HP := Lib.hid (show OkL P ∧ off P P.length ≤ 254 ∧ sr = nameB P from ⟨p1, p2, p3⟩)
  have HNL := Lib.hid hnl
  have HD := Lib.hid hd
  have HTT := Lib.hid (show soaT d = d.extract (d.size - 20) d.size ∧ (soaT d).size = 20 ∧ 20 ≤ d.size from ⟨hT, hT2, hT3⟩)
  have HS := Lib.hid hs
  have HXB := Lib.hid (show X.length ≤ 997000 by omega)
  clear hw hm1 hm2 hnl hL hP l1 l2 l3 p1 p2 p3 hsm hsr h hT hT2 hT3 hi hz0 hz1 hz2 hm hB
  go_enter Try.func89, Try.ntmps89
  go_wp2_with fail
  refine (rnames_any 6 d w (by omega)).mono ?_; rintro e w1 ⟨a, rfl, hrow, hb, hty⟩
  rw [HNL.out] at hrow hty ⊢
  rcases hty with h0 | ⟨b, rfl, htb, hge⟩
  · simp at h0
  have HNB := Lib.hid (show nv.ownBlock ≠ some b from fun e => by
    obtain ⟨_, _, _, _, _, hn, _⟩ := HS.out
    have := (hn.lt b e).2; omega)
  rcases hrow.2 with h0 | ⟨b', o', hbo, -, hcell⟩
  · cases h0
  injection hbo with hbo
  injection hbo with hbo1 hbo2
  subst hbo1 hbo2
  have n0 : w1.cell? ⟨b, 0, none⟩ = some (.string sm) := hcell 0 (by simp)
  have HN1 := Lib.hid (show w1.cell? ⟨b, 1, none⟩ = some (.string sr) from hcell 1 (by simp))
  replace HS := Lib.hid (HS.out.below hb)
  have HB := Lib.hid (Below.mono hb HLE0.out)
  have HKD := Lib.hid (Kd.below nv hb)
  have HTB := Lib.hid htb
  clear hrow hb htb hge hcell hd
  go_wp2_with fail
  clear n0
  rw [HL.out.2.2]
  refine (rname_any q B nv E X L w1 HL.out.1 HL.out.2.1 HS.out HQ.out (by have := HXB.out; omega)).mono ?_; rintro e w2 ⟨rfl, hd2⟩
  rw [← HL.out.2.2]
  obtain ⟨nv2, E2, hs2, he2, hb2, hk2, ho2⟩ := hd2
  have hbk : w2.heap[b]? = w1.heap[b]? := by obtain ⟨c, hc⟩ := HTB.out; exact hk2 b c _ hc (by decide) (by decide) (by decide) HNB.out
  have n1 : w2.cell? ⟨b, 1, none⟩ = some (.string sr) := (World.cell?_of_block (a := ⟨b, 1, none⟩) hbk).trans HN1.out
  have HX2 := Lib.hid (wNm_le L (lkE E) X)
  obtain ⟨⟨X2, f2⟩, hx2⟩ : ∃ x, wNm (lkE E) X L = x := ⟨_, rfl⟩
  rw [hx2] at hs2 he2 HX2
  have HW12 := Lib.hid hx2
  replace hs2 : DrS w2 B q nv2 E2 X2 := hs2
  replace he2 : lkE E2 = f2 := he2
  have HS2 := Lib.hid hs2
  have HE2 := Lib.hid he2
  have HX2B := Lib.hid (show X2.length ≤ X.length + 256 by have h1 : X2.length ≤ X.length + off L L.length + 2 := HX2.out; have := HL.out.2.1; omega)
  have HB2 := Lib.hid (HB.out.trans hb2)
  have HKD2 := Lib.hid (HKD.out.trans (Ow.refl _ _) hk2)
  have HOW2 := Lib.hid ((Ow.refl w nv).trans HB.out.size ho2)
  clear hs2 he2 hb2 hk2 ho2 hbk hx2 HX2
  go_wp2_with fail
  clear n1
  rw [HP.out.2.2]
  refine (rname_any q B nv2 E2 X2 P w2 HP.out.1 HP.out.2.1 HS2.out HQ.out (by have := HXB.out; have := HX2B.out; omega)).mono ?_; rintro e w3 ⟨rfl, hd3⟩
  rw [← HP.out.2.2]
  obtain ⟨nv3, E3, hs3, he3, hb3, hk3, ho3⟩ := hd3
  have HX3 := Lib.hid (wNm_le P (lkE E2) X2)
  have HFF := Lib.hid (show wNm f2 X2 P = wNm (lkE E2) X2 P by rw [HE2.out])
  obtain ⟨⟨X3, f3⟩, hx3⟩ : ∃ x, wNm (lkE E2) X2 P = x := ⟨_, rfl⟩
  rw [hx3] at hs3 he3 HX3 HFF
  replace hs3 : DrS w3 B q nv3 E3 X3 := hs3
  replace he3 : lkE E3 = f3 := he3
  have HE3 := Lib.hid he3
  have hx3b : X3.length ≤ 998000 := by have h1 : X3.length ≤ X2.length + off P P.length + 2 := HX3.out; have := HP.out.2.1; have := HXB.out; have := HX2B.out; omega
  have HLE := Lib.hid (show B ≤ w3.heap.size from Nat.le_trans HLE0.out (HB2.out.trans hb3).size)
  have HB3 := Lib.hid (HB2.out.trans hb3)
  have HKD3 := Lib.hid (HKD2.out.trans HOW2.out hk3)
  have HOW3 := Lib.hid (HOW2.out.trans HB2.out.size ho3)
  clear he3 hb3 hk3 ho3 hx3 HX3
  obtain ⟨bv, av, hc, ht, h1, h2, h3, hok, hle⟩ := hs3
  obtain ⟨xl, hxl⟩ : ∃ x, X3.length = x := ⟨_, rfl⟩
  rw [hxl] at h1
  obtain ⟨sa, sc, rfl, -⟩ := cellsK_own h1
  have HXL := Lib.hid hxl
  have HOK := Lib.hid hok
  have HEL := Lib.hid hle
  have HXS := Lib.hid (show xl ≤ 998000 by omega)
  have HR := Lib.hid (show R5s w3 B q (.slice sa xl sc) nv3 av xl E3.length (bc X3) (nmsC E3) (atsC E3) from ⟨hc, ht, h1, h2, h3, HLE.out⟩)
  obtain ⟨dz, hdz⟩ : ∃ x : Nat, d.size - 20 = x := ⟨_, rfl⟩
  have hsub : IntKind.i64.wrap ((d.size : Int) - 20) = (dz : Int) := by have := HTT.out.2.2; have := HD.out; rw [IntKind.wrap_i64]; omega
  have hdl : dz ≤ d.size := by omega
  have HEX := Lib.hid (show d.extract dz d.size = soaT d by rw [← hdz]; exact HTT.out.1.symm)
  clear hc ht h1 h2 h3 hok hle hxl hdz hx3b
  go_upto_region 12 with (fail)
  obtain ⟨wd, hwd⟩ : ∃ x, w3.drew = x := ⟨_, rfl⟩
  have HRD := Lib.hid (show R5s wd B q (.slice sa xl sc) nv3 av xl E3.length (bc X3) (nmsC E3) (atsC E3) by rw [← hwd]; exact HR.out.drew)
  have HBD := Lib.hid (show Below B w wd by rw [← hwd]; exact HB3.out.drew)
  have HKD := Lib.hid (show Kd w wd nv by rw [← hwd]; exact HKD3.out.drew)
  obtain ⟨Y, hY⟩ : ∃ x, (soaT d).data.toList = x := ⟨_, rfl⟩
  have HSE := Lib.hid (show d.extract dz d.size = bs Y by rw [← hY, HEX.out]; exact (bs_data _).symm)
  obtain ⟨yl, hyl⟩ : ∃ x, Y.length = x := ⟨_, rfl⟩
  have HYL := Lib.hid hyl
  have HYB := Lib.hid (show yl ≤ 20 by rw [← hyl, ← hY, size_data]; rw [HTT.out.2.1]; exact Nat.le_refl _)
  have HYD := Lib.hid hY
  clear hyl hY
  refine wp_region_store_drew (S := (fun wx => CN wx q [.slice sa xl sc, nv3, av])) (L := 13) (by kernel_rfl) (by rw [hwd]; exact HRD.out.cn) (fun hHeld => ?_)
  rw [hwd] at hHeld ⊢
  clear hwd
  refine wpAnyU_take0 (i := 0) (oi := { dst := some 54, op := Go.Op.move (Go.Operand.tmp 0), type := 105, pos := "ref.go:136", after := #[], guard := none }) (v := ?v0_430401) rfl (by decide) (by kernel_rfl) (by kernel_rfl) (by kernel_rfl) (fun _ _ _ h => h) (Or.inl ⟨by rfl, ?y0_430401⟩) (fun _ => hHeld) ?r0_430401
  case y0_430401 => intro w hSw; clear hSw; go_simp; try with_reducible rfl
  try simp only [Act.put, List.setIfInBounds_toArray, List.set_cons_zero, List.set_cons_succ]
  refine wpAnyU_take0 (i := 1) (oi := { dst := some 55, op := Go.Op.move (Go.Operand.tmp 0), type := 105, pos := "ref.go:136", after := #[], guard := none }) (v := ?v1_430401) rfl (by decide) (by kernel_rfl) (by kernel_rfl) (by kernel_rfl) (fun _ _ _ h => h) (Or.inl ⟨by rfl, ?y1_430401⟩) (fun _ => hHeld) ?r1_430401
  case y1_430401 => intro w hSw; clear hSw; go_simp; try with_reducible rfl
  try simp only [Act.put, List.setIfInBounds_toArray, List.set_cons_zero, List.set_cons_succ]
  refine wpAnyU_take0 (i := 2) (oi := { dst := some 56, op := Go.Op.nilCheck (Go.Operand.tmp 55), type := 0, pos := "ref.go:136", after := #[{ on := 1, ground := Go.Ground.data }], guard := none }) (v := ?v2_430401) rfl (by decide) (by kernel_rfl) (by kernel_rfl) (by kernel_rfl) (fun _ _ _ h => h) (Or.inl ⟨by rfl, ?y2_430401⟩) (fun _ => hHeld) ?r2_430401
  case y2_430401 => intro w hSw; clear hSw; go_simp; try with_reducible rfl
  try simp only [Act.put, List.setIfInBounds_toArray, List.set_cons_zero, List.set_cons_succ]
  refine wpAnyU_take0 (i := 3) (oi := { dst := some 57, op := Go.Op.fieldAddr 108 (Go.Operand.tmp 56) 0, type := 0, pos := "ref.go:136", after := #[{ on := 2, ground := Go.Ground.data }], guard := none }) (v := ?v3_430401) rfl (by decide) (by kernel_rfl) (by kernel_rfl) (by kernel_rfl) (fun _ _ _ h => h) (Or.inl ⟨by rfl, ?y3_430401⟩) (fun _ => hHeld) ?r3_430401
  case y3_430401 => intro w hSw; clear hSw; go_simp; try with_reducible rfl
  try simp only [Act.put, List.setIfInBounds_toArray, List.set_cons_zero, List.set_cons_succ]
  refine wpAnyU_take0 (i := 5) (oi := { dst := some 59, op := Go.Op.move (Go.Operand.tmp 2), type := 9, pos := "ref.go:136", after := #[], guard := none }) (v := ?v5_430401) rfl (by decide) (by kernel_rfl) (by kernel_rfl) (by kernel_rfl) (fun _ _ _ h => h) (Or.inl ⟨by rfl, ?y5_430401⟩) (fun _ => hHeld) ?r5_430401
  case y5_430401 => intro w hSw; clear hSw; go_simp; try with_reducible rfl
  try simp only [Act.put, List.setIfInBounds_toArray, List.set_cons_zero, List.set_cons_succ]
  refine wpAnyU_take0 (i := 6) (oi := { dst := some 60, op := Go.Op.move (Go.Operand.tmp 2), type := 9, pos := "ref.go:136", after := #[], guard := none }) (v := ?v6_430401) rfl (by decide) (by kernel_rfl) (by kernel_rfl) (by kernel_rfl) (fun _ _ _ h => h) (Or.inl ⟨by rfl, ?y6_430401⟩) (fun _ => hHeld) ?r6_430401
  case y6_430401 => intro w hSw; clear hSw; go_simp; try with_reducible rfl
  try simp only [Act.put, List.setIfInBounds_toArray, List.set_cons_zero, List.set_cons_succ]
  refine wpAnyU_take0 (i := 7) (oi := { dst := some 61, op := Go.Op.call { callee := Go.Callee.builtin Go.Builtin.len, args := #[Go.Operand.tmp 60], argTypes := #[9] }, type := 3, pos := "ref.go:136", after := #[{ on := 6, ground := Go.Ground.data }], guard := none }) (v := ?v7_430401) rfl (by decide) (by kernel_rfl) (by kernel_rfl) (by kernel_rfl) (fun _ _ _ h => h) (Or.inl ⟨by rfl, ?y7_430401⟩) (fun _ => hHeld) ?r7_430401
  case y7_430401 => intro w hSw; clear hSw; go_simp; try with_reducible rfl
  try simp only [Act.put, List.setIfInBounds_toArray, List.set_cons_zero, List.set_cons_succ]
  refine wpAnyU_take0 (i := 8) (oi := { dst := some 62, op := Go.Op.binOp Go.BinOp.sub 3 (Go.Operand.tmp 61) (Go.Operand.const (Go.Value.int Go.IntKind.i64 20)) 3, type := 3, pos := "ref.go:136", after := #[{ on := 7, ground := Go.Ground.data }], guard := none }) (v := ?v8_430401) rfl (by decide) (by kernel_rfl) (by kernel_rfl) (by kernel_rfl) (fun _ _ _ h => h) (Or.inl ⟨by rfl, ?y8_430401⟩) (fun _ => hHeld) ?r8_430401
  case y8_430401 => intro w hSw; clear hSw; go_simp; try with_reducible rfl
  try simp only [Act.put, List.setIfInBounds_toArray, List.set_cons_zero, List.set_cons_succ]
  refine wpAnyU_take0 (i := 9) (oi := { dst := some 63, op := Go.Op.slice 9 (Go.Operand.tmp 59) (some (Go.Operand.tmp 62)) none none, type := 9, pos := "ref.go:136", after := #[{ on := 5, ground := Go.Ground.data }, { on := 8, ground := Go.Ground.data }], guard := none }) (v := ?v9_430401) rfl (by decide) (by kernel_rfl) (by kernel_rfl) (by kernel_rfl) (fun _ _ _ h => h) (Or.inl ⟨by rfl, ?y9_430401⟩) (fun _ => hHeld) ?r9_430401
  case y9_430401 => intro w hSw; clear hSw; go_simp; try with_reducible rfl
  try simp only [Act.put, List.setIfInBounds_toArray, List.set_cons_zero, List.set_cons_succ]
  refine wpAnyU_take (i := 4) (oi := { dst := some 58, op := Go.Op.load 35 (Go.Operand.tmp 57), type := 35, pos := "ref.go:136", after := #[{ on := 3, ground := Go.Ground.data }], guard := none }) (v := ?v4_430401) rfl (by kernel_rfl) (by decide) (by kernel_rfl) (by kernel_rfl) (by kernel_rfl) (by kernel_rfl) (by kernel_rfl) (fun _ _ _ h => h) (Or.inl ⟨by rfl, ?y4_430401⟩) hHeld ?r4_430401
  case y4_430401 => intro w hSw; (try dsimp only at hSw); have y0 := (hSw.2 0 _ rfl).1; go_simp; try with_reducible rfl
  try simp only [Act.put, List.setIfInBounds_toArray, List.set_cons_zero, List.set_cons_succ]
  refine wpAnyU_ready (rs := [10]) (by kernel_rfl) (by simp) ?_
  refine AllReadyU.cons (o := { dst := some 64, op := Go.Op.call { callee := Go.Callee.builtin Go.Builtin.append, args := #[Go.Operand.tmp 58, Go.Operand.tmp 63], argTypes := #[35, 9] }, type := 35, pos := "ref.go:136", after := #[{ on := 4, ground := Go.Ground.data }, { on := 9, ground := Go.Ground.data }], guard := none }) rfl (fun K hK => ?_) AllReadyU.nil
  refine step_append_str5 (by rfl) _ _ 35 9 (by rfl) B 5 i0 Try.underlying35 Try.underlying9 HI.out HZ0.out HZ1.out HZ2.out (.slice sa xl sc) xl (bc X3) (by rfl) HRD.out.row (d.extract dz d.size) (by rfl) (by rw [HSE.out, bs_size, HYL.out]; have := HXS.out; have := HYB.out; unfold maxLen; omega) (by rw [HSE.out, bs_size, HYL.out]; have := HXS.out; have := HYB.out; omega) HRD.out.le ?_
  intro v7 w7 ho7 hg7
  rw [HSE.out, bs_size, HYL.out, strCells_bs, ← bc_append] at ho7
  obtain ⟨sa7, sc7, rfl, -⟩ := cellsK_own ho7
  have hne7 := own_ne HRD.out.row HRD.out.tb (by decide)
  have HC7 := Lib.hid (HRD.out.cn.grown hg7 (fun e => hne7 e.symm))
  have HT7 := Lib.hid (HRD.out.tb.grown hg7 hne7)
  have HO7 := Lib.hid ho7
  have HG7 := Lib.hid hg7
  clear ho7 hg7 hne7
  refine hK.out _ _ (HC7.out) (fun hHeld2 => ?_)
  clear hK K hHeld
  have hHeld := hHeld2
  clear hHeld2
  try simp only [Act.put, List.setIfInBounds_toArray, List.set_cons_zero, List.set_cons_succ]
  refine wpAnyU_take0 (i := 11) (oi := { dst := some 65, op := Go.Op.nilCheck (Go.Operand.tmp 54), type := 0, pos := "ref.go:136", after := #[{ on := 0, ground := Go.Ground.data }, { on := 0, ground := Go.Ground.phase }, { on := 1, ground := Go.Ground.phase }, { on := 2, ground := Go.Ground.phase }, { on := 3, ground := Go.Ground.phase }, { on := 4, ground := Go.Ground.phase }, { on := 5, ground := Go.Ground.phase }, { on := 6, ground := Go.Ground.phase }, { on := 7, ground := Go.Ground.phase }, { on := 8, ground := Go.Ground.phase }, { on := 9, ground := Go.Ground.phase }, { on := 10, ground := Go.Ground.phase }], guard := none }) (v := ?v11_430402) rfl (by decide) (by kernel_rfl) (by kernel_rfl) (by kernel_rfl) (fun _ _ _ h => h) (Or.inl ⟨by rfl, ?y11_430402⟩) (fun _ => hHeld) ?r11_430402
  case y11_430402 => intro w hSw; clear hSw; go_simp; try with_reducible rfl
  try simp only [Act.put, List.setIfInBounds_toArray, List.set_cons_zero, List.set_cons_succ]
  refine wpAnyU_take0 (i := 12) (oi := { dst := some 66, op := Go.Op.fieldAddr 108 (Go.Operand.tmp 65) 0, type := 0, pos := "ref.go:136", after := #[{ on := 11, ground := Go.Ground.data }, { on := 0, ground := Go.Ground.phase }, { on := 1, ground := Go.Ground.phase }, { on := 2, ground := Go.Ground.phase }, { on := 3, ground := Go.Ground.phase }, { on := 4, ground := Go.Ground.phase }, { on := 5, ground := Go.Ground.phase }, { on := 6, ground := Go.Ground.phase }, { on := 7, ground := Go.Ground.phase }, { on := 8, ground := Go.Ground.phase }, { on := 9, ground := Go.Ground.phase }, { on := 10, ground := Go.Ground.phase }], guard := none }) (v := ?v12_430402) rfl (by decide) (by kernel_rfl) (by kernel_rfl) (by kernel_rfl) (fun _ _ _ h => h) (Or.inl ⟨by rfl, ?y12_430402⟩) (fun _ => hHeld) ?r12_430402
  case y12_430402 => intro w hSw; clear hSw; go_simp; try with_reducible rfl
  try simp only [Act.put, List.setIfInBounds_toArray, List.set_cons_zero, List.set_cons_succ]
  refine wpAnyU_ready (rs := [13]) (by kernel_rfl) (by simp) ?_
  refine AllReadyU.last (o := { dst := none, op := Go.Op.store 35 (Go.Operand.tmp 66) (Go.Operand.tmp 64), type := 0, pos := "ref.go:136", after := #[{ on := 12, ground := Go.Ground.data }, { on := 10, ground := Go.Ground.data }, { on := 10, ground := Go.Ground.chain }, { on := 0, ground := Go.Ground.phase }, { on := 1, ground := Go.Ground.phase }, { on := 2, ground := Go.Ground.phase }, { on := 3, ground := Go.Ground.phase }, { on := 4, ground := Go.Ground.phase }, { on := 5, ground := Go.Ground.phase }, { on := 6, ground := Go.Ground.phase }, { on := 7, ground := Go.Ground.phase }, { on := 8, ground := Go.Ground.phase }, { on := 9, ground := Go.Ground.phase }, { on := 10, ground := Go.Ground.phase }], guard := none }) rfl (by kernel_rfl) (fun K hK => ?_) AllReadyU.nil
  have y0 := (HC7.out.2 0 _ rfl).1
  have g0 := (HC7.out.2 0 _ rfl).2
  go_simp
  refine hK.out _ _ trivial (fun _ => ?_)
  clear hK K
  try simp only [Act.put, List.setIfInBounds_toArray, List.set_cons_zero, List.set_cons_succ]
  refine wpAnyU_done (by kernel_rfl) ?_ _
  have HB8 := Lib.hid ((HBD.out.grown HG7.out HRD.out.le (fun k hk => (HRD.out.row.lt k hk).1)).setCell HQ.out (.slice sa7 (xl + yl) sc7) (p := ⟨q, 0, none⟩))
  have HK8 := Lib.hid ((HKD.out.trans HOW3.out (Kd.rowB HRD.out.row HG7.out)).trans HOW3.out (Kd.set HT7.out 0 (.slice sa7 (xl + yl) sc7)))
  have HS8 := Lib.hid (show DrS (w7.setCell ⟨q, 0, none⟩ (.slice sa7 (xl + yl) sc7)) B q nv3 E3 (X3 ++ Y) from ⟨(.slice sa7 (xl + yl) sc7), av, HC7.out.set 0 (by simp) (.slice sa7 (xl + yl) sc7), HT7.out.set 0 (.slice sa7 (xl + yl) sc7), by rw [List.length_append, HXL.out, HYL.out]; exact own_keeps HO7.out HT7.out (by decide) (grown_cell w7 q 0 (.slice sa7 (xl + yl) sc7)), own_keeps (own_other HRD.out.names HRD.out.row (by decide) HG7.out) HT7.out (by decide) (grown_cell w7 q 0 (.slice sa7 (xl + yl) sc7)), own_keeps (own_other HRD.out.ats HRD.out.row (by decide) HG7.out) HT7.out (by decide) (grown_cell w7 q 0 (.slice sa7 (xl + yl) sc7)), HOK.out, by rw [List.length_append]; have := HEL.out; omega⟩)
  go_wp2
  refine bodyPost_end (v := .tuple #[]) (by simp [results, Try.results89, go_sem]) rfl ⟨rfl, ?_⟩
  rw [HW12.out]
  show DrN w B q nv (wNm f2 X2 P).2 ((wNm f2 X2 P).1 ++ (soaT d).data.toList) _
  rw [HYD.out, HFF.out]
  exact ⟨nv3, E3, HS8.out, HE3.out, HB8.out, HK8.out, HOW3.out⟩
theorem rdata5_any (q B : Nat) (nv : Value) (E : Ents) (X : List UInt8) (k : Int) (d : ByteArray) (w : World) (hd : d.size ≤ 1000) (hk : mayD k d = true ∨ k = 41) (hs : DrS w B q nv E X) (hB : B ≤ q) (hm : X.length + 3000 ≤ 1000000) :
    Calls Try.prog 89 #[.pointer (some ⟨q, 0, none⟩), .int .i64 k, .string d] w fun e w' => e = .returned (.tuple #[]) ∧ DrN w B q nv (wDat (lkE E) X k d).2 (wDat (lkE E) X k d).1 w' := by
  by_cases c : k = 2 ∨ k = 5
  · exact rdata_2 q B nv E X k d w c (hk.resolve_right (by omega)) hs hB hm
  by_cases c2 : k = 15
  · subst c2; exact rdata_15 q B nv E X d w hd (hk.resolve_right (by omega)) hs hB hm
  by_cases c3 : k = 6
  · subst c3; exact rdata_6 q B nv E X d w hd (hk.resolve_right (by omega)) hs hB hm
  exact rdata_no q B nv E X k d w hd ⟨by omega, by omega, c2, c3⟩ hs hB hm
end Go.Proofs.Ytkoafkajmfodkaa
