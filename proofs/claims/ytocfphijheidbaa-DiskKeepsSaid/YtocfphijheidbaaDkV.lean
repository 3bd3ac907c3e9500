/- A disk copied: contract of Copy (written by mkdkv.py). -/
import Derived.Test.YtocfphijheidbaaDkU
namespace Go.Proofs.Ytocfphijheidbaa
open Go.RowKit

theorem own_set {w : World} {B n size : Nat} {e : TypeId} {v : Value} {xs : List Value} (h : w.ownsRow B e size v n xs) (q i : Nat) (hq : q < B) (u : Value) : (w.setCell ⟨q, i, none⟩ u).ownsRow B e size v n xs :=
  own_kept h (fun g hg => Below.heap_setCell _ _ _ _ (by have := (h.lt g hg).1; show g ≠ q; omega))
set_option maxRecDepth 100000 in
set_option maxHeartbeats 4000000 in
theorem copyD_any (q : Nat) (bs : List Nat) (s : DkP) (w : World) (h : DkS w bs q s) (hP : s.P.length ≤ 10000) (hM : s.mask.length ≤ 100000) :
    Calls Try.prog 29 #[.pointer (some ⟨q, 0, none⟩)] w fun e w' => ∃ q' bs' ca cb, e = .returned (.pointer (some ⟨q', 0, none⟩)) ∧ DkS w' bs' q' { s with cd := ca, cr := cb } ∧ (∀ x ∈ bs', w.heap.size ≤ x) ∧ Below w.heap.size w w' := by
  obtain ⟨qd, qr, pv, mv, hB, hA, hW⟩ := h
  obtain ⟨hc, hd, hr, ho, hm⟩ := hB
  obtain ⟨pa, pc, epv, -, -⟩ := cellsK_own ho
  subst epv
  obtain ⟨ma, mc, emv, -⟩ := id hm
  subst emv
  have hls := hA.2.1
  have hlt : q < w.heap.size ∧ qd < w.heap.size ∧ qr < w.heap.size := ⟨hls q hA.1.1, hls qd hA.1.2.1, hls qr hA.1.2.2.1⟩
  obtain ⟨N, hN⟩ : ∃ z, s.n = z := ⟨_, rfl⟩
  obtain ⟨PL, hPL⟩ : ∃ z, s.P.length = z := ⟨_, rfl⟩
  obtain ⟨ML, hML⟩ : ∃ z, s.mask.length = z := ⟨_, rfl⟩
  obtain ⟨dn, hdn⟩ : ∃ z, s.down = z := ⟨_, rfl⟩
  obtain ⟨wn, hwn⟩ : ∃ z, s.wr = z := ⟨_, rfl⟩
  obtain ⟨fl, hfl⟩ : ∃ z, s.fall = z := ⟨_, rfl⟩
  obtain ⟨C1, hC1⟩ : ∃ z, s.cd = z := ⟨_, rfl⟩
  obtain ⟨C2, hC2⟩ : ∃ z, s.cr = z := ⟨_, rfl⟩
  have HNE := Lib.hid (show s.n = N ∧ s.P.length = PL ∧ s.mask.length = ML ∧ s.down = dn ∧ s.wr = wn ∧ s.fall = fl from ⟨hN, hPL, hML, hdn, hwn, hfl⟩)
  have HN := Lib.hid (show N ≠ 0 ∧ N ≤ 10000 by have := hW.1; omega)
  rw [hN, hPL, hML, hdn, hwn, hfl, hC1, hC2] at hc
  rw [hN] at hd hr
  rw [hPL] at ho hP
  rw [hML] at hm hM
  have HW := Lib.hid hW
  have HD := Lib.hid hd
  have HR := Lib.hid hr
  have HP := Lib.hid ho
  have HM := Lib.hid hm
  have HPL := Lib.hid hP
  have HML := Lib.hid hM
  have HELD := Lib.hid (show Held q [.slice (some ⟨qd, 0, none⟩) N C1, .slice (some ⟨qr, 0, none⟩) N C2, .slice pa PL pc, .bool dn, .int .i64 (wn : Int), .int .i64 fl, .slice ma ML mc] w from ⟨hc, hlt.1⟩)
  obtain ⟨c0, c1, c2, c3, c4, c5, c6⟩ := hc.u7
  have hba := (Below.refl w.heap.size w).alloc (Nat.le_refl _) (.cells #[.slice (some ⟨qd, 0, none⟩) N C1, .slice (some ⟨qr, 0, none⟩) N C2, .slice pa PL pc, .bool dn, .int .i64 (wn : Int), .int .i64 fl, .slice ma ML mc] 128)
  replace HELD := Lib.hid (HELD.out.below hba)
  have HQ := Lib.hid (show Held w.heap.size [.slice (some ⟨qd, 0, none⟩) N C1, .slice (some ⟨qr, 0, none⟩) N C2, .slice pa PL pc, .bool dn, .int .i64 (wn : Int), .int .i64 fl, .slice ma ML mc] (w.alloc (.cells #[.slice (some ⟨qd, 0, none⟩) N C1, .slice (some ⟨qr, 0, none⟩) N C2, .slice pa PL pc, .bool dn, .int .i64 (wn : Int), .int .i64 fl, .slice ma ML mc] 128)) from ⟨fun j c hj => by rw [World.cell?_alloc_new, World.frozen?_alloc_new, ← hj]; exact ⟨by simp, rfl⟩, by rw [World.size_alloc]; omega⟩)
  have HB := Lib.hid hba
  have HS2 := Lib.hid (show w.heap.size + 1 ≤ (w.alloc (.cells #[.slice (some ⟨qd, 0, none⟩) N C1, .slice (some ⟨qr, 0, none⟩) N C2, .slice pa PL pc, .bool dn, .int .i64 (wn : Int), .int .i64 fl, .slice ma ML mc] 128)).heap.size from by rw [World.size_alloc]; omega)
  obtain ⟨w1, hw1⟩ : ∃ x, w.alloc (.cells #[.slice (some ⟨qd, 0, none⟩) N C1, .slice (some ⟨qr, 0, none⟩) N C2, .slice pa PL pc, .bool dn, .int .i64 (wn : Int), .int .i64 fl, .slice ma ML mc] 128) = x := ⟨_, rfl⟩
  obtain ⟨q1, hq1⟩ : ∃ x, w.heap.size = x := ⟨_, rfl⟩
  rw [hw1] at HELD HB HS2
  rw [hw1, hq1] at HQ
  rw [hq1] at HS2
  have HLT := Lib.hid (show w.heap.size = q1 ∧ q < q1 ∧ qd < q1 ∧ qr < q1 by omega)
  have HW1 := Lib.hid hw1
  have HQ1 := Lib.hid hq1
  clear hq1 hw1 hba hlt hls hA hW hd hr ho hm hP hM hN hPL hML hdn hwn hfl hC1 hC2 hc
  go_enter Try.func29, Try.ntmps29
  go_upto_region 2 with (fail)
  rw [HW1.out, HQ1.out]
  clear HW1 HQ1 c0 c1 c2 c3 c4 c5 c6
  refine wp_region_held_drew (S := (fun wx => Held q [.slice (some ⟨qd, 0, none⟩) N C1, .slice (some ⟨qr, 0, none⟩) N C2, .slice pa PL pc, .bool dn, .int .i64 (wn : Int), .int .i64 fl, .slice ma ML mc] wx)) (by kernel_rfl) ((HELD.out.below (Below.refl _ _).drew)) (fun hHeld => ?_)
  have hb := (Below.refl w1.heap.size w1).drew
  obtain ⟨w2, hwn⟩ : ∃ x, w1.drew = x := ⟨_, rfl⟩
  rw [hwn] at hb
  replace HS2 := Lib.hid (Nat.le_trans HS2.out hb.size)
  replace HQ := Lib.hid (HQ.out.below hb)
  replace HB := Lib.hid (HB.out.trans (hb.mono HB.out.size))
  rw [hwn] at hHeld
  rw [hwn]
  clear hwn
  clear hb HELD
  refine wpAnyH_take (i := 0) (oi := { dst := some 7, op := Go.Op.move (Go.Operand.tmp 0), type := 39, pos := "disk.go:161", after := #[], guard := none }) (v := ?v0_210201) rfl (by kernel_rfl) (by kernel_rfl) (by kernel_rfl) (fun _ _ _ h => h) (Or.inl ⟨by rfl, ?y0_210201⟩) hHeld ?r0_210201
  case y0_210201 => intro w hSw; (try dsimp only at hSw); go_simp; try with_reducible rfl
  try simp only [Act.put, List.setIfInBounds_toArray, List.set_cons_zero, List.set_cons_succ]
  refine wpAnyH_take (i := 1) (oi := { dst := some 8, op := Go.Op.nilCheck (Go.Operand.tmp 7), type := 0, pos := "disk.go:161", after := #[{ on := 0, ground := Go.Ground.data }], guard := none }) (v := ?v1_210201) rfl (by kernel_rfl) (by kernel_rfl) (by kernel_rfl) (fun _ _ _ h => h) (Or.inl ⟨by rfl, ?y1_210201⟩) hHeld ?r1_210201
  case y1_210201 => intro w hSw; (try dsimp only at hSw); go_simp; try with_reducible rfl
  try simp only [Act.put, List.setIfInBounds_toArray, List.set_cons_zero, List.set_cons_succ]
  refine wpAnyH_take (i := 2) (oi := { dst := some 9, op := Go.Op.fieldAddr 128 (Go.Operand.tmp 8) 0, type := 0, pos := "disk.go:161", after := #[{ on := 1, ground := Go.Ground.data }], guard := none }) (v := ?v2_210201) rfl (by kernel_rfl) (by kernel_rfl) (by kernel_rfl) (fun _ _ _ h => h) (Or.inl ⟨by rfl, ?y2_210201⟩) hHeld ?r2_210201
  case y2_210201 => intro w hSw; (try dsimp only at hSw); go_simp; try with_reducible rfl
  try simp only [Act.put, List.setIfInBounds_toArray, List.set_cons_zero, List.set_cons_succ]
  refine wpAnyH_take (i := 3) (oi := { dst := some 10, op := Go.Op.load 125 (Go.Operand.tmp 9), type := 125, pos := "disk.go:161", after := #[{ on := 2, ground := Go.Ground.data }], guard := none }) (v := ?v3_210201) rfl (by kernel_rfl) (by kernel_rfl) (by kernel_rfl) (fun _ _ _ h => h) (Or.inl ⟨by rfl, ?y3_210201⟩) hHeld ?r3_210201
  case y3_210201 => intro w hSw; (try dsimp only at hSw); obtain ⟨s0, s1, s2, -, -, -, s6⟩ := hSw.1.u7; go_simp; try with_reducible rfl
  try simp only [Act.put, List.setIfInBounds_toArray, List.set_cons_zero, List.set_cons_succ]
  refine wpAnyH_take (i := 5) (oi := { dst := some 12, op := Go.Op.move (Go.Operand.tmp 0), type := 39, pos := "disk.go:161", after := #[], guard := none }) (v := ?v5_210201) rfl (by kernel_rfl) (by kernel_rfl) (by kernel_rfl) (fun _ _ _ h => h) (Or.inl ⟨by rfl, ?y5_210201⟩) hHeld ?r5_210201
  case y5_210201 => intro w hSw; (try dsimp only at hSw); go_simp; try with_reducible rfl
  try simp only [Act.put, List.setIfInBounds_toArray, List.set_cons_zero, List.set_cons_succ]
  refine wpAnyH_take (i := 6) (oi := { dst := some 13, op := Go.Op.nilCheck (Go.Operand.tmp 12), type := 0, pos := "disk.go:161", after := #[{ on := 5, ground := Go.Ground.data }], guard := none }) (v := ?v6_210201) rfl (by kernel_rfl) (by kernel_rfl) (by kernel_rfl) (fun _ _ _ h => h) (Or.inl ⟨by rfl, ?y6_210201⟩) hHeld ?r6_210201
  case y6_210201 => intro w hSw; (try dsimp only at hSw); go_simp; try with_reducible rfl
  try simp only [Act.put, List.setIfInBounds_toArray, List.set_cons_zero, List.set_cons_succ]
  refine wpAnyH_take (i := 7) (oi := { dst := some 14, op := Go.Op.fieldAddr 128 (Go.Operand.tmp 13) 1, type := 0, pos := "disk.go:161", after := #[{ on := 6, ground := Go.Ground.data }], guard := none }) (v := ?v7_210201) rfl (by kernel_rfl) (by kernel_rfl) (by kernel_rfl) (fun _ _ _ h => h) (Or.inl ⟨by rfl, ?y7_210201⟩) hHeld ?r7_210201
  case y7_210201 => intro w hSw; (try dsimp only at hSw); go_simp; try with_reducible rfl
  try simp only [Act.put, List.setIfInBounds_toArray, List.set_cons_zero, List.set_cons_succ]
  refine wpAnyH_take (i := 8) (oi := { dst := some 15, op := Go.Op.load 125 (Go.Operand.tmp 14), type := 125, pos := "disk.go:161", after := #[{ on := 7, ground := Go.Ground.data }], guard := none }) (v := ?v8_210201) rfl (by kernel_rfl) (by kernel_rfl) (by kernel_rfl) (fun _ _ _ h => h) (Or.inl ⟨by rfl, ?y8_210201⟩) hHeld ?r8_210201
  case y8_210201 => intro w hSw; (try dsimp only at hSw); obtain ⟨s0, s1, s2, -, -, -, s6⟩ := hSw.1.u7; go_simp; try with_reducible rfl
  try simp only [Act.put, List.setIfInBounds_toArray, List.set_cons_zero, List.set_cons_succ]
  refine wpAnyH_ready (rs := [4]) (by kernel_rfl) (by simp) ?_
  refine AllReadyH.cons (o := { dst := some 11, op := Go.Op.call { callee := Go.Callee.value (Go.Operand.func 69), args := #[Go.Operand.tmp 10], argTypes := #[125] }, type := 125, pos := "disk.go:161", after := #[{ on := 3, ground := Go.Ground.data }], guard := none }) rfl (fun K hK => ?_) AllReadyH.nil
  go_simp
  refine (cloneSec qd N C1 (arL .u8 (256 * N) (secF s.D)) w2 (arA_cells (HD.out.below HB.out) (by have := HLT.out; have := HB.out.size; omega) (by omega)) (arL_oneC _ _ _) HN.out.2).mono ?_; rintro e wa ⟨va, rfl, hoa, hb⟩
  obtain ⟨ga, ca, rfl, hga, hga2⟩ := own_shp hoa HN.out.1
  have HOA := Lib.hid (own_base hoa (show q1 + 1 ≤ w2.heap.size from HS2.out))
  have HGA := Lib.hid (show q1 < ga ∧ ga < wa.heap.size from ⟨Nat.lt_of_lt_of_le HS2.out hga, hga2⟩)
  have hnext := hHeld.below hb
  replace HQ := Lib.hid (HQ.out.below hb)
  replace HB := Lib.hid (HB.out.trans (hb.mono HB.out.size))
  clear hoa hga hga2 hb
  refine hK.out _ _ (hnext) (fun hHeld2 => ?_)
  clear hK K hHeld
  have hHeld := hHeld2
  clear hHeld2
  try simp only [Act.put, List.setIfInBounds_toArray, List.set_cons_zero, List.set_cons_succ]
  refine wpAnyH_ready (rs := [9]) (by kernel_rfl) (by simp) ?_
  refine AllReadyH.cons (o := { dst := some 16, op := Go.Op.call { callee := Go.Callee.value (Go.Operand.func 69), args := #[Go.Operand.tmp 15], argTypes := #[125] }, type := 125, pos := "disk.go:161", after := #[{ on := 8, ground := Go.Ground.data }, { on := 4, ground := Go.Ground.chain }], guard := none }) rfl (fun K hK => ?_) AllReadyH.nil
  go_simp
  refine (cloneSec qr N C2 (arL .u8 (256 * N) (secF s.R)) wa (arA_cells (HR.out.below HB.out) (by have := HLT.out; have := HB.out.size; omega) (by omega)) (arL_oneC _ _ _) HN.out.2).mono ?_; rintro e wb ⟨vb, rfl, hob, hb⟩
  obtain ⟨gb, cb, rfl, hgb, hgb2⟩ := own_shp hob HN.out.1
  have HOB := Lib.hid (own_base hob (show q1 + 1 ≤ wa.heap.size from by have := HGA.out; omega))
  have HGB := Lib.hid (show q1 < ga ∧ ga < gb ∧ gb < wb.heap.size from ⟨HGA.out.1, Nat.lt_of_lt_of_le HGA.out.2 hgb, hgb2⟩)
  have hnext := hHeld.below hb
  replace HQ := Lib.hid (HQ.out.below hb)
  replace HB := Lib.hid (HB.out.trans (hb.mono HB.out.size))
  replace HOA := Lib.hid (own_below' HOA.out hb)
  clear hob hgb hgb2 hb
  refine hK.out _ _ (hnext) (fun hHeld2 => ?_)
  clear hK K hHeld
  have hHeld := hHeld2
  clear hHeld2
  try simp only [Act.put, List.setIfInBounds_toArray, List.set_cons_zero, List.set_cons_succ]
  refine wpAnyH_take (i := 10) (oi := { dst := some 17, op := Go.Op.fieldAddr 128 (Go.Operand.tmp 3) 0, type := 0, pos := "disk.go:161", after := #[{ on := 0, ground := Go.Ground.phase }, { on := 1, ground := Go.Ground.phase }, { on := 2, ground := Go.Ground.phase }, { on := 3, ground := Go.Ground.phase }, { on := 4, ground := Go.Ground.phase }, { on := 5, ground := Go.Ground.textOnly Go.Departure.lateStores }, { on := 6, ground := Go.Ground.textOnly Go.Departure.lateStoresUnsure }, { on := 7, ground := Go.Ground.textOnly Go.Departure.lateStoresUnsure }, { on := 8, ground := Go.Ground.phase }, { on := 9, ground := Go.Ground.phase }], guard := none }) (v := ?v10_210203) rfl (by kernel_rfl) (by kernel_rfl) (by kernel_rfl) (fun _ _ _ h => h) (Or.inl ⟨by rfl, ?y10_210203⟩) hHeld ?r10_210203
  case y10_210203 => intro w hSw; (try dsimp only at hSw); go_simp; try with_reducible rfl
  try simp only [Act.put, List.setIfInBounds_toArray, List.set_cons_zero, List.set_cons_succ]
  refine wpAnyH_ready (rs := [11]) (by kernel_rfl) (by simp) ?_
  refine AllReadyH.cons (o := { dst := none, op := Go.Op.store 125 (Go.Operand.tmp 17) (Go.Operand.tmp 11), type := 0, pos := "disk.go:161", after := #[{ on := 10, ground := Go.Ground.data }, { on := 4, ground := Go.Ground.data }, { on := 9, ground := Go.Ground.chain }, { on := 0, ground := Go.Ground.phase }, { on := 1, ground := Go.Ground.phase }, { on := 2, ground := Go.Ground.phase }, { on := 3, ground := Go.Ground.phase }, { on := 4, ground := Go.Ground.phase }, { on := 5, ground := Go.Ground.textOnly Go.Departure.lateStores }, { on := 6, ground := Go.Ground.textOnly Go.Departure.lateStoresUnsure }, { on := 7, ground := Go.Ground.textOnly Go.Departure.lateStoresUnsure }, { on := 8, ground := Go.Ground.phase }, { on := 9, ground := Go.Ground.phase }], guard := none }) rfl (fun K hK => ?_) AllReadyH.nil
  obtain ⟨k0, k1, k2, -, -, -, k6⟩ := HQ.out.1.u7
  have kf := HQ.out.1.fr 0 (by decide)
  go_simp
  clear k0 k1 k2 k6 kf
  have hnext := hHeld.other (i := 0) (show q ≠ q1 by have := HLT.out; omega) (.slice (some ⟨ga, 0, none⟩) N ca)
  replace HQ := Lib.hid (show Held q1 [.slice (some ⟨ga, 0, none⟩) N ca, .slice (some ⟨qr, 0, none⟩) N C2, .slice pa PL pc, .bool dn, .int .i64 (wn : Int), .int .i64 fl, .slice ma ML mc] (wb.setCell ⟨q1, 0, none⟩ (.slice (some ⟨ga, 0, none⟩) N ca)) from HQ.out.set (i := 0) (by simp) (.slice (some ⟨ga, 0, none⟩) N ca))
  replace HOA := Lib.hid (own_set HOA.out q1 0 (by have := HLT.out; omega) (.slice (some ⟨ga, 0, none⟩) N ca))
  replace HOB := Lib.hid (own_set HOB.out q1 0 (by have := HLT.out; omega) (.slice (some ⟨ga, 0, none⟩) N ca))
  replace HB := Lib.hid (HB.out.setCell (p := ⟨q1, 0, none⟩) (by have := HLT.out; show w.heap.size ≤ q1; omega) (.slice (some ⟨ga, 0, none⟩) N ca))
  obtain ⟨wc, hwn⟩ : ∃ x, wb.setCell ⟨q1, 0, none⟩ (.slice (some ⟨ga, 0, none⟩) N ca) = x := ⟨_, rfl⟩
  rw [hwn] at HQ HB hnext HOA HOB ⊢
  clear hwn
  refine hK.out _ _ (hnext) (fun hHeld2 => ?_)
  clear hK K hHeld
  have hHeld := hHeld2
  clear hHeld2
  try simp only [Act.put, List.setIfInBounds_toArray, List.set_cons_zero, List.set_cons_succ]
  refine wpAnyH_take (i := 12) (oi := { dst := some 18, op := Go.Op.fieldAddr 128 (Go.Operand.tmp 3) 1, type := 0, pos := "disk.go:161", after := #[{ on := 0, ground := Go.Ground.phase }, { on := 1, ground := Go.Ground.phase }, { on := 2, ground := Go.Ground.phase }, { on := 3, ground := Go.Ground.phase }, { on := 4, ground := Go.Ground.phase }, { on := 5, ground := Go.Ground.phase }, { on := 6, ground := Go.Ground.phase }, { on := 7, ground := Go.Ground.phase }, { on := 8, ground := Go.Ground.phase }, { on := 9, ground := Go.Ground.phase }, { on := 10, ground := Go.Ground.phase }, { on := 11, ground := Go.Ground.phase }], guard := none }) (v := ?v12_210204) rfl (by kernel_rfl) (by kernel_rfl) (by kernel_rfl) (fun _ _ _ h => h) (Or.inl ⟨by rfl, ?y12_210204⟩) hHeld ?r12_210204
  case y12_210204 => intro w hSw; (try dsimp only at hSw); go_simp; try with_reducible rfl
  try simp only [Act.put, List.setIfInBounds_toArray, List.set_cons_zero, List.set_cons_succ]
  refine wpAnyH_ready (rs := [13]) (by kernel_rfl) (by simp) ?_
  refine AllReadyH.cons (o := { dst := none, op := Go.Op.store 125 (Go.Operand.tmp 18) (Go.Operand.tmp 16), type := 0, pos := "disk.go:161", after := #[{ on := 12, ground := Go.Ground.data }, { on := 9, ground := Go.Ground.data }, { on := 11, ground := Go.Ground.chain }, { on := 0, ground := Go.Ground.phase }, { on := 1, ground := Go.Ground.phase }, { on := 2, ground := Go.Ground.phase }, { on := 3, ground := Go.Ground.phase }, { on := 4, ground := Go.Ground.phase }, { on := 5, ground := Go.Ground.phase }, { on := 6, ground := Go.Ground.phase }, { on := 7, ground := Go.Ground.phase }, { on := 8, ground := Go.Ground.phase }, { on := 9, ground := Go.Ground.phase }, { on := 10, ground := Go.Ground.phase }, { on := 11, ground := Go.Ground.phase }], guard := none }) rfl (fun K hK => ?_) AllReadyH.nil
  obtain ⟨k0, k1, k2, -, -, -, k6⟩ := HQ.out.1.u7
  have kf := HQ.out.1.fr 1 (by decide)
  go_simp
  clear k0 k1 k2 k6 kf
  have hnext := hHeld.other (i := 1) (show q ≠ q1 by have := HLT.out; omega) (.slice (some ⟨gb, 0, none⟩) N cb)
  replace HQ := Lib.hid (show Held q1 [.slice (some ⟨ga, 0, none⟩) N ca, .slice (some ⟨gb, 0, none⟩) N cb, .slice pa PL pc, .bool dn, .int .i64 (wn : Int), .int .i64 fl, .slice ma ML mc] (wc.setCell ⟨q1, 1, none⟩ (.slice (some ⟨gb, 0, none⟩) N cb)) from HQ.out.set (i := 1) (by simp) (.slice (some ⟨gb, 0, none⟩) N cb))
  replace HOA := Lib.hid (own_set HOA.out q1 1 (by have := HLT.out; omega) (.slice (some ⟨gb, 0, none⟩) N cb))
  replace HOB := Lib.hid (own_set HOB.out q1 1 (by have := HLT.out; omega) (.slice (some ⟨gb, 0, none⟩) N cb))
  replace HB := Lib.hid (HB.out.setCell (p := ⟨q1, 1, none⟩) (by have := HLT.out; show w.heap.size ≤ q1; omega) (.slice (some ⟨gb, 0, none⟩) N cb))
  obtain ⟨wd, hwn⟩ : ∃ x, wc.setCell ⟨q1, 1, none⟩ (.slice (some ⟨gb, 0, none⟩) N cb) = x := ⟨_, rfl⟩
  rw [hwn] at HQ HB hnext HOA HOB ⊢
  clear hwn
  have HSD := Lib.hid (show gb < wd.heap.size from (HOB.out.lt gb rfl).2)
  refine hK.out _ _ (hnext) (fun hHeld2 => ?_)
  clear hK K hHeld
  have hHeld := hHeld2
  clear hHeld2
  try simp only [Act.put, List.setIfInBounds_toArray, List.set_cons_zero, List.set_cons_succ]
  refine wpAnyH_done (by kernel_rfl) ?_ _
  go_upto_region 3 with (fail)
  have HELD3 := Lib.hid hHeld
  clear hHeld
  refine wp_region_held_drew (S := (fun wx => Held q [.slice (some ⟨qd, 0, none⟩) N C1, .slice (some ⟨qr, 0, none⟩) N C2, .slice pa PL pc, .bool dn, .int .i64 (wn : Int), .int .i64 fl, .slice ma ML mc] wx)) (by kernel_rfl) ((HELD3.out.below (Below.refl _ _).drew)) (fun hHeld => ?_)
  have hb := (Below.refl wd.heap.size wd).drew
  obtain ⟨w3, hwn⟩ : ∃ x, wd.drew = x := ⟨_, rfl⟩
  rw [hwn] at hb
  replace HSD := Lib.hid (Nat.lt_of_lt_of_le HSD.out hb.size)
  replace HQ := Lib.hid (HQ.out.below hb)
  replace HB := Lib.hid (HB.out.trans (hb.mono HB.out.size))
  replace HOA := Lib.hid (own_below' HOA.out hb)
  replace HOB := Lib.hid (own_below' HOB.out hb)
  rw [hwn] at hHeld
  rw [hwn]
  clear hwn
  clear hb HELD3
  refine wpAnyH_take (i := 0) (oi := { dst := some 19, op := Go.Op.move (Go.Operand.tmp 0), type := 39, pos := "disk.go:162", after := #[], guard := none }) (v := ?v0_210101) rfl (by kernel_rfl) (by kernel_rfl) (by kernel_rfl) (fun _ _ _ h => h) (Or.inl ⟨by rfl, ?y0_210101⟩) hHeld ?r0_210101
  case y0_210101 => intro w hSw; (try dsimp only at hSw); go_simp; try with_reducible rfl
  try simp only [Act.put, List.setIfInBounds_toArray, List.set_cons_zero, List.set_cons_succ]
  refine wpAnyH_take (i := 1) (oi := { dst := some 20, op := Go.Op.nilCheck (Go.Operand.tmp 19), type := 0, pos := "disk.go:162", after := #[{ on := 0, ground := Go.Ground.data }], guard := none }) (v := ?v1_210101) rfl (by kernel_rfl) (by kernel_rfl) (by kernel_rfl) (fun _ _ _ h => h) (Or.inl ⟨by rfl, ?y1_210101⟩) hHeld ?r1_210101
  case y1_210101 => intro w hSw; (try dsimp only at hSw); go_simp; try with_reducible rfl
  try simp only [Act.put, List.setIfInBounds_toArray, List.set_cons_zero, List.set_cons_succ]
  refine wpAnyH_take (i := 2) (oi := { dst := some 21, op := Go.Op.fieldAddr 128 (Go.Operand.tmp 20) 2, type := 0, pos := "disk.go:162", after := #[{ on := 1, ground := Go.Ground.data }], guard := none }) (v := ?v2_210101) rfl (by kernel_rfl) (by kernel_rfl) (by kernel_rfl) (fun _ _ _ h => h) (Or.inl ⟨by rfl, ?y2_210101⟩) hHeld ?r2_210101
  case y2_210101 => intro w hSw; (try dsimp only at hSw); go_simp; try with_reducible rfl
  try simp only [Act.put, List.setIfInBounds_toArray, List.set_cons_zero, List.set_cons_succ]
  refine wpAnyH_take (i := 3) (oi := { dst := some 22, op := Go.Op.load 126 (Go.Operand.tmp 21), type := 126, pos := "disk.go:162", after := #[{ on := 2, ground := Go.Ground.data }], guard := none }) (v := ?v3_210101) rfl (by kernel_rfl) (by kernel_rfl) (by kernel_rfl) (fun _ _ _ h => h) (Or.inl ⟨by rfl, ?y3_210101⟩) hHeld ?r3_210101
  case y3_210101 => intro w hSw; (try dsimp only at hSw); obtain ⟨s0, s1, s2, -, -, -, s6⟩ := hSw.1.u7; go_simp; try with_reducible rfl
  try simp only [Act.put, List.setIfInBounds_toArray, List.set_cons_zero, List.set_cons_succ]
  refine wpAnyH_take (i := 5) (oi := { dst := some 24, op := Go.Op.move (Go.Operand.tmp 0), type := 39, pos := "disk.go:162", after := #[], guard := none }) (v := ?v5_210101) rfl (by kernel_rfl) (by kernel_rfl) (by kernel_rfl) (fun _ _ _ h => h) (Or.inl ⟨by rfl, ?y5_210101⟩) hHeld ?r5_210101
  case y5_210101 => intro w hSw; (try dsimp only at hSw); go_simp; try with_reducible rfl
  try simp only [Act.put, List.setIfInBounds_toArray, List.set_cons_zero, List.set_cons_succ]
  refine wpAnyH_take (i := 6) (oi := { dst := some 25, op := Go.Op.nilCheck (Go.Operand.tmp 24), type := 0, pos := "disk.go:162", after := #[{ on := 5, ground := Go.Ground.data }], guard := none }) (v := ?v6_210101) rfl (by kernel_rfl) (by kernel_rfl) (by kernel_rfl) (fun _ _ _ h => h) (Or.inl ⟨by rfl, ?y6_210101⟩) hHeld ?r6_210101
  case y6_210101 => intro w hSw; (try dsimp only at hSw); go_simp; try with_reducible rfl
  try simp only [Act.put, List.setIfInBounds_toArray, List.set_cons_zero, List.set_cons_succ]
  refine wpAnyH_take (i := 7) (oi := { dst := some 26, op := Go.Op.fieldAddr 128 (Go.Operand.tmp 25) 6, type := 0, pos := "disk.go:162", after := #[{ on := 6, ground := Go.Ground.data }], guard := none }) (v := ?v7_210101) rfl (by kernel_rfl) (by kernel_rfl) (by kernel_rfl) (fun _ _ _ h => h) (Or.inl ⟨by rfl, ?y7_210101⟩) hHeld ?r7_210101
  case y7_210101 => intro w hSw; (try dsimp only at hSw); go_simp; try with_reducible rfl
  try simp only [Act.put, List.setIfInBounds_toArray, List.set_cons_zero, List.set_cons_succ]
  refine wpAnyH_take (i := 8) (oi := { dst := some 27, op := Go.Op.load 25 (Go.Operand.tmp 26), type := 25, pos := "disk.go:162", after := #[{ on := 7, ground := Go.Ground.data }], guard := none }) (v := ?v8_210101) rfl (by kernel_rfl) (by kernel_rfl) (by kernel_rfl) (fun _ _ _ h => h) (Or.inl ⟨by rfl, ?y8_210101⟩) hHeld ?r8_210101
  case y8_210101 => intro w hSw; (try dsimp only at hSw); obtain ⟨s0, s1, s2, -, -, -, s6⟩ := hSw.1.u7; go_simp; try with_reducible rfl
  try simp only [Act.put, List.setIfInBounds_toArray, List.set_cons_zero, List.set_cons_succ]
  refine wpAnyH_ready (rs := [4]) (by kernel_rfl) (by simp) ?_
  refine AllReadyH.cons (o := { dst := some 23, op := Go.Op.call { callee := Go.Callee.value (Go.Operand.func 70), args := #[Go.Operand.tmp 22], argTypes := #[126] }, type := 126, pos := "disk.go:162", after := #[{ on := 3, ground := Go.Ground.data }], guard := none }) rfl (fun K hK => ?_) AllReadyH.nil
  go_simp
  refine (cloneWr 0 (.slice pa PL pc) PL (flatP s.P) w3 (own_below' HP.out HB.out) (flatP_one _) HPL.out).mono ?_; rintro e we ⟨vp, rfl, hop, hb⟩
  obtain ⟨ap, cp, rfl, -, -⟩ := cellsK_own hop
  have HOP := Lib.hid (own_base hop (show gb + 1 ≤ w3.heap.size from HSD.out))
  have hnext := hHeld.below hb
  replace HQ := Lib.hid (HQ.out.below hb)
  replace HB := Lib.hid (HB.out.trans (hb.mono HB.out.size))
  replace HOA := Lib.hid (own_below' HOA.out hb)
  replace HOB := Lib.hid (own_below' HOB.out hb)
  clear hop hb
  refine hK.out _ _ (hnext) (fun hHeld2 => ?_)
  clear hK K hHeld
  have hHeld := hHeld2
  clear hHeld2
  try simp only [Act.put, List.setIfInBounds_toArray, List.set_cons_zero, List.set_cons_succ]
  refine wpAnyH_ready (rs := [9]) (by kernel_rfl) (by simp) ?_
  refine AllReadyH.cons (o := { dst := some 28, op := Go.Op.call { callee := Go.Callee.value (Go.Operand.func 71), args := #[Go.Operand.tmp 27], argTypes := #[25] }, type := 25, pos := "disk.go:162", after := #[{ on := 8, ground := Go.Ground.data }, { on := 4, ground := Go.Ground.chain }], guard := none }) rfl (fun K hK => ?_) AllReadyH.nil
  go_simp
  refine (clone_val ma ML mc s.mask we (HM.out.below HB.out) HML.out).mono ?_; rintro e wf ⟨vm, rfl, hom, hb⟩
  obtain ⟨am, cm, rfl, -⟩ := cells_own hom
  have HOM := Lib.hid hom
  have HLP := Lib.hid (HOP.out.lt)
  have HMS := Lib.hid (show gb + 1 ≤ we.heap.size from by have := (HOB.out.lt gb rfl).2; omega)
  have hnext := hHeld.below hb
  replace HQ := Lib.hid (HQ.out.below hb)
  replace HB := Lib.hid (HB.out.trans (hb.mono HB.out.size))
  replace HOA := Lib.hid (own_below' HOA.out hb)
  replace HOB := Lib.hid (own_below' HOB.out hb)
  replace HOP := Lib.hid (own_below' HOP.out hb)
  clear hom hb
  refine hK.out _ _ (hnext) (fun hHeld2 => ?_)
  clear hK K hHeld
  have hHeld := hHeld2
  clear hHeld2
  try simp only [Act.put, List.setIfInBounds_toArray, List.set_cons_zero, List.set_cons_succ]
  refine wpAnyH_take (i := 10) (oi := { dst := some 29, op := Go.Op.fieldAddr 128 (Go.Operand.tmp 3) 2, type := 0, pos := "disk.go:162", after := #[{ on := 0, ground := Go.Ground.phase }, { on := 1, ground := Go.Ground.phase }, { on := 2, ground := Go.Ground.phase }, { on := 3, ground := Go.Ground.phase }, { on := 4, ground := Go.Ground.phase }, { on := 5, ground := Go.Ground.textOnly Go.Departure.lateStores }, { on := 6, ground := Go.Ground.textOnly Go.Departure.lateStoresUnsure }, { on := 7, ground := Go.Ground.textOnly Go.Departure.lateStoresUnsure }, { on := 8, ground := Go.Ground.phase }, { on := 9, ground := Go.Ground.phase }], guard := none }) (v := ?v10_210103) rfl (by kernel_rfl) (by kernel_rfl) (by kernel_rfl) (fun _ _ _ h => h) (Or.inl ⟨by rfl, ?y10_210103⟩) hHeld ?r10_210103
  case y10_210103 => intro w hSw; (try dsimp only at hSw); go_simp; try with_reducible rfl
  try simp only [Act.put, List.setIfInBounds_toArray, List.set_cons_zero, List.set_cons_succ]
  refine wpAnyH_ready (rs := [11]) (by kernel_rfl) (by simp) ?_
  refine AllReadyH.cons (o := { dst := none, op := Go.Op.store 126 (Go.Operand.tmp 29) (Go.Operand.tmp 23), type := 0, pos := "disk.go:162", after := #[{ on := 10, ground := Go.Ground.data }, { on := 4, ground := Go.Ground.data }, { on := 9, ground := Go.Ground.chain }, { on := 0, ground := Go.Ground.phase }, { on := 1, ground := Go.Ground.phase }, { on := 2, ground := Go.Ground.phase }, { on := 3, ground := Go.Ground.phase }, { on := 4, ground := Go.Ground.phase }, { on := 5, ground := Go.Ground.textOnly Go.Departure.lateStores }, { on := 6, ground := Go.Ground.textOnly Go.Departure.lateStoresUnsure }, { on := 7, ground := Go.Ground.textOnly Go.Departure.lateStoresUnsure }, { on := 8, ground := Go.Ground.phase }, { on := 9, ground := Go.Ground.phase }], guard := none }) rfl (fun K hK => ?_) AllReadyH.nil
  obtain ⟨k0, k1, k2, -, -, -, k6⟩ := HQ.out.1.u7
  have kf := HQ.out.1.fr 2 (by decide)
  go_simp
  clear k0 k1 k2 k6 kf
  have hnext := hHeld.other (i := 2) (show q ≠ q1 by have := HLT.out; omega) (.slice ap PL cp)
  replace HQ := Lib.hid (show Held q1 [.slice (some ⟨ga, 0, none⟩) N ca, .slice (some ⟨gb, 0, none⟩) N cb, .slice ap PL cp, .bool dn, .int .i64 (wn : Int), .int .i64 fl, .slice ma ML mc] (wf.setCell ⟨q1, 2, none⟩ (.slice ap PL cp)) from HQ.out.set (i := 2) (by simp) (.slice ap PL cp))
  replace HOA := Lib.hid (own_set HOA.out q1 2 (by have := HLT.out; omega) (.slice ap PL cp))
  replace HOB := Lib.hid (own_set HOB.out q1 2 (by have := HLT.out; omega) (.slice ap PL cp))
  replace HOP := Lib.hid (own_set HOP.out q1 2 (by have := HLT.out; have := HGB.out; omega) (.slice ap PL cp))
  replace HOM := Lib.hid (own_set HOM.out q1 2 (by have := HMS.out; have := HGB.out; omega) (.slice ap PL cp))
  replace HB := Lib.hid (HB.out.setCell (p := ⟨q1, 2, none⟩) (by have := HLT.out; show w.heap.size ≤ q1; omega) (.slice ap PL cp))
  obtain ⟨wg, hwn⟩ : ∃ x, wf.setCell ⟨q1, 2, none⟩ (.slice ap PL cp) = x := ⟨_, rfl⟩
  rw [hwn] at HQ HB hnext HOA HOB HOP HOM ⊢
  clear hwn
  refine hK.out _ _ (hnext) (fun hHeld2 => ?_)
  clear hK K hHeld
  have hHeld := hHeld2
  clear hHeld2
  try simp only [Act.put, List.setIfInBounds_toArray, List.set_cons_zero, List.set_cons_succ]
  refine wpAnyH_take (i := 12) (oi := { dst := some 30, op := Go.Op.fieldAddr 128 (Go.Operand.tmp 3) 6, type := 0, pos := "disk.go:162", after := #[{ on := 0, ground := Go.Ground.phase }, { on := 1, ground := Go.Ground.phase }, { on := 2, ground := Go.Ground.phase }, { on := 3, ground := Go.Ground.phase }, { on := 4, ground := Go.Ground.phase }, { on := 5, ground := Go.Ground.phase }, { on := 6, ground := Go.Ground.phase }, { on := 7, ground := Go.Ground.phase }, { on := 8, ground := Go.Ground.phase }, { on := 9, ground := Go.Ground.phase }, { on := 10, ground := Go.Ground.phase }, { on := 11, ground := Go.Ground.phase }], guard := none }) (v := ?v12_210104) rfl (by kernel_rfl) (by kernel_rfl) (by kernel_rfl) (fun _ _ _ h => h) (Or.inl ⟨by rfl, ?y12_210104⟩) hHeld ?r12_210104
  case y12_210104 => intro w hSw; (try dsimp only at hSw); go_simp; try with_reducible rfl
  try simp only [Act.put, List.setIfInBounds_toArray, List.set_cons_zero, List.set_cons_succ]
  refine wpAnyH_ready (rs := [13]) (by kernel_rfl) (by simp) ?_
  refine AllReadyH.cons (o := { dst := none, op := Go.Op.store 25 (Go.Operand.tmp 30) (Go.Operand.tmp 28), type := 0, pos := "disk.go:162", after := #[{ on := 12, ground := Go.Ground.data }, { on := 9, ground := Go.Ground.data }, { on := 11, ground := Go.Ground.chain }, { on := 0, ground := Go.Ground.phase }, { on := 1, ground := Go.Ground.phase }, { on := 2, ground := Go.Ground.phase }, { on := 3, ground := Go.Ground.phase }, { on := 4, ground := Go.Ground.phase }, { on := 5, ground := Go.Ground.phase }, { on := 6, ground := Go.Ground.phase }, { on := 7, ground := Go.Ground.phase }, { on := 8, ground := Go.Ground.phase }, { on := 9, ground := Go.Ground.phase }, { on := 10, ground := Go.Ground.phase }, { on := 11, ground := Go.Ground.phase }], guard := none }) rfl (fun K hK => ?_) AllReadyH.nil
  obtain ⟨k0, k1, k2, -, -, -, k6⟩ := HQ.out.1.u7
  have kf := HQ.out.1.fr 6 (by decide)
  go_simp
  clear k0 k1 k2 k6 kf
  have hnext := hHeld.other (i := 6) (show q ≠ q1 by have := HLT.out; omega) (.slice am ML cm)
  replace HQ := Lib.hid (show Held q1 [.slice (some ⟨ga, 0, none⟩) N ca, .slice (some ⟨gb, 0, none⟩) N cb, .slice ap PL cp, .bool dn, .int .i64 (wn : Int), .int .i64 fl, .slice am ML cm] (wg.setCell ⟨q1, 6, none⟩ (.slice am ML cm)) from HQ.out.set (i := 6) (by simp) (.slice am ML cm))
  replace HOA := Lib.hid (own_set HOA.out q1 6 (by have := HLT.out; omega) (.slice am ML cm))
  replace HOB := Lib.hid (own_set HOB.out q1 6 (by have := HLT.out; omega) (.slice am ML cm))
  replace HOP := Lib.hid (own_set HOP.out q1 6 (by have := HLT.out; have := HGB.out; omega) (.slice am ML cm))
  replace HOM := Lib.hid (own_set HOM.out q1 6 (by have := HMS.out; have := HGB.out; omega) (.slice am ML cm))
  replace HB := Lib.hid (HB.out.setCell (p := ⟨q1, 6, none⟩) (by have := HLT.out; show w.heap.size ≤ q1; omega) (.slice am ML cm))
  obtain ⟨wh, hwn⟩ : ∃ x, wg.setCell ⟨q1, 6, none⟩ (.slice am ML cm) = x := ⟨_, rfl⟩
  rw [hwn] at HQ HB hnext HOA HOB HOP HOM ⊢
  clear hwn
  refine hK.out _ _ (hnext) (fun hHeld2 => ?_)
  clear hK K hHeld
  have hHeld := hHeld2
  clear hHeld2
  try simp only [Act.put, List.setIfInBounds_toArray, List.set_cons_zero, List.set_cons_succ]
  refine wpAnyH_done (by kernel_rfl) ?_ _
  go_wp2
  obtain ⟨bs', h1, h2⟩ := copy_dk (s := s) HW.out (by rw [HNE.out.1, HNE.out.2.2.2.1, HNE.out.2.2.2.2.1, HNE.out.2.2.2.2.2]; exact HQ.out) (by rw [HNE.out.1]; exact HOA.out) (by rw [HNE.out.1]; exact HOB.out) (by rw [HNE.out.2.1]; exact HOP.out) (by rw [HNE.out.2.2.1]; exact HOM.out) HGB.out.1 HGB.out.2.1 (Nat.lt_succ_self gb) (fun g hg => (HLP.out g hg).2) HMS.out
  go_ret
  exact ⟨q1, bs', ca, cb, rfl, h1, fun x hx => Nat.le_trans (Nat.le_of_eq HLT.out.1) (h2 x hx), HB.out⟩
end Go.Proofs.Ytocfphijheidbaa
