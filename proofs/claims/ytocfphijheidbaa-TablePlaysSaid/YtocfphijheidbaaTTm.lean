/- The walk of TableTimes (written by mkttm.py). -/
import Derived.Test.YtocfphijheidbaaTbI
import Derived.Test.YtocfphijheidbaaAppI
namespace Go.Proofs.Ytocfphijheidbaa
open Go.RowKit

theorem step_store_mid {ops : Array Oper} {op : Oper} {a : Act} {w : World} {K : Act → World → Prop} {Q : Exit → Act → World → Prop} {E : Prop} (hgd : op.guard = none) (ty : TypeId) (x y : Operand) (ho : op.op = .store ty x y)
    (b o : Nat) (cells : Array Value) (hx : a.eval x = .pointer (some ⟨b, o, none⟩)) (hy : a.eval y = .agg cells)
    (ht : w.there b o cells.size) (hi : (Try.prog.info? ty).map (·.size) = some cells.size) (h1 : cells.all (·.oneCell') = true)
    (h : K (a.put op.dst undef) (w.setCells b o cells.toList)) : if Region.wanted op (yielded ops a.tmps) = true then Oper.wp Try.prog op a w K Q else E := by
  have hw : Region.wanted op (yielded ops a.tmps) = true := by simp [Region.wanted, hgd]
  rw [if_pos hw]
  exact wp_store_mid ty x y ho b o cells hx hy ht hi h1 h
theorem Frm.cellT {w w' : World} {bs : List Nat} (hf : Frm w w' bs) {a : Addr} {v : Value} (h : w.cell? a = some v) (ha : a.block ∉ bs) : w'.cell? a = some v :=
  (World.cell?_of_block (hf.block a.block (block_lt_of_cell (w := w) (a := a) h) ha)).trans h
theorem HeldT.frm {q : Nat} {cs : List Value} {w w' : World} {bs : List Nat} (h : HeldT q cs w) (hf : Frm w w' bs) (hq : q ∉ bs) : HeldT q cs w' := ⟨h.1.kept (hf.block q h.2 hq), Nat.lt_of_lt_of_le h.2 hf.size⟩
theorem HeldT.into {q : Nat} {zs cs : List Value} {w : World} (h : HeldT q zs w) (hl : zs.length = cs.length) : HeldT q cs (w.setCells q 0 cs) := by
  have ht : w.there q 0 cs.length := fun j hj => by
    obtain ⟨u, hu⟩ : ∃ u, zs[j]? = some u := ⟨_, List.getElem?_eq_getElem (by omega)⟩
    obtain ⟨h1, h2⟩ := h.1 j u hu
    rw [Nat.zero_add]
    exact ⟨by rw [h1]; rfl, h2⟩
  have hr := World.rangeAt_setCells_same w q 0 cs ht
  refine ⟨fun j c hj => ⟨by have := hr j c hj; rwa [Nat.zero_add] at this, ?_⟩, by rw [setCells_size]; exact h.2⟩
  rw [World.frozen?_setCells]
  obtain ⟨u, hu⟩ : ∃ u, zs[j]? = some u := ⟨_, List.getElem?_eq_getElem (by have := (List.getElem?_eq_some_iff.1 hj).1; omega)⟩
  exact (h.1 j u hu).2
theorem qs_neq (n : ByteArray) (t c : Int) (W : World) : (binOp .neq 66 (.agg #[.string n, .int .i64 t, .int .i64 c]) (.agg #[.string n, .int .i64 t, .int .i64 c])).run Try.prog W = .ok (.bool false) W := by
  have u3 := Try.underlying3
  have a3 := Try.isAgg3
  have z3 := Try.sizeOf3
  have u9 := Try.underlying9
  have a9 := Try.isAgg9
  have z9 := Try.sizeOf9
  have hS : Try.prog.underlying 66 = some (.struct (Try.prog.fieldsOf 66)) := by
    simp [Program.fieldsOf, Try.underlying66]
  rw [run_neq_struct, show (10000 : Nat) = 9999 + 1 from rfl, run_equalIn_agg W 9999 66 _ _ hS (by kernel_rfl)]
  simp only [Program.fieldsOf, Try.underlying66]
  go_simp
set_option maxRecDepth 100000 in
set_option maxHeartbeats 16000000 in
theorem walkTimes (seed : Int) (ja : Option Addr) (jn jc : Nat) (J : List Int) (now drop later : Int) (w : World) (hJ : Row w ja jn J) (lJ : jn ≤ 9223372036854775807) :
    Calls Try.prog 11 #[.int .i64 seed, .slice ja jn jc, .int .i64 now, .int .i64 drop, .int .i64 later] w fun e w' => e = .returned (.bool true) ∧ Below w.heap.size w w' := by
  have HJ := Lib.hid hJ
  have HLJ := Lib.hid lJ
  clear hJ
  go_enter Try.func11, Try.ntmps11
  go_wp2_with fail
  refine (first20 w).mono ?_; rintro e w1 ⟨rfl, hb1⟩
  have HB1 := Lib.hid hb1
  clear hb1
  by_cases hs : seed < 0
  · go_wp2_with fail
    refine (newT_no seed 200 w1 (Or.inl hs)).mono ?_; rintro e w2 ⟨rfl, rfl⟩
    clear hs
    go_wp2_with fail
    refine (first20 w1).mono ?_; rintro e wz ⟨rfl, hbz⟩
    have HBZ := Lib.hid (HB1.out.trans (hbz.mono HB1.out.size))
    clear hbz
    go_wp2
    go_ret
    exact ⟨rfl, HBZ.out⟩
  · go_wp2_with fail
    refine (newT_yes seed 200 w1 ⟨by omega, by decide, by decide⟩).mono ?_; rintro e w2 ⟨q, rfl, ht2, hq2, hb2⟩
    have HO2 := Lib.hid (show OneT w w2 q [q] ⟨200, seed % 4294967296, []⟩ from ⟨ht2, fun x hx => by simp at hx; have := HB1.out.size; omega, HB1.out.trans (hb2.mono HB1.out.size)⟩)
    clear ht2 hq2 hb2 hs
    go_upto_region 4 with (fail)
    by_cases hbig : 100 < jn ∨ now < 0 ∨ 1073741824 < now ∨ later < 0 ∨ 1073741824 < later
    · have hd : (decide ((100 : Int) < (jn : Int)) = true) ∨ (decide ((100 : Int) < (jn : Int)) = false ∧ decide (now < 0) = true) ∨ (decide ((100 : Int) < (jn : Int)) = false ∧ decide (now < 0) = false ∧ decide (1073741824 < now) = true) ∨ (decide ((100 : Int) < (jn : Int)) = false ∧ decide (now < 0) = false ∧ decide (1073741824 < now) = false ∧ decide (later < 0) = true) ∨ (decide ((100 : Int) < (jn : Int)) = false ∧ decide (now < 0) = false ∧ decide (1073741824 < now) = false ∧ decide (later < 0) = false ∧ decide (1073741824 < later) = true) := by
        simp only [decide_eq_true_eq, decide_eq_false_iff_not]
        omega
      clear hbig lJ
      rcases hd with d1 | ⟨d1, d2⟩ | ⟨d1, d2, d3⟩ | ⟨d1, d2, d3, d4⟩ | ⟨d1, d2, d3, d4, d5⟩
      all_goals
      go_wp2_with fail
      refine (first20 w2).mono ?_; rintro e wz ⟨rfl, hbz⟩
      have HBZ := Lib.hid (HO2.out.bel.trans (hbz.mono HO2.out.bel.size))
      clear hbz
      go_wp2
      go_ret
      exact ⟨rfl, HBZ.out⟩
    · have d1 : decide ((100 : Int) < (jn : Int)) = false := dF (by omega)
      have d2 : decide (now < 0) = false := dF (by omega)
      have d3 : decide (1073741824 < now) = false := dF (by omega)
      have d4 : decide (later < 0) = false := dF (by omega)
      have d5 : decide (1073741824 < later) = false := dF (by omega)
      have HNN := Lib.hid (show jn ≤ 100 ∧ (0 ≤ now ∧ now ≤ 1073741824) ∧ 0 ≤ later ∧ later ≤ 1073741824 from ⟨by omega, ⟨by omega, by omega⟩, by omega, by omega⟩)
      clear hbig lJ
      have hba := (Below.refl w2.heap.size w2).alloc (Nat.le_refl _) (.cells #[.string ⟨#[0]⟩, .int .i64 1, .int .i64 1] 66)
      have HQ0 := Lib.hid (HeldT.new w2 #[.string ⟨#[0]⟩, .int .i64 1, .int .i64 1] 66)
      have HO3 := Lib.hid (HO2.out.below hba)
      have HG0 := Lib.hid (show w2.heap.size ∉ [q] from fun e => by have := HO2.out.tb.lt _ e; omega)
      obtain ⟨w3, hw3⟩ : ∃ z, w2.alloc (.cells #[.string ⟨#[0]⟩, .int .i64 1, .int .i64 1] 66) = z := ⟨_, rfl⟩
      obtain ⟨gq, hgq⟩ : ∃ z, w2.heap.size = z := ⟨_, rfl⟩
      rw [hw3] at HQ0 HO3
      rw [hgq] at HQ0 HG0
      have HW3 := Lib.hid hw3
      have HGQ := Lib.hid hgq
      clear hba hw3 hgq HO2
      go_upto_region 7 with (fail)
      rw [HW3.out, HGQ.out]
      clear HW3 HGQ d1 d2 d3 d4 d5
      go_wp2_with fail
      go_loopw [14] (fun i wr => ∃ (t : Nat) (ws : List WtP) (x : Int) (c : List Nat), t ≤ jn ∧ i = .int .i64 t ∧ Hid (OneT w wr q c ⟨200, x, ws⟩) ∧ Hid (Wok ws J now t) ∧ Hid (HeldT gq [.string ⟨#[0]⟩, .int .i64 1, .int .i64 1] wr) ∧ Hid (gq ∉ c)) (fun i _ => jn - (intOf i).toNat)
      case atStart => exact ⟨0, [], _, [q], Nat.zero_le _, rfl, HO3, Lib.hid rfl, HQ0, HG0⟩
      case round =>
        obtain ⟨t, ws, x, c, ht, rfl, HO, HWK, HQ, HGC⟩ := hrel
        clear HO3 HQ0 HG0
        have hj100 := HNN.out.1
        by_cases hlt : t < jn
        · have dd : decide ((t : Int) < (jn : Int)) = true := dT (by omega)
          have dn : decide (t < jn) = true := dT hlt
          rcases HJ.out.2 with h0 | ⟨jb, jo, rfl, hjb, hjc⟩
          · omega
          obtain ⟨jv, hjv⟩ : ∃ z, J.getD t 0 = z := ⟨_, rfl⟩
          have cj := cell_later HO.out.bel (hjc t hlt)
          rw [hjv] at cj
          have HJV := Lib.hid hjv
          have HJB := Lib.hid hjb
          have HLT := Lib.hid hlt
          obtain ⟨ni, hni⟩ : ∃ z, now + (t : Int) = z := ⟨_, rfl⟩
          have HNI := Lib.hid hni
          have hnb := HNN.out
          have wn : IntKind.i64.wrap (now + (t : Int)) = ni := by rw [IntKind.wrap_i64]; omega
          obtain ⟨nu, hnu⟩ : ∃ z, ni + 3 = z := ⟨_, rfl⟩
          have HNU := Lib.hid hnu
          have wu : IntKind.i64.wrap (ni + 3) = nu := by rw [IntKind.wrap_i64]; omega
          have HWL := Lib.hid (show ws.length ≤ 100 from by rw [HWK.out.len]; have := HNN.out.1; omega)
          have i1 : (0 : Int) ≤ (t : Int) := by omega
          have i2 : (t : Int) < (jn : Int) := by omega
          clear hjc hjb hjv hni hnu hnb hlt ht
          go_upto_region 10 with (fail)
          refine wp_region_held_drew (S := (fun wx => wx.cell? ⟨jb, jo + t, none⟩ = some (.int .i64 jv) ∧ HeldT gq [.string ⟨#[0]⟩, .int .i64 1, .int .i64 1] wx)) (by kernel_rfl) (⟨cj, HQ.out.below (Below.refl _ _).drew⟩) (fun hHeld => ?_)
          have hb := (Below.refl wr.heap.size wr).drew
          replace HO := Lib.hid (HO.out.below hb)
          obtain ⟨wd, hwd⟩ : ∃ z, wr.drew = z := ⟨_, rfl⟩
          rw [hwd] at HO hHeld ⊢
          clear hwd hb cj HQ
          refine wpAnyH_take (i := 0) (oi := { dst := some 73, op := Go.Op.move (Go.Operand.tmp 11), type := 59, pos := "extra.go:19", after := #[], guard := none }) (v := ?v0_290101) rfl (by kernel_rfl) (by kernel_rfl) (by kernel_rfl) (fun _ _ _ h => h) (Or.inl ⟨by rfl, ?y0_290101⟩) hHeld ?r0_290101
          case y0_290101 => intro w hSw; (try dsimp only at hSw); go_simp; try with_reducible rfl
          try simp only [Act.put, List.setIfInBounds_toArray, List.set_cons_zero, List.set_cons_succ]
          refine wpAnyH_take (i := 1) (oi := { dst := some 74, op := Go.Op.move (Go.Operand.tmp 2), type := 3, pos := "extra.go:19", after := #[], guard := none }) (v := ?v1_290101) rfl (by kernel_rfl) (by kernel_rfl) (by kernel_rfl) (fun _ _ _ h => h) (Or.inl ⟨by rfl, ?y1_290101⟩) hHeld ?r1_290101
          case y1_290101 => intro w hSw; (try dsimp only at hSw); go_simp; try with_reducible rfl
          try simp only [Act.put, List.setIfInBounds_toArray, List.set_cons_zero, List.set_cons_succ]
          refine wpAnyH_take (i := 2) (oi := { dst := some 75, op := Go.Op.move (Go.Operand.tmp 14), type := 3, pos := "extra.go:19", after := #[], guard := none }) (v := ?v2_290101) rfl (by kernel_rfl) (by kernel_rfl) (by kernel_rfl) (fun _ _ _ h => h) (Or.inl ⟨by rfl, ?y2_290101⟩) hHeld ?r2_290101
          case y2_290101 => intro w hSw; (try dsimp only at hSw); go_simp; try with_reducible rfl
          try simp only [Act.put, List.setIfInBounds_toArray, List.set_cons_zero, List.set_cons_succ]
          refine wpAnyH_take (i := 3) (oi := { dst := some 76, op := Go.Op.binOp Go.BinOp.add 3 (Go.Operand.tmp 74) (Go.Operand.tmp 75) 3, type := 3, pos := "extra.go:19", after := #[{ on := 1, ground := Go.Ground.data }, { on := 2, ground := Go.Ground.data }], guard := none }) (v := ?v3_290101) rfl (by kernel_rfl) (by kernel_rfl) (by kernel_rfl) (fun _ _ _ h => h) (Or.inl ⟨by rfl, ?y3_290101⟩) hHeld ?r3_290101
          case y3_290101 => intro w hSw; (try dsimp only at hSw); go_simp; try with_reducible rfl
          try simp only [Act.put, List.setIfInBounds_toArray, List.set_cons_zero, List.set_cons_succ]
          refine wpAnyH_take (i := 4) (oi := { dst := some 77, op := Go.Op.move (Go.Operand.tmp 1), type := 67, pos := "extra.go:19", after := #[], guard := none }) (v := ?v4_290101) rfl (by kernel_rfl) (by kernel_rfl) (by kernel_rfl) (fun _ _ _ h => h) (Or.inl ⟨by rfl, ?y4_290101⟩) hHeld ?r4_290101
          case y4_290101 => intro w hSw; (try dsimp only at hSw); go_simp; try with_reducible rfl
          try simp only [Act.put, List.setIfInBounds_toArray, List.set_cons_zero, List.set_cons_succ]
          refine wpAnyH_take (i := 5) (oi := { dst := some 78, op := Go.Op.move (Go.Operand.tmp 14), type := 3, pos := "extra.go:19", after := #[], guard := none }) (v := ?v5_290101) rfl (by kernel_rfl) (by kernel_rfl) (by kernel_rfl) (fun _ _ _ h => h) (Or.inl ⟨by rfl, ?y5_290101⟩) hHeld ?r5_290101
          case y5_290101 => intro w hSw; (try dsimp only at hSw); go_simp; try with_reducible rfl
          try simp only [Act.put, List.setIfInBounds_toArray, List.set_cons_zero, List.set_cons_succ]
          refine wpAnyH_take (i := 6) (oi := { dst := some 79, op := Go.Op.indexAddr 67 (Go.Operand.tmp 77) (Go.Operand.tmp 78), type := 0, pos := "extra.go:19", after := #[{ on := 4, ground := Go.Ground.data }, { on := 5, ground := Go.Ground.data }], guard := none }) (v := ?v6_290101) rfl (by kernel_rfl) (by kernel_rfl) (by kernel_rfl) (fun _ _ _ h => h) (Or.inl ⟨by rfl, ?y6_290101⟩) hHeld ?r6_290101
          case y6_290101 => intro w hSw; (try dsimp only at hSw); go_simp; try with_reducible rfl
          try simp only [Act.put, List.setIfInBounds_toArray, List.set_cons_zero, List.set_cons_succ]
          refine wpAnyH_take (i := 7) (oi := { dst := some 80, op := Go.Op.load 3 (Go.Operand.tmp 79), type := 3, pos := "extra.go:19", after := #[{ on := 6, ground := Go.Ground.data }], guard := none }) (v := ?v7_290101) rfl (by kernel_rfl) (by kernel_rfl) (by kernel_rfl) (fun _ _ _ h => h) (Or.inl ⟨by rfl, ?y7_290101⟩) hHeld ?r7_290101
          case y7_290101 => intro w hSw; (try dsimp only at hSw); obtain ⟨s1, s2⟩ := hSw; have t0 := (s2.1 0 _ rfl).1; have t1 := (s2.1 1 _ rfl).1; have t2 := (s2.1 2 _ rfl).1; clear s2; go_simp; try with_reducible rfl
          try simp only [Act.put, List.setIfInBounds_toArray, List.set_cons_zero, List.set_cons_succ]
          refine wpAnyH_take (i := 8) (oi := { dst := some 81, op := Go.Op.load 66 (Go.Operand.tmp 13), type := 66, pos := "extra.go:19", after := #[], guard := none }) (v := ?v8_290101) rfl (by kernel_rfl) (by kernel_rfl) (by kernel_rfl) (fun _ _ _ h => h) (Or.inl ⟨by rfl, ?y8_290101⟩) hHeld ?r8_290101
          case y8_290101 => intro w hSw; (try dsimp only at hSw); obtain ⟨s1, s2⟩ := hSw; have t0 := (s2.1 0 _ rfl).1; have t1 := (s2.1 1 _ rfl).1; have t2 := (s2.1 2 _ rfl).1; clear s2; go_simp; try with_reducible rfl
          try simp only [Act.put, List.setIfInBounds_toArray, List.set_cons_zero, List.set_cons_succ]
          refine wpAnyH_ready (rs := [9, 13]) (by kernel_rfl) (by simp) ?_
          refine AllReadyH.cons (o := { dst := some 82, op := Go.Op.call { callee := Go.Callee.value (Go.Operand.func 43), args := #[Go.Operand.tmp 73, Go.Operand.tmp 76, Go.Operand.tmp 80, Go.Operand.const (Go.Value.string { data := #[115] }), Go.Operand.const (Go.Value.bool false), Go.Operand.tmp 81], argTypes := #[59, 3, 3, 9, 4, 66] }, type := 80, pos := "extra.go:19", after := #[{ on := 0, ground := Go.Ground.data }, { on := 3, ground := Go.Ground.data }, { on := 7, ground := Go.Ground.data }, { on := 8, ground := Go.Ground.data }], guard := none }) rfl (fun K hK => ?_) (AllReadyH.cons (o := { dst := some 15, op := Go.Op.alloc 79, type := 0, pos := "extra.go:19", after := #[], guard := none }) rfl (fun K hK => ?_) AllReadyH.nil)
          · go_simp
            refine (open_yes c q ⟨200, x, ws⟩ ni jv ⟨#[115]⟩ false ⟨#[0]⟩ 1 1 wd HO.out.tb (by have := HWL.out; show ws.length ≤ 5000; omega) (by have := HWL.out; show (ws.length : Int) < 200; omega) (by have := HNN.out; have := HNI.out; have := HLT.out; omega)).mono ?_; rintro e we ⟨rfl, ⟨c2, hs2, hc2⟩, hf2⟩
            have hnext := And.intro (hf2.cellT hHeld.1 (fun e => by have := HO.out.g jb e; have := HJB.out; omega)) (hHeld.2.frm hf2 HGC.out)
            have HGC2 := Lib.hid (show gq ∉ c2 from fun e => by rcases hc2 gq e with h1 | h1; exact HGC.out h1; exact absurd hHeld.2.2 (Nat.not_lt_of_le h1))
            have HO2 := Lib.hid (HO.out.put hs2 hc2 hf2 (fun x h => h))
            obtain ⟨ID, hID⟩ : ∃ z, seekI ws (portD x) ⟨#[115]⟩ false (ws.length + 1) (outD x) = z := ⟨_, rfl⟩
            have HIDI := Lib.hid (show 0 ≤ ID ∧ ID < 65536 from by rw [← hID]; exact seek_in _ _ (outD_in x))
            obtain ⟨PO, hPO⟩ : ∃ z, portD x = z := ⟨_, rfl⟩
            rw [hPO] at hID
            have HPOI := Lib.hid (show 1024 ≤ PO ∧ PO < 65536 from by rw [← hPO]; exact portD_in x)
            have hr : openW ⟨200, x, ws⟩ ni jv ⟨#[115]⟩ false ⟨⟨#[0]⟩, 1, 1⟩ = ⟨⟨ID, PO, ⟨#[115]⟩, false⟩, ⟨⟨#[0]⟩, 1, 1⟩, jv, nu⟩ := by rw [openW, hPO, hID, HNU.out]
            rw [hr, show (encW ⟨⟨ID, PO, ⟨#[115]⟩, false⟩, ⟨⟨#[0]⟩, 1, 1⟩, jv, nu⟩).toArray = #[.int .i64 ID, .int .i64 PO, .string ⟨#[115]⟩, .bool false, .string ⟨#[0]⟩, .int .i64 1, .int .i64 1, .int .i64 jv, .int .i64 nu] from rfl]
            rw [openP, hr] at HO2
            have HWK2 := Lib.hid (HWK.out.more ⟨⟨ID, PO, ⟨#[115]⟩, false⟩, ⟨⟨#[0]⟩, 1, 1⟩, jv, nu⟩ HJV.out.symm (by show nu = _; rw [← HNU.out, ← HNI.out]))
            clear hr hID hPO hs2 hc2 hf2 HO HGC HWK
            refine hK.out _ _ (hnext) (fun hHeld2 => ?_)
            clear hK K hHeld
            have hHeld := hHeld2
            clear hHeld2
            try simp only [Act.put, List.setIfInBounds_toArray, List.set_cons_zero, List.set_cons_succ]
            refine wpAnyH_take (i := 10) (oi := { dst := some 72, op := Go.Op.move (Go.Operand.tmp 82), type := 80, pos := "extra.go:19", after := #[{ on := 9, ground := Go.Ground.data }], guard := none }) (v := ?v10_290102) rfl (by kernel_rfl) (by kernel_rfl) (by kernel_rfl) (fun _ _ _ h => h) (Or.inl ⟨by rfl, ?y10_290102⟩) hHeld ?r10_290102
            case y10_290102 => intro w hSw; (try dsimp only at hSw); go_simp; try with_reducible rfl
            try simp only [Act.put, List.setIfInBounds_toArray, List.set_cons_zero, List.set_cons_succ]
            refine wpAnyH_take (i := 11) (oi := { dst := some 83, op := Go.Op.extract (Go.Operand.tmp 72) 0, type := 79, pos := "extra.go:19", after := #[{ on := 10, ground := Go.Ground.data }], guard := none }) (v := ?v11_290102) rfl (by kernel_rfl) (by kernel_rfl) (by kernel_rfl) (fun _ _ _ h => h) (Or.inl ⟨by rfl, ?y11_290102⟩) hHeld ?r11_290102
            case y11_290102 => intro w hSw; (try dsimp only at hSw); go_simp; try with_reducible rfl
            try simp only [Act.put, List.setIfInBounds_toArray, List.set_cons_zero, List.set_cons_succ]
            refine wpAnyH_take (i := 12) (oi := { dst := some 84, op := Go.Op.extract (Go.Operand.tmp 72) 1, type := 40, pos := "extra.go:19", after := #[{ on := 10, ground := Go.Ground.data }, { on := 14, ground := Go.Ground.gcOnly Go.Departure.lateStores }], guard := none }) (v := ?v12_290102) rfl (by kernel_rfl) (by kernel_rfl) (by kernel_rfl) (fun _ _ _ h => h) (Or.inl ⟨by rfl, ?y12_290102⟩) hHeld ?r12_290102
            case y12_290102 => intro w hSw; (try dsimp only at hSw); go_simp; try with_reducible rfl
            try simp only [Act.put, List.setIfInBounds_toArray, List.set_cons_zero, List.set_cons_succ]
            refine wpAnyH_ready (rs := [13]) (by kernel_rfl) (by simp) ?_
            refine AllReadyH.cons (o := { dst := some 15, op := Go.Op.alloc 79, type := 0, pos := "extra.go:19", after := #[], guard := none }) rfl (fun K hK => ?_) AllReadyH.nil
            go_simp
            have HSB := Lib.hid HO2.out.bel.size
            have hal := (Below.refl we.heap.size we).alloc (Nat.le_refl _) (.cells #[.int .i64 0, .int .i64 0, .string ⟨#[]⟩, .bool false, .string ⟨#[]⟩, .int .i64 0, .int .i64 0, .int .i64 0, .int .i64 0] 79)
            have hnext := And.intro (cell_later hal hHeld.1) (hHeld.2.below hal)
            have HZ := Lib.hid (HeldT.new we #[.int .i64 0, .int .i64 0, .string ⟨#[]⟩, .bool false, .string ⟨#[]⟩, .int .i64 0, .int .i64 0, .int .i64 0, .int .i64 0] 79)
            have HGN2 := Lib.hid (show gq ≠ we.heap.size ∧ jb ≠ we.heap.size ∧ ∀ g ∈ c2, g ≠ we.heap.size from ⟨fun e => by have := hHeld.2.2; omega, fun e => by have h2 := HJB.out; have h3 := HSB.out; omega, fun g hg e => by have := HO2.out.tb.lt g hg; omega⟩)
            replace HO2 := Lib.hid (HO2.out.below hal)
            obtain ⟨wg, hwf⟩ : ∃ z, we.alloc (.cells #[.int .i64 0, .int .i64 0, .string ⟨#[]⟩, .bool false, .string ⟨#[]⟩, .int .i64 0, .int .i64 0, .int .i64 0, .int .i64 0] 79) = z := ⟨_, rfl⟩
            obtain ⟨gb, hgb⟩ : ∃ z, we.heap.size = z := ⟨_, rfl⟩
            rw [hwf] at hnext HO2 HZ ⊢
            rw [hgb] at HZ HGN2 HSB ⊢
            have HZL := Lib.hid HZ.out.2
            clear hwf hgb hal
            refine hK.out _ _ (hnext) (fun hHeld2 => ?_)
            clear hK K hHeld
            have hHeld := hHeld2
            clear hHeld2
            try simp only [Act.put, List.setIfInBounds_toArray, List.set_cons_zero, List.set_cons_succ]
            refine wpAnyH_ready (rs := [14]) (by kernel_rfl) (by simp) ?_
            refine AllReadyH.cons (o := { dst := none, op := Go.Op.store 79 (Go.Operand.tmp 15) (Go.Operand.tmp 83), type := 0, pos := "extra.go:19", after := #[{ on := 13, ground := Go.Ground.data }, { on := 11, ground := Go.Ground.data }, { on := 9, ground := Go.Ground.chain }, { on := 0, ground := Go.Ground.phase }, { on := 1, ground := Go.Ground.phase }, { on := 2, ground := Go.Ground.phase }, { on := 3, ground := Go.Ground.phase }, { on := 4, ground := Go.Ground.phase }, { on := 5, ground := Go.Ground.phase }, { on := 6, ground := Go.Ground.phase }, { on := 7, ground := Go.Ground.phase }, { on := 8, ground := Go.Ground.phase }, { on := 9, ground := Go.Ground.phase }, { on := 10, ground := Go.Ground.phase }, { on := 11, ground := Go.Ground.phase }, { on := 12, ground := Go.Ground.textOnly Go.Departure.lateStores }, { on := 13, ground := Go.Ground.phase }], guard := none }) rfl (fun K hK => ?_) AllReadyH.nil
            refine step_store_mid (by rfl) 79 (.tmp 15) (.tmp 83) (by rfl) gb 0 #[.int .i64 ID, .int .i64 PO, .string ⟨#[115]⟩, .bool false, .string ⟨#[0]⟩, .int .i64 1, .int .i64 1, .int .i64 jv, .int .i64 nu] (by rfl) (by rfl) (fun j hj => by obtain ⟨u, hu⟩ : ∃ u, ([.int .i64 0, .int .i64 0, .string ⟨#[]⟩, .bool false, .string ⟨#[]⟩, .int .i64 0, .int .i64 0, .int .i64 0, .int .i64 0] : List Value)[j]? = some u := ⟨_, List.getElem?_eq_getElem (show j < List.length [.int .i64 0, .int .i64 0, .string ⟨#[]⟩, .bool false, .string ⟨#[]⟩, .int .i64 0, .int .i64 0, .int .i64 0, .int .i64 0] from hj)⟩; obtain ⟨h1, h2⟩ := HZ.out.1 j u hu; rw [Nat.zero_add]; exact ⟨by rw [h1]; rfl, h2⟩) (by kernel_rfl) (all_oneCell_toArray (encW_one ⟨⟨ID, PO, ⟨#[115]⟩, false⟩, ⟨⟨#[0]⟩, 1, 1⟩, jv, nu⟩)) ?_
            simp only [Act.put]
            have HBX := Lib.hid (show HeldT gb [.int .i64 ID, .int .i64 PO, .string ⟨#[115]⟩, .bool false, .string ⟨#[0]⟩, .int .i64 1, .int .i64 1, .int .i64 jv, .int .i64 nu] (wg.setCells gb 0 [.int .i64 ID, .int .i64 PO, .string ⟨#[115]⟩, .bool false, .string ⟨#[0]⟩, .int .i64 1, .int .i64 1, .int .i64 jv, .int .i64 nu]) from HZ.out.into rfl)
            have hfr := (Frm.refl wg [gb]).sets gb 0 (Or.inl (by simp)) [.int .i64 ID, .int .i64 PO, .string ⟨#[115]⟩, .bool false, .string ⟨#[0]⟩, .int .i64 1, .int .i64 1, .int .i64 jv, .int .i64 nu]
            have hnext := And.intro (hfr.cellT hHeld.1 (by simpa using HGN2.out.2.1)) (hHeld.2.frm hfr (by simpa using HGN2.out.1))
            have HO4 := Lib.hid (show OneT w (wg.setCells gb 0 [.int .i64 ID, .int .i64 PO, .string ⟨#[115]⟩, .bool false, .string ⟨#[0]⟩, .int .i64 1, .int .i64 1, .int .i64 jv, .int .i64 nu]) q c2 ⟨200, nxD (nxD x), ws ++ [⟨⟨ID, PO, ⟨#[115]⟩, false⟩, ⟨⟨#[0]⟩, 1, 1⟩, jv, nu⟩]⟩ from ⟨HO2.out.tb.frm hfr (fun b hb => by simpa using HGN2.out.2.2 b hb), HO2.out.g, hfr.under HO2.out.bel (fun b hb => by simp at hb; subst hb; exact HSB.out) HO2.out.bel.size⟩)
            obtain ⟨wh, hwh⟩ : ∃ z, wg.setCells gb 0 [.int .i64 ID, .int .i64 PO, .string ⟨#[115]⟩, .bool false, .string ⟨#[0]⟩, .int .i64 1, .int .i64 1, .int .i64 jv, .int .i64 nu] = z := ⟨_, rfl⟩
            rw [hwh] at HBX hnext HO4
            rw [show wg.setCells gb 0 (#[.int .i64 ID, .int .i64 PO, .string ⟨#[115]⟩, .bool false, .string ⟨#[0]⟩, .int .i64 1, .int .i64 1, .int .i64 jv, .int .i64 nu] : Array Value).toList = wh from hwh]
            clear hwh hfr HZ HO2
            refine hK.out _ _ (hnext) (fun hHeld2 => ?_)
            clear hK K hHeld
            have hHeld := hHeld2
            clear hHeld2
            try simp only [Act.put, List.setIfInBounds_toArray, List.set_cons_zero, List.set_cons_succ]
            refine wpAnyH_take (i := 15) (oi := { dst := some 16, op := Go.Op.assign (Go.Operand.tmp 84), type := 40, pos := "extra.go:19", after := #[{ on := 12, ground := Go.Ground.data }, { on := 14, ground := Go.Ground.chain }, { on := 0, ground := Go.Ground.phase }, { on := 1, ground := Go.Ground.phase }, { on := 2, ground := Go.Ground.phase }, { on := 3, ground := Go.Ground.phase }, { on := 4, ground := Go.Ground.phase }, { on := 5, ground := Go.Ground.phase }, { on := 6, ground := Go.Ground.phase }, { on := 7, ground := Go.Ground.phase }, { on := 8, ground := Go.Ground.phase }, { on := 9, ground := Go.Ground.phase }, { on := 10, ground := Go.Ground.phase }, { on := 11, ground := Go.Ground.phase }, { on := 12, ground := Go.Ground.phase }, { on := 13, ground := Go.Ground.phase }, { on := 14, ground := Go.Ground.phase }], guard := none }) (v := ?v15_290104) rfl (by kernel_rfl) (by kernel_rfl) (by kernel_rfl) (fun _ _ _ h => h) (Or.inl ⟨by rfl, ?y15_290104⟩) hHeld ?r15_290104
            case y15_290104 => intro w hSw; (try dsimp only at hSw); go_simp; try with_reducible rfl
            try simp only [Act.put, List.setIfInBounds_toArray, List.set_cons_zero, List.set_cons_succ]
            refine wpAnyH_done (by kernel_rfl) ?_ _
            have bj := hHeld.1
            have HQ4 := Lib.hid hHeld.2
            clear hHeld
            have q0 := (HQ4.out.1 0 _ rfl).1
            have q1 := (HQ4.out.1 1 _ rfl).1
            have q2 := (HQ4.out.1 2 _ rfl).1
            have b0 := (HBX.out.1 0 _ rfl).1
            have b1 := (HBX.out.1 1 _ rfl).1
            have b2 := (HBX.out.1 2 _ rfl).1
            have b3 := (HBX.out.1 3 _ rfl).1
            have b4 := (HBX.out.1 4 _ rfl).1
            have b5 := (HBX.out.1 5 _ rfl).1
            have b6 := (HBX.out.1 6 _ rfl).1
            have b7 := (HBX.out.1 7 _ rfl).1
            have b8 := (HBX.out.1 8 _ rfl).1
            have n1 : (jv != jv) = false := by simp
            have n2 : (nu != nu) = false := by simp
            have n3 : decide (ID < 0) = false := dF (by have := HIDI.out; omega)
            have n4 : decide (65535 < ID) = false := dF (by have := HIDI.out; omega)
            have n5 : decide (PO < 1024) = false := dF (by have := HPOI.out; omega)
            have n6 : decide (65535 < PO) = false := dF (by have := HPOI.out; omega)
            have hqn := fun W => qs_neq ⟨#[0]⟩ 1 1 W
            go_upto_region 11 with (fail)
            go_quiet (fail)
            rename_i nq
            have HO5 := Lib.hid (HO4.out.below (below_drewN (Below.refl _ _) nq))
            have HQ5 := Lib.hid (HQ4.out.below (below_drewN (Below.refl _ _) nq))
            clear b0 b1 b2 b3 b4 b5 b6 b7 b8 q0 q1 q2 bj n1 n2 n3 n4 n5 n6 hqn
            go_wp2
            go_roundw
            case rel => exact ⟨t + 1, _, _, c2, HLT.out, by go_num, HO5, HWK2, HQ5, HGC2⟩
            case measure =>
              simp only [intOf]
              have := HLT.out
              have := HNN.out.1
              omega
          · go_simp
            have HSB := Lib.hid HO.out.bel.size
            have hal := (Below.refl wd.heap.size wd).alloc (Nat.le_refl _) (.cells #[.int .i64 0, .int .i64 0, .string ⟨#[]⟩, .bool false, .string ⟨#[]⟩, .int .i64 0, .int .i64 0, .int .i64 0, .int .i64 0] 79)
            have hnext := And.intro (cell_later hal hHeld.1) (hHeld.2.below hal)
            have HZ := Lib.hid (HeldT.new wd #[.int .i64 0, .int .i64 0, .string ⟨#[]⟩, .bool false, .string ⟨#[]⟩, .int .i64 0, .int .i64 0, .int .i64 0, .int .i64 0] 79)
            have HGN := Lib.hid (show gq ≠ wd.heap.size ∧ jb ≠ wd.heap.size ∧ ∀ g ∈ c, g ≠ wd.heap.size from ⟨fun e => by have := hHeld.2.2; omega, fun e => by have h2 := HJB.out; have h3 := HSB.out; omega, fun g hg e => by have := HO.out.tb.lt g hg; omega⟩)
            replace HO := Lib.hid (HO.out.below hal)
            obtain ⟨wf, hwf⟩ : ∃ z, wd.alloc (.cells #[.int .i64 0, .int .i64 0, .string ⟨#[]⟩, .bool false, .string ⟨#[]⟩, .int .i64 0, .int .i64 0, .int .i64 0, .int .i64 0] 79) = z := ⟨_, rfl⟩
            obtain ⟨gb, hgb⟩ : ∃ z, wd.heap.size = z := ⟨_, rfl⟩
            rw [hwf] at hnext HO HZ ⊢
            rw [hgb] at HZ HGN HSB ⊢
            have HZL := Lib.hid HZ.out.2
            clear hwf hgb hal
            refine hK.out _ _ (hnext) (fun hHeld2 => ?_)
            clear hK K hHeld
            have hHeld := hHeld2
            clear hHeld2
            try simp only [Act.put, List.setIfInBounds_toArray, List.set_cons_zero, List.set_cons_succ]
            refine wpAnyH_ready (rs := [9]) (by kernel_rfl) (by simp) ?_
            refine AllReadyH.cons (o := { dst := some 82, op := Go.Op.call { callee := Go.Callee.value (Go.Operand.func 43), args := #[Go.Operand.tmp 73, Go.Operand.tmp 76, Go.Operand.tmp 80, Go.Operand.const (Go.Value.string { data := #[115] }), Go.Operand.const (Go.Value.bool false), Go.Operand.tmp 81], argTypes := #[59, 3, 3, 9, 4, 66] }, type := 80, pos := "extra.go:19", after := #[{ on := 0, ground := Go.Ground.data }, { on := 3, ground := Go.Ground.data }, { on := 7, ground := Go.Ground.data }, { on := 8, ground := Go.Ground.data }], guard := none }) rfl (fun K hK => ?_) AllReadyH.nil
            go_simp
            refine (open_yes c q ⟨200, x, ws⟩ ni jv ⟨#[115]⟩ false ⟨#[0]⟩ 1 1 wf HO.out.tb (by have := HWL.out; show ws.length ≤ 5000; omega) (by have := HWL.out; show (ws.length : Int) < 200; omega) (by have := HNN.out; have := HNI.out; have := HLT.out; omega)).mono ?_; rintro e wg ⟨rfl, ⟨c2, hs2, hc2⟩, hf2⟩
            have hnext := And.intro (hf2.cellT hHeld.1 (fun e => by have := HO.out.g jb e; have := HJB.out; omega)) (hHeld.2.frm hf2 HGC.out)
            have HGC2 := Lib.hid (show gq ∉ c2 from fun e => by rcases hc2 gq e with h1 | h1; exact HGC.out h1; exact absurd hHeld.2.2 (Nat.not_lt_of_le h1))
            replace HZ := Lib.hid (HZ.out.frm hf2 (fun e => HGN.out.2.2 gb e rfl))
            have HGN2 := Lib.hid (show gq ≠ gb ∧ jb ≠ gb ∧ ∀ g ∈ c2, g ≠ gb from ⟨HGN.out.1, HGN.out.2.1, fun g hg e => by rcases hc2 g hg with h1 | h1; exact HGN.out.2.2 g h1 e; have := HZL.out; omega⟩)
            have HO2 := Lib.hid (HO.out.put hs2 hc2 hf2 (fun x h => h))
            obtain ⟨ID, hID⟩ : ∃ z, seekI ws (portD x) ⟨#[115]⟩ false (ws.length + 1) (outD x) = z := ⟨_, rfl⟩
            have HIDI := Lib.hid (show 0 ≤ ID ∧ ID < 65536 from by rw [← hID]; exact seek_in _ _ (outD_in x))
            obtain ⟨PO, hPO⟩ : ∃ z, portD x = z := ⟨_, rfl⟩
            rw [hPO] at hID
            have HPOI := Lib.hid (show 1024 ≤ PO ∧ PO < 65536 from by rw [← hPO]; exact portD_in x)
            have hr : openW ⟨200, x, ws⟩ ni jv ⟨#[115]⟩ false ⟨⟨#[0]⟩, 1, 1⟩ = ⟨⟨ID, PO, ⟨#[115]⟩, false⟩, ⟨⟨#[0]⟩, 1, 1⟩, jv, nu⟩ := by rw [openW, hPO, hID, HNU.out]
            rw [hr, show (encW ⟨⟨ID, PO, ⟨#[115]⟩, false⟩, ⟨⟨#[0]⟩, 1, 1⟩, jv, nu⟩).toArray = #[.int .i64 ID, .int .i64 PO, .string ⟨#[115]⟩, .bool false, .string ⟨#[0]⟩, .int .i64 1, .int .i64 1, .int .i64 jv, .int .i64 nu] from rfl]
            rw [openP, hr] at HO2
            have HWK2 := Lib.hid (HWK.out.more ⟨⟨ID, PO, ⟨#[115]⟩, false⟩, ⟨⟨#[0]⟩, 1, 1⟩, jv, nu⟩ HJV.out.symm (by show nu = _; rw [← HNU.out, ← HNI.out]))
            clear hr hID hPO hs2 hc2 hf2 HO HGC HWK
            refine hK.out _ _ (hnext) (fun hHeld2 => ?_)
            clear hK K hHeld
            have hHeld := hHeld2
            clear hHeld2
            try simp only [Act.put, List.setIfInBounds_toArray, List.set_cons_zero, List.set_cons_succ]
            refine wpAnyH_take (i := 10) (oi := { dst := some 72, op := Go.Op.move (Go.Operand.tmp 82), type := 80, pos := "extra.go:19", after := #[{ on := 9, ground := Go.Ground.data }], guard := none }) (v := ?v10_290106) rfl (by kernel_rfl) (by kernel_rfl) (by kernel_rfl) (fun _ _ _ h => h) (Or.inl ⟨by rfl, ?y10_290106⟩) hHeld ?r10_290106
            case y10_290106 => intro w hSw; (try dsimp only at hSw); go_simp; try with_reducible rfl
            try simp only [Act.put, List.setIfInBounds_toArray, List.set_cons_zero, List.set_cons_succ]
            refine wpAnyH_take (i := 11) (oi := { dst := some 83, op := Go.Op.extract (Go.Operand.tmp 72) 0, type := 79, pos := "extra.go:19", after := #[{ on := 10, ground := Go.Ground.data }], guard := none }) (v := ?v11_290106) rfl (by kernel_rfl) (by kernel_rfl) (by kernel_rfl) (fun _ _ _ h => h) (Or.inl ⟨by rfl, ?y11_290106⟩) hHeld ?r11_290106
            case y11_290106 => intro w hSw; (try dsimp only at hSw); go_simp; try with_reducible rfl
            try simp only [Act.put, List.setIfInBounds_toArray, List.set_cons_zero, List.set_cons_succ]
            refine wpAnyH_take (i := 12) (oi := { dst := some 84, op := Go.Op.extract (Go.Operand.tmp 72) 1, type := 40, pos := "extra.go:19", after := #[{ on := 10, ground := Go.Ground.data }, { on := 14, ground := Go.Ground.gcOnly Go.Departure.lateStores }], guard := none }) (v := ?v12_290106) rfl (by kernel_rfl) (by kernel_rfl) (by kernel_rfl) (fun _ _ _ h => h) (Or.inl ⟨by rfl, ?y12_290106⟩) hHeld ?r12_290106
            case y12_290106 => intro w hSw; (try dsimp only at hSw); go_simp; try with_reducible rfl
            try simp only [Act.put, List.setIfInBounds_toArray, List.set_cons_zero, List.set_cons_succ]
            refine wpAnyH_ready (rs := [14]) (by kernel_rfl) (by simp) ?_
            refine AllReadyH.cons (o := { dst := none, op := Go.Op.store 79 (Go.Operand.tmp 15) (Go.Operand.tmp 83), type := 0, pos := "extra.go:19", after := #[{ on := 13, ground := Go.Ground.data }, { on := 11, ground := Go.Ground.data }, { on := 9, ground := Go.Ground.chain }, { on := 0, ground := Go.Ground.phase }, { on := 1, ground := Go.Ground.phase }, { on := 2, ground := Go.Ground.phase }, { on := 3, ground := Go.Ground.phase }, { on := 4, ground := Go.Ground.phase }, { on := 5, ground := Go.Ground.phase }, { on := 6, ground := Go.Ground.phase }, { on := 7, ground := Go.Ground.phase }, { on := 8, ground := Go.Ground.phase }, { on := 9, ground := Go.Ground.phase }, { on := 10, ground := Go.Ground.phase }, { on := 11, ground := Go.Ground.phase }, { on := 12, ground := Go.Ground.textOnly Go.Departure.lateStores }, { on := 13, ground := Go.Ground.phase }], guard := none }) rfl (fun K hK => ?_) AllReadyH.nil
            refine step_store_mid (by rfl) 79 (.tmp 15) (.tmp 83) (by rfl) gb 0 #[.int .i64 ID, .int .i64 PO, .string ⟨#[115]⟩, .bool false, .string ⟨#[0]⟩, .int .i64 1, .int .i64 1, .int .i64 jv, .int .i64 nu] (by rfl) (by rfl) (fun j hj => by obtain ⟨u, hu⟩ : ∃ u, ([.int .i64 0, .int .i64 0, .string ⟨#[]⟩, .bool false, .string ⟨#[]⟩, .int .i64 0, .int .i64 0, .int .i64 0, .int .i64 0] : List Value)[j]? = some u := ⟨_, List.getElem?_eq_getElem (show j < List.length [.int .i64 0, .int .i64 0, .string ⟨#[]⟩, .bool false, .string ⟨#[]⟩, .int .i64 0, .int .i64 0, .int .i64 0, .int .i64 0] from hj)⟩; obtain ⟨h1, h2⟩ := HZ.out.1 j u hu; rw [Nat.zero_add]; exact ⟨by rw [h1]; rfl, h2⟩) (by kernel_rfl) (all_oneCell_toArray (encW_one ⟨⟨ID, PO, ⟨#[115]⟩, false⟩, ⟨⟨#[0]⟩, 1, 1⟩, jv, nu⟩)) ?_
            simp only [Act.put]
            have HBX := Lib.hid (show HeldT gb [.int .i64 ID, .int .i64 PO, .string ⟨#[115]⟩, .bool false, .string ⟨#[0]⟩, .int .i64 1, .int .i64 1, .int .i64 jv, .int .i64 nu] (wg.setCells gb 0 [.int .i64 ID, .int .i64 PO, .string ⟨#[115]⟩, .bool false, .string ⟨#[0]⟩, .int .i64 1, .int .i64 1, .int .i64 jv, .int .i64 nu]) from HZ.out.into rfl)
            have hfr := (Frm.refl wg [gb]).sets gb 0 (Or.inl (by simp)) [.int .i64 ID, .int .i64 PO, .string ⟨#[115]⟩, .bool false, .string ⟨#[0]⟩, .int .i64 1, .int .i64 1, .int .i64 jv, .int .i64 nu]
            have hnext := And.intro (hfr.cellT hHeld.1 (by simpa using HGN2.out.2.1)) (hHeld.2.frm hfr (by simpa using HGN2.out.1))
            have HO4 := Lib.hid (show OneT w (wg.setCells gb 0 [.int .i64 ID, .int .i64 PO, .string ⟨#[115]⟩, .bool false, .string ⟨#[0]⟩, .int .i64 1, .int .i64 1, .int .i64 jv, .int .i64 nu]) q c2 ⟨200, nxD (nxD x), ws ++ [⟨⟨ID, PO, ⟨#[115]⟩, false⟩, ⟨⟨#[0]⟩, 1, 1⟩, jv, nu⟩]⟩ from ⟨HO2.out.tb.frm hfr (fun b hb => by simpa using HGN2.out.2.2 b hb), HO2.out.g, hfr.under HO2.out.bel (fun b hb => by simp at hb; subst hb; exact HSB.out) HO2.out.bel.size⟩)
            obtain ⟨wh, hwh⟩ : ∃ z, wg.setCells gb 0 [.int .i64 ID, .int .i64 PO, .string ⟨#[115]⟩, .bool false, .string ⟨#[0]⟩, .int .i64 1, .int .i64 1, .int .i64 jv, .int .i64 nu] = z := ⟨_, rfl⟩
            rw [hwh] at HBX hnext HO4
            rw [show wg.setCells gb 0 (#[.int .i64 ID, .int .i64 PO, .string ⟨#[115]⟩, .bool false, .string ⟨#[0]⟩, .int .i64 1, .int .i64 1, .int .i64 jv, .int .i64 nu] : Array Value).toList = wh from hwh]
            clear hwh hfr HZ HO2
            refine hK.out _ _ (hnext) (fun hHeld2 => ?_)
            clear hK K hHeld
            have hHeld := hHeld2
            clear hHeld2
            try simp only [Act.put, List.setIfInBounds_toArray, List.set_cons_zero, List.set_cons_succ]
            refine wpAnyH_take (i := 15) (oi := { dst := some 16, op := Go.Op.assign (Go.Operand.tmp 84), type := 40, pos := "extra.go:19", after := #[{ on := 12, ground := Go.Ground.data }, { on := 14, ground := Go.Ground.chain }, { on := 0, ground := Go.Ground.phase }, { on := 1, ground := Go.Ground.phase }, { on := 2, ground := Go.Ground.phase }, { on := 3, ground := Go.Ground.phase }, { on := 4, ground := Go.Ground.phase }, { on := 5, ground := Go.Ground.phase }, { on := 6, ground := Go.Ground.phase }, { on := 7, ground := Go.Ground.phase }, { on := 8, ground := Go.Ground.phase }, { on := 9, ground := Go.Ground.phase }, { on := 10, ground := Go.Ground.phase }, { on := 11, ground := Go.Ground.phase }, { on := 12, ground := Go.Ground.phase }, { on := 13, ground := Go.Ground.phase }, { on := 14, ground := Go.Ground.phase }], guard := none }) (v := ?v15_290107) rfl (by kernel_rfl) (by kernel_rfl) (by kernel_rfl) (fun _ _ _ h => h) (Or.inl ⟨by rfl, ?y15_290107⟩) hHeld ?r15_290107
            case y15_290107 => intro w hSw; (try dsimp only at hSw); go_simp; try with_reducible rfl
            try simp only [Act.put, List.setIfInBounds_toArray, List.set_cons_zero, List.set_cons_succ]
            refine wpAnyH_done (by kernel_rfl) ?_ _
            have bj := hHeld.1
            have HQ4 := Lib.hid hHeld.2
            clear hHeld
            have q0 := (HQ4.out.1 0 _ rfl).1
            have q1 := (HQ4.out.1 1 _ rfl).1
            have q2 := (HQ4.out.1 2 _ rfl).1
            have b0 := (HBX.out.1 0 _ rfl).1
            have b1 := (HBX.out.1 1 _ rfl).1
            have b2 := (HBX.out.1 2 _ rfl).1
            have b3 := (HBX.out.1 3 _ rfl).1
            have b4 := (HBX.out.1 4 _ rfl).1
            have b5 := (HBX.out.1 5 _ rfl).1
            have b6 := (HBX.out.1 6 _ rfl).1
            have b7 := (HBX.out.1 7 _ rfl).1
            have b8 := (HBX.out.1 8 _ rfl).1
            have n1 : (jv != jv) = false := by simp
            have n2 : (nu != nu) = false := by simp
            have n3 : decide (ID < 0) = false := dF (by have := HIDI.out; omega)
            have n4 : decide (65535 < ID) = false := dF (by have := HIDI.out; omega)
            have n5 : decide (PO < 1024) = false := dF (by have := HPOI.out; omega)
            have n6 : decide (65535 < PO) = false := dF (by have := HPOI.out; omega)
            have hqn := fun W => qs_neq ⟨#[0]⟩ 1 1 W
            go_upto_region 11 with (fail)
            go_quiet (fail)
            rename_i nq
            have HO5 := Lib.hid (HO4.out.below (below_drewN (Below.refl _ _) nq))
            have HQ5 := Lib.hid (HQ4.out.below (below_drewN (Below.refl _ _) nq))
            clear b0 b1 b2 b3 b4 b5 b6 b7 b8 q0 q1 q2 bj n1 n2 n3 n4 n5 n6 hqn
            go_wp2
            go_roundw
            case rel => exact ⟨t + 1, _, _, c2, HLT.out, by go_num, HO5, HWK2, HQ5, HGC2⟩
            case measure =>
              simp only [intOf]
              have := HLT.out
              have := HNN.out.1
              omega
        · have dd : decide ((t : Int) < (jn : Int)) = false := dF (by omega)
          have dn : decide (t < jn) = false := dF hlt
          obtain rfl : jn = t := by omega
          clear hlt ht
          obtain ⟨wA, rfl⟩ : ∃ z, z = wr := ⟨wr, rfl⟩
          clear HQ HGC
          have hjn := HNN.out.1
          go_wp2_with fail
          go_loopw [17, 18, 19] (fun a b i wr => ∃ t : Nat, t ≤ jn ∧ a = .int .i64 ((dropQ J drop t).length : Int) ∧ i = .int .i64 t ∧ Hid (wr.ownsRow wA.heap.size 3 1 b (leftJ J drop now later t).length (ic (leftJ J drop now later t))) ∧ Hid (Below wA.heap.size wA wr)) (fun _ _ i _ => jn - (intOf i).toNat)
          case atStart => exact ⟨0, Nat.zero_le _, rfl, rfl, Lib.hid (World.ownsRow_nil _ _ _ _), Lib.hid (Below.refl _ _)⟩
          case round =>
            obtain ⟨t, ht, rfl, rfl, HLR, HBR⟩ := hrel
            by_cases hlt : t < jn
            · have dd : decide ((t : Int) < (jn : Int)) = true := dT (by omega)
              have dn : decide (t < jn) = true := dT hlt
              rcases HJ.out.2 with h0 | ⟨jb, jo, rfl, hjb, hjc⟩
              · omega
              obtain ⟨jv, hjv⟩ : ∃ z, J.getD t 0 = z := ⟨_, rfl⟩
              have cj := cell_later (HO.out.bel.trans (HBR.out.mono HO.out.bel.size)) (hjc t hlt)
              rw [hjv] at cj
              have HJV := Lib.hid hjv
              have HLT := Lib.hid hlt
              have hnb := HNN.out
              obtain ⟨ni, hni⟩ : ∃ z, now + (t : Int) = z := ⟨_, rfl⟩
              have wn : IntKind.i64.wrap (now + (t : Int)) = ni := by rw [IntKind.wrap_i64]; omega
              obtain ⟨nu, hnu⟩ : ∃ z, ni + 3 = z := ⟨_, rfl⟩
              have wu : IntKind.i64.wrap (ni + 3) = nu := by rw [IntKind.wrap_i64]; omega
              obtain ⟨tl, htl⟩ : ∃ z, now + later = z := ⟨_, rfl⟩
              have wt : IntKind.i64.wrap (now + later) = tl := by rw [IntKind.wrap_i64]; omega
              have HNU := Lib.hid (show now + (t : Int) + 3 = nu ∧ now + later = tl from ⟨by omega, htl⟩)
              have HDS := Lib.hid (dropQ_succ J drop t)
              have HDL := Lib.hid (dropQ_le J drop t)
              obtain ⟨D, hD⟩ : ∃ z, (dropQ J drop t).length = z := ⟨_, rfl⟩
              rw [hD] at HDS HDL ⊢
              obtain ⟨D1, hD1⟩ : ∃ z, D + 1 = z := ⟨_, rfl⟩
              have HD1 := Lib.hid hD1
              have wd : IntKind.i64.wrap ((D : Int) + 1) = (D1 : Int) := by rw [IntKind.wrap_i64]; have := HDL.out; omega
              have i1 : (0 : Int) ≤ (t : Int) := by omega
              have i2 : (t : Int) < (jn : Int) := by omega
              clear hjc hjb hjv hni hnu hnb hlt ht htl hD hD1
              by_cases hdr : jv = drop
              · have e1 : (jv == drop) = true := eT hdr
                have HDR := Lib.hid hdr
                clear hdr
                go_wp2
                go_roundw
                case rel => exact ⟨t + 1, HLT.out, by rw [HDS.out, HJV.out, if_pos HDR.out, HD1.out], by go_num, Lib.hid (by rw [leftJ_no J drop now later t (Or.inl (by rw [HJV.out]; exact HDR.out))]; exact HLR.out), HBR⟩
                case measure =>
                  simp only [intOf]
                  have := HLT.out
                  omega
              · have e1 : (jv == drop) = false := eF hdr
                have HDR := Lib.hid hdr
                have HDE := Lib.hid (show (dropQ J drop (t + 1)).length = D from by rw [HDS.out, HJV.out, if_neg HDR.out]; rfl)
                clear hdr
                by_cases hut : nu ≤ tl
                · have e2 : decide (tl < nu) = false := dF (by omega)
                  have HUT := Lib.hid hut
                  clear hut
                  go_wp2
                  go_roundw
                  case rel => exact ⟨t + 1, HLT.out, by rw [HDE.out], by go_num, Lib.hid (by rw [leftJ_no J drop now later t (Or.inr (by rw [HNU.out.1, HNU.out.2]; exact HUT.out))]; exact HLR.out), HBR⟩
                  case measure =>
                    simp only [intOf]
                    have := HLT.out
                    omega
                · have e2 : decide (tl < nu) = true := dT (by omega)
                  have HLJ2 := Lib.hid (leftJ_yes J drop now later t (by rw [HJV.out]; exact HDR.out) (by rw [HNU.out.1, HNU.out.2]; exact hut))
                  have hal := (Below.refl wr.heap.size wr).alloc (Nat.le_refl _) (.cells #[.int .i64 jv] 3)
                  have HLA := Lib.hid (own_below' HLR.out hal)
                  have HBA := Lib.hid (HBR.out.trans (hal.mono HBR.out.size))
                  have HRL := Lib.hid (show Row (wr.alloc (.cells #[.int .i64 jv] 3)) (some ⟨wr.heap.size, 0, none⟩) 1 [jv] from ⟨rfl, Or.inr ⟨_, _, rfl, by rw [World.size_alloc]; omega, fun j hj => by obtain rfl : j = 0 := (by omega); rw [World.cell?_alloc_new]; rfl⟩⟩)
                  have HLL := Lib.hid (show (leftJ J drop now later t).length + 1 ≤ 1000000 from by have := leftJ_le J drop now later t; have := HLT.out; omega)
                  clear hal hut
                  go_wp2_with (refine append_row rfl (.tmp 168) (.tmp 173) rfl wA.heap.size _ _ _ rfl HLA.out (some ⟨wr.heap.size, 0, none⟩) 1 1 [jv] rfl (fun h => by cases h) HRL.out HLL.out HBA.out.size ?_)
                  intro v' w9 g1 g2
                  have HL9 := Lib.hid (show w9.ownsRow wA.heap.size 3 1 v' (leftJ J drop now later (t + 1)).length (ic (leftJ J drop now later (t + 1))) from by
                    rw [HLJ2.out, HJV.out, List.length_append, List.length_singleton, ic_append]
                    exact g1)
                  have HB9 := Lib.hid (HBA.out.grown g2 HBA.out.size (fun j hj => (HLA.out.lt j hj).1))
                  clear g1 g2 cj
                  go_wp2
                  go_roundw
                  case rel => exact ⟨t + 1, HLT.out, by rw [HDE.out], by go_num, HL9, HB9⟩
                  case measure =>
                    simp only [intOf]
                    have := HLT.out
                    omega
            · have dd : decide ((t : Int) < (jn : Int)) = false := dF (by omega)
              have dn : decide (t < jn) = false := dF hlt
              obtain rfl : t = jn := by omega
              clear hlt ht
              have HLN := Lib.hid (HO.out.tb)
              have HLE := Lib.hid (show (leftJ J drop now later t).length ≤ 100 from by have := leftJ_le J drop now later t; have := HNN.out.1; omega)
              have HDC := Lib.hid (drop_count (drop := drop) HWK.out)
              have HDLN := Lib.hid (drop_len (drop := drop) HWK.out)
              have HEX := Lib.hid (exp_len (drop := drop) (later := later) HWK.out)
              have H3L := Lib.hid (ws3_len (drop := drop) (later := later) HWK.out)
              have H3J := Lib.hid (ws3_job (drop := drop) (later := later) HWK.out)
              have H3R := Lib.hid (ws3_rise (drop := drop) (later := later) HWK.out)
              have HWL := Lib.hid HWK.out.len
              obtain ⟨lj, hlj⟩ : ∃ z, leftJ J drop now later t = z := ⟨_, rfl⟩
              rw [hlj] at HLR HLE HEX H3L H3J
              obtain ⟨L, hL⟩ : ∃ z, lj.length = z := ⟨_, rfl⟩
              have HLJL := Lib.hid hL
              rw [hL] at HLR HLE HEX H3L
              obtain ⟨D, hD⟩ : ∃ z, (dropQ J drop t).length = z := ⟨_, rfl⟩
              rw [hD] at HDC HDLN HEX ⊢
              obtain ⟨la, lc, rfl, -, -⟩ := cellsK_own HLR.out
              have HOB := Lib.hid (HO.out.below HBR.out)
              have HBS := Lib.hid (show ∀ x ∈ c, x < wA.heap.size from HO.out.tb.lt)
              have hba := (Below.refl wr.heap.size wr).alloc (Nat.le_refl _) (.cells #[.int .i64 drop] 3)
              have HOC := Lib.hid (HOB.out.below hba)
              have HLC := Lib.hid (own_below' HLR.out hba)
              have HRD := Lib.hid (show Row (wr.alloc (.cells #[.int .i64 drop] 3)) (some ⟨wr.heap.size, 0, none⟩) 1 [drop] from ⟨rfl, Or.inr ⟨_, _, rfl, by rw [World.size_alloc]; omega, fun j hj => by obtain rfl : j = 0 := (by omega); rw [World.cell?_alloc_new]; rfl⟩⟩)
              have HSA := Lib.hid HBR.out.size
              clear hlj hL hD hba HO HOB HLR HBR HLN
              go_wp2_with fail
              refine (drop_any c q ⟨200, x, ws⟩ (some ⟨wr.heap.size, 0, none⟩) 1 1 [drop] _ HOC.out.tb (by have := HWL.out; have := HNN.out.1; show ws.length ≤ 10000; omega) HRD.out (by decide)).mono ?_; rintro e wB ⟨vB, rfl, -, ⟨cB, htB, hcB, -⟩, hfB⟩
              rw [show ((⟨200, x, ws⟩ : TbP).ws.filter (fun x => decide (x.job ∈ [drop]))).length = D from HDC.out]
              have HOD := Lib.hid (show OneT w wB q cB ⟨200, x, ws1 ws drop⟩ from HOC.out.put htB hcB hfB (fun y hy => by simp at hy; subst hy; exact HOC.out.tb.choose_spec.2.1.1))
              have HQA := Lib.hid (show q < wA.heap.size from HBS.out q HOC.out.tb.choose_spec.2.1.1)
              have HLD := Lib.hid (show wB.ownsRow wA.heap.size 3 1 (.slice la L lc) L (ic lj) from own_kept HLC.out (fun g hg => hfB.block g ((HLC.out.lt g hg).2) (by have := (HLC.out.lt g hg).1; have := HQA.out; simp; omega)))
              have HSB := Lib.hid (show wA.heap.size ≤ wB.heap.size from Nat.le_trans HSA.out (Nat.le_trans (by rw [World.size_alloc]; omega) hfB.size))
              have nD : (D != D) = false := by simp
              clear htB hcB hfB HOC HLC HRD HBS
              go_wp2_with fail
              refine (drop_any cB q ⟨200, x, ws1 ws drop⟩ none 0 0 [] wB HOD.out.tb (by have h1 := HDLN.out; have := HNN.out.1; show (ws1 ws drop).length ≤ 10000; omega) ⟨rfl, Or.inl rfl⟩ (by decide)).mono ?_; rintro e wC ⟨vC, rfl, -, ⟨cC, htC, hcC, -⟩, hfC⟩
              rw [(drop_none (⟨200, x, ws1 ws drop⟩ : TbP).ws).1]
              rw [(drop_none (⟨200, x, ws1 ws drop⟩ : TbP).ws).2] at htC
              have HOE := Lib.hid (show OneT w wC q cC ⟨200, x, ws1 ws drop⟩ from HOD.out.put htC hcC hfC (fun y hy => by simp at hy; subst hy; exact HOD.out.tb.choose_spec.2.1.1))
              have HLE2 := Lib.hid (show wC.ownsRow wA.heap.size 3 1 (.slice la L lc) L (ic lj) from own_kept HLD.out (fun g hg => hfC.block g ((HLD.out.lt g hg).2) (by have := (HLD.out.lt g hg).1; have := HQA.out; simp; omega)))
              clear htC hcC hfC HOD HLD
              go_wp2_with fail
              refine (lenT_any cC q ⟨200, x, ws1 ws drop⟩ wC HOE.out.tb).mono ?_; rintro e wx ⟨rfl, rfl⟩
              obtain ⟨M1, hM1⟩ : ∃ z, (ws1 ws drop).length = z := ⟨_, rfl⟩
              rw [show (⟨200, x, ws1 ws drop⟩ : TbP).ws.length = M1 from hM1]
              rw [hM1] at HDLN
              have HM1 := Lib.hid hM1
              have wm : IntKind.i64.wrap ((t : Int) - (D : Int)) = (M1 : Int) := by rw [IntKind.wrap_i64]; have := HDLN.out; have := HNN.out.1; omega
              have nM : (M1 != M1) = false := by simp
              obtain ⟨T, hT⟩ : ∃ z, now + later = z := ⟨_, rfl⟩
              have wt : IntKind.i64.wrap (now + later) = T := by rw [IntKind.wrap_i64]; have := HNN.out; omega
              rw [hT] at HEX H3L H3J H3R
              clear hM1 hT
              go_wp2_with fail
              refine (expire_any cC q ⟨200, x, ws1 ws drop⟩ T wC HOE.out.tb (by have h1 := HDLN.out; have := HM1.out; have := HNN.out.1; show (ws1 ws drop).length ≤ 10000; omega)).mono ?_; rintro e wD ⟨vD, rfl, hvD, ⟨cD, htD, hcD, -⟩, hfD⟩
              obtain ⟨xa, xc, rfl, -, -⟩ := cellsK_own hvD
              have HOF := Lib.hid (show OneT w wD q cD ⟨200, x, ws3 ws drop T⟩ from HOE.out.put htD hcD hfD (fun y hy => by simp at hy; subst hy; exact HOE.out.tb.choose_spec.2.1.1))
              have HLF := Lib.hid (show wD.ownsRow wA.heap.size 3 1 (.slice la L lc) L (ic lj) from own_kept HLE2.out (fun g hg => hfD.block g ((HLE2.out.lt g hg).2) (by have := (HLE2.out.lt g hg).1; have := HQA.out; simp; omega)))
              obtain ⟨X, hX⟩ : ∃ z, ((ws1 ws drop).filter (fun x => decide (x.until_ ≤ T))).length = z := ⟨_, rfl⟩
              rw [show ((⟨200, x, ws1 ws drop⟩ : TbP).ws.filter (fun x => decide (x.until_ ≤ T))).length = X from hX]
              rw [hX] at HEX
              clear htD hcD hfD hvD hX HOE HLE2
              go_wp2_with fail
              refine (waits_any cD q ⟨200, x, ws3 ws drop T⟩ wD HOF.out.tb (by have h1 := H3L.out; have := HLE.out; show (ws3 ws drop T).length ≤ 10000; omega)).mono ?_; rintro e wE ⟨vE, rfl, hvE, hbE⟩
              rw [show (⟨200, x, ws3 ws drop T⟩ : TbP).ws.length = L from H3L.out] at hvE
              obtain ⟨ea, ec, rfl, -, hen⟩ := cellsK_own hvE
              have HVE := Lib.hid (show wE.ownsRow wD.heap.size 79 9 (.slice ea L ec) L (flatW (ws3 ws drop T)) from hvE)
              have HOG := Lib.hid (HOF.out.below hbE)
              have HLG := Lib.hid (own_below' HLF.out hbE)
              have nL : (L != L) = false := by simp
              obtain ⟨M2, hM2⟩ : ∃ z, M1 - L = z := ⟨_, rfl⟩
              have hXM : X = M2 := by have := HEX.out; have := HDLN.out; omega
              have we2 : IntKind.i64.wrap ((M1 : Int) - (L : Int)) = (M2 : Int) := by rw [IntKind.wrap_i64]; have := HEX.out; have := HDLN.out; have := HNN.out.1; omega
              subst hXM
              have nX : (X != X) = false := by simp
              clear hvE hbE hen hM2 HOF HLF
              go_wp2_with fail
              go_loopw [22] (fun i wr => ∃ t : Nat, t ≤ L ∧ i = .int .i64 t ∧ Hid (Below wE.heap.size wE wr)) (fun i _ => L - (intOf i).toNat)
              case atStart => exact ⟨0, Nat.zero_le _, rfl, Lib.hid (Below.refl _ _)⟩
              case round =>
                obtain ⟨k, hk, rfl, HBK⟩ := hrel
                have hL100 := HLE.out
                by_cases hlt : k < L
                · have dd : decide ((k : Int) < (L : Int)) = true := dT (by omega)
                  have dn : decide (k < L) = true := dT hlt
                  obtain ⟨gw, c', e⟩ : ∃ gb c', (Value.slice ea L ec) = .slice (some ⟨gb, 0, none⟩) L c' := by
                    rcases HVE.out.2 with ⟨_, h1⟩ | ⟨g', cap, cur, e, _⟩
                    · omega
                    · exact ⟨g', cap, e⟩
                  injection e with e1 _ e3
                  subst e1
                  subst e3
                  obtain ⟨gl, c', e⟩ : ∃ gb c', (Value.slice la L lc) = .slice (some ⟨gb, 0, none⟩) L c' := by
                    rcases HLG.out.2 with ⟨_, h1⟩ | ⟨g', cap, cur, e, _⟩
                    · omega
                    · exact ⟨g', cap, e⟩
                  injection e with e1 _ e3
                  subst e1
                  subst e3
                  obtain ⟨r, hr⟩ : ∃ r, (ws3 ws drop T)[k]? = some r := ⟨_, List.getElem?_eq_getElem (by rw [H3L.out]; exact hlt)⟩
                  have HRR := Lib.hid hr
                  obtain ⟨-, -, -, -, -, -, -, f7, f8⟩ := row_cellsW (own_below' HVE.out HBK.out) hr
                  have hjj : lj[k]? = some r.job := by rw [← H3J.out, List.getElem?_map, hr]; rfl
                  have fl := ownsRow_at (own_below' HLG.out HBK.out) k (.int .i64 r.job) (by rw [ic, List.getElem?_map, hjj]; rfl)
                  obtain ⟨rj, hrj⟩ : ∃ z, r.job = z := ⟨_, rfl⟩
                  obtain ⟨ru, hru⟩ : ∃ z, r.until_ = z := ⟨_, rfl⟩
                  rw [hrj] at f7 fl
                  rw [hru] at f8
                  have HRU := Lib.hid hru
                  have nJ : (rj != rj) = false := by simp
                  have i1 : (0 : Int) ≤ (k : Int) := by omega
                  have i2 : (k : Int) < (L : Int) := by omega
                  have HLT := Lib.hid hlt
                  clear hr hjj hrj hru hlt
                  by_cases hk0 : k = 0
                  · subst hk0
                    have z0 : decide ((0 : Int) < ((0 : Nat) : Int)) = false := rfl
                    go_wp2_with fail
                    go_quiet (fail)
                    rename_i nq
                    have HB9 := Lib.hid (below_drewN HBK.out nq)
                    go_wp2
                    go_roundw
                    case rel => exact ⟨1, HLT.out, by go_num, HB9⟩
                    case measure =>
                      simp only [intOf]
                      have := HLT.out
                      omega
                  · obtain ⟨k0, hk0e⟩ : ∃ z, k - 1 = z := ⟨_, rfl⟩
                    have z0 : decide ((0 : Int) < (k : Int)) = true := dT (by omega)
                    have z1 : decide (0 < k) = true := dT (by omega)
                    have wk : IntKind.i64.wrap ((k : Int) - 1) = (k0 : Int) := by rw [IntKind.wrap_i64]; omega
                    obtain ⟨p, hp⟩ : ∃ r, (ws3 ws drop T)[k0]? = some r := ⟨_, List.getElem?_eq_getElem (by rw [H3L.out]; have := HLT.out; omega)⟩
                    obtain ⟨-, -, -, -, -, -, -, -, p8⟩ := row_cellsW (own_below' HVE.out HBK.out) hp
                    have hrise := H3R.out k0 p r hp (by rw [show k0 + 1 = k by omega]; exact HRR.out)
                    obtain ⟨pu, hpu⟩ : ∃ z, p.until_ = z := ⟨_, rfl⟩
                    rw [hpu] at p8 hrise
                    rw [HRU.out] at hrise
                    have z2 : decide (ru < pu) = false := dF (by omega)
                    have j1 : (0 : Int) ≤ (k0 : Int) := by omega
                    have j2 : (k0 : Int) < (L : Int) := by have := HLT.out; omega
                    clear hp hrise hpu hk0 hk0e
                    go_wp2_with fail
                    go_quiet (fail)
                    rename_i nq
                    have HB9 := Lib.hid (below_drewN HBK.out nq)
                    go_wp2
                    go_roundw
                    case rel => exact ⟨k + 1, HLT.out, by go_num, HB9⟩
                    case measure =>
                      simp only [intOf]
                      have := HLT.out
                      omega
                · have dd : decide ((k : Int) < (L : Int)) = false := dF (by omega)
                  have dn : decide (k < L) = false := dF hlt
                  have HOH := Lib.hid (HOG.out.below HBK.out)
                  clear hlt
                  go_wp2_with fail
                  refine (first20 wr).mono ?_; rintro e wz ⟨rfl, hbz⟩
                  have HOI := Lib.hid (HOH.out.below hbz)
                  clear hbz
                  go_wp2
                  go_ret
                  exact ⟨rfl, HOI.out.bel⟩
end Go.Proofs.Ytocfphijheidbaa
