/- May a set be: the document's answer. -/
import Derived.Test.YtfopfplpfhncfaaMgA
import Derived.Test.YtfopfplpfhncfaaMyS
namespace Go.Proofs.Ytfopfplpfhncfaa
open Go.RowKit

set_option maxRecDepth 100000 in
set_option maxHeartbeats 3200000 in
theorem rmaySet_any (n : ByteArray) (t c u : Int) (d : List ByteArray) (a : Option Addr) (dn dc : Nat) (w : World) (h : RowS w a dn d) (hl : dn ≤ 100000) (hn : n.size ≤ 1000000) (hd : ∀ j, j < dn → (d.getD j ByteArray.empty).size ≤ 1000000) : Calls Try.prog 22 #[.agg #[.string n, .int .i64 t, .int .i64 c, .int .i64 u, .slice a dn dc]] w fun e w' => (∃ x : Bool, e = .returned (.bool x) ∧ (x = true ↔ MayP ⟨⟨n, t, c⟩, u, d⟩)) ∧ Below w.heap.size w w' := by
  have h1 := (Below.refl w.heap.size w).alloc (Nat.le_refl _) (.cells #[.string n, .int .i64 t, .int .i64 c, .int .i64 u, .slice a dn dc] 37)
  have C1 := Lib.hid (c5_new w (.string n) (.int .i64 t) (.int .i64 c) (.int .i64 u) (.slice a dn dc) 37)
  have HB1 := Lib.hid h1
  have HR := Lib.hid h
  have HDL := Lib.hid h.1
  have HD := Lib.hid hd
  have HRL := Lib.hid (show ∀ k, k < dn → (recs ⟨⟨n, t, c⟩, u, d⟩)[k]? = some ⟨⟨n, t, c⟩, u, d.getD k ByteArray.empty⟩ from fun k hk => by
    have h9 : d.length = dn := h.1
    rw [recs, List.getElem?_map]
    show (d[k]?).map _ = _
    rw [List.getD_eq_getElem?_getD, List.getElem?_eq_getElem (by omega)]; rfl)
  clear h1 h hd
  go_enter Try.func22, Try.ntmps22
  obtain ⟨w1, hw1⟩ : ∃ x, w.alloc (.cells #[.string n, .int .i64 t, .int .i64 c, .int .i64 u, .slice a dn dc] 37) = x := ⟨_, rfl⟩
  obtain ⟨q, hq⟩ : ∃ x, w.heap.size = x := ⟨_, rfl⟩
  rw [hw1] at C1 HB1
  have C1' : C5 w1 q (.string n) (.int .i64 t) (.int .i64 c) (.int .i64 u) (.slice a dn dc) := by rw [← hq]; exact C1.out
  have HW1 := Lib.hid hw1
  have HQ := Lib.hid hq
  have HC := Lib.hid C1'
  clear hw1 hq C1' C1
  go_wp2_with fail
  rw [HW1.out]
  rw [show (Value.pointer (some { block := w.heap.size, off := 0 })) = Value.pointer (some { block := q, off := 0 }) by rw [HQ.out]]
  refine (rrecords_any n t c u d a dn dc w1 (HR.out.below HB1.out) hl).mono ?_; rintro e w2 ⟨v, rfl, hown, hb⟩
  obtain ⟨ga, gc, rfl, hrr, _⟩ := rowR_own hown
  have HRR := Lib.hid hrr
  have HC2 := Lib.hid (HC.out.below hb)
  have HB2 := Lib.hid (HB1.out.trans (hb.mono HB1.out.size))
  clear hb hown hrr HC HB1
  obtain ⟨hqs, p0, p1, p2, p3, p4, _⟩ := HC2.out
  go_wp2_with fail
  go_loopw [4] (fun i wr => ∃ k : Nat, k ≤ dn ∧ i = .int .i64 k ∧ Hid (GoodD n t c u d k) ∧ Hid (Below w2.heap.size w2 wr)) (fun i _ => dn - (intOf i).toNat)
  case atStart => exact ⟨0, Nat.zero_le _, rfl, (fun j hj => absurd hj (by omega)), Below.refl _ _⟩
  case round =>
    obtain ⟨k, hk, rfl, HGD, HBX⟩ := hrel
    have hbx : Below w2.heap.size w2 wr := HBX.out
    have hbw := Lib.hid (HB2.out.trans (hbx.mono HB2.out.size))
    by_cases hlt : k < dn
    · rcases (HR.out.below HB2.out).2 with h9 | ⟨b, o, rfl, hbl, hc⟩
      · omega
      have e0 := hc k hlt
      have hx1s := HD.out k hlt
      obtain ⟨g, go, r, rfl, hgl, hr, z0, z1, z2, z3, z4⟩ := HRR.out.at k hlt
      have hr2 := hr.symm.trans (HRL.out k hlt)
      obtain rfl := Option.some.inj hr2
      obtain ⟨x1, hx1⟩ : ∃ x, d.getD k ByteArray.empty = x := ⟨_, rfl⟩
      rw [hx1] at e0 hx1s
      replace z0 : w2.cell? ⟨g, go + k * 5, none⟩ = some (.string n) := z0
      replace z1 : w2.cell? ⟨g, go + k * 5 + 1, none⟩ = some (.int .i64 t) := z1
      replace z2 : w2.cell? ⟨g, go + k * 5 + 2, none⟩ = some (.int .i64 c) := z2
      replace z3 : w2.cell? ⟨g, go + k * 5 + 3, none⟩ = some (.int .i64 u) := z3
      replace z4 : w2.cell? ⟨g, go + k * 5 + 4, none⟩ = some (.string x1) := by rw [← hx1]; exact z4
      have HX1 := Lib.hid hx1
      have i0 : (0 : Int) ≤ (k : Int) := by omega
      have i2 : (k : Int) < (dn : Int) := by omega
      clear hr hr2
      cases hy : mayR n t c u x1 with
      | false =>
        have HY := Lib.hid hy
        have HF := Lib.hid (may_not (n := n) (t := t) (c := c) (u := u) (d := d) (k := k) (by rw [HDL.out]; exact hlt) (Or.inr (show mayR n t c u (d.getD k ByteArray.empty) = false by rw [HX1.out]; exact hy)))
        clear hy hc hx1
        go_wp2_with fail
        have hfix : Fix w2 [(⟨g, go + k * 5, none⟩, .string n), (⟨g, go + k * 5 + 1, none⟩, .int .i64 t), (⟨g, go + k * 5 + 2, none⟩, .int .i64 c), (⟨g, go + k * 5 + 3, none⟩, .int .i64 u), (⟨g, go + k * 5 + 4, none⟩, .string x1), (⟨q, 4, none⟩, .slice (some ⟨b, o, none⟩) dn dc), (⟨b, o + k, none⟩, .string x1)] wr := ⟨hbx, by
          intro c hc
          simp only [List.mem_cons, List.not_mem_nil, or_false] at hc
          rcases hc with rfl | rfl | rfl | rfl | rfl | rfl | rfl
          · exact ⟨hgl, z0⟩
          · exact ⟨hgl, z1⟩
          · exact ⟨hgl, z2⟩
          · exact ⟨hgl, z3⟩
          · exact ⟨hgl, z4⟩
          · exact ⟨hqs, p4⟩
          · exact ⟨hbl, e0⟩⟩
        have HFX := Lib.hid hfix.drew.all7
        clear hfix
        refine wp_region_held_drew (S := (fun wx => Hid (Fix w2 [(⟨g, go + k * 5, none⟩, .string n), (⟨g, go + k * 5 + 1, none⟩, .int .i64 t), (⟨g, go + k * 5 + 2, none⟩, .int .i64 c), (⟨g, go + k * 5 + 3, none⟩, .int .i64 u), (⟨g, go + k * 5 + 4, none⟩, .string x1), (⟨q, 4, none⟩, .slice (some ⟨b, o, none⟩) dn dc), (⟨b, o + k, none⟩, .string x1)] wx) ∧ wx.cell? ⟨g, go + k * 5, none⟩ = some (.string n) ∧ wx.cell? ⟨g, go + k * 5 + 1, none⟩ = some (.int .i64 t) ∧ wx.cell? ⟨g, go + k * 5 + 2, none⟩ = some (.int .i64 c) ∧ wx.cell? ⟨g, go + k * 5 + 3, none⟩ = some (.int .i64 u) ∧ wx.cell? ⟨g, go + k * 5 + 4, none⟩ = some (.string x1) ∧ wx.cell? ⟨q, 4, none⟩ = some (.slice (some ⟨b, o, none⟩) dn dc) ∧ wx.cell? ⟨b, o + k, none⟩ = some (.string x1))) (by kernel_rfl) (HFX.out) (fun hHeld => ?_)
        refine Plan.of [0, 1, 2, 3] ?_
        iterate 4 (refine Plan.w (v := ?_) rfl hHeld (by rfl) ?_ ?_; rotate_left; (focus (intro w hSw; (try dsimp only at hSw); go_simp; try with_reducible rfl)); try simp only [Act.put, List.setIfInBounds_toArray, List.set_cons_zero, List.set_cons_succ])
        refine Plan.fin ?_
        refine wpAnyH_ready (rs := [4]) (by kernel_rfl) (by simp) ?_
        refine AllReadyH.cons (o := { dst := some 17, op := Go.Op.call { callee := Go.Callee.value (Go.Operand.func 50), args := #[Go.Operand.tmp 16], argTypes := #[91] }, type := 4, pos := "ref.go:615", after := #[{ on := 3, ground := Go.Ground.data }], guard := none }) rfl (fun K hK => ?_) AllReadyH.nil
        go_simp
        refine ((rmayRR_any n t c u x1 _ hn hx1s)).mono ?_; rintro e wy ⟨rfl, hb⟩
        rw [HY.out]
        go_wp2_with fail
        refine hK.out _ _ (Fix.next7 hb hHeld) (fun hHeld2 => ?_)
        clear hK K hHeld
        have hHeld := hHeld2
        clear hHeld2
        try simp only [Act.put, List.setIfInBounds_toArray, List.set_cons_zero, List.set_cons_succ]
        refine Plan.of [5, 6, 7, 8, 9, 10, 11, 12, 13, 14, 15, 16, 17, 18, 19, 20, 21, 22, 23] ?_
        iterate 2 (refine Plan.w (v := ?_) rfl hHeld (by rfl) ?_ ?_; rotate_left; (focus (intro w hSw; (try dsimp only at hSw); go_simp; try with_reducible rfl)); try simp only [Act.put, List.setIfInBounds_toArray, List.set_cons_zero, List.set_cons_succ])
        iterate 16 (refine Plan.n rfl hHeld (by rfl) ?_; try simp only [Act.put, List.setIfInBounds_toArray, List.set_cons_zero, List.set_cons_succ])
        refine Plan.w (v := ?_) rfl hHeld (by rfl) ?_ ?_; rotate_left; (focus (intro w hSw; (try dsimp only at hSw); go_simp; try with_reducible rfl)); try simp only [Act.put, List.setIfInBounds_toArray, List.set_cons_zero, List.set_cons_succ]
        refine Plan.fin ?_
        refine wpAnyH_done (by kernel_rfl) ?_ _
        go_wp2
        go_ret
        exact ⟨⟨false, rfl, ⟨(fun h => by cases h), fun h => absurd h HF.out⟩⟩, HB2.out.trans ((Fix.get7 hHeld).mono HB2.out.size)⟩
      | true =>
        have HY := Lib.hid hy
        by_cases hk0 : k = 0
        · have HORD := Lib.hid (show 0 < k → cmpB (d.getD (k - 1) ByteArray.empty) (d.getD k ByteArray.empty) < 0 from fun h => absurd h (by omega))
          have HN := Lib.hid (may_next HGD.out HORD.out (show mayR n t c u (d.getD k ByteArray.empty) = true by rw [HX1.out]; exact hy))
          have d3 : decide (0 < k) = false := dF (by omega)
          have d4 : decide ((0 : Int) < (k : Int)) = false := dF (by omega)
          clear hy hc hx1 hk0
          go_wp2_with fail
          have hfix : Fix w2 [(⟨g, go + k * 5, none⟩, .string n), (⟨g, go + k * 5 + 1, none⟩, .int .i64 t), (⟨g, go + k * 5 + 2, none⟩, .int .i64 c), (⟨g, go + k * 5 + 3, none⟩, .int .i64 u), (⟨g, go + k * 5 + 4, none⟩, .string x1), (⟨q, 4, none⟩, .slice (some ⟨b, o, none⟩) dn dc), (⟨b, o + k, none⟩, .string x1)] wr := ⟨hbx, by
            intro c hc
            simp only [List.mem_cons, List.not_mem_nil, or_false] at hc
            rcases hc with rfl | rfl | rfl | rfl | rfl | rfl | rfl
            · exact ⟨hgl, z0⟩
            · exact ⟨hgl, z1⟩
            · exact ⟨hgl, z2⟩
            · exact ⟨hgl, z3⟩
            · exact ⟨hgl, z4⟩
            · exact ⟨hqs, p4⟩
            · exact ⟨hbl, e0⟩⟩
          have HFX := Lib.hid hfix.drew.all7
          clear hfix
          refine wp_region_held_drew (S := (fun wx => Hid (Fix w2 [(⟨g, go + k * 5, none⟩, .string n), (⟨g, go + k * 5 + 1, none⟩, .int .i64 t), (⟨g, go + k * 5 + 2, none⟩, .int .i64 c), (⟨g, go + k * 5 + 3, none⟩, .int .i64 u), (⟨g, go + k * 5 + 4, none⟩, .string x1), (⟨q, 4, none⟩, .slice (some ⟨b, o, none⟩) dn dc), (⟨b, o + k, none⟩, .string x1)] wx) ∧ wx.cell? ⟨g, go + k * 5, none⟩ = some (.string n) ∧ wx.cell? ⟨g, go + k * 5 + 1, none⟩ = some (.int .i64 t) ∧ wx.cell? ⟨g, go + k * 5 + 2, none⟩ = some (.int .i64 c) ∧ wx.cell? ⟨g, go + k * 5 + 3, none⟩ = some (.int .i64 u) ∧ wx.cell? ⟨g, go + k * 5 + 4, none⟩ = some (.string x1) ∧ wx.cell? ⟨q, 4, none⟩ = some (.slice (some ⟨b, o, none⟩) dn dc) ∧ wx.cell? ⟨b, o + k, none⟩ = some (.string x1))) (by kernel_rfl) (HFX.out) (fun hHeld => ?_)
          refine Plan.of [0, 1, 2, 3] ?_
          iterate 4 (refine Plan.w (v := ?_) rfl hHeld (by rfl) ?_ ?_; rotate_left; (focus (intro w hSw; (try dsimp only at hSw); go_simp; try with_reducible rfl)); try simp only [Act.put, List.setIfInBounds_toArray, List.set_cons_zero, List.set_cons_succ])
          refine Plan.fin ?_
          refine wpAnyH_ready (rs := [4]) (by kernel_rfl) (by simp) ?_
          refine AllReadyH.cons (o := { dst := some 17, op := Go.Op.call { callee := Go.Callee.value (Go.Operand.func 50), args := #[Go.Operand.tmp 16], argTypes := #[91] }, type := 4, pos := "ref.go:615", after := #[{ on := 3, ground := Go.Ground.data }], guard := none }) rfl (fun K hK => ?_) AllReadyH.nil
          go_simp
          refine ((rmayRR_any n t c u x1 _ hn hx1s)).mono ?_; rintro e wy ⟨rfl, hb⟩
          rw [HY.out]
          go_wp2_with fail
          refine hK.out _ _ (Fix.next7 hb hHeld) (fun hHeld2 => ?_)
          clear hK K hHeld
          have hHeld := hHeld2
          clear hHeld2
          try simp only [Act.put, List.setIfInBounds_toArray, List.set_cons_zero, List.set_cons_succ]
          refine Plan.of [5, 6, 7, 8, 9, 10, 11, 12, 13, 14, 15, 16, 17, 18, 19, 20, 21, 22, 23] ?_
          iterate 5 (refine Plan.w (v := ?_) rfl hHeld (by rfl) ?_ ?_; rotate_left; (focus (intro w hSw; (try dsimp only at hSw); go_simp; try with_reducible rfl)); try simp only [Act.put, List.setIfInBounds_toArray, List.set_cons_zero, List.set_cons_succ])
          iterate 12 (refine Plan.n rfl hHeld (by rfl) ?_; try simp only [Act.put, List.setIfInBounds_toArray, List.set_cons_zero, List.set_cons_succ])
          iterate 2 (refine Plan.w (v := ?_) rfl hHeld (by rfl) ?_ ?_; rotate_left; (focus (intro w hSw; (try dsimp only at hSw); go_simp; try with_reducible rfl)); try simp only [Act.put, List.setIfInBounds_toArray, List.set_cons_zero, List.set_cons_succ])
          refine Plan.fin ?_
          refine wpAnyH_done (by kernel_rfl) ?_ _
          go_wp2
          go_roundw
          case rel => exact ⟨k + 1, by omega, by go_num, HN, Lib.hid (Fix.get7 hHeld)⟩
          case measure => simp [intOf]; omega
        · obtain ⟨k0, hk1⟩ : ∃ k0, k = k0 + 1 := ⟨k - 1, by omega⟩
          have y0 := hc k0 (by omega)
          obtain ⟨x0, hx0⟩ : ∃ x, d.getD k0 ByteArray.empty = x := ⟨_, rfl⟩
          rw [hx0] at y0
          have i6 : k0 < dn := by omega
          have i1 : (k0 : Int) < (dn : Int) := by omega
          have i3 : (k : Int) - 1 = (k0 : Int) := by omega
          have i5 : IntKind.i64.wrap ((k : Int) - 1) = (k0 : Int) := by rw [IntKind.wrap_i64]; omega
          have i7 : IntKind.i64.wrap (k0 : Int) = (k0 : Int) := by rw [IntKind.wrap_i64]; omega
          have hix := ix_st b o dn dc k0 i6
          have d3 : decide (0 < k) = true := dT (by omega)
          have d4 : decide ((0 : Int) < (k : Int)) = true := dT (by omega)
          by_cases hcm : cmpB x0 x1 < 0
          · have HORD := Lib.hid (show 0 < k → cmpB (d.getD (k - 1) ByteArray.empty) (d.getD k ByteArray.empty) < 0 from fun _ => by
              rw [hk1, Nat.add_sub_cancel, ← hk1, hx0, hx1]; exact hcm)
            have HN := Lib.hid (may_next HGD.out HORD.out (show mayR n t c u (d.getD k ByteArray.empty) = true by rw [HX1.out]; exact hy))
            obtain ⟨-, g1, g2, -⟩ := less_of_cmp hcm
            have HK1 := Lib.hid hk1
            clear hx0 hk0 hk1 hcm
            clear hy hc hx1
            go_wp2_with fail
            have hfix : Fix w2 [(⟨g, go + k * 5, none⟩, .string n), (⟨g, go + k * 5 + 1, none⟩, .int .i64 t), (⟨g, go + k * 5 + 2, none⟩, .int .i64 c), (⟨g, go + k * 5 + 3, none⟩, .int .i64 u), (⟨g, go + k * 5 + 4, none⟩, .string x1), (⟨q, 4, none⟩, .slice (some ⟨b, o, none⟩) dn dc), (⟨b, o + k, none⟩, .string x1), (⟨b, o + k0, none⟩, .string x0)] wr := ⟨hbx, by
              intro c hc
              simp only [List.mem_cons, List.not_mem_nil, or_false] at hc
              rcases hc with rfl | rfl | rfl | rfl | rfl | rfl | rfl | rfl
              · exact ⟨hgl, z0⟩
              · exact ⟨hgl, z1⟩
              · exact ⟨hgl, z2⟩
              · exact ⟨hgl, z3⟩
              · exact ⟨hgl, z4⟩
              · exact ⟨hqs, p4⟩
              · exact ⟨hbl, e0⟩
              · exact ⟨hbl, y0⟩⟩
            have HFX := Lib.hid hfix.drew.all8
            clear hfix
            refine wp_region_held_drew (S := (fun wx => Hid (Fix w2 [(⟨g, go + k * 5, none⟩, .string n), (⟨g, go + k * 5 + 1, none⟩, .int .i64 t), (⟨g, go + k * 5 + 2, none⟩, .int .i64 c), (⟨g, go + k * 5 + 3, none⟩, .int .i64 u), (⟨g, go + k * 5 + 4, none⟩, .string x1), (⟨q, 4, none⟩, .slice (some ⟨b, o, none⟩) dn dc), (⟨b, o + k, none⟩, .string x1), (⟨b, o + k0, none⟩, .string x0)] wx) ∧ wx.cell? ⟨g, go + k * 5, none⟩ = some (.string n) ∧ wx.cell? ⟨g, go + k * 5 + 1, none⟩ = some (.int .i64 t) ∧ wx.cell? ⟨g, go + k * 5 + 2, none⟩ = some (.int .i64 c) ∧ wx.cell? ⟨g, go + k * 5 + 3, none⟩ = some (.int .i64 u) ∧ wx.cell? ⟨g, go + k * 5 + 4, none⟩ = some (.string x1) ∧ wx.cell? ⟨q, 4, none⟩ = some (.slice (some ⟨b, o, none⟩) dn dc) ∧ wx.cell? ⟨b, o + k, none⟩ = some (.string x1) ∧ wx.cell? ⟨b, o + k0, none⟩ = some (.string x0))) (by kernel_rfl) (HFX.out) (fun hHeld => ?_)
            refine Plan.of [0, 1, 2, 3] ?_
            iterate 4 (refine Plan.w (v := ?_) rfl hHeld (by rfl) ?_ ?_; rotate_left; (focus (intro w hSw; (try dsimp only at hSw); go_simp; try with_reducible rfl)); try simp only [Act.put, List.setIfInBounds_toArray, List.set_cons_zero, List.set_cons_succ])
            refine Plan.fin ?_
            refine wpAnyH_ready (rs := [4]) (by kernel_rfl) (by simp) ?_
            refine AllReadyH.cons (o := { dst := some 17, op := Go.Op.call { callee := Go.Callee.value (Go.Operand.func 50), args := #[Go.Operand.tmp 16], argTypes := #[91] }, type := 4, pos := "ref.go:615", after := #[{ on := 3, ground := Go.Ground.data }], guard := none }) rfl (fun K hK => ?_) AllReadyH.nil
            go_simp
            refine ((rmayRR_any n t c u x1 _ hn hx1s)).mono ?_; rintro e wy ⟨rfl, hb⟩
            rw [HY.out]
            go_wp2_with fail
            refine hK.out _ _ (Fix.next8 hb hHeld) (fun hHeld2 => ?_)
            clear hK K hHeld
            have hHeld := hHeld2
            clear hHeld2
            try simp only [Act.put, List.setIfInBounds_toArray, List.set_cons_zero, List.set_cons_succ]
            refine Plan.of [5, 6, 7, 8, 9, 10, 11, 12, 13, 14, 15, 16, 17, 18, 19, 20, 21, 22, 23] ?_
            iterate 19 (refine Plan.w (v := ?_) rfl hHeld (by rfl) ?_ ?_; rotate_left; (focus (intro w hSw; (try dsimp only at hSw); go_simp; try with_reducible rfl)); try simp only [Act.put, List.setIfInBounds_toArray, List.set_cons_zero, List.set_cons_succ])
            refine Plan.fin ?_
            refine wpAnyH_done (by kernel_rfl) ?_ _
            go_wp2
            go_roundw
            case rel => exact ⟨k + 1, by omega, by go_num, HN, Lib.hid (Fix.get8 hHeld)⟩
            case measure => simp [intOf]; omega
          · have g1 : (Op.bytesLess x1.toList x0.toList || x1.toList == x0.toList) = true := by
              rw [bytesLess_cmp, Lib.toList_data, Lib.toList_data]
              by_cases he : x1 = x0
              · rw [he]; simp
              · have h1 := ord_cmpB.zero x0 x1
                have h2 := ord_cmpB.anti x0 x1
                have h3 : cmpB x0 x1 ≠ 0 := fun e => he (h1.1 e).symm
                rw [show decide (Lib.compareBytes x1.data.toList x0.data.toList < 0) = true from dT (show cmpB x1 x0 < 0 by omega)]
                rfl
            have HF := Lib.hid (may_not (n := n) (t := t) (c := c) (u := u) (d := d) (k := k) (by rw [HDL.out]; exact hlt) (Or.inl ⟨by omega, by rw [hk1, Nat.add_sub_cancel, ← hk1, hx0, hx1]; exact hcm⟩))
            have HK1 := Lib.hid hk1
            clear hx0 hk0 hk1 hcm
            clear hy hc hx1
            go_wp2_with fail
            have hfix : Fix w2 [(⟨g, go + k * 5, none⟩, .string n), (⟨g, go + k * 5 + 1, none⟩, .int .i64 t), (⟨g, go + k * 5 + 2, none⟩, .int .i64 c), (⟨g, go + k * 5 + 3, none⟩, .int .i64 u), (⟨g, go + k * 5 + 4, none⟩, .string x1), (⟨q, 4, none⟩, .slice (some ⟨b, o, none⟩) dn dc), (⟨b, o + k, none⟩, .string x1), (⟨b, o + k0, none⟩, .string x0)] wr := ⟨hbx, by
              intro c hc
              simp only [List.mem_cons, List.not_mem_nil, or_false] at hc
              rcases hc with rfl | rfl | rfl | rfl | rfl | rfl | rfl | rfl
              · exact ⟨hgl, z0⟩
              · exact ⟨hgl, z1⟩
              · exact ⟨hgl, z2⟩
              · exact ⟨hgl, z3⟩
              · exact ⟨hgl, z4⟩
              · exact ⟨hqs, p4⟩
              · exact ⟨hbl, e0⟩
              · exact ⟨hbl, y0⟩⟩
            have HFX := Lib.hid hfix.drew.all8
            clear hfix
            refine wp_region_held_drew (S := (fun wx => Hid (Fix w2 [(⟨g, go + k * 5, none⟩, .string n), (⟨g, go + k * 5 + 1, none⟩, .int .i64 t), (⟨g, go + k * 5 + 2, none⟩, .int .i64 c), (⟨g, go + k * 5 + 3, none⟩, .int .i64 u), (⟨g, go + k * 5 + 4, none⟩, .string x1), (⟨q, 4, none⟩, .slice (some ⟨b, o, none⟩) dn dc), (⟨b, o + k, none⟩, .string x1), (⟨b, o + k0, none⟩, .string x0)] wx) ∧ wx.cell? ⟨g, go + k * 5, none⟩ = some (.string n) ∧ wx.cell? ⟨g, go + k * 5 + 1, none⟩ = some (.int .i64 t) ∧ wx.cell? ⟨g, go + k * 5 + 2, none⟩ = some (.int .i64 c) ∧ wx.cell? ⟨g, go + k * 5 + 3, none⟩ = some (.int .i64 u) ∧ wx.cell? ⟨g, go + k * 5 + 4, none⟩ = some (.string x1) ∧ wx.cell? ⟨q, 4, none⟩ = some (.slice (some ⟨b, o, none⟩) dn dc) ∧ wx.cell? ⟨b, o + k, none⟩ = some (.string x1) ∧ wx.cell? ⟨b, o + k0, none⟩ = some (.string x0))) (by kernel_rfl) (HFX.out) (fun hHeld => ?_)
            refine Plan.of [0, 1, 2, 3] ?_
            iterate 4 (refine Plan.w (v := ?_) rfl hHeld (by rfl) ?_ ?_; rotate_left; (focus (intro w hSw; (try dsimp only at hSw); go_simp; try with_reducible rfl)); try simp only [Act.put, List.setIfInBounds_toArray, List.set_cons_zero, List.set_cons_succ])
            refine Plan.fin ?_
            refine wpAnyH_ready (rs := [4]) (by kernel_rfl) (by simp) ?_
            refine AllReadyH.cons (o := { dst := some 17, op := Go.Op.call { callee := Go.Callee.value (Go.Operand.func 50), args := #[Go.Operand.tmp 16], argTypes := #[91] }, type := 4, pos := "ref.go:615", after := #[{ on := 3, ground := Go.Ground.data }], guard := none }) rfl (fun K hK => ?_) AllReadyH.nil
            go_simp
            refine ((rmayRR_any n t c u x1 _ hn hx1s)).mono ?_; rintro e wy ⟨rfl, hb⟩
            rw [HY.out]
            go_wp2_with fail
            refine hK.out _ _ (Fix.next8 hb hHeld) (fun hHeld2 => ?_)
            clear hK K hHeld
            have hHeld := hHeld2
            clear hHeld2
            try simp only [Act.put, List.setIfInBounds_toArray, List.set_cons_zero, List.set_cons_succ]
            refine Plan.of [5, 6, 7, 8, 9, 10, 11, 12, 13, 14, 15, 16, 17, 18, 19, 20, 21, 22, 23] ?_
            iterate 19 (refine Plan.w (v := ?_) rfl hHeld (by rfl) ?_ ?_; rotate_left; (focus (intro w hSw; (try dsimp only at hSw); go_simp; try with_reducible rfl)); try simp only [Act.put, List.setIfInBounds_toArray, List.set_cons_zero, List.set_cons_succ])
            refine Plan.fin ?_
            refine wpAnyH_done (by kernel_rfl) ?_ _
            go_wp2
            go_ret
            exact ⟨⟨false, rfl, ⟨(fun h => by cases h), fun h => absurd h HF.out⟩⟩, HB2.out.trans ((Fix.get8 hHeld).mono HB2.out.size)⟩
    · have hkn : k = dn := by omega
      subst hkn
      by_cases hz : 0 < k
      · have HF := Lib.hid (show MayP ⟨⟨n, t, c⟩, u, d⟩ from ⟨by show 0 < d.length; rw [HDL.out]; exact hz, by show GoodD n t c u d d.length; rw [HDL.out]; exact HGD.out⟩)
        have d5 : decide ((0 : Int) < (k : Int)) = true := dT (by omega)
        have d6 : decide (0 < k) = true := dT (by omega)
        go_wp2
        go_ret
        exact ⟨⟨true, rfl, ⟨fun _ => HF.out, fun _ => rfl⟩⟩, hbw.out⟩
      · have HF := Lib.hid (show ¬ MayP ⟨⟨n, t, c⟩, u, d⟩ from fun h => by
          have h1 : 0 < d.length := h.1
          rw [HDL.out] at h1; exact hz h1)
        have d5 : decide ((0 : Int) < (k : Int)) = false := dF (by omega)
        have d6 : decide (0 < k) = false := dF (by omega)
        go_wp2
        go_ret
        exact ⟨⟨false, rfl, ⟨(fun h => by cases h), fun h => absurd h HF.out⟩⟩, hbw.out⟩
end Go.Proofs.Ytfopfplpfhncfaa
