/- The document's records of a set, of sets; the set of a key; rows of records alike. -/
import Derived.Test.YtfopfplpfhncfaaMgA
import Derived.Test.YtfopfplpfhncfaaCpR
import Derived.Test.YtfopfplpfhncfaaMgE
import Derived.Test.YtfopfplpfhncfaaFla
import Derived.Test.YtfopfplpfhncfaaFix
namespace Go.Proofs.Ytfopfplpfhncfaa
open Go.RowKit

set_option maxRecDepth 100000 in
set_option maxHeartbeats 1600000 in
theorem rrecords_any (n : ByteArray) (t c u : Int) (d : List ByteArray) (a : Option Addr) (dn dc : Nat) (w : World) (h : RowS w a dn d) (hl : dn ≤ 100000) : Calls Try.prog 19 #[.agg #[.string n, .int .i64 t, .int .i64 c, .int .i64 u, .slice a dn dc]] w fun e w' => ∃ v, e = .returned v ∧ w'.ownsRow w.heap.size 91 5 v dn (flatR (recs ⟨⟨n, t, c⟩, u, d⟩)) ∧ Below w.heap.size w w' := by
  obtain ⟨i0, hi, hz0, hz1, hz2⟩ := info_parts infoRR
  have HI := Lib.hid hi
  have HZ0 := Lib.hid hz0
  have HZ1 := Lib.hid hz1
  have HZ2 := Lib.hid hz2
  have h1 := (Below.refl w.heap.size w).alloc (Nat.le_refl _) (.cells #[.string n, .int .i64 t, .int .i64 c, .int .i64 u, .slice a dn dc] 37)
  have C1 := Lib.hid (c5_new w (.string n) (.int .i64 t) (.int .i64 c) (.int .i64 u) (.slice a dn dc) 37)
  have HB1 := Lib.hid h1
  have HR := Lib.hid h
  have HL := Lib.hid (show (recs ⟨⟨n, t, c⟩, u, d⟩).length = dn by rw [recs, List.length_map]; exact h.1)
  have HDL := Lib.hid h.1
  clear h1 h hz0 hz1 hz2 hi
  go_enter Try.func19, Try.ntmps19
  go_wp2_with fail
  obtain ⟨w1, hw1⟩ : ∃ x, w.alloc (.cells #[.string n, .int .i64 t, .int .i64 c, .int .i64 u, .slice a dn dc] 37) = x := ⟨_, rfl⟩
  rw [hw1] at C1 HB1 ⊢
  clear hw1
  obtain ⟨q, hq⟩ : ∃ x, w.heap.size = x := ⟨_, rfl⟩
  rw [show (Value.pointer (some { block := w.heap.size, off := 0 })) = Value.pointer (some { block := q, off := 0 }) by rw [hq]]
  replace C1 : Hid (C5 w1 q (.string n) (.int .i64 t) (.int .i64 c) (.int .i64 u) (.slice a dn dc)) := by rw [← hq]; exact C1
  have HQ := Lib.hid hq
  clear hq
  have hlt1 := C1.out.1
  go_loopw [3, 4] (fun v i wr => ∃ k : Nat, k ≤ dn ∧ i = .int .i64 k ∧ Hid (wr.ownsRow w1.heap.size 91 5 v k (flatR ((recs ⟨⟨n, t, c⟩, u, d⟩).take k))) ∧ Hid (Below w1.heap.size w1 wr)) (fun _ i _ => dn - (intOf i).toNat)
  case atStart => exact ⟨0, Nat.zero_le _, rfl, World.ownsRow_nil _ _ _ _, Below.refl _ _⟩
  case round =>
    obtain ⟨k, hk, rfl, ho, hbw⟩ := hrel
    by_cases hlt : k < dn
    · rcases (HR.out.below HB1.out).2 with h9 | ⟨b, o, rfl, hbl, hc⟩
      · omega
      have e0 := hc k hlt
      have hlk : (recs ⟨⟨n, t, c⟩, u, d⟩).take (k + 1) = (recs ⟨⟨n, t, c⟩, u, d⟩).take k ++ [⟨⟨n, t, c⟩, u, d.getD k ByteArray.empty⟩] := by
        rw [List.take_succ_eq_append_getElem (by have := HL.out; omega)]
        simp only [recs, List.getElem_map]
        rw [List.getD_eq_getElem?_getD, List.getElem?_eq_getElem (by have := HDL.out; omega)]
        rfl
      obtain ⟨x, hx⟩ : ∃ x, d.getD k ByteArray.empty = x := ⟨_, rfl⟩
      rw [hx] at e0 hlk
      have HN := Lib.hid hlk
      obtain ⟨hqs, p0, p1, p2, p3, p4, _⟩ := C1.out
      have hfix : Fix w1 [(⟨q, 0, none⟩, .string n), (⟨q, 1, none⟩, .int .i64 t), (⟨q, 2, none⟩, .int .i64 c), (⟨q, 3, none⟩, .int .i64 u), (⟨q, 4, none⟩, .slice (some ⟨b, o, none⟩) dn dc), (⟨b, o + k, none⟩, .string x)] wr := ⟨hbw.out, by
        intro c hc
        simp only [List.mem_cons, List.not_mem_nil, or_false] at hc
        rcases hc with rfl | rfl | rfl | rfl | rfl | rfl
        · exact ⟨hqs, p0⟩
        · exact ⟨hqs, p1⟩
        · exact ⟨hqs, p2⟩
        · exact ⟨hqs, p3⟩
        · exact ⟨hqs, p4⟩
        · exact ⟨hbl, e0⟩⟩
      have HFX := Lib.hid hfix.drew.all6
      have i0' : (0 : Int) ≤ (k : Int) := by omega
      have i2 : (k : Int) < (dn : Int) := by omega
      obtain ⟨hqs, p0, p1, p2, p3, p4, _⟩ := C1.out.below hbw.out
      go_wp2_with fail
      clear hc hx hlk hfix p0 p1 p2 p3 p4 e0
      refine wp_region_held_drew (S := (fun wx => Hid (Fix w1 [(⟨q, 0, none⟩, .string n), (⟨q, 1, none⟩, .int .i64 t), (⟨q, 2, none⟩, .int .i64 c), (⟨q, 3, none⟩, .int .i64 u), (⟨q, 4, none⟩, .slice (some ⟨b, o, none⟩) dn dc), (⟨b, o + k, none⟩, .string x)] wx) ∧ wx.cell? ⟨q, 0, none⟩ = some (.string n) ∧ wx.cell? ⟨q, 1, none⟩ = some (.int .i64 t) ∧ wx.cell? ⟨q, 2, none⟩ = some (.int .i64 c) ∧ wx.cell? ⟨q, 3, none⟩ = some (.int .i64 u) ∧ wx.cell? ⟨q, 4, none⟩ = some (.slice (some ⟨b, o, none⟩) dn dc) ∧ wx.cell? ⟨b, o + k, none⟩ = some (.string x))) (by kernel_rfl) (HFX.out) (fun hHeld => ?_)
      refine Plan.of [0, 1, 2, 3, 4, 5, 6, 7, 8, 9, 10, 11, 12, 13, 14, 15, 16, 17] ?_
      iterate 18 (refine Plan.w (v := ?_) rfl hHeld (by rfl) ?_ ?_; rotate_left; (focus (intro w hSw; (try dsimp only at hSw); go_simp; try with_reducible rfl)); try simp only [Act.put, List.setIfInBounds_toArray, List.set_cons_zero, List.set_cons_succ])
      refine Plan.fin ?_
      refine wpAnyH_ready (rs := [18]) (by kernel_rfl) (by simp) ?_
      refine AllReadyH.cons (o := { dst := some 30, op := Go.Op.buildSlice 22 1 #[(0, Go.Operand.tmp 29)], type := 22, pos := "ref.go:571", after := #[{ on := 17, ground := Go.Ground.data }], guard := none }) rfl (fun K hK => ?_) AllReadyH.nil
      go_simp
      have HO2 := Lib.hid ((own_below' ho.out ((Below.refl wr.heap.size wr).drew)).alloc (.cells #[.string n, .int .i64 t, .int .i64 c, .int .i64 u, .string x] 91))
      have HC2 := Lib.hid (cells_lit wr.drew #[.string n, .int .i64 t, .int .i64 c, .int .i64 u, .string x] 91)
      refine hK.out _ _ (Fix.next6 ((Below.refl _ _).alloc (Nat.le_refl _) _) hHeld) (fun hHeld2 => ?_)
      clear hK K hHeld
      have hHeld := hHeld2
      clear hHeld2
      try simp only [Act.put, List.setIfInBounds_toArray, List.set_cons_zero, List.set_cons_succ]
      refine wpAnyH_ready (rs := [19]) (by kernel_rfl) (by simp) ?_
      refine AllReadyH.cons (o := { dst := some 31, op := Go.Op.call { callee := Go.Callee.builtin Go.Builtin.append, args := #[Go.Operand.tmp 12, Go.Operand.tmp 30], argTypes := #[22, 22] }, type := 22, pos := "ref.go:571", after := #[{ on := 0, ground := Go.Ground.data }, { on := 18, ground := Go.Ground.data }], guard := none }) rfl (fun K hK => ?_) AllReadyH.nil
      refine step_append_cellsK (by rfl) _ _ 22 91 (by rfl) i0 _ 5 56 Try.underlying22 HI.out HZ0.out HZ1.out HZ2.out rfl (by decide) w1.heap.size _ k _ (by rfl) HO2.out (some ⟨wr.heap.size, 0, none⟩) 1 1 (encR ⟨⟨n, t, c⟩, u, x⟩) (by rfl) (fun h => by cases h) HC2.out (fun v hv => flatR_one [⟨⟨n, t, c⟩, u, x⟩] v (by simpa [flatR] using hv)) (by omega) (by decide) (Fix.get6 hHeld).size ?_
      intro v' w6 hown' hgrow'
      have HO3 := Lib.hid hown'
      refine hK.out _ _ ((Fix.grown hHeld.1.out hgrow' (fun k hk => (HO2.out.lt k hk).1)).all6) (fun hHeld2 => ?_)
      clear hK K hHeld
      have hHeld := hHeld2
      clear hHeld2
      try simp only [Act.put, List.setIfInBounds_toArray, List.set_cons_zero, List.set_cons_succ]
      refine Plan.of [20] ?_
      refine Plan.w (v := ?_) rfl hHeld (by rfl) ?_ ?_; rotate_left; (focus (intro w hSw; (try dsimp only at hSw); go_simp; try with_reducible rfl)); try simp only [Act.put, List.setIfInBounds_toArray, List.set_cons_zero, List.set_cons_succ]
      refine Plan.fin ?_
      refine wpAnyH_done (by kernel_rfl) ?_ _
      go_wp2
      go_roundw
      case rel => exact ⟨k + 1, by omega, by go_num, Lib.hid (by rw [HN.out, flatR_append]; simpa [flatR] using HO3.out), Lib.hid (Fix.get6 hHeld)⟩
      case measure => simp [intOf]; omega
    · have hkn : k = dn := by omega
      subst hkn
      obtain ⟨hqs, p0, p1, p2, p3, p4, _⟩ := C1.out.below hbw.out
      have HF := Lib.hid (show wr.ownsRow w1.heap.size 91 5 u3 k (flatR (recs ⟨⟨n, t, c⟩, u, d⟩)) by
        have h1 := ho.out
        rw [List.take_of_length_le (by rw [HL.out]; exact Nat.le_refl _)] at h1
        exact h1)
      have HBW := Lib.hid (HB1.out.trans (hbw.out.mono HB1.out.size))
      have hw1s := HB1.out.size
      clear ho hbw
      go_wp2
      go_ret
      exact ⟨_, rfl, own_mono4 HF.out hw1s, HBW.out⟩

set_option maxRecDepth 100000 in
set_option maxHeartbeats 1600000 in
theorem rflat_any (a : Option Addr) (len cap : Nat) (L : List SetP) (w : World) (h : SetsAt w a len L) (hlen : len ≤ 100000) (hsum : (flatP L).length ≤ 100000) :
    Calls Try.prog 27 #[.slice a len cap] w fun e w' => ∃ v, e = .returned v ∧ w'.ownsRow w.heap.size 91 5 v (flatP L).length (flatR (flatP L)) ∧ Below w.heap.size w w' := by
  obtain ⟨i0, hi, hz0, hz1, hz2⟩ := info_parts infoRR
  have HR := Lib.hid h
  have HL := Lib.hid h.1
  clear h
  go_enter Try.func27, Try.ntmps27
  go_wp2_with fail
  go_loopw [3, 4] (fun v i wr => ∃ k m : Nat, k ≤ len ∧ i = .int .i64 k ∧ Hid ((flatP (L.take k)).length = m) ∧ Hid (wr.ownsRow w.heap.size 91 5 v m (flatR (flatP (L.take k)))) ∧ Hid (Below w.heap.size w wr)) (fun _ i _ => len - (intOf i).toNat)
  case atStart => exact ⟨0, 0, Nat.zero_le _, rfl, rfl, World.ownsRow_nil _ _ _ _, Below.refl _ _⟩
  case round =>
    obtain ⟨k, m, hk, rfl, hm, ho, hbw⟩ := hrel
    by_cases hlt : k < len
    · rcases (HR.out.below hbw.out).2 with h9 | ⟨b, o, rfl, hbl, hc⟩
      · omega
      obtain ⟨p, c, hs⟩ := hc k hlt
      have hLk : L[k]? = some (L.getD k ssD) := by
        rw [List.getD_eq_getElem?_getD, List.getElem?_eq_getElem (by have := HL.out; omega)]; rfl
      obtain ⟨s, hss⟩ : ∃ s, L.getD k ssD = s := ⟨_, rfl⟩
      rw [hss] at hs hLk
      obtain ⟨⟨sn, st, sc1⟩, su, sd⟩ := s
      obtain ⟨dl, hdl2⟩ : ∃ x, sd.length = x := ⟨_, rfl⟩
      obtain ⟨c0, c1, c2, c3, c4, hrow, hnil⟩ := hs
      replace c0 : wr.cell? ⟨b, o + k * 5, none⟩ = some (.string sn) := c0
      replace c1 : wr.cell? ⟨b, o + k * 5 + 1, none⟩ = some (.int .i64 st) := c1
      replace c2 : wr.cell? ⟨b, o + k * 5 + 2, none⟩ = some (.int .i64 sc1) := c2
      replace c3 : wr.cell? ⟨b, o + k * 5 + 3, none⟩ = some (.int .i64 su) := c3
      replace c4 : wr.cell? ⟨b, o + k * 5 + 4, none⟩ = some (.slice p sd.length c) := c4
      replace hrow : RowS wr p sd.length sd := hrow
      rw [hdl2] at c4 hrow
      have hft := flatP_take L k _ hLk
      have hlr : (recs ⟨⟨sn, st, sc1⟩, su, sd⟩).length = dl := by rw [recs, List.length_map]; exact hdl2
      have hle := flatP_le L (k + 1)
      rw [hft, List.length_append, hlr, hm.out] at hle
      have HFT := Lib.hid hft
      have HLR := Lib.hid hlr
      have HROW := Lib.hid hrow
      have hdlb : dl ≤ 100000 := by omega
      have hmb : m + dl ≤ 1000000 := by omega
      clear hc hss hdl2 hrow hnil hLk hft hlr hle
      go_wp2_with fail
      refine (rrecords_any sn st sc1 su sd p dl c _ HROW.out hdlb).mono ?_; rintro e w2 ⟨v2, rfl, hown, hb⟩
      obtain ⟨a2, cc2, rfl, hrr, hnn⟩ := rowR_own hown
      have HRR := Lib.hid hrr
      have HNN := Lib.hid hnn
      have HO2 := Lib.hid (own_below' ho.out hb)
      have HB2 := Lib.hid (hbw.out.trans (hb.mono hbw.out.size))
      clear hb hown hrr hnn c0 c1 c2 c3 c4
      go_wp2_with (at_builtin; refine append_cellsK rfl _ _ 22 91 rfl i0 _ 5 56 Try.underlying22 hi hz0 hz1 hz2 rfl (by decide) w.heap.size _ m _ rfl HO2.out a2 dl cc2 (flatR (recs ⟨⟨sn, st, sc1⟩, su, sd⟩)) rfl HNN.out HRR.out.2 (flatR_one _) hmb (by decide) HB2.out.size ?_)
      intro v' w3 hown' hgrow'
      have HO3 := Lib.hid hown'
      have HB3 := Lib.hid (HB2.out.grown hgrow' HB2.out.size (fun k hk => (HO2.out.lt k hk).1))
      clear hown' hgrow'
      go_wp2
      go_roundw
      case rel => exact ⟨k + 1, m + dl, by omega, by go_num, Lib.hid (by rw [HFT.out, List.length_append, hm.out, HLR.out]), Lib.hid (by rw [HFT.out, flatR_append]; exact HO3.out), HB3⟩
      case measure => simp [intOf]; omega
    · have HF := Lib.hid (show wr.ownsRow w.heap.size 91 5 u3 (flatP L).length (flatR (flatP L)) by
        have h1 := ho.out
        have h2 := hm.out
        rw [List.take_of_length_le (by rw [HL.out]; omega)] at h1 h2
        rw [h2]; exact h1)
      clear ho hm
      go_wp2
      go_ret
      exact ⟨_, rfl, HF.out, hbw.out⟩
end Go.Proofs.Ytfopfplpfhncfaa
