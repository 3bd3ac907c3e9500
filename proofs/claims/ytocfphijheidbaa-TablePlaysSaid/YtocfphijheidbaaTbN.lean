/- Open where there is no room, or the time is out of range: its contract (written by mktbn.py). -/
import Derived.Test.YtocfphijheidbaaTbM
namespace Go.Proofs.Ytocfphijheidbaa
open Go.RowKit

set_option maxRecDepth 100000 in
set_option maxHeartbeats 8000000 in
theorem open_no (bs : List Nat) (q : Nat) (s : TbP) (now job : Int) (tx : ByteArray) (tcp : Bool) (nm : ByteArray) (ty cl : Int) (er : Int) (w : World) (h : TbS w bs q s) (hn : s.ws.length ≤ 5000) (hno : (s.most ≤ (s.ws.length : Int) ∧ er = 8) ∨ ((s.ws.length : Int) < s.most ∧ (now < 0 ∨ 1099511627776 < now) ∧ er = 1)) :
    Calls Try.prog 43 #[.pointer (some ⟨q, 0, none⟩), .int .i64 now, .int .i64 job, .string tx, .bool tcp, .agg #[.string nm, .int .i64 ty, .int .i64 cl]] w fun e w' => e = .returned (.tuple #[.agg #[.int .i64 0, .int .i64 0, .string ⟨#[]⟩, .bool false, .string ⟨#[]⟩, .int .i64 0, .int .i64 0, .int .i64 0, .int .i64 0], .int .i64 er]) ∧ TbS w' bs q s ∧ Frm w w' bs := by
  have HNN := Lib.hid hn
  have hqb := h.choose_spec.2.1.1
  have hq := h.lt q hqb
  have HQB := Lib.hid (show q ∈ bs ∧ q < w.heap.size ∧ ∀ b ∈ bs, b < w.heap.size from ⟨hqb, hq, h.lt⟩)
  have b1 := (Below.refl w.heap.size w).alloc (Nat.le_refl _) (.cells #[.string nm, .int .i64 ty, .int .i64 cl] 66)
  have q1 := HeldT.new w #[.string nm, .int .i64 ty, .int .i64 cl] 66
  have b2 := (Below.refl (w.alloc (.cells #[.string nm, .int .i64 ty, .int .i64 cl] 66)).heap.size (w.alloc (.cells #[.string nm, .int .i64 ty, .int .i64 cl] 66))).alloc (Nat.le_refl _) (.cells #[.int .i64 0, .int .i64 0, .string ⟨#[]⟩, .bool false, .string ⟨#[]⟩, .int .i64 0, .int .i64 0, .int .i64 0, .int .i64 0] 79)
  have q2 := q1.below b2
  have r2 := HeldT.new (w.alloc (.cells #[.string nm, .int .i64 ty, .int .i64 cl] 66)) #[.int .i64 0, .int .i64 0, .string ⟨#[]⟩, .bool false, .string ⟨#[]⟩, .int .i64 0, .int .i64 0, .int .i64 0, .int .i64 0] 79
  rw [World.size_alloc] at r2
  have HB := Lib.hid (b1.trans (b2.mono b1.size))
  obtain ⟨w0, hw0⟩ : ∃ z, (w.alloc (.cells #[.string nm, .int .i64 ty, .int .i64 cl] 66)).alloc (.cells #[.int .i64 0, .int .i64 0, .string ⟨#[]⟩, .bool false, .string ⟨#[]⟩, .int .i64 0, .int .i64 0, .int .i64 0, .int .i64 0] 79) = z := ⟨_, rfl⟩
  obtain ⟨gR, hgR⟩ : ∃ z, w.heap.size + 1 = z := ⟨_, rfl⟩
  obtain ⟨gQ, hgQ⟩ : ∃ z, w.heap.size = z := ⟨_, rfl⟩
  rw [hw0] at q2 r2 HB
  rw [hgR] at r2
  rw [hgQ] at q2
  have HQ := Lib.hid q2
  have HR := Lib.hid r2
  have HW0 := Lib.hid hw0
  have HGR := Lib.hid hgR
  have HGQ := Lib.hid hgQ
  have HT := Lib.hid (h.frm (Frm.below (Frm.refl w []) HB.out (Nat.le_refl _)) (fun _ _ h => by simp at h))
  have HF := Lib.hid ((Frm.refl w bs).below HB.out (Nat.le_refl _))
  have HNE := Lib.hid (show w.heap.size = gQ ∧ gR = gQ + 1 ∧ q ≠ gQ ∧ q ≠ gR by omega)
  clear b1 b2 q1 q2 r2 hw0 hgR hgQ hqb hq
  obtain ⟨a, c, c0, c1, c2, f1, f2⟩ := HT.out.parts
  obtain ⟨L, hL⟩ : ∃ z, s.ws.length = z := ⟨_, rfl⟩
  rw [hL] at c2 hno
  have HL := Lib.hid hL
  obtain ⟨mo, hmo⟩ : ∃ z, s.most = z := ⟨_, rfl⟩
  rw [hmo] at c0 hno
  have HGC := Lib.hid (show gR ∉ bs from fun e => by have := HQB.out.2.2 gR e; have := HNE.out; omega)
  have HMO := Lib.hid hmo
  clear hL hmo h hn
  go_enter Try.func43, Try.ntmps43
  go_upto_region 1 with (fail)
  rw [HW0.out, HGR.out, HGQ.out]
  clear HW0 HGR HGQ
  go_quiet (fail)
  rename_i nq
  have hb := below_drewN (Below.refl w0.heap.size w0) nq
  replace HT := Lib.hid (HT.out.below hb)
  replace HR := Lib.hid (HR.out.below hb)
  replace HF := Lib.hid (HF.out.below hb HF.out.size)
  obtain ⟨w1, hw1⟩ : ∃ z, w0.drewN nq = z := ⟨_, rfl⟩
  rw [hw1] at HT HR HF
  have HW1 := Lib.hid hw1
  clear hb hw1
  rcases hno with ⟨hm, rfl⟩ | ⟨hm, ht, rfl⟩
  · have d1 : decide (mo ≤ (L : Int)) = true := dT hm
    go_upto_region 2 with (fail)
    rw [HW1.out]
    clear HW1 c0 c1 c2 f1 f2 d1
    have HTH := Lib.hid (show w1.there gR 0 ([.int .i64 0, .int .i64 0, .string ⟨#[]⟩, .bool false, .string ⟨#[]⟩, .int .i64 0, .int .i64 0, .int .i64 0, .int .i64 0] : List Value).toArray.size from fun j hj => by
      rw [Nat.zero_add]
      have hj9 : j < ([.int .i64 0, .int .i64 0, .string ⟨#[]⟩, .bool false, .string ⟨#[]⟩, .int .i64 0, .int .i64 0, .int .i64 0, .int .i64 0] : List Value).length := hj
      obtain ⟨u, hu⟩ : ∃ u, ([.int .i64 0, .int .i64 0, .string ⟨#[]⟩, .bool false, .string ⟨#[]⟩, .int .i64 0, .int .i64 0, .int .i64 0, .int .i64 0] : List Value)[j]? = some u := ⟨_, List.getElem?_eq_getElem hj9⟩
      obtain ⟨h1, h2⟩ := HR.out.1 j u hu
      exact ⟨by rw [h1]; rfl, h2⟩)
    have HRS := Lib.hid (World.rangeAt_setCells_same w1 gR 0 ([.int .i64 0, .int .i64 0, .string ⟨#[]⟩, .bool false, .string ⟨#[]⟩, .int .i64 0, .int .i64 0, .int .i64 0, .int .i64 0] : List Value) HTH.out)
    have HF9 := Lib.hid (HF.out.sets gR 0 (Or.inr (by have := HNE.out; omega)) [.int .i64 0, .int .i64 0, .string ⟨#[]⟩, .bool false, .string ⟨#[]⟩, .int .i64 0, .int .i64 0, .int .i64 0, .int .i64 0])
    have HT9 := Lib.hid (HT.out.frm ((Frm.refl w1 [gR]).sets gR 0 (Or.inl (by simp)) [.int .i64 0, .int .i64 0, .string ⟨#[]⟩, .bool false, .string ⟨#[]⟩, .int .i64 0, .int .i64 0, .int .i64 0, .int .i64 0]) (fun b hb e => HGC.out (by simp at e; exact e ▸ hb)))
    obtain ⟨w9, hw9⟩ : ∃ z, w1.setCells gR 0 [.int .i64 0, .int .i64 0, .string ⟨#[]⟩, .bool false, .string ⟨#[]⟩, .int .i64 0, .int .i64 0, .int .i64 0, .int .i64 0] = z := ⟨_, rfl⟩
    rw [hw9] at HRS HF9 HT9
    have HW9 := Lib.hid (show w1.setCells gR 0 ([.int .i64 0, .int .i64 0, .string ⟨#[]⟩, .bool false, .string ⟨#[]⟩, .int .i64 0, .int .i64 0, .int .i64 0, .int .i64 0] : List Value).toArray.toList = w9 from hw9)
    have HON := Lib.hid (show ∀ u ∈ ([.int .i64 0, .int .i64 0, .string ⟨#[]⟩, .bool false, .string ⟨#[]⟩, .int .i64 0, .int .i64 0, .int .i64 0, .int .i64 0] : List Value), u.oneCell' = true from encW_one ⟨⟨0, 0, ⟨#[]⟩, false⟩, ⟨⟨#[]⟩, 0, 0⟩, 0, 0⟩)
    clear hw9
    go_wp2_with (first | (refine wpList_store_mid rfl 79 (.tmp 12) (.tmp 26) rfl _ _ _ rfl rfl HTH.out (by kernel_rfl) (all_oneCell_toArray HON.out) ?_; rw [HW9.out]))
    refine bodyPost_ret (v := .tuple #[.agg ([.int .i64 0, .int .i64 0, .string ⟨#[]⟩, .bool false, .string ⟨#[]⟩, .int .i64 0, .int .i64 0, .int .i64 0, .int .i64 0] : List Value).toArray, .int .i64 8]) ?_ rfl ⟨rfl, HT9.out, HF9.out⟩
    rw [results_cell_tmp Try.results43]
    have hr := run_loadVar_mid (P := Try.prog) _ gR 0 79 [.int .i64 0, .int .i64 0, .string ⟨#[]⟩, .bool false, .string ⟨#[]⟩, .int .i64 0, .int .i64 0, .int .i64 0, .int .i64 0] _ HRS.out Try.underlying79 rfl (by kernel_rfl)
    simp [asAddr, hr]
  · have d1 : decide (mo ≤ (L : Int)) = false := dF (by omega)
    have hd : decide (now < 0) = true ∨ (decide (now < 0) = false ∧ decide (1099511627776 < now) = true) := by
      rcases Decidable.em (now < 0) with h1 | h1
      · exact Or.inl (dT h1)
      · exact Or.inr ⟨dF h1, dT (by omega)⟩
    rcases hd with d2 | ⟨d2, d3⟩
    all_goals
      go_upto_region 4 with (fail)
      rw [HW1.out]
      clear HW1 c0 c1 c2 f1 f2 d1
      have HTH := Lib.hid (show w1.there gR 0 ([.int .i64 0, .int .i64 0, .string ⟨#[]⟩, .bool false, .string ⟨#[]⟩, .int .i64 0, .int .i64 0, .int .i64 0, .int .i64 0] : List Value).toArray.size from fun j hj => by
        rw [Nat.zero_add]
        have hj9 : j < ([.int .i64 0, .int .i64 0, .string ⟨#[]⟩, .bool false, .string ⟨#[]⟩, .int .i64 0, .int .i64 0, .int .i64 0, .int .i64 0] : List Value).length := hj
        obtain ⟨u, hu⟩ : ∃ u, ([.int .i64 0, .int .i64 0, .string ⟨#[]⟩, .bool false, .string ⟨#[]⟩, .int .i64 0, .int .i64 0, .int .i64 0, .int .i64 0] : List Value)[j]? = some u := ⟨_, List.getElem?_eq_getElem hj9⟩
        obtain ⟨h1, h2⟩ := HR.out.1 j u hu
        exact ⟨by rw [h1]; rfl, h2⟩)
      have HRS := Lib.hid (World.rangeAt_setCells_same w1 gR 0 ([.int .i64 0, .int .i64 0, .string ⟨#[]⟩, .bool false, .string ⟨#[]⟩, .int .i64 0, .int .i64 0, .int .i64 0, .int .i64 0] : List Value) HTH.out)
      have HF9 := Lib.hid (HF.out.sets gR 0 (Or.inr (by have := HNE.out; omega)) [.int .i64 0, .int .i64 0, .string ⟨#[]⟩, .bool false, .string ⟨#[]⟩, .int .i64 0, .int .i64 0, .int .i64 0, .int .i64 0])
      have HT9 := Lib.hid (HT.out.frm ((Frm.refl w1 [gR]).sets gR 0 (Or.inl (by simp)) [.int .i64 0, .int .i64 0, .string ⟨#[]⟩, .bool false, .string ⟨#[]⟩, .int .i64 0, .int .i64 0, .int .i64 0, .int .i64 0]) (fun b hb e => HGC.out (by simp at e; exact e ▸ hb)))
      obtain ⟨w9, hw9⟩ : ∃ z, w1.setCells gR 0 [.int .i64 0, .int .i64 0, .string ⟨#[]⟩, .bool false, .string ⟨#[]⟩, .int .i64 0, .int .i64 0, .int .i64 0, .int .i64 0] = z := ⟨_, rfl⟩
      rw [hw9] at HRS HF9 HT9
      have HW9 := Lib.hid (show w1.setCells gR 0 ([.int .i64 0, .int .i64 0, .string ⟨#[]⟩, .bool false, .string ⟨#[]⟩, .int .i64 0, .int .i64 0, .int .i64 0, .int .i64 0] : List Value).toArray.toList = w9 from hw9)
      have HON := Lib.hid (show ∀ u ∈ ([.int .i64 0, .int .i64 0, .string ⟨#[]⟩, .bool false, .string ⟨#[]⟩, .int .i64 0, .int .i64 0, .int .i64 0, .int .i64 0] : List Value), u.oneCell' = true from encW_one ⟨⟨0, 0, ⟨#[]⟩, false⟩, ⟨⟨#[]⟩, 0, 0⟩, 0, 0⟩)
      clear hw9
      go_wp2_with (first | (refine wpList_store_mid rfl 79 (.tmp 12) (.tmp 33) rfl _ _ _ rfl rfl HTH.out (by kernel_rfl) (all_oneCell_toArray HON.out) ?_; rw [HW9.out]))
      refine bodyPost_ret (v := .tuple #[.agg ([.int .i64 0, .int .i64 0, .string ⟨#[]⟩, .bool false, .string ⟨#[]⟩, .int .i64 0, .int .i64 0, .int .i64 0, .int .i64 0] : List Value).toArray, .int .i64 1]) ?_ rfl ⟨rfl, HT9.out, HF9.out⟩
      rw [results_cell_tmp Try.results43]
      have hr := run_loadVar_mid (P := Try.prog) _ gR 0 79 [.int .i64 0, .int .i64 0, .string ⟨#[]⟩, .bool false, .string ⟨#[]⟩, .int .i64 0, .int .i64 0, .int .i64 0, .int .i64 0] _ HRS.out Try.underlying79 rfl (by kernel_rfl)
      simp [asAddr, hr]
end Go.Proofs.Ytocfphijheidbaa
