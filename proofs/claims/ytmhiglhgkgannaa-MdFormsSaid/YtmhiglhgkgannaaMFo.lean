/- MdForms: the walk. -/
import Derived.Test.YtmhiglhgkgannaaMgA
import Derived.Test.YtmhiglhgkgannaaMdI
namespace Go.Proofs.Ytmhiglhgkgannaa
open Go.RowKit

set_option maxRecDepth 100000 in
set_option maxHeartbeats 16000000 in
theorem walkForms (an : ByteArray) (at1 ac au : Int) (ad : ByteArray) (bn : ByteArray) (bt bk bu : Int) (bd : ByteArray) (w : World) (hza : SzR ⟨⟨an, at1, ac⟩, au, ad⟩) (hzb : SzR ⟨⟨bn, bt, bk⟩, bu, bd⟩) :
    Calls Try.prog 5 #[.agg #[.string an, .int .i64 at1, .int .i64 ac, .int .i64 au, .string ad], .agg #[.string bn, .int .i64 bt, .int .i64 bk, .int .i64 bu, .string bd]] w fun e w' => e = .returned (.bool true) ∧ Below w.heap.size w w' := by
  have HB := Lib.hid (Below.refl w.heap.size w)
  have HZA := Lib.hid hza
  have HZB := Lib.hid hzb
  clear hza hzb
  go_enter Try.func5, Try.ntmps5
  have hba := (Below.refl w.heap.size w).alloc (Nat.le_refl _) (.cells #[.string an, .int .i64 at1, .int .i64 ac, .int .i64 au, .string ad] 30)
  have HA := Lib.hid (CN.new w #[.string an, .int .i64 at1, .int .i64 ac, .int .i64 au, .string ad] 30)
  replace HB := Lib.hid (HB.out.trans (hba.mono HB.out.size))
  obtain ⟨wa, hwa⟩ : ∃ x, w.alloc (.cells #[.string an, .int .i64 at1, .int .i64 ac, .int .i64 au, .string ad] 30) = x := ⟨_, rfl⟩
  obtain ⟨qa, hqa⟩ : ∃ x, w.heap.size = x := ⟨_, rfl⟩
  rw [hwa] at HB HA
  rw [hqa] at HA
  have hza : wa.heap.size = qa + 1 := by rw [← hwa, World.size_alloc, hqa]
  clear hba
  have hba := (Below.refl wa.heap.size wa).alloc (Nat.le_refl _) (.cells #[.string bn, .int .i64 bt, .int .i64 bk, .int .i64 bu, .string bd] 30)
  have HC := Lib.hid (CN.new wa #[.string bn, .int .i64 bt, .int .i64 bk, .int .i64 bu, .string bd] 30)
  replace HB := Lib.hid (HB.out.trans (hba.mono HB.out.size))
  replace HA := Lib.hid (HA.out.below hba)
  obtain ⟨wb, hwb⟩ : ∃ x, wa.alloc (.cells #[.string bn, .int .i64 bt, .int .i64 bk, .int .i64 bu, .string bd] 30) = x := ⟨_, rfl⟩
  obtain ⟨qb, hqb⟩ : ∃ x, qa + 1 = x := ⟨_, rfl⟩
  rw [hwb, hza, hqb] at HC
  rw [hwb] at HB HA
  have HW := Lib.hid (And.intro hwa hwb)
  have HQE := Lib.hid (And.intro hqa hqb)
  clear hba hwa hwb hqa hqb hza
  go_upto_region 1 with (fail)
  rw [HW.out.1, HW.out.2, HQE.out.1]
  rw [HQE.out.2]
  clear HW HQE
  go_wp2_with fail
  refine (first9 _).mono ?_; rintro e w2 ⟨rfl, hb⟩
  replace HB := Lib.hid (HB.out.trans (hb.mono HB.out.size))
  replace HA := Lib.hid (HA.out.below hb)
  replace HC := Lib.hid (HC.out.below hb)
  clear hb
  obtain ⟨x0, x1, x2, x3, x4, _⟩ := HA.out.u5
  obtain ⟨y0, y1, y2, y3, y4, _⟩ := HC.out.u5
  have hba := (Below.refl w2.heap.size w2).alloc (Nat.le_refl _) (.cells #[.string an, .int .i64 at1, .int .i64 ac, .int .i64 au, .string ad, .string bn, .int .i64 bt, .int .i64 bk, .int .i64 bu, .string bd] 30)
  have HR := Lib.hid (show RowR (w2.alloc (.cells #[.string an, .int .i64 at1, .int .i64 ac, .int .i64 au, .string ad, .string bn, .int .i64 bt, .int .i64 bk, .int .i64 bu, .string bd] 30)) (some ⟨w2.heap.size, 0, none⟩) 2 [⟨⟨an, at1, ac⟩, au, ad⟩, ⟨⟨bn, bt, bk⟩, bu, bd⟩] from ⟨rfl, cells_lit w2 #[.string an, .int .i64 at1, .int .i64 ac, .int .i64 au, .string ad, .string bn, .int .i64 bt, .int .i64 bk, .int .i64 bu, .string bd] 30⟩)
  replace HB := Lib.hid (HB.out.trans (hba.mono HB.out.size))
  replace HA := Lib.hid (HA.out.below hba)
  replace HC := Lib.hid (HC.out.below hba)
  go_wp2_with fail
  refine (few9 _ 2 2 _ _ HR.out (by decide) (fun r hr => by simp at hr; rcases hr with rfl | rfl; exact HZA.out; exact HZB.out)).mono ?_; rintro e w7 ⟨hf, hb⟩
  clear hba HR
  clear x0 x1 x2 x3 x4 y0 y1 y2 y3 y4
  replace HB := Lib.hid (HB.out.trans (hb.mono HB.out.size))
  replace HA := Lib.hid (HA.out.below hb)
  replace HC := Lib.hid (HC.out.below hb)
  clear hb
  rcases hf with rfl | ⟨rfl, -, hsx⟩
  · go_wp2_with fail
    refine (first9 _).mono ?_; rintro e w8 ⟨rfl, hb⟩
    replace HB := Lib.hid (HB.out.trans (hb.mono HB.out.size))
    replace HA := Lib.hid (HA.out.below hb)
    replace HC := Lib.hid (HC.out.below hb)
    clear hb
    go_wp2
    go_ret
    exact ⟨rfl, HB.out⟩
  · have HSA := Lib.hid (hsx ⟨⟨an, at1, ac⟩, au, ad⟩ (by simp))
    have HSB := Lib.hid (hsx ⟨⟨bn, bt, bk⟩, bu, bd⟩ (by simp))
    clear hsx
    obtain ⟨x0, x1, x2, x3, x4, _⟩ := HA.out.u5
    obtain ⟨y0, y1, y2, y3, y4, _⟩ := HC.out.u5
    go_wp2_with fail
    refine (form_any an at1 ac au ad _ HSA.out.1 HSA.out.2).mono ?_; rintro e w8 ⟨rfl, hb⟩
    clear x0 x1 x2 x3 x4 y0 y1 y2 y3 y4
    replace HB := Lib.hid (HB.out.trans (hb.mono HB.out.size))
    replace HA := Lib.hid (HA.out.below hb)
    replace HC := Lib.hid (HC.out.below hb)
    clear hb
    obtain ⟨x0, x1, x2, x3, x4, _⟩ := HA.out.u5
    obtain ⟨y0, y1, y2, y3, y4, _⟩ := HC.out.u5
    go_wp2_with fail
    refine (form_any bn bt bk bu bd _ HSB.out.1 HSB.out.2).mono ?_; rintro e w9 ⟨rfl, hb⟩
    clear x0 x1 x2 x3 x4 y0 y1 y2 y3 y4
    replace HB := Lib.hid (HB.out.trans (hb.mono HB.out.size))
    replace HA := Lib.hid (HA.out.below hb)
    replace HC := Lib.hid (HC.out.below hb)
    clear hb
    cases ma : mayM ⟨⟨an, at1, ac⟩, au, ad⟩
    · rw [(fm_no ma).1, (fm_no ma).2]
      have M1 := Lib.hid (show mayR an at1 ac au ad = false from ma)
      clear ma
      go_wp2_with fail
      refine (first9 _).mono ?_; rintro e w10 ⟨rfl, hb⟩
      replace HB := Lib.hid (HB.out.trans (hb.mono HB.out.size))
      replace HA := Lib.hid (HA.out.below hb)
      replace HC := Lib.hid (HC.out.below hb)
      clear hb
      obtain ⟨x0, x1, x2, x3, x4, _⟩ := HA.out.u5
      obtain ⟨y0, y1, y2, y3, y4, _⟩ := HC.out.u5
      go_wp2_with fail
      refine (mayRR_any an at1 ac au ad _ HSA.out.1 HSA.out.2).mono ?_; rintro e w11 ⟨rfl, hb⟩
      clear x0 x1 x2 x3 x4 y0 y1 y2 y3 y4
      replace HB := Lib.hid (HB.out.trans (hb.mono HB.out.size))
      replace HA := Lib.hid (HA.out.below hb)
      replace HC := Lib.hid (HC.out.below hb)
      clear hb
      rw [M1.out]
      go_wp2
      go_ret
      exact ⟨rfl, HB.out⟩
    · have hfz := fmB_size ma
      have hmp := mayM_parts ma
      have hl := fmB_list ⟨⟨an, at1, ac⟩, au, ad⟩
      have HMA := Lib.hid ma
      have M1 := Lib.hid (show mayR an at1 ac au ad = true from ma)
      rw [(fm_yes ma).1, (fm_yes ma).2]
      clear ma
      obtain ⟨X, hX⟩ : ∃ X, fmB ⟨⟨an, at1, ac⟩, au, ad⟩ = X := ⟨_, rfl⟩
      rw [hX] at hfz hl ⊢
      have HX := Lib.hid hX
      replace hfz : X.size = an.size + 10 + ad.size := hfz
      replace hl : X.data.toList = an.data.toList ++ (joinL 2 [at1, ac] ++ (putL au 4 ++ (putL (ad.size : Int) 2 ++ ad.data.toList))) := hl
      have hn1 : an.size ≤ 255 := (mayN_size hmp.1).2
      have hd1 : ad.size ≤ 1000 := hmp.2.2.2.2.1
      have hx1 : X.extract 0 an.size = an := by
        refine str_eqM ?_
        show (X.extract 0 an.size).toList = an.toList
        rw [show (X.extract 0 an.size).toList = (X.extract 0 an.size).data.toList from (bs_toList (X.extract 0 an.size).data.toList), show an.toList = an.data.toList from (bs_toList an.data.toList)]
        rw [ByteArray.data_extract, Array.toList_extract, hl]
        simp [List.extract_eq_take_drop]
      obtain ⟨b1, hb1⟩ : ∃ x, X.size - ad.size = x := ⟨_, rfl⟩
      have hx2 : X.extract b1 X.size = ad := by
        refine str_eqM ?_
        rw [show (X.extract b1 X.size).toList = (X.extract b1 X.size).data.toList from (bs_toList (X.extract b1 X.size).data.toList), show ad.toList = ad.data.toList from (bs_toList ad.data.toList)]
        have h9 : X.data.toList.length = X.size := by rw [Array.length_toList]; rfl
        have h8 : ad.data.toList.length = ad.size := by rw [Array.length_toList]; rfl
        have h7 : X.data.toList.drop b1 = ad.data.toList := by
          rw [hl, ← List.append_assoc, ← List.append_assoc, ← List.append_assoc]
          rw [hl, ← List.append_assoc, ← List.append_assoc, ← List.append_assoc, List.length_append] at h9
          rw [List.drop_append_of_le_length (by omega), List.drop_of_length_le (by omega), List.nil_append]
        rw [ByteArray.data_extract, Array.toList_extract, List.extract_eq_take_drop, h7]
        exact List.take_of_length_le (by omega)
      obtain ⟨ns, hns⟩ : ∃ x, an.size = x := ⟨_, rfl⟩
      obtain ⟨ds, hds⟩ : ∃ x, ad.size = x := ⟨_, rfl⟩
      obtain ⟨xs, hxs⟩ : ∃ x, X.size = x := ⟨_, rfl⟩
      rw [hns] at hx1 hn1 hfz
      rw [hds] at hfz hd1 hb1
      rw [hxs] at hfz hb1 hx2
      obtain ⟨a1, ha1⟩ : ∃ x, ns + 10 = x := ⟨_, rfl⟩
      have hw1 : IntKind.i64.wrap ((ns : Int) + 10) = (a1 : Int) := by rw [IntKind.wrap_i64]; omega
      have hw2 : IntKind.i64.wrap ((a1 : Int) + (ds : Int)) = (xs : Int) := by rw [IntKind.wrap_i64]; omega
      have hw3 : IntKind.i64.wrap ((xs : Int) - (ds : Int)) = (b1 : Int) := by rw [IntKind.wrap_i64]; omega
      have j1 : (0 : Int) ≤ (ns : Int) := by omega
      have j2 : (ns : Int) ≤ (xs : Int) := by omega
      have j3 : (0 : Int) ≤ (b1 : Int) := by omega
      have j4 : (b1 : Int) ≤ (xs : Int) := by omega
      have j5 : ns ≤ xs := by omega
      have j6 : b1 ≤ xs := by omega
      clear hfz hmp hl hX hn1 hd1 hb1 ha1
      go_upto_region 9 with (fail)
      refine wp_region_held_drew (S := (fun wx => Hid (CN wx qa [.string an, .int .i64 at1, .int .i64 ac, .int .i64 au, .string ad] ∧ CN wx qb [.string bn, .int .i64 bt, .int .i64 bk, .int .i64 bu, .string bd] ∧ Below w.heap.size w wx))) (by kernel_rfl) (Lib.hid ⟨HA.out.below (Below.refl _ _).drew, HC.out.below (Below.refl _ _).drew, HB.out.trans ((Below.refl _ _).drew.mono HB.out.size)⟩) (fun hHeld => ?_)
      refine Plan.of [0, 1, 2, 3, 4, 5, 6, 7, 8, 9, 10, 11, 12, 13, 14, 15, 16, 17, 18, 19, 20, 21, 22, 23, 24, 25, 26, 27, 28, 29, 30, 31, 32, 33, 34, 35] ?_
      iterate 36 (refine Plan.w (v := ?_) rfl hHeld (by rfl) ?_ ?_; rotate_left; (focus (intro w hSw; (try dsimp only at hSw); obtain ⟨hca, _⟩ := hSw.out; have s0 := (hca.2 0 _ rfl).1; have s1 := (hca.2 1 _ rfl).1; have s2 := (hca.2 2 _ rfl).1; have s3 := (hca.2 3 _ rfl).1; have s4 := (hca.2 4 _ rfl).1; go_simp; try with_reducible rfl)); try simp only [Act.put, List.setIfInBounds_toArray, List.set_cons_zero, List.set_cons_succ])
      refine Plan.fin ?_
      refine wpAnyH_ready (rs := [36]) (by kernel_rfl) (by simp) ?_
      refine AllReadyH.cons (o := { dst := some 75, op := Go.Op.call { callee := Go.Callee.value (Go.Operand.func 20), args := #[Go.Operand.tmp 74], argTypes := #[30] }, type := 4, pos := "extra.go:24", after := #[{ on := 35, ground := Go.Ground.data }, { on := 34, ground := Go.Ground.chain }, { on := 34, ground := Go.Ground.guard }], guard := some (34, false) }) rfl (fun K hK => ?_) AllReadyH.nil
      go_simp
      refine (mayRR_any an at1 ac au ad _ HSA.out.1 HSA.out.2).mono ?_; rintro e wx9 ⟨rfl, hb⟩
      rw [M1.out]
      have HS9 := Lib.hid (And.intro (hHeld.out.1.below hb) (And.intro (hHeld.out.2.1.below hb) (hHeld.out.2.2.trans (hb.mono hHeld.out.2.2.size))))
      clear hb
      refine hK.out _ _ (HS9) (fun hHeld2 => ?_)
      clear hK K hHeld
      have hHeld := hHeld2
      clear hHeld2
      try simp only [Act.put, List.setIfInBounds_toArray, List.set_cons_zero, List.set_cons_succ]
      refine Plan.of [37, 38] ?_
      iterate 2 (refine Plan.w (v := ?_) rfl hHeld (by rfl) ?_ ?_; rotate_left; (focus (intro w hSw; (try dsimp only at hSw); obtain ⟨hca, _⟩ := hSw.out; have s0 := (hca.2 0 _ rfl).1; have s1 := (hca.2 1 _ rfl).1; have s2 := (hca.2 2 _ rfl).1; have s3 := (hca.2 3 _ rfl).1; have s4 := (hca.2 4 _ rfl).1; go_simp; try with_reducible rfl)); try simp only [Act.put, List.setIfInBounds_toArray, List.set_cons_zero, List.set_cons_succ])
      refine Plan.fin ?_
      refine wpAnyH_done (by kernel_rfl) ?_ _
      clear hHeld hw1 hw2 hw3 j1 j2 j3 j4 j5 j6 hx1 hx2 hns hds hxs HA HB HC
      have HA := Lib.hid HS9.out.1
      have HC := Lib.hid HS9.out.2.1
      have HB := Lib.hid HS9.out.2.2
      clear HS9
      go_wp2_with fail
      refine (first9 _).mono ?_; rintro e w10 ⟨rfl, hb⟩
      replace HB := Lib.hid (HB.out.trans (hb.mono HB.out.size))
      replace HA := Lib.hid (HA.out.below hb)
      replace HC := Lib.hid (HC.out.below hb)
      clear hb
      cases mb : mayM ⟨⟨bn, bt, bk⟩, bu, bd⟩
      · rw [(fm_no mb).1, (fm_no mb).2]
        clear mb
        go_wp2
        go_ret
        exact ⟨rfl, HB.out⟩
      · rw [(fm_yes mb).1, (fm_yes mb).2]
        have HMB := Lib.hid mb
        clear mb
        obtain ⟨Y, hY⟩ : ∃ Y, fmB ⟨⟨bn, bt, bk⟩, bu, bd⟩ = Y := ⟨_, rfl⟩
        rw [hY]
        obtain ⟨v, hv⟩ : ∃ v, decide ((⟨⟨an, at1, ac⟩, au, ad⟩ : R5) = ⟨⟨bn, bt, bk⟩, bu, bd⟩) = v := ⟨_, rfl⟩
        have hxy : (X.toList == Y.toList) = v := by
          rw [← hv]
          refine Bool.eq_iff_iff.2 ?_
          rw [beq_iff_eq, decide_eq_true_eq]
          constructor
          · intro h; exact fmB_inj HMA.out HMB.out (by rw [HX.out, hY]; exact str_eqM h)
          · intro h; rw [← HX.out, ← hY, h]
        have hE : ∀ W, (binOp .eql 30 (.agg #[.string an, .int .i64 at1, .int .i64 ac, .int .i64 au, .string ad]) (.agg #[.string bn, .int .i64 bt, .int .i64 bk, .int .i64 bu, .string bd])).run Try.prog W = .ok (.bool v) W := fun W => by rw [← hv]; exact eqlM ⟨⟨an, at1, ac⟩, au, ad⟩ ⟨⟨bn, bt, bk⟩, bu, bd⟩ W
        clear hv hY
        obtain ⟨x0, x1, x2, x3, x4, _⟩ := HA.out.u5
        obtain ⟨y0, y1, y2, y3, y4, _⟩ := HC.out.u5
        cases v
        · go_wp2
          go_ret
          exact ⟨rfl, HB.out⟩
        · go_wp2
          go_ret
          exact ⟨rfl, HB.out⟩
end Go.Proofs.Ytmhiglhgkgannaa
