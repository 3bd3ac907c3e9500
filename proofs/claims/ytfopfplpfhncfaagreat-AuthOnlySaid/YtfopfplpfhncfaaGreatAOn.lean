/- AuthOnly: the walk. -/
import Derived.Test.YtfopfplpfhncfaaGreatAOp
namespace Go.Proofs.YtfopfplpfhncfaaGreat
open Go.RowKit

theorem tgF_len {x : SetP} (hr : x.data.Pairwise (fun x y => cmpB x y < 0)) : (tgF [x]).length ≤ x.data.length := by
  unfold tgF
  split
  · rename_i h
    obtain ⟨h1, h2⟩ := h.choose_spec
    have e : nsD [x] = tgL x := by simp [nsD]
    have hn : (tgL x).Nodup := by
      unfold tgL
      split
      · exact List.Pairwise.filter _ (riseB_nodup hr)
      · exact List.nodup_nil
    have hl : (tgL x).length ≤ x.data.length := by
      unfold tgL
      split
      · exact List.length_filter_le _ _
      · exact Nat.zero_le _
    have hp := ((List.perm_ext_iff_of_nodup (tg_nodup h1) hn).2 (fun y => by rw [h2 y, e])).length_eq
    omega
  · exact Nat.zero_le _
theorem glueL_len {w : World} {z : Nat} {apex : ByteArray} {l : List R5} {S : List SetP} (h : ZOk w z apex l S) {x : SetP} (hx : x ∈ S) : (glueL S [x]).length ≤ 600 := by
  have h1 := glueP_le S (tgF [x])
  have h2 := tgF_len (h.canon.rise x hx)
  have h3 := data_le_sum hx
  have h4 := h.sum
  have h5 := h.few
  rw [glueL]; omega
theorem ans_len {w : World} {z : Nat} {apex : ByteArray} {l : List R5} {S : List SetP} (h : ZOk w z apex l S) {qn : ByteArray} (hn : qn.size ≤ 1000000) (qt qc : Int) : (ansF S apex qn qt qc).an.length ≤ 1 ∧ (ansF S apex qn qt qc).ns.length ≤ 1 ∧ (ansF S apex qn qt qc).ar.length ≤ 600 := by
  have hT : ∀ t, (ansT S apex qn t).an.length ≤ 1 ∧ (ansT S apex qn t).ns.length ≤ 1 ∧ (ansT S apex qn t).ar.length ≤ 600 := fun t => by
    have hK : (ansK S apex qn t).an.length ≤ 1 ∧ (ansK S apex qn t).ns.length ≤ 1 ∧ (ansK S apex qn t).ar.length ≤ 600 := by
      cases hf : findK S ⟨qn, t, 1⟩ with
      | some s => rw [ansK_yes hf]; exact ⟨Nat.le_refl _, Nat.zero_le _, glueL_len h (find_mem hf)⟩
      | none =>
        obtain ⟨x, hx, -, -⟩ := soa_found h
        rw [ansK_no hf]
        split
        · exact ⟨Nat.zero_le _, by show (soaL S apex).length ≤ 1; rw [hx]; exact Nat.le_refl _, Nat.zero_le _⟩
        · exact ⟨Nat.zero_le _, by show (soaL S apex).length ≤ 1; rw [hx]; exact Nat.le_refl _, Nat.zero_le _⟩
    cases h5 : findK S ⟨qn, 5, 1⟩ with
    | none => rw [ansT_k (Or.inl h5)]; exact hK
    | some s =>
      by_cases ht : t = 5
      · rw [ansT_k (Or.inr ht)]; exact hK
      · rw [ansT_alias h5 ht]; exact ⟨Nat.le_refl _, Nat.zero_le _, Nat.zero_le _⟩
  cases hq : inQ apex qn qt qc with
  | false => rw [ans_out hq]; exact ⟨Nat.zero_le _, Nat.zero_le _, Nat.zero_le _⟩
  | true =>
    cases hc : cutP S apex qn with
    | none => rw [ans_no hq hc]; exact hT qt
    | some x =>
      by_cases hd : x.k.n = qn ∧ qt = 43
      · have e : ansF S apex qn qt qc = ansT S apex qn qt := by rw [ansF, if_neg (by rw [hq]; simp), hc]; exact if_pos hd
        rw [e]; exact hT qt
      · obtain ⟨-, -, -, c4⟩ := cut_facts hn hc
        rw [ans_cut hq hc hd]; exact ⟨Nat.zero_le _, Nat.le_refl _, glueL_len h (find_mem c4)⟩
theorem at_full3 {w : World} {a : Option Addr} {n : Nat} {s : SetP} (h : SetsAt w a n [s]) : n = 1 ∧ ∃ b o p c, a = some ⟨b, o, none⟩ ∧ SetAt w b o s p c := by
  have hn : 1 = n := h.1
  subst hn
  rcases h.2 with h9 | ⟨b, o, rfl, hb, hc⟩
  · cases h9
  · obtain ⟨p, c, h0⟩ := hc 0 (by omega)
    rw [Nat.zero_mul, Nat.add_zero] at h0
    exact ⟨rfl, b, o, p, c, rfl, h0⟩
/-- Sets in new blocks, their cells and data open. -/
theorem SetsUp.open {w : World} {B n : Nat} {a : Option Addr} {L : List SetP} (h : SetsUp w B a n L) : ∃ Lp : List (SetP × Value), Lp.map Prod.fst = L ∧ CellsAt w a (n * 5) (flatS Lp) ∧ ∀ p ∈ Lp, w.ownsRow B 9 1 p.2 p.1.data.length (sc p.1.data) := by
  obtain ⟨Lp, h1, h2, h3, h4⟩ := h
  refine ⟨Lp, h1, ⟨by rw [flatS_len, h2], ?_⟩, h4⟩
  rcases h3 with h3 | ⟨g, h5, -, h7, h8⟩
  · exact Or.inl (by rw [h3])
  · exact Or.inr ⟨g, 0, h5, h7, h8⟩
theorem flatS_oneA {w : World} {B : Nat} {L : List (SetP × Value)} (h : ∀ p ∈ L, w.ownsRow B 9 1 p.2 p.1.data.length (sc p.1.data)) : ∀ u ∈ flatS L, u.oneCell' = true := by
  intro u hu
  obtain ⟨p, hp, hu⟩ := List.mem_flatMap.1 hu
  obtain ⟨a, c, he, -, -⟩ := rowS_of_own (h p hp)
  exact encS_one p ⟨_, _, _, he⟩ u hu
theorem sets_join {w : World} {B Bd n : Nat} {v : Value} {L1 L2 L3 : List (SetP × Value)} {M1 M2 M3 : List SetP} (h : w.ownsRow B 38 5 v n (flatS L1 ++ flatS L2 ++ flatS L3)) (m1 : L1.map Prod.fst = M1) (m2 : L2.map Prod.fst = M2) (m3 : L3.map Prod.fst = M3) (h1 : ∀ p ∈ L1, w.ownsRow Bd 9 1 p.2 p.1.data.length (sc p.1.data)) (h2 : ∀ p ∈ L2, w.ownsRow Bd 9 1 p.2 p.1.data.length (sc p.1.data)) (h3 : ∀ p ∈ L3, w.ownsRow Bd 9 1 p.2 p.1.data.length (sc p.1.data)) : ∃ a c, v = .slice a n c ∧ SetsAt w a n (M1 ++ M2 ++ M3) := by
  rw [← flatS_append, ← flatS_append] at h
  obtain ⟨a, c, hv, hs, -⟩ := setsAt_own h (fun p hp => by
    have hp2 : w.ownsRow Bd 9 1 p.2 p.1.data.length (sc p.1.data) := by
      rcases List.mem_append.1 hp with hp | hp
      · rcases List.mem_append.1 hp with hp | hp
        · exact h1 p hp
        · exact h2 p hp
      · exact h3 p hp
    obtain ⟨a, c, he, hr, hn⟩ := rowS_of_own hp2
    exact ⟨a, c, he, hr, hn⟩)
  rw [List.map_append, List.map_append, m1, m2, m3] at hs
  exact ⟨a, c, hv, hs⟩
theorem same_selfO (n : ByteArray) (t k u : Int) (d : List ByteArray) (pa pb : Option Addr) (dl ca cb : Nat) (w : World) (h1 : RowS w pa dl d) (h2 : RowS w pb dl d) (hl : dl ≤ 100000) : Calls Tryz.prog 36 #[.agg #[.string n, .int .i64 t, .int .i64 k, .int .i64 u, .slice pa dl ca], .agg #[.string n, .int .i64 t, .int .i64 k, .int .i64 u, .slice pb dl cb]] w fun e w' => e = .returned (.bool true) ∧ Below w.heap.size w w' := same_selfG n t k u d pa pb dl ca cb w h1 h2 hl
theorem row_litO (w : World) (x : Int) (t : TypeId) : Row (w.alloc (.cells #[.int .i64 x] t)) (some ⟨w.heap.size, 0, none⟩) 1 [x] := by
  refine ⟨rfl, Or.inr ⟨w.heap.size, 0, rfl, by simp, ?_⟩⟩
  intro j hj
  have : j = 0 := by omega
  subst this
  simp [World.cell?_alloc_at]
theorem strO_ne {a b : ByteArray} (h : (a.toList == b.toList) = false) : (a.toList != b.toList) = true := by rw [bne, h]; rfl
set_option maxRecDepth 100000 in
set_option maxHeartbeats 8000000 in
theorem answer_nil (qn : ByteArray) (qt qc : Int) (w : World) : Calls Tryz.prog 35 #[.pointer none, .agg #[.string qn, .int .i64 qt, .int .i64 qc]] w fun e w' => e = .returned (.agg #[.int .i64 6, .int .i64 5, .slice none 0 0, .slice none 0 0, .slice none 0 0]) ∧ Below w.heap.size w w' := by
  have HB := Lib.hid (Below.refl w.heap.size w)
  go_enter Tryz.func35, Tryz.ntmps35
  have hba := (Below.refl _ _ : Below w.heap.size w w).alloc (Nat.le_refl _) (.cells #[.string qn, .int .i64 qt, .int .i64 qc] 69)
  have C1 := Lib.hid (CN.new w #[.string qn, .int .i64 qt, .int .i64 qc] 69)
  replace HB := Lib.hid (HB.out.trans (hba.mono HB.out.size))
  obtain ⟨w2, hw⟩ : ∃ x, w.alloc (.cells #[.string qn, .int .i64 qt, .int .i64 qc] 69) = x := ⟨_, rfl⟩
  obtain ⟨q2, hq⟩ : ∃ x, w.heap.size = x := ⟨_, rfl⟩
  rw [hw, hq] at C1
  rw [hw] at HB
  have HWw2 := Lib.hid hw
  have HQq2 := Lib.hid hq
  clear hba hw hq
  have hba := (Below.refl _ _ : Below w2.heap.size w2 w2).alloc (Nat.le_refl _) (.cells #[.int .i64 0, .int .i64 0, .slice none 0 0, .slice none 0 0, .slice none 0 0] 71)
  have C4 := Lib.hid (CN.new w2 #[.int .i64 0, .int .i64 0, .slice none 0 0, .slice none 0 0, .slice none 0 0] 71)
  replace HB := Lib.hid (HB.out.trans (hba.mono HB.out.size))
  replace C1 := Lib.hid (C1.out.below hba)
  obtain ⟨w3, hw⟩ : ∃ x, w2.alloc (.cells #[.int .i64 0, .int .i64 0, .slice none 0 0, .slice none 0 0, .slice none 0 0] 71) = x := ⟨_, rfl⟩
  obtain ⟨q3, hq⟩ : ∃ x, w2.heap.size = x := ⟨_, rfl⟩
  rw [hw, hq] at C4
  rw [hw] at HB C1
  have HSq3 := Lib.hid (show q2 + 1 = q3 by rw [← HQq2.out, ← hq, ← HWw2.out, World.size_alloc])
  have HWw3 := Lib.hid hw
  have HQq3 := Lib.hid hq
  clear hba hw hq
  go_upto_region 1 with (fail)
  rw [HWw2.out, HWw3.out]
  rw [show (Value.pointer (some { block := w.heap.size + 1, off := 0 })) = Value.pointer (some { block := q3, off := 0 }) by rw [HQq2.out, HSq3.out]]
  rw [show (Value.pointer (some { block := w.heap.size, off := 0 })) = Value.pointer (some { block := q2, off := 0 }) by rw [HQq2.out]]
  have HQ4 := Lib.hid (show w.heap.size ≤ q3 by have h := HSq3.out; have h2 := HQq2.out; omega)
  obtain ⟨p0, p1, p2, _⟩ := C1.out.v3
  go_wp2_with fail
  refine (akey_any qn qt _).mono ?_; rintro e w4 ⟨rfl, hb⟩
  clear p0 p1 p2
  replace HB := Lib.hid (HB.out.trans (hb.mono HB.out.size))
  replace C1 := Lib.hid (C1.out.below hb)
  replace C4 := Lib.hid (C4.out.below hb)
  clear hb
  have hba := (Below.refl _ _ : Below w4.heap.size w4 w4).alloc (Nat.le_refl _) (.cells #[.string qn, .int .i64 qt, .int .i64 1] 24)
  have CK := Lib.hid (CN.new w4 #[.string qn, .int .i64 qt, .int .i64 1] 24)
  replace HB := Lib.hid (HB.out.trans (hba.mono HB.out.size))
  replace C1 := Lib.hid (C1.out.below hba)
  replace C4 := Lib.hid (C4.out.below hba)
  obtain ⟨w5, hw⟩ : ∃ x, w4.alloc (.cells #[.string qn, .int .i64 qt, .int .i64 1] 24) = x := ⟨_, rfl⟩
  obtain ⟨q5, hq⟩ : ∃ x, w4.heap.size = x := ⟨_, rfl⟩
  rw [hw, hq] at CK
  rw [hw] at HB C1 C4
  have HW := Lib.hid hw
  have HQ_ := Lib.hid hq
  clear hba hw hq
  go_upto_region 2 with (fail)
  rw [HW.out, HQ_.out]
  clear HW HQ_
  obtain ⟨wd, hwd⟩ : ∃ x, w5.drew = x := ⟨_, rfl⟩
  have HBD := Lib.hid (show Below w5.heap.size w5 wd by rw [← hwd]; exact (Below.refl _ _).drew)
  refine wp_region_held_drew (S := (fun wx => Hid (Below w5.heap.size w5 wx))) (by kernel_rfl) (by rw [hwd]; exact HBD) (fun hHeld => ?_)
  rw [hwd] at hHeld ⊢
  clear hwd
  refine Plan.of [0, 1, 2, 3, 4, 5, 6, 7, 8, 9, 10, 11, 12, 13, 14, 15, 16, 17, 18, 19] ?_
  iterate 3 (refine Plan.w (v := ?_) rfl hHeld (by rfl) ?_ ?_; rotate_left; (focus (intro w hSw; (try dsimp only at hSw); go_simp; try with_reducible rfl)); try simp only [Act.put, List.setIfInBounds_toArray, List.set_cons_zero, List.set_cons_succ])
  iterate 3 (refine Plan.n rfl hHeld (by rfl) ?_; try simp only [Act.put, List.setIfInBounds_toArray, List.set_cons_zero, List.set_cons_succ])
  iterate 2 (refine Plan.w (v := ?_) rfl hHeld (by rfl) ?_ ?_; rotate_left; (focus (intro w hSw; (try dsimp only at hSw); go_simp; try with_reducible rfl)); try simp only [Act.put, List.setIfInBounds_toArray, List.set_cons_zero, List.set_cons_succ])
  iterate 6 (refine Plan.n rfl hHeld (by rfl) ?_; try simp only [Act.put, List.setIfInBounds_toArray, List.set_cons_zero, List.set_cons_succ])
  iterate 2 (refine Plan.w (v := ?_) rfl hHeld (by rfl) ?_ ?_; rotate_left; (focus (intro w hSw; (try dsimp only at hSw); go_simp; try with_reducible rfl)); try simp only [Act.put, List.setIfInBounds_toArray, List.set_cons_zero, List.set_cons_succ])
  iterate 3 (refine Plan.n rfl hHeld (by rfl) ?_; try simp only [Act.put, List.setIfInBounds_toArray, List.set_cons_zero, List.set_cons_succ])
  refine Plan.w (v := ?_) rfl hHeld (by rfl) ?_ ?_; rotate_left; (focus (intro w hSw; (try dsimp only at hSw); go_simp; try with_reducible rfl)); try simp only [Act.put, List.setIfInBounds_toArray, List.set_cons_zero, List.set_cons_succ]
  refine Plan.fin ?_
  refine wpAnyH_done (by kernel_rfl) ?_ _
  have HB7 := Lib.hid hHeld.out
  clear hHeld
  replace HB := Lib.hid (HB.out.trans (HB7.out.mono HB.out.size))
  replace C1 := Lib.hid (C1.out.below HB7.out)
  replace C4 := Lib.hid (C4.out.below HB7.out)
  replace CK := Lib.hid (CK.out.below HB7.out)
  obtain ⟨g0, g1, g2, g3, g4, f0, f1, f2, f3, f4⟩ := C4.out.u5
  have KZ := Lib.hid (C4.out.s5 (.int .i64 6) (.int .i64 5) (.slice none 0 0) (.slice none 0 0) (.slice none 0 0))
  have HGZ := Lib.hid (grown_s5 wd q3 (.int .i64 6) (.int .i64 5) (.slice none 0 0) (.slice none 0 0) (.slice none 0 0))
  have HBZ := Lib.hid (HB.out.grown HGZ.out HB.out.size (fun k hk => by injection hk with hk; rw [← hk]; exact HQ4.out))
  go_wp2
  obtain ⟨wz, hwz⟩ : ∃ x, (((((wd.setCell ⟨q3, 0, none⟩ (.int .i64 6)).setCell ⟨q3, 1, none⟩ (.int .i64 5)).setCell ⟨q3, 2, none⟩ (.slice none 0 0)).setCell ⟨q3, 3, none⟩ (.slice none 0 0)).setCell ⟨q3, 4, none⟩ (.slice none 0 0)) = x := ⟨_, rfl⟩
  rw [hwz] at KZ HBZ ⊢
  clear hwz HGZ g0 g1 g2 g3 g4 f0 f1 f2 f3 f4
  obtain ⟨z0, z1, z2, z3, z4, _⟩ := KZ.out.u5
  refine bodyPost_ret (v := .agg #[.int .i64 6, .int .i64 5, .slice none 0 0, .slice none 0 0, .slice none 0 0]) (by simp [results, Tryz.results35, go_sem, z0, z1, z2, z3, z4]) rfl ⟨rfl, HBZ.out⟩

set_option maxRecDepth 100000 in
set_option maxHeartbeats 20000000 in
theorem walkOnly (apex : ByteArray) (a : Option Addr) (n c : Nat) (l : List R5) (qn : ByteArray) (qt qc : Int) (w : World) (h : RowR w a n l) (hn : a = none → n = 0 ∧ c = 0) (hlen : n ≤ 9223372036854775807) (hsz : ∀ r ∈ l, SzR r) (ha : apex.size ≤ 9223372036854775807) (hqn : qn.size ≤ 9223372036854775807) : Calls Tryz.prog 4 #[.string apex, .slice a n c, .agg #[.string qn, .int .i64 qt, .int .i64 qc]] w fun e w' => e = .returned (.bool true) ∧ Below w.heap.size w w' := by
  have HR := Lib.hid h
  have HN := Lib.hid hn
  have HSZ := Lib.hid hsz
  have HB := Lib.hid (Below.refl w.heap.size w)
  obtain ⟨i0, hi, hz0, hz1, hz2⟩ := info_parts infoSet
  have HI0 := Lib.hid hi
  have HZ0 := Lib.hid hz0
  have HZ1 := Lib.hid hz1
  have HZ2 := Lib.hid hz2
  clear hi hz0 hz1 hz2 h hn hsz
  go_enter Tryz.func4, Tryz.ntmps4
  have hba := (Below.refl _ _ : Below w.heap.size w w).alloc (Nat.le_refl _) (.cells #[.string qn, .int .i64 qt, .int .i64 qc] 69)
  have C1 := Lib.hid (CN.new w #[.string qn, .int .i64 qt, .int .i64 qc] 69)
  replace HR := Lib.hid (HR.out.below hba)
  replace HB := Lib.hid (HB.out.trans (hba.mono HB.out.size))
  obtain ⟨w2, hw⟩ : ∃ x, w.alloc (.cells #[.string qn, .int .i64 qt, .int .i64 qc] 69) = x := ⟨_, rfl⟩
  obtain ⟨q2, hq⟩ : ∃ x, w.heap.size = x := ⟨_, rfl⟩
  rw [hw, hq] at C1
  rw [hw] at HR HB
  have HWw2 := Lib.hid hw
  have HQq2 := Lib.hid hq
  clear hba hw hq
  go_upto_region 1 with (fail)
  rw [HWw2.out]
  rw [show (Value.pointer (some { block := w.heap.size, off := 0 })) = Value.pointer (some { block := q2, off := 0 }) by rw [HQq2.out]]
  go_wp2_with fail
  refine (first11 _).mono ?_; rintro e w3 ⟨rfl, hb⟩
  replace HR := Lib.hid (HR.out.below hb)
  replace HB := Lib.hid (HB.out.trans (hb.mono HB.out.size))
  replace C1 := Lib.hid (C1.out.below hb)
  clear hb
  obtain ⟨p0, p1, p2, _⟩ := C1.out.v3
  go_wp2_with fail
  refine (few10 a n c l _ HR.out hlen HSZ.out).mono ?_; rintro e w4 ⟨hres, hb⟩
  clear p0 p1 p2
  replace HR := Lib.hid (HR.out.below hb)
  replace HB := Lib.hid (HB.out.trans (hb.mono HB.out.size))
  replace C1 := Lib.hid (C1.out.below hb)
  clear hb
  rcases hres with rfl | ⟨rfl, hn4, hsm⟩
  · go_wp2_with fail
    refine (first11 _).mono ?_; rintro e w9 ⟨rfl, hb⟩
    have HB9 := Lib.hid (HB.out.trans (hb.mono HB.out.size))
    clear hb
    go_wp2
    go_ret
    exact ⟨rfl, HB9.out⟩
  have HSM := Lib.hid hsm
  have HN3 := Lib.hid (show n ≤ 310 by omega)
  clear hsm hlen hn4
  by_cases h1 : 1000 < apex.size
  · have d1 : decide (1000 < apex.size) = true := dT (by omega)
    have d2 : decide ((1000 : Int) < (apex.size : Int)) = true := dT (by omega)
    clear h1
    go_wp2_with fail
    refine (first11 _).mono ?_; rintro e w9 ⟨rfl, hb⟩
    have HB9 := Lib.hid (HB.out.trans (hb.mono HB.out.size))
    clear hb
    go_wp2
    go_ret
    exact ⟨rfl, HB9.out⟩
  have d1 : decide (1000 < apex.size) = false := dF (by omega)
  have d2 : decide ((1000 : Int) < (apex.size : Int)) = false := dF (by omega)
  have N1 := Lib.hid h1
  clear h1
  by_cases h1 : 1000 < qn.size
  · have d3 : decide (1000 < qn.size) = true := dT (by omega)
    have d4 : decide ((1000 : Int) < (qn.size : Int)) = true := dT (by omega)
    obtain ⟨p0, p1, p2, _⟩ := C1.out.v3
    clear h1
    go_wp2_with fail
    refine (first11 _).mono ?_; rintro e w9 ⟨rfl, hb⟩
    have HB9 := Lib.hid (HB.out.trans (hb.mono HB.out.size))
    clear hb
    go_wp2
    go_ret
    exact ⟨rfl, HB9.out⟩
  have d3 : decide (1000 < qn.size) = false := dF (by omega)
  have d4 : decide ((1000 : Int) < (qn.size : Int)) = false := dF (by omega)
  have N2 := Lib.hid h1
  clear h1
  have HA1 := Lib.hid (show apex.size ≤ 1000000 by have := N1.out; omega)
  have HA2 := Lib.hid (show qn.size ≤ 1000000 by have := N2.out; omega)
  clear N1 N2 ha hqn
  obtain ⟨p0, p1, p2, _⟩ := C1.out.v3
  go_wp2_with fail
  refine (znew_up apex a n c l _ HR.out HN.out (by have := HN3.out; omega) (fun r hr => by have := (HSM.out r hr).1; omega) (fun r hr => by have := (HSM.out r hr).2; omega) HA1.out).mono ?_; rintro e w5 hnr
  obtain ⟨hres, hb⟩ := newU_two hnr
  clear hnr d1 d2 d3 d4
  clear p0 p1 p2
  replace HR := Lib.hid (HR.out.below hb)
  replace HB := Lib.hid (HB.out.trans (hb.mono HB.out.size))
  replace C1 := Lib.hid (C1.out.below hb)
  clear hb
  rcases hres with ⟨x, hx, rfl⟩ | ⟨z, S, rfl, -, hok⟩
  · clear hx
    have hfd0 : ∀ w : World, (Instr.field 71 (.agg #[.int .i64 6, .int .i64 5, .slice none 0 0, .slice none 0 0, .slice none 0 0]) 0).run Tryz.prog w = .ok (.int .i64 6) w := fun _ => by kernel_rfl
    have hfd1 : ∀ w : World, (Instr.field 71 (.agg #[.int .i64 6, .int .i64 5, .slice none 0 0, .slice none 0 0, .slice none 0 0]) 1).run Tryz.prog w = .ok (.int .i64 5) w := fun _ => by kernel_rfl
    obtain ⟨p0, p1, p2, _⟩ := C1.out.v3
    go_wp2_with fail
    refine (first11 _).mono ?_; rintro e w6 ⟨rfl, hb⟩
    clear p0 p1 p2
    replace HR := Lib.hid (HR.out.below hb)
    replace HB := Lib.hid (HB.out.trans (hb.mono HB.out.size))
    replace C1 := Lib.hid (C1.out.below hb)
    clear hb
    obtain ⟨p0, p1, p2, _⟩ := C1.out.v3
    go_wp2_with fail
    refine (answer_nil qn qt qc _).mono ?_; rintro e w7 ⟨rfl, hb⟩
    clear p0 p1 p2
    replace HR := Lib.hid (HR.out.below hb)
    replace HB := Lib.hid (HB.out.trans (hb.mono HB.out.size))
    replace C1 := Lib.hid (C1.out.below hb)
    clear hb
    obtain ⟨p0, p1, p2, _⟩ := C1.out.v3
    go_wp2_with fail
    refine (answer_nil qn qt qc _).mono ?_; rintro e w8 ⟨rfl, hb⟩
    clear p0 p1 p2
    replace HR := Lib.hid (HR.out.below hb)
    replace HB := Lib.hid (HB.out.trans (hb.mono HB.out.size))
    replace C1 := Lib.hid (C1.out.below hb)
    clear hb
    go_wp2
    go_ret
    exact ⟨rfl, HB.out⟩
  have HOK := Lib.hid hok
  clear hok
  clear HR HSM HSZ HN HN3
  have HON := Lib.hid (onlyP HOK.out HA2.out qt qc)
  have HAL := Lib.hid (ans_len HOK.out HA2.out qt qc)
  obtain ⟨p0, p1, p2, _⟩ := C1.out.v3
  go_wp2_with fail
  refine (answer_any z apex S qn qt qc _ HOK.out.is HOK.out.canon.keys HOK.out.sz HOK.out.szd HOK.out.canon.non HA1.out HA2.out).mono ?_; rintro e w6 ⟨⟨v, rfl, hrep⟩, hb⟩
  clear p0 p1 p2
  replace HB := Lib.hid (HB.out.trans (hb.mono HB.out.size))
  replace C1 := Lib.hid (C1.out.below hb)
  replace HOK := Lib.hid (HOK.out.below hb)
  clear hb
  obtain ⟨a1, n1, c1, a2, n2, c2, a3, n3, c3, rfl, hs1, hz1, hs2, hz2, hs3, hz3⟩ := hrep
  obtain ⟨R, hR⟩ : ∃ x, ansF S apex qn qt qc = x := ⟨_, rfl⟩
  rw [hR] at HON HAL hs1 hs2 hs3 ⊢
  clear hR
  obtain ⟨kd, rc, AN, NS, AR⟩ := R
  dsimp only at hs1 hs2 hs3 ⊢
  have HS1 := Lib.hid hs1
  have HY1 := Lib.hid hz1
  have HS2 := Lib.hid hs2
  have HY2 := Lib.hid hz2
  have HS3 := Lib.hid hs3
  have HY3 := Lib.hid hz3
  clear hs1 hs2 hs3 hz1 hz2 hz3
  have HLN := Lib.hid (show n1 ≤ 1 ∧ n2 ≤ 1 ∧ n3 ≤ 600 by
    obtain ⟨h1, h2, h3⟩ := HAL.out
    have e1 := HS1.out.at.1
    have e2 := HS2.out.at.1
    have e3 := HS3.out.at.1
    dsimp only at h1 h2 h3
    omega)
  clear HAL
  have hba := (Below.refl _ _ : Below w6.heap.size w6 w6).alloc (Nat.le_refl _) (.cells #[.int .i64 kd, .int .i64 rc, .slice a1 n1 c1, .slice a2 n2 c2, .slice a3 n3 c3] 71)
  have CR := Lib.hid (CN.new w6 #[.int .i64 kd, .int .i64 rc, .slice a1 n1 c1, .slice a2 n2 c2, .slice a3 n3 c3] 71)
  replace HB := Lib.hid (HB.out.trans (hba.mono HB.out.size))
  replace C1 := Lib.hid (C1.out.below hba)
  replace HOK := Lib.hid (HOK.out.below hba)
  replace HS1 := Lib.hid (HS1.out.below hba)
  replace HS2 := Lib.hid (HS2.out.below hba)
  replace HS3 := Lib.hid (HS3.out.below hba)
  obtain ⟨w7, hw⟩ : ∃ x, w6.alloc (.cells #[.int .i64 kd, .int .i64 rc, .slice a1 n1 c1, .slice a2 n2 c2, .slice a3 n3 c3] 71) = x := ⟨_, rfl⟩
  obtain ⟨q7, hq⟩ : ∃ x, w6.heap.size = x := ⟨_, rfl⟩
  rw [hw, hq] at CR
  rw [hw] at HB C1 HOK HS1 HS2 HS3
  have HW := Lib.hid hw
  have HQ_ := Lib.hid hq
  clear hba hw hq
  go_upto_region 9 with (fail)
  rw [HW.out, HQ_.out]
  clear HW HQ_
  obtain ⟨L1, hm1, hc1, hd1⟩ := HS1.out.open
  have HM1 := Lib.hid hm1
  have HC1 := Lib.hid hc1
  have HD1 := Lib.hid hd1
  have HO1 := Lib.hid (flatS_oneA hd1)
  clear hm1 hc1 hd1
  obtain ⟨L2, hm2, hc2, hd2⟩ := HS2.out.open
  have HM2 := Lib.hid hm2
  have HC2 := Lib.hid hc2
  have HD2 := Lib.hid hd2
  have HO2 := Lib.hid (flatS_oneA hd2)
  clear hm2 hc2 hd2
  obtain ⟨L3, hm3, hc3, hd3⟩ := HS3.out.open
  have HM3 := Lib.hid hm3
  have HC3 := Lib.hid hc3
  have HD3 := Lib.hid hd3
  have HO3 := Lib.hid (flatS_oneA hd3)
  clear hm3 hc3 hd3
  obtain ⟨wd, hwd⟩ : ∃ x, w7.drew = x := ⟨_, rfl⟩
  have HBD := Lib.hid (show Below w7.heap.size w7 wd by rw [← hwd]; exact (Below.refl _ _).drew)
  refine wp_region_held_drew (S := (fun wx => Hid (Below w7.heap.size w7 wx))) (by kernel_rfl) (by rw [hwd]; exact HBD) (fun hHeld => ?_)
  rw [hwd] at hHeld ⊢
  clear hwd
  refine Plan.of [1, 2, 4, 5, 7, 8] ?_
  iterate 6 (refine Plan.w (v := ?_) rfl hHeld (by rfl) ?_ ?_; rotate_left; (focus (intro w hSw; (try dsimp only at hSw); obtain ⟨m0, m1, m2, m3, m4, _⟩ := (CR.out.below hSw.out).u5; go_simp; try with_reducible rfl)); try simp only [Act.put, List.setIfInBounds_toArray, List.set_cons_zero, List.set_cons_succ])
  refine Plan.fin ?_
  refine wpAnyH_ready (rs := [0]) (by kernel_rfl) (by simp) ?_
  refine AllReadyH.cons (o := { dst := some 56, op := Go.Op.buildSlice 61 0 #[], type := 61, pos := "law.go:59", after := #[], guard := none }) rfl (fun K hK => ?_) AllReadyH.nil
  go_simp
  have hb := (Below.refl _ _ : Below wd.heap.size wd wd).alloc (Nat.le_refl _) (.cells #[] 38)
  have HG0 := Lib.hid (World.ownsRow_lit (base := w7.heap.size) (e := 38) (size := 5) wd #[] 0 hHeld.out.size (by decide) rfl)
  obtain ⟨wx1, hwe⟩ : ∃ x, wd.alloc (.cells #[] 38) = x := ⟨_, rfl⟩
  obtain ⟨g0, hge⟩ : ∃ x, wd.heap.size = x := ⟨_, rfl⟩
  rw [hwe] at hb HG0 ⊢
  rw [hge] at HG0 ⊢
  clear hwe hge
  refine hK.out _ _ (Lib.hid (hHeld.out.trans (hb.mono hHeld.out.size))) (fun hHeld2 => ?_)
  clear hK K hHeld
  have hHeld := hHeld2
  clear hHeld2
  try simp only [Act.put, List.setIfInBounds_toArray, List.set_cons_zero, List.set_cons_succ]
  refine wpAnyH_ready (rs := [3]) (by kernel_rfl) (by simp) ?_
  refine AllReadyH.cons (o := { dst := some 59, op := Go.Op.call { callee := Go.Callee.builtin Go.Builtin.append, args := #[Go.Operand.tmp 56, Go.Operand.tmp 58], argTypes := #[61, 61] }, type := 61, pos := "law.go:59", after := #[{ on := 0, ground := Go.Ground.data }, { on := 2, ground := Go.Ground.data }], guard := none }) rfl (fun K hK => ?_) AllReadyH.nil
  refine step_append_cellsK (by rfl) _ _ 61 38 (by rfl) i0 _ 5 64 Tryz.underlying61 HI0.out HZ0.out HZ1.out HZ2.out rfl (by decide) w7.heap.size _ 0 [] (by rfl) HG0.out a1 n1 c1 (flatS L1) (by rfl) HY1.out (HC1.out.below hHeld.out) HO1.out (by have := HLN.out; omega) (by decide) hHeld.out.size ?_
  intro v1 wx2 hown hgrow
  have HG1 := Lib.hid hown
  have hbn := hHeld.out.grown hgrow hHeld.out.size (fun k hk => (HG0.out.lt k hk).1)
  clear hown hgrow
  refine hK.out _ _ (Lib.hid hbn) (fun hHeld2 => ?_)
  clear hK K hHeld
  have hHeld := hHeld2
  clear hHeld2
  try simp only [Act.put, List.setIfInBounds_toArray, List.set_cons_zero, List.set_cons_succ]
  refine wpAnyH_ready (rs := [6]) (by kernel_rfl) (by simp) ?_
  refine AllReadyH.cons (o := { dst := some 62, op := Go.Op.call { callee := Go.Callee.builtin Go.Builtin.append, args := #[Go.Operand.tmp 59, Go.Operand.tmp 61], argTypes := #[61, 61] }, type := 61, pos := "law.go:59", after := #[{ on := 3, ground := Go.Ground.data }, { on := 5, ground := Go.Ground.data }, { on := 3, ground := Go.Ground.chain }], guard := none }) rfl (fun K hK => ?_) AllReadyH.nil
  obtain ⟨a28, c28, hv28, -, -⟩ := cellsK_own HG1.out
  subst hv28
  refine step_append_cellsK (by rfl) _ _ 61 38 (by rfl) i0 _ 5 64 Tryz.underlying61 HI0.out HZ0.out HZ1.out HZ2.out rfl (by decide) w7.heap.size _ (0 + n1) ([] ++ flatS L1) (by rfl) HG1.out a2 n2 c2 (flatS L2) (by rfl) HY2.out (HC2.out.below hHeld.out) HO2.out (by have := HLN.out; omega) (by decide) hHeld.out.size ?_
  intro v2 wx3 hown hgrow
  have HG2 := Lib.hid hown
  have hbn := hHeld.out.grown hgrow hHeld.out.size (fun k hk => (HG1.out.lt k hk).1)
  clear hown hgrow
  refine hK.out _ _ (Lib.hid hbn) (fun hHeld2 => ?_)
  clear hK K hHeld
  have hHeld := hHeld2
  clear hHeld2
  try simp only [Act.put, List.setIfInBounds_toArray, List.set_cons_zero, List.set_cons_succ]
  refine wpAnyH_ready (rs := [9]) (by kernel_rfl) (by simp) ?_
  refine AllReadyH.cons (o := { dst := some 65, op := Go.Op.call { callee := Go.Callee.builtin Go.Builtin.append, args := #[Go.Operand.tmp 62, Go.Operand.tmp 64], argTypes := #[61, 61] }, type := 61, pos := "law.go:59", after := #[{ on := 6, ground := Go.Ground.data }, { on := 8, ground := Go.Ground.data }, { on := 6, ground := Go.Ground.chain }], guard := none }) rfl (fun K hK => ?_) AllReadyH.nil
  obtain ⟨a38, c38, hv38, -, -⟩ := cellsK_own HG2.out
  subst hv38
  refine step_append_cellsK (by rfl) _ _ 61 38 (by rfl) i0 _ 5 64 Tryz.underlying61 HI0.out HZ0.out HZ1.out HZ2.out rfl (by decide) w7.heap.size _ (0 + n1 + n2) ([] ++ flatS L1 ++ flatS L2) (by rfl) HG2.out a3 n3 c3 (flatS L3) (by rfl) HY3.out (HC3.out.below hHeld.out) HO3.out (by have := HLN.out; omega) (by decide) hHeld.out.size ?_
  intro v3 wx4 hown hgrow
  have HG3 := Lib.hid hown
  have hbn := hHeld.out.grown hgrow hHeld.out.size (fun k hk => (HG2.out.lt k hk).1)
  clear hown hgrow
  refine hK.out _ _ (Lib.hid hbn) (fun hHeld2 => ?_)
  clear hK K hHeld
  have hHeld := hHeld2
  clear hHeld2
  try simp only [Act.put, List.setIfInBounds_toArray, List.set_cons_zero, List.set_cons_succ]
  refine Plan.of [10] ?_
  refine Plan.w (v := ?_) rfl hHeld (by rfl) ?_ ?_; rotate_left; (focus (intro w hSw; (try dsimp only at hSw); obtain ⟨m0, m1, m2, m3, m4, _⟩ := (CR.out.below hSw.out).u5; go_simp; try with_reducible rfl)); try simp only [Act.put, List.setIfInBounds_toArray, List.set_cons_zero, List.set_cons_succ]
  refine Plan.fin ?_
  refine wpAnyH_done (by kernel_rfl) ?_ _
  have HB7 := Lib.hid hHeld.out
  clear hHeld
  obtain ⟨la, lc, hv, hsa⟩ := sets_join (by rw [List.nil_append] at HG3; exact HG3.out) HM1.out HM2.out HM3.out (fun p hp => own_below' (HD1.out p hp) HB7.out) (fun p hp => own_below' (HD2.out p hp) HB7.out) (fun p hp => own_below' (HD3.out p hp) HB7.out)
  subst hv
  have HSA := Lib.hid hsa
  clear hsa HC1 HC2 HC3 HD1 HD2 HD3 HO1 HO2 HO3 HG0 HG1 HG2 HG3 HM1 HM2 HM3
  clear HI0 HZ0 HZ1 HZ2
  replace HB := Lib.hid (HB.out.trans (HB7.out.mono HB.out.size))
  replace C1 := Lib.hid (C1.out.below HB7.out)
  replace HOK := Lib.hid (HOK.out.below HB7.out)
  replace HS1 := Lib.hid (HS1.out.below HB7.out)
  replace HS2 := Lib.hid (HS2.out.below HB7.out)
  replace HS3 := Lib.hid (HS3.out.below HB7.out)
  replace CR := Lib.hid (CR.out.below HB7.out)
  obtain ⟨w10, hw10⟩ : ∃ x, wx4 = x := ⟨_, rfl⟩
  rw [hw10] at HB C1 HOK HS1 HS2 HS3 CR HSA ⊢
  clear hw10 HB7 HBD
  obtain ⟨m, hm⟩ : ∃ x, 0 + n1 + n2 + n3 = x := ⟨_, rfl⟩
  rw [hm] at HSA ⊢
  have HMM := Lib.hid (show m ≤ 1000 by have := HLN.out; omega)
  have HME := Lib.hid hm
  clear hm HLN
  obtain ⟨G, hG⟩ : ∃ x, AN ++ NS ++ AR = x := ⟨_, rfl⟩
  rw [hG] at HSA
  have HGF := Lib.hid (show ∀ g ∈ G, findK S g.k = some g by have h := HON.out.1; rw [show (⟨kd, rc, AN, NS, AR⟩ : RepP).an ++ (⟨kd, rc, AN, NS, AR⟩ : RepP).ns ++ (⟨kd, rc, AN, NS, AR⟩ : RepP).ar = G from hG] at h; exact h)
  have HGG := HGF
  have HGL := Lib.hid (show G.length = m from HSA.out.1)
  have HKN := Lib.hid HON.out.2
  have HGE := Lib.hid hG
  clear hG HON
  go_wp2_with fail
  go_loopw [11] (fun i wr => ∃ (j : Nat), j ≤ m ∧ i = .int .i64 j ∧ Hid (Below w10.heap.size w10 wr)) (fun i _ => m - (intOf i).toNat)
  case atStart => exact ⟨0, Nat.zero_le _, rfl, Lib.hid (Below.refl _ _)⟩
  case round =>
    obtain ⟨j, hj, rfl, hbw⟩ := hrel
    have hmn := HMM.out
    by_cases hlt : j < m
    · have hsb := HSA.out
      rcases hsb.2 with h9 | ⟨b, o, rfl, hbl, hc⟩
      · omega
      obtain ⟨pa, ca, hs2⟩ := hc j hlt
      have hmem : G.getD j ssD ∈ G := by rw [List.getD_eq_getElem?_getD, List.getElem?_eq_getElem (by have := HGL.out; omega)]; exact List.getElem_mem _
      obtain ⟨s, hss⟩ : ∃ s, G.getD j ssD = s := ⟨_, rfl⟩
      rw [hss] at hs2 hmem
      have hfg := HGF.out _ hmem
      have hgz := HOK.out.sz.2 _ (find_mem hfg)
      obtain ⟨⟨gn, gt, gk⟩, gu, gd⟩ := s
      obtain ⟨x0, x1, x2, x3, x4, hsr, -⟩ := hs2
      replace hsr : RowS w10 pa gd.length gd := hsr
      replace x4 : w10.cell? ⟨b, o + j * 5 + 4, none⟩ = some (.slice pa gd.length ca) := x4
      obtain ⟨gl, hgl⟩ : ∃ x, gd.length = x := ⟨_, rfl⟩
      rw [hgl] at hsr x4
      replace hgz : gn.size ≤ 1000000 ∧ gd.length ≤ 100000 := hgz
      rw [hgl] at hgz
      have X0 := Lib.hid (show wr.cell? ⟨b, o + j * 5, none⟩ = some (.string gn) from cell_later4 hbw.out x0)
      have X1 := Lib.hid (show wr.cell? ⟨b, o + j * 5 + 1, none⟩ = some (.int .i64 gt) from cell_later4 hbw.out x1)
      have X2 := Lib.hid (show wr.cell? ⟨b, o + j * 5 + 2, none⟩ = some (.int .i64 gk) from cell_later4 hbw.out x2)
      have X3 := Lib.hid (show wr.cell? ⟨b, o + j * 5 + 3, none⟩ = some (.int .i64 gu) from cell_later4 hbw.out x3)
      have X4 := Lib.hid (cell_later4 hbw.out x4)
      have HSR := Lib.hid (hsr.below hbw.out)
      have HFG := Lib.hid (show findK S ⟨gn, gt, gk⟩ = some ⟨⟨gn, gt, gk⟩, gu, gd⟩ from hfg)
      have HGZ := Lib.hid hgz.1
      have HGD := Lib.hid hgz.2
      have HGLL := Lib.hid hgl
      have c0 := X0.out
      have c1 := X1.out
      have c2 := X2.out
      have i1 : (0 : Int) ≤ (j : Int) := by omega
      have i2 : (j : Int) < (m : Int) := by omega
      have HLT := Lib.hid hlt
      have HOKR := Lib.hid (HOK.out.below hbw.out)
      have HBW := Lib.hid hbw.out
      clear x0 x1 x2 x3 x4 hsr hmem hss hgz hgl hlt hc hbl hsb hfg hbw
      go_wp2_with fail
      refine (zget_any z apex S gn gt gk wr HOKR.out.is HOKR.out.canon.keys HOKR.out.sz HGZ.out).mono ?_; rintro e wg ⟨hf, hbg⟩
      rcases hf with ⟨s', dv, hfs, rfl, ho⟩ | ⟨hfn, -⟩
      case inr => rw [HFG.out] at hfn; cases hfn
      obtain rfl : (⟨⟨gn, gt, gk⟩, gu, gd⟩ : SetP) = s' := by rw [HFG.out] at hfs; exact Option.some.inj hfs
      replace ho : wg.ownsRow wr.heap.size 9 1 dv gd.length (sc gd) := ho
      obtain ⟨ta2, tc2, rfl, htr, -⟩ := rowS_of_own ho
      rw [HGLL.out] at htr
      dsimp only
      rw [HGLL.out]
      have hba := (Below.refl wg.heap.size wg).alloc (Nat.le_refl _) (.cells #[.string gn, .int .i64 gt, .int .i64 gk, .int .i64 gu, .slice ta2 gl tc2] 38)
      have hbb := hbg.trans (hba.mono hbg.size)
      have hn19 := CN.new wg #[.string gn, .int .i64 gt, .int .i64 gk, .int .i64 gu, .slice ta2 gl tc2] 38
      replace htr := htr.below hba
      clear hfs ho hba hbg c0 c1 c2
      go_upto_region 14 with (fail)
      obtain ⟨wb, hwb⟩ : ∃ x, wg.alloc (.cells #[.string gn, .int .i64 gt, .int .i64 gk, .int .i64 gu, .slice ta2 gl tc2] 38) = x := ⟨_, rfl⟩
      rw [hwb] at hbb hn19 htr ⊢
      obtain ⟨q19, hq⟩ : ∃ x, wg.heap.size = x := ⟨_, rfl⟩
      rw [hq] at hn19 ⊢
      clear hwb hq
      have HTR := Lib.hid htr
      have HC19 := Lib.hid hn19
      have HXB := Lib.hid hbb
      have HSRB := Lib.hid (HSR.out.below hbb)
      have Y0 := Lib.hid (cell_later4 hbb X0.out)
      have Y1 := Lib.hid (cell_later4 hbb X1.out)
      have Y2 := Lib.hid (cell_later4 hbb X2.out)
      have Y3 := Lib.hid (cell_later4 hbb X3.out)
      have Y4 := Lib.hid (cell_later4 hbb X4.out)
      clear hbb hn19 htr
      have HSAME := Lib.hid (fun wx (hx : Below wb.heap.size wb wx) => same_selfO gn gt gk gu gd ta2 pa gl tc2 ca wx (HTR.out.below hx) (HSRB.out.below hx) HGD.out)
      obtain ⟨we, hwe⟩ : ∃ x, wb.drew = x := ⟨_, rfl⟩
      have HBE := Lib.hid (show Below wb.heap.size wb we by rw [← hwe]; exact (Below.refl _ _).drew)
      refine wp_region_held_drew (S := (fun wx => Hid (Below wb.heap.size wb wx))) (by kernel_rfl) (by rw [hwe]; exact HBE) (fun hHeld => ?_)
      rw [hwe] at hHeld ⊢
      clear hwe
      refine Plan.of [0, 1, 2, 3, 4, 5, 6, 7] ?_
      iterate 8 (refine Plan.w (v := ?_) rfl hHeld (by rfl) ?_ ?_; rotate_left; (focus (intro w hSw; (try dsimp only at hSw); obtain ⟨z0, z1, z2, z3, z4, _⟩ := (HC19.out.below hSw.out).u5; have y0 := cell_later4 hSw.out Y0.out; have y1 := cell_later4 hSw.out Y1.out; have y2 := cell_later4 hSw.out Y2.out; have y3 := cell_later4 hSw.out Y3.out; have y4 := cell_later4 hSw.out Y4.out; go_simp; try with_reducible rfl)); try simp only [Act.put, List.setIfInBounds_toArray, List.set_cons_zero, List.set_cons_succ])
      refine Plan.fin ?_
      refine wpAnyH_ready (rs := [8]) (by kernel_rfl) (by simp) ?_
      refine AllReadyH.cons (o := { dst := some 90, op := Go.Op.call { callee := Go.Callee.value (Go.Operand.func 36), args := #[Go.Operand.tmp 85, Go.Operand.tmp 89], argTypes := #[38, 38] }, type := 4, pos := "law.go:62", after := #[{ on := 3, ground := Go.Ground.data }, { on := 7, ground := Go.Ground.data }, { on := 2, ground := Go.Ground.chain }, { on := 2, ground := Go.Ground.guard }], guard := some (2, false) }) rfl (fun K hK => ?_) AllReadyH.nil
      go_simp
      refine (HSAME.out _ hHeld.out).mono ?_; rintro e wz1 ⟨rfl, hb⟩
      go_wp2_with fail
      refine hK.out _ _ (Lib.hid (hHeld.out.trans (hb.mono hHeld.out.size))) (fun hHeld2 => ?_)
      clear hK K hHeld
      have hHeld := hHeld2
      clear hHeld2
      try simp only [Act.put, List.setIfInBounds_toArray, List.set_cons_zero, List.set_cons_succ]
      refine Plan.of [9, 10] ?_
      iterate 2 (refine Plan.w (v := ?_) rfl hHeld (by rfl) ?_ ?_; rotate_left; (focus (intro w hSw; (try dsimp only at hSw); obtain ⟨z0, z1, z2, z3, z4, _⟩ := (HC19.out.below hSw.out).u5; have y0 := cell_later4 hSw.out Y0.out; have y1 := cell_later4 hSw.out Y1.out; have y2 := cell_later4 hSw.out Y2.out; have y3 := cell_later4 hSw.out Y3.out; have y4 := cell_later4 hSw.out Y4.out; go_simp; try with_reducible rfl)); try simp only [Act.put, List.setIfInBounds_toArray, List.set_cons_zero, List.set_cons_succ])
      refine Plan.fin ?_
      refine wpAnyH_done (by kernel_rfl) ?_ _
      have hbe := hHeld.out
      clear hHeld
      have HBN := Lib.hid (HBW.out.trans ((HXB.out.trans (hbe.mono HXB.out.size)).mono HBW.out.size))
      clear hbe
      go_wp2
      go_roundw
      case rel => exact ⟨j + 1, by have := HLT.out; omega, by have := HLT.out; go_num, HBN⟩
      case measure => have := HLT.out; simp [intOf]; omega
    · obtain rfl : j = m := by omega
      replace HB := Lib.hid (HB.out.trans (hbw.out.mono HB.out.size))
      replace C1 := Lib.hid (C1.out.below hbw.out)
      replace HOK := Lib.hid (HOK.out.below hbw.out)
      replace HS1 := Lib.hid (HS1.out.below hbw.out)
      replace HS2 := Lib.hid (HS2.out.below hbw.out)
      replace HS3 := Lib.hid (HS3.out.below hbw.out)
      replace CR := Lib.hid (CR.out.below hbw.out)
      replace HSA := Lib.hid (HSA.out.below hbw.out)
      clear hbw hlt hj HSA HGF HGL
      skip
      obtain ⟨w11, hw11⟩ : ∃ x, wr = x := ⟨_, rfl⟩
      rw [hw11] at HB C1 HOK HS1 HS2 HS3 CR ⊢
      clear hw11
      have hfj : decide ((j : Int) < (j : Int)) = false := dF (by omega)
      skip
      obtain ⟨m0, m1, m2, m3, m4, _⟩ := CR.out.u5
      rcases HKN.out with ⟨hk, hr, s, hs, h1, h2⟩ | ⟨hk, h0, hns, s, hs, h1, h2⟩ | ⟨hk, han, s, hs, h1, h2, h3⟩ | ⟨hk, hr, han, ht, s, hs, h1⟩ | ⟨hk, hr, han, hu, ht, s, hs, h1⟩ | ⟨hk, hr, han, hns, har⟩
      · as_aux_lemma =>
          obtain rfl : kd = 1 := hk
          obtain rfl : rc = 0 := hr
          obtain rfl : AN = [s] := hs
          obtain ⟨hn9, b, o, pp, pc, hav, y0, y1, y2, y3, y4, -⟩ := at_full3 HS1.out.at
          subst hn9 hav
          obtain ⟨⟨sn, st, sk⟩, su, sd⟩ := s
          skip
          replace y0 : w11.cell? ⟨b, o, none⟩ = some (.string sn) := y0
          replace y1 : w11.cell? ⟨b, o + 1, none⟩ = some (.int .i64 st) := y1
          replace y2 : w11.cell? ⟨b, o + 2, none⟩ = some (.int .i64 sk) := y2
          clear y3 y4
          obtain rfl : sn = qn := h1
          obtain rfl : st = qt := h2
          have s1 : (sn.toList == sn.toList) = true := by simp
          have s2 : (st == st) = true := by simp
          obtain ⟨p0, p1, p2, _⟩ := C1.out.v3
          go_wp2_with fail
          go_quiet (fail)
          rename_i nq
          have HB8 := Lib.hid (below_drewN HB.out nq)
          go_wp2_with fail
          refine (first11 _).mono ?_; rintro e w9 ⟨rfl, hb⟩
          have HB9 := Lib.hid (HB8.out.trans (hb.mono HB8.out.size))
          clear hb
          go_wp2
          go_ret
          exact ⟨rfl, HB9.out⟩
      · as_aux_lemma =>
          obtain rfl : kd = 2 := hk
          obtain rfl : NS = [] := hns
          obtain rfl : AN = [s] := hs
          obtain ⟨hn9, b, o, pp, pc, hav, y0, y1, y2, y3, y4, -⟩ := at_full3 HS1.out.at
          subst hn9 hav
          obtain ⟨⟨sn, st, sk⟩, su, sd⟩ := s
          skip
          replace y0 : w11.cell? ⟨b, o, none⟩ = some (.string sn) := y0
          replace y1 : w11.cell? ⟨b, o + 1, none⟩ = some (.int .i64 st) := y1
          replace y2 : w11.cell? ⟨b, o + 2, none⟩ = some (.int .i64 sk) := y2
          clear y3 y4
          obtain rfl : 0 = n2 := HS2.out.at.1
          obtain rfl : sn = qn := h1
          obtain rfl : st = 5 := h2
          have s1 : (sn.toList == sn.toList) = true := by simp
          have s5 : (qt != 5) = true := by simpa using h0
          clear h0
          have Y0 := Lib.hid y0
          have Y1 := Lib.hid y1
          have Y2 := Lib.hid y2
          clear y0 y1 y2
          go_upto_region 22 with (fail)
          clear m0 m1 m2 m3 m4
          obtain ⟨wd, hwd⟩ : ∃ x, w11.drew = x := ⟨_, rfl⟩
          have HBD := Lib.hid (show Below w11.heap.size w11 wd by rw [← hwd]; exact (Below.refl _ _).drew)
          refine wp_region_held_drew (S := (fun wx => Hid (Below w11.heap.size w11 wx))) (by kernel_rfl) (by rw [hwd]; exact HBD) (fun hHeld => ?_)
          rw [hwd] at hHeld ⊢
          clear hwd
          refine Plan.of [0, 1, 2, 3, 4, 5, 6, 7, 8, 9, 10, 11, 12, 13, 14, 15, 16, 17, 18, 19, 20] ?_
          iterate 21 (refine Plan.w (v := ?_) rfl hHeld (by rfl) ?_ ?_; rotate_left; (focus (intro w hSw; (try dsimp only at hSw); obtain ⟨m0, m1, m2, m3, m4, _⟩ := (CR.out.below hSw.out).u5; obtain ⟨p0, p1, p2, _⟩ := (C1.out.below hSw.out).v3; have y0 := cell_later4 hSw.out Y0.out; have y1 := cell_later4 hSw.out Y1.out; have y2 := cell_later4 hSw.out Y2.out; go_simp; try with_reducible rfl)); try simp only [Act.put, List.setIfInBounds_toArray, List.set_cons_zero, List.set_cons_succ])
          refine Plan.fin ?_
          refine wpAnyH_ready (rs := [21]) (by kernel_rfl) (by simp) ?_
          refine AllReadyH.cons (o := { dst := some 151, op := Go.Op.buildSlice 149 1 #[(0, Go.Operand.const (Go.Value.int Go.IntKind.i64 5))], type := 149, pos := "law.go:71", after := #[{ on := 15, ground := Go.Ground.guard }], guard := some (15, true) }) rfl (fun K hK => ?_) AllReadyH.nil
          go_simp
          have HIK := Lib.hid (isK ⟨sn, 5, sk⟩ _ 1 1 [5] _ (row_litO wd 5 3) (by decide))
          have hb := (Below.refl _ _ : Below wd.heap.size wd wd).alloc (Nat.le_refl _) (.cells #[.int .i64 5] 3)
          obtain ⟨wx1, hwe⟩ : ∃ x, wd.alloc (.cells #[.int .i64 5] 3) = x := ⟨_, rfl⟩
          obtain ⟨gi, hge⟩ : ∃ x, wd.heap.size = x := ⟨_, rfl⟩
          rw [hwe] at hb HIK ⊢
          rw [hge] at HIK ⊢
          clear hwe hge
          refine hK.out _ _ (Lib.hid (hHeld.out.trans (hb.mono hHeld.out.size))) (fun hHeld2 => ?_)
          clear hK K hHeld
          have hHeld := hHeld2
          clear hHeld2
          try simp only [Act.put, List.setIfInBounds_toArray, List.set_cons_zero, List.set_cons_succ]
          refine wpAnyH_ready (rs := [22]) (by kernel_rfl) (by simp) ?_
          refine AllReadyH.cons (o := { dst := some 152, op := Go.Op.call { callee := Go.Callee.value (Go.Operand.func 37), args := #[Go.Operand.tmp 150, Go.Operand.tmp 151], argTypes := #[24, 149] }, type := 4, pos := "law.go:71", after := #[{ on := 20, ground := Go.Ground.data }, { on := 21, ground := Go.Ground.data }, { on := 15, ground := Go.Ground.chain }, { on := 15, ground := Go.Ground.guard }], guard := some (15, true) }) rfl (fun K hK => ?_) AllReadyH.nil
          go_simp
          refine HIK.out.mono ?_; rintro e wx2 ⟨rfl, hb⟩
          clear HIK
          rw [show decide ((⟨sn, 5, sk⟩ : Ky).t ∈ [(5 : Int)]) = true from by simp]
          go_wp2_with fail
          refine hK.out _ _ (Lib.hid (hHeld.out.trans (hb.mono hHeld.out.size))) (fun hHeld2 => ?_)
          clear hK K hHeld
          have hHeld := hHeld2
          clear hHeld2
          try simp only [Act.put, List.setIfInBounds_toArray, List.set_cons_zero, List.set_cons_succ]
          refine Plan.of [23, 24, 25, 26, 27, 28, 29, 30, 31, 32, 33, 34, 35] ?_
          iterate 13 (refine Plan.w (v := ?_) rfl hHeld (by rfl) ?_ ?_; rotate_left; (focus (intro w hSw; (try dsimp only at hSw); obtain ⟨m0, m1, m2, m3, m4, _⟩ := (CR.out.below hSw.out).u5; obtain ⟨p0, p1, p2, _⟩ := (C1.out.below hSw.out).v3; have y0 := cell_later4 hSw.out Y0.out; have y1 := cell_later4 hSw.out Y1.out; have y2 := cell_later4 hSw.out Y2.out; go_simp; try with_reducible rfl)); try simp only [Act.put, List.setIfInBounds_toArray, List.set_cons_zero, List.set_cons_succ])
          refine Plan.fin ?_
          refine wpAnyH_done (by kernel_rfl) ?_ _
          have HB7 := Lib.hid hHeld.out
          clear hHeld
          skip
          have HB8 := Lib.hid (HB.out.trans (HB7.out.mono HB.out.size))
          go_wp2_with fail
          refine (first11 _).mono ?_; rintro e w9 ⟨rfl, hb⟩
          have HB9 := Lib.hid (HB8.out.trans (hb.mono HB8.out.size))
          clear hb
          go_wp2
          go_ret
          exact ⟨rfl, HB9.out⟩
      · as_aux_lemma =>
          obtain rfl : kd = 3 := hk
          obtain rfl : AN = [] := han
          obtain rfl : NS = [s] := hs
          obtain ⟨hn9, b, o, pp, pc, hav, y0, y1, y2, y3, y4, -⟩ := at_full3 HS2.out.at
          subst hn9 hav
          obtain ⟨⟨sn, st, sk⟩, su, sd⟩ := s
          skip
          replace y0 : w11.cell? ⟨b, o, none⟩ = some (.string sn) := y0
          replace y1 : w11.cell? ⟨b, o + 1, none⟩ = some (.int .i64 st) := y1
          replace y2 : w11.cell? ⟨b, o + 2, none⟩ = some (.int .i64 sk) := y2
          clear y3 y4
          obtain rfl : 0 = n1 := HS1.out.at.1
          obtain rfl : st = 2 := h1
          have HU := Lib.hid (show undS qn sn = true from h2)
          have s1 : (sn.toList != apex.toList) = true := strO_ne h3
          have s2 : (sn.toList == apex.toList) = false := h3
          have HNZ := Lib.hid (show sn.size ≤ 1000000 from by have h := HOK.out.sz.2 _ (find_mem (HGG.out ⟨⟨sn, 2, sk⟩, su, sd⟩ (by rw [← HGE.out]; simp))); exact h.1)
          clear h2 h3
          have Y0 := Lib.hid y0
          have Y1 := Lib.hid y1
          have Y2 := Lib.hid y2
          clear y0 y1 y2
          go_upto_region 24 with (fail)
          clear m0 m1 m2 m3 m4
          obtain ⟨wd, hwd⟩ : ∃ x, w11.drew = x := ⟨_, rfl⟩
          have HBD := Lib.hid (show Below w11.heap.size w11 wd by rw [← hwd]; exact (Below.refl _ _).drew)
          refine wp_region_held_drew (S := (fun wx => Hid (Below w11.heap.size w11 wx))) (by kernel_rfl) (by rw [hwd]; exact HBD) (fun hHeld => ?_)
          rw [hwd] at hHeld ⊢
          clear hwd
          refine Plan.of [0, 1, 2, 3, 4, 5, 6, 7, 8, 9, 10, 11, 12, 13, 14, 15] ?_
          iterate 16 (refine Plan.w (v := ?_) rfl hHeld (by rfl) ?_ ?_; rotate_left; (focus (intro w hSw; (try dsimp only at hSw); obtain ⟨m0, m1, m2, m3, m4, _⟩ := (CR.out.below hSw.out).u5; obtain ⟨p0, p1, p2, _⟩ := (C1.out.below hSw.out).v3; have y0 := cell_later4 hSw.out Y0.out; have y1 := cell_later4 hSw.out Y1.out; have y2 := cell_later4 hSw.out Y2.out; go_simp; try with_reducible rfl)); try simp only [Act.put, List.setIfInBounds_toArray, List.set_cons_zero, List.set_cons_succ])
          refine Plan.fin ?_
          refine wpAnyH_ready (rs := [16]) (by kernel_rfl) (by simp) ?_
          refine AllReadyH.cons (o := { dst := some 183, op := Go.Op.buildSlice 149 1 #[(0, Go.Operand.const (Go.Value.int Go.IntKind.i64 2))], type := 149, pos := "law.go:73", after := #[{ on := 10, ground := Go.Ground.guard }], guard := some (10, true) }) rfl (fun K hK => ?_) AllReadyH.nil
          go_simp
          have HIK := Lib.hid (isK ⟨sn, 2, sk⟩ _ 1 1 [2] _ (row_litO wd 2 3) (by decide))
          have hb := (Below.refl _ _ : Below wd.heap.size wd wd).alloc (Nat.le_refl _) (.cells #[.int .i64 2] 3)
          obtain ⟨wx1, hwe⟩ : ∃ x, wd.alloc (.cells #[.int .i64 2] 3) = x := ⟨_, rfl⟩
          obtain ⟨gi, hge⟩ : ∃ x, wd.heap.size = x := ⟨_, rfl⟩
          rw [hwe] at hb HIK ⊢
          rw [hge] at HIK ⊢
          clear hwe hge
          refine hK.out _ _ (Lib.hid (hHeld.out.trans (hb.mono hHeld.out.size))) (fun hHeld2 => ?_)
          clear hK K hHeld
          have hHeld := hHeld2
          clear hHeld2
          try simp only [Act.put, List.setIfInBounds_toArray, List.set_cons_zero, List.set_cons_succ]
          refine wpAnyH_ready (rs := [17]) (by kernel_rfl) (by simp) ?_
          refine AllReadyH.cons (o := { dst := some 184, op := Go.Op.call { callee := Go.Callee.value (Go.Operand.func 37), args := #[Go.Operand.tmp 182, Go.Operand.tmp 183], argTypes := #[24, 149] }, type := 4, pos := "law.go:73", after := #[{ on := 15, ground := Go.Ground.data }, { on := 16, ground := Go.Ground.data }, { on := 10, ground := Go.Ground.chain }, { on := 10, ground := Go.Ground.guard }], guard := some (10, true) }) rfl (fun K hK => ?_) AllReadyH.nil
          go_simp
          refine HIK.out.mono ?_; rintro e wx2 ⟨rfl, hb⟩
          clear HIK
          rw [show decide ((⟨sn, 2, sk⟩ : Ky).t ∈ [(2 : Int)]) = true from by simp]
          go_wp2_with fail
          refine hK.out _ _ (Lib.hid (hHeld.out.trans (hb.mono hHeld.out.size))) (fun hHeld2 => ?_)
          clear hK K hHeld
          have hHeld := hHeld2
          clear hHeld2
          try simp only [Act.put, List.setIfInBounds_toArray, List.set_cons_zero, List.set_cons_succ]
          refine Plan.of [18, 19, 20, 21, 22, 23, 24, 25, 26, 27] ?_
          iterate 10 (refine Plan.w (v := ?_) rfl hHeld (by rfl) ?_ ?_; rotate_left; (focus (intro w hSw; (try dsimp only at hSw); obtain ⟨m0, m1, m2, m3, m4, _⟩ := (CR.out.below hSw.out).u5; obtain ⟨p0, p1, p2, _⟩ := (C1.out.below hSw.out).v3; have y0 := cell_later4 hSw.out Y0.out; have y1 := cell_later4 hSw.out Y1.out; have y2 := cell_later4 hSw.out Y2.out; go_simp; try with_reducible rfl)); try simp only [Act.put, List.setIfInBounds_toArray, List.set_cons_zero, List.set_cons_succ])
          refine Plan.fin ?_
          refine wpAnyH_ready (rs := [28]) (by kernel_rfl) (by simp) ?_
          refine AllReadyH.cons (o := { dst := some 195, op := Go.Op.call { callee := Go.Callee.value (Go.Operand.func 38), args := #[Go.Operand.tmp 188, Go.Operand.tmp 194], argTypes := #[9, 9] }, type := 4, pos := "law.go:73", after := #[{ on := 21, ground := Go.Ground.data }, { on := 27, ground := Go.Ground.data }, { on := 19, ground := Go.Ground.chain }, { on := 19, ground := Go.Ground.guard }], guard := some (19, true) }) rfl (fun K hK => ?_) AllReadyH.nil
          go_simp
          refine (runder_any qn sn wx2 HA2.out HNZ.out).mono ?_; rintro e wx3 ⟨rfl, hb⟩
          rw [HU.out]
          go_wp2_with fail
          refine hK.out _ _ (Lib.hid (hHeld.out.trans (hb.mono hHeld.out.size))) (fun hHeld2 => ?_)
          clear hK K hHeld
          have hHeld := hHeld2
          clear hHeld2
          try simp only [Act.put, List.setIfInBounds_toArray, List.set_cons_zero, List.set_cons_succ]
          refine Plan.of [29, 30, 31, 32, 33, 34, 35, 36, 37, 38, 39, 40] ?_
          iterate 12 (refine Plan.w (v := ?_) rfl hHeld (by rfl) ?_ ?_; rotate_left; (focus (intro w hSw; (try dsimp only at hSw); obtain ⟨m0, m1, m2, m3, m4, _⟩ := (CR.out.below hSw.out).u5; obtain ⟨p0, p1, p2, _⟩ := (C1.out.below hSw.out).v3; have y0 := cell_later4 hSw.out Y0.out; have y1 := cell_later4 hSw.out Y1.out; have y2 := cell_later4 hSw.out Y2.out; go_simp; try with_reducible rfl)); try simp only [Act.put, List.setIfInBounds_toArray, List.set_cons_zero, List.set_cons_succ])
          refine Plan.fin ?_
          refine wpAnyH_done (by kernel_rfl) ?_ _
          have HB7 := Lib.hid hHeld.out
          clear hHeld
          skip
          have HB8 := Lib.hid (HB.out.trans (HB7.out.mono HB.out.size))
          go_wp2_with fail
          refine (first11 _).mono ?_; rintro e w9 ⟨rfl, hb⟩
          have HB9 := Lib.hid (HB8.out.trans (hb.mono HB8.out.size))
          clear hb
          go_wp2
          go_ret
          exact ⟨rfl, HB9.out⟩
      · as_aux_lemma =>
          obtain rfl : kd = 4 := hk
          obtain rfl : rc = 3 := hr
          obtain rfl : AN = [] := han
          obtain rfl : NS = [s] := hs
          obtain ⟨hn9, b, o, pp, pc, hav, y0, y1, y2, y3, y4, -⟩ := at_full3 HS2.out.at
          subst hn9 hav
          obtain ⟨⟨sn, st, sk⟩, su, sd⟩ := s
          skip
          replace y0 : w11.cell? ⟨b, o, none⟩ = some (.string sn) := y0
          replace y1 : w11.cell? ⟨b, o + 1, none⟩ = some (.int .i64 st) := y1
          replace y2 : w11.cell? ⟨b, o + 2, none⟩ = some (.int .i64 sk) := y2
          clear y3 y4
          obtain rfl : 0 = n1 := HS1.out.at.1
          obtain rfl : st = 6 := h1
          have HT := Lib.hid ht
          clear ht
          obtain ⟨p0, p1, p2, _⟩ := C1.out.v3
          have HIK := Lib.hid (isK ⟨sn, 6, sk⟩ _ 1 1 [6] _ (row_litO w11 6 3) (by decide))
          have hba := (Below.refl _ _ : Below w11.heap.size w11 w11).alloc (Nat.le_refl _) (.cells #[.int .i64 6] 3)
          replace HB := Lib.hid (HB.out.trans (hba.mono HB.out.size))
          replace C1 := Lib.hid (C1.out.below hba)
          replace HOK := Lib.hid (HOK.out.below hba)
          replace HS1 := Lib.hid (HS1.out.below hba)
          replace HS2 := Lib.hid (HS2.out.below hba)
          replace HS3 := Lib.hid (HS3.out.below hba)
          replace CR := Lib.hid (CR.out.below hba)
          clear hba
          go_wp2_with fail
          refine HIK.out.mono ?_; rintro e w21 ⟨rfl, hb⟩
          rw [show decide ((⟨sn, 6, sk⟩ : Ky).t ∈ [(6 : Int)]) = true from by simp]
          clear m0 m1 m2 m3 m4 p0 p1 p2
          clear HIK
          replace HB := Lib.hid (HB.out.trans (hb.mono HB.out.size))
          replace C1 := Lib.hid (C1.out.below hb)
          replace HOK := Lib.hid (HOK.out.below hb)
          replace HS1 := Lib.hid (HS1.out.below hb)
          replace HS2 := Lib.hid (HS2.out.below hb)
          replace HS3 := Lib.hid (HS3.out.below hb)
          replace CR := Lib.hid (CR.out.below hb)
          clear hb
          obtain ⟨p0, p1, p2, _⟩ := C1.out.v3
          obtain ⟨m0, m1, m2, m3, m4, _⟩ := CR.out.u5
          go_wp2_with fail
          refine (zthere_any z apex S qn _ HOK.out.is HOK.out.sz HA1.out HA2.out).mono ?_; rintro e w22 ⟨rfl, hb⟩
          clear p0 p1 p2 m0 m1 m2 m3 m4
          replace HB := Lib.hid (HB.out.trans (hb.mono HB.out.size))
          replace C1 := Lib.hid (C1.out.below hb)
          replace HOK := Lib.hid (HOK.out.below hb)
          replace HS1 := Lib.hid (HS1.out.below hb)
          replace HS2 := Lib.hid (HS2.out.below hb)
          replace HS3 := Lib.hid (HS3.out.below hb)
          replace CR := Lib.hid (CR.out.below hb)
          clear hb
          rw [HT.out, Bool.and_false]
          clear y0 y1 y2
          skip
          go_wp2_with fail
          refine (first11 _).mono ?_; rintro e w9 ⟨rfl, hb⟩
          have HB9 := Lib.hid (HB.out.trans (hb.mono HB.out.size))
          clear hb
          go_wp2
          go_ret
          exact ⟨rfl, HB9.out⟩
      · as_aux_lemma =>
          obtain rfl : kd = 5 := hk
          obtain rfl : rc = 0 := hr
          obtain rfl : AN = [] := han
          obtain rfl : NS = [s] := hs
          obtain ⟨hn9, b, o, pp, pc, hav, y0, y1, y2, y3, y4, -⟩ := at_full3 HS2.out.at
          subst hn9 hav
          obtain ⟨⟨sn, st, sk⟩, su, sd⟩ := s
          skip
          replace y0 : w11.cell? ⟨b, o, none⟩ = some (.string sn) := y0
          replace y1 : w11.cell? ⟨b, o + 1, none⟩ = some (.int .i64 st) := y1
          replace y2 : w11.cell? ⟨b, o + 2, none⟩ = some (.int .i64 sk) := y2
          clear y3 y4
          obtain rfl : 0 = n1 := HS1.out.at.1
          obtain rfl : st = 6 := h1
          have HT := Lib.hid ht
          have HU := Lib.hid hu
          clear ht hu
          obtain ⟨p0, p1, p2, _⟩ := C1.out.v3
          have HIK := Lib.hid (isK ⟨sn, 6, sk⟩ _ 1 1 [6] _ (row_litO w11 6 3) (by decide))
          have hba := (Below.refl _ _ : Below w11.heap.size w11 w11).alloc (Nat.le_refl _) (.cells #[.int .i64 6] 3)
          replace HB := Lib.hid (HB.out.trans (hba.mono HB.out.size))
          replace C1 := Lib.hid (C1.out.below hba)
          replace HOK := Lib.hid (HOK.out.below hba)
          replace HS1 := Lib.hid (HS1.out.below hba)
          replace HS2 := Lib.hid (HS2.out.below hba)
          replace HS3 := Lib.hid (HS3.out.below hba)
          replace CR := Lib.hid (CR.out.below hba)
          clear hba
          go_wp2_with fail
          refine HIK.out.mono ?_; rintro e w21 ⟨rfl, hb⟩
          rw [show decide ((⟨sn, 6, sk⟩ : Ky).t ∈ [(6 : Int)]) = true from by simp]
          clear m0 m1 m2 m3 m4 p0 p1 p2
          clear HIK
          replace HB := Lib.hid (HB.out.trans (hb.mono HB.out.size))
          replace C1 := Lib.hid (C1.out.below hb)
          replace HOK := Lib.hid (HOK.out.below hb)
          replace HS1 := Lib.hid (HS1.out.below hb)
          replace HS2 := Lib.hid (HS2.out.below hb)
          replace HS3 := Lib.hid (HS3.out.below hb)
          replace CR := Lib.hid (CR.out.below hb)
          clear hb
          obtain ⟨p0, p1, p2, _⟩ := C1.out.v3
          obtain ⟨m0, m1, m2, m3, m4, _⟩ := CR.out.u5
          go_wp2_with fail
          refine (zthere_any z apex S qn _ HOK.out.is HOK.out.sz HA1.out HA2.out).mono ?_; rintro e w22 ⟨rfl, hb⟩
          clear p0 p1 p2 m0 m1 m2 m3 m4
          replace HB := Lib.hid (HB.out.trans (hb.mono HB.out.size))
          replace C1 := Lib.hid (C1.out.below hb)
          replace HOK := Lib.hid (HOK.out.below hb)
          replace HS1 := Lib.hid (HS1.out.below hb)
          replace HS2 := Lib.hid (HS2.out.below hb)
          replace HS3 := Lib.hid (HS3.out.below hb)
          replace CR := Lib.hid (CR.out.below hb)
          clear hb
          rw [HT.out, HU.out]
          clear y0 y1 y2
          skip
          go_wp2_with fail
          refine (first11 _).mono ?_; rintro e w9 ⟨rfl, hb⟩
          have HB9 := Lib.hid (HB.out.trans (hb.mono HB.out.size))
          clear hb
          go_wp2
          go_ret
          exact ⟨rfl, HB9.out⟩
      · as_aux_lemma =>
          obtain rfl : kd = 6 := hk
          obtain rfl : rc = 5 := hr
          obtain rfl : AN = [] := han
          obtain rfl : NS = [] := hns
          obtain rfl : AR = [] := har
          obtain rfl : 0 = n1 := HS1.out.at.1
          obtain rfl : 0 = n2 := HS2.out.at.1
          obtain rfl : 0 = n3 := HS3.out.at.1
          have hj0 := HME.out
          obtain rfl : j = 0 := by omega
          clear hj0
          skip
          go_wp2_with fail
          refine (first11 _).mono ?_; rintro e w9 ⟨rfl, hb⟩
          have HB9 := Lib.hid (HB.out.trans (hb.mono HB.out.size))
          clear hb
          go_wp2
          go_ret
          exact ⟨rfl, HB9.out⟩
end Go.Proofs.YtfopfplpfhncfaaGreat
