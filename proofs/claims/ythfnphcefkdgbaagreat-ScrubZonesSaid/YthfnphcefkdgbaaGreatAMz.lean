/- auth.Message. -/
import Derived.Test.YthfnphcefkdgbaaGreatMgU
namespace Go.Proofs.YthfnphcefkdgbaaGreat
open Go.RowKit
theorem row_litQ1 (w : World) (n : ByteArray) (t c : Int) : RowQ (w.alloc (.cells #[.string n, .int .i64 t, .int .i64 c] 69)) (some ⟨w.heap.size, 0, none⟩) 1 [⟨n, t, c⟩] :=
 ⟨rfl, cells_lit w #[.string n, .int .i64 t, .int .i64 c] _⟩
def MkA (w0 w : World) (B q4 q5 q6 q7 : Nat) (D4 D5 D6 D7 : List Value) : Prop := CN w q4 D4 ∧ CN w q5 D5 ∧ CN w q6 D6 ∧ CN w q7 D7 ∧ Below w0.heap.size w0 w ∧ w0.heap.size ≤ q7 ∧ q4 < q7 ∧ q5 < q7 ∧ q6 < q7 ∧ B = q7
theorem MkA.below {w0 w w' : World} {B q4 q5 q6 q7 : Nat} {D4 D5 D6 D7 : List Value} (h : MkA w0 w B q4 q5 q6 q7 D4 D5 D6 D7) (hb : Below w.heap.size w w') : MkA w0 w' B q4 q5 q6 q7 D4 D5 D6 D7 := by
 obtain ⟨h1, h2, h3, h4, h5, h6⟩ := h
 exact ⟨h1.below hb, h2.below hb, h3.below hb, h4.below hb, h5.trans (hb.mono h5.size), h6⟩
theorem MkA.put {w0 w : World} {B q4 q5 q6 q7 : Nat} {D4 D5 D6 D7 : List Value} (h : MkA w0 w B q4 q5 q6 q7 D4 D5 D6 D7) (i : Nat) (hi : i < D7.length) (v : Value) : MkA w0 (w.setCell ⟨q7, i, none⟩ v) B q4 q5 q6 q7 D4 D5 D6 (D7.set i v) := by
 obtain ⟨h1, h2, h3, h4, h5, h6, k4, k5, k6, k7⟩ := h
 have hg := grown_cell w q7 i v
 have ne : ∀ q, q < q7 → some q ≠ some q7 := fun q hq e => by injection e with e; omega
 exact ⟨h1.grown hg (ne _ k4), h2.grown hg (ne _ k5), h3.grown hg (ne _ k6), h4.set i hi v, h5.grown hg h5.size (fun k hk => by injection hk with hk; rw [← hk]; exact h6), h6, k4, k5, k6, k7⟩
theorem own_putA {w : World} {B n s q7 i : Nat} {e : TypeId} {v : Value} {xs : List Value} (h : w.ownsRow B e s v n xs) (hne : ∀ k, v.ownBlock = some k → k ≠ q7) (u : Value) : (w.setCell ⟨q7, i, none⟩ u).ownsRow B e s v n xs :=
 own_apart7 h (grown_cell w q7 i u) (fun k hk e => by injection e with e; exact hne k hk e.symm)
theorem rowQ_ownA {w : World} {B n c : Nat} {a : Option Addr} {l : List Ky} (h : w.ownsRow B 69 3 (.slice a n c) n (flatQ l)) : RowQ w a n l ∧ (a = none → n = 0 ∧ c = 0) := by
 obtain ⟨a', c', he, hr, hn⟩ := rowQ_own h
 simp only [Value.slice.injEq] at he
 obtain ⟨rfl, -, rfl⟩ := he
 exact ⟨hr, hn⟩
theorem rowR_ownA {w : World} {B n c : Nat} {a : Option Addr} {l : List R5} (h : w.ownsRow B 111 5 (.slice a n c) n (flatR l)) : RowR w a n l ∧ (a = none → n = 0 ∧ c = 0) := by
 obtain ⟨a', c', he, hr, hn⟩ := rowR_own h
 simp only [Value.slice.injEq] at he
 obtain ⟨rfl, -, rfl⟩ := he
 exact ⟨hr, hn⟩
set_option maxRecDepth 100000 in
set_option maxHeartbeats 20000000 in
theorem message_any (id : Int) (qn : ByteArray) (qt qc : Int) (R : RepP) (B : Nat) (rv : Value) (w : World) (h : RepAt w B rv R) (hl : R.an.length ≤ 1000 ∧ R.ns.length ≤ 1000 ∧ R.ar.length ≤ 1000) (hs : (flatP R.an).length ≤ 100000 ∧ (flatP R.ns).length ≤ 100000 ∧ (flatP R.ar).length ≤ 100000) : Calls Tryz.prog 34 #[.int .i64 id, .agg #[.string qn, .int .i64 qt, .int .i64 qc], rv] w fun e w' => (∃ v, e = .returned v ∧ MsgAt w' v (zMsg id qn qt qc R)) ∧ Below w.heap.size w w' := by
 obtain ⟨a1, n1, c1, a2, n2, c2, a3, n3, c3, rfl, hs1, hz1, hs2, hz2, hs3, hz3⟩ := h
 obtain ⟨kd, rc, AN, NS, AR⟩ := R
 dsimp only at hs1 hs2 hs3 hl hs ⊢
 have HS1 := Lib.hid hs1.at
 have HS2 := Lib.hid hs2.at
 have HS3 := Lib.hid hs3.at
 have HLL := Lib.hid hl
 have HSS := Lib.hid hs
 have HN1 := Lib.hid (show n1 ≤ 1000 by have h := hs1.at.1; omega)
 have HN2 := Lib.hid (show n2 ≤ 1000 by have h := hs2.at.1; omega)
 have HN3 := Lib.hid (show n3 ≤ 1000 by have h := hs3.at.1; omega)
 have HB := Lib.hid (Below.refl w.heap.size w)
 clear hs1 hs2 hs3 hz1 hz2 hz3 hl hs
 go_enter Tryz.func34, Tryz.ntmps34
 have hba := (Below.refl _ _ : Below w.heap.size w w).alloc (Nat.le_refl _) (.cells #[.string qn, .int .i64 qt, .int .i64 qc] 69)
 have C4 := Lib.hid (CN.new w #[.string qn, .int .i64 qt, .int .i64 qc] 69)
 replace HB := Lib.hid (HB.out.trans (hba.mono HB.out.size))
 obtain ⟨w2, hw⟩ : ∃ x, w.alloc (.cells #[.string qn, .int .i64 qt, .int .i64 qc] 69) = x := ⟨_, rfl⟩
 obtain ⟨q2, hq⟩ : ∃ x, w.heap.size = x := ⟨_, rfl⟩
 rw [hw, hq] at C4
 rw [hw] at HB
 have HWw2 := Lib.hid hw
 have HQq2 := Lib.hid hq
 clear hba hw hq
 have hba := (Below.refl _ _ : Below w2.heap.size w2 w2).alloc (Nat.le_refl _) (.cells #[.int .i64 kd, .int .i64 rc, .slice a1 n1 c1, .slice a2 n2 c2, .slice a3 n3 c3] 71)
 have C5 := Lib.hid (CN.new w2 #[.int .i64 kd, .int .i64 rc, .slice a1 n1 c1, .slice a2 n2 c2, .slice a3 n3 c3] 71)
 replace HB := Lib.hid (HB.out.trans (hba.mono HB.out.size))
 replace C4 := Lib.hid (C4.out.below hba)
 obtain ⟨w3, hw⟩ : ∃ x, w2.alloc (.cells #[.int .i64 kd, .int .i64 rc, .slice a1 n1 c1, .slice a2 n2 c2, .slice a3 n3 c3] 71) = x := ⟨_, rfl⟩
 obtain ⟨q3, hq⟩ : ∃ x, w2.heap.size = x := ⟨_, rfl⟩
 rw [hw, hq] at C5
 rw [hw] at HB C4
 have HSq3 := Lib.hid (show q2 + 1 = q3 by rw [← HQq2.out, ← hq, ← HWw2.out, World.size_alloc])
 have HWw3 := Lib.hid hw
 have HQq3 := Lib.hid hq
 clear hba hw hq
 have hba := (Below.refl _ _ : Below w3.heap.size w3 w3).alloc (Nat.le_refl _) (.cells #[.int .i64 0, .int .i64 0, .int .i64 0, .bool false, .bool false, .bool false, .bool false, .bool false, .slice none 0 0, .slice none 0 0, .slice none 0 0, .slice none 0 0] 77)
 have C6 := Lib.hid (CN.new w3 #[.int .i64 0, .int .i64 0, .int .i64 0, .bool false, .bool false, .bool false, .bool false, .bool false, .slice none 0 0, .slice none 0 0, .slice none 0 0, .slice none 0 0] 77)
 replace HB := Lib.hid (HB.out.trans (hba.mono HB.out.size))
 replace C4 := Lib.hid (C4.out.below hba)
 replace C5 := Lib.hid (C5.out.below hba)
 obtain ⟨w4, hw⟩ : ∃ x, w3.alloc (.cells #[.int .i64 0, .int .i64 0, .int .i64 0, .bool false, .bool false, .bool false, .bool false, .bool false, .slice none 0 0, .slice none 0 0, .slice none 0 0, .slice none 0 0] 77) = x := ⟨_, rfl⟩
 obtain ⟨q4, hq⟩ : ∃ x, w3.heap.size = x := ⟨_, rfl⟩
 rw [hw, hq] at C6
 rw [hw] at HB C4 C5
 have HSq4 := Lib.hid (show q3 + 1 = q4 by rw [← HQq3.out, ← hq, ← HWw3.out, World.size_alloc])
 have HWw4 := Lib.hid hw
 have HQq4 := Lib.hid hq
 clear hba hw hq
 go_upto_region 1 with (fail)
 rw [HWw2.out, HWw3.out, HWw4.out]
 rw [show (Value.pointer (some { block := w.heap.size + 1 + 1, off := 0 })) = Value.pointer (some { block := q4, off := 0 }) by rw [HQq2.out, HSq3.out, HSq4.out]]
 rw [show (Value.pointer (some { block := w.heap.size + 1, off := 0 })) = Value.pointer (some { block := q3, off := 0 }) by rw [HQq2.out, HSq3.out]]
 rw [show (Value.pointer (some { block := w.heap.size, off := 0 })) = Value.pointer (some { block := q2, off := 0 }) by rw [HQq2.out]]
 have HQ46 := Lib.hid (show w.heap.size ≤ q2 ∧ q2 < q3 ∧ q3 < q4 ∧ q4 < w4.heap.size by have h1 := HSq3.out; have h2 := HSq4.out; have h3 := HQq2.out; have h4 := C6.out.1; omega)
 obtain ⟨p0, p1, p2, _⟩ := C4.out.u3
 have HRQ := Lib.hid (row_litQ1 w4 qn qt qc)
 have hba := (Below.refl _ _ : Below w4.heap.size w4 w4).alloc (Nat.le_refl _) (.cells #[.string qn, .int .i64 qt, .int .i64 qc] 69)
 replace HB := Lib.hid (HB.out.trans (hba.mono HB.out.size))
 replace C4 := Lib.hid (C4.out.below hba)
 replace C5 := Lib.hid (C5.out.below hba)
 replace C6 := Lib.hid (C6.out.below hba)
 clear hba
 go_wp2_with fail
 refine (ask_ex id _ 1 1 [⟨qn, qt, qc⟩] _ HRQ.out (fun h => by cases h) (by decide)).mono ?_; rintro e w5 ⟨qa, qc2, rfl, hoq, hb⟩
 clear p0 p1 p2
 replace HB := Lib.hid (HB.out.trans (hb.mono HB.out.size))
 replace C4 := Lib.hid (C4.out.below hb)
 replace C5 := Lib.hid (C5.out.below hb)
 replace C6 := Lib.hid (C6.out.below hb)
 have NHOQ := Lib.hid (show ∀ k, (Value.slice qa 1 qc2).ownBlock = some k → k ≠ q4 from fun k hk e => by have h1 := (hoq.lt k hk).1; have h2 := HQ46.out; simp only [World.size_alloc] at h1; omega)
 have HOQ := Lib.hid (own_mono4 hoq (Nat.zero_le _))
 clear hb hoq HRQ
 have HOL := Lib.hid (fun k hk => (HOQ.out.lt k hk).2)
 have hba := (Below.refl _ _ : Below w5.heap.size w5 w5).alloc (Nat.le_refl _) (.cells #[.int .i64 id, .int .i64 0, .int .i64 0, .bool false, .bool false, .bool false, .bool false, .bool false, .slice qa 1 qc2, .slice none 0 0, .slice none 0 0, .slice none 0 0] 77)
 have HQ67 := Lib.hid (show q4 < w5.heap.size from C6.out.1)
 have C7 := Lib.hid (CN.new w5 #[.int .i64 id, .int .i64 0, .int .i64 0, .bool false, .bool false, .bool false, .bool false, .bool false, .slice qa 1 qc2, .slice none 0 0, .slice none 0 0, .slice none 0 0] 77)
 replace HB := Lib.hid (HB.out.trans (hba.mono HB.out.size))
 replace C4 := Lib.hid (C4.out.below hba)
 replace C5 := Lib.hid (C5.out.below hba)
 replace C6 := Lib.hid (C6.out.below hba)
 replace HOQ := Lib.hid (own_below' HOQ.out hba)
 obtain ⟨w6, hw⟩ : ∃ x, w5.alloc (.cells #[.int .i64 id, .int .i64 0, .int .i64 0, .bool false, .bool false, .bool false, .bool false, .bool false, .slice qa 1 qc2, .slice none 0 0, .slice none 0 0, .slice none 0 0] 77) = x := ⟨_, rfl⟩
 obtain ⟨q6, hq⟩ : ∃ x, w5.heap.size = x := ⟨_, rfl⟩
 rw [hq] at HQ67 HOL
 rw [hw, hq] at C7
 rw [hw] at HB C4 C5 C6 HOQ
 have HW := Lib.hid hw
 have HQ_ := Lib.hid hq
 clear hba hw hq
 go_upto_region 2 with (fail)
 rw [HW.out, HQ_.out]
 clear HW HQ_
 have HQ7 := Lib.hid (show q2 < q6 ∧ q3 < q6 ∧ q4 < q6 ∧ w.heap.size ≤ q6 by have h := HQ46.out; have h2 := HQ67.out; omega)
 have HMK := Lib.hid (show MkA w w6 q6 q2 q3 q4 q6 [.string qn, .int .i64 qt, .int .i64 qc] [.int .i64 kd, .int .i64 rc, .slice a1 n1 c1, .slice a2 n2 c2, .slice a3 n3 c3] [.int .i64 0, .int .i64 0, .int .i64 0, .bool false, .bool false, .bool false, .bool false, .bool false, .slice none 0 0, .slice none 0 0, .slice none 0 0, .slice none 0 0] [.int .i64 id, .int .i64 0, .int .i64 0, .bool false, .bool false, .bool false, .bool false, .bool false, .slice qa 1 qc2, .slice none 0 0, .slice none 0 0, .slice none 0 0] from ⟨C4.out, C5.out, C6.out, C7.out, HB.out, HQ7.out.2.2.2, HQ7.out.1, HQ7.out.2.1, HQ7.out.2.2.1, rfl⟩)
 clear C4 C5 C6 C7 HB
 have HOD := Lib.hid (show ∀ k, (Value.slice qa 1 qc2).ownBlock = some k → k ≠ q6 from fun k hk e => by have := HOL.out k hk; omega)
 clear HOL
 obtain ⟨wd, hwd⟩ : ∃ x, w6.drew = x := ⟨_, rfl⟩
 have HBD := Lib.hid (show Below w6.heap.size w6 wd by rw [← hwd]; exact (Below.refl _ _).drew)
 replace HMK := Lib.hid (HMK.out.below HBD.out)
 replace HOQ := Lib.hid (own_below' HOQ.out HBD.out)
 obtain ⟨av, hav⟩ : ∃ x, decide (kd ≠ 3 ∧ kd ≠ 6) = x := ⟨_, rfl⟩
 have HAV := Lib.hid hav
 clear hav
 have HT := Lib.hid (show ((kd != 3) = false ∧ av = false) ∨ ((kd != 3) = true ∧ (kd != 6) = av) by
  rw [← HAV.out]
  by_cases h3 : kd = 3
  · exact Or.inl ⟨nF h3, by simp [h3]⟩
  · refine Or.inr ⟨nT h3, ?_⟩
    by_cases h6 : kd = 6
    · rw [nF h6]; simp [h6]
    · rw [nT h6]; simp [h3, h6])
 rw [← hwd] at HMK HOQ
 clear HBD
 go_cut [] (fun wx => Hid (MkA w wx q6 q2 q3 q4 q6 [.string qn, .int .i64 qt, .int .i64 qc] [.int .i64 kd, .int .i64 rc, .slice a1 n1 c1, .slice a2 n2 c2, .slice a3 n3 c3] [.int .i64 0, .int .i64 0, .int .i64 0, .bool false, .bool false, .bool false, .bool false, .bool false, .slice none 0 0, .slice none 0 0, .slice none 0 0, .slice none 0 0] [.int .i64 id, .int .i64 0, .int .i64 rc, .bool true, .bool av, .bool false, .bool false, .bool false, .slice qa 1 qc2, .slice none 0 0, .slice none 0 0, .slice none 0 0]) ∧ Hid (wx.ownsRow 0 69 3 (.slice qa 1 qc2) 1 (flatQ [⟨qn, qt, qc⟩])))
 case first =>
  as_aux_lemma =>
    rw [hwd] at HMK HOQ
    rcases HT.out with ⟨d1, rfl⟩ | ⟨d1, d2⟩
    · as_aux_lemma =>
       refine wp_region_held_drew (S := (fun wx => Hid (CN wx q3 [.int .i64 kd, .int .i64 rc, .slice a1 n1 c1, .slice a2 n2 c2, .slice a3 n3 c3]))) (by kernel_rfl) (by rw [hwd]; exact Lib.hid HMK.out.2.1) (fun hHeld => ?_)
       rw [hwd] at hHeld ⊢
       clear hwd
       refine Plan.of [0, 1, 2, 3, 4, 5, 6, 7, 8, 9, 10, 11] ?_
       iterate 6 (refine Plan.w (v := ?_) rfl hHeld (by rfl) ?_ ?_; rotate_left; (focus (intro w hSw; (try dsimp only at hSw); obtain ⟨m0, m1, m2, m3, m4, _⟩ := hSw.out.u5; go_simp; try with_reducible rfl)); try simp only [Act.put, List.setIfInBounds_toArray, List.set_cons_zero, List.set_cons_succ])
       iterate 3 (refine Plan.n rfl hHeld (by rfl) ?_; try simp only [Act.put, List.setIfInBounds_toArray, List.set_cons_zero, List.set_cons_succ])
       iterate 3 (refine Plan.w (v := ?_) rfl hHeld (by rfl) ?_ ?_; rotate_left; (focus (intro w hSw; (try dsimp only at hSw); obtain ⟨m0, m1, m2, m3, m4, _⟩ := hSw.out.u5; go_simp; try with_reducible rfl)); try simp only [Act.put, List.setIfInBounds_toArray, List.set_cons_zero, List.set_cons_succ])
       refine Plan.fin ?_
       refine wpAnyH_ready (rs := [12]) (by kernel_rfl) (by simp) ?_
       refine AllReadyH.cons (o := { dst := none, op := Go.Op.store 4 (Go.Operand.tmp 23) (Go.Operand.const (Go.Value.bool true)), type := 0, pos := "auth.go:61", after := #[{ on := 11, ground := Go.Ground.data }, { on := 5, ground := Go.Ground.chain }, { on := 0, ground := Go.Ground.textOnly Go.Departure.lateStores }, { on := 1, ground := Go.Ground.textOnly Go.Departure.lateStores }, { on := 2, ground := Go.Ground.textOnly Go.Departure.lateStores }, { on := 3, ground := Go.Ground.textOnly Go.Departure.lateStores }, { on := 4, ground := Go.Ground.textOnly Go.Departure.lateStores }, { on := 5, ground := Go.Ground.textOnly Go.Departure.lateStores }, { on := 6, ground := Go.Ground.textOnly Go.Departure.lateStores }, { on := 7, ground := Go.Ground.textOnly Go.Departure.lateStores }, { on := 8, ground := Go.Ground.textOnly Go.Departure.lateStores }, { on := 9, ground := Go.Ground.textOnly Go.Departure.lateStores }], guard := none }) rfl (fun K hK => ?_) AllReadyH.nil
       have HMN := Lib.hid (show MkA w (wd.setCell ⟨q6, 3, none⟩ (.bool true)) q6 q2 q3 q4 q6 [.string qn, .int .i64 qt, .int .i64 qc] [.int .i64 kd, .int .i64 rc, .slice a1 n1 c1, .slice a2 n2 c2, .slice a3 n3 c3] [.int .i64 0, .int .i64 0, .int .i64 0, .bool false, .bool false, .bool false, .bool false, .bool false, .slice none 0 0, .slice none 0 0, .slice none 0 0, .slice none 0 0] [.int .i64 id, .int .i64 0, .int .i64 0, .bool true, .bool false, .bool false, .bool false, .bool false, .slice qa 1 qc2, .slice none 0 0, .slice none 0 0, .slice none 0 0] from HMK.out.put 3 (by simp) (.bool true))
       replace HOQ := Lib.hid (own_putA (i := 3) HOQ.out HOD.out (.bool true))
       refine step_store_cell rfl _ _ _ rfl 3 (.bool true) rfl rfl HMK.out.2.2.2.1 (by simp) (by kernel_rfl) (by rfl) ?_
       obtain ⟨wx1, hwe⟩ : ∃ x, wd.setCell ⟨q6, 3, none⟩ (.bool true) = x := ⟨_, rfl⟩
       rw [hwe] at HMN HOQ ⊢
       clear hwe
       replace HMK := HMN
       clear HMN
       refine hK.out _ _ (Lib.hid HMK.out.2.1) (fun hHeld2 => ?_)
       clear hK K hHeld
       have hHeld := hHeld2
       clear hHeld2
       try simp only [Act.put]
       refine Plan.of [13, 14] ?_
       iterate 2 (refine Plan.w (v := ?_) rfl hHeld (by rfl) ?_ ?_; rotate_left; (focus (intro w hSw; (try dsimp only at hSw); obtain ⟨m0, m1, m2, m3, m4, _⟩ := hSw.out.u5; go_simp; try with_reducible rfl)); try simp only [Act.put, List.setIfInBounds_toArray, List.set_cons_zero, List.set_cons_succ])
       refine Plan.fin ?_
       refine wpAnyH_ready (rs := [15]) (by kernel_rfl) (by simp) ?_
       refine AllReadyH.cons (o := { dst := none, op := Go.Op.store 3 (Go.Operand.tmp 25) (Go.Operand.tmp 13), type := 0, pos := "auth.go:61", after := #[{ on := 14, ground := Go.Ground.data }, { on := 1, ground := Go.Ground.data }, { on := 12, ground := Go.Ground.chain }, { on := 0, ground := Go.Ground.phase }, { on := 1, ground := Go.Ground.phase }, { on := 2, ground := Go.Ground.textOnly Go.Departure.lateStores }, { on := 3, ground := Go.Ground.textOnly Go.Departure.lateStores }, { on := 4, ground := Go.Ground.textOnly Go.Departure.lateStores }, { on := 5, ground := Go.Ground.textOnly Go.Departure.lateStores }, { on := 6, ground := Go.Ground.textOnly Go.Departure.lateStores }, { on := 7, ground := Go.Ground.textOnly Go.Departure.lateStores }, { on := 8, ground := Go.Ground.textOnly Go.Departure.lateStores }, { on := 9, ground := Go.Ground.textOnly Go.Departure.lateStores }, { on := 10, ground := Go.Ground.phase }, { on := 11, ground := Go.Ground.phase }, { on := 12, ground := Go.Ground.phase }], guard := none }) rfl (fun K hK => ?_) AllReadyH.nil
       have HMN := Lib.hid (show MkA w (wx1.setCell ⟨q6, 2, none⟩ (.int .i64 rc)) q6 q2 q3 q4 q6 [.string qn, .int .i64 qt, .int .i64 qc] [.int .i64 kd, .int .i64 rc, .slice a1 n1 c1, .slice a2 n2 c2, .slice a3 n3 c3] [.int .i64 0, .int .i64 0, .int .i64 0, .bool false, .bool false, .bool false, .bool false, .bool false, .slice none 0 0, .slice none 0 0, .slice none 0 0, .slice none 0 0] [.int .i64 id, .int .i64 0, .int .i64 rc, .bool true, .bool false, .bool false, .bool false, .bool false, .slice qa 1 qc2, .slice none 0 0, .slice none 0 0, .slice none 0 0] from HMK.out.put 2 (by simp) (.int .i64 rc))
       replace HOQ := Lib.hid (own_putA (i := 2) HOQ.out HOD.out (.int .i64 rc))
       refine step_store_cell rfl _ _ _ rfl 2 (.int .i64 rc) rfl rfl HMK.out.2.2.2.1 (by simp) (by kernel_rfl) (by rfl) ?_
       obtain ⟨wx2, hwe⟩ : ∃ x, wx1.setCell ⟨q6, 2, none⟩ (.int .i64 rc) = x := ⟨_, rfl⟩
       rw [hwe] at HMN HOQ ⊢
       clear hwe
       replace HMK := HMN
       clear HMN
       refine hK.out _ _ (Lib.hid HMK.out.2.1) (fun hHeld2 => ?_)
       clear hK K hHeld
       have hHeld := hHeld2
       clear hHeld2
       try simp only [Act.put]
       refine Plan.of [16, 17] ?_
       iterate 2 (refine Plan.w (v := ?_) rfl hHeld (by rfl) ?_ ?_; rotate_left; (focus (intro w hSw; (try dsimp only at hSw); obtain ⟨m0, m1, m2, m3, m4, _⟩ := hSw.out.u5; go_simp; try with_reducible rfl)); try simp only [Act.put, List.setIfInBounds_toArray, List.set_cons_zero, List.set_cons_succ])
       refine Plan.fin ?_
       refine wpAnyH_ready (rs := [18]) (by kernel_rfl) (by simp) ?_
       refine AllReadyH.cons (o := { dst := none, op := Go.Op.store 4 (Go.Operand.tmp 27) (Go.Operand.tmp 21), type := 0, pos := "auth.go:61", after := #[{ on := 17, ground := Go.Ground.data }, { on := 9, ground := Go.Ground.data }, { on := 15, ground := Go.Ground.chain }, { on := 0, ground := Go.Ground.phase }, { on := 1, ground := Go.Ground.phase }, { on := 2, ground := Go.Ground.phase }, { on := 3, ground := Go.Ground.phase }, { on := 4, ground := Go.Ground.phase }, { on := 5, ground := Go.Ground.phase }, { on := 6, ground := Go.Ground.phase }, { on := 7, ground := Go.Ground.phase }, { on := 8, ground := Go.Ground.phase }, { on := 9, ground := Go.Ground.phase }, { on := 10, ground := Go.Ground.phase }, { on := 11, ground := Go.Ground.phase }, { on := 12, ground := Go.Ground.phase }, { on := 13, ground := Go.Ground.phase }, { on := 14, ground := Go.Ground.phase }, { on := 15, ground := Go.Ground.phase }], guard := none }) rfl (fun K hK => ?_) AllReadyH.nil
       have HMN := Lib.hid (show MkA w (wx2.setCell ⟨q6, 4, none⟩ (.bool false)) q6 q2 q3 q4 q6 [.string qn, .int .i64 qt, .int .i64 qc] [.int .i64 kd, .int .i64 rc, .slice a1 n1 c1, .slice a2 n2 c2, .slice a3 n3 c3] [.int .i64 0, .int .i64 0, .int .i64 0, .bool false, .bool false, .bool false, .bool false, .bool false, .slice none 0 0, .slice none 0 0, .slice none 0 0, .slice none 0 0] [.int .i64 id, .int .i64 0, .int .i64 rc, .bool true, .bool false, .bool false, .bool false, .bool false, .slice qa 1 qc2, .slice none 0 0, .slice none 0 0, .slice none 0 0] from HMK.out.put 4 (by simp) (.bool false))
       replace HOQ := Lib.hid (own_putA (i := 4) HOQ.out HOD.out (.bool false))
       refine step_store_cell rfl _ _ _ rfl 4 (.bool false) rfl rfl HMK.out.2.2.2.1 (by simp) (by kernel_rfl) (by rfl) ?_
       obtain ⟨wx3, hwe⟩ : ∃ x, wx2.setCell ⟨q6, 4, none⟩ (.bool false) = x := ⟨_, rfl⟩
       rw [hwe] at HMN HOQ ⊢
       clear hwe
       replace HMK := HMN
       clear HMN
       refine hK.out _ _ (Lib.hid HMK.out.2.1) (fun hHeld2 => ?_)
       clear hK K hHeld
       have hHeld := hHeld2
       clear hHeld2
       try simp only [Act.put]
       refine wpAnyH_done (by kernel_rfl) ?_ _
       clear hHeld
       go_wp2_with fail
       go_meet
       exact ⟨HMK, HOQ⟩
    · as_aux_lemma =>
       refine wp_region_held_drew (S := (fun wx => Hid (CN wx q3 [.int .i64 kd, .int .i64 rc, .slice a1 n1 c1, .slice a2 n2 c2, .slice a3 n3 c3]))) (by kernel_rfl) (by rw [hwd]; exact Lib.hid HMK.out.2.1) (fun hHeld => ?_)
       rw [hwd] at hHeld ⊢
       clear hwd
       refine Plan.of [0, 1, 2, 3, 4, 5, 6, 7, 8, 9, 10, 11] ?_
       iterate 12 (refine Plan.w (v := ?_) rfl hHeld (by rfl) ?_ ?_; rotate_left; (focus (intro w hSw; (try dsimp only at hSw); obtain ⟨m0, m1, m2, m3, m4, _⟩ := hSw.out.u5; go_simp; try with_reducible rfl)); try simp only [Act.put, List.setIfInBounds_toArray, List.set_cons_zero, List.set_cons_succ])
       refine Plan.fin ?_
       refine wpAnyH_ready (rs := [12]) (by kernel_rfl) (by simp) ?_
       refine AllReadyH.cons (o := { dst := none, op := Go.Op.store 4 (Go.Operand.tmp 23) (Go.Operand.const (Go.Value.bool true)), type := 0, pos := "auth.go:61", after := #[{ on := 11, ground := Go.Ground.data }, { on := 5, ground := Go.Ground.chain }, { on := 0, ground := Go.Ground.textOnly Go.Departure.lateStores }, { on := 1, ground := Go.Ground.textOnly Go.Departure.lateStores }, { on := 2, ground := Go.Ground.textOnly Go.Departure.lateStores }, { on := 3, ground := Go.Ground.textOnly Go.Departure.lateStores }, { on := 4, ground := Go.Ground.textOnly Go.Departure.lateStores }, { on := 5, ground := Go.Ground.textOnly Go.Departure.lateStores }, { on := 6, ground := Go.Ground.textOnly Go.Departure.lateStores }, { on := 7, ground := Go.Ground.textOnly Go.Departure.lateStores }, { on := 8, ground := Go.Ground.textOnly Go.Departure.lateStores }, { on := 9, ground := Go.Ground.textOnly Go.Departure.lateStores }], guard := none }) rfl (fun K hK => ?_) AllReadyH.nil
       have HMN := Lib.hid (show MkA w (wd.setCell ⟨q6, 3, none⟩ (.bool true)) q6 q2 q3 q4 q6 [.string qn, .int .i64 qt, .int .i64 qc] [.int .i64 kd, .int .i64 rc, .slice a1 n1 c1, .slice a2 n2 c2, .slice a3 n3 c3] [.int .i64 0, .int .i64 0, .int .i64 0, .bool false, .bool false, .bool false, .bool false, .bool false, .slice none 0 0, .slice none 0 0, .slice none 0 0, .slice none 0 0] [.int .i64 id, .int .i64 0, .int .i64 0, .bool true, .bool false, .bool false, .bool false, .bool false, .slice qa 1 qc2, .slice none 0 0, .slice none 0 0, .slice none 0 0] from HMK.out.put 3 (by simp) (.bool true))
       replace HOQ := Lib.hid (own_putA (i := 3) HOQ.out HOD.out (.bool true))
       refine step_store_cell rfl _ _ _ rfl 3 (.bool true) rfl rfl HMK.out.2.2.2.1 (by simp) (by kernel_rfl) (by rfl) ?_
       obtain ⟨wx1, hwe⟩ : ∃ x, wd.setCell ⟨q6, 3, none⟩ (.bool true) = x := ⟨_, rfl⟩
       rw [hwe] at HMN HOQ ⊢
       clear hwe
       replace HMK := HMN
       clear HMN
       refine hK.out _ _ (Lib.hid HMK.out.2.1) (fun hHeld2 => ?_)
       clear hK K hHeld
       have hHeld := hHeld2
       clear hHeld2
       try simp only [Act.put]
       refine Plan.of [13, 14] ?_
       iterate 2 (refine Plan.w (v := ?_) rfl hHeld (by rfl) ?_ ?_; rotate_left; (focus (intro w hSw; (try dsimp only at hSw); obtain ⟨m0, m1, m2, m3, m4, _⟩ := hSw.out.u5; go_simp; try with_reducible rfl)); try simp only [Act.put, List.setIfInBounds_toArray, List.set_cons_zero, List.set_cons_succ])
       refine Plan.fin ?_
       refine wpAnyH_ready (rs := [15]) (by kernel_rfl) (by simp) ?_
       refine AllReadyH.cons (o := { dst := none, op := Go.Op.store 3 (Go.Operand.tmp 25) (Go.Operand.tmp 13), type := 0, pos := "auth.go:61", after := #[{ on := 14, ground := Go.Ground.data }, { on := 1, ground := Go.Ground.data }, { on := 12, ground := Go.Ground.chain }, { on := 0, ground := Go.Ground.phase }, { on := 1, ground := Go.Ground.phase }, { on := 2, ground := Go.Ground.textOnly Go.Departure.lateStores }, { on := 3, ground := Go.Ground.textOnly Go.Departure.lateStores }, { on := 4, ground := Go.Ground.textOnly Go.Departure.lateStores }, { on := 5, ground := Go.Ground.textOnly Go.Departure.lateStores }, { on := 6, ground := Go.Ground.textOnly Go.Departure.lateStores }, { on := 7, ground := Go.Ground.textOnly Go.Departure.lateStores }, { on := 8, ground := Go.Ground.textOnly Go.Departure.lateStores }, { on := 9, ground := Go.Ground.textOnly Go.Departure.lateStores }, { on := 10, ground := Go.Ground.phase }, { on := 11, ground := Go.Ground.phase }, { on := 12, ground := Go.Ground.phase }], guard := none }) rfl (fun K hK => ?_) AllReadyH.nil
       have HMN := Lib.hid (show MkA w (wx1.setCell ⟨q6, 2, none⟩ (.int .i64 rc)) q6 q2 q3 q4 q6 [.string qn, .int .i64 qt, .int .i64 qc] [.int .i64 kd, .int .i64 rc, .slice a1 n1 c1, .slice a2 n2 c2, .slice a3 n3 c3] [.int .i64 0, .int .i64 0, .int .i64 0, .bool false, .bool false, .bool false, .bool false, .bool false, .slice none 0 0, .slice none 0 0, .slice none 0 0, .slice none 0 0] [.int .i64 id, .int .i64 0, .int .i64 rc, .bool true, .bool false, .bool false, .bool false, .bool false, .slice qa 1 qc2, .slice none 0 0, .slice none 0 0, .slice none 0 0] from HMK.out.put 2 (by simp) (.int .i64 rc))
       replace HOQ := Lib.hid (own_putA (i := 2) HOQ.out HOD.out (.int .i64 rc))
       refine step_store_cell rfl _ _ _ rfl 2 (.int .i64 rc) rfl rfl HMK.out.2.2.2.1 (by simp) (by kernel_rfl) (by rfl) ?_
       obtain ⟨wx2, hwe⟩ : ∃ x, wx1.setCell ⟨q6, 2, none⟩ (.int .i64 rc) = x := ⟨_, rfl⟩
       rw [hwe] at HMN HOQ ⊢
       clear hwe
       replace HMK := HMN
       clear HMN
       refine hK.out _ _ (Lib.hid HMK.out.2.1) (fun hHeld2 => ?_)
       clear hK K hHeld
       have hHeld := hHeld2
       clear hHeld2
       try simp only [Act.put]
       refine Plan.of [16, 17] ?_
       iterate 2 (refine Plan.w (v := ?_) rfl hHeld (by rfl) ?_ ?_; rotate_left; (focus (intro w hSw; (try dsimp only at hSw); obtain ⟨m0, m1, m2, m3, m4, _⟩ := hSw.out.u5; go_simp; try with_reducible rfl)); try simp only [Act.put, List.setIfInBounds_toArray, List.set_cons_zero, List.set_cons_succ])
       refine Plan.fin ?_
       refine wpAnyH_ready (rs := [18]) (by kernel_rfl) (by simp) ?_
       refine AllReadyH.cons (o := { dst := none, op := Go.Op.store 4 (Go.Operand.tmp 27) (Go.Operand.tmp 21), type := 0, pos := "auth.go:61", after := #[{ on := 17, ground := Go.Ground.data }, { on := 9, ground := Go.Ground.data }, { on := 15, ground := Go.Ground.chain }, { on := 0, ground := Go.Ground.phase }, { on := 1, ground := Go.Ground.phase }, { on := 2, ground := Go.Ground.phase }, { on := 3, ground := Go.Ground.phase }, { on := 4, ground := Go.Ground.phase }, { on := 5, ground := Go.Ground.phase }, { on := 6, ground := Go.Ground.phase }, { on := 7, ground := Go.Ground.phase }, { on := 8, ground := Go.Ground.phase }, { on := 9, ground := Go.Ground.phase }, { on := 10, ground := Go.Ground.phase }, { on := 11, ground := Go.Ground.phase }, { on := 12, ground := Go.Ground.phase }, { on := 13, ground := Go.Ground.phase }, { on := 14, ground := Go.Ground.phase }, { on := 15, ground := Go.Ground.phase }], guard := none }) rfl (fun K hK => ?_) AllReadyH.nil
       have HMN := Lib.hid (show MkA w (wx2.setCell ⟨q6, 4, none⟩ (.bool av)) q6 q2 q3 q4 q6 [.string qn, .int .i64 qt, .int .i64 qc] [.int .i64 kd, .int .i64 rc, .slice a1 n1 c1, .slice a2 n2 c2, .slice a3 n3 c3] [.int .i64 0, .int .i64 0, .int .i64 0, .bool false, .bool false, .bool false, .bool false, .bool false, .slice none 0 0, .slice none 0 0, .slice none 0 0, .slice none 0 0] [.int .i64 id, .int .i64 0, .int .i64 rc, .bool true, .bool av, .bool false, .bool false, .bool false, .slice qa 1 qc2, .slice none 0 0, .slice none 0 0, .slice none 0 0] from HMK.out.put 4 (by simp) (.bool av))
       replace HOQ := Lib.hid (own_putA (i := 4) HOQ.out HOD.out (.bool av))
       refine step_store_cell rfl _ _ _ rfl 4 (.bool av) rfl rfl HMK.out.2.2.2.1 (by simp) (by kernel_rfl) (by rfl) ?_
       obtain ⟨wx3, hwe⟩ : ∃ x, wx2.setCell ⟨q6, 4, none⟩ (.bool av) = x := ⟨_, rfl⟩
       rw [hwe] at HMN HOQ ⊢
       clear hwe
       replace HMK := HMN
       clear HMN
       refine hK.out _ _ (Lib.hid HMK.out.2.1) (fun hHeld2 => ?_)
       clear hK K hHeld
       have hHeld := hHeld2
       clear hHeld2
       try simp only [Act.put]
       refine wpAnyH_done (by kernel_rfl) ?_ _
       clear hHeld
       go_wp2_with fail
       go_meet
       exact ⟨HMK, HOQ⟩
 case rest =>
  as_aux_lemma =>
    obtain ⟨HMK, HOQ⟩ := hcut
    obtain ⟨w3, hw3⟩ : ∃ x, wc = x := ⟨_, rfl⟩
    rw [hw3] at HMK HOQ ⊢
    clear hw3
    go_upto_region 3 with (fail)
    obtain ⟨wd, hwd⟩ : ∃ x, w3.drew = x := ⟨_, rfl⟩
    have HBD := Lib.hid (show Below w3.heap.size w3 wd by rw [← hwd]; exact (Below.refl _ _).drew)
    replace HMK := Lib.hid (HMK.out.below HBD.out)
    replace HOQ := Lib.hid (own_below' HOQ.out HBD.out)
    refine wp_region_held_drew (S := (fun wx => Hid (CN wx q3 [.int .i64 kd, .int .i64 rc, .slice a1 n1 c1, .slice a2 n2 c2, .slice a3 n3 c3]))) (by kernel_rfl) (by rw [hwd]; exact Lib.hid HMK.out.2.1) (fun hHeld => ?_)
    rw [hwd] at hHeld ⊢
    clear hwd
    refine Plan.of [0, 1, 3, 4, 6, 7] ?_
    iterate 6 (refine Plan.w (v := ?_) rfl hHeld (by rfl) ?_ ?_; rotate_left; (focus (intro w hSw; (try dsimp only at hSw); obtain ⟨m0, m1, m2, m3, m4, _⟩ := hSw.out.u5; go_simp; try with_reducible rfl)); try simp only [Act.put, List.setIfInBounds_toArray, List.set_cons_zero, List.set_cons_succ])
    refine Plan.fin ?_
    refine wpAnyH_ready (rs := [2]) (by kernel_rfl) (by simp) ?_
    refine AllReadyH.cons (o := { dst := some 30, op := Go.Op.call { callee := Go.Callee.value (Go.Operand.func 35), args := #[Go.Operand.tmp 29], argTypes := #[61] }, type := 22, pos := "auth.go:62", after := #[{ on := 1, ground := Go.Ground.data }], guard := none }) rfl (fun K hK => ?_) AllReadyH.nil
    go_simp
    refine (flat_any a1 n1 c1 AN wd (HS1.out.below HMK.out.2.2.2.2.1) (Nat.le_trans HN1.out (by decide)) HSS.out.1).mono ?_; rintro e wx1 ⟨v1, rfl, ho, hb⟩
    have HBF1 := Lib.hid (show ∀ k, v1.ownBlock = some k → k ≠ q6 from fun k hk e => by have h1 := (ho.lt k hk).1; have h2 := HMK.out.2.2.2.1.1; omega)
    have NHF1 := Lib.hid (show ∀ k, v1.ownBlock = some k → k ≠ q4 from fun k hk e => by have h1 := (ho.lt k hk).1; have h2 := HMK.out.2.2.1.1; omega)
    have HF1 := Lib.hid (own_mono4 ho (Nat.zero_le _))
    replace HMK := Lib.hid (HMK.out.below hb)
    replace HOQ := Lib.hid (own_below' HOQ.out hb)
    have HCX := Lib.hid HMK.out.2.1
    clear ho hb
    obtain ⟨b1, e1, hv, hr1, hn1⟩ := rowR_own HF1.out
    subst hv
    clear hr1 hn1
    go_wp2_with fail
    refine hK.out _ _ (HCX) (fun hHeld2 => ?_)
    clear hK K hHeld
    have hHeld := hHeld2
    clear hHeld2
    try simp only [Act.put, List.setIfInBounds_toArray, List.set_cons_zero, List.set_cons_succ]
    refine Plan.of [9] ?_
    refine Plan.w (v := ?_) rfl hHeld (by rfl) ?_ ?_; rotate_left; (focus (intro w hSw; (try dsimp only at hSw); obtain ⟨m0, m1, m2, m3, m4, _⟩ := hSw.out.u5; go_simp; try with_reducible rfl)); try simp only [Act.put, List.setIfInBounds_toArray, List.set_cons_zero, List.set_cons_succ]
    refine Plan.fin ?_
    refine wpAnyH_ready (rs := [5]) (by kernel_rfl) (by simp) ?_
    refine AllReadyH.cons (o := { dst := some 33, op := Go.Op.call { callee := Go.Callee.value (Go.Operand.func 35), args := #[Go.Operand.tmp 32], argTypes := #[61] }, type := 22, pos := "auth.go:62", after := #[{ on := 4, ground := Go.Ground.data }, { on := 2, ground := Go.Ground.chain }], guard := none }) rfl (fun K hK => ?_) AllReadyH.nil
    go_simp
    refine (flat_any a2 n2 c2 NS wx1 (HS2.out.below HMK.out.2.2.2.2.1) (Nat.le_trans HN2.out (by decide)) HSS.out.2.1).mono ?_; rintro e wx2 ⟨v2, rfl, ho, hb⟩
    have HBF2 := Lib.hid (show ∀ k, v2.ownBlock = some k → k ≠ q6 from fun k hk e => by have h1 := (ho.lt k hk).1; have h2 := HMK.out.2.2.2.1.1; omega)
    have NHF2 := Lib.hid (show ∀ k, v2.ownBlock = some k → k ≠ q4 from fun k hk e => by have h1 := (ho.lt k hk).1; have h2 := HMK.out.2.2.1.1; omega)
    have HF2 := Lib.hid (own_mono4 ho (Nat.zero_le _))
    replace HMK := Lib.hid (HMK.out.below hb)
    replace HOQ := Lib.hid (own_below' HOQ.out hb)
    replace HF1 := Lib.hid (own_below' HF1.out hb)
    have HCX := Lib.hid HMK.out.2.1
    clear ho hb
    obtain ⟨b2, e2, hv, hr2, hn2⟩ := rowR_own HF2.out
    subst hv
    clear hr2 hn2
    go_wp2_with fail
    refine hK.out _ _ (HCX) (fun hHeld2 => ?_)
    clear hK K hHeld
    have hHeld := hHeld2
    clear hHeld2
    try simp only [Act.put, List.setIfInBounds_toArray, List.set_cons_zero, List.set_cons_succ]
    refine wpAnyH_ready (rs := [8]) (by kernel_rfl) (by simp) ?_
    refine AllReadyH.cons (o := { dst := some 36, op := Go.Op.call { callee := Go.Callee.value (Go.Operand.func 35), args := #[Go.Operand.tmp 35], argTypes := #[61] }, type := 22, pos := "auth.go:62", after := #[{ on := 7, ground := Go.Ground.data }, { on := 5, ground := Go.Ground.chain }], guard := none }) rfl (fun K hK => ?_) AllReadyH.nil
    go_simp
    refine (flat_any a3 n3 c3 AR wx2 (HS3.out.below HMK.out.2.2.2.2.1) (Nat.le_trans HN3.out (by decide)) HSS.out.2.2).mono ?_; rintro e wx3 ⟨v3, rfl, ho, hb⟩
    have HBF3 := Lib.hid (show ∀ k, v3.ownBlock = some k → k ≠ q6 from fun k hk e => by have h1 := (ho.lt k hk).1; have h2 := HMK.out.2.2.2.1.1; omega)
    have NHF3 := Lib.hid (show ∀ k, v3.ownBlock = some k → k ≠ q4 from fun k hk e => by have h1 := (ho.lt k hk).1; have h2 := HMK.out.2.2.1.1; omega)
    have HF3 := Lib.hid (own_mono4 ho (Nat.zero_le _))
    replace HMK := Lib.hid (HMK.out.below hb)
    replace HOQ := Lib.hid (own_below' HOQ.out hb)
    replace HF1 := Lib.hid (own_below' HF1.out hb)
    replace HF2 := Lib.hid (own_below' HF2.out hb)
    have HCX := Lib.hid HMK.out.2.1
    clear ho hb
    obtain ⟨b3, e3, hv, hr3, hn3⟩ := rowR_own HF3.out
    subst hv
    clear hr3 hn3
    go_wp2_with fail
    refine hK.out _ _ (HCX) (fun hHeld2 => ?_)
    clear hK K hHeld
    have hHeld := hHeld2
    clear hHeld2
    try simp only [Act.put, List.setIfInBounds_toArray, List.set_cons_zero, List.set_cons_succ]
    refine wpAnyH_ready (rs := [10]) (by kernel_rfl) (by simp) ?_
    refine AllReadyH.cons (o := { dst := none, op := Go.Op.store 22 (Go.Operand.tmp 37) (Go.Operand.tmp 30), type := 0, pos := "auth.go:62", after := #[{ on := 9, ground := Go.Ground.data }, { on := 2, ground := Go.Ground.data }, { on := 8, ground := Go.Ground.chain }, { on := 0, ground := Go.Ground.phase }, { on := 1, ground := Go.Ground.phase }, { on := 2, ground := Go.Ground.phase }, { on := 3, ground := Go.Ground.textOnly Go.Departure.lateStores }, { on := 4, ground := Go.Ground.textOnly Go.Departure.lateStores }, { on := 5, ground := Go.Ground.textOnly Go.Departure.lateStoresUnsure }, { on := 6, ground := Go.Ground.textOnly Go.Departure.lateStores }, { on := 7, ground := Go.Ground.textOnly Go.Departure.lateStores }, { on := 8, ground := Go.Ground.textOnly Go.Departure.lateStoresUnsure }], guard := none }) rfl (fun K hK => ?_) AllReadyH.nil
    have HMN := Lib.hid (show MkA w (wx3.setCell ⟨q6, 9, none⟩ (.slice b1 (flatP AN).length e1)) q6 q2 q3 q4 q6 [.string qn, .int .i64 qt, .int .i64 qc] [.int .i64 kd, .int .i64 rc, .slice a1 n1 c1, .slice a2 n2 c2, .slice a3 n3 c3] [.int .i64 0, .int .i64 0, .int .i64 0, .bool false, .bool false, .bool false, .bool false, .bool false, .slice none 0 0, .slice none 0 0, .slice none 0 0, .slice none 0 0] [.int .i64 id, .int .i64 0, .int .i64 rc, .bool true, .bool av, .bool false, .bool false, .bool false, .slice qa 1 qc2, .slice b1 (flatP AN).length e1, .slice none 0 0, .slice none 0 0] from HMK.out.put 9 (by simp) (.slice b1 (flatP AN).length e1))
    replace HOQ := Lib.hid (own_putA (i := 9) HOQ.out HOD.out (.slice b1 (flatP AN).length e1))
    replace HF1 := Lib.hid (own_putA (i := 9) HF1.out HBF1.out (.slice b1 (flatP AN).length e1))
    replace HF2 := Lib.hid (own_putA (i := 9) HF2.out HBF2.out (.slice b1 (flatP AN).length e1))
    replace HF3 := Lib.hid (own_putA (i := 9) HF3.out HBF3.out (.slice b1 (flatP AN).length e1))
    refine step_store_cell rfl _ _ _ rfl 9 (.slice b1 (flatP AN).length e1) rfl rfl HMK.out.2.2.2.1 (by simp) (by kernel_rfl) (by rfl) ?_
    obtain ⟨wx4, hwe⟩ : ∃ x, wx3.setCell ⟨q6, 9, none⟩ (.slice b1 (flatP AN).length e1) = x := ⟨_, rfl⟩
    rw [hwe] at HMN HOQ HF1 HF2 HF3 ⊢
    clear hwe
    replace HMK := HMN
    clear HMN
    refine hK.out _ _ (Lib.hid HMK.out.2.1) (fun hHeld2 => ?_)
    clear hK K hHeld
    have hHeld := hHeld2
    clear hHeld2
    try simp only [Act.put]
    refine Plan.of [11] ?_
    refine Plan.w (v := ?_) rfl hHeld (by rfl) ?_ ?_; rotate_left; (focus (intro w hSw; (try dsimp only at hSw); obtain ⟨m0, m1, m2, m3, m4, _⟩ := hSw.out.u5; go_simp; try with_reducible rfl)); try simp only [Act.put, List.setIfInBounds_toArray, List.set_cons_zero, List.set_cons_succ]
    refine Plan.fin ?_
    refine wpAnyH_ready (rs := [12]) (by kernel_rfl) (by simp) ?_
    refine AllReadyH.cons (o := { dst := none, op := Go.Op.store 22 (Go.Operand.tmp 38) (Go.Operand.tmp 33), type := 0, pos := "auth.go:62", after := #[{ on := 11, ground := Go.Ground.data }, { on := 5, ground := Go.Ground.data }, { on := 10, ground := Go.Ground.chain }, { on := 0, ground := Go.Ground.phase }, { on := 1, ground := Go.Ground.phase }, { on := 2, ground := Go.Ground.phase }, { on := 3, ground := Go.Ground.phase }, { on := 4, ground := Go.Ground.phase }, { on := 5, ground := Go.Ground.phase }, { on := 6, ground := Go.Ground.textOnly Go.Departure.lateStores }, { on := 7, ground := Go.Ground.textOnly Go.Departure.lateStores }, { on := 8, ground := Go.Ground.textOnly Go.Departure.lateStoresUnsure }, { on := 9, ground := Go.Ground.phase }, { on := 10, ground := Go.Ground.phase }], guard := none }) rfl (fun K hK => ?_) AllReadyH.nil
    have HMN := Lib.hid (show MkA w (wx4.setCell ⟨q6, 10, none⟩ (.slice b2 (flatP NS).length e2)) q6 q2 q3 q4 q6 [.string qn, .int .i64 qt, .int .i64 qc] [.int .i64 kd, .int .i64 rc, .slice a1 n1 c1, .slice a2 n2 c2, .slice a3 n3 c3] [.int .i64 0, .int .i64 0, .int .i64 0, .bool false, .bool false, .bool false, .bool false, .bool false, .slice none 0 0, .slice none 0 0, .slice none 0 0, .slice none 0 0] [.int .i64 id, .int .i64 0, .int .i64 rc, .bool true, .bool av, .bool false, .bool false, .bool false, .slice qa 1 qc2, .slice b1 (flatP AN).length e1, .slice b2 (flatP NS).length e2, .slice none 0 0] from HMK.out.put 10 (by simp) (.slice b2 (flatP NS).length e2))
    replace HOQ := Lib.hid (own_putA (i := 10) HOQ.out HOD.out (.slice b2 (flatP NS).length e2))
    replace HF1 := Lib.hid (own_putA (i := 10) HF1.out HBF1.out (.slice b2 (flatP NS).length e2))
    replace HF2 := Lib.hid (own_putA (i := 10) HF2.out HBF2.out (.slice b2 (flatP NS).length e2))
    replace HF3 := Lib.hid (own_putA (i := 10) HF3.out HBF3.out (.slice b2 (flatP NS).length e2))
    refine step_store_cell rfl _ _ _ rfl 10 (.slice b2 (flatP NS).length e2) rfl rfl HMK.out.2.2.2.1 (by simp) (by kernel_rfl) (by rfl) ?_
    obtain ⟨wx5, hwe⟩ : ∃ x, wx4.setCell ⟨q6, 10, none⟩ (.slice b2 (flatP NS).length e2) = x := ⟨_, rfl⟩
    rw [hwe] at HMN HOQ HF1 HF2 HF3 ⊢
    clear hwe
    replace HMK := HMN
    clear HMN
    refine hK.out _ _ (Lib.hid HMK.out.2.1) (fun hHeld2 => ?_)
    clear hK K hHeld
    have hHeld := hHeld2
    clear hHeld2
    try simp only [Act.put]
    refine Plan.of [13] ?_
    refine Plan.w (v := ?_) rfl hHeld (by rfl) ?_ ?_; rotate_left; (focus (intro w hSw; (try dsimp only at hSw); obtain ⟨m0, m1, m2, m3, m4, _⟩ := hSw.out.u5; go_simp; try with_reducible rfl)); try simp only [Act.put, List.setIfInBounds_toArray, List.set_cons_zero, List.set_cons_succ]
    refine Plan.fin ?_
    refine wpAnyH_ready (rs := [14]) (by kernel_rfl) (by simp) ?_
    refine AllReadyH.cons (o := { dst := none, op := Go.Op.store 22 (Go.Operand.tmp 39) (Go.Operand.tmp 36), type := 0, pos := "auth.go:62", after := #[{ on := 13, ground := Go.Ground.data }, { on := 8, ground := Go.Ground.data }, { on := 12, ground := Go.Ground.chain }, { on := 0, ground := Go.Ground.phase }, { on := 1, ground := Go.Ground.phase }, { on := 2, ground := Go.Ground.phase }, { on := 3, ground := Go.Ground.phase }, { on := 4, ground := Go.Ground.phase }, { on := 5, ground := Go.Ground.phase }, { on := 6, ground := Go.Ground.phase }, { on := 7, ground := Go.Ground.phase }, { on := 8, ground := Go.Ground.phase }, { on := 9, ground := Go.Ground.phase }, { on := 10, ground := Go.Ground.phase }, { on := 11, ground := Go.Ground.phase }, { on := 12, ground := Go.Ground.phase }], guard := none }) rfl (fun K hK => ?_) AllReadyH.nil
    have HMN := Lib.hid (show MkA w (wx5.setCell ⟨q6, 11, none⟩ (.slice b3 (flatP AR).length e3)) q6 q2 q3 q4 q6 [.string qn, .int .i64 qt, .int .i64 qc] [.int .i64 kd, .int .i64 rc, .slice a1 n1 c1, .slice a2 n2 c2, .slice a3 n3 c3] [.int .i64 0, .int .i64 0, .int .i64 0, .bool false, .bool false, .bool false, .bool false, .bool false, .slice none 0 0, .slice none 0 0, .slice none 0 0, .slice none 0 0] [.int .i64 id, .int .i64 0, .int .i64 rc, .bool true, .bool av, .bool false, .bool false, .bool false, .slice qa 1 qc2, .slice b1 (flatP AN).length e1, .slice b2 (flatP NS).length e2, .slice b3 (flatP AR).length e3] from HMK.out.put 11 (by simp) (.slice b3 (flatP AR).length e3))
    replace HOQ := Lib.hid (own_putA (i := 11) HOQ.out HOD.out (.slice b3 (flatP AR).length e3))
    replace HF1 := Lib.hid (own_putA (i := 11) HF1.out HBF1.out (.slice b3 (flatP AR).length e3))
    replace HF2 := Lib.hid (own_putA (i := 11) HF2.out HBF2.out (.slice b3 (flatP AR).length e3))
    replace HF3 := Lib.hid (own_putA (i := 11) HF3.out HBF3.out (.slice b3 (flatP AR).length e3))
    refine step_store_cell rfl _ _ _ rfl 11 (.slice b3 (flatP AR).length e3) rfl rfl HMK.out.2.2.2.1 (by simp) (by kernel_rfl) (by rfl) ?_
    obtain ⟨wx6, hwe⟩ : ∃ x, wx5.setCell ⟨q6, 11, none⟩ (.slice b3 (flatP AR).length e3) = x := ⟨_, rfl⟩
    rw [hwe] at HMN HOQ HF1 HF2 HF3 ⊢
    clear hwe
    replace HMK := HMN
    clear HMN
    refine hK.out _ _ (Lib.hid HMK.out.2.1) (fun hHeld2 => ?_)
    clear hK K hHeld
    have hHeld := hHeld2
    clear hHeld2
    try simp only [Act.put]
    refine wpAnyH_done (by kernel_rfl) ?_ _
    as_aux_lemma =>
      clear hHeld
      obtain ⟨-, -, HC6, HC7, HBW, -⟩ := HMK.out
      have H6 := Lib.hid HC6
      have H7 := Lib.hid HC7
      have HBL := Lib.hid HBW
      clear HC6 HC7 HBW
      obtain ⟨m0, m1, m2, m3, m4, m5, m6, m7, m8, m9, m10, m11, _⟩ := H7.out.u12
      go_upto_region 4 with (fail)
      iterate 4 go_step
      refine wpList_store_box rfl _ _ _ rfl [.int .i64 id, .int .i64 0, .int .i64 rc, .bool true, .bool av, .bool false, .bool false, .bool false, .slice qa 1 qc2, .slice b1 (flatP AN).length e1, .slice b2 (flatP NS).length e2, .slice b3 (flatP AR).length e3] rfl rfl H6.out rfl (by kernel_rfl) (by rfl) ?_
      intro wz hcz hgz
      have KZ := Lib.hid hcz
      have HGZ := Lib.hid hgz
      have HBZ := Lib.hid (HBL.out.grown HGZ.out HBL.out.size (fun k hk => by injection hk with hk; rw [← hk]; have := HQ46.out; omega))
      clear hcz hgz m0 m1 m2 m3 m4 m5 m6 m7 m8 m9 m10 m11
      have HOQZ := Lib.hid (own_apart7 HOQ.out HGZ.out (fun k hk e => by injection e with e; exact NHOQ.out k hk e.symm))
      have HF1Z := Lib.hid (own_apart7 HF1.out HGZ.out (fun k hk e => by injection e with e; exact NHF1.out k hk e.symm))
      have HF2Z := Lib.hid (own_apart7 HF2.out HGZ.out (fun k hk e => by injection e with e; exact NHF2.out k hk e.symm))
      have HF3Z := Lib.hid (own_apart7 HF3.out HGZ.out (fun k hk e => by injection e with e; exact NHF3.out k hk e.symm))
      clear HGZ
      repeat go_step
      obtain ⟨z0, z1, z2, z3, z4, z5, z6, z7, z8, z9, z10, z11, _⟩ := KZ.out.u12
      refine bodyPost_ret (v := .agg #[.int .i64 id, .int .i64 0, .int .i64 rc, .bool true, .bool av, .bool false, .bool false, .bool false, .slice qa 1 qc2, .slice b1 (flatP AN).length e1, .slice b2 (flatP NS).length e2, .slice b3 (flatP AR).length e3]) (by simp [results, Tryz.results34, go_sem, z0, z1, z2, z3, z4, z5, z6, z7, z8, z9, z10, z11]) rfl ⟨⟨_, rfl, ?_⟩, HBZ.out⟩
      obtain ⟨kq1, kq2⟩ := rowQ_ownA HOQZ.out
      obtain ⟨k1a, k1b⟩ := rowR_ownA HF1Z.out
      obtain ⟨k2a, k2b⟩ := rowR_ownA HF2Z.out
      obtain ⟨k3a, k3b⟩ := rowR_ownA HF3Z.out
      refine ⟨qa, qc2, b1, e1, b2, e2, b3, e3, ?_, ⟨kq1, kq2⟩, ⟨k1a, k1b⟩, ⟨k2a, k2b⟩, ⟨k3a, k3b⟩⟩
      rw [show (zMsg id qn qt qc ⟨kd, rc, AN, NS, AR⟩).b2 = av from HAV.out]
      rfl
end Go.Proofs.YthfnphcefkdgbaaGreat
