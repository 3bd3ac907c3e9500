/- auth.Answer. -/
import Derived.Test.YthfnphcefkdgbaaGreatMgA
import Derived.Test.YthfnphcefkdgbaaGreatMgD
import Derived.Test.YthfnphcefkdgbaaGreatSUp
namespace Go.Proofs.YthfnphcefkdgbaaGreat
open Go.RowKit
structure RepP where
 kind : Int
 rc : Int
 an : List SetP
 ns : List SetP
 ar : List SetP
open Classical in
noncomputable def tgF (L : List SetP) : List ByteArray := if h : ∃ T, TgOf L T then h.choose else []
theorem tgF_eq {L : List SetP} {T : List ByteArray} (h : TgOf L T) : tgF L = T := by
 have h2 : ∃ T, TgOf L T := ⟨T, h⟩
 rw [tgF, dif_pos h2]
 exact h2.choose_spec.uniq h
noncomputable def glueL (S L : List SetP) : List SetP := glueP S (tgF L)
noncomputable def inQ (apex qn : ByteArray) (qt qc : Int) : Bool := decide (qc = 1) && (undS qn apex && !decide (qt ∈ [(252 : Int), 255, 41]))
noncomputable def soaL (S : List SetP) (apex : ByteArray) : List SetP := [(findK S ⟨apex, 6, 1⟩).getD sZ]
noncomputable def ansK (S : List SetP) (apex qn : ByteArray) (qt : Int) : RepP :=
 match findK S ⟨qn, qt, 1⟩ with
 | some s => ⟨1, 0, [s], [], glueL S [s]⟩
 | none => if thereP S qn = true then ⟨5, 0, [], soaL S apex, []⟩ else ⟨4, 3, [], soaL S apex, []⟩
noncomputable def ansT (S : List SetP) (apex qn : ByteArray) (qt : Int) : RepP :=
 match findK S ⟨qn, 5, 1⟩ with
 | some s => if qt = 5 then ansK S apex qn qt else ⟨2, 0, [s], [], []⟩
 | none => ansK S apex qn qt
open Classical in
noncomputable def ansF (S : List SetP) (apex qn : ByteArray) (qt qc : Int) : RepP :=
 if inQ apex qn qt qc = false then ⟨6, 5, [], [], []⟩ else
 match cutP S apex qn with
 | some x => if x.k.n = qn ∧ qt = 43 then ansT S apex qn qt else ⟨3, 0, [], [x], glueL S [x]⟩
 | none => ansT S apex qn qt
theorem cutI_mem {S : List SetP} {P : Nat → ByteArray} : ∀ (r i : Nat) (acc : Option SetP), (∀ x, acc = some x → x ∈ S) → ∀ x, cutI S P r i acc = some x → x ∈ S
 | 0, _, _, h, x, hx => h x hx
 | r + 1, i, acc, h, x, hx => by
  rw [cutI] at hx
  refine cutI_mem r (i + 1) _ (fun y hy => ?_) x hx
  cases hf : findK S ⟨P i, 2, 1⟩ with
  | none => rw [hf] at hy; exact h y hy
  | some s => rw [hf] at hy; obtain rfl : s = y := Option.some.inj hy; exact find_mem hf
theorem cutP_mem {S : List SetP} {apex n : ByteArray} {x : SetP} (h : cutP S apex n = some x) : x ∈ S := by
 rw [cutP] at h
 split at h
 · exact cutI_mem _ _ none (fun y hy => by cases hy) x h
 · cases h
theorem rowI3 (w : World) : Row (w.alloc (.cells #[.int .i64 252, .int .i64 255, .int .i64 41] 3)) (some ⟨w.heap.size, 0, none⟩) 3 [252, 255, 41] := by
 refine ⟨rfl, Or.inr ⟨_, _, rfl, by simp, fun j hj => ?_⟩⟩
 match j, hj with
 | 0, _ => simp [World.cell?_alloc_at]
 | 1, _ => simp [World.cell?_alloc_at]
 | 2, _ => simp [World.cell?_alloc_at]
theorem strA_ne {a b : ByteArray} (h : a ≠ b) : (a.toList == b.toList) = false := beq_eq_false_iff_ne.2 (fun e => h (toList_injS e))
theorem strA_eq {a b : ByteArray} (h : a = b) : (a.toList == b.toList) = true := by rw [h]; simp
def RepAt (w : World) (B : Nat) (v : Value) (R : RepP) : Prop := ∃ a1 n1 c1 a2 n2 c2 a3 n3 c3, v = .agg #[.int .i64 R.kind, .int .i64 R.rc, .slice a1 n1 c1, .slice a2 n2 c2, .slice a3 n3 c3] ∧ SetsUp w B a1 n1 R.an ∧ (a1 = none → n1 = 0 ∧ c1 = 0) ∧ SetsUp w B a2 n2 R.ns ∧ (a2 = none → n2 = 0 ∧ c2 = 0) ∧ SetsUp w B a3 n3 R.ar ∧ (a3 = none → n3 = 0 ∧ c3 = 0)
def AnsR (S : List SetP) (apex qn : ByteArray) (qt qc : Int) (w : World) (e : Ending) (w' : World) : Prop := (∃ v, e = .returned v ∧ RepAt w' w.heap.size v (ansF S apex qn qt qc)) ∧ Below w.heap.size w w'
def GotD (o : Option SetP) (B : Nat) (e : Ending) (w' : World) : Prop := ∃ s da dc, o.getD sZ = s ∧ e = .returned (.tuple #[.agg #[.string s.k.n, .int .i64 s.k.t, .int .i64 s.k.c, .int .i64 s.ttl, .slice da s.data.length dc], .bool o.isSome]) ∧ w'.ownsRow B 9 1 (.slice da s.data.length dc) s.data.length (sc s.data)
theorem found_getD {L : List SetP} {k : Ky} {B : Nat} {e : Ending} {w' : World} (h : Found L k B e w') : GotD (findK L k) B e w' := by
 rcases h with ⟨s, dv, hf, rfl, ho⟩ | ⟨hf, rfl⟩
 · obtain ⟨a, c, rfl, -, -⟩ := rowS_of_own ho
   exact ⟨s, a, c, by rw [hf]; rfl, by rw [hf]; rfl, ho⟩
 · exact ⟨sZ, none, 0, by rw [hf]; rfl, by rw [hf]; rfl, World.ownsRow_nil _ _ _ _⟩
set_option maxRecDepth 100000 in
set_option maxHeartbeats 8000000 in
theorem answer_any (z : Nat) (apex : ByteArray) (S : List SetP) (qn : ByteArray) (qt qc : Int) (w : World) (hzn : ZnAt w z apex S) (hr : RiseS S) (hsz : SzZ S) (hzd : ∀ s ∈ S, ∀ d ∈ s.data, d.size ≤ 1000000) (hne : ∀ s ∈ S, s.data ≠ []) (ha : apex.size ≤ 1000000) (hn : qn.size ≤ 1000000) :
  Calls Tryz.prog 33 #[.pointer (some ⟨z, 0, none⟩), .agg #[.string qn, .int .i64 qt, .int .i64 qc]] w fun e w' => AnsR S apex qn qt qc w e w' := by
 have HZN := Lib.hid hzn
 have HRI := Lib.hid hr
 have HSZ := Lib.hid hsz
 have HZD := Lib.hid hzd
 have HNE := Lib.hid hne
 have HA := Lib.hid ha
 have HN := Lib.hid hn
 have HQ := Lib.hid (CN.new w #[.string qn, .int .i64 qt, .int .i64 qc] 69)
 have hb0 := (Below.refl w.heap.size w).alloc (Nat.le_refl _) (.cells #[.string qn, .int .i64 qt, .int .i64 qc] 69)
 clear hzn hr hsz hzd hne ha hn
 go_enter Tryz.func33, Tryz.ntmps33
 go_upto_region 1 with (fail)
 obtain ⟨w1, hw1⟩ : ∃ x, w.alloc (.cells #[.string qn, .int .i64 qt, .int .i64 qc] 69) = x := ⟨_, rfl⟩
 obtain ⟨q3, hq3⟩ : ∃ x, w.heap.size = x := ⟨_, rfl⟩
 rw [hw1] at HQ hb0 ⊢
 rw [hq3] at HQ ⊢
 have hq4 : q3 + 1 = w1.heap.size := by rw [← hw1, ← hq3]; simp
 have HB0 := Lib.hid hb0
 clear hb0 hw1
 have HR4 := Lib.hid (CN.new w1 #[.int .i64 0, .int .i64 0, .slice none 0 0, .slice none 0 0, .slice none 0 0] 71)
 have hb1 := (Below.refl w1.heap.size w1).alloc (Nat.le_refl _) (.cells #[.int .i64 0, .int .i64 0, .slice none 0 0, .slice none 0 0, .slice none 0 0] 71)
 obtain ⟨w2, hw2⟩ : ∃ x, w1.alloc (.cells #[.int .i64 0, .int .i64 0, .slice none 0 0, .slice none 0 0, .slice none 0 0] 71) = x := ⟨_, rfl⟩
 rw [hw2] at HR4 hb1 ⊢
 try rw [hq4]
 obtain ⟨qR, hq4b⟩ : ∃ x, w1.heap.size = x := ⟨_, rfl⟩
 rw [hq4b] at HR4 ⊢
 have HQ4 := Lib.hid (show w.heap.size ≤ qR by rw [← hq4b]; exact HB0.out.size)
 have HBQ := Lib.hid (show w.heap.size ≤ qR + 1 by rw [← hq4b]; have := HB0.out.size; omega)
 have HQN := Lib.hid (show q3 < qR by rw [← hq4b, ← hq4]; omega)
 replace HQ := Lib.hid (HQ.out.below (by rw [hq4b] at hb1; rw [hq4b]; exact hb1))
 have HB := Lib.hid (HB0.out.trans ((by rw [hq4b] at hb1; rw [hq4b]; exact hb1 : Below w1.heap.size w1 w2).mono HB0.out.size))
 replace HZN := Lib.hid (HZN.out.below HB.out)
 clear hw2 hb1 hq4b hq4 hq3 HB0
 obtain ⟨p0, p1, p2, _⟩ := HQ.out.v3
 go_wp2_with fail
 refine (akey_any qn qt w2).mono ?_; rintro e w3 ⟨rfl, hb⟩
 clear p0 p1 p2
 replace HQ := Lib.hid (HQ.out.below hb)
 replace HR4 := Lib.hid (HR4.out.below hb)
 replace HB := Lib.hid (HB.out.trans (hb.mono HB.out.size))
 replace HZN := Lib.hid (HZN.out.below hb)
 clear hb
 have hba := (Below.refl _ _ : Below w3.heap.size w3 w3).alloc (Nat.le_refl _) (.cells #[.string qn, .int .i64 qt, .int .i64 1] 24)
 have HK := Lib.hid (CN.new w3 #[.string qn, .int .i64 qt, .int .i64 1] 24)
 replace HQ := Lib.hid (HQ.out.below hba)
 replace HR4 := Lib.hid (HR4.out.below hba)
 replace HB := Lib.hid (HB.out.trans (hba.mono HB.out.size))
 replace HZN := Lib.hid (HZN.out.below hba)
 obtain ⟨w4, hw⟩ : ∃ x, w3.alloc (.cells #[.string qn, .int .i64 qt, .int .i64 1] 24) = x := ⟨_, rfl⟩
 obtain ⟨q4, hq⟩ : ∃ x, w3.heap.size = x := ⟨_, rfl⟩
 rw [hw, hq] at HK
 rw [hw] at HQ HR4 HB HZN
 have HW := Lib.hid hw
 have HQ_ := Lib.hid hq
 clear hba hw hq
 go_upto_region 2 with (fail)
 rw [HW.out, HQ_.out]
 clear HW HQ_
 obtain ⟨wd, hwd⟩ : ∃ x, w4.drew = x := ⟨_, rfl⟩
 have HBD := Lib.hid (show Below w4.heap.size w4 wd by rw [← hwd]; exact (Below.refl _ _).drew)
 have HQD := Lib.hid (HQ.out.below HBD.out)
 have HKD := Lib.hid (HK.out.below HBD.out)
 by_cases hc : qc = 1
 case neg =>
  have HV := Lib.hid (show ansF S apex qn qt qc = ⟨6, 5, [], [], []⟩ by rw [ansF, if_pos (by rw [inQ, dF hc]; rfl)])
  have f1 := nT hc
  clear hc
  refine wp_region_held_drew (S := (fun wx => Hid (Below w4.heap.size w4 wx) ∧ wx.cell? ⟨q3, 0, none⟩ = some (.string qn) ∧ wx.cell? ⟨q3, 1, none⟩ = some (.int .i64 qt) ∧ wx.cell? ⟨q3, 2, none⟩ = some (.int .i64 qc) ∧ wx.cell? ⟨q4, 0, none⟩ = some (.string qn) ∧ wx.cell? ⟨q4, 1, none⟩ = some (.int .i64 qt) ∧ wx.cell? ⟨q4, 2, none⟩ = some (.int .i64 1))) (by kernel_rfl) (by rw [hwd]; exact ⟨HBD, (HQD.out.2 0 _ rfl).1, (HQD.out.2 1 _ rfl).1, (HQD.out.2 2 _ rfl).1, (HKD.out.2 0 _ rfl).1, (HKD.out.2 1 _ rfl).1, (HKD.out.2 2 _ rfl).1⟩) (fun hHeld => ?_)
  rw [hwd] at hHeld ⊢
  clear hwd
  refine Plan.of [0, 1, 2, 3, 4, 5, 6, 7, 8, 9, 10, 11, 12, 13, 14, 15, 16, 17, 18, 19] ?_
  iterate 8 (refine Plan.w (v := ?_) rfl hHeld (by rfl) ?_ ?_; rotate_left; (focus (intro w hSw; (try dsimp only at hSw); go_simp; try with_reducible rfl)); try simp only [Act.put, List.setIfInBounds_toArray, List.set_cons_zero, List.set_cons_succ])
  iterate 6 (refine Plan.n rfl hHeld (by rfl) ?_; try simp only [Act.put, List.setIfInBounds_toArray, List.set_cons_zero, List.set_cons_succ])
  iterate 2 (refine Plan.w (v := ?_) rfl hHeld (by rfl) ?_ ?_; rotate_left; (focus (intro w hSw; (try dsimp only at hSw); go_simp; try with_reducible rfl)); try simp only [Act.put, List.setIfInBounds_toArray, List.set_cons_zero, List.set_cons_succ])
  iterate 3 (refine Plan.n rfl hHeld (by rfl) ?_; try simp only [Act.put, List.setIfInBounds_toArray, List.set_cons_zero, List.set_cons_succ])
  refine Plan.w (v := ?_) rfl hHeld (by rfl) ?_ ?_; rotate_left; (focus (intro w hSw; (try dsimp only at hSw); go_simp; try with_reducible rfl)); try simp only [Act.put, List.setIfInBounds_toArray, List.set_cons_zero, List.set_cons_succ]
  refine Plan.fin ?_
  refine wpAnyH_done (by kernel_rfl) ?_ _
  have hbe := hHeld.1.out
  clear hHeld
  clear f1
  have HBE := Lib.hid hbe
  clear hbe
  replace HQ := Lib.hid (HQ.out.below HBE.out)
  replace HR4 := Lib.hid (HR4.out.below HBE.out)
  replace HB := Lib.hid (HB.out.trans (HBE.out.mono HB.out.size))
  replace HZN := Lib.hid (HZN.out.below HBE.out)
  replace HK := Lib.hid (HK.out.below HBE.out)
  clear HBE
  obtain ⟨g0, g1, g2, g3, g4, f0, f1, f2, f3, f4⟩ := HR4.out.u5
  have KZ := Lib.hid (HR4.out.s5 (.int .i64 6) (.int .i64 5) (.slice none 0 0) (.slice none 0 0) (.slice none 0 0))
  have HGZ := Lib.hid (grown_s5 wd qR (.int .i64 6) (.int .i64 5) (.slice none 0 0) (.slice none 0 0) (.slice none 0 0))
  have HBZ := Lib.hid (HB.out.grown HGZ.out HB.out.size (fun k hk => by injection hk with hk; rw [← hk]; exact HQ4.out))
  go_wp2
  obtain ⟨wz, hwz⟩ : ∃ x, (((((wd.setCell ⟨qR, 0, none⟩ (.int .i64 6)).setCell ⟨qR, 1, none⟩ (.int .i64 5)).setCell ⟨qR, 2, none⟩ (.slice none 0 0)).setCell ⟨qR, 3, none⟩ (.slice none 0 0)).setCell ⟨qR, 4, none⟩ (.slice none 0 0)) = x := ⟨_, rfl⟩
  rw [hwz] at KZ HBZ ⊢
  clear hwz HGZ g0 g1 g2 g3 g4 f0 f1 f2 f3 f4
  obtain ⟨z0, z1, z2, z3, z4, _⟩ := KZ.out.u5
  refine bodyPost_ret (v := .agg #[.int .i64 6, .int .i64 5, .slice none 0 0, .slice none 0 0, .slice none 0 0]) (by simp [results, Tryz.results33, go_sem, z0, z1, z2, z3, z4]) rfl ⟨⟨_, rfl, by rw [HV.out]; exact ⟨_, _, _, _, _, _, _, _, _, rfl, ((SetsUp.nil _ (qR + 1)).mono HBQ.out), (fun _ => ⟨rfl, rfl⟩), ((SetsUp.nil _ (qR + 1)).mono HBQ.out), (fun _ => ⟨rfl, rfl⟩), ((SetsUp.nil _ (qR + 1)).mono HBQ.out), (fun _ => ⟨rfl, rfl⟩)⟩⟩, HBZ.out⟩
 have HC := Lib.hid hc
 have f1 := nF hc
 clear hc
 obtain ⟨u, hu⟩ : ∃ x, undS qn apex = x := ⟨_, rfl⟩
 have HU := Lib.hid hu
 clear hu
 cases u
 case false =>
  have HV := Lib.hid (show ansF S apex qn qt qc = ⟨6, 5, [], [], []⟩ by rw [ansF, if_pos (by rw [inQ, HU.out]; simp)])
  refine wp_region_held_drew (S := (fun wx => Hid (Below w4.heap.size w4 wx) ∧ wx.cell? ⟨q3, 0, none⟩ = some (.string qn) ∧ wx.cell? ⟨q3, 1, none⟩ = some (.int .i64 qt) ∧ wx.cell? ⟨q3, 2, none⟩ = some (.int .i64 qc) ∧ wx.cell? ⟨q4, 0, none⟩ = some (.string qn) ∧ wx.cell? ⟨q4, 1, none⟩ = some (.int .i64 qt) ∧ wx.cell? ⟨q4, 2, none⟩ = some (.int .i64 1))) (by kernel_rfl) (by rw [hwd]; exact ⟨HBD, (HQD.out.2 0 _ rfl).1, (HQD.out.2 1 _ rfl).1, (HQD.out.2 2 _ rfl).1, (HKD.out.2 0 _ rfl).1, (HKD.out.2 1 _ rfl).1, (HKD.out.2 2 _ rfl).1⟩) (fun hHeld => ?_)
  rw [hwd] at hHeld ⊢
  clear hwd
  refine Plan.of [0, 1, 2, 3, 4, 5, 6, 7, 8, 9, 10] ?_
  iterate 11 (refine Plan.w (v := ?_) rfl hHeld (by rfl) ?_ ?_; rotate_left; (focus (intro w hSw; (try dsimp only at hSw); go_simp; try with_reducible rfl)); try simp only [Act.put, List.setIfInBounds_toArray, List.set_cons_zero, List.set_cons_succ])
  refine Plan.fin ?_
  refine wpAnyH_ready (rs := [11]) (by kernel_rfl) (by simp) ?_
  refine AllReadyH.cons (o := { dst := some 30, op := Go.Op.call { callee := Go.Callee.value (Go.Operand.func 18), args := #[Go.Operand.tmp 29], argTypes := #[28] }, type := 9, pos := "auth.go:38", after := #[{ on := 10, ground := Go.Ground.data }, { on := 7, ground := Go.Ground.chain }, { on := 7, ground := Go.Ground.guard }], guard := some (7, false) }) rfl (fun K hK => ?_) AllReadyH.nil
  go_simp
  refine (zapex_any z apex S _ (HZN.out.below hHeld.1.out)).mono ?_; rintro e wy ⟨rfl, rfl⟩
  go_wp2_with fail
  refine hK.out _ _ (hHeld) (fun hHeld2 => ?_)
  clear hK K hHeld
  have hHeld := hHeld2
  clear hHeld2
  try simp only [Act.put, List.setIfInBounds_toArray, List.set_cons_zero, List.set_cons_succ]
  refine wpAnyH_ready (rs := [12]) (by kernel_rfl) (by simp) ?_
  refine AllReadyH.cons (o := { dst := some 31, op := Go.Op.call { callee := Go.Callee.value (Go.Operand.func 66), args := #[Go.Operand.tmp 28, Go.Operand.tmp 30], argTypes := #[9, 9] }, type := 4, pos := "auth.go:38", after := #[{ on := 9, ground := Go.Ground.data }, { on := 11, ground := Go.Ground.data }, { on := 11, ground := Go.Ground.chain }, { on := 7, ground := Go.Ground.guard }], guard := some (7, false) }) rfl (fun K hK => ?_) AllReadyH.nil
  go_simp
  refine (under_any qn apex _ HN.out HA.out).mono ?_; rintro e wy ⟨rfl, rfl⟩
  rw [HU.out]
  go_wp2_with fail
  refine hK.out _ _ (hHeld) (fun hHeld2 => ?_)
  clear hK K hHeld
  have hHeld := hHeld2
  clear hHeld2
  try simp only [Act.put, List.setIfInBounds_toArray, List.set_cons_zero, List.set_cons_succ]
  refine Plan.of [13, 14, 15, 16, 17, 18, 19] ?_
  iterate 3 (refine Plan.w (v := ?_) rfl hHeld (by rfl) ?_ ?_; rotate_left; (focus (intro w hSw; (try dsimp only at hSw); go_simp; try with_reducible rfl)); try simp only [Act.put, List.setIfInBounds_toArray, List.set_cons_zero, List.set_cons_succ])
  iterate 3 (refine Plan.n rfl hHeld (by rfl) ?_; try simp only [Act.put, List.setIfInBounds_toArray, List.set_cons_zero, List.set_cons_succ])
  refine Plan.w (v := ?_) rfl hHeld (by rfl) ?_ ?_; rotate_left; (focus (intro w hSw; (try dsimp only at hSw); go_simp; try with_reducible rfl)); try simp only [Act.put, List.setIfInBounds_toArray, List.set_cons_zero, List.set_cons_succ]
  refine Plan.fin ?_
  refine wpAnyH_done (by kernel_rfl) ?_ _
  have hbe := hHeld.1.out
  clear hHeld
  clear f1
  have HBE := Lib.hid hbe
  clear hbe
  replace HQ := Lib.hid (HQ.out.below HBE.out)
  replace HR4 := Lib.hid (HR4.out.below HBE.out)
  replace HB := Lib.hid (HB.out.trans (HBE.out.mono HB.out.size))
  replace HZN := Lib.hid (HZN.out.below HBE.out)
  replace HK := Lib.hid (HK.out.below HBE.out)
  clear HBE
  obtain ⟨g0, g1, g2, g3, g4, f0, f1, f2, f3, f4⟩ := HR4.out.u5
  have KZ := Lib.hid (HR4.out.s5 (.int .i64 6) (.int .i64 5) (.slice none 0 0) (.slice none 0 0) (.slice none 0 0))
  have HGZ := Lib.hid (grown_s5 wd qR (.int .i64 6) (.int .i64 5) (.slice none 0 0) (.slice none 0 0) (.slice none 0 0))
  have HBZ := Lib.hid (HB.out.grown HGZ.out HB.out.size (fun k hk => by injection hk with hk; rw [← hk]; exact HQ4.out))
  go_wp2
  obtain ⟨wz, hwz⟩ : ∃ x, (((((wd.setCell ⟨qR, 0, none⟩ (.int .i64 6)).setCell ⟨qR, 1, none⟩ (.int .i64 5)).setCell ⟨qR, 2, none⟩ (.slice none 0 0)).setCell ⟨qR, 3, none⟩ (.slice none 0 0)).setCell ⟨qR, 4, none⟩ (.slice none 0 0)) = x := ⟨_, rfl⟩
  rw [hwz] at KZ HBZ ⊢
  clear hwz HGZ g0 g1 g2 g3 g4 f0 f1 f2 f3 f4
  obtain ⟨z0, z1, z2, z3, z4, _⟩ := KZ.out.u5
  refine bodyPost_ret (v := .agg #[.int .i64 6, .int .i64 5, .slice none 0 0, .slice none 0 0, .slice none 0 0]) (by simp [results, Tryz.results33, go_sem, z0, z1, z2, z3, z4]) rfl ⟨⟨_, rfl, by rw [HV.out]; exact ⟨_, _, _, _, _, _, _, _, _, rfl, ((SetsUp.nil _ (qR + 1)).mono HBQ.out), (fun _ => ⟨rfl, rfl⟩), ((SetsUp.nil _ (qR + 1)).mono HBQ.out), (fun _ => ⟨rfl, rfl⟩), ((SetsUp.nil _ (qR + 1)).mono HBQ.out), (fun _ => ⟨rfl, rfl⟩)⟩⟩, HBZ.out⟩
 obtain ⟨vt, hvt⟩ : ∃ x, decide (qt ∈ [(252 : Int), 255, 41]) = x := ⟨_, rfl⟩
 have HVT := Lib.hid hvt
 clear hvt
 refine wp_region_held_drew (S := (fun wx => Hid (Below w4.heap.size w4 wx) ∧ wx.cell? ⟨q3, 0, none⟩ = some (.string qn) ∧ wx.cell? ⟨q3, 1, none⟩ = some (.int .i64 qt) ∧ wx.cell? ⟨q3, 2, none⟩ = some (.int .i64 qc) ∧ wx.cell? ⟨q4, 0, none⟩ = some (.string qn) ∧ wx.cell? ⟨q4, 1, none⟩ = some (.int .i64 qt) ∧ wx.cell? ⟨q4, 2, none⟩ = some (.int .i64 1))) (by kernel_rfl) (by rw [hwd]; exact ⟨HBD, (HQD.out.2 0 _ rfl).1, (HQD.out.2 1 _ rfl).1, (HQD.out.2 2 _ rfl).1, (HKD.out.2 0 _ rfl).1, (HKD.out.2 1 _ rfl).1, (HKD.out.2 2 _ rfl).1⟩) (fun hHeld => ?_)
 rw [hwd] at hHeld ⊢
 clear hwd
 refine Plan.of [0, 1, 2, 3, 4, 5, 6, 7, 8, 9, 10] ?_
 iterate 11 (refine Plan.w (v := ?_) rfl hHeld (by rfl) ?_ ?_; rotate_left; (focus (intro w hSw; (try dsimp only at hSw); go_simp; try with_reducible rfl)); try simp only [Act.put, List.setIfInBounds_toArray, List.set_cons_zero, List.set_cons_succ])
 refine Plan.fin ?_
 refine wpAnyH_ready (rs := [11]) (by kernel_rfl) (by simp) ?_
 refine AllReadyH.cons (o := { dst := some 30, op := Go.Op.call { callee := Go.Callee.value (Go.Operand.func 18), args := #[Go.Operand.tmp 29], argTypes := #[28] }, type := 9, pos := "auth.go:38", after := #[{ on := 10, ground := Go.Ground.data }, { on := 7, ground := Go.Ground.chain }, { on := 7, ground := Go.Ground.guard }], guard := some (7, false) }) rfl (fun K hK => ?_) AllReadyH.nil
 go_simp
 refine (zapex_any z apex S _ (HZN.out.below hHeld.1.out)).mono ?_; rintro e wy ⟨rfl, rfl⟩
 go_wp2_with fail
 refine hK.out _ _ (hHeld) (fun hHeld2 => ?_)
 clear hK K hHeld
 have hHeld := hHeld2
 clear hHeld2
 try simp only [Act.put, List.setIfInBounds_toArray, List.set_cons_zero, List.set_cons_succ]
 refine wpAnyH_ready (rs := [12]) (by kernel_rfl) (by simp) ?_
 refine AllReadyH.cons (o := { dst := some 31, op := Go.Op.call { callee := Go.Callee.value (Go.Operand.func 66), args := #[Go.Operand.tmp 28, Go.Operand.tmp 30], argTypes := #[9, 9] }, type := 4, pos := "auth.go:38", after := #[{ on := 9, ground := Go.Ground.data }, { on := 11, ground := Go.Ground.data }, { on := 11, ground := Go.Ground.chain }, { on := 7, ground := Go.Ground.guard }], guard := some (7, false) }) rfl (fun K hK => ?_) AllReadyH.nil
 go_simp
 refine (under_any qn apex _ HN.out HA.out).mono ?_; rintro e wy ⟨rfl, rfl⟩
 rw [HU.out]
 go_wp2_with fail
 refine hK.out _ _ (hHeld) (fun hHeld2 => ?_)
 clear hK K hHeld
 have hHeld := hHeld2
 clear hHeld2
 try simp only [Act.put, List.setIfInBounds_toArray, List.set_cons_zero, List.set_cons_succ]
 refine Plan.of [13, 14, 15, 16] ?_
 iterate 4 (refine Plan.w (v := ?_) rfl hHeld (by rfl) ?_ ?_; rotate_left; (focus (intro w hSw; (try dsimp only at hSw); go_simp; try with_reducible rfl)); try simp only [Act.put, List.setIfInBounds_toArray, List.set_cons_zero, List.set_cons_succ])
 refine Plan.fin ?_
 refine wpAnyH_ready (rs := [17]) (by kernel_rfl) (by simp) ?_
 refine AllReadyH.cons (o := { dst := some 36, op := Go.Op.buildSlice 186 3 #[(0, Go.Operand.const (Go.Value.int Go.IntKind.i64 252)), (1, Go.Operand.const (Go.Value.int Go.IntKind.i64 255)), (2, Go.Operand.const (Go.Value.int Go.IntKind.i64 41))], type := 186, pos := "auth.go:38", after := #[{ on := 15, ground := Go.Ground.guard }], guard := some (15, false) }) rfl (fun K hK => ?_) AllReadyH.nil
 go_simp
 have hba := (Below.refl _ _ : Below wd.heap.size wd wd).alloc (Nat.le_refl _) (.cells #[.int .i64 252, .int .i64 255, .int .i64 41] 3)
 have HL3 := Lib.hid (rowI3 wd)
 obtain ⟨we, hwe⟩ : ∃ x, wd.alloc (.cells #[.int .i64 252, .int .i64 255, .int .i64 41] 3) = x := ⟨_, rfl⟩
 rw [hwe] at hba HL3 ⊢
 obtain ⟨ge, hge⟩ : ∃ x, wd.heap.size = x := ⟨_, rfl⟩
 rw [hge] at HL3 ⊢
 have hb : Below wd.heap.size wd we := by rw [hge] at hba; rw [hge]; exact hba
 clear hba hwe
 refine hK.out _ _ (⟨Lib.hid (hHeld.1.out.trans (hb.mono hHeld.1.out.size)), cell_later4 hb hHeld.2.1, cell_later4 hb hHeld.2.2.1, cell_later4 hb hHeld.2.2.2.1, cell_later4 hb hHeld.2.2.2.2.1, cell_later4 hb hHeld.2.2.2.2.2.1, cell_later4 hb hHeld.2.2.2.2.2.2⟩) (fun hHeld2 => ?_)
 clear hK K hHeld
 have hHeld := hHeld2
 clear hHeld2
 try simp only [Act.put, List.setIfInBounds_toArray, List.set_cons_zero, List.set_cons_succ]
 refine wpAnyH_ready (rs := [18]) (by kernel_rfl) (by simp) ?_
 refine AllReadyH.cons (o := { dst := some 37, op := Go.Op.call { callee := Go.Callee.value (Go.Operand.func 77), args := #[Go.Operand.tmp 35, Go.Operand.tmp 36], argTypes := #[24, 186] }, type := 4, pos := "auth.go:38", after := #[{ on := 16, ground := Go.Ground.data }, { on := 17, ground := Go.Ground.data }, { on := 15, ground := Go.Ground.chain }, { on := 15, ground := Go.Ground.guard }], guard := some (15, false) }) rfl (fun K hK => ?_) AllReadyH.nil
 go_simp
 refine (isK ⟨qn, qt, 1⟩ (some ⟨ge, 0, none⟩) 3 3 [252, 255, 41] we HL3.out (by omega)).mono ?_; rintro e wy ⟨rfl, hb⟩
 rw [show decide ((⟨qn, qt, 1⟩ : Ky).t ∈ [(252 : Int), 255, 41]) = vt from HVT.out]
 go_wp2_with fail
 refine hK.out _ _ (⟨Lib.hid (hHeld.1.out.trans (hb.mono hHeld.1.out.size)), cell_later4 hb hHeld.2.1, cell_later4 hb hHeld.2.2.1, cell_later4 hb hHeld.2.2.2.1, cell_later4 hb hHeld.2.2.2.2.1, cell_later4 hb hHeld.2.2.2.2.2.1, cell_later4 hb hHeld.2.2.2.2.2.2⟩) (fun hHeld2 => ?_)
 clear hK K hHeld
 have hHeld := hHeld2
 clear hHeld2
 try simp only [Act.put, List.setIfInBounds_toArray, List.set_cons_zero, List.set_cons_succ]
 refine Plan.of [19] ?_
 refine Plan.w (v := ?_) rfl hHeld (by rfl) ?_ ?_; rotate_left; (focus (intro w hSw; (try dsimp only at hSw); go_simp; try with_reducible rfl)); try simp only [Act.put, List.setIfInBounds_toArray, List.set_cons_zero, List.set_cons_succ]
 refine Plan.fin ?_
 refine wpAnyH_done (by kernel_rfl) ?_ _
 have hbe := hHeld.1.out
 clear hHeld
 clear f1
 have HBE := Lib.hid hbe
 clear hbe
 replace HQ := Lib.hid (HQ.out.below HBE.out)
 replace HR4 := Lib.hid (HR4.out.below HBE.out)
 replace HB := Lib.hid (HB.out.trans (HBE.out.mono HB.out.size))
 replace HZN := Lib.hid (HZN.out.below HBE.out)
 replace HK := Lib.hid (HK.out.below HBE.out)
 clear HBE
 cases vt
 case true =>
  have HV := Lib.hid (show ansF S apex qn qt qc = ⟨6, 5, [], [], []⟩ by rw [ansF, if_pos (by rw [inQ, HVT.out]; simp)])
  obtain ⟨g0, g1, g2, g3, g4, f0, f1, f2, f3, f4⟩ := HR4.out.u5
  have KZ := Lib.hid (HR4.out.s5 (.int .i64 6) (.int .i64 5) (.slice none 0 0) (.slice none 0 0) (.slice none 0 0))
  have HGZ := Lib.hid (grown_s5 wy qR (.int .i64 6) (.int .i64 5) (.slice none 0 0) (.slice none 0 0) (.slice none 0 0))
  have HBZ := Lib.hid (HB.out.grown HGZ.out HB.out.size (fun k hk => by injection hk with hk; rw [← hk]; exact HQ4.out))
  go_wp2
  obtain ⟨wz, hwz⟩ : ∃ x, (((((wy.setCell ⟨qR, 0, none⟩ (.int .i64 6)).setCell ⟨qR, 1, none⟩ (.int .i64 5)).setCell ⟨qR, 2, none⟩ (.slice none 0 0)).setCell ⟨qR, 3, none⟩ (.slice none 0 0)).setCell ⟨qR, 4, none⟩ (.slice none 0 0)) = x := ⟨_, rfl⟩
  rw [hwz] at KZ HBZ ⊢
  clear hwz HGZ g0 g1 g2 g3 g4 f0 f1 f2 f3 f4
  obtain ⟨z0, z1, z2, z3, z4, _⟩ := KZ.out.u5
  refine bodyPost_ret (v := .agg #[.int .i64 6, .int .i64 5, .slice none 0 0, .slice none 0 0, .slice none 0 0]) (by simp [results, Tryz.results33, go_sem, z0, z1, z2, z3, z4]) rfl ⟨⟨_, rfl, by rw [HV.out]; exact ⟨_, _, _, _, _, _, _, _, _, rfl, ((SetsUp.nil _ (qR + 1)).mono HBQ.out), (fun _ => ⟨rfl, rfl⟩), ((SetsUp.nil _ (qR + 1)).mono HBQ.out), (fun _ => ⟨rfl, rfl⟩), ((SetsUp.nil _ (qR + 1)).mono HBQ.out), (fun _ => ⟨rfl, rfl⟩)⟩⟩, HBZ.out⟩
 have HIQ := Lib.hid (show ansF S apex qn qt qc = (match cutP S apex qn with | some x => open Classical in (if x.k.n = qn ∧ qt = 43 then ansT S apex qn qt else ⟨3, 0, [], [x], glueL S [x]⟩) | none => ansT S apex qn qt) by rw [ansF, if_neg (by rw [inQ, dT HC.out, HU.out, HVT.out]; simp)])
 obtain ⟨p0, p1, p2, _⟩ := HQ.out.v3
 have hcut := zcut_any z apex qn S wy HZN.out HRI.out HSZ.out HNE.out HA.out HN.out
 go_wp2_with fail
 refine (zcut_any z apex qn S wy HZN.out HRI.out HSZ.out HNE.out HA.out HN.out).mono ?_; rintro e w5 ⟨hf, hb⟩
 obtain ⟨bx, ba, bc, hbs, rfl, hbr⟩ := id hf
 replace hbr := own_mono4 (base' := qR + 1) hbr HR4.out.1
 clear p0 p1 p2
 replace HQ := Lib.hid (HQ.out.below hb)
 replace HR4 := Lib.hid (HR4.out.below hb)
 replace HB := Lib.hid (HB.out.trans (hb.mono HB.out.size))
 replace HZN := Lib.hid (HZN.out.below hb)
 replace HK := Lib.hid (HK.out.below hb)
 clear hb hf
 have HbS := Lib.hid hbs
 clear hbs
 obtain ⟨⟨bn, bt, bk⟩, bu, bd⟩ := bx
 replace hbr : World.ownsRow w5 (qR + 1) 9 1 (.slice ba bd.length bc) bd.length (sc bd) := hbr
 dsimp only
 obtain ⟨bm, hbm⟩ : ∃ x, bd.length = x := ⟨_, rfl⟩
 rw [hbm] at hbr ⊢
 have HbM := Lib.hid hbm
 have HbR := Lib.hid hbr
 clear hbm hbr
 have hba := (Below.refl _ _ : Below w5.heap.size w5 w5).alloc (Nat.le_refl _) (.cells #[.string bn, .int .i64 bt, .int .i64 bk, .int .i64 bu, .slice ba bm bc] 38)
 have HbB := Lib.hid (CN.new w5 #[.string bn, .int .i64 bt, .int .i64 bk, .int .i64 bu, .slice ba bm bc] 38)
 replace HQ := Lib.hid (HQ.out.below hba)
 replace HR4 := Lib.hid (HR4.out.below hba)
 replace HB := Lib.hid (HB.out.trans (hba.mono HB.out.size))
 replace HZN := Lib.hid (HZN.out.below hba)
 replace HK := Lib.hid (HK.out.below hba)
 replace HbR := Lib.hid (own_below' HbR.out hba)
 obtain ⟨w6, hw⟩ : ∃ x, w5.alloc (.cells #[.string bn, .int .i64 bt, .int .i64 bk, .int .i64 bu, .slice ba bm bc] 38) = x := ⟨_, rfl⟩
 obtain ⟨q6, hq⟩ : ∃ x, w5.heap.size = x := ⟨_, rfl⟩
 rw [hw, hq] at HbB
 rw [hw] at HQ HR4 HB HZN HK HbR
 have HW := Lib.hid hw
 have HQ_ := Lib.hid hq
 clear hba hw hq
 go_upto_region 5 with (fail)
 rw [HW.out, HQ_.out]
 clear HW HQ_
 obtain ⟨p0, p1, p2, _⟩ := HQ.out.v3
 obtain ⟨y0, y1, y2, y3, y4, _⟩ := HbB.out.u5
 cases hcp : cutP S apex qn with
 | none =>
  have HV := Lib.hid (HIQ.out.trans (show _ = ansT S apex qn qt by rw [hcp]))
  clear HIQ hcp HbS
  simp only [Option.isSome_none]
  go_upto_region 7 with (fail)
  clear p0 p1 p2 y0 y1 y2 y3 y4
  obtain ⟨p0, p1, p2, _⟩ := HQ.out.v3
  go_wp2_with fail
  refine (akey_any qn 5 w6).mono ?_; rintro e w7 ⟨rfl, hb⟩
  clear p0 p1 p2
  replace HQ := Lib.hid (HQ.out.below hb)
  replace HR4 := Lib.hid (HR4.out.below hb)
  replace HB := Lib.hid (HB.out.trans (hb.mono HB.out.size))
  replace HZN := Lib.hid (HZN.out.below hb)
  replace HK := Lib.hid (HK.out.below hb)
  replace HbR := Lib.hid (own_below' HbR.out hb)
  replace HbB := Lib.hid (HbB.out.below hb)
  clear hb
  go_wp2_with fail
  refine (zget_any z apex S qn 5 1 w7 HZN.out HRI.out HSZ.out HN.out).mono ?_; rintro e w8 ⟨hf, hb⟩
  obtain ⟨yx, ya, yc, hys, rfl, hyr⟩ := found_getD hf
  replace hyr := own_mono4 (base' := qR + 1) hyr HR4.out.1
  replace HQ := Lib.hid (HQ.out.below hb)
  replace HR4 := Lib.hid (HR4.out.below hb)
  replace HB := Lib.hid (HB.out.trans (hb.mono HB.out.size))
  replace HZN := Lib.hid (HZN.out.below hb)
  replace HK := Lib.hid (HK.out.below hb)
  replace HbR := Lib.hid (own_below' HbR.out hb)
  replace HbB := Lib.hid (HbB.out.below hb)
  clear hb hf
  have HyS := Lib.hid hys
  clear hys
  obtain ⟨⟨yn, yt, yk⟩, yu, yd⟩ := yx
  replace hyr : World.ownsRow w8 (qR + 1) 9 1 (.slice ya yd.length yc) yd.length (sc yd) := hyr
  dsimp only
  obtain ⟨ym, hym⟩ : ∃ x, yd.length = x := ⟨_, rfl⟩
  rw [hym] at hyr ⊢
  have HyM := Lib.hid hym
  have HyR := Lib.hid hyr
  clear hym hyr
  have hba := (Below.refl _ _ : Below w8.heap.size w8 w8).alloc (Nat.le_refl _) (.cells #[.string yn, .int .i64 yt, .int .i64 yk, .int .i64 yu, .slice ya ym yc] 38)
  have HyB := Lib.hid (CN.new w8 #[.string yn, .int .i64 yt, .int .i64 yk, .int .i64 yu, .slice ya ym yc] 38)
  replace HQ := Lib.hid (HQ.out.below hba)
  replace HR4 := Lib.hid (HR4.out.below hba)
  replace HB := Lib.hid (HB.out.trans (hba.mono HB.out.size))
  replace HZN := Lib.hid (HZN.out.below hba)
  replace HK := Lib.hid (HK.out.below hba)
  replace HbR := Lib.hid (own_below' HbR.out hba)
  replace HbB := Lib.hid (HbB.out.below hba)
  replace HyR := Lib.hid (own_below' HyR.out hba)
  obtain ⟨w9, hw⟩ : ∃ x, w8.alloc (.cells #[.string yn, .int .i64 yt, .int .i64 yk, .int .i64 yu, .slice ya ym yc] 38) = x := ⟨_, rfl⟩
  obtain ⟨q9, hq⟩ : ∃ x, w8.heap.size = x := ⟨_, rfl⟩
  rw [hw, hq] at HyB
  rw [hw] at HQ HR4 HB HZN HK HbR HbB HyR
  have HW := Lib.hid hw
  have HQ_ := Lib.hid hq
  clear hba hw hq
  go_upto_region 8 with (fail)
  rw [HW.out, HQ_.out]
  clear HW HQ_
  obtain ⟨p0, p1, p2, _⟩ := HQ.out.v3
  by_cases hal : (findK S ⟨qn, 5, 1⟩).isSome = true ∧ ¬ qt = 5
  case pos =>
    obtain ⟨h1, h2⟩ := hal
    have f5 := nT h2
    obtain ⟨s, hfk⟩ := Option.isSome_iff_exists.1 h1
    rw [hfk] at HyS
    obtain rfl : s = ⟨⟨yn, yt, yk⟩, yu, yd⟩ := HyS.out
    replace HV := Lib.hid (HV.out.trans (show ansT S apex qn qt = ⟨2, 0, [⟨⟨yn, yt, yk⟩, yu, yd⟩], [], []⟩ by rw [ansT, hfk]; exact if_neg h2))
    rw [hfk]
    clear h1 h2 hfk HyS
    simp only [Option.isSome_some]
    go_upto_region 9 with (fail)
    clear f5 p0 p1 p2
    obtain ⟨y0, y1, y2, y3, y4, _⟩ := HyB.out.u5
    have HS1 := Lib.hid (SetsUp.one (w := w9) (sn := yn) (st := yt) (sk := yk) (su := yu) HyM.out HyR.out HR4.out.1)
    iterate 7 go_step
    have hba := (Below.refl _ _ : Below w9.heap.size w9 w9).alloc (Nat.le_refl _) (.cells #[.string yn, .int .i64 yt, .int .i64 yk, .int .i64 yu, .slice ya ym yc] 38)
    replace HQ := Lib.hid (HQ.out.below hba)
    replace HR4 := Lib.hid (HR4.out.below hba)
    replace HB := Lib.hid (HB.out.trans (hba.mono HB.out.size))
    replace HZN := Lib.hid (HZN.out.below hba)
    replace HK := Lib.hid (HK.out.below hba)
    replace HbR := Lib.hid (own_below' HbR.out hba)
    replace HbB := Lib.hid (HbB.out.below hba)
    replace HyR := Lib.hid (own_below' HyR.out hba)
    replace HyB := Lib.hid (HyB.out.below hba)
    clear hba
    obtain ⟨wA, hwA⟩ : ∃ x, w9.alloc (.cells #[.string yn, .int .i64 yt, .int .i64 yk, .int .i64 yu, .slice ya ym yc] 38) = x := ⟨_, rfl⟩
    obtain ⟨gA, hgA⟩ : ∃ x, w9.heap.size = x := ⟨_, rfl⟩
    rw [hwA] at HQ HR4 HB HZN HK HbR HbB HyR HyB HS1 ⊢
    rw [hgA] at HS1 ⊢
    clear hwA hgA y0 y1 y2 y3 y4
    obtain ⟨g0, g1, g2, g3, g4, f0, f1, f2, f3, f4⟩ := HR4.out.u5
    have KZ := Lib.hid (HR4.out.s5 (.int .i64 2) (.int .i64 0) (.slice (some ⟨gA, 0, none⟩) 1 1) (.slice none 0 0) (.slice none 0 0))
    have HGZ := Lib.hid (grown_s5 wA qR (.int .i64 2) (.int .i64 0) (.slice (some ⟨gA, 0, none⟩) 1 1) (.slice none 0 0) (.slice none 0 0))
    have HBZ := Lib.hid (HB.out.grown HGZ.out HB.out.size (fun k hk => by injection hk with hk; rw [← hk]; exact HQ4.out))
    have HS1Z := Lib.hid (HS1.out.far HGZ.out (Nat.lt_succ_self _))
    repeat go_step
    obtain ⟨wz, hwz⟩ : ∃ x, (((((wA.setCell ⟨qR, 0, none⟩ (.int .i64 2)).setCell ⟨qR, 1, none⟩ (.int .i64 0)).setCell ⟨qR, 2, none⟩ (.slice (some ⟨gA, 0, none⟩) 1 1)).setCell ⟨qR, 3, none⟩ (.slice none 0 0)).setCell ⟨qR, 4, none⟩ (.slice none 0 0)) = x := ⟨_, rfl⟩
    rw [hwz] at KZ HBZ HS1Z ⊢
    clear hwz HGZ g0 g1 g2 g3 g4 f0 f1 f2 f3 f4
    obtain ⟨z0, z1, z2, z3, z4, _⟩ := KZ.out.u5
    refine bodyPost_ret (v := .agg #[.int .i64 2, .int .i64 0, .slice (some ⟨gA, 0, none⟩) 1 1, .slice none 0 0, .slice none 0 0]) (by simp [results, Tryz.results33, go_sem, z0, z1, z2, z3, z4]) rfl ⟨⟨_, rfl, by rw [HV.out]; exact ⟨_, _, _, _, _, _, _, _, _, rfl, ((HS1Z.out).mono HBQ.out), (fun h => by cases h), ((SetsUp.nil _ (qR + 1)).mono HBQ.out), (fun _ => ⟨rfl, rfl⟩), ((SetsUp.nil _ (qR + 1)).mono HBQ.out), (fun _ => ⟨rfl, rfl⟩)⟩⟩, HBZ.out⟩
  replace HV := Lib.hid (HV.out.trans (show ansT S apex qn qt = ansK S apex qn qt by
    rw [ansT]
    cases hfk : findK S ⟨qn, 5, 1⟩ with
    | none => rfl
    | some s => exact if_pos (by
        have h := fun h2 => hal ⟨by rw [hfk]; rfl, h2⟩
        exact Classical.not_not.1 h)))
  obtain ⟨cb, hcb⟩ : ∃ x, (findK S ⟨qn, 5, 1⟩).isSome = x := ⟨_, rfl⟩
  rw [hcb] at hal ⊢
  have HAL := Lib.hid (show cb = false ∨ qt = 5 by cases cb; exact Or.inl rfl; exact Or.inr (Classical.not_not.1 (fun h => hal ⟨rfl, h⟩)))
  clear hal hcb
  have hfin : (cb && (qt != 5)) = false := by rcases HAL.out with h | h; (rw [h]; rfl); (rw [nF h, Bool.and_false])
  cases cb
  case false =>
    go_upto_region 10 with (fail)
    clear p0 p1 p2
    obtain ⟨k0, k1, k2, _⟩ := HK.out.v3
    go_wp2_with fail
    refine (zget_any z apex S qn qt 1 w9 HZN.out HRI.out HSZ.out HN.out).mono ?_; rintro e w10 ⟨hf, hb⟩
    obtain ⟨cx, ca, cc, hcs, rfl, hcr⟩ := found_getD hf
    replace hcr := own_mono4 (base' := qR + 1) hcr HR4.out.1
    clear k0 k1 k2
    replace HQ := Lib.hid (HQ.out.below hb)
    replace HR4 := Lib.hid (HR4.out.below hb)
    replace HB := Lib.hid (HB.out.trans (hb.mono HB.out.size))
    replace HZN := Lib.hid (HZN.out.below hb)
    replace HK := Lib.hid (HK.out.below hb)
    replace HbR := Lib.hid (own_below' HbR.out hb)
    replace HbB := Lib.hid (HbB.out.below hb)
    replace HyR := Lib.hid (own_below' HyR.out hb)
    replace HyB := Lib.hid (HyB.out.below hb)
    clear hb hf
    have HcS := Lib.hid hcs
    clear hcs
    obtain ⟨⟨cn, ct, ck⟩, cu, cd⟩ := cx
    replace hcr : World.ownsRow w10 (qR + 1) 9 1 (.slice ca cd.length cc) cd.length (sc cd) := hcr
    dsimp only
    obtain ⟨cm, hcm⟩ : ∃ x, cd.length = x := ⟨_, rfl⟩
    rw [hcm] at hcr ⊢
    have HcM := Lib.hid hcm
    have HcR := Lib.hid hcr
    clear hcm hcr
    have hba := (Below.refl _ _ : Below w10.heap.size w10 w10).alloc (Nat.le_refl _) (.cells #[.string cn, .int .i64 ct, .int .i64 ck, .int .i64 cu, .slice ca cm cc] 38)
    have HcB := Lib.hid (CN.new w10 #[.string cn, .int .i64 ct, .int .i64 ck, .int .i64 cu, .slice ca cm cc] 38)
    replace HQ := Lib.hid (HQ.out.below hba)
    replace HR4 := Lib.hid (HR4.out.below hba)
    replace HB := Lib.hid (HB.out.trans (hba.mono HB.out.size))
    replace HZN := Lib.hid (HZN.out.below hba)
    replace HK := Lib.hid (HK.out.below hba)
    replace HbR := Lib.hid (own_below' HbR.out hba)
    replace HbB := Lib.hid (HbB.out.below hba)
    replace HyR := Lib.hid (own_below' HyR.out hba)
    replace HyB := Lib.hid (HyB.out.below hba)
    replace HcR := Lib.hid (own_below' HcR.out hba)
    obtain ⟨w11, hw⟩ : ∃ x, w10.alloc (.cells #[.string cn, .int .i64 ct, .int .i64 ck, .int .i64 cu, .slice ca cm cc] 38) = x := ⟨_, rfl⟩
    obtain ⟨q11, hq⟩ : ∃ x, w10.heap.size = x := ⟨_, rfl⟩
    rw [hw, hq] at HcB
    rw [hw] at HQ HR4 HB HZN HK HbR HbB HyR HyB HcR
    have HW := Lib.hid hw
    have HQ_ := Lib.hid hq
    clear hba hw hq
    go_upto_region 11 with (fail)
    rw [HW.out, HQ_.out]
    clear HW HQ_
    cases hfk : findK S ⟨qn, qt, 1⟩ with
    | some s =>
      rw [hfk] at HcS
      obtain rfl : s = ⟨⟨cn, ct, ck⟩, cu, cd⟩ := HcS.out
      have HGD := Lib.hid (show ∀ s ∈ [(⟨⟨cn, ct, ck⟩, cu, cd⟩ : SetP)], ∀ d ∈ s.data, d.size ≤ 1000000 from fun s hs => by obtain rfl := List.mem_singleton.1 hs; exact HZD.out _ (find_mem hfk))
      have HGS := Lib.hid (show sumD [(⟨⟨cn, ct, ck⟩, cu, cd⟩ : SetP)] ≤ 100000 by have h := (HSZ.out.2 _ (find_mem hfk)).2; simpa [sumD] using h)
      replace HV := Lib.hid (HV.out.trans (show ansK S apex qn qt = ⟨1, 0, [⟨⟨cn, ct, ck⟩, cu, cd⟩], [], glueL S [⟨⟨cn, ct, ck⟩, cu, cd⟩]⟩ by rw [ansK, hfk]))
      clear hfk
      simp only [Option.isSome_some]
      go_upto_region 12 with (fail)
      have hbd := (Below.refl w11.heap.size w11).drew
      have HCD := Lib.hid (HcB.out.below hbd)
      replace HR4 := Lib.hid (HR4.out.below hbd)
      replace HZN := Lib.hid (HZN.out.below hbd)
      replace HcR := Lib.hid (own_below' HcR.out hbd)
      replace HB := Lib.hid (HB.out.trans (hbd.mono HB.out.size))
      obtain ⟨wdd, hwd⟩ : ∃ x, w11.drew = x := ⟨_, rfl⟩
      have HBD := Lib.hid (show Below w11.heap.size w11 wdd by rw [← hwd]; exact hbd)
      rw [hwd] at HCD HR4 HZN HcR HB
      clear hbd
      refine wp_region_last_drew (S := (fun wx => Hid (Below w11.heap.size w11 wx) ∧ wx.cell? ⟨q11, 0, none⟩ = some (.string cn) ∧ wx.cell? ⟨q11, 1, none⟩ = some (.int .i64 ct) ∧ wx.cell? ⟨q11, 2, none⟩ = some (.int .i64 ck) ∧ wx.cell? ⟨q11, 3, none⟩ = some (.int .i64 cu) ∧ wx.cell? ⟨q11, 4, none⟩ = some (.slice ca cm cc))) (L := 7) (by kernel_rfl) (by rw [hwd]; exact ⟨HBD, (HCD.out.2 0 _ rfl).1, (HCD.out.2 1 _ rfl).1, (HCD.out.2 2 _ rfl).1, (HCD.out.2 3 _ rfl).1, (HCD.out.2 4 _ rfl).1⟩) (fun hHeld => ?_)
      rw [hwd] at hHeld ⊢
      clear hwd
      refine wpAnyL_take (i := 0) (oi := { dst := some 93, op := Go.Op.load 38 (Go.Operand.tmp 10), type := 38, pos := "auth.go:49", after := #[], guard := none }) (v := ?v0_401) rfl (by kernel_rfl) (by kernel_rfl) (by kernel_rfl) (by kernel_rfl) (by kernel_rfl) (fun _ _ _ h => h) (Or.inl ⟨by rfl, ?y0_401⟩) hHeld ?r0_401
      case y0_401 => intro w hSw; (try dsimp only at hSw); go_simp; try with_reducible rfl
      try simp only [Act.put, List.setIfInBounds_toArray, List.set_cons_zero, List.set_cons_succ]
      refine wpAnyL_take (i := 2) (oi := { dst := some 95, op := Go.Op.move (Go.Operand.tmp 0), type := 28, pos := "auth.go:49", after := #[], guard := none }) (v := ?v2_401) rfl (by kernel_rfl) (by kernel_rfl) (by kernel_rfl) (by kernel_rfl) (by kernel_rfl) (fun _ _ _ h => h) (Or.inl ⟨by rfl, ?y2_401⟩) hHeld ?r2_401
      case y2_401 => intro w hSw; (try dsimp only at hSw); go_simp; try with_reducible rfl
      try simp only [Act.put, List.setIfInBounds_toArray, List.set_cons_zero, List.set_cons_succ]
      refine wpAnyL_take (i := 3) (oi := { dst := some 96, op := Go.Op.load 38 (Go.Operand.tmp 10), type := 38, pos := "auth.go:49", after := #[], guard := none }) (v := ?v3_401) rfl (by kernel_rfl) (by kernel_rfl) (by kernel_rfl) (by kernel_rfl) (by kernel_rfl) (fun _ _ _ h => h) (Or.inl ⟨by rfl, ?y3_401⟩) hHeld ?r3_401
      case y3_401 => intro w hSw; (try dsimp only at hSw); go_simp; try with_reducible rfl
      try simp only [Act.put, List.setIfInBounds_toArray, List.set_cons_zero, List.set_cons_succ]
      refine wpAnyL_ready (rs := [1, 4]) (by kernel_rfl) (by simp) ?_
      refine AllReadyL.cons (o := { dst := some 94, op := Go.Op.buildSlice 61 1 #[(0, Go.Operand.tmp 93)], type := 61, pos := "auth.go:49", after := #[{ on := 0, ground := Go.Ground.data }], guard := none }) rfl (by decide) (fun K hK => ?_) (AllReadyL.cons (o := { dst := some 97, op := Go.Op.buildSlice 61 1 #[(0, Go.Operand.tmp 96)], type := 61, pos := "auth.go:49", after := #[{ on := 3, ground := Go.Ground.data }], guard := none }) rfl (by decide) (fun K hK => ?_) AllReadyL.nil)
      · go_simp
        have hs := SetsUp.one (w := wdd) (sn := cn) (st := ct) (sk := ck) (su := cu) HcM.out HcR.out HR4.out.1
        have hb := (Below.refl _ _ : Below wdd.heap.size wdd wdd).alloc (Nat.le_refl _) (.cells #[.string cn, .int .i64 ct, .int .i64 ck, .int .i64 cu, .slice ca cm cc] 38)
        obtain ⟨wx1, hwe⟩ : ∃ x, wdd.alloc (.cells #[.string cn, .int .i64 ct, .int .i64 ck, .int .i64 cu, .slice ca cm cc] 38) = x := ⟨_, rfl⟩
        rw [hwe] at hs hb ⊢
        replace HR4 := Lib.hid (HR4.out.below hb)
        replace HZN := Lib.hid (HZN.out.below hb)
        replace HcR := Lib.hid (own_below' HcR.out hb)
        replace HB := Lib.hid (HB.out.trans (hb.mono HB.out.size))
        obtain ⟨g1, hge⟩ : ∃ x, wdd.heap.size = x := ⟨_, rfl⟩
        rw [hge] at hs ⊢
        have HS1 := Lib.hid hs
        clear hs hwe hge
        refine hK.out _ _ (⟨Lib.hid (hHeld.1.out.trans (hb.mono hHeld.1.out.size)), cell_later4 hb hHeld.2.1, cell_later4 hb hHeld.2.2.1, cell_later4 hb hHeld.2.2.2.1, cell_later4 hb hHeld.2.2.2.2.1, cell_later4 hb hHeld.2.2.2.2.2⟩) (fun hHeld2 => ?_)
        clear hK K hHeld
        have hHeld := hHeld2
        clear hHeld2
        try simp only [Act.put, List.setIfInBounds_toArray, List.set_cons_zero, List.set_cons_succ]
        refine wpAnyL_ready (rs := [4]) (by kernel_rfl) (by simp) ?_
        refine AllReadyL.cons (o := { dst := some 97, op := Go.Op.buildSlice 61 1 #[(0, Go.Operand.tmp 96)], type := 61, pos := "auth.go:49", after := #[{ on := 3, ground := Go.Ground.data }], guard := none }) rfl (by decide) (fun K hK => ?_) AllReadyL.nil
        go_simp
        have hs := SetsUp.one (w := wx1) (sn := cn) (st := ct) (sk := ck) (su := cu) HcM.out HcR.out HR4.out.1
        have hb := (Below.refl _ _ : Below wx1.heap.size wx1 wx1).alloc (Nat.le_refl _) (.cells #[.string cn, .int .i64 ct, .int .i64 ck, .int .i64 cu, .slice ca cm cc] 38)
        obtain ⟨wx2, hwe⟩ : ∃ x, wx1.alloc (.cells #[.string cn, .int .i64 ct, .int .i64 ck, .int .i64 cu, .slice ca cm cc] 38) = x := ⟨_, rfl⟩
        rw [hwe] at hs hb ⊢
        replace HR4 := Lib.hid (HR4.out.below hb)
        replace HZN := Lib.hid (HZN.out.below hb)
        replace HcR := Lib.hid (own_below' HcR.out hb)
        replace HB := Lib.hid (HB.out.trans (hb.mono HB.out.size))
        replace HS1 := Lib.hid (HS1.out.below hb)
        obtain ⟨g4, hge⟩ : ∃ x, wx1.heap.size = x := ⟨_, rfl⟩
        rw [hge] at hs ⊢
        have HS4 := Lib.hid hs
        clear hs hwe hge
        refine hK.out _ _ (⟨Lib.hid (hHeld.1.out.trans (hb.mono hHeld.1.out.size)), cell_later4 hb hHeld.2.1, cell_later4 hb hHeld.2.2.1, cell_later4 hb hHeld.2.2.2.1, cell_later4 hb hHeld.2.2.2.2.1, cell_later4 hb hHeld.2.2.2.2.2⟩) (fun hHeld2 => ?_)
        clear hK K hHeld
        have hHeld := hHeld2
        clear hHeld2
        try simp only [Act.put, List.setIfInBounds_toArray, List.set_cons_zero, List.set_cons_succ]
        refine wpAnyL_ready (rs := [5]) (by kernel_rfl) (by simp) ?_
        refine AllReadyL.cons (o := { dst := some 98, op := Go.Op.call { callee := Go.Callee.value (Go.Operand.func 78), args := #[Go.Operand.tmp 95, Go.Operand.tmp 97], argTypes := #[28, 61] }, type := 61, pos := "auth.go:49", after := #[{ on := 2, ground := Go.Ground.data }, { on := 4, ground := Go.Ground.data }], guard := none }) rfl (by decide) (fun K hK => ?_) AllReadyL.nil
        go_simp
        refine (glue_any z apex S (some ⟨g4, 0, none⟩) 1 1 [⟨⟨cn, ct, ck⟩, cu, cd⟩] wx2 HZN.out HRI.out HSZ.out HS4.out.at (by decide) HGD.out HGS.out).mono ?_; rintro e wx3 ⟨v, G, T, m, rfl, htg, hgm, hgl, hgn, hos, hb⟩
        obtain ⟨ga, gc, rfl, hsg, hgnil⟩ := SetsUp.own hos
        rw [hgm, ← tgF_eq htg] at hsg
        rw [hgl] at hsg hgnil ⊢
        have HGN := Lib.hid hgnil
        have HSG := Lib.hid (show SetsUp wx3 (qR + 1) ga m (glueL S [⟨⟨cn, ct, ck⟩, cu, cd⟩]) from hsg.mono HR4.out.1)
        replace HR4 := Lib.hid (HR4.out.below hb)
        replace HZN := Lib.hid (HZN.out.below hb)
        replace HcR := Lib.hid (own_below' HcR.out hb)
        replace HB := Lib.hid (HB.out.trans (hb.mono HB.out.size))
        replace HS1 := Lib.hid (HS1.out.below hb)
        replace HS4 := Lib.hid (HS4.out.below hb)
        clear hos hsg hgnil hgm hgl hgn htg
        go_wp2_with fail
        refine hK.out _ _ (⟨Lib.hid (hHeld.1.out.trans (hb.mono hHeld.1.out.size)), cell_later4 hb hHeld.2.1, cell_later4 hb hHeld.2.2.1, cell_later4 hb hHeld.2.2.2.1, cell_later4 hb hHeld.2.2.2.2.1, cell_later4 hb hHeld.2.2.2.2.2⟩) (fun hHeld2 => ?_)
        clear hK K hHeld
        have hHeld := hHeld2
        clear hHeld2
        try simp only [Act.put, List.setIfInBounds_toArray, List.set_cons_zero, List.set_cons_succ]
        refine wpAnyL_take (i := 6) (oi := { dst := some 99, op := Go.Op.build 71 #[(0, Go.Operand.const (Go.Value.int Go.IntKind.i64 1)), (2, Go.Operand.tmp 94), (4, Go.Operand.tmp 98)], type := 71, pos := "auth.go:49", after := #[{ on := 1, ground := Go.Ground.data }, { on := 5, ground := Go.Ground.data }], guard := none }) (v := ?v6_404) rfl (by kernel_rfl) (by kernel_rfl) (by kernel_rfl) (by kernel_rfl) (by kernel_rfl) (fun _ _ _ h => h) (Or.inl ⟨by rfl, ?y6_404⟩) hHeld ?r6_404
        case y6_404 => intro w hSw; (try dsimp only at hSw); go_simp; try with_reducible rfl
        try simp only [Act.put, List.setIfInBounds_toArray, List.set_cons_zero, List.set_cons_succ]
        refine wpAnyL_ready (rs := [7]) (by kernel_rfl) (by simp) ?_
        refine AllReadyL.last (o := { dst := none, op := Go.Op.store 71 (Go.Operand.tmp 4) (Go.Operand.tmp 99), type := 0, pos := "auth.go:49", after := #[{ on := 6, ground := Go.Ground.data }, { on := 5, ground := Go.Ground.chain }, { on := 0, ground := Go.Ground.phase }, { on := 1, ground := Go.Ground.phase }, { on := 2, ground := Go.Ground.phase }, { on := 3, ground := Go.Ground.phase }, { on := 4, ground := Go.Ground.phase }, { on := 5, ground := Go.Ground.phase }, { on := 6, ground := Go.Ground.phase }], guard := none }) rfl (by decide) (fun K hK => ?_) AllReadyL.nil
        have KZ := Lib.hid (HR4.out.s5 (.int .i64 1) (.int .i64 0) (.slice (some ⟨g1, 0, none⟩) 1 1) (.slice none 0 0) (.slice ga m gc))
        have HGZ := Lib.hid (grown_s5 wx3 qR (.int .i64 1) (.int .i64 0) (.slice (some ⟨g1, 0, none⟩) 1 1) (.slice none 0 0) (.slice ga m gc))
        have HBZ := Lib.hid (HB.out.grown HGZ.out HB.out.size (fun k hk => by injection hk with hk; rw [← hk]; exact HQ4.out))
        have HS1Z := Lib.hid (HS1.out.far HGZ.out (Nat.lt_succ_self _))
        have HSGZ := Lib.hid (HSG.out.far HGZ.out (Nat.lt_succ_self _))
        obtain ⟨y0, y1, y2, y3, y4, f0, f1, f2, f3, f4⟩ := HR4.out.u5
        go_wp2_with fail
        refine hK.out _ _ trivial (fun _ => ?_)
        clear hK K
        try simp only [Act.put, List.setIfInBounds_toArray, List.set_cons_zero, List.set_cons_succ]
        refine wpAnyL_done (by kernel_rfl) ?_ _
        repeat go_step
        obtain ⟨wz, hwz⟩ : ∃ x, (((((wx3.setCell ⟨qR, 0, none⟩ (.int .i64 1)).setCell ⟨qR, 1, none⟩ (.int .i64 0)).setCell ⟨qR, 2, none⟩ (.slice (some ⟨g1, 0, none⟩) 1 1)).setCell ⟨qR, 3, none⟩ (.slice none 0 0)).setCell ⟨qR, 4, none⟩ (.slice ga m gc)) = x := ⟨_, rfl⟩
        rw [hwz] at KZ HBZ HS1Z HSGZ ⊢
        clear hwz HGZ y0 y1 y2 y3 y4 f0 f1 f2 f3 f4
        obtain ⟨z0, z1, z2, z3, z4, _⟩ := KZ.out.u5
        refine bodyPost_ret (v := .agg #[.int .i64 1, .int .i64 0, .slice (some ⟨g1, 0, none⟩) 1 1, .slice none 0 0, .slice ga m gc]) (by simp [results, Tryz.results33, go_sem, z0, z1, z2, z3, z4]) rfl ⟨⟨_, rfl, by rw [HV.out]; exact ⟨_, _, _, _, _, _, _, _, _, rfl, ((HS1Z.out).mono HBQ.out), (fun h => by cases h), ((SetsUp.nil _ (qR + 1)).mono HBQ.out), (fun _ => ⟨rfl, rfl⟩), ((HSGZ.out).mono HBQ.out), HGN.out⟩⟩, HBZ.out⟩
      · go_simp
        have hs := SetsUp.one (w := wdd) (sn := cn) (st := ct) (sk := ck) (su := cu) HcM.out HcR.out HR4.out.1
        have hb := (Below.refl _ _ : Below wdd.heap.size wdd wdd).alloc (Nat.le_refl _) (.cells #[.string cn, .int .i64 ct, .int .i64 ck, .int .i64 cu, .slice ca cm cc] 38)
        obtain ⟨wx1, hwe⟩ : ∃ x, wdd.alloc (.cells #[.string cn, .int .i64 ct, .int .i64 ck, .int .i64 cu, .slice ca cm cc] 38) = x := ⟨_, rfl⟩
        rw [hwe] at hs hb ⊢
        replace HR4 := Lib.hid (HR4.out.below hb)
        replace HZN := Lib.hid (HZN.out.below hb)
        replace HcR := Lib.hid (own_below' HcR.out hb)
        replace HB := Lib.hid (HB.out.trans (hb.mono HB.out.size))
        obtain ⟨g4, hge⟩ : ∃ x, wdd.heap.size = x := ⟨_, rfl⟩
        rw [hge] at hs ⊢
        have HS4 := Lib.hid hs
        clear hs hwe hge
        refine hK.out _ _ (⟨Lib.hid (hHeld.1.out.trans (hb.mono hHeld.1.out.size)), cell_later4 hb hHeld.2.1, cell_later4 hb hHeld.2.2.1, cell_later4 hb hHeld.2.2.2.1, cell_later4 hb hHeld.2.2.2.2.1, cell_later4 hb hHeld.2.2.2.2.2⟩) (fun hHeld2 => ?_)
        clear hK K hHeld
        have hHeld := hHeld2
        clear hHeld2
        try simp only [Act.put, List.setIfInBounds_toArray, List.set_cons_zero, List.set_cons_succ]
        refine wpAnyL_ready (rs := [1, 5]) (by kernel_rfl) (by simp) ?_
        refine AllReadyL.cons (o := { dst := some 94, op := Go.Op.buildSlice 61 1 #[(0, Go.Operand.tmp 93)], type := 61, pos := "auth.go:49", after := #[{ on := 0, ground := Go.Ground.data }], guard := none }) rfl (by decide) (fun K hK => ?_) (AllReadyL.cons (o := { dst := some 98, op := Go.Op.call { callee := Go.Callee.value (Go.Operand.func 78), args := #[Go.Operand.tmp 95, Go.Operand.tmp 97], argTypes := #[28, 61] }, type := 61, pos := "auth.go:49", after := #[{ on := 2, ground := Go.Ground.data }, { on := 4, ground := Go.Ground.data }], guard := none }) rfl (by decide) (fun K hK => ?_) AllReadyL.nil)
        · go_simp
          have hs := SetsUp.one (w := wx1) (sn := cn) (st := ct) (sk := ck) (su := cu) HcM.out HcR.out HR4.out.1
          have hb := (Below.refl _ _ : Below wx1.heap.size wx1 wx1).alloc (Nat.le_refl _) (.cells #[.string cn, .int .i64 ct, .int .i64 ck, .int .i64 cu, .slice ca cm cc] 38)
          obtain ⟨wx2, hwe⟩ : ∃ x, wx1.alloc (.cells #[.string cn, .int .i64 ct, .int .i64 ck, .int .i64 cu, .slice ca cm cc] 38) = x := ⟨_, rfl⟩
          rw [hwe] at hs hb ⊢
          replace HR4 := Lib.hid (HR4.out.below hb)
          replace HZN := Lib.hid (HZN.out.below hb)
          replace HcR := Lib.hid (own_below' HcR.out hb)
          replace HB := Lib.hid (HB.out.trans (hb.mono HB.out.size))
          replace HS4 := Lib.hid (HS4.out.below hb)
          obtain ⟨g1, hge⟩ : ∃ x, wx1.heap.size = x := ⟨_, rfl⟩
          rw [hge] at hs ⊢
          have HS1 := Lib.hid hs
          clear hs hwe hge
          refine hK.out _ _ (⟨Lib.hid (hHeld.1.out.trans (hb.mono hHeld.1.out.size)), cell_later4 hb hHeld.2.1, cell_later4 hb hHeld.2.2.1, cell_later4 hb hHeld.2.2.2.1, cell_later4 hb hHeld.2.2.2.2.1, cell_later4 hb hHeld.2.2.2.2.2⟩) (fun hHeld2 => ?_)
          clear hK K hHeld
          have hHeld := hHeld2
          clear hHeld2
          try simp only [Act.put, List.setIfInBounds_toArray, List.set_cons_zero, List.set_cons_succ]
          refine wpAnyL_ready (rs := [5]) (by kernel_rfl) (by simp) ?_
          refine AllReadyL.cons (o := { dst := some 98, op := Go.Op.call { callee := Go.Callee.value (Go.Operand.func 78), args := #[Go.Operand.tmp 95, Go.Operand.tmp 97], argTypes := #[28, 61] }, type := 61, pos := "auth.go:49", after := #[{ on := 2, ground := Go.Ground.data }, { on := 4, ground := Go.Ground.data }], guard := none }) rfl (by decide) (fun K hK => ?_) AllReadyL.nil
          go_simp
          refine (glue_any z apex S (some ⟨g4, 0, none⟩) 1 1 [⟨⟨cn, ct, ck⟩, cu, cd⟩] wx2 HZN.out HRI.out HSZ.out HS4.out.at (by decide) HGD.out HGS.out).mono ?_; rintro e wx3 ⟨v, G, T, m, rfl, htg, hgm, hgl, hgn, hos, hb⟩
          obtain ⟨ga, gc, rfl, hsg, hgnil⟩ := SetsUp.own hos
          rw [hgm, ← tgF_eq htg] at hsg
          rw [hgl] at hsg hgnil ⊢
          have HGN := Lib.hid hgnil
          have HSG := Lib.hid (show SetsUp wx3 (qR + 1) ga m (glueL S [⟨⟨cn, ct, ck⟩, cu, cd⟩]) from hsg.mono HR4.out.1)
          replace HR4 := Lib.hid (HR4.out.below hb)
          replace HZN := Lib.hid (HZN.out.below hb)
          replace HcR := Lib.hid (own_below' HcR.out hb)
          replace HB := Lib.hid (HB.out.trans (hb.mono HB.out.size))
          replace HS1 := Lib.hid (HS1.out.below hb)
          replace HS4 := Lib.hid (HS4.out.below hb)
          clear hos hsg hgnil hgm hgl hgn htg
          go_wp2_with fail
          refine hK.out _ _ (⟨Lib.hid (hHeld.1.out.trans (hb.mono hHeld.1.out.size)), cell_later4 hb hHeld.2.1, cell_later4 hb hHeld.2.2.1, cell_later4 hb hHeld.2.2.2.1, cell_later4 hb hHeld.2.2.2.2.1, cell_later4 hb hHeld.2.2.2.2.2⟩) (fun hHeld2 => ?_)
          clear hK K hHeld
          have hHeld := hHeld2
          clear hHeld2
          try simp only [Act.put, List.setIfInBounds_toArray, List.set_cons_zero, List.set_cons_succ]
          refine wpAnyL_take (i := 6) (oi := { dst := some 99, op := Go.Op.build 71 #[(0, Go.Operand.const (Go.Value.int Go.IntKind.i64 1)), (2, Go.Operand.tmp 94), (4, Go.Operand.tmp 98)], type := 71, pos := "auth.go:49", after := #[{ on := 1, ground := Go.Ground.data }, { on := 5, ground := Go.Ground.data }], guard := none }) (v := ?v6_408) rfl (by kernel_rfl) (by kernel_rfl) (by kernel_rfl) (by kernel_rfl) (by kernel_rfl) (fun _ _ _ h => h) (Or.inl ⟨by rfl, ?y6_408⟩) hHeld ?r6_408
          case y6_408 => intro w hSw; (try dsimp only at hSw); go_simp; try with_reducible rfl
          try simp only [Act.put, List.setIfInBounds_toArray, List.set_cons_zero, List.set_cons_succ]
          refine wpAnyL_ready (rs := [7]) (by kernel_rfl) (by simp) ?_
          refine AllReadyL.last (o := { dst := none, op := Go.Op.store 71 (Go.Operand.tmp 4) (Go.Operand.tmp 99), type := 0, pos := "auth.go:49", after := #[{ on := 6, ground := Go.Ground.data }, { on := 5, ground := Go.Ground.chain }, { on := 0, ground := Go.Ground.phase }, { on := 1, ground := Go.Ground.phase }, { on := 2, ground := Go.Ground.phase }, { on := 3, ground := Go.Ground.phase }, { on := 4, ground := Go.Ground.phase }, { on := 5, ground := Go.Ground.phase }, { on := 6, ground := Go.Ground.phase }], guard := none }) rfl (by decide) (fun K hK => ?_) AllReadyL.nil
          have KZ := Lib.hid (HR4.out.s5 (.int .i64 1) (.int .i64 0) (.slice (some ⟨g1, 0, none⟩) 1 1) (.slice none 0 0) (.slice ga m gc))
          have HGZ := Lib.hid (grown_s5 wx3 qR (.int .i64 1) (.int .i64 0) (.slice (some ⟨g1, 0, none⟩) 1 1) (.slice none 0 0) (.slice ga m gc))
          have HBZ := Lib.hid (HB.out.grown HGZ.out HB.out.size (fun k hk => by injection hk with hk; rw [← hk]; exact HQ4.out))
          have HS1Z := Lib.hid (HS1.out.far HGZ.out (Nat.lt_succ_self _))
          have HSGZ := Lib.hid (HSG.out.far HGZ.out (Nat.lt_succ_self _))
          obtain ⟨y0, y1, y2, y3, y4, f0, f1, f2, f3, f4⟩ := HR4.out.u5
          go_wp2_with fail
          refine hK.out _ _ trivial (fun _ => ?_)
          clear hK K
          try simp only [Act.put, List.setIfInBounds_toArray, List.set_cons_zero, List.set_cons_succ]
          refine wpAnyL_done (by kernel_rfl) ?_ _
          repeat go_step
          obtain ⟨wz, hwz⟩ : ∃ x, (((((wx3.setCell ⟨qR, 0, none⟩ (.int .i64 1)).setCell ⟨qR, 1, none⟩ (.int .i64 0)).setCell ⟨qR, 2, none⟩ (.slice (some ⟨g1, 0, none⟩) 1 1)).setCell ⟨qR, 3, none⟩ (.slice none 0 0)).setCell ⟨qR, 4, none⟩ (.slice ga m gc)) = x := ⟨_, rfl⟩
          rw [hwz] at KZ HBZ HS1Z HSGZ ⊢
          clear hwz HGZ y0 y1 y2 y3 y4 f0 f1 f2 f3 f4
          obtain ⟨z0, z1, z2, z3, z4, _⟩ := KZ.out.u5
          refine bodyPost_ret (v := .agg #[.int .i64 1, .int .i64 0, .slice (some ⟨g1, 0, none⟩) 1 1, .slice none 0 0, .slice ga m gc]) (by simp [results, Tryz.results33, go_sem, z0, z1, z2, z3, z4]) rfl ⟨⟨_, rfl, by rw [HV.out]; exact ⟨_, _, _, _, _, _, _, _, _, rfl, ((HS1Z.out).mono HBQ.out), (fun h => by cases h), ((SetsUp.nil _ (qR + 1)).mono HBQ.out), (fun _ => ⟨rfl, rfl⟩), ((HSGZ.out).mono HBQ.out), HGN.out⟩⟩, HBZ.out⟩
        · go_simp
          refine (glue_any z apex S (some ⟨g4, 0, none⟩) 1 1 [⟨⟨cn, ct, ck⟩, cu, cd⟩] wx1 HZN.out HRI.out HSZ.out HS4.out.at (by decide) HGD.out HGS.out).mono ?_; rintro e wx2 ⟨v, G, T, m, rfl, htg, hgm, hgl, hgn, hos, hb⟩
          obtain ⟨ga, gc, rfl, hsg, hgnil⟩ := SetsUp.own hos
          rw [hgm, ← tgF_eq htg] at hsg
          rw [hgl] at hsg hgnil ⊢
          have HGN := Lib.hid hgnil
          have HSG := Lib.hid (show SetsUp wx2 (qR + 1) ga m (glueL S [⟨⟨cn, ct, ck⟩, cu, cd⟩]) from hsg.mono HR4.out.1)
          replace HR4 := Lib.hid (HR4.out.below hb)
          replace HZN := Lib.hid (HZN.out.below hb)
          replace HcR := Lib.hid (own_below' HcR.out hb)
          replace HB := Lib.hid (HB.out.trans (hb.mono HB.out.size))
          replace HS4 := Lib.hid (HS4.out.below hb)
          clear hos hsg hgnil hgm hgl hgn htg
          go_wp2_with fail
          refine hK.out _ _ (⟨Lib.hid (hHeld.1.out.trans (hb.mono hHeld.1.out.size)), cell_later4 hb hHeld.2.1, cell_later4 hb hHeld.2.2.1, cell_later4 hb hHeld.2.2.2.1, cell_later4 hb hHeld.2.2.2.2.1, cell_later4 hb hHeld.2.2.2.2.2⟩) (fun hHeld2 => ?_)
          clear hK K hHeld
          have hHeld := hHeld2
          clear hHeld2
          try simp only [Act.put, List.setIfInBounds_toArray, List.set_cons_zero, List.set_cons_succ]
          refine wpAnyL_ready (rs := [1]) (by kernel_rfl) (by simp) ?_
          refine AllReadyL.cons (o := { dst := some 94, op := Go.Op.buildSlice 61 1 #[(0, Go.Operand.tmp 93)], type := 61, pos := "auth.go:49", after := #[{ on := 0, ground := Go.Ground.data }], guard := none }) rfl (by decide) (fun K hK => ?_) AllReadyL.nil
          go_simp
          have hs := SetsUp.one (w := wx2) (sn := cn) (st := ct) (sk := ck) (su := cu) HcM.out HcR.out HR4.out.1
          have hb := (Below.refl _ _ : Below wx2.heap.size wx2 wx2).alloc (Nat.le_refl _) (.cells #[.string cn, .int .i64 ct, .int .i64 ck, .int .i64 cu, .slice ca cm cc] 38)
          obtain ⟨wx3, hwe⟩ : ∃ x, wx2.alloc (.cells #[.string cn, .int .i64 ct, .int .i64 ck, .int .i64 cu, .slice ca cm cc] 38) = x := ⟨_, rfl⟩
          rw [hwe] at hs hb ⊢
          replace HR4 := Lib.hid (HR4.out.below hb)
          replace HZN := Lib.hid (HZN.out.below hb)
          replace HcR := Lib.hid (own_below' HcR.out hb)
          replace HB := Lib.hid (HB.out.trans (hb.mono HB.out.size))
          replace HS4 := Lib.hid (HS4.out.below hb)
          replace HSG := Lib.hid (HSG.out.below hb)
          obtain ⟨g1, hge⟩ : ∃ x, wx2.heap.size = x := ⟨_, rfl⟩
          rw [hge] at hs ⊢
          have HS1 := Lib.hid hs
          clear hs hwe hge
          refine hK.out _ _ (⟨Lib.hid (hHeld.1.out.trans (hb.mono hHeld.1.out.size)), cell_later4 hb hHeld.2.1, cell_later4 hb hHeld.2.2.1, cell_later4 hb hHeld.2.2.2.1, cell_later4 hb hHeld.2.2.2.2.1, cell_later4 hb hHeld.2.2.2.2.2⟩) (fun hHeld2 => ?_)
          clear hK K hHeld
          have hHeld := hHeld2
          clear hHeld2
          try simp only [Act.put, List.setIfInBounds_toArray, List.set_cons_zero, List.set_cons_succ]
          refine wpAnyL_take (i := 6) (oi := { dst := some 99, op := Go.Op.build 71 #[(0, Go.Operand.const (Go.Value.int Go.IntKind.i64 1)), (2, Go.Operand.tmp 94), (4, Go.Operand.tmp 98)], type := 71, pos := "auth.go:49", after := #[{ on := 1, ground := Go.Ground.data }, { on := 5, ground := Go.Ground.data }], guard := none }) (v := ?v6_411) rfl (by kernel_rfl) (by kernel_rfl) (by kernel_rfl) (by kernel_rfl) (by kernel_rfl) (fun _ _ _ h => h) (Or.inl ⟨by rfl, ?y6_411⟩) hHeld ?r6_411
          case y6_411 => intro w hSw; (try dsimp only at hSw); go_simp; try with_reducible rfl
          try simp only [Act.put, List.setIfInBounds_toArray, List.set_cons_zero, List.set_cons_succ]
          refine wpAnyL_ready (rs := [7]) (by kernel_rfl) (by simp) ?_
          refine AllReadyL.last (o := { dst := none, op := Go.Op.store 71 (Go.Operand.tmp 4) (Go.Operand.tmp 99), type := 0, pos := "auth.go:49", after := #[{ on := 6, ground := Go.Ground.data }, { on := 5, ground := Go.Ground.chain }, { on := 0, ground := Go.Ground.phase }, { on := 1, ground := Go.Ground.phase }, { on := 2, ground := Go.Ground.phase }, { on := 3, ground := Go.Ground.phase }, { on := 4, ground := Go.Ground.phase }, { on := 5, ground := Go.Ground.phase }, { on := 6, ground := Go.Ground.phase }], guard := none }) rfl (by decide) (fun K hK => ?_) AllReadyL.nil
          have KZ := Lib.hid (HR4.out.s5 (.int .i64 1) (.int .i64 0) (.slice (some ⟨g1, 0, none⟩) 1 1) (.slice none 0 0) (.slice ga m gc))
          have HGZ := Lib.hid (grown_s5 wx3 qR (.int .i64 1) (.int .i64 0) (.slice (some ⟨g1, 0, none⟩) 1 1) (.slice none 0 0) (.slice ga m gc))
          have HBZ := Lib.hid (HB.out.grown HGZ.out HB.out.size (fun k hk => by injection hk with hk; rw [← hk]; exact HQ4.out))
          have HS1Z := Lib.hid (HS1.out.far HGZ.out (Nat.lt_succ_self _))
          have HSGZ := Lib.hid (HSG.out.far HGZ.out (Nat.lt_succ_self _))
          obtain ⟨y0, y1, y2, y3, y4, f0, f1, f2, f3, f4⟩ := HR4.out.u5
          go_wp2_with fail
          refine hK.out _ _ trivial (fun _ => ?_)
          clear hK K
          try simp only [Act.put, List.setIfInBounds_toArray, List.set_cons_zero, List.set_cons_succ]
          refine wpAnyL_done (by kernel_rfl) ?_ _
          repeat go_step
          obtain ⟨wz, hwz⟩ : ∃ x, (((((wx3.setCell ⟨qR, 0, none⟩ (.int .i64 1)).setCell ⟨qR, 1, none⟩ (.int .i64 0)).setCell ⟨qR, 2, none⟩ (.slice (some ⟨g1, 0, none⟩) 1 1)).setCell ⟨qR, 3, none⟩ (.slice none 0 0)).setCell ⟨qR, 4, none⟩ (.slice ga m gc)) = x := ⟨_, rfl⟩
          rw [hwz] at KZ HBZ HS1Z HSGZ ⊢
          clear hwz HGZ y0 y1 y2 y3 y4 f0 f1 f2 f3 f4
          obtain ⟨z0, z1, z2, z3, z4, _⟩ := KZ.out.u5
          refine bodyPost_ret (v := .agg #[.int .i64 1, .int .i64 0, .slice (some ⟨g1, 0, none⟩) 1 1, .slice none 0 0, .slice ga m gc]) (by simp [results, Tryz.results33, go_sem, z0, z1, z2, z3, z4]) rfl ⟨⟨_, rfl, by rw [HV.out]; exact ⟨_, _, _, _, _, _, _, _, _, rfl, ((HS1Z.out).mono HBQ.out), (fun h => by cases h), ((SetsUp.nil _ (qR + 1)).mono HBQ.out), (fun _ => ⟨rfl, rfl⟩), ((HSGZ.out).mono HBQ.out), HGN.out⟩⟩, HBZ.out⟩
    | none =>
      replace HV := Lib.hid (HV.out.trans (show ansK S apex qn qt = (if thereP S qn = true then ⟨5, 0, [], soaL S apex, []⟩ else ⟨4, 3, [], soaL S apex, []⟩) by rw [ansK, hfk]))
      clear hfk HcS
      simp only [Option.isSome_none]
      go_wp2_with fail
      refine (zapex_any z apex S _ HZN.out).mono ?_; rintro e w99 ⟨rfl, rfl⟩
      go_wp2_with fail
      refine (akey_any apex 6 w11).mono ?_; rintro e w12 ⟨rfl, hb⟩
      replace HQ := Lib.hid (HQ.out.below hb)
      replace HR4 := Lib.hid (HR4.out.below hb)
      replace HB := Lib.hid (HB.out.trans (hb.mono HB.out.size))
      replace HZN := Lib.hid (HZN.out.below hb)
      replace HK := Lib.hid (HK.out.below hb)
      replace HbR := Lib.hid (own_below' HbR.out hb)
      replace HbB := Lib.hid (HbB.out.below hb)
      replace HyR := Lib.hid (own_below' HyR.out hb)
      replace HyB := Lib.hid (HyB.out.below hb)
      replace HcR := Lib.hid (own_below' HcR.out hb)
      replace HcB := Lib.hid (HcB.out.below hb)
      clear hb
      go_wp2_with fail
      refine (zget_any z apex S apex 6 1 w12 HZN.out HRI.out HSZ.out HA.out).mono ?_; rintro e w13 ⟨hf, hb⟩
      obtain ⟨rx, ra, rc, hrs, rfl, hrr⟩ := found_getD hf
      replace hrr := own_mono4 (base' := qR + 1) hrr HR4.out.1
      replace HQ := Lib.hid (HQ.out.below hb)
      replace HR4 := Lib.hid (HR4.out.below hb)
      replace HB := Lib.hid (HB.out.trans (hb.mono HB.out.size))
      replace HZN := Lib.hid (HZN.out.below hb)
      replace HK := Lib.hid (HK.out.below hb)
      replace HbR := Lib.hid (own_below' HbR.out hb)
      replace HbB := Lib.hid (HbB.out.below hb)
      replace HyR := Lib.hid (own_below' HyR.out hb)
      replace HyB := Lib.hid (HyB.out.below hb)
      replace HcR := Lib.hid (own_below' HcR.out hb)
      replace HcB := Lib.hid (HcB.out.below hb)
      clear hb hf
      have HrS := Lib.hid hrs
      clear hrs
      obtain ⟨⟨rn, rt, rk⟩, ru, rd⟩ := rx
      replace hrr : World.ownsRow w13 (qR + 1) 9 1 (.slice ra rd.length rc) rd.length (sc rd) := hrr
      dsimp only
      obtain ⟨rm, hrm⟩ : ∃ x, rd.length = x := ⟨_, rfl⟩
      rw [hrm] at hrr ⊢
      have HrM := Lib.hid hrm
      have HrR := Lib.hid hrr
      clear hrm hrr
      have hba := (Below.refl _ _ : Below w13.heap.size w13 w13).alloc (Nat.le_refl _) (.cells #[.string rn, .int .i64 rt, .int .i64 rk, .int .i64 ru, .slice ra rm rc] 38)
      have HrB := Lib.hid (CN.new w13 #[.string rn, .int .i64 rt, .int .i64 rk, .int .i64 ru, .slice ra rm rc] 38)
      replace HQ := Lib.hid (HQ.out.below hba)
      replace HR4 := Lib.hid (HR4.out.below hba)
      replace HB := Lib.hid (HB.out.trans (hba.mono HB.out.size))
      replace HZN := Lib.hid (HZN.out.below hba)
      replace HK := Lib.hid (HK.out.below hba)
      replace HbR := Lib.hid (own_below' HbR.out hba)
      replace HbB := Lib.hid (HbB.out.below hba)
      replace HyR := Lib.hid (own_below' HyR.out hba)
      replace HyB := Lib.hid (HyB.out.below hba)
      replace HcR := Lib.hid (own_below' HcR.out hba)
      replace HcB := Lib.hid (HcB.out.below hba)
      replace HrR := Lib.hid (own_below' HrR.out hba)
      obtain ⟨w14, hw⟩ : ∃ x, w13.alloc (.cells #[.string rn, .int .i64 rt, .int .i64 rk, .int .i64 ru, .slice ra rm rc] 38) = x := ⟨_, rfl⟩
      obtain ⟨q14, hq⟩ : ∃ x, w13.heap.size = x := ⟨_, rfl⟩
      rw [hw, hq] at HrB
      rw [hw] at HQ HR4 HB HZN HK HbR HbB HyR HyB HcR HcB HrR
      have HW := Lib.hid hw
      have HQ_ := Lib.hid hq
      clear hba hw hq
      go_upto_region 14 with (fail)
      rw [HW.out, HQ_.out]
      clear HW HQ_
      have HSO := Lib.hid (show soaL S apex = [⟨⟨rn, rt, rk⟩, ru, rd⟩] by rw [soaL, HrS.out])
      obtain ⟨p0, p1, p2, _⟩ := HQ.out.v3
      have HTH := Lib.hid (zthere_any z apex S qn w14 HZN.out HSZ.out HA.out HN.out)
      rw [HU.out, Bool.true_and] at HTH
      obtain ⟨tb, htb⟩ : ∃ x, thereP S qn = x := ⟨_, rfl⟩
      rw [htb, HSO.out] at HV
      rw [htb] at HTH
      clear htb
      go_wp2_with fail
      refine HTH.out.mono ?_; rintro e w15 ⟨rfl, hb⟩
      clear p0 p1 p2
      replace HQ := Lib.hid (HQ.out.below hb)
      replace HR4 := Lib.hid (HR4.out.below hb)
      replace HB := Lib.hid (HB.out.trans (hb.mono HB.out.size))
      replace HZN := Lib.hid (HZN.out.below hb)
      replace HK := Lib.hid (HK.out.below hb)
      replace HbR := Lib.hid (own_below' HbR.out hb)
      replace HbB := Lib.hid (HbB.out.below hb)
      replace HyR := Lib.hid (own_below' HyR.out hb)
      replace HyB := Lib.hid (HyB.out.below hb)
      replace HcR := Lib.hid (own_below' HcR.out hb)
      replace HcB := Lib.hid (HcB.out.below hb)
      replace HrR := Lib.hid (own_below' HrR.out hb)
      replace HrB := Lib.hid (HrB.out.below hb)
      clear hb HTH
      cases tb
      · replace HV := Lib.hid (show ansF S apex qn qt qc = ⟨4, 3, [], [⟨⟨rn, rt, rk⟩, ru, rd⟩], []⟩ from HV.out)
        go_upto_region 16 with (fail)
        obtain ⟨y0, y1, y2, y3, y4, _⟩ := HrB.out.u5
        have HS1 := Lib.hid (SetsUp.one (w := w15) (sn := rn) (st := rt) (sk := rk) (su := ru) HrM.out HrR.out HR4.out.1)
        iterate 7 go_step
        have hba := (Below.refl _ _ : Below w15.heap.size w15 w15).alloc (Nat.le_refl _) (.cells #[.string rn, .int .i64 rt, .int .i64 rk, .int .i64 ru, .slice ra rm rc] 38)
        replace HQ := Lib.hid (HQ.out.below hba)
        replace HR4 := Lib.hid (HR4.out.below hba)
        replace HB := Lib.hid (HB.out.trans (hba.mono HB.out.size))
        replace HZN := Lib.hid (HZN.out.below hba)
        replace HK := Lib.hid (HK.out.below hba)
        replace HbR := Lib.hid (own_below' HbR.out hba)
        replace HbB := Lib.hid (HbB.out.below hba)
        replace HyR := Lib.hid (own_below' HyR.out hba)
        replace HyB := Lib.hid (HyB.out.below hba)
        replace HcR := Lib.hid (own_below' HcR.out hba)
        replace HcB := Lib.hid (HcB.out.below hba)
        replace HrR := Lib.hid (own_below' HrR.out hba)
        replace HrB := Lib.hid (HrB.out.below hba)
        clear hba
        obtain ⟨wA, hwA⟩ : ∃ x, w15.alloc (.cells #[.string rn, .int .i64 rt, .int .i64 rk, .int .i64 ru, .slice ra rm rc] 38) = x := ⟨_, rfl⟩
        obtain ⟨gA, hgA⟩ : ∃ x, w15.heap.size = x := ⟨_, rfl⟩
        rw [hwA] at HQ HR4 HB HZN HK HbR HbB HyR HyB HcR HcB HrR HrB HS1 ⊢
        rw [hgA] at HS1 ⊢
        clear hwA hgA y0 y1 y2 y3 y4
        obtain ⟨g0, g1, g2, g3, g4, f0, f1, f2, f3, f4⟩ := HR4.out.u5
        have KZ := Lib.hid (HR4.out.s5 (.int .i64 4) (.int .i64 3) (.slice none 0 0) (.slice (some ⟨gA, 0, none⟩) 1 1) (.slice none 0 0))
        have HGZ := Lib.hid (grown_s5 wA qR (.int .i64 4) (.int .i64 3) (.slice none 0 0) (.slice (some ⟨gA, 0, none⟩) 1 1) (.slice none 0 0))
        have HBZ := Lib.hid (HB.out.grown HGZ.out HB.out.size (fun k hk => by injection hk with hk; rw [← hk]; exact HQ4.out))
        have HS1Z := Lib.hid (HS1.out.far HGZ.out (Nat.lt_succ_self _))
        repeat go_step
        obtain ⟨wz, hwz⟩ : ∃ x, (((((wA.setCell ⟨qR, 0, none⟩ (.int .i64 4)).setCell ⟨qR, 1, none⟩ (.int .i64 3)).setCell ⟨qR, 2, none⟩ (.slice none 0 0)).setCell ⟨qR, 3, none⟩ (.slice (some ⟨gA, 0, none⟩) 1 1)).setCell ⟨qR, 4, none⟩ (.slice none 0 0)) = x := ⟨_, rfl⟩
        rw [hwz] at KZ HBZ HS1Z ⊢
        clear hwz HGZ g0 g1 g2 g3 g4 f0 f1 f2 f3 f4
        obtain ⟨z0, z1, z2, z3, z4, _⟩ := KZ.out.u5
        refine bodyPost_ret (v := .agg #[.int .i64 4, .int .i64 3, .slice none 0 0, .slice (some ⟨gA, 0, none⟩) 1 1, .slice none 0 0]) (by simp [results, Tryz.results33, go_sem, z0, z1, z2, z3, z4]) rfl ⟨⟨_, rfl, by rw [HV.out]; exact ⟨_, _, _, _, _, _, _, _, _, rfl, ((SetsUp.nil _ (qR + 1)).mono HBQ.out), (fun _ => ⟨rfl, rfl⟩), ((HS1Z.out).mono HBQ.out), (fun h => by cases h), ((SetsUp.nil _ (qR + 1)).mono HBQ.out), (fun _ => ⟨rfl, rfl⟩)⟩⟩, HBZ.out⟩
      · replace HV := Lib.hid (show ansF S apex qn qt qc = ⟨5, 0, [], [⟨⟨rn, rt, rk⟩, ru, rd⟩], []⟩ from HV.out)
        go_upto_region 15 with (fail)
        obtain ⟨y0, y1, y2, y3, y4, _⟩ := HrB.out.u5
        have HS1 := Lib.hid (SetsUp.one (w := w15) (sn := rn) (st := rt) (sk := rk) (su := ru) HrM.out HrR.out HR4.out.1)
        iterate 7 go_step
        have hba := (Below.refl _ _ : Below w15.heap.size w15 w15).alloc (Nat.le_refl _) (.cells #[.string rn, .int .i64 rt, .int .i64 rk, .int .i64 ru, .slice ra rm rc] 38)
        replace HQ := Lib.hid (HQ.out.below hba)
        replace HR4 := Lib.hid (HR4.out.below hba)
        replace HB := Lib.hid (HB.out.trans (hba.mono HB.out.size))
        replace HZN := Lib.hid (HZN.out.below hba)
        replace HK := Lib.hid (HK.out.below hba)
        replace HbR := Lib.hid (own_below' HbR.out hba)
        replace HbB := Lib.hid (HbB.out.below hba)
        replace HyR := Lib.hid (own_below' HyR.out hba)
        replace HyB := Lib.hid (HyB.out.below hba)
        replace HcR := Lib.hid (own_below' HcR.out hba)
        replace HcB := Lib.hid (HcB.out.below hba)
        replace HrR := Lib.hid (own_below' HrR.out hba)
        replace HrB := Lib.hid (HrB.out.below hba)
        clear hba
        obtain ⟨wA, hwA⟩ : ∃ x, w15.alloc (.cells #[.string rn, .int .i64 rt, .int .i64 rk, .int .i64 ru, .slice ra rm rc] 38) = x := ⟨_, rfl⟩
        obtain ⟨gA, hgA⟩ : ∃ x, w15.heap.size = x := ⟨_, rfl⟩
        rw [hwA] at HQ HR4 HB HZN HK HbR HbB HyR HyB HcR HcB HrR HrB HS1 ⊢
        rw [hgA] at HS1 ⊢
        clear hwA hgA y0 y1 y2 y3 y4
        obtain ⟨g0, g1, g2, g3, g4, f0, f1, f2, f3, f4⟩ := HR4.out.u5
        have KZ := Lib.hid (HR4.out.s5 (.int .i64 5) (.int .i64 0) (.slice none 0 0) (.slice (some ⟨gA, 0, none⟩) 1 1) (.slice none 0 0))
        have HGZ := Lib.hid (grown_s5 wA qR (.int .i64 5) (.int .i64 0) (.slice none 0 0) (.slice (some ⟨gA, 0, none⟩) 1 1) (.slice none 0 0))
        have HBZ := Lib.hid (HB.out.grown HGZ.out HB.out.size (fun k hk => by injection hk with hk; rw [← hk]; exact HQ4.out))
        have HS1Z := Lib.hid (HS1.out.far HGZ.out (Nat.lt_succ_self _))
        repeat go_step
        obtain ⟨wz, hwz⟩ : ∃ x, (((((wA.setCell ⟨qR, 0, none⟩ (.int .i64 5)).setCell ⟨qR, 1, none⟩ (.int .i64 0)).setCell ⟨qR, 2, none⟩ (.slice none 0 0)).setCell ⟨qR, 3, none⟩ (.slice (some ⟨gA, 0, none⟩) 1 1)).setCell ⟨qR, 4, none⟩ (.slice none 0 0)) = x := ⟨_, rfl⟩
        rw [hwz] at KZ HBZ HS1Z ⊢
        clear hwz HGZ g0 g1 g2 g3 g4 f0 f1 f2 f3 f4
        obtain ⟨z0, z1, z2, z3, z4, _⟩ := KZ.out.u5
        refine bodyPost_ret (v := .agg #[.int .i64 5, .int .i64 0, .slice none 0 0, .slice (some ⟨gA, 0, none⟩) 1 1, .slice none 0 0]) (by simp [results, Tryz.results33, go_sem, z0, z1, z2, z3, z4]) rfl ⟨⟨_, rfl, by rw [HV.out]; exact ⟨_, _, _, _, _, _, _, _, _, rfl, ((SetsUp.nil _ (qR + 1)).mono HBQ.out), (fun _ => ⟨rfl, rfl⟩), ((HS1Z.out).mono HBQ.out), (fun h => by cases h), ((SetsUp.nil _ (qR + 1)).mono HBQ.out), (fun _ => ⟨rfl, rfl⟩)⟩⟩, HBZ.out⟩
  have f5 : (qt != 5) = false := by simpa using hfin
  clear hfin
  go_upto_region 10 with (fail)
  clear f5 p0 p1 p2
  obtain ⟨k0, k1, k2, _⟩ := HK.out.v3
  go_wp2_with fail
  refine (zget_any z apex S qn qt 1 w9 HZN.out HRI.out HSZ.out HN.out).mono ?_; rintro e w10 ⟨hf, hb⟩
  obtain ⟨cx, ca, cc, hcs, rfl, hcr⟩ := found_getD hf
  replace hcr := own_mono4 (base' := qR + 1) hcr HR4.out.1
  clear k0 k1 k2
  replace HQ := Lib.hid (HQ.out.below hb)
  replace HR4 := Lib.hid (HR4.out.below hb)
  replace HB := Lib.hid (HB.out.trans (hb.mono HB.out.size))
  replace HZN := Lib.hid (HZN.out.below hb)
  replace HK := Lib.hid (HK.out.below hb)
  replace HbR := Lib.hid (own_below' HbR.out hb)
  replace HbB := Lib.hid (HbB.out.below hb)
  replace HyR := Lib.hid (own_below' HyR.out hb)
  replace HyB := Lib.hid (HyB.out.below hb)
  clear hb hf
  have HcS := Lib.hid hcs
  clear hcs
  obtain ⟨⟨cn, ct, ck⟩, cu, cd⟩ := cx
  replace hcr : World.ownsRow w10 (qR + 1) 9 1 (.slice ca cd.length cc) cd.length (sc cd) := hcr
  dsimp only
  obtain ⟨cm, hcm⟩ : ∃ x, cd.length = x := ⟨_, rfl⟩
  rw [hcm] at hcr ⊢
  have HcM := Lib.hid hcm
  have HcR := Lib.hid hcr
  clear hcm hcr
  have hba := (Below.refl _ _ : Below w10.heap.size w10 w10).alloc (Nat.le_refl _) (.cells #[.string cn, .int .i64 ct, .int .i64 ck, .int .i64 cu, .slice ca cm cc] 38)
  have HcB := Lib.hid (CN.new w10 #[.string cn, .int .i64 ct, .int .i64 ck, .int .i64 cu, .slice ca cm cc] 38)
  replace HQ := Lib.hid (HQ.out.below hba)
  replace HR4 := Lib.hid (HR4.out.below hba)
  replace HB := Lib.hid (HB.out.trans (hba.mono HB.out.size))
  replace HZN := Lib.hid (HZN.out.below hba)
  replace HK := Lib.hid (HK.out.below hba)
  replace HbR := Lib.hid (own_below' HbR.out hba)
  replace HbB := Lib.hid (HbB.out.below hba)
  replace HyR := Lib.hid (own_below' HyR.out hba)
  replace HyB := Lib.hid (HyB.out.below hba)
  replace HcR := Lib.hid (own_below' HcR.out hba)
  obtain ⟨w11, hw⟩ : ∃ x, w10.alloc (.cells #[.string cn, .int .i64 ct, .int .i64 ck, .int .i64 cu, .slice ca cm cc] 38) = x := ⟨_, rfl⟩
  obtain ⟨q11, hq⟩ : ∃ x, w10.heap.size = x := ⟨_, rfl⟩
  rw [hw, hq] at HcB
  rw [hw] at HQ HR4 HB HZN HK HbR HbB HyR HyB HcR
  have HW := Lib.hid hw
  have HQ_ := Lib.hid hq
  clear hba hw hq
  go_upto_region 11 with (fail)
  rw [HW.out, HQ_.out]
  clear HW HQ_
  cases hfk : findK S ⟨qn, qt, 1⟩ with
  | some s =>
    rw [hfk] at HcS
    obtain rfl : s = ⟨⟨cn, ct, ck⟩, cu, cd⟩ := HcS.out
    have HGD := Lib.hid (show ∀ s ∈ [(⟨⟨cn, ct, ck⟩, cu, cd⟩ : SetP)], ∀ d ∈ s.data, d.size ≤ 1000000 from fun s hs => by obtain rfl := List.mem_singleton.1 hs; exact HZD.out _ (find_mem hfk))
    have HGS := Lib.hid (show sumD [(⟨⟨cn, ct, ck⟩, cu, cd⟩ : SetP)] ≤ 100000 by have h := (HSZ.out.2 _ (find_mem hfk)).2; simpa [sumD] using h)
    replace HV := Lib.hid (HV.out.trans (show ansK S apex qn qt = ⟨1, 0, [⟨⟨cn, ct, ck⟩, cu, cd⟩], [], glueL S [⟨⟨cn, ct, ck⟩, cu, cd⟩]⟩ by rw [ansK, hfk]))
    clear hfk
    simp only [Option.isSome_some]
    go_upto_region 12 with (fail)
    have hbd := (Below.refl w11.heap.size w11).drew
    have HCD := Lib.hid (HcB.out.below hbd)
    replace HR4 := Lib.hid (HR4.out.below hbd)
    replace HZN := Lib.hid (HZN.out.below hbd)
    replace HcR := Lib.hid (own_below' HcR.out hbd)
    replace HB := Lib.hid (HB.out.trans (hbd.mono HB.out.size))
    obtain ⟨wdd, hwd⟩ : ∃ x, w11.drew = x := ⟨_, rfl⟩
    have HBD := Lib.hid (show Below w11.heap.size w11 wdd by rw [← hwd]; exact hbd)
    rw [hwd] at HCD HR4 HZN HcR HB
    clear hbd
    refine wp_region_last_drew (S := (fun wx => Hid (Below w11.heap.size w11 wx) ∧ wx.cell? ⟨q11, 0, none⟩ = some (.string cn) ∧ wx.cell? ⟨q11, 1, none⟩ = some (.int .i64 ct) ∧ wx.cell? ⟨q11, 2, none⟩ = some (.int .i64 ck) ∧ wx.cell? ⟨q11, 3, none⟩ = some (.int .i64 cu) ∧ wx.cell? ⟨q11, 4, none⟩ = some (.slice ca cm cc))) (L := 7) (by kernel_rfl) (by rw [hwd]; exact ⟨HBD, (HCD.out.2 0 _ rfl).1, (HCD.out.2 1 _ rfl).1, (HCD.out.2 2 _ rfl).1, (HCD.out.2 3 _ rfl).1, (HCD.out.2 4 _ rfl).1⟩) (fun hHeld => ?_)
    rw [hwd] at hHeld ⊢
    clear hwd
    refine wpAnyL_take (i := 0) (oi := { dst := some 93, op := Go.Op.load 38 (Go.Operand.tmp 10), type := 38, pos := "auth.go:49", after := #[], guard := none }) (v := ?v0_501) rfl (by kernel_rfl) (by kernel_rfl) (by kernel_rfl) (by kernel_rfl) (by kernel_rfl) (fun _ _ _ h => h) (Or.inl ⟨by rfl, ?y0_501⟩) hHeld ?r0_501
    case y0_501 => intro w hSw; (try dsimp only at hSw); go_simp; try with_reducible rfl
    try simp only [Act.put, List.setIfInBounds_toArray, List.set_cons_zero, List.set_cons_succ]
    refine wpAnyL_take (i := 2) (oi := { dst := some 95, op := Go.Op.move (Go.Operand.tmp 0), type := 28, pos := "auth.go:49", after := #[], guard := none }) (v := ?v2_501) rfl (by kernel_rfl) (by kernel_rfl) (by kernel_rfl) (by kernel_rfl) (by kernel_rfl) (fun _ _ _ h => h) (Or.inl ⟨by rfl, ?y2_501⟩) hHeld ?r2_501
    case y2_501 => intro w hSw; (try dsimp only at hSw); go_simp; try with_reducible rfl
    try simp only [Act.put, List.setIfInBounds_toArray, List.set_cons_zero, List.set_cons_succ]
    refine wpAnyL_take (i := 3) (oi := { dst := some 96, op := Go.Op.load 38 (Go.Operand.tmp 10), type := 38, pos := "auth.go:49", after := #[], guard := none }) (v := ?v3_501) rfl (by kernel_rfl) (by kernel_rfl) (by kernel_rfl) (by kernel_rfl) (by kernel_rfl) (fun _ _ _ h => h) (Or.inl ⟨by rfl, ?y3_501⟩) hHeld ?r3_501
    case y3_501 => intro w hSw; (try dsimp only at hSw); go_simp; try with_reducible rfl
    try simp only [Act.put, List.setIfInBounds_toArray, List.set_cons_zero, List.set_cons_succ]
    refine wpAnyL_ready (rs := [1, 4]) (by kernel_rfl) (by simp) ?_
    refine AllReadyL.cons (o := { dst := some 94, op := Go.Op.buildSlice 61 1 #[(0, Go.Operand.tmp 93)], type := 61, pos := "auth.go:49", after := #[{ on := 0, ground := Go.Ground.data }], guard := none }) rfl (by decide) (fun K hK => ?_) (AllReadyL.cons (o := { dst := some 97, op := Go.Op.buildSlice 61 1 #[(0, Go.Operand.tmp 96)], type := 61, pos := "auth.go:49", after := #[{ on := 3, ground := Go.Ground.data }], guard := none }) rfl (by decide) (fun K hK => ?_) AllReadyL.nil)
    · go_simp
      have hs := SetsUp.one (w := wdd) (sn := cn) (st := ct) (sk := ck) (su := cu) HcM.out HcR.out HR4.out.1
      have hb := (Below.refl _ _ : Below wdd.heap.size wdd wdd).alloc (Nat.le_refl _) (.cells #[.string cn, .int .i64 ct, .int .i64 ck, .int .i64 cu, .slice ca cm cc] 38)
      obtain ⟨wx1, hwe⟩ : ∃ x, wdd.alloc (.cells #[.string cn, .int .i64 ct, .int .i64 ck, .int .i64 cu, .slice ca cm cc] 38) = x := ⟨_, rfl⟩
      rw [hwe] at hs hb ⊢
      replace HR4 := Lib.hid (HR4.out.below hb)
      replace HZN := Lib.hid (HZN.out.below hb)
      replace HcR := Lib.hid (own_below' HcR.out hb)
      replace HB := Lib.hid (HB.out.trans (hb.mono HB.out.size))
      obtain ⟨g1, hge⟩ : ∃ x, wdd.heap.size = x := ⟨_, rfl⟩
      rw [hge] at hs ⊢
      have HS1 := Lib.hid hs
      clear hs hwe hge
      refine hK.out _ _ (⟨Lib.hid (hHeld.1.out.trans (hb.mono hHeld.1.out.size)), cell_later4 hb hHeld.2.1, cell_later4 hb hHeld.2.2.1, cell_later4 hb hHeld.2.2.2.1, cell_later4 hb hHeld.2.2.2.2.1, cell_later4 hb hHeld.2.2.2.2.2⟩) (fun hHeld2 => ?_)
      clear hK K hHeld
      have hHeld := hHeld2
      clear hHeld2
      try simp only [Act.put, List.setIfInBounds_toArray, List.set_cons_zero, List.set_cons_succ]
      refine wpAnyL_ready (rs := [4]) (by kernel_rfl) (by simp) ?_
      refine AllReadyL.cons (o := { dst := some 97, op := Go.Op.buildSlice 61 1 #[(0, Go.Operand.tmp 96)], type := 61, pos := "auth.go:49", after := #[{ on := 3, ground := Go.Ground.data }], guard := none }) rfl (by decide) (fun K hK => ?_) AllReadyL.nil
      go_simp
      have hs := SetsUp.one (w := wx1) (sn := cn) (st := ct) (sk := ck) (su := cu) HcM.out HcR.out HR4.out.1
      have hb := (Below.refl _ _ : Below wx1.heap.size wx1 wx1).alloc (Nat.le_refl _) (.cells #[.string cn, .int .i64 ct, .int .i64 ck, .int .i64 cu, .slice ca cm cc] 38)
      obtain ⟨wx2, hwe⟩ : ∃ x, wx1.alloc (.cells #[.string cn, .int .i64 ct, .int .i64 ck, .int .i64 cu, .slice ca cm cc] 38) = x := ⟨_, rfl⟩
      rw [hwe] at hs hb ⊢
      replace HR4 := Lib.hid (HR4.out.below hb)
      replace HZN := Lib.hid (HZN.out.below hb)
      replace HcR := Lib.hid (own_below' HcR.out hb)
      replace HB := Lib.hid (HB.out.trans (hb.mono HB.out.size))
      replace HS1 := Lib.hid (HS1.out.below hb)
      obtain ⟨g4, hge⟩ : ∃ x, wx1.heap.size = x := ⟨_, rfl⟩
      rw [hge] at hs ⊢
      have HS4 := Lib.hid hs
      clear hs hwe hge
      refine hK.out _ _ (⟨Lib.hid (hHeld.1.out.trans (hb.mono hHeld.1.out.size)), cell_later4 hb hHeld.2.1, cell_later4 hb hHeld.2.2.1, cell_later4 hb hHeld.2.2.2.1, cell_later4 hb hHeld.2.2.2.2.1, cell_later4 hb hHeld.2.2.2.2.2⟩) (fun hHeld2 => ?_)
      clear hK K hHeld
      have hHeld := hHeld2
      clear hHeld2
      try simp only [Act.put, List.setIfInBounds_toArray, List.set_cons_zero, List.set_cons_succ]
      refine wpAnyL_ready (rs := [5]) (by kernel_rfl) (by simp) ?_
      refine AllReadyL.cons (o := { dst := some 98, op := Go.Op.call { callee := Go.Callee.value (Go.Operand.func 78), args := #[Go.Operand.tmp 95, Go.Operand.tmp 97], argTypes := #[28, 61] }, type := 61, pos := "auth.go:49", after := #[{ on := 2, ground := Go.Ground.data }, { on := 4, ground := Go.Ground.data }], guard := none }) rfl (by decide) (fun K hK => ?_) AllReadyL.nil
      go_simp
      refine (glue_any z apex S (some ⟨g4, 0, none⟩) 1 1 [⟨⟨cn, ct, ck⟩, cu, cd⟩] wx2 HZN.out HRI.out HSZ.out HS4.out.at (by decide) HGD.out HGS.out).mono ?_; rintro e wx3 ⟨v, G, T, m, rfl, htg, hgm, hgl, hgn, hos, hb⟩
      obtain ⟨ga, gc, rfl, hsg, hgnil⟩ := SetsUp.own hos
      rw [hgm, ← tgF_eq htg] at hsg
      rw [hgl] at hsg hgnil ⊢
      have HGN := Lib.hid hgnil
      have HSG := Lib.hid (show SetsUp wx3 (qR + 1) ga m (glueL S [⟨⟨cn, ct, ck⟩, cu, cd⟩]) from hsg.mono HR4.out.1)
      replace HR4 := Lib.hid (HR4.out.below hb)
      replace HZN := Lib.hid (HZN.out.below hb)
      replace HcR := Lib.hid (own_below' HcR.out hb)
      replace HB := Lib.hid (HB.out.trans (hb.mono HB.out.size))
      replace HS1 := Lib.hid (HS1.out.below hb)
      replace HS4 := Lib.hid (HS4.out.below hb)
      clear hos hsg hgnil hgm hgl hgn htg
      go_wp2_with fail
      refine hK.out _ _ (⟨Lib.hid (hHeld.1.out.trans (hb.mono hHeld.1.out.size)), cell_later4 hb hHeld.2.1, cell_later4 hb hHeld.2.2.1, cell_later4 hb hHeld.2.2.2.1, cell_later4 hb hHeld.2.2.2.2.1, cell_later4 hb hHeld.2.2.2.2.2⟩) (fun hHeld2 => ?_)
      clear hK K hHeld
      have hHeld := hHeld2
      clear hHeld2
      try simp only [Act.put, List.setIfInBounds_toArray, List.set_cons_zero, List.set_cons_succ]
      refine wpAnyL_take (i := 6) (oi := { dst := some 99, op := Go.Op.build 71 #[(0, Go.Operand.const (Go.Value.int Go.IntKind.i64 1)), (2, Go.Operand.tmp 94), (4, Go.Operand.tmp 98)], type := 71, pos := "auth.go:49", after := #[{ on := 1, ground := Go.Ground.data }, { on := 5, ground := Go.Ground.data }], guard := none }) (v := ?v6_504) rfl (by kernel_rfl) (by kernel_rfl) (by kernel_rfl) (by kernel_rfl) (by kernel_rfl) (fun _ _ _ h => h) (Or.inl ⟨by rfl, ?y6_504⟩) hHeld ?r6_504
      case y6_504 => intro w hSw; (try dsimp only at hSw); go_simp; try with_reducible rfl
      try simp only [Act.put, List.setIfInBounds_toArray, List.set_cons_zero, List.set_cons_succ]
      refine wpAnyL_ready (rs := [7]) (by kernel_rfl) (by simp) ?_
      refine AllReadyL.last (o := { dst := none, op := Go.Op.store 71 (Go.Operand.tmp 4) (Go.Operand.tmp 99), type := 0, pos := "auth.go:49", after := #[{ on := 6, ground := Go.Ground.data }, { on := 5, ground := Go.Ground.chain }, { on := 0, ground := Go.Ground.phase }, { on := 1, ground := Go.Ground.phase }, { on := 2, ground := Go.Ground.phase }, { on := 3, ground := Go.Ground.phase }, { on := 4, ground := Go.Ground.phase }, { on := 5, ground := Go.Ground.phase }, { on := 6, ground := Go.Ground.phase }], guard := none }) rfl (by decide) (fun K hK => ?_) AllReadyL.nil
      have KZ := Lib.hid (HR4.out.s5 (.int .i64 1) (.int .i64 0) (.slice (some ⟨g1, 0, none⟩) 1 1) (.slice none 0 0) (.slice ga m gc))
      have HGZ := Lib.hid (grown_s5 wx3 qR (.int .i64 1) (.int .i64 0) (.slice (some ⟨g1, 0, none⟩) 1 1) (.slice none 0 0) (.slice ga m gc))
      have HBZ := Lib.hid (HB.out.grown HGZ.out HB.out.size (fun k hk => by injection hk with hk; rw [← hk]; exact HQ4.out))
      have HS1Z := Lib.hid (HS1.out.far HGZ.out (Nat.lt_succ_self _))
      have HSGZ := Lib.hid (HSG.out.far HGZ.out (Nat.lt_succ_self _))
      obtain ⟨y0, y1, y2, y3, y4, f0, f1, f2, f3, f4⟩ := HR4.out.u5
      go_wp2_with fail
      refine hK.out _ _ trivial (fun _ => ?_)
      clear hK K
      try simp only [Act.put, List.setIfInBounds_toArray, List.set_cons_zero, List.set_cons_succ]
      refine wpAnyL_done (by kernel_rfl) ?_ _
      repeat go_step
      obtain ⟨wz, hwz⟩ : ∃ x, (((((wx3.setCell ⟨qR, 0, none⟩ (.int .i64 1)).setCell ⟨qR, 1, none⟩ (.int .i64 0)).setCell ⟨qR, 2, none⟩ (.slice (some ⟨g1, 0, none⟩) 1 1)).setCell ⟨qR, 3, none⟩ (.slice none 0 0)).setCell ⟨qR, 4, none⟩ (.slice ga m gc)) = x := ⟨_, rfl⟩
      rw [hwz] at KZ HBZ HS1Z HSGZ ⊢
      clear hwz HGZ y0 y1 y2 y3 y4 f0 f1 f2 f3 f4
      obtain ⟨z0, z1, z2, z3, z4, _⟩ := KZ.out.u5
      refine bodyPost_ret (v := .agg #[.int .i64 1, .int .i64 0, .slice (some ⟨g1, 0, none⟩) 1 1, .slice none 0 0, .slice ga m gc]) (by simp [results, Tryz.results33, go_sem, z0, z1, z2, z3, z4]) rfl ⟨⟨_, rfl, by rw [HV.out]; exact ⟨_, _, _, _, _, _, _, _, _, rfl, ((HS1Z.out).mono HBQ.out), (fun h => by cases h), ((SetsUp.nil _ (qR + 1)).mono HBQ.out), (fun _ => ⟨rfl, rfl⟩), ((HSGZ.out).mono HBQ.out), HGN.out⟩⟩, HBZ.out⟩
    · go_simp
      have hs := SetsUp.one (w := wdd) (sn := cn) (st := ct) (sk := ck) (su := cu) HcM.out HcR.out HR4.out.1
      have hb := (Below.refl _ _ : Below wdd.heap.size wdd wdd).alloc (Nat.le_refl _) (.cells #[.string cn, .int .i64 ct, .int .i64 ck, .int .i64 cu, .slice ca cm cc] 38)
      obtain ⟨wx1, hwe⟩ : ∃ x, wdd.alloc (.cells #[.string cn, .int .i64 ct, .int .i64 ck, .int .i64 cu, .slice ca cm cc] 38) = x := ⟨_, rfl⟩
      rw [hwe] at hs hb ⊢
      replace HR4 := Lib.hid (HR4.out.below hb)
      replace HZN := Lib.hid (HZN.out.below hb)
      replace HcR := Lib.hid (own_below' HcR.out hb)
      replace HB := Lib.hid (HB.out.trans (hb.mono HB.out.size))
      obtain ⟨g4, hge⟩ : ∃ x, wdd.heap.size = x := ⟨_, rfl⟩
      rw [hge] at hs ⊢
      have HS4 := Lib.hid hs
      clear hs hwe hge
      refine hK.out _ _ (⟨Lib.hid (hHeld.1.out.trans (hb.mono hHeld.1.out.size)), cell_later4 hb hHeld.2.1, cell_later4 hb hHeld.2.2.1, cell_later4 hb hHeld.2.2.2.1, cell_later4 hb hHeld.2.2.2.2.1, cell_later4 hb hHeld.2.2.2.2.2⟩) (fun hHeld2 => ?_)
      clear hK K hHeld
      have hHeld := hHeld2
      clear hHeld2
      try simp only [Act.put, List.setIfInBounds_toArray, List.set_cons_zero, List.set_cons_succ]
      refine wpAnyL_ready (rs := [1, 5]) (by kernel_rfl) (by simp) ?_
      refine AllReadyL.cons (o := { dst := some 94, op := Go.Op.buildSlice 61 1 #[(0, Go.Operand.tmp 93)], type := 61, pos := "auth.go:49", after := #[{ on := 0, ground := Go.Ground.data }], guard := none }) rfl (by decide) (fun K hK => ?_) (AllReadyL.cons (o := { dst := some 98, op := Go.Op.call { callee := Go.Callee.value (Go.Operand.func 78), args := #[Go.Operand.tmp 95, Go.Operand.tmp 97], argTypes := #[28, 61] }, type := 61, pos := "auth.go:49", after := #[{ on := 2, ground := Go.Ground.data }, { on := 4, ground := Go.Ground.data }], guard := none }) rfl (by decide) (fun K hK => ?_) AllReadyL.nil)
      · go_simp
        have hs := SetsUp.one (w := wx1) (sn := cn) (st := ct) (sk := ck) (su := cu) HcM.out HcR.out HR4.out.1
        have hb := (Below.refl _ _ : Below wx1.heap.size wx1 wx1).alloc (Nat.le_refl _) (.cells #[.string cn, .int .i64 ct, .int .i64 ck, .int .i64 cu, .slice ca cm cc] 38)
        obtain ⟨wx2, hwe⟩ : ∃ x, wx1.alloc (.cells #[.string cn, .int .i64 ct, .int .i64 ck, .int .i64 cu, .slice ca cm cc] 38) = x := ⟨_, rfl⟩
        rw [hwe] at hs hb ⊢
        replace HR4 := Lib.hid (HR4.out.below hb)
        replace HZN := Lib.hid (HZN.out.below hb)
        replace HcR := Lib.hid (own_below' HcR.out hb)
        replace HB := Lib.hid (HB.out.trans (hb.mono HB.out.size))
        replace HS4 := Lib.hid (HS4.out.below hb)
        obtain ⟨g1, hge⟩ : ∃ x, wx1.heap.size = x := ⟨_, rfl⟩
        rw [hge] at hs ⊢
        have HS1 := Lib.hid hs
        clear hs hwe hge
        refine hK.out _ _ (⟨Lib.hid (hHeld.1.out.trans (hb.mono hHeld.1.out.size)), cell_later4 hb hHeld.2.1, cell_later4 hb hHeld.2.2.1, cell_later4 hb hHeld.2.2.2.1, cell_later4 hb hHeld.2.2.2.2.1, cell_later4 hb hHeld.2.2.2.2.2⟩) (fun hHeld2 => ?_)
        clear hK K hHeld
        have hHeld := hHeld2
        clear hHeld2
        try simp only [Act.put, List.setIfInBounds_toArray, List.set_cons_zero, List.set_cons_succ]
        refine wpAnyL_ready (rs := [5]) (by kernel_rfl) (by simp) ?_
        refine AllReadyL.cons (o := { dst := some 98, op := Go.Op.call { callee := Go.Callee.value (Go.Operand.func 78), args := #[Go.Operand.tmp 95, Go.Operand.tmp 97], argTypes := #[28, 61] }, type := 61, pos := "auth.go:49", after := #[{ on := 2, ground := Go.Ground.data }, { on := 4, ground := Go.Ground.data }], guard := none }) rfl (by decide) (fun K hK => ?_) AllReadyL.nil
        go_simp
        refine (glue_any z apex S (some ⟨g4, 0, none⟩) 1 1 [⟨⟨cn, ct, ck⟩, cu, cd⟩] wx2 HZN.out HRI.out HSZ.out HS4.out.at (by decide) HGD.out HGS.out).mono ?_; rintro e wx3 ⟨v, G, T, m, rfl, htg, hgm, hgl, hgn, hos, hb⟩
        obtain ⟨ga, gc, rfl, hsg, hgnil⟩ := SetsUp.own hos
        rw [hgm, ← tgF_eq htg] at hsg
        rw [hgl] at hsg hgnil ⊢
        have HGN := Lib.hid hgnil
        have HSG := Lib.hid (show SetsUp wx3 (qR + 1) ga m (glueL S [⟨⟨cn, ct, ck⟩, cu, cd⟩]) from hsg.mono HR4.out.1)
        replace HR4 := Lib.hid (HR4.out.below hb)
        replace HZN := Lib.hid (HZN.out.below hb)
        replace HcR := Lib.hid (own_below' HcR.out hb)
        replace HB := Lib.hid (HB.out.trans (hb.mono HB.out.size))
        replace HS1 := Lib.hid (HS1.out.below hb)
        replace HS4 := Lib.hid (HS4.out.below hb)
        clear hos hsg hgnil hgm hgl hgn htg
        go_wp2_with fail
        refine hK.out _ _ (⟨Lib.hid (hHeld.1.out.trans (hb.mono hHeld.1.out.size)), cell_later4 hb hHeld.2.1, cell_later4 hb hHeld.2.2.1, cell_later4 hb hHeld.2.2.2.1, cell_later4 hb hHeld.2.2.2.2.1, cell_later4 hb hHeld.2.2.2.2.2⟩) (fun hHeld2 => ?_)
        clear hK K hHeld
        have hHeld := hHeld2
        clear hHeld2
        try simp only [Act.put, List.setIfInBounds_toArray, List.set_cons_zero, List.set_cons_succ]
        refine wpAnyL_take (i := 6) (oi := { dst := some 99, op := Go.Op.build 71 #[(0, Go.Operand.const (Go.Value.int Go.IntKind.i64 1)), (2, Go.Operand.tmp 94), (4, Go.Operand.tmp 98)], type := 71, pos := "auth.go:49", after := #[{ on := 1, ground := Go.Ground.data }, { on := 5, ground := Go.Ground.data }], guard := none }) (v := ?v6_508) rfl (by kernel_rfl) (by kernel_rfl) (by kernel_rfl) (by kernel_rfl) (by kernel_rfl) (fun _ _ _ h => h) (Or.inl ⟨by rfl, ?y6_508⟩) hHeld ?r6_508
        case y6_508 => intro w hSw; (try dsimp only at hSw); go_simp; try with_reducible rfl
        try simp only [Act.put, List.setIfInBounds_toArray, List.set_cons_zero, List.set_cons_succ]
        refine wpAnyL_ready (rs := [7]) (by kernel_rfl) (by simp) ?_
        refine AllReadyL.last (o := { dst := none, op := Go.Op.store 71 (Go.Operand.tmp 4) (Go.Operand.tmp 99), type := 0, pos := "auth.go:49", after := #[{ on := 6, ground := Go.Ground.data }, { on := 5, ground := Go.Ground.chain }, { on := 0, ground := Go.Ground.phase }, { on := 1, ground := Go.Ground.phase }, { on := 2, ground := Go.Ground.phase }, { on := 3, ground := Go.Ground.phase }, { on := 4, ground := Go.Ground.phase }, { on := 5, ground := Go.Ground.phase }, { on := 6, ground := Go.Ground.phase }], guard := none }) rfl (by decide) (fun K hK => ?_) AllReadyL.nil
        have KZ := Lib.hid (HR4.out.s5 (.int .i64 1) (.int .i64 0) (.slice (some ⟨g1, 0, none⟩) 1 1) (.slice none 0 0) (.slice ga m gc))
        have HGZ := Lib.hid (grown_s5 wx3 qR (.int .i64 1) (.int .i64 0) (.slice (some ⟨g1, 0, none⟩) 1 1) (.slice none 0 0) (.slice ga m gc))
        have HBZ := Lib.hid (HB.out.grown HGZ.out HB.out.size (fun k hk => by injection hk with hk; rw [← hk]; exact HQ4.out))
        have HS1Z := Lib.hid (HS1.out.far HGZ.out (Nat.lt_succ_self _))
        have HSGZ := Lib.hid (HSG.out.far HGZ.out (Nat.lt_succ_self _))
        obtain ⟨y0, y1, y2, y3, y4, f0, f1, f2, f3, f4⟩ := HR4.out.u5
        go_wp2_with fail
        refine hK.out _ _ trivial (fun _ => ?_)
        clear hK K
        try simp only [Act.put, List.setIfInBounds_toArray, List.set_cons_zero, List.set_cons_succ]
        refine wpAnyL_done (by kernel_rfl) ?_ _
        repeat go_step
        obtain ⟨wz, hwz⟩ : ∃ x, (((((wx3.setCell ⟨qR, 0, none⟩ (.int .i64 1)).setCell ⟨qR, 1, none⟩ (.int .i64 0)).setCell ⟨qR, 2, none⟩ (.slice (some ⟨g1, 0, none⟩) 1 1)).setCell ⟨qR, 3, none⟩ (.slice none 0 0)).setCell ⟨qR, 4, none⟩ (.slice ga m gc)) = x := ⟨_, rfl⟩
        rw [hwz] at KZ HBZ HS1Z HSGZ ⊢
        clear hwz HGZ y0 y1 y2 y3 y4 f0 f1 f2 f3 f4
        obtain ⟨z0, z1, z2, z3, z4, _⟩ := KZ.out.u5
        refine bodyPost_ret (v := .agg #[.int .i64 1, .int .i64 0, .slice (some ⟨g1, 0, none⟩) 1 1, .slice none 0 0, .slice ga m gc]) (by simp [results, Tryz.results33, go_sem, z0, z1, z2, z3, z4]) rfl ⟨⟨_, rfl, by rw [HV.out]; exact ⟨_, _, _, _, _, _, _, _, _, rfl, ((HS1Z.out).mono HBQ.out), (fun h => by cases h), ((SetsUp.nil _ (qR + 1)).mono HBQ.out), (fun _ => ⟨rfl, rfl⟩), ((HSGZ.out).mono HBQ.out), HGN.out⟩⟩, HBZ.out⟩
      · go_simp
        refine (glue_any z apex S (some ⟨g4, 0, none⟩) 1 1 [⟨⟨cn, ct, ck⟩, cu, cd⟩] wx1 HZN.out HRI.out HSZ.out HS4.out.at (by decide) HGD.out HGS.out).mono ?_; rintro e wx2 ⟨v, G, T, m, rfl, htg, hgm, hgl, hgn, hos, hb⟩
        obtain ⟨ga, gc, rfl, hsg, hgnil⟩ := SetsUp.own hos
        rw [hgm, ← tgF_eq htg] at hsg
        rw [hgl] at hsg hgnil ⊢
        have HGN := Lib.hid hgnil
        have HSG := Lib.hid (show SetsUp wx2 (qR + 1) ga m (glueL S [⟨⟨cn, ct, ck⟩, cu, cd⟩]) from hsg.mono HR4.out.1)
        replace HR4 := Lib.hid (HR4.out.below hb)
        replace HZN := Lib.hid (HZN.out.below hb)
        replace HcR := Lib.hid (own_below' HcR.out hb)
        replace HB := Lib.hid (HB.out.trans (hb.mono HB.out.size))
        replace HS4 := Lib.hid (HS4.out.below hb)
        clear hos hsg hgnil hgm hgl hgn htg
        go_wp2_with fail
        refine hK.out _ _ (⟨Lib.hid (hHeld.1.out.trans (hb.mono hHeld.1.out.size)), cell_later4 hb hHeld.2.1, cell_later4 hb hHeld.2.2.1, cell_later4 hb hHeld.2.2.2.1, cell_later4 hb hHeld.2.2.2.2.1, cell_later4 hb hHeld.2.2.2.2.2⟩) (fun hHeld2 => ?_)
        clear hK K hHeld
        have hHeld := hHeld2
        clear hHeld2
        try simp only [Act.put, List.setIfInBounds_toArray, List.set_cons_zero, List.set_cons_succ]
        refine wpAnyL_ready (rs := [1]) (by kernel_rfl) (by simp) ?_
        refine AllReadyL.cons (o := { dst := some 94, op := Go.Op.buildSlice 61 1 #[(0, Go.Operand.tmp 93)], type := 61, pos := "auth.go:49", after := #[{ on := 0, ground := Go.Ground.data }], guard := none }) rfl (by decide) (fun K hK => ?_) AllReadyL.nil
        go_simp
        have hs := SetsUp.one (w := wx2) (sn := cn) (st := ct) (sk := ck) (su := cu) HcM.out HcR.out HR4.out.1
        have hb := (Below.refl _ _ : Below wx2.heap.size wx2 wx2).alloc (Nat.le_refl _) (.cells #[.string cn, .int .i64 ct, .int .i64 ck, .int .i64 cu, .slice ca cm cc] 38)
        obtain ⟨wx3, hwe⟩ : ∃ x, wx2.alloc (.cells #[.string cn, .int .i64 ct, .int .i64 ck, .int .i64 cu, .slice ca cm cc] 38) = x := ⟨_, rfl⟩
        rw [hwe] at hs hb ⊢
        replace HR4 := Lib.hid (HR4.out.below hb)
        replace HZN := Lib.hid (HZN.out.below hb)
        replace HcR := Lib.hid (own_below' HcR.out hb)
        replace HB := Lib.hid (HB.out.trans (hb.mono HB.out.size))
        replace HS4 := Lib.hid (HS4.out.below hb)
        replace HSG := Lib.hid (HSG.out.below hb)
        obtain ⟨g1, hge⟩ : ∃ x, wx2.heap.size = x := ⟨_, rfl⟩
        rw [hge] at hs ⊢
        have HS1 := Lib.hid hs
        clear hs hwe hge
        refine hK.out _ _ (⟨Lib.hid (hHeld.1.out.trans (hb.mono hHeld.1.out.size)), cell_later4 hb hHeld.2.1, cell_later4 hb hHeld.2.2.1, cell_later4 hb hHeld.2.2.2.1, cell_later4 hb hHeld.2.2.2.2.1, cell_later4 hb hHeld.2.2.2.2.2⟩) (fun hHeld2 => ?_)
        clear hK K hHeld
        have hHeld := hHeld2
        clear hHeld2
        try simp only [Act.put, List.setIfInBounds_toArray, List.set_cons_zero, List.set_cons_succ]
        refine wpAnyL_take (i := 6) (oi := { dst := some 99, op := Go.Op.build 71 #[(0, Go.Operand.const (Go.Value.int Go.IntKind.i64 1)), (2, Go.Operand.tmp 94), (4, Go.Operand.tmp 98)], type := 71, pos := "auth.go:49", after := #[{ on := 1, ground := Go.Ground.data }, { on := 5, ground := Go.Ground.data }], guard := none }) (v := ?v6_511) rfl (by kernel_rfl) (by kernel_rfl) (by kernel_rfl) (by kernel_rfl) (by kernel_rfl) (fun _ _ _ h => h) (Or.inl ⟨by rfl, ?y6_511⟩) hHeld ?r6_511
        case y6_511 => intro w hSw; (try dsimp only at hSw); go_simp; try with_reducible rfl
        try simp only [Act.put, List.setIfInBounds_toArray, List.set_cons_zero, List.set_cons_succ]
        refine wpAnyL_ready (rs := [7]) (by kernel_rfl) (by simp) ?_
        refine AllReadyL.last (o := { dst := none, op := Go.Op.store 71 (Go.Operand.tmp 4) (Go.Operand.tmp 99), type := 0, pos := "auth.go:49", after := #[{ on := 6, ground := Go.Ground.data }, { on := 5, ground := Go.Ground.chain }, { on := 0, ground := Go.Ground.phase }, { on := 1, ground := Go.Ground.phase }, { on := 2, ground := Go.Ground.phase }, { on := 3, ground := Go.Ground.phase }, { on := 4, ground := Go.Ground.phase }, { on := 5, ground := Go.Ground.phase }, { on := 6, ground := Go.Ground.phase }], guard := none }) rfl (by decide) (fun K hK => ?_) AllReadyL.nil
        have KZ := Lib.hid (HR4.out.s5 (.int .i64 1) (.int .i64 0) (.slice (some ⟨g1, 0, none⟩) 1 1) (.slice none 0 0) (.slice ga m gc))
        have HGZ := Lib.hid (grown_s5 wx3 qR (.int .i64 1) (.int .i64 0) (.slice (some ⟨g1, 0, none⟩) 1 1) (.slice none 0 0) (.slice ga m gc))
        have HBZ := Lib.hid (HB.out.grown HGZ.out HB.out.size (fun k hk => by injection hk with hk; rw [← hk]; exact HQ4.out))
        have HS1Z := Lib.hid (HS1.out.far HGZ.out (Nat.lt_succ_self _))
        have HSGZ := Lib.hid (HSG.out.far HGZ.out (Nat.lt_succ_self _))
        obtain ⟨y0, y1, y2, y3, y4, f0, f1, f2, f3, f4⟩ := HR4.out.u5
        go_wp2_with fail
        refine hK.out _ _ trivial (fun _ => ?_)
        clear hK K
        try simp only [Act.put, List.setIfInBounds_toArray, List.set_cons_zero, List.set_cons_succ]
        refine wpAnyL_done (by kernel_rfl) ?_ _
        repeat go_step
        obtain ⟨wz, hwz⟩ : ∃ x, (((((wx3.setCell ⟨qR, 0, none⟩ (.int .i64 1)).setCell ⟨qR, 1, none⟩ (.int .i64 0)).setCell ⟨qR, 2, none⟩ (.slice (some ⟨g1, 0, none⟩) 1 1)).setCell ⟨qR, 3, none⟩ (.slice none 0 0)).setCell ⟨qR, 4, none⟩ (.slice ga m gc)) = x := ⟨_, rfl⟩
        rw [hwz] at KZ HBZ HS1Z HSGZ ⊢
        clear hwz HGZ y0 y1 y2 y3 y4 f0 f1 f2 f3 f4
        obtain ⟨z0, z1, z2, z3, z4, _⟩ := KZ.out.u5
        refine bodyPost_ret (v := .agg #[.int .i64 1, .int .i64 0, .slice (some ⟨g1, 0, none⟩) 1 1, .slice none 0 0, .slice ga m gc]) (by simp [results, Tryz.results33, go_sem, z0, z1, z2, z3, z4]) rfl ⟨⟨_, rfl, by rw [HV.out]; exact ⟨_, _, _, _, _, _, _, _, _, rfl, ((HS1Z.out).mono HBQ.out), (fun h => by cases h), ((SetsUp.nil _ (qR + 1)).mono HBQ.out), (fun _ => ⟨rfl, rfl⟩), ((HSGZ.out).mono HBQ.out), HGN.out⟩⟩, HBZ.out⟩
  | none =>
    replace HV := Lib.hid (HV.out.trans (show ansK S apex qn qt = (if thereP S qn = true then ⟨5, 0, [], soaL S apex, []⟩ else ⟨4, 3, [], soaL S apex, []⟩) by rw [ansK, hfk]))
    clear hfk HcS
    simp only [Option.isSome_none]
    go_wp2_with fail
    refine (zapex_any z apex S _ HZN.out).mono ?_; rintro e w99 ⟨rfl, rfl⟩
    go_wp2_with fail
    refine (akey_any apex 6 w11).mono ?_; rintro e w12 ⟨rfl, hb⟩
    replace HQ := Lib.hid (HQ.out.below hb)
    replace HR4 := Lib.hid (HR4.out.below hb)
    replace HB := Lib.hid (HB.out.trans (hb.mono HB.out.size))
    replace HZN := Lib.hid (HZN.out.below hb)
    replace HK := Lib.hid (HK.out.below hb)
    replace HbR := Lib.hid (own_below' HbR.out hb)
    replace HbB := Lib.hid (HbB.out.below hb)
    replace HyR := Lib.hid (own_below' HyR.out hb)
    replace HyB := Lib.hid (HyB.out.below hb)
    replace HcR := Lib.hid (own_below' HcR.out hb)
    replace HcB := Lib.hid (HcB.out.below hb)
    clear hb
    go_wp2_with fail
    refine (zget_any z apex S apex 6 1 w12 HZN.out HRI.out HSZ.out HA.out).mono ?_; rintro e w13 ⟨hf, hb⟩
    obtain ⟨rx, ra, rc, hrs, rfl, hrr⟩ := found_getD hf
    replace hrr := own_mono4 (base' := qR + 1) hrr HR4.out.1
    replace HQ := Lib.hid (HQ.out.below hb)
    replace HR4 := Lib.hid (HR4.out.below hb)
    replace HB := Lib.hid (HB.out.trans (hb.mono HB.out.size))
    replace HZN := Lib.hid (HZN.out.below hb)
    replace HK := Lib.hid (HK.out.below hb)
    replace HbR := Lib.hid (own_below' HbR.out hb)
    replace HbB := Lib.hid (HbB.out.below hb)
    replace HyR := Lib.hid (own_below' HyR.out hb)
    replace HyB := Lib.hid (HyB.out.below hb)
    replace HcR := Lib.hid (own_below' HcR.out hb)
    replace HcB := Lib.hid (HcB.out.below hb)
    clear hb hf
    have HrS := Lib.hid hrs
    clear hrs
    obtain ⟨⟨rn, rt, rk⟩, ru, rd⟩ := rx
    replace hrr : World.ownsRow w13 (qR + 1) 9 1 (.slice ra rd.length rc) rd.length (sc rd) := hrr
    dsimp only
    obtain ⟨rm, hrm⟩ : ∃ x, rd.length = x := ⟨_, rfl⟩
    rw [hrm] at hrr ⊢
    have HrM := Lib.hid hrm
    have HrR := Lib.hid hrr
    clear hrm hrr
    have hba := (Below.refl _ _ : Below w13.heap.size w13 w13).alloc (Nat.le_refl _) (.cells #[.string rn, .int .i64 rt, .int .i64 rk, .int .i64 ru, .slice ra rm rc] 38)
    have HrB := Lib.hid (CN.new w13 #[.string rn, .int .i64 rt, .int .i64 rk, .int .i64 ru, .slice ra rm rc] 38)
    replace HQ := Lib.hid (HQ.out.below hba)
    replace HR4 := Lib.hid (HR4.out.below hba)
    replace HB := Lib.hid (HB.out.trans (hba.mono HB.out.size))
    replace HZN := Lib.hid (HZN.out.below hba)
    replace HK := Lib.hid (HK.out.below hba)
    replace HbR := Lib.hid (own_below' HbR.out hba)
    replace HbB := Lib.hid (HbB.out.below hba)
    replace HyR := Lib.hid (own_below' HyR.out hba)
    replace HyB := Lib.hid (HyB.out.below hba)
    replace HcR := Lib.hid (own_below' HcR.out hba)
    replace HcB := Lib.hid (HcB.out.below hba)
    replace HrR := Lib.hid (own_below' HrR.out hba)
    obtain ⟨w14, hw⟩ : ∃ x, w13.alloc (.cells #[.string rn, .int .i64 rt, .int .i64 rk, .int .i64 ru, .slice ra rm rc] 38) = x := ⟨_, rfl⟩
    obtain ⟨q14, hq⟩ : ∃ x, w13.heap.size = x := ⟨_, rfl⟩
    rw [hw, hq] at HrB
    rw [hw] at HQ HR4 HB HZN HK HbR HbB HyR HyB HcR HcB HrR
    have HW := Lib.hid hw
    have HQ_ := Lib.hid hq
    clear hba hw hq
    go_upto_region 14 with (fail)
    rw [HW.out, HQ_.out]
    clear HW HQ_
    have HSO := Lib.hid (show soaL S apex = [⟨⟨rn, rt, rk⟩, ru, rd⟩] by rw [soaL, HrS.out])
    obtain ⟨p0, p1, p2, _⟩ := HQ.out.v3
    have HTH := Lib.hid (zthere_any z apex S qn w14 HZN.out HSZ.out HA.out HN.out)
    rw [HU.out, Bool.true_and] at HTH
    obtain ⟨tb, htb⟩ : ∃ x, thereP S qn = x := ⟨_, rfl⟩
    rw [htb, HSO.out] at HV
    rw [htb] at HTH
    clear htb
    go_wp2_with fail
    refine HTH.out.mono ?_; rintro e w15 ⟨rfl, hb⟩
    clear p0 p1 p2
    replace HQ := Lib.hid (HQ.out.below hb)
    replace HR4 := Lib.hid (HR4.out.below hb)
    replace HB := Lib.hid (HB.out.trans (hb.mono HB.out.size))
    replace HZN := Lib.hid (HZN.out.below hb)
    replace HK := Lib.hid (HK.out.below hb)
    replace HbR := Lib.hid (own_below' HbR.out hb)
    replace HbB := Lib.hid (HbB.out.below hb)
    replace HyR := Lib.hid (own_below' HyR.out hb)
    replace HyB := Lib.hid (HyB.out.below hb)
    replace HcR := Lib.hid (own_below' HcR.out hb)
    replace HcB := Lib.hid (HcB.out.below hb)
    replace HrR := Lib.hid (own_below' HrR.out hb)
    replace HrB := Lib.hid (HrB.out.below hb)
    clear hb HTH
    cases tb
    · replace HV := Lib.hid (show ansF S apex qn qt qc = ⟨4, 3, [], [⟨⟨rn, rt, rk⟩, ru, rd⟩], []⟩ from HV.out)
      go_upto_region 16 with (fail)
      obtain ⟨y0, y1, y2, y3, y4, _⟩ := HrB.out.u5
      have HS1 := Lib.hid (SetsUp.one (w := w15) (sn := rn) (st := rt) (sk := rk) (su := ru) HrM.out HrR.out HR4.out.1)
      iterate 7 go_step
      have hba := (Below.refl _ _ : Below w15.heap.size w15 w15).alloc (Nat.le_refl _) (.cells #[.string rn, .int .i64 rt, .int .i64 rk, .int .i64 ru, .slice ra rm rc] 38)
      replace HQ := Lib.hid (HQ.out.below hba)
      replace HR4 := Lib.hid (HR4.out.below hba)
      replace HB := Lib.hid (HB.out.trans (hba.mono HB.out.size))
      replace HZN := Lib.hid (HZN.out.below hba)
      replace HK := Lib.hid (HK.out.below hba)
      replace HbR := Lib.hid (own_below' HbR.out hba)
      replace HbB := Lib.hid (HbB.out.below hba)
      replace HyR := Lib.hid (own_below' HyR.out hba)
      replace HyB := Lib.hid (HyB.out.below hba)
      replace HcR := Lib.hid (own_below' HcR.out hba)
      replace HcB := Lib.hid (HcB.out.below hba)
      replace HrR := Lib.hid (own_below' HrR.out hba)
      replace HrB := Lib.hid (HrB.out.below hba)
      clear hba
      obtain ⟨wA, hwA⟩ : ∃ x, w15.alloc (.cells #[.string rn, .int .i64 rt, .int .i64 rk, .int .i64 ru, .slice ra rm rc] 38) = x := ⟨_, rfl⟩
      obtain ⟨gA, hgA⟩ : ∃ x, w15.heap.size = x := ⟨_, rfl⟩
      rw [hwA] at HQ HR4 HB HZN HK HbR HbB HyR HyB HcR HcB HrR HrB HS1 ⊢
      rw [hgA] at HS1 ⊢
      clear hwA hgA y0 y1 y2 y3 y4
      obtain ⟨g0, g1, g2, g3, g4, f0, f1, f2, f3, f4⟩ := HR4.out.u5
      have KZ := Lib.hid (HR4.out.s5 (.int .i64 4) (.int .i64 3) (.slice none 0 0) (.slice (some ⟨gA, 0, none⟩) 1 1) (.slice none 0 0))
      have HGZ := Lib.hid (grown_s5 wA qR (.int .i64 4) (.int .i64 3) (.slice none 0 0) (.slice (some ⟨gA, 0, none⟩) 1 1) (.slice none 0 0))
      have HBZ := Lib.hid (HB.out.grown HGZ.out HB.out.size (fun k hk => by injection hk with hk; rw [← hk]; exact HQ4.out))
      have HS1Z := Lib.hid (HS1.out.far HGZ.out (Nat.lt_succ_self _))
      repeat go_step
      obtain ⟨wz, hwz⟩ : ∃ x, (((((wA.setCell ⟨qR, 0, none⟩ (.int .i64 4)).setCell ⟨qR, 1, none⟩ (.int .i64 3)).setCell ⟨qR, 2, none⟩ (.slice none 0 0)).setCell ⟨qR, 3, none⟩ (.slice (some ⟨gA, 0, none⟩) 1 1)).setCell ⟨qR, 4, none⟩ (.slice none 0 0)) = x := ⟨_, rfl⟩
      rw [hwz] at KZ HBZ HS1Z ⊢
      clear hwz HGZ g0 g1 g2 g3 g4 f0 f1 f2 f3 f4
      obtain ⟨z0, z1, z2, z3, z4, _⟩ := KZ.out.u5
      refine bodyPost_ret (v := .agg #[.int .i64 4, .int .i64 3, .slice none 0 0, .slice (some ⟨gA, 0, none⟩) 1 1, .slice none 0 0]) (by simp [results, Tryz.results33, go_sem, z0, z1, z2, z3, z4]) rfl ⟨⟨_, rfl, by rw [HV.out]; exact ⟨_, _, _, _, _, _, _, _, _, rfl, ((SetsUp.nil _ (qR + 1)).mono HBQ.out), (fun _ => ⟨rfl, rfl⟩), ((HS1Z.out).mono HBQ.out), (fun h => by cases h), ((SetsUp.nil _ (qR + 1)).mono HBQ.out), (fun _ => ⟨rfl, rfl⟩)⟩⟩, HBZ.out⟩
    · replace HV := Lib.hid (show ansF S apex qn qt qc = ⟨5, 0, [], [⟨⟨rn, rt, rk⟩, ru, rd⟩], []⟩ from HV.out)
      go_upto_region 15 with (fail)
      obtain ⟨y0, y1, y2, y3, y4, _⟩ := HrB.out.u5
      have HS1 := Lib.hid (SetsUp.one (w := w15) (sn := rn) (st := rt) (sk := rk) (su := ru) HrM.out HrR.out HR4.out.1)
      iterate 7 go_step
      have hba := (Below.refl _ _ : Below w15.heap.size w15 w15).alloc (Nat.le_refl _) (.cells #[.string rn, .int .i64 rt, .int .i64 rk, .int .i64 ru, .slice ra rm rc] 38)
      replace HQ := Lib.hid (HQ.out.below hba)
      replace HR4 := Lib.hid (HR4.out.below hba)
      replace HB := Lib.hid (HB.out.trans (hba.mono HB.out.size))
      replace HZN := Lib.hid (HZN.out.below hba)
      replace HK := Lib.hid (HK.out.below hba)
      replace HbR := Lib.hid (own_below' HbR.out hba)
      replace HbB := Lib.hid (HbB.out.below hba)
      replace HyR := Lib.hid (own_below' HyR.out hba)
      replace HyB := Lib.hid (HyB.out.below hba)
      replace HcR := Lib.hid (own_below' HcR.out hba)
      replace HcB := Lib.hid (HcB.out.below hba)
      replace HrR := Lib.hid (own_below' HrR.out hba)
      replace HrB := Lib.hid (HrB.out.below hba)
      clear hba
      obtain ⟨wA, hwA⟩ : ∃ x, w15.alloc (.cells #[.string rn, .int .i64 rt, .int .i64 rk, .int .i64 ru, .slice ra rm rc] 38) = x := ⟨_, rfl⟩
      obtain ⟨gA, hgA⟩ : ∃ x, w15.heap.size = x := ⟨_, rfl⟩
      rw [hwA] at HQ HR4 HB HZN HK HbR HbB HyR HyB HcR HcB HrR HrB HS1 ⊢
      rw [hgA] at HS1 ⊢
      clear hwA hgA y0 y1 y2 y3 y4
      obtain ⟨g0, g1, g2, g3, g4, f0, f1, f2, f3, f4⟩ := HR4.out.u5
      have KZ := Lib.hid (HR4.out.s5 (.int .i64 5) (.int .i64 0) (.slice none 0 0) (.slice (some ⟨gA, 0, none⟩) 1 1) (.slice none 0 0))
      have HGZ := Lib.hid (grown_s5 wA qR (.int .i64 5) (.int .i64 0) (.slice none 0 0) (.slice (some ⟨gA, 0, none⟩) 1 1) (.slice none 0 0))
      have HBZ := Lib.hid (HB.out.grown HGZ.out HB.out.size (fun k hk => by injection hk with hk; rw [← hk]; exact HQ4.out))
      have HS1Z := Lib.hid (HS1.out.far HGZ.out (Nat.lt_succ_self _))
      repeat go_step
      obtain ⟨wz, hwz⟩ : ∃ x, (((((wA.setCell ⟨qR, 0, none⟩ (.int .i64 5)).setCell ⟨qR, 1, none⟩ (.int .i64 0)).setCell ⟨qR, 2, none⟩ (.slice none 0 0)).setCell ⟨qR, 3, none⟩ (.slice (some ⟨gA, 0, none⟩) 1 1)).setCell ⟨qR, 4, none⟩ (.slice none 0 0)) = x := ⟨_, rfl⟩
      rw [hwz] at KZ HBZ HS1Z ⊢
      clear hwz HGZ g0 g1 g2 g3 g4 f0 f1 f2 f3 f4
      obtain ⟨z0, z1, z2, z3, z4, _⟩ := KZ.out.u5
      refine bodyPost_ret (v := .agg #[.int .i64 5, .int .i64 0, .slice none 0 0, .slice (some ⟨gA, 0, none⟩) 1 1, .slice none 0 0]) (by simp [results, Tryz.results33, go_sem, z0, z1, z2, z3, z4]) rfl ⟨⟨_, rfl, by rw [HV.out]; exact ⟨_, _, _, _, _, _, _, _, _, rfl, ((SetsUp.nil _ (qR + 1)).mono HBQ.out), (fun _ => ⟨rfl, rfl⟩), ((HS1Z.out).mono HBQ.out), (fun h => by cases h), ((SetsUp.nil _ (qR + 1)).mono HBQ.out), (fun _ => ⟨rfl, rfl⟩)⟩⟩, HBZ.out⟩
 | some s =>
  rw [hcp] at HbS
  obtain rfl : s = ⟨⟨bn, bt, bk⟩, bu, bd⟩ := HbS.out
  clear HbS
  by_cases hds : bn = qn ∧ qt = 43
  case pos =>
    have HV := Lib.hid (HIQ.out.trans (show _ = ansT S apex qn qt by rw [hcp]; exact if_pos hds))
    obtain ⟨h1, h2⟩ := hds
    have s1 := strA_eq h1
    have f3 := eT h2
    clear HIQ hcp h1 h2
    simp only [Option.isSome_some]
    go_upto_region 7 with (fail)
    clear p0 p1 p2 y0 y1 y2 y3 y4 s1 f3
    obtain ⟨p0, p1, p2, _⟩ := HQ.out.v3
    go_wp2_with fail
    refine (akey_any qn 5 w6).mono ?_; rintro e w7 ⟨rfl, hb⟩
    clear p0 p1 p2
    replace HQ := Lib.hid (HQ.out.below hb)
    replace HR4 := Lib.hid (HR4.out.below hb)
    replace HB := Lib.hid (HB.out.trans (hb.mono HB.out.size))
    replace HZN := Lib.hid (HZN.out.below hb)
    replace HK := Lib.hid (HK.out.below hb)
    replace HbR := Lib.hid (own_below' HbR.out hb)
    replace HbB := Lib.hid (HbB.out.below hb)
    clear hb
    go_wp2_with fail
    refine (zget_any z apex S qn 5 1 w7 HZN.out HRI.out HSZ.out HN.out).mono ?_; rintro e w8 ⟨hf, hb⟩
    obtain ⟨yx, ya, yc, hys, rfl, hyr⟩ := found_getD hf
    replace hyr := own_mono4 (base' := qR + 1) hyr HR4.out.1
    replace HQ := Lib.hid (HQ.out.below hb)
    replace HR4 := Lib.hid (HR4.out.below hb)
    replace HB := Lib.hid (HB.out.trans (hb.mono HB.out.size))
    replace HZN := Lib.hid (HZN.out.below hb)
    replace HK := Lib.hid (HK.out.below hb)
    replace HbR := Lib.hid (own_below' HbR.out hb)
    replace HbB := Lib.hid (HbB.out.below hb)
    clear hb hf
    have HyS := Lib.hid hys
    clear hys
    obtain ⟨⟨yn, yt, yk⟩, yu, yd⟩ := yx
    replace hyr : World.ownsRow w8 (qR + 1) 9 1 (.slice ya yd.length yc) yd.length (sc yd) := hyr
    dsimp only
    obtain ⟨ym, hym⟩ : ∃ x, yd.length = x := ⟨_, rfl⟩
    rw [hym] at hyr ⊢
    have HyM := Lib.hid hym
    have HyR := Lib.hid hyr
    clear hym hyr
    have hba := (Below.refl _ _ : Below w8.heap.size w8 w8).alloc (Nat.le_refl _) (.cells #[.string yn, .int .i64 yt, .int .i64 yk, .int .i64 yu, .slice ya ym yc] 38)
    have HyB := Lib.hid (CN.new w8 #[.string yn, .int .i64 yt, .int .i64 yk, .int .i64 yu, .slice ya ym yc] 38)
    replace HQ := Lib.hid (HQ.out.below hba)
    replace HR4 := Lib.hid (HR4.out.below hba)
    replace HB := Lib.hid (HB.out.trans (hba.mono HB.out.size))
    replace HZN := Lib.hid (HZN.out.below hba)
    replace HK := Lib.hid (HK.out.below hba)
    replace HbR := Lib.hid (own_below' HbR.out hba)
    replace HbB := Lib.hid (HbB.out.below hba)
    replace HyR := Lib.hid (own_below' HyR.out hba)
    obtain ⟨w9, hw⟩ : ∃ x, w8.alloc (.cells #[.string yn, .int .i64 yt, .int .i64 yk, .int .i64 yu, .slice ya ym yc] 38) = x := ⟨_, rfl⟩
    obtain ⟨q9, hq⟩ : ∃ x, w8.heap.size = x := ⟨_, rfl⟩
    rw [hw, hq] at HyB
    rw [hw] at HQ HR4 HB HZN HK HbR HbB HyR
    have HW := Lib.hid hw
    have HQ_ := Lib.hid hq
    clear hba hw hq
    go_upto_region 8 with (fail)
    rw [HW.out, HQ_.out]
    clear HW HQ_
    obtain ⟨p0, p1, p2, _⟩ := HQ.out.v3
    by_cases hal : (findK S ⟨qn, 5, 1⟩).isSome = true ∧ ¬ qt = 5
    case pos =>
      obtain ⟨h1, h2⟩ := hal
      have f5 := nT h2
      obtain ⟨s, hfk⟩ := Option.isSome_iff_exists.1 h1
      rw [hfk] at HyS
      obtain rfl : s = ⟨⟨yn, yt, yk⟩, yu, yd⟩ := HyS.out
      replace HV := Lib.hid (HV.out.trans (show ansT S apex qn qt = ⟨2, 0, [⟨⟨yn, yt, yk⟩, yu, yd⟩], [], []⟩ by rw [ansT, hfk]; exact if_neg h2))
      rw [hfk]
      clear h1 h2 hfk HyS
      simp only [Option.isSome_some]
      go_upto_region 9 with (fail)
      clear f5 p0 p1 p2
      obtain ⟨y0, y1, y2, y3, y4, _⟩ := HyB.out.u5
      have HS1 := Lib.hid (SetsUp.one (w := w9) (sn := yn) (st := yt) (sk := yk) (su := yu) HyM.out HyR.out HR4.out.1)
      iterate 7 go_step
      have hba := (Below.refl _ _ : Below w9.heap.size w9 w9).alloc (Nat.le_refl _) (.cells #[.string yn, .int .i64 yt, .int .i64 yk, .int .i64 yu, .slice ya ym yc] 38)
      replace HQ := Lib.hid (HQ.out.below hba)
      replace HR4 := Lib.hid (HR4.out.below hba)
      replace HB := Lib.hid (HB.out.trans (hba.mono HB.out.size))
      replace HZN := Lib.hid (HZN.out.below hba)
      replace HK := Lib.hid (HK.out.below hba)
      replace HbR := Lib.hid (own_below' HbR.out hba)
      replace HbB := Lib.hid (HbB.out.below hba)
      replace HyR := Lib.hid (own_below' HyR.out hba)
      replace HyB := Lib.hid (HyB.out.below hba)
      clear hba
      obtain ⟨wA, hwA⟩ : ∃ x, w9.alloc (.cells #[.string yn, .int .i64 yt, .int .i64 yk, .int .i64 yu, .slice ya ym yc] 38) = x := ⟨_, rfl⟩
      obtain ⟨gA, hgA⟩ : ∃ x, w9.heap.size = x := ⟨_, rfl⟩
      rw [hwA] at HQ HR4 HB HZN HK HbR HbB HyR HyB HS1 ⊢
      rw [hgA] at HS1 ⊢
      clear hwA hgA y0 y1 y2 y3 y4
      obtain ⟨g0, g1, g2, g3, g4, f0, f1, f2, f3, f4⟩ := HR4.out.u5
      have KZ := Lib.hid (HR4.out.s5 (.int .i64 2) (.int .i64 0) (.slice (some ⟨gA, 0, none⟩) 1 1) (.slice none 0 0) (.slice none 0 0))
      have HGZ := Lib.hid (grown_s5 wA qR (.int .i64 2) (.int .i64 0) (.slice (some ⟨gA, 0, none⟩) 1 1) (.slice none 0 0) (.slice none 0 0))
      have HBZ := Lib.hid (HB.out.grown HGZ.out HB.out.size (fun k hk => by injection hk with hk; rw [← hk]; exact HQ4.out))
      have HS1Z := Lib.hid (HS1.out.far HGZ.out (Nat.lt_succ_self _))
      repeat go_step
      obtain ⟨wz, hwz⟩ : ∃ x, (((((wA.setCell ⟨qR, 0, none⟩ (.int .i64 2)).setCell ⟨qR, 1, none⟩ (.int .i64 0)).setCell ⟨qR, 2, none⟩ (.slice (some ⟨gA, 0, none⟩) 1 1)).setCell ⟨qR, 3, none⟩ (.slice none 0 0)).setCell ⟨qR, 4, none⟩ (.slice none 0 0)) = x := ⟨_, rfl⟩
      rw [hwz] at KZ HBZ HS1Z ⊢
      clear hwz HGZ g0 g1 g2 g3 g4 f0 f1 f2 f3 f4
      obtain ⟨z0, z1, z2, z3, z4, _⟩ := KZ.out.u5
      refine bodyPost_ret (v := .agg #[.int .i64 2, .int .i64 0, .slice (some ⟨gA, 0, none⟩) 1 1, .slice none 0 0, .slice none 0 0]) (by simp [results, Tryz.results33, go_sem, z0, z1, z2, z3, z4]) rfl ⟨⟨_, rfl, by rw [HV.out]; exact ⟨_, _, _, _, _, _, _, _, _, rfl, ((HS1Z.out).mono HBQ.out), (fun h => by cases h), ((SetsUp.nil _ (qR + 1)).mono HBQ.out), (fun _ => ⟨rfl, rfl⟩), ((SetsUp.nil _ (qR + 1)).mono HBQ.out), (fun _ => ⟨rfl, rfl⟩)⟩⟩, HBZ.out⟩
    replace HV := Lib.hid (HV.out.trans (show ansT S apex qn qt = ansK S apex qn qt by
      rw [ansT]
      cases hfk : findK S ⟨qn, 5, 1⟩ with
      | none => rfl
      | some s => exact if_pos (by
          have h := fun h2 => hal ⟨by rw [hfk]; rfl, h2⟩
          exact Classical.not_not.1 h)))
    obtain ⟨cb, hcb⟩ : ∃ x, (findK S ⟨qn, 5, 1⟩).isSome = x := ⟨_, rfl⟩
    rw [hcb] at hal ⊢
    have HAL := Lib.hid (show cb = false ∨ qt = 5 by cases cb; exact Or.inl rfl; exact Or.inr (Classical.not_not.1 (fun h => hal ⟨rfl, h⟩)))
    clear hal hcb
    have hfin : (cb && (qt != 5)) = false := by rcases HAL.out with h | h; (rw [h]; rfl); (rw [nF h, Bool.and_false])
    cases cb
    case false =>
      go_upto_region 10 with (fail)
      clear p0 p1 p2
      obtain ⟨k0, k1, k2, _⟩ := HK.out.v3
      go_wp2_with fail
      refine (zget_any z apex S qn qt 1 w9 HZN.out HRI.out HSZ.out HN.out).mono ?_; rintro e w10 ⟨hf, hb⟩
      obtain ⟨cx, ca, cc, hcs, rfl, hcr⟩ := found_getD hf
      replace hcr := own_mono4 (base' := qR + 1) hcr HR4.out.1
      clear k0 k1 k2
      replace HQ := Lib.hid (HQ.out.below hb)
      replace HR4 := Lib.hid (HR4.out.below hb)
      replace HB := Lib.hid (HB.out.trans (hb.mono HB.out.size))
      replace HZN := Lib.hid (HZN.out.below hb)
      replace HK := Lib.hid (HK.out.below hb)
      replace HbR := Lib.hid (own_below' HbR.out hb)
      replace HbB := Lib.hid (HbB.out.below hb)
      replace HyR := Lib.hid (own_below' HyR.out hb)
      replace HyB := Lib.hid (HyB.out.below hb)
      clear hb hf
      have HcS := Lib.hid hcs
      clear hcs
      obtain ⟨⟨cn, ct, ck⟩, cu, cd⟩ := cx
      replace hcr : World.ownsRow w10 (qR + 1) 9 1 (.slice ca cd.length cc) cd.length (sc cd) := hcr
      dsimp only
      obtain ⟨cm, hcm⟩ : ∃ x, cd.length = x := ⟨_, rfl⟩
      rw [hcm] at hcr ⊢
      have HcM := Lib.hid hcm
      have HcR := Lib.hid hcr
      clear hcm hcr
      have hba := (Below.refl _ _ : Below w10.heap.size w10 w10).alloc (Nat.le_refl _) (.cells #[.string cn, .int .i64 ct, .int .i64 ck, .int .i64 cu, .slice ca cm cc] 38)
      have HcB := Lib.hid (CN.new w10 #[.string cn, .int .i64 ct, .int .i64 ck, .int .i64 cu, .slice ca cm cc] 38)
      replace HQ := Lib.hid (HQ.out.below hba)
      replace HR4 := Lib.hid (HR4.out.below hba)
      replace HB := Lib.hid (HB.out.trans (hba.mono HB.out.size))
      replace HZN := Lib.hid (HZN.out.below hba)
      replace HK := Lib.hid (HK.out.below hba)
      replace HbR := Lib.hid (own_below' HbR.out hba)
      replace HbB := Lib.hid (HbB.out.below hba)
      replace HyR := Lib.hid (own_below' HyR.out hba)
      replace HyB := Lib.hid (HyB.out.below hba)
      replace HcR := Lib.hid (own_below' HcR.out hba)
      obtain ⟨w11, hw⟩ : ∃ x, w10.alloc (.cells #[.string cn, .int .i64 ct, .int .i64 ck, .int .i64 cu, .slice ca cm cc] 38) = x := ⟨_, rfl⟩
      obtain ⟨q11, hq⟩ : ∃ x, w10.heap.size = x := ⟨_, rfl⟩
      rw [hw, hq] at HcB
      rw [hw] at HQ HR4 HB HZN HK HbR HbB HyR HyB HcR
      have HW := Lib.hid hw
      have HQ_ := Lib.hid hq
      clear hba hw hq
      go_upto_region 11 with (fail)
      rw [HW.out, HQ_.out]
      clear HW HQ_
      cases hfk : findK S ⟨qn, qt, 1⟩ with
      | some s =>
        rw [hfk] at HcS
        obtain rfl : s = ⟨⟨cn, ct, ck⟩, cu, cd⟩ := HcS.out
        have HGD := Lib.hid (show ∀ s ∈ [(⟨⟨cn, ct, ck⟩, cu, cd⟩ : SetP)], ∀ d ∈ s.data, d.size ≤ 1000000 from fun s hs => by obtain rfl := List.mem_singleton.1 hs; exact HZD.out _ (find_mem hfk))
        have HGS := Lib.hid (show sumD [(⟨⟨cn, ct, ck⟩, cu, cd⟩ : SetP)] ≤ 100000 by have h := (HSZ.out.2 _ (find_mem hfk)).2; simpa [sumD] using h)
        replace HV := Lib.hid (HV.out.trans (show ansK S apex qn qt = ⟨1, 0, [⟨⟨cn, ct, ck⟩, cu, cd⟩], [], glueL S [⟨⟨cn, ct, ck⟩, cu, cd⟩]⟩ by rw [ansK, hfk]))
        clear hfk
        simp only [Option.isSome_some]
        go_upto_region 12 with (fail)
        have hbd := (Below.refl w11.heap.size w11).drew
        have HCD := Lib.hid (HcB.out.below hbd)
        replace HR4 := Lib.hid (HR4.out.below hbd)
        replace HZN := Lib.hid (HZN.out.below hbd)
        replace HcR := Lib.hid (own_below' HcR.out hbd)
        replace HB := Lib.hid (HB.out.trans (hbd.mono HB.out.size))
        obtain ⟨wdd, hwd⟩ : ∃ x, w11.drew = x := ⟨_, rfl⟩
        have HBD := Lib.hid (show Below w11.heap.size w11 wdd by rw [← hwd]; exact hbd)
        rw [hwd] at HCD HR4 HZN HcR HB
        clear hbd
        refine wp_region_last_drew (S := (fun wx => Hid (Below w11.heap.size w11 wx) ∧ wx.cell? ⟨q11, 0, none⟩ = some (.string cn) ∧ wx.cell? ⟨q11, 1, none⟩ = some (.int .i64 ct) ∧ wx.cell? ⟨q11, 2, none⟩ = some (.int .i64 ck) ∧ wx.cell? ⟨q11, 3, none⟩ = some (.int .i64 cu) ∧ wx.cell? ⟨q11, 4, none⟩ = some (.slice ca cm cc))) (L := 7) (by kernel_rfl) (by rw [hwd]; exact ⟨HBD, (HCD.out.2 0 _ rfl).1, (HCD.out.2 1 _ rfl).1, (HCD.out.2 2 _ rfl).1, (HCD.out.2 3 _ rfl).1, (HCD.out.2 4 _ rfl).1⟩) (fun hHeld => ?_)
        rw [hwd] at hHeld ⊢
        clear hwd
        refine wpAnyL_take (i := 0) (oi := { dst := some 93, op := Go.Op.load 38 (Go.Operand.tmp 10), type := 38, pos := "auth.go:49", after := #[], guard := none }) (v := ?v0_601) rfl (by kernel_rfl) (by kernel_rfl) (by kernel_rfl) (by kernel_rfl) (by kernel_rfl) (fun _ _ _ h => h) (Or.inl ⟨by rfl, ?y0_601⟩) hHeld ?r0_601
        case y0_601 => intro w hSw; (try dsimp only at hSw); go_simp; try with_reducible rfl
        try simp only [Act.put, List.setIfInBounds_toArray, List.set_cons_zero, List.set_cons_succ]
        refine wpAnyL_take (i := 2) (oi := { dst := some 95, op := Go.Op.move (Go.Operand.tmp 0), type := 28, pos := "auth.go:49", after := #[], guard := none }) (v := ?v2_601) rfl (by kernel_rfl) (by kernel_rfl) (by kernel_rfl) (by kernel_rfl) (by kernel_rfl) (fun _ _ _ h => h) (Or.inl ⟨by rfl, ?y2_601⟩) hHeld ?r2_601
        case y2_601 => intro w hSw; (try dsimp only at hSw); go_simp; try with_reducible rfl
        try simp only [Act.put, List.setIfInBounds_toArray, List.set_cons_zero, List.set_cons_succ]
        refine wpAnyL_take (i := 3) (oi := { dst := some 96, op := Go.Op.load 38 (Go.Operand.tmp 10), type := 38, pos := "auth.go:49", after := #[], guard := none }) (v := ?v3_601) rfl (by kernel_rfl) (by kernel_rfl) (by kernel_rfl) (by kernel_rfl) (by kernel_rfl) (fun _ _ _ h => h) (Or.inl ⟨by rfl, ?y3_601⟩) hHeld ?r3_601
        case y3_601 => intro w hSw; (try dsimp only at hSw); go_simp; try with_reducible rfl
        try simp only [Act.put, List.setIfInBounds_toArray, List.set_cons_zero, List.set_cons_succ]
        refine wpAnyL_ready (rs := [1, 4]) (by kernel_rfl) (by simp) ?_
        refine AllReadyL.cons (o := { dst := some 94, op := Go.Op.buildSlice 61 1 #[(0, Go.Operand.tmp 93)], type := 61, pos := "auth.go:49", after := #[{ on := 0, ground := Go.Ground.data }], guard := none }) rfl (by decide) (fun K hK => ?_) (AllReadyL.cons (o := { dst := some 97, op := Go.Op.buildSlice 61 1 #[(0, Go.Operand.tmp 96)], type := 61, pos := "auth.go:49", after := #[{ on := 3, ground := Go.Ground.data }], guard := none }) rfl (by decide) (fun K hK => ?_) AllReadyL.nil)
        · go_simp
          have hs := SetsUp.one (w := wdd) (sn := cn) (st := ct) (sk := ck) (su := cu) HcM.out HcR.out HR4.out.1
          have hb := (Below.refl _ _ : Below wdd.heap.size wdd wdd).alloc (Nat.le_refl _) (.cells #[.string cn, .int .i64 ct, .int .i64 ck, .int .i64 cu, .slice ca cm cc] 38)
          obtain ⟨wx1, hwe⟩ : ∃ x, wdd.alloc (.cells #[.string cn, .int .i64 ct, .int .i64 ck, .int .i64 cu, .slice ca cm cc] 38) = x := ⟨_, rfl⟩
          rw [hwe] at hs hb ⊢
          replace HR4 := Lib.hid (HR4.out.below hb)
          replace HZN := Lib.hid (HZN.out.below hb)
          replace HcR := Lib.hid (own_below' HcR.out hb)
          replace HB := Lib.hid (HB.out.trans (hb.mono HB.out.size))
          obtain ⟨g1, hge⟩ : ∃ x, wdd.heap.size = x := ⟨_, rfl⟩
          rw [hge] at hs ⊢
          have HS1 := Lib.hid hs
          clear hs hwe hge
          refine hK.out _ _ (⟨Lib.hid (hHeld.1.out.trans (hb.mono hHeld.1.out.size)), cell_later4 hb hHeld.2.1, cell_later4 hb hHeld.2.2.1, cell_later4 hb hHeld.2.2.2.1, cell_later4 hb hHeld.2.2.2.2.1, cell_later4 hb hHeld.2.2.2.2.2⟩) (fun hHeld2 => ?_)
          clear hK K hHeld
          have hHeld := hHeld2
          clear hHeld2
          try simp only [Act.put, List.setIfInBounds_toArray, List.set_cons_zero, List.set_cons_succ]
          refine wpAnyL_ready (rs := [4]) (by kernel_rfl) (by simp) ?_
          refine AllReadyL.cons (o := { dst := some 97, op := Go.Op.buildSlice 61 1 #[(0, Go.Operand.tmp 96)], type := 61, pos := "auth.go:49", after := #[{ on := 3, ground := Go.Ground.data }], guard := none }) rfl (by decide) (fun K hK => ?_) AllReadyL.nil
          go_simp
          have hs := SetsUp.one (w := wx1) (sn := cn) (st := ct) (sk := ck) (su := cu) HcM.out HcR.out HR4.out.1
          have hb := (Below.refl _ _ : Below wx1.heap.size wx1 wx1).alloc (Nat.le_refl _) (.cells #[.string cn, .int .i64 ct, .int .i64 ck, .int .i64 cu, .slice ca cm cc] 38)
          obtain ⟨wx2, hwe⟩ : ∃ x, wx1.alloc (.cells #[.string cn, .int .i64 ct, .int .i64 ck, .int .i64 cu, .slice ca cm cc] 38) = x := ⟨_, rfl⟩
          rw [hwe] at hs hb ⊢
          replace HR4 := Lib.hid (HR4.out.below hb)
          replace HZN := Lib.hid (HZN.out.below hb)
          replace HcR := Lib.hid (own_below' HcR.out hb)
          replace HB := Lib.hid (HB.out.trans (hb.mono HB.out.size))
          replace HS1 := Lib.hid (HS1.out.below hb)
          obtain ⟨g4, hge⟩ : ∃ x, wx1.heap.size = x := ⟨_, rfl⟩
          rw [hge] at hs ⊢
          have HS4 := Lib.hid hs
          clear hs hwe hge
          refine hK.out _ _ (⟨Lib.hid (hHeld.1.out.trans (hb.mono hHeld.1.out.size)), cell_later4 hb hHeld.2.1, cell_later4 hb hHeld.2.2.1, cell_later4 hb hHeld.2.2.2.1, cell_later4 hb hHeld.2.2.2.2.1, cell_later4 hb hHeld.2.2.2.2.2⟩) (fun hHeld2 => ?_)
          clear hK K hHeld
          have hHeld := hHeld2
          clear hHeld2
          try simp only [Act.put, List.setIfInBounds_toArray, List.set_cons_zero, List.set_cons_succ]
          refine wpAnyL_ready (rs := [5]) (by kernel_rfl) (by simp) ?_
          refine AllReadyL.cons (o := { dst := some 98, op := Go.Op.call { callee := Go.Callee.value (Go.Operand.func 78), args := #[Go.Operand.tmp 95, Go.Operand.tmp 97], argTypes := #[28, 61] }, type := 61, pos := "auth.go:49", after := #[{ on := 2, ground := Go.Ground.data }, { on := 4, ground := Go.Ground.data }], guard := none }) rfl (by decide) (fun K hK => ?_) AllReadyL.nil
          go_simp
          refine (glue_any z apex S (some ⟨g4, 0, none⟩) 1 1 [⟨⟨cn, ct, ck⟩, cu, cd⟩] wx2 HZN.out HRI.out HSZ.out HS4.out.at (by decide) HGD.out HGS.out).mono ?_; rintro e wx3 ⟨v, G, T, m, rfl, htg, hgm, hgl, hgn, hos, hb⟩
          obtain ⟨ga, gc, rfl, hsg, hgnil⟩ := SetsUp.own hos
          rw [hgm, ← tgF_eq htg] at hsg
          rw [hgl] at hsg hgnil ⊢
          have HGN := Lib.hid hgnil
          have HSG := Lib.hid (show SetsUp wx3 (qR + 1) ga m (glueL S [⟨⟨cn, ct, ck⟩, cu, cd⟩]) from hsg.mono HR4.out.1)
          replace HR4 := Lib.hid (HR4.out.below hb)
          replace HZN := Lib.hid (HZN.out.below hb)
          replace HcR := Lib.hid (own_below' HcR.out hb)
          replace HB := Lib.hid (HB.out.trans (hb.mono HB.out.size))
          replace HS1 := Lib.hid (HS1.out.below hb)
          replace HS4 := Lib.hid (HS4.out.below hb)
          clear hos hsg hgnil hgm hgl hgn htg
          go_wp2_with fail
          refine hK.out _ _ (⟨Lib.hid (hHeld.1.out.trans (hb.mono hHeld.1.out.size)), cell_later4 hb hHeld.2.1, cell_later4 hb hHeld.2.2.1, cell_later4 hb hHeld.2.2.2.1, cell_later4 hb hHeld.2.2.2.2.1, cell_later4 hb hHeld.2.2.2.2.2⟩) (fun hHeld2 => ?_)
          clear hK K hHeld
          have hHeld := hHeld2
          clear hHeld2
          try simp only [Act.put, List.setIfInBounds_toArray, List.set_cons_zero, List.set_cons_succ]
          refine wpAnyL_take (i := 6) (oi := { dst := some 99, op := Go.Op.build 71 #[(0, Go.Operand.const (Go.Value.int Go.IntKind.i64 1)), (2, Go.Operand.tmp 94), (4, Go.Operand.tmp 98)], type := 71, pos := "auth.go:49", after := #[{ on := 1, ground := Go.Ground.data }, { on := 5, ground := Go.Ground.data }], guard := none }) (v := ?v6_604) rfl (by kernel_rfl) (by kernel_rfl) (by kernel_rfl) (by kernel_rfl) (by kernel_rfl) (fun _ _ _ h => h) (Or.inl ⟨by rfl, ?y6_604⟩) hHeld ?r6_604
          case y6_604 => intro w hSw; (try dsimp only at hSw); go_simp; try with_reducible rfl
          try simp only [Act.put, List.setIfInBounds_toArray, List.set_cons_zero, List.set_cons_succ]
          refine wpAnyL_ready (rs := [7]) (by kernel_rfl) (by simp) ?_
          refine AllReadyL.last (o := { dst := none, op := Go.Op.store 71 (Go.Operand.tmp 4) (Go.Operand.tmp 99), type := 0, pos := "auth.go:49", after := #[{ on := 6, ground := Go.Ground.data }, { on := 5, ground := Go.Ground.chain }, { on := 0, ground := Go.Ground.phase }, { on := 1, ground := Go.Ground.phase }, { on := 2, ground := Go.Ground.phase }, { on := 3, ground := Go.Ground.phase }, { on := 4, ground := Go.Ground.phase }, { on := 5, ground := Go.Ground.phase }, { on := 6, ground := Go.Ground.phase }], guard := none }) rfl (by decide) (fun K hK => ?_) AllReadyL.nil
          have KZ := Lib.hid (HR4.out.s5 (.int .i64 1) (.int .i64 0) (.slice (some ⟨g1, 0, none⟩) 1 1) (.slice none 0 0) (.slice ga m gc))
          have HGZ := Lib.hid (grown_s5 wx3 qR (.int .i64 1) (.int .i64 0) (.slice (some ⟨g1, 0, none⟩) 1 1) (.slice none 0 0) (.slice ga m gc))
          have HBZ := Lib.hid (HB.out.grown HGZ.out HB.out.size (fun k hk => by injection hk with hk; rw [← hk]; exact HQ4.out))
          have HS1Z := Lib.hid (HS1.out.far HGZ.out (Nat.lt_succ_self _))
          have HSGZ := Lib.hid (HSG.out.far HGZ.out (Nat.lt_succ_self _))
          obtain ⟨y0, y1, y2, y3, y4, f0, f1, f2, f3, f4⟩ := HR4.out.u5
          go_wp2_with fail
          refine hK.out _ _ trivial (fun _ => ?_)
          clear hK K
          try simp only [Act.put, List.setIfInBounds_toArray, List.set_cons_zero, List.set_cons_succ]
          refine wpAnyL_done (by kernel_rfl) ?_ _
          repeat go_step
          obtain ⟨wz, hwz⟩ : ∃ x, (((((wx3.setCell ⟨qR, 0, none⟩ (.int .i64 1)).setCell ⟨qR, 1, none⟩ (.int .i64 0)).setCell ⟨qR, 2, none⟩ (.slice (some ⟨g1, 0, none⟩) 1 1)).setCell ⟨qR, 3, none⟩ (.slice none 0 0)).setCell ⟨qR, 4, none⟩ (.slice ga m gc)) = x := ⟨_, rfl⟩
          rw [hwz] at KZ HBZ HS1Z HSGZ ⊢
          clear hwz HGZ y0 y1 y2 y3 y4 f0 f1 f2 f3 f4
          obtain ⟨z0, z1, z2, z3, z4, _⟩ := KZ.out.u5
          refine bodyPost_ret (v := .agg #[.int .i64 1, .int .i64 0, .slice (some ⟨g1, 0, none⟩) 1 1, .slice none 0 0, .slice ga m gc]) (by simp [results, Tryz.results33, go_sem, z0, z1, z2, z3, z4]) rfl ⟨⟨_, rfl, by rw [HV.out]; exact ⟨_, _, _, _, _, _, _, _, _, rfl, ((HS1Z.out).mono HBQ.out), (fun h => by cases h), ((SetsUp.nil _ (qR + 1)).mono HBQ.out), (fun _ => ⟨rfl, rfl⟩), ((HSGZ.out).mono HBQ.out), HGN.out⟩⟩, HBZ.out⟩
        · go_simp
          have hs := SetsUp.one (w := wdd) (sn := cn) (st := ct) (sk := ck) (su := cu) HcM.out HcR.out HR4.out.1
          have hb := (Below.refl _ _ : Below wdd.heap.size wdd wdd).alloc (Nat.le_refl _) (.cells #[.string cn, .int .i64 ct, .int .i64 ck, .int .i64 cu, .slice ca cm cc] 38)
          obtain ⟨wx1, hwe⟩ : ∃ x, wdd.alloc (.cells #[.string cn, .int .i64 ct, .int .i64 ck, .int .i64 cu, .slice ca cm cc] 38) = x := ⟨_, rfl⟩
          rw [hwe] at hs hb ⊢
          replace HR4 := Lib.hid (HR4.out.below hb)
          replace HZN := Lib.hid (HZN.out.below hb)
          replace HcR := Lib.hid (own_below' HcR.out hb)
          replace HB := Lib.hid (HB.out.trans (hb.mono HB.out.size))
          obtain ⟨g4, hge⟩ : ∃ x, wdd.heap.size = x := ⟨_, rfl⟩
          rw [hge] at hs ⊢
          have HS4 := Lib.hid hs
          clear hs hwe hge
          refine hK.out _ _ (⟨Lib.hid (hHeld.1.out.trans (hb.mono hHeld.1.out.size)), cell_later4 hb hHeld.2.1, cell_later4 hb hHeld.2.2.1, cell_later4 hb hHeld.2.2.2.1, cell_later4 hb hHeld.2.2.2.2.1, cell_later4 hb hHeld.2.2.2.2.2⟩) (fun hHeld2 => ?_)
          clear hK K hHeld
          have hHeld := hHeld2
          clear hHeld2
          try simp only [Act.put, List.setIfInBounds_toArray, List.set_cons_zero, List.set_cons_succ]
          refine wpAnyL_ready (rs := [1, 5]) (by kernel_rfl) (by simp) ?_
          refine AllReadyL.cons (o := { dst := some 94, op := Go.Op.buildSlice 61 1 #[(0, Go.Operand.tmp 93)], type := 61, pos := "auth.go:49", after := #[{ on := 0, ground := Go.Ground.data }], guard := none }) rfl (by decide) (fun K hK => ?_) (AllReadyL.cons (o := { dst := some 98, op := Go.Op.call { callee := Go.Callee.value (Go.Operand.func 78), args := #[Go.Operand.tmp 95, Go.Operand.tmp 97], argTypes := #[28, 61] }, type := 61, pos := "auth.go:49", after := #[{ on := 2, ground := Go.Ground.data }, { on := 4, ground := Go.Ground.data }], guard := none }) rfl (by decide) (fun K hK => ?_) AllReadyL.nil)
          · go_simp
            have hs := SetsUp.one (w := wx1) (sn := cn) (st := ct) (sk := ck) (su := cu) HcM.out HcR.out HR4.out.1
            have hb := (Below.refl _ _ : Below wx1.heap.size wx1 wx1).alloc (Nat.le_refl _) (.cells #[.string cn, .int .i64 ct, .int .i64 ck, .int .i64 cu, .slice ca cm cc] 38)
            obtain ⟨wx2, hwe⟩ : ∃ x, wx1.alloc (.cells #[.string cn, .int .i64 ct, .int .i64 ck, .int .i64 cu, .slice ca cm cc] 38) = x := ⟨_, rfl⟩
            rw [hwe] at hs hb ⊢
            replace HR4 := Lib.hid (HR4.out.below hb)
            replace HZN := Lib.hid (HZN.out.below hb)
            replace HcR := Lib.hid (own_below' HcR.out hb)
            replace HB := Lib.hid (HB.out.trans (hb.mono HB.out.size))
            replace HS4 := Lib.hid (HS4.out.below hb)
            obtain ⟨g1, hge⟩ : ∃ x, wx1.heap.size = x := ⟨_, rfl⟩
            rw [hge] at hs ⊢
            have HS1 := Lib.hid hs
            clear hs hwe hge
            refine hK.out _ _ (⟨Lib.hid (hHeld.1.out.trans (hb.mono hHeld.1.out.size)), cell_later4 hb hHeld.2.1, cell_later4 hb hHeld.2.2.1, cell_later4 hb hHeld.2.2.2.1, cell_later4 hb hHeld.2.2.2.2.1, cell_later4 hb hHeld.2.2.2.2.2⟩) (fun hHeld2 => ?_)
            clear hK K hHeld
            have hHeld := hHeld2
            clear hHeld2
            try simp only [Act.put, List.setIfInBounds_toArray, List.set_cons_zero, List.set_cons_succ]
            refine wpAnyL_ready (rs := [5]) (by kernel_rfl) (by simp) ?_
            refine AllReadyL.cons (o := { dst := some 98, op := Go.Op.call { callee := Go.Callee.value (Go.Operand.func 78), args := #[Go.Operand.tmp 95, Go.Operand.tmp 97], argTypes := #[28, 61] }, type := 61, pos := "auth.go:49", after := #[{ on := 2, ground := Go.Ground.data }, { on := 4, ground := Go.Ground.data }], guard := none }) rfl (by decide) (fun K hK => ?_) AllReadyL.nil
            go_simp
            refine (glue_any z apex S (some ⟨g4, 0, none⟩) 1 1 [⟨⟨cn, ct, ck⟩, cu, cd⟩] wx2 HZN.out HRI.out HSZ.out HS4.out.at (by decide) HGD.out HGS.out).mono ?_; rintro e wx3 ⟨v, G, T, m, rfl, htg, hgm, hgl, hgn, hos, hb⟩
            obtain ⟨ga, gc, rfl, hsg, hgnil⟩ := SetsUp.own hos
            rw [hgm, ← tgF_eq htg] at hsg
            rw [hgl] at hsg hgnil ⊢
            have HGN := Lib.hid hgnil
            have HSG := Lib.hid (show SetsUp wx3 (qR + 1) ga m (glueL S [⟨⟨cn, ct, ck⟩, cu, cd⟩]) from hsg.mono HR4.out.1)
            replace HR4 := Lib.hid (HR4.out.below hb)
            replace HZN := Lib.hid (HZN.out.below hb)
            replace HcR := Lib.hid (own_below' HcR.out hb)
            replace HB := Lib.hid (HB.out.trans (hb.mono HB.out.size))
            replace HS1 := Lib.hid (HS1.out.below hb)
            replace HS4 := Lib.hid (HS4.out.below hb)
            clear hos hsg hgnil hgm hgl hgn htg
            go_wp2_with fail
            refine hK.out _ _ (⟨Lib.hid (hHeld.1.out.trans (hb.mono hHeld.1.out.size)), cell_later4 hb hHeld.2.1, cell_later4 hb hHeld.2.2.1, cell_later4 hb hHeld.2.2.2.1, cell_later4 hb hHeld.2.2.2.2.1, cell_later4 hb hHeld.2.2.2.2.2⟩) (fun hHeld2 => ?_)
            clear hK K hHeld
            have hHeld := hHeld2
            clear hHeld2
            try simp only [Act.put, List.setIfInBounds_toArray, List.set_cons_zero, List.set_cons_succ]
            refine wpAnyL_take (i := 6) (oi := { dst := some 99, op := Go.Op.build 71 #[(0, Go.Operand.const (Go.Value.int Go.IntKind.i64 1)), (2, Go.Operand.tmp 94), (4, Go.Operand.tmp 98)], type := 71, pos := "auth.go:49", after := #[{ on := 1, ground := Go.Ground.data }, { on := 5, ground := Go.Ground.data }], guard := none }) (v := ?v6_608) rfl (by kernel_rfl) (by kernel_rfl) (by kernel_rfl) (by kernel_rfl) (by kernel_rfl) (fun _ _ _ h => h) (Or.inl ⟨by rfl, ?y6_608⟩) hHeld ?r6_608
            case y6_608 => intro w hSw; (try dsimp only at hSw); go_simp; try with_reducible rfl
            try simp only [Act.put, List.setIfInBounds_toArray, List.set_cons_zero, List.set_cons_succ]
            refine wpAnyL_ready (rs := [7]) (by kernel_rfl) (by simp) ?_
            refine AllReadyL.last (o := { dst := none, op := Go.Op.store 71 (Go.Operand.tmp 4) (Go.Operand.tmp 99), type := 0, pos := "auth.go:49", after := #[{ on := 6, ground := Go.Ground.data }, { on := 5, ground := Go.Ground.chain }, { on := 0, ground := Go.Ground.phase }, { on := 1, ground := Go.Ground.phase }, { on := 2, ground := Go.Ground.phase }, { on := 3, ground := Go.Ground.phase }, { on := 4, ground := Go.Ground.phase }, { on := 5, ground := Go.Ground.phase }, { on := 6, ground := Go.Ground.phase }], guard := none }) rfl (by decide) (fun K hK => ?_) AllReadyL.nil
            have KZ := Lib.hid (HR4.out.s5 (.int .i64 1) (.int .i64 0) (.slice (some ⟨g1, 0, none⟩) 1 1) (.slice none 0 0) (.slice ga m gc))
            have HGZ := Lib.hid (grown_s5 wx3 qR (.int .i64 1) (.int .i64 0) (.slice (some ⟨g1, 0, none⟩) 1 1) (.slice none 0 0) (.slice ga m gc))
            have HBZ := Lib.hid (HB.out.grown HGZ.out HB.out.size (fun k hk => by injection hk with hk; rw [← hk]; exact HQ4.out))
            have HS1Z := Lib.hid (HS1.out.far HGZ.out (Nat.lt_succ_self _))
            have HSGZ := Lib.hid (HSG.out.far HGZ.out (Nat.lt_succ_self _))
            obtain ⟨y0, y1, y2, y3, y4, f0, f1, f2, f3, f4⟩ := HR4.out.u5
            go_wp2_with fail
            refine hK.out _ _ trivial (fun _ => ?_)
            clear hK K
            try simp only [Act.put, List.setIfInBounds_toArray, List.set_cons_zero, List.set_cons_succ]
            refine wpAnyL_done (by kernel_rfl) ?_ _
            repeat go_step
            obtain ⟨wz, hwz⟩ : ∃ x, (((((wx3.setCell ⟨qR, 0, none⟩ (.int .i64 1)).setCell ⟨qR, 1, none⟩ (.int .i64 0)).setCell ⟨qR, 2, none⟩ (.slice (some ⟨g1, 0, none⟩) 1 1)).setCell ⟨qR, 3, none⟩ (.slice none 0 0)).setCell ⟨qR, 4, none⟩ (.slice ga m gc)) = x := ⟨_, rfl⟩
            rw [hwz] at KZ HBZ HS1Z HSGZ ⊢
            clear hwz HGZ y0 y1 y2 y3 y4 f0 f1 f2 f3 f4
            obtain ⟨z0, z1, z2, z3, z4, _⟩ := KZ.out.u5
            refine bodyPost_ret (v := .agg #[.int .i64 1, .int .i64 0, .slice (some ⟨g1, 0, none⟩) 1 1, .slice none 0 0, .slice ga m gc]) (by simp [results, Tryz.results33, go_sem, z0, z1, z2, z3, z4]) rfl ⟨⟨_, rfl, by rw [HV.out]; exact ⟨_, _, _, _, _, _, _, _, _, rfl, ((HS1Z.out).mono HBQ.out), (fun h => by cases h), ((SetsUp.nil _ (qR + 1)).mono HBQ.out), (fun _ => ⟨rfl, rfl⟩), ((HSGZ.out).mono HBQ.out), HGN.out⟩⟩, HBZ.out⟩
          · go_simp
            refine (glue_any z apex S (some ⟨g4, 0, none⟩) 1 1 [⟨⟨cn, ct, ck⟩, cu, cd⟩] wx1 HZN.out HRI.out HSZ.out HS4.out.at (by decide) HGD.out HGS.out).mono ?_; rintro e wx2 ⟨v, G, T, m, rfl, htg, hgm, hgl, hgn, hos, hb⟩
            obtain ⟨ga, gc, rfl, hsg, hgnil⟩ := SetsUp.own hos
            rw [hgm, ← tgF_eq htg] at hsg
            rw [hgl] at hsg hgnil ⊢
            have HGN := Lib.hid hgnil
            have HSG := Lib.hid (show SetsUp wx2 (qR + 1) ga m (glueL S [⟨⟨cn, ct, ck⟩, cu, cd⟩]) from hsg.mono HR4.out.1)
            replace HR4 := Lib.hid (HR4.out.below hb)
            replace HZN := Lib.hid (HZN.out.below hb)
            replace HcR := Lib.hid (own_below' HcR.out hb)
            replace HB := Lib.hid (HB.out.trans (hb.mono HB.out.size))
            replace HS4 := Lib.hid (HS4.out.below hb)
            clear hos hsg hgnil hgm hgl hgn htg
            go_wp2_with fail
            refine hK.out _ _ (⟨Lib.hid (hHeld.1.out.trans (hb.mono hHeld.1.out.size)), cell_later4 hb hHeld.2.1, cell_later4 hb hHeld.2.2.1, cell_later4 hb hHeld.2.2.2.1, cell_later4 hb hHeld.2.2.2.2.1, cell_later4 hb hHeld.2.2.2.2.2⟩) (fun hHeld2 => ?_)
            clear hK K hHeld
            have hHeld := hHeld2
            clear hHeld2
            try simp only [Act.put, List.setIfInBounds_toArray, List.set_cons_zero, List.set_cons_succ]
            refine wpAnyL_ready (rs := [1]) (by kernel_rfl) (by simp) ?_
            refine AllReadyL.cons (o := { dst := some 94, op := Go.Op.buildSlice 61 1 #[(0, Go.Operand.tmp 93)], type := 61, pos := "auth.go:49", after := #[{ on := 0, ground := Go.Ground.data }], guard := none }) rfl (by decide) (fun K hK => ?_) AllReadyL.nil
            go_simp
            have hs := SetsUp.one (w := wx2) (sn := cn) (st := ct) (sk := ck) (su := cu) HcM.out HcR.out HR4.out.1
            have hb := (Below.refl _ _ : Below wx2.heap.size wx2 wx2).alloc (Nat.le_refl _) (.cells #[.string cn, .int .i64 ct, .int .i64 ck, .int .i64 cu, .slice ca cm cc] 38)
            obtain ⟨wx3, hwe⟩ : ∃ x, wx2.alloc (.cells #[.string cn, .int .i64 ct, .int .i64 ck, .int .i64 cu, .slice ca cm cc] 38) = x := ⟨_, rfl⟩
            rw [hwe] at hs hb ⊢
            replace HR4 := Lib.hid (HR4.out.below hb)
            replace HZN := Lib.hid (HZN.out.below hb)
            replace HcR := Lib.hid (own_below' HcR.out hb)
            replace HB := Lib.hid (HB.out.trans (hb.mono HB.out.size))
            replace HS4 := Lib.hid (HS4.out.below hb)
            replace HSG := Lib.hid (HSG.out.below hb)
            obtain ⟨g1, hge⟩ : ∃ x, wx2.heap.size = x := ⟨_, rfl⟩
            rw [hge] at hs ⊢
            have HS1 := Lib.hid hs
            clear hs hwe hge
            refine hK.out _ _ (⟨Lib.hid (hHeld.1.out.trans (hb.mono hHeld.1.out.size)), cell_later4 hb hHeld.2.1, cell_later4 hb hHeld.2.2.1, cell_later4 hb hHeld.2.2.2.1, cell_later4 hb hHeld.2.2.2.2.1, cell_later4 hb hHeld.2.2.2.2.2⟩) (fun hHeld2 => ?_)
            clear hK K hHeld
            have hHeld := hHeld2
            clear hHeld2
            try simp only [Act.put, List.setIfInBounds_toArray, List.set_cons_zero, List.set_cons_succ]
            refine wpAnyL_take (i := 6) (oi := { dst := some 99, op := Go.Op.build 71 #[(0, Go.Operand.const (Go.Value.int Go.IntKind.i64 1)), (2, Go.Operand.tmp 94), (4, Go.Operand.tmp 98)], type := 71, pos := "auth.go:49", after := #[{ on := 1, ground := Go.Ground.data }, { on := 5, ground := Go.Ground.data }], guard := none }) (v := ?v6_611) rfl (by kernel_rfl) (by kernel_rfl) (by kernel_rfl) (by kernel_rfl) (by kernel_rfl) (fun _ _ _ h => h) (Or.inl ⟨by rfl, ?y6_611⟩) hHeld ?r6_611
            case y6_611 => intro w hSw; (try dsimp only at hSw); go_simp; try with_reducible rfl
            try simp only [Act.put, List.setIfInBounds_toArray, List.set_cons_zero, List.set_cons_succ]
            refine wpAnyL_ready (rs := [7]) (by kernel_rfl) (by simp) ?_
            refine AllReadyL.last (o := { dst := none, op := Go.Op.store 71 (Go.Operand.tmp 4) (Go.Operand.tmp 99), type := 0, pos := "auth.go:49", after := #[{ on := 6, ground := Go.Ground.data }, { on := 5, ground := Go.Ground.chain }, { on := 0, ground := Go.Ground.phase }, { on := 1, ground := Go.Ground.phase }, { on := 2, ground := Go.Ground.phase }, { on := 3, ground := Go.Ground.phase }, { on := 4, ground := Go.Ground.phase }, { on := 5, ground := Go.Ground.phase }, { on := 6, ground := Go.Ground.phase }], guard := none }) rfl (by decide) (fun K hK => ?_) AllReadyL.nil
            have KZ := Lib.hid (HR4.out.s5 (.int .i64 1) (.int .i64 0) (.slice (some ⟨g1, 0, none⟩) 1 1) (.slice none 0 0) (.slice ga m gc))
            have HGZ := Lib.hid (grown_s5 wx3 qR (.int .i64 1) (.int .i64 0) (.slice (some ⟨g1, 0, none⟩) 1 1) (.slice none 0 0) (.slice ga m gc))
            have HBZ := Lib.hid (HB.out.grown HGZ.out HB.out.size (fun k hk => by injection hk with hk; rw [← hk]; exact HQ4.out))
            have HS1Z := Lib.hid (HS1.out.far HGZ.out (Nat.lt_succ_self _))
            have HSGZ := Lib.hid (HSG.out.far HGZ.out (Nat.lt_succ_self _))
            obtain ⟨y0, y1, y2, y3, y4, f0, f1, f2, f3, f4⟩ := HR4.out.u5
            go_wp2_with fail
            refine hK.out _ _ trivial (fun _ => ?_)
            clear hK K
            try simp only [Act.put, List.setIfInBounds_toArray, List.set_cons_zero, List.set_cons_succ]
            refine wpAnyL_done (by kernel_rfl) ?_ _
            repeat go_step
            obtain ⟨wz, hwz⟩ : ∃ x, (((((wx3.setCell ⟨qR, 0, none⟩ (.int .i64 1)).setCell ⟨qR, 1, none⟩ (.int .i64 0)).setCell ⟨qR, 2, none⟩ (.slice (some ⟨g1, 0, none⟩) 1 1)).setCell ⟨qR, 3, none⟩ (.slice none 0 0)).setCell ⟨qR, 4, none⟩ (.slice ga m gc)) = x := ⟨_, rfl⟩
            rw [hwz] at KZ HBZ HS1Z HSGZ ⊢
            clear hwz HGZ y0 y1 y2 y3 y4 f0 f1 f2 f3 f4
            obtain ⟨z0, z1, z2, z3, z4, _⟩ := KZ.out.u5
            refine bodyPost_ret (v := .agg #[.int .i64 1, .int .i64 0, .slice (some ⟨g1, 0, none⟩) 1 1, .slice none 0 0, .slice ga m gc]) (by simp [results, Tryz.results33, go_sem, z0, z1, z2, z3, z4]) rfl ⟨⟨_, rfl, by rw [HV.out]; exact ⟨_, _, _, _, _, _, _, _, _, rfl, ((HS1Z.out).mono HBQ.out), (fun h => by cases h), ((SetsUp.nil _ (qR + 1)).mono HBQ.out), (fun _ => ⟨rfl, rfl⟩), ((HSGZ.out).mono HBQ.out), HGN.out⟩⟩, HBZ.out⟩
      | none =>
        replace HV := Lib.hid (HV.out.trans (show ansK S apex qn qt = (if thereP S qn = true then ⟨5, 0, [], soaL S apex, []⟩ else ⟨4, 3, [], soaL S apex, []⟩) by rw [ansK, hfk]))
        clear hfk HcS
        simp only [Option.isSome_none]
        go_wp2_with fail
        refine (zapex_any z apex S _ HZN.out).mono ?_; rintro e w99 ⟨rfl, rfl⟩
        go_wp2_with fail
        refine (akey_any apex 6 w11).mono ?_; rintro e w12 ⟨rfl, hb⟩
        replace HQ := Lib.hid (HQ.out.below hb)
        replace HR4 := Lib.hid (HR4.out.below hb)
        replace HB := Lib.hid (HB.out.trans (hb.mono HB.out.size))
        replace HZN := Lib.hid (HZN.out.below hb)
        replace HK := Lib.hid (HK.out.below hb)
        replace HbR := Lib.hid (own_below' HbR.out hb)
        replace HbB := Lib.hid (HbB.out.below hb)
        replace HyR := Lib.hid (own_below' HyR.out hb)
        replace HyB := Lib.hid (HyB.out.below hb)
        replace HcR := Lib.hid (own_below' HcR.out hb)
        replace HcB := Lib.hid (HcB.out.below hb)
        clear hb
        go_wp2_with fail
        refine (zget_any z apex S apex 6 1 w12 HZN.out HRI.out HSZ.out HA.out).mono ?_; rintro e w13 ⟨hf, hb⟩
        obtain ⟨rx, ra, rc, hrs, rfl, hrr⟩ := found_getD hf
        replace hrr := own_mono4 (base' := qR + 1) hrr HR4.out.1
        replace HQ := Lib.hid (HQ.out.below hb)
        replace HR4 := Lib.hid (HR4.out.below hb)
        replace HB := Lib.hid (HB.out.trans (hb.mono HB.out.size))
        replace HZN := Lib.hid (HZN.out.below hb)
        replace HK := Lib.hid (HK.out.below hb)
        replace HbR := Lib.hid (own_below' HbR.out hb)
        replace HbB := Lib.hid (HbB.out.below hb)
        replace HyR := Lib.hid (own_below' HyR.out hb)
        replace HyB := Lib.hid (HyB.out.below hb)
        replace HcR := Lib.hid (own_below' HcR.out hb)
        replace HcB := Lib.hid (HcB.out.below hb)
        clear hb hf
        have HrS := Lib.hid hrs
        clear hrs
        obtain ⟨⟨rn, rt, rk⟩, ru, rd⟩ := rx
        replace hrr : World.ownsRow w13 (qR + 1) 9 1 (.slice ra rd.length rc) rd.length (sc rd) := hrr
        dsimp only
        obtain ⟨rm, hrm⟩ : ∃ x, rd.length = x := ⟨_, rfl⟩
        rw [hrm] at hrr ⊢
        have HrM := Lib.hid hrm
        have HrR := Lib.hid hrr
        clear hrm hrr
        have hba := (Below.refl _ _ : Below w13.heap.size w13 w13).alloc (Nat.le_refl _) (.cells #[.string rn, .int .i64 rt, .int .i64 rk, .int .i64 ru, .slice ra rm rc] 38)
        have HrB := Lib.hid (CN.new w13 #[.string rn, .int .i64 rt, .int .i64 rk, .int .i64 ru, .slice ra rm rc] 38)
        replace HQ := Lib.hid (HQ.out.below hba)
        replace HR4 := Lib.hid (HR4.out.below hba)
        replace HB := Lib.hid (HB.out.trans (hba.mono HB.out.size))
        replace HZN := Lib.hid (HZN.out.below hba)
        replace HK := Lib.hid (HK.out.below hba)
        replace HbR := Lib.hid (own_below' HbR.out hba)
        replace HbB := Lib.hid (HbB.out.below hba)
        replace HyR := Lib.hid (own_below' HyR.out hba)
        replace HyB := Lib.hid (HyB.out.below hba)
        replace HcR := Lib.hid (own_below' HcR.out hba)
        replace HcB := Lib.hid (HcB.out.below hba)
        replace HrR := Lib.hid (own_below' HrR.out hba)
        obtain ⟨w14, hw⟩ : ∃ x, w13.alloc (.cells #[.string rn, .int .i64 rt, .int .i64 rk, .int .i64 ru, .slice ra rm rc] 38) = x := ⟨_, rfl⟩
        obtain ⟨q14, hq⟩ : ∃ x, w13.heap.size = x := ⟨_, rfl⟩
        rw [hw, hq] at HrB
        rw [hw] at HQ HR4 HB HZN HK HbR HbB HyR HyB HcR HcB HrR
        have HW := Lib.hid hw
        have HQ_ := Lib.hid hq
        clear hba hw hq
        go_upto_region 14 with (fail)
        rw [HW.out, HQ_.out]
        clear HW HQ_
        have HSO := Lib.hid (show soaL S apex = [⟨⟨rn, rt, rk⟩, ru, rd⟩] by rw [soaL, HrS.out])
        obtain ⟨p0, p1, p2, _⟩ := HQ.out.v3
        have HTH := Lib.hid (zthere_any z apex S qn w14 HZN.out HSZ.out HA.out HN.out)
        rw [HU.out, Bool.true_and] at HTH
        obtain ⟨tb, htb⟩ : ∃ x, thereP S qn = x := ⟨_, rfl⟩
        rw [htb, HSO.out] at HV
        rw [htb] at HTH
        clear htb
        go_wp2_with fail
        refine HTH.out.mono ?_; rintro e w15 ⟨rfl, hb⟩
        clear p0 p1 p2
        replace HQ := Lib.hid (HQ.out.below hb)
        replace HR4 := Lib.hid (HR4.out.below hb)
        replace HB := Lib.hid (HB.out.trans (hb.mono HB.out.size))
        replace HZN := Lib.hid (HZN.out.below hb)
        replace HK := Lib.hid (HK.out.below hb)
        replace HbR := Lib.hid (own_below' HbR.out hb)
        replace HbB := Lib.hid (HbB.out.below hb)
        replace HyR := Lib.hid (own_below' HyR.out hb)
        replace HyB := Lib.hid (HyB.out.below hb)
        replace HcR := Lib.hid (own_below' HcR.out hb)
        replace HcB := Lib.hid (HcB.out.below hb)
        replace HrR := Lib.hid (own_below' HrR.out hb)
        replace HrB := Lib.hid (HrB.out.below hb)
        clear hb HTH
        cases tb
        · replace HV := Lib.hid (show ansF S apex qn qt qc = ⟨4, 3, [], [⟨⟨rn, rt, rk⟩, ru, rd⟩], []⟩ from HV.out)
          go_upto_region 16 with (fail)
          obtain ⟨y0, y1, y2, y3, y4, _⟩ := HrB.out.u5
          have HS1 := Lib.hid (SetsUp.one (w := w15) (sn := rn) (st := rt) (sk := rk) (su := ru) HrM.out HrR.out HR4.out.1)
          iterate 7 go_step
          have hba := (Below.refl _ _ : Below w15.heap.size w15 w15).alloc (Nat.le_refl _) (.cells #[.string rn, .int .i64 rt, .int .i64 rk, .int .i64 ru, .slice ra rm rc] 38)
          replace HQ := Lib.hid (HQ.out.below hba)
          replace HR4 := Lib.hid (HR4.out.below hba)
          replace HB := Lib.hid (HB.out.trans (hba.mono HB.out.size))
          replace HZN := Lib.hid (HZN.out.below hba)
          replace HK := Lib.hid (HK.out.below hba)
          replace HbR := Lib.hid (own_below' HbR.out hba)
          replace HbB := Lib.hid (HbB.out.below hba)
          replace HyR := Lib.hid (own_below' HyR.out hba)
          replace HyB := Lib.hid (HyB.out.below hba)
          replace HcR := Lib.hid (own_below' HcR.out hba)
          replace HcB := Lib.hid (HcB.out.below hba)
          replace HrR := Lib.hid (own_below' HrR.out hba)
          replace HrB := Lib.hid (HrB.out.below hba)
          clear hba
          obtain ⟨wA, hwA⟩ : ∃ x, w15.alloc (.cells #[.string rn, .int .i64 rt, .int .i64 rk, .int .i64 ru, .slice ra rm rc] 38) = x := ⟨_, rfl⟩
          obtain ⟨gA, hgA⟩ : ∃ x, w15.heap.size = x := ⟨_, rfl⟩
          rw [hwA] at HQ HR4 HB HZN HK HbR HbB HyR HyB HcR HcB HrR HrB HS1 ⊢
          rw [hgA] at HS1 ⊢
          clear hwA hgA y0 y1 y2 y3 y4
          obtain ⟨g0, g1, g2, g3, g4, f0, f1, f2, f3, f4⟩ := HR4.out.u5
          have KZ := Lib.hid (HR4.out.s5 (.int .i64 4) (.int .i64 3) (.slice none 0 0) (.slice (some ⟨gA, 0, none⟩) 1 1) (.slice none 0 0))
          have HGZ := Lib.hid (grown_s5 wA qR (.int .i64 4) (.int .i64 3) (.slice none 0 0) (.slice (some ⟨gA, 0, none⟩) 1 1) (.slice none 0 0))
          have HBZ := Lib.hid (HB.out.grown HGZ.out HB.out.size (fun k hk => by injection hk with hk; rw [← hk]; exact HQ4.out))
          have HS1Z := Lib.hid (HS1.out.far HGZ.out (Nat.lt_succ_self _))
          repeat go_step
          obtain ⟨wz, hwz⟩ : ∃ x, (((((wA.setCell ⟨qR, 0, none⟩ (.int .i64 4)).setCell ⟨qR, 1, none⟩ (.int .i64 3)).setCell ⟨qR, 2, none⟩ (.slice none 0 0)).setCell ⟨qR, 3, none⟩ (.slice (some ⟨gA, 0, none⟩) 1 1)).setCell ⟨qR, 4, none⟩ (.slice none 0 0)) = x := ⟨_, rfl⟩
          rw [hwz] at KZ HBZ HS1Z ⊢
          clear hwz HGZ g0 g1 g2 g3 g4 f0 f1 f2 f3 f4
          obtain ⟨z0, z1, z2, z3, z4, _⟩ := KZ.out.u5
          refine bodyPost_ret (v := .agg #[.int .i64 4, .int .i64 3, .slice none 0 0, .slice (some ⟨gA, 0, none⟩) 1 1, .slice none 0 0]) (by simp [results, Tryz.results33, go_sem, z0, z1, z2, z3, z4]) rfl ⟨⟨_, rfl, by rw [HV.out]; exact ⟨_, _, _, _, _, _, _, _, _, rfl, ((SetsUp.nil _ (qR + 1)).mono HBQ.out), (fun _ => ⟨rfl, rfl⟩), ((HS1Z.out).mono HBQ.out), (fun h => by cases h), ((SetsUp.nil _ (qR + 1)).mono HBQ.out), (fun _ => ⟨rfl, rfl⟩)⟩⟩, HBZ.out⟩
        · replace HV := Lib.hid (show ansF S apex qn qt qc = ⟨5, 0, [], [⟨⟨rn, rt, rk⟩, ru, rd⟩], []⟩ from HV.out)
          go_upto_region 15 with (fail)
          obtain ⟨y0, y1, y2, y3, y4, _⟩ := HrB.out.u5
          have HS1 := Lib.hid (SetsUp.one (w := w15) (sn := rn) (st := rt) (sk := rk) (su := ru) HrM.out HrR.out HR4.out.1)
          iterate 7 go_step
          have hba := (Below.refl _ _ : Below w15.heap.size w15 w15).alloc (Nat.le_refl _) (.cells #[.string rn, .int .i64 rt, .int .i64 rk, .int .i64 ru, .slice ra rm rc] 38)
          replace HQ := Lib.hid (HQ.out.below hba)
          replace HR4 := Lib.hid (HR4.out.below hba)
          replace HB := Lib.hid (HB.out.trans (hba.mono HB.out.size))
          replace HZN := Lib.hid (HZN.out.below hba)
          replace HK := Lib.hid (HK.out.below hba)
          replace HbR := Lib.hid (own_below' HbR.out hba)
          replace HbB := Lib.hid (HbB.out.below hba)
          replace HyR := Lib.hid (own_below' HyR.out hba)
          replace HyB := Lib.hid (HyB.out.below hba)
          replace HcR := Lib.hid (own_below' HcR.out hba)
          replace HcB := Lib.hid (HcB.out.below hba)
          replace HrR := Lib.hid (own_below' HrR.out hba)
          replace HrB := Lib.hid (HrB.out.below hba)
          clear hba
          obtain ⟨wA, hwA⟩ : ∃ x, w15.alloc (.cells #[.string rn, .int .i64 rt, .int .i64 rk, .int .i64 ru, .slice ra rm rc] 38) = x := ⟨_, rfl⟩
          obtain ⟨gA, hgA⟩ : ∃ x, w15.heap.size = x := ⟨_, rfl⟩
          rw [hwA] at HQ HR4 HB HZN HK HbR HbB HyR HyB HcR HcB HrR HrB HS1 ⊢
          rw [hgA] at HS1 ⊢
          clear hwA hgA y0 y1 y2 y3 y4
          obtain ⟨g0, g1, g2, g3, g4, f0, f1, f2, f3, f4⟩ := HR4.out.u5
          have KZ := Lib.hid (HR4.out.s5 (.int .i64 5) (.int .i64 0) (.slice none 0 0) (.slice (some ⟨gA, 0, none⟩) 1 1) (.slice none 0 0))
          have HGZ := Lib.hid (grown_s5 wA qR (.int .i64 5) (.int .i64 0) (.slice none 0 0) (.slice (some ⟨gA, 0, none⟩) 1 1) (.slice none 0 0))
          have HBZ := Lib.hid (HB.out.grown HGZ.out HB.out.size (fun k hk => by injection hk with hk; rw [← hk]; exact HQ4.out))
          have HS1Z := Lib.hid (HS1.out.far HGZ.out (Nat.lt_succ_self _))
          repeat go_step
          obtain ⟨wz, hwz⟩ : ∃ x, (((((wA.setCell ⟨qR, 0, none⟩ (.int .i64 5)).setCell ⟨qR, 1, none⟩ (.int .i64 0)).setCell ⟨qR, 2, none⟩ (.slice none 0 0)).setCell ⟨qR, 3, none⟩ (.slice (some ⟨gA, 0, none⟩) 1 1)).setCell ⟨qR, 4, none⟩ (.slice none 0 0)) = x := ⟨_, rfl⟩
          rw [hwz] at KZ HBZ HS1Z ⊢
          clear hwz HGZ g0 g1 g2 g3 g4 f0 f1 f2 f3 f4
          obtain ⟨z0, z1, z2, z3, z4, _⟩ := KZ.out.u5
          refine bodyPost_ret (v := .agg #[.int .i64 5, .int .i64 0, .slice none 0 0, .slice (some ⟨gA, 0, none⟩) 1 1, .slice none 0 0]) (by simp [results, Tryz.results33, go_sem, z0, z1, z2, z3, z4]) rfl ⟨⟨_, rfl, by rw [HV.out]; exact ⟨_, _, _, _, _, _, _, _, _, rfl, ((SetsUp.nil _ (qR + 1)).mono HBQ.out), (fun _ => ⟨rfl, rfl⟩), ((HS1Z.out).mono HBQ.out), (fun h => by cases h), ((SetsUp.nil _ (qR + 1)).mono HBQ.out), (fun _ => ⟨rfl, rfl⟩)⟩⟩, HBZ.out⟩
    have f5 : (qt != 5) = false := by simpa using hfin
    clear hfin
    go_upto_region 10 with (fail)
    clear f5 p0 p1 p2
    obtain ⟨k0, k1, k2, _⟩ := HK.out.v3
    go_wp2_with fail
    refine (zget_any z apex S qn qt 1 w9 HZN.out HRI.out HSZ.out HN.out).mono ?_; rintro e w10 ⟨hf, hb⟩
    obtain ⟨cx, ca, cc, hcs, rfl, hcr⟩ := found_getD hf
    replace hcr := own_mono4 (base' := qR + 1) hcr HR4.out.1
    clear k0 k1 k2
    replace HQ := Lib.hid (HQ.out.below hb)
    replace HR4 := Lib.hid (HR4.out.below hb)
    replace HB := Lib.hid (HB.out.trans (hb.mono HB.out.size))
    replace HZN := Lib.hid (HZN.out.below hb)
    replace HK := Lib.hid (HK.out.below hb)
    replace HbR := Lib.hid (own_below' HbR.out hb)
    replace HbB := Lib.hid (HbB.out.below hb)
    replace HyR := Lib.hid (own_below' HyR.out hb)
    replace HyB := Lib.hid (HyB.out.below hb)
    clear hb hf
    have HcS := Lib.hid hcs
    clear hcs
    obtain ⟨⟨cn, ct, ck⟩, cu, cd⟩ := cx
    replace hcr : World.ownsRow w10 (qR + 1) 9 1 (.slice ca cd.length cc) cd.length (sc cd) := hcr
    dsimp only
    obtain ⟨cm, hcm⟩ : ∃ x, cd.length = x := ⟨_, rfl⟩
    rw [hcm] at hcr ⊢
    have HcM := Lib.hid hcm
    have HcR := Lib.hid hcr
    clear hcm hcr
    have hba := (Below.refl _ _ : Below w10.heap.size w10 w10).alloc (Nat.le_refl _) (.cells #[.string cn, .int .i64 ct, .int .i64 ck, .int .i64 cu, .slice ca cm cc] 38)
    have HcB := Lib.hid (CN.new w10 #[.string cn, .int .i64 ct, .int .i64 ck, .int .i64 cu, .slice ca cm cc] 38)
    replace HQ := Lib.hid (HQ.out.below hba)
    replace HR4 := Lib.hid (HR4.out.below hba)
    replace HB := Lib.hid (HB.out.trans (hba.mono HB.out.size))
    replace HZN := Lib.hid (HZN.out.below hba)
    replace HK := Lib.hid (HK.out.below hba)
    replace HbR := Lib.hid (own_below' HbR.out hba)
    replace HbB := Lib.hid (HbB.out.below hba)
    replace HyR := Lib.hid (own_below' HyR.out hba)
    replace HyB := Lib.hid (HyB.out.below hba)
    replace HcR := Lib.hid (own_below' HcR.out hba)
    obtain ⟨w11, hw⟩ : ∃ x, w10.alloc (.cells #[.string cn, .int .i64 ct, .int .i64 ck, .int .i64 cu, .slice ca cm cc] 38) = x := ⟨_, rfl⟩
    obtain ⟨q11, hq⟩ : ∃ x, w10.heap.size = x := ⟨_, rfl⟩
    rw [hw, hq] at HcB
    rw [hw] at HQ HR4 HB HZN HK HbR HbB HyR HyB HcR
    have HW := Lib.hid hw
    have HQ_ := Lib.hid hq
    clear hba hw hq
    go_upto_region 11 with (fail)
    rw [HW.out, HQ_.out]
    clear HW HQ_
    cases hfk : findK S ⟨qn, qt, 1⟩ with
    | some s =>
      rw [hfk] at HcS
      obtain rfl : s = ⟨⟨cn, ct, ck⟩, cu, cd⟩ := HcS.out
      have HGD := Lib.hid (show ∀ s ∈ [(⟨⟨cn, ct, ck⟩, cu, cd⟩ : SetP)], ∀ d ∈ s.data, d.size ≤ 1000000 from fun s hs => by obtain rfl := List.mem_singleton.1 hs; exact HZD.out _ (find_mem hfk))
      have HGS := Lib.hid (show sumD [(⟨⟨cn, ct, ck⟩, cu, cd⟩ : SetP)] ≤ 100000 by have h := (HSZ.out.2 _ (find_mem hfk)).2; simpa [sumD] using h)
      replace HV := Lib.hid (HV.out.trans (show ansK S apex qn qt = ⟨1, 0, [⟨⟨cn, ct, ck⟩, cu, cd⟩], [], glueL S [⟨⟨cn, ct, ck⟩, cu, cd⟩]⟩ by rw [ansK, hfk]))
      clear hfk
      simp only [Option.isSome_some]
      go_upto_region 12 with (fail)
      have hbd := (Below.refl w11.heap.size w11).drew
      have HCD := Lib.hid (HcB.out.below hbd)
      replace HR4 := Lib.hid (HR4.out.below hbd)
      replace HZN := Lib.hid (HZN.out.below hbd)
      replace HcR := Lib.hid (own_below' HcR.out hbd)
      replace HB := Lib.hid (HB.out.trans (hbd.mono HB.out.size))
      obtain ⟨wdd, hwd⟩ : ∃ x, w11.drew = x := ⟨_, rfl⟩
      have HBD := Lib.hid (show Below w11.heap.size w11 wdd by rw [← hwd]; exact hbd)
      rw [hwd] at HCD HR4 HZN HcR HB
      clear hbd
      refine wp_region_last_drew (S := (fun wx => Hid (Below w11.heap.size w11 wx) ∧ wx.cell? ⟨q11, 0, none⟩ = some (.string cn) ∧ wx.cell? ⟨q11, 1, none⟩ = some (.int .i64 ct) ∧ wx.cell? ⟨q11, 2, none⟩ = some (.int .i64 ck) ∧ wx.cell? ⟨q11, 3, none⟩ = some (.int .i64 cu) ∧ wx.cell? ⟨q11, 4, none⟩ = some (.slice ca cm cc))) (L := 7) (by kernel_rfl) (by rw [hwd]; exact ⟨HBD, (HCD.out.2 0 _ rfl).1, (HCD.out.2 1 _ rfl).1, (HCD.out.2 2 _ rfl).1, (HCD.out.2 3 _ rfl).1, (HCD.out.2 4 _ rfl).1⟩) (fun hHeld => ?_)
      rw [hwd] at hHeld ⊢
      clear hwd
      refine wpAnyL_take (i := 0) (oi := { dst := some 93, op := Go.Op.load 38 (Go.Operand.tmp 10), type := 38, pos := "auth.go:49", after := #[], guard := none }) (v := ?v0_701) rfl (by kernel_rfl) (by kernel_rfl) (by kernel_rfl) (by kernel_rfl) (by kernel_rfl) (fun _ _ _ h => h) (Or.inl ⟨by rfl, ?y0_701⟩) hHeld ?r0_701
      case y0_701 => intro w hSw; (try dsimp only at hSw); go_simp; try with_reducible rfl
      try simp only [Act.put, List.setIfInBounds_toArray, List.set_cons_zero, List.set_cons_succ]
      refine wpAnyL_take (i := 2) (oi := { dst := some 95, op := Go.Op.move (Go.Operand.tmp 0), type := 28, pos := "auth.go:49", after := #[], guard := none }) (v := ?v2_701) rfl (by kernel_rfl) (by kernel_rfl) (by kernel_rfl) (by kernel_rfl) (by kernel_rfl) (fun _ _ _ h => h) (Or.inl ⟨by rfl, ?y2_701⟩) hHeld ?r2_701
      case y2_701 => intro w hSw; (try dsimp only at hSw); go_simp; try with_reducible rfl
      try simp only [Act.put, List.setIfInBounds_toArray, List.set_cons_zero, List.set_cons_succ]
      refine wpAnyL_take (i := 3) (oi := { dst := some 96, op := Go.Op.load 38 (Go.Operand.tmp 10), type := 38, pos := "auth.go:49", after := #[], guard := none }) (v := ?v3_701) rfl (by kernel_rfl) (by kernel_rfl) (by kernel_rfl) (by kernel_rfl) (by kernel_rfl) (fun _ _ _ h => h) (Or.inl ⟨by rfl, ?y3_701⟩) hHeld ?r3_701
      case y3_701 => intro w hSw; (try dsimp only at hSw); go_simp; try with_reducible rfl
      try simp only [Act.put, List.setIfInBounds_toArray, List.set_cons_zero, List.set_cons_succ]
      refine wpAnyL_ready (rs := [1, 4]) (by kernel_rfl) (by simp) ?_
      refine AllReadyL.cons (o := { dst := some 94, op := Go.Op.buildSlice 61 1 #[(0, Go.Operand.tmp 93)], type := 61, pos := "auth.go:49", after := #[{ on := 0, ground := Go.Ground.data }], guard := none }) rfl (by decide) (fun K hK => ?_) (AllReadyL.cons (o := { dst := some 97, op := Go.Op.buildSlice 61 1 #[(0, Go.Operand.tmp 96)], type := 61, pos := "auth.go:49", after := #[{ on := 3, ground := Go.Ground.data }], guard := none }) rfl (by decide) (fun K hK => ?_) AllReadyL.nil)
      · go_simp
        have hs := SetsUp.one (w := wdd) (sn := cn) (st := ct) (sk := ck) (su := cu) HcM.out HcR.out HR4.out.1
        have hb := (Below.refl _ _ : Below wdd.heap.size wdd wdd).alloc (Nat.le_refl _) (.cells #[.string cn, .int .i64 ct, .int .i64 ck, .int .i64 cu, .slice ca cm cc] 38)
        obtain ⟨wx1, hwe⟩ : ∃ x, wdd.alloc (.cells #[.string cn, .int .i64 ct, .int .i64 ck, .int .i64 cu, .slice ca cm cc] 38) = x := ⟨_, rfl⟩
        rw [hwe] at hs hb ⊢
        replace HR4 := Lib.hid (HR4.out.below hb)
        replace HZN := Lib.hid (HZN.out.below hb)
        replace HcR := Lib.hid (own_below' HcR.out hb)
        replace HB := Lib.hid (HB.out.trans (hb.mono HB.out.size))
        obtain ⟨g1, hge⟩ : ∃ x, wdd.heap.size = x := ⟨_, rfl⟩
        rw [hge] at hs ⊢
        have HS1 := Lib.hid hs
        clear hs hwe hge
        refine hK.out _ _ (⟨Lib.hid (hHeld.1.out.trans (hb.mono hHeld.1.out.size)), cell_later4 hb hHeld.2.1, cell_later4 hb hHeld.2.2.1, cell_later4 hb hHeld.2.2.2.1, cell_later4 hb hHeld.2.2.2.2.1, cell_later4 hb hHeld.2.2.2.2.2⟩) (fun hHeld2 => ?_)
        clear hK K hHeld
        have hHeld := hHeld2
        clear hHeld2
        try simp only [Act.put, List.setIfInBounds_toArray, List.set_cons_zero, List.set_cons_succ]
        refine wpAnyL_ready (rs := [4]) (by kernel_rfl) (by simp) ?_
        refine AllReadyL.cons (o := { dst := some 97, op := Go.Op.buildSlice 61 1 #[(0, Go.Operand.tmp 96)], type := 61, pos := "auth.go:49", after := #[{ on := 3, ground := Go.Ground.data }], guard := none }) rfl (by decide) (fun K hK => ?_) AllReadyL.nil
        go_simp
        have hs := SetsUp.one (w := wx1) (sn := cn) (st := ct) (sk := ck) (su := cu) HcM.out HcR.out HR4.out.1
        have hb := (Below.refl _ _ : Below wx1.heap.size wx1 wx1).alloc (Nat.le_refl _) (.cells #[.string cn, .int .i64 ct, .int .i64 ck, .int .i64 cu, .slice ca cm cc] 38)
        obtain ⟨wx2, hwe⟩ : ∃ x, wx1.alloc (.cells #[.string cn, .int .i64 ct, .int .i64 ck, .int .i64 cu, .slice ca cm cc] 38) = x := ⟨_, rfl⟩
        rw [hwe] at hs hb ⊢
        replace HR4 := Lib.hid (HR4.out.below hb)
        replace HZN := Lib.hid (HZN.out.below hb)
        replace HcR := Lib.hid (own_below' HcR.out hb)
        replace HB := Lib.hid (HB.out.trans (hb.mono HB.out.size))
        replace HS1 := Lib.hid (HS1.out.below hb)
        obtain ⟨g4, hge⟩ : ∃ x, wx1.heap.size = x := ⟨_, rfl⟩
        rw [hge] at hs ⊢
        have HS4 := Lib.hid hs
        clear hs hwe hge
        refine hK.out _ _ (⟨Lib.hid (hHeld.1.out.trans (hb.mono hHeld.1.out.size)), cell_later4 hb hHeld.2.1, cell_later4 hb hHeld.2.2.1, cell_later4 hb hHeld.2.2.2.1, cell_later4 hb hHeld.2.2.2.2.1, cell_later4 hb hHeld.2.2.2.2.2⟩) (fun hHeld2 => ?_)
        clear hK K hHeld
        have hHeld := hHeld2
        clear hHeld2
        try simp only [Act.put, List.setIfInBounds_toArray, List.set_cons_zero, List.set_cons_succ]
        refine wpAnyL_ready (rs := [5]) (by kernel_rfl) (by simp) ?_
        refine AllReadyL.cons (o := { dst := some 98, op := Go.Op.call { callee := Go.Callee.value (Go.Operand.func 78), args := #[Go.Operand.tmp 95, Go.Operand.tmp 97], argTypes := #[28, 61] }, type := 61, pos := "auth.go:49", after := #[{ on := 2, ground := Go.Ground.data }, { on := 4, ground := Go.Ground.data }], guard := none }) rfl (by decide) (fun K hK => ?_) AllReadyL.nil
        go_simp
        refine (glue_any z apex S (some ⟨g4, 0, none⟩) 1 1 [⟨⟨cn, ct, ck⟩, cu, cd⟩] wx2 HZN.out HRI.out HSZ.out HS4.out.at (by decide) HGD.out HGS.out).mono ?_; rintro e wx3 ⟨v, G, T, m, rfl, htg, hgm, hgl, hgn, hos, hb⟩
        obtain ⟨ga, gc, rfl, hsg, hgnil⟩ := SetsUp.own hos
        rw [hgm, ← tgF_eq htg] at hsg
        rw [hgl] at hsg hgnil ⊢
        have HGN := Lib.hid hgnil
        have HSG := Lib.hid (show SetsUp wx3 (qR + 1) ga m (glueL S [⟨⟨cn, ct, ck⟩, cu, cd⟩]) from hsg.mono HR4.out.1)
        replace HR4 := Lib.hid (HR4.out.below hb)
        replace HZN := Lib.hid (HZN.out.below hb)
        replace HcR := Lib.hid (own_below' HcR.out hb)
        replace HB := Lib.hid (HB.out.trans (hb.mono HB.out.size))
        replace HS1 := Lib.hid (HS1.out.below hb)
        replace HS4 := Lib.hid (HS4.out.below hb)
        clear hos hsg hgnil hgm hgl hgn htg
        go_wp2_with fail
        refine hK.out _ _ (⟨Lib.hid (hHeld.1.out.trans (hb.mono hHeld.1.out.size)), cell_later4 hb hHeld.2.1, cell_later4 hb hHeld.2.2.1, cell_later4 hb hHeld.2.2.2.1, cell_later4 hb hHeld.2.2.2.2.1, cell_later4 hb hHeld.2.2.2.2.2⟩) (fun hHeld2 => ?_)
        clear hK K hHeld
        have hHeld := hHeld2
        clear hHeld2
        try simp only [Act.put, List.setIfInBounds_toArray, List.set_cons_zero, List.set_cons_succ]
        refine wpAnyL_take (i := 6) (oi := { dst := some 99, op := Go.Op.build 71 #[(0, Go.Operand.const (Go.Value.int Go.IntKind.i64 1)), (2, Go.Operand.tmp 94), (4, Go.Operand.tmp 98)], type := 71, pos := "auth.go:49", after := #[{ on := 1, ground := Go.Ground.data }, { on := 5, ground := Go.Ground.data }], guard := none }) (v := ?v6_704) rfl (by kernel_rfl) (by kernel_rfl) (by kernel_rfl) (by kernel_rfl) (by kernel_rfl) (fun _ _ _ h => h) (Or.inl ⟨by rfl, ?y6_704⟩) hHeld ?r6_704
        case y6_704 => intro w hSw; (try dsimp only at hSw); go_simp; try with_reducible rfl
        try simp only [Act.put, List.setIfInBounds_toArray, List.set_cons_zero, List.set_cons_succ]
        refine wpAnyL_ready (rs := [7]) (by kernel_rfl) (by simp) ?_
        refine AllReadyL.last (o := { dst := none, op := Go.Op.store 71 (Go.Operand.tmp 4) (Go.Operand.tmp 99), type := 0, pos := "auth.go:49", after := #[{ on := 6, ground := Go.Ground.data }, { on := 5, ground := Go.Ground.chain }, { on := 0, ground := Go.Ground.phase }, { on := 1, ground := Go.Ground.phase }, { on := 2, ground := Go.Ground.phase }, { on := 3, ground := Go.Ground.phase }, { on := 4, ground := Go.Ground.phase }, { on := 5, ground := Go.Ground.phase }, { on := 6, ground := Go.Ground.phase }], guard := none }) rfl (by decide) (fun K hK => ?_) AllReadyL.nil
        have KZ := Lib.hid (HR4.out.s5 (.int .i64 1) (.int .i64 0) (.slice (some ⟨g1, 0, none⟩) 1 1) (.slice none 0 0) (.slice ga m gc))
        have HGZ := Lib.hid (grown_s5 wx3 qR (.int .i64 1) (.int .i64 0) (.slice (some ⟨g1, 0, none⟩) 1 1) (.slice none 0 0) (.slice ga m gc))
        have HBZ := Lib.hid (HB.out.grown HGZ.out HB.out.size (fun k hk => by injection hk with hk; rw [← hk]; exact HQ4.out))
        have HS1Z := Lib.hid (HS1.out.far HGZ.out (Nat.lt_succ_self _))
        have HSGZ := Lib.hid (HSG.out.far HGZ.out (Nat.lt_succ_self _))
        obtain ⟨y0, y1, y2, y3, y4, f0, f1, f2, f3, f4⟩ := HR4.out.u5
        go_wp2_with fail
        refine hK.out _ _ trivial (fun _ => ?_)
        clear hK K
        try simp only [Act.put, List.setIfInBounds_toArray, List.set_cons_zero, List.set_cons_succ]
        refine wpAnyL_done (by kernel_rfl) ?_ _
        repeat go_step
        obtain ⟨wz, hwz⟩ : ∃ x, (((((wx3.setCell ⟨qR, 0, none⟩ (.int .i64 1)).setCell ⟨qR, 1, none⟩ (.int .i64 0)).setCell ⟨qR, 2, none⟩ (.slice (some ⟨g1, 0, none⟩) 1 1)).setCell ⟨qR, 3, none⟩ (.slice none 0 0)).setCell ⟨qR, 4, none⟩ (.slice ga m gc)) = x := ⟨_, rfl⟩
        rw [hwz] at KZ HBZ HS1Z HSGZ ⊢
        clear hwz HGZ y0 y1 y2 y3 y4 f0 f1 f2 f3 f4
        obtain ⟨z0, z1, z2, z3, z4, _⟩ := KZ.out.u5
        refine bodyPost_ret (v := .agg #[.int .i64 1, .int .i64 0, .slice (some ⟨g1, 0, none⟩) 1 1, .slice none 0 0, .slice ga m gc]) (by simp [results, Tryz.results33, go_sem, z0, z1, z2, z3, z4]) rfl ⟨⟨_, rfl, by rw [HV.out]; exact ⟨_, _, _, _, _, _, _, _, _, rfl, ((HS1Z.out).mono HBQ.out), (fun h => by cases h), ((SetsUp.nil _ (qR + 1)).mono HBQ.out), (fun _ => ⟨rfl, rfl⟩), ((HSGZ.out).mono HBQ.out), HGN.out⟩⟩, HBZ.out⟩
      · go_simp
        have hs := SetsUp.one (w := wdd) (sn := cn) (st := ct) (sk := ck) (su := cu) HcM.out HcR.out HR4.out.1
        have hb := (Below.refl _ _ : Below wdd.heap.size wdd wdd).alloc (Nat.le_refl _) (.cells #[.string cn, .int .i64 ct, .int .i64 ck, .int .i64 cu, .slice ca cm cc] 38)
        obtain ⟨wx1, hwe⟩ : ∃ x, wdd.alloc (.cells #[.string cn, .int .i64 ct, .int .i64 ck, .int .i64 cu, .slice ca cm cc] 38) = x := ⟨_, rfl⟩
        rw [hwe] at hs hb ⊢
        replace HR4 := Lib.hid (HR4.out.below hb)
        replace HZN := Lib.hid (HZN.out.below hb)
        replace HcR := Lib.hid (own_below' HcR.out hb)
        replace HB := Lib.hid (HB.out.trans (hb.mono HB.out.size))
        obtain ⟨g4, hge⟩ : ∃ x, wdd.heap.size = x := ⟨_, rfl⟩
        rw [hge] at hs ⊢
        have HS4 := Lib.hid hs
        clear hs hwe hge
        refine hK.out _ _ (⟨Lib.hid (hHeld.1.out.trans (hb.mono hHeld.1.out.size)), cell_later4 hb hHeld.2.1, cell_later4 hb hHeld.2.2.1, cell_later4 hb hHeld.2.2.2.1, cell_later4 hb hHeld.2.2.2.2.1, cell_later4 hb hHeld.2.2.2.2.2⟩) (fun hHeld2 => ?_)
        clear hK K hHeld
        have hHeld := hHeld2
        clear hHeld2
        try simp only [Act.put, List.setIfInBounds_toArray, List.set_cons_zero, List.set_cons_succ]
        refine wpAnyL_ready (rs := [1, 5]) (by kernel_rfl) (by simp) ?_
        refine AllReadyL.cons (o := { dst := some 94, op := Go.Op.buildSlice 61 1 #[(0, Go.Operand.tmp 93)], type := 61, pos := "auth.go:49", after := #[{ on := 0, ground := Go.Ground.data }], guard := none }) rfl (by decide) (fun K hK => ?_) (AllReadyL.cons (o := { dst := some 98, op := Go.Op.call { callee := Go.Callee.value (Go.Operand.func 78), args := #[Go.Operand.tmp 95, Go.Operand.tmp 97], argTypes := #[28, 61] }, type := 61, pos := "auth.go:49", after := #[{ on := 2, ground := Go.Ground.data }, { on := 4, ground := Go.Ground.data }], guard := none }) rfl (by decide) (fun K hK => ?_) AllReadyL.nil)
        · go_simp
          have hs := SetsUp.one (w := wx1) (sn := cn) (st := ct) (sk := ck) (su := cu) HcM.out HcR.out HR4.out.1
          have hb := (Below.refl _ _ : Below wx1.heap.size wx1 wx1).alloc (Nat.le_refl _) (.cells #[.string cn, .int .i64 ct, .int .i64 ck, .int .i64 cu, .slice ca cm cc] 38)
          obtain ⟨wx2, hwe⟩ : ∃ x, wx1.alloc (.cells #[.string cn, .int .i64 ct, .int .i64 ck, .int .i64 cu, .slice ca cm cc] 38) = x := ⟨_, rfl⟩
          rw [hwe] at hs hb ⊢
          replace HR4 := Lib.hid (HR4.out.below hb)
          replace HZN := Lib.hid (HZN.out.below hb)
          replace HcR := Lib.hid (own_below' HcR.out hb)
          replace HB := Lib.hid (HB.out.trans (hb.mono HB.out.size))
          replace HS4 := Lib.hid (HS4.out.below hb)
          obtain ⟨g1, hge⟩ : ∃ x, wx1.heap.size = x := ⟨_, rfl⟩
          rw [hge] at hs ⊢
          have HS1 := Lib.hid hs
          clear hs hwe hge
          refine hK.out _ _ (⟨Lib.hid (hHeld.1.out.trans (hb.mono hHeld.1.out.size)), cell_later4 hb hHeld.2.1, cell_later4 hb hHeld.2.2.1, cell_later4 hb hHeld.2.2.2.1, cell_later4 hb hHeld.2.2.2.2.1, cell_later4 hb hHeld.2.2.2.2.2⟩) (fun hHeld2 => ?_)
          clear hK K hHeld
          have hHeld := hHeld2
          clear hHeld2
          try simp only [Act.put, List.setIfInBounds_toArray, List.set_cons_zero, List.set_cons_succ]
          refine wpAnyL_ready (rs := [5]) (by kernel_rfl) (by simp) ?_
          refine AllReadyL.cons (o := { dst := some 98, op := Go.Op.call { callee := Go.Callee.value (Go.Operand.func 78), args := #[Go.Operand.tmp 95, Go.Operand.tmp 97], argTypes := #[28, 61] }, type := 61, pos := "auth.go:49", after := #[{ on := 2, ground := Go.Ground.data }, { on := 4, ground := Go.Ground.data }], guard := none }) rfl (by decide) (fun K hK => ?_) AllReadyL.nil
          go_simp
          refine (glue_any z apex S (some ⟨g4, 0, none⟩) 1 1 [⟨⟨cn, ct, ck⟩, cu, cd⟩] wx2 HZN.out HRI.out HSZ.out HS4.out.at (by decide) HGD.out HGS.out).mono ?_; rintro e wx3 ⟨v, G, T, m, rfl, htg, hgm, hgl, hgn, hos, hb⟩
          obtain ⟨ga, gc, rfl, hsg, hgnil⟩ := SetsUp.own hos
          rw [hgm, ← tgF_eq htg] at hsg
          rw [hgl] at hsg hgnil ⊢
          have HGN := Lib.hid hgnil
          have HSG := Lib.hid (show SetsUp wx3 (qR + 1) ga m (glueL S [⟨⟨cn, ct, ck⟩, cu, cd⟩]) from hsg.mono HR4.out.1)
          replace HR4 := Lib.hid (HR4.out.below hb)
          replace HZN := Lib.hid (HZN.out.below hb)
          replace HcR := Lib.hid (own_below' HcR.out hb)
          replace HB := Lib.hid (HB.out.trans (hb.mono HB.out.size))
          replace HS1 := Lib.hid (HS1.out.below hb)
          replace HS4 := Lib.hid (HS4.out.below hb)
          clear hos hsg hgnil hgm hgl hgn htg
          go_wp2_with fail
          refine hK.out _ _ (⟨Lib.hid (hHeld.1.out.trans (hb.mono hHeld.1.out.size)), cell_later4 hb hHeld.2.1, cell_later4 hb hHeld.2.2.1, cell_later4 hb hHeld.2.2.2.1, cell_later4 hb hHeld.2.2.2.2.1, cell_later4 hb hHeld.2.2.2.2.2⟩) (fun hHeld2 => ?_)
          clear hK K hHeld
          have hHeld := hHeld2
          clear hHeld2
          try simp only [Act.put, List.setIfInBounds_toArray, List.set_cons_zero, List.set_cons_succ]
          refine wpAnyL_take (i := 6) (oi := { dst := some 99, op := Go.Op.build 71 #[(0, Go.Operand.const (Go.Value.int Go.IntKind.i64 1)), (2, Go.Operand.tmp 94), (4, Go.Operand.tmp 98)], type := 71, pos := "auth.go:49", after := #[{ on := 1, ground := Go.Ground.data }, { on := 5, ground := Go.Ground.data }], guard := none }) (v := ?v6_708) rfl (by kernel_rfl) (by kernel_rfl) (by kernel_rfl) (by kernel_rfl) (by kernel_rfl) (fun _ _ _ h => h) (Or.inl ⟨by rfl, ?y6_708⟩) hHeld ?r6_708
          case y6_708 => intro w hSw; (try dsimp only at hSw); go_simp; try with_reducible rfl
          try simp only [Act.put, List.setIfInBounds_toArray, List.set_cons_zero, List.set_cons_succ]
          refine wpAnyL_ready (rs := [7]) (by kernel_rfl) (by simp) ?_
          refine AllReadyL.last (o := { dst := none, op := Go.Op.store 71 (Go.Operand.tmp 4) (Go.Operand.tmp 99), type := 0, pos := "auth.go:49", after := #[{ on := 6, ground := Go.Ground.data }, { on := 5, ground := Go.Ground.chain }, { on := 0, ground := Go.Ground.phase }, { on := 1, ground := Go.Ground.phase }, { on := 2, ground := Go.Ground.phase }, { on := 3, ground := Go.Ground.phase }, { on := 4, ground := Go.Ground.phase }, { on := 5, ground := Go.Ground.phase }, { on := 6, ground := Go.Ground.phase }], guard := none }) rfl (by decide) (fun K hK => ?_) AllReadyL.nil
          have KZ := Lib.hid (HR4.out.s5 (.int .i64 1) (.int .i64 0) (.slice (some ⟨g1, 0, none⟩) 1 1) (.slice none 0 0) (.slice ga m gc))
          have HGZ := Lib.hid (grown_s5 wx3 qR (.int .i64 1) (.int .i64 0) (.slice (some ⟨g1, 0, none⟩) 1 1) (.slice none 0 0) (.slice ga m gc))
          have HBZ := Lib.hid (HB.out.grown HGZ.out HB.out.size (fun k hk => by injection hk with hk; rw [← hk]; exact HQ4.out))
          have HS1Z := Lib.hid (HS1.out.far HGZ.out (Nat.lt_succ_self _))
          have HSGZ := Lib.hid (HSG.out.far HGZ.out (Nat.lt_succ_self _))
          obtain ⟨y0, y1, y2, y3, y4, f0, f1, f2, f3, f4⟩ := HR4.out.u5
          go_wp2_with fail
          refine hK.out _ _ trivial (fun _ => ?_)
          clear hK K
          try simp only [Act.put, List.setIfInBounds_toArray, List.set_cons_zero, List.set_cons_succ]
          refine wpAnyL_done (by kernel_rfl) ?_ _
          repeat go_step
          obtain ⟨wz, hwz⟩ : ∃ x, (((((wx3.setCell ⟨qR, 0, none⟩ (.int .i64 1)).setCell ⟨qR, 1, none⟩ (.int .i64 0)).setCell ⟨qR, 2, none⟩ (.slice (some ⟨g1, 0, none⟩) 1 1)).setCell ⟨qR, 3, none⟩ (.slice none 0 0)).setCell ⟨qR, 4, none⟩ (.slice ga m gc)) = x := ⟨_, rfl⟩
          rw [hwz] at KZ HBZ HS1Z HSGZ ⊢
          clear hwz HGZ y0 y1 y2 y3 y4 f0 f1 f2 f3 f4
          obtain ⟨z0, z1, z2, z3, z4, _⟩ := KZ.out.u5
          refine bodyPost_ret (v := .agg #[.int .i64 1, .int .i64 0, .slice (some ⟨g1, 0, none⟩) 1 1, .slice none 0 0, .slice ga m gc]) (by simp [results, Tryz.results33, go_sem, z0, z1, z2, z3, z4]) rfl ⟨⟨_, rfl, by rw [HV.out]; exact ⟨_, _, _, _, _, _, _, _, _, rfl, ((HS1Z.out).mono HBQ.out), (fun h => by cases h), ((SetsUp.nil _ (qR + 1)).mono HBQ.out), (fun _ => ⟨rfl, rfl⟩), ((HSGZ.out).mono HBQ.out), HGN.out⟩⟩, HBZ.out⟩
        · go_simp
          refine (glue_any z apex S (some ⟨g4, 0, none⟩) 1 1 [⟨⟨cn, ct, ck⟩, cu, cd⟩] wx1 HZN.out HRI.out HSZ.out HS4.out.at (by decide) HGD.out HGS.out).mono ?_; rintro e wx2 ⟨v, G, T, m, rfl, htg, hgm, hgl, hgn, hos, hb⟩
          obtain ⟨ga, gc, rfl, hsg, hgnil⟩ := SetsUp.own hos
          rw [hgm, ← tgF_eq htg] at hsg
          rw [hgl] at hsg hgnil ⊢
          have HGN := Lib.hid hgnil
          have HSG := Lib.hid (show SetsUp wx2 (qR + 1) ga m (glueL S [⟨⟨cn, ct, ck⟩, cu, cd⟩]) from hsg.mono HR4.out.1)
          replace HR4 := Lib.hid (HR4.out.below hb)
          replace HZN := Lib.hid (HZN.out.below hb)
          replace HcR := Lib.hid (own_below' HcR.out hb)
          replace HB := Lib.hid (HB.out.trans (hb.mono HB.out.size))
          replace HS4 := Lib.hid (HS4.out.below hb)
          clear hos hsg hgnil hgm hgl hgn htg
          go_wp2_with fail
          refine hK.out _ _ (⟨Lib.hid (hHeld.1.out.trans (hb.mono hHeld.1.out.size)), cell_later4 hb hHeld.2.1, cell_later4 hb hHeld.2.2.1, cell_later4 hb hHeld.2.2.2.1, cell_later4 hb hHeld.2.2.2.2.1, cell_later4 hb hHeld.2.2.2.2.2⟩) (fun hHeld2 => ?_)
          clear hK K hHeld
          have hHeld := hHeld2
          clear hHeld2
          try simp only [Act.put, List.setIfInBounds_toArray, List.set_cons_zero, List.set_cons_succ]
          refine wpAnyL_ready (rs := [1]) (by kernel_rfl) (by simp) ?_
          refine AllReadyL.cons (o := { dst := some 94, op := Go.Op.buildSlice 61 1 #[(0, Go.Operand.tmp 93)], type := 61, pos := "auth.go:49", after := #[{ on := 0, ground := Go.Ground.data }], guard := none }) rfl (by decide) (fun K hK => ?_) AllReadyL.nil
          go_simp
          have hs := SetsUp.one (w := wx2) (sn := cn) (st := ct) (sk := ck) (su := cu) HcM.out HcR.out HR4.out.1
          have hb := (Below.refl _ _ : Below wx2.heap.size wx2 wx2).alloc (Nat.le_refl _) (.cells #[.string cn, .int .i64 ct, .int .i64 ck, .int .i64 cu, .slice ca cm cc] 38)
          obtain ⟨wx3, hwe⟩ : ∃ x, wx2.alloc (.cells #[.string cn, .int .i64 ct, .int .i64 ck, .int .i64 cu, .slice ca cm cc] 38) = x := ⟨_, rfl⟩
          rw [hwe] at hs hb ⊢
          replace HR4 := Lib.hid (HR4.out.below hb)
          replace HZN := Lib.hid (HZN.out.below hb)
          replace HcR := Lib.hid (own_below' HcR.out hb)
          replace HB := Lib.hid (HB.out.trans (hb.mono HB.out.size))
          replace HS4 := Lib.hid (HS4.out.below hb)
          replace HSG := Lib.hid (HSG.out.below hb)
          obtain ⟨g1, hge⟩ : ∃ x, wx2.heap.size = x := ⟨_, rfl⟩
          rw [hge] at hs ⊢
          have HS1 := Lib.hid hs
          clear hs hwe hge
          refine hK.out _ _ (⟨Lib.hid (hHeld.1.out.trans (hb.mono hHeld.1.out.size)), cell_later4 hb hHeld.2.1, cell_later4 hb hHeld.2.2.1, cell_later4 hb hHeld.2.2.2.1, cell_later4 hb hHeld.2.2.2.2.1, cell_later4 hb hHeld.2.2.2.2.2⟩) (fun hHeld2 => ?_)
          clear hK K hHeld
          have hHeld := hHeld2
          clear hHeld2
          try simp only [Act.put, List.setIfInBounds_toArray, List.set_cons_zero, List.set_cons_succ]
          refine wpAnyL_take (i := 6) (oi := { dst := some 99, op := Go.Op.build 71 #[(0, Go.Operand.const (Go.Value.int Go.IntKind.i64 1)), (2, Go.Operand.tmp 94), (4, Go.Operand.tmp 98)], type := 71, pos := "auth.go:49", after := #[{ on := 1, ground := Go.Ground.data }, { on := 5, ground := Go.Ground.data }], guard := none }) (v := ?v6_711) rfl (by kernel_rfl) (by kernel_rfl) (by kernel_rfl) (by kernel_rfl) (by kernel_rfl) (fun _ _ _ h => h) (Or.inl ⟨by rfl, ?y6_711⟩) hHeld ?r6_711
          case y6_711 => intro w hSw; (try dsimp only at hSw); go_simp; try with_reducible rfl
          try simp only [Act.put, List.setIfInBounds_toArray, List.set_cons_zero, List.set_cons_succ]
          refine wpAnyL_ready (rs := [7]) (by kernel_rfl) (by simp) ?_
          refine AllReadyL.last (o := { dst := none, op := Go.Op.store 71 (Go.Operand.tmp 4) (Go.Operand.tmp 99), type := 0, pos := "auth.go:49", after := #[{ on := 6, ground := Go.Ground.data }, { on := 5, ground := Go.Ground.chain }, { on := 0, ground := Go.Ground.phase }, { on := 1, ground := Go.Ground.phase }, { on := 2, ground := Go.Ground.phase }, { on := 3, ground := Go.Ground.phase }, { on := 4, ground := Go.Ground.phase }, { on := 5, ground := Go.Ground.phase }, { on := 6, ground := Go.Ground.phase }], guard := none }) rfl (by decide) (fun K hK => ?_) AllReadyL.nil
          have KZ := Lib.hid (HR4.out.s5 (.int .i64 1) (.int .i64 0) (.slice (some ⟨g1, 0, none⟩) 1 1) (.slice none 0 0) (.slice ga m gc))
          have HGZ := Lib.hid (grown_s5 wx3 qR (.int .i64 1) (.int .i64 0) (.slice (some ⟨g1, 0, none⟩) 1 1) (.slice none 0 0) (.slice ga m gc))
          have HBZ := Lib.hid (HB.out.grown HGZ.out HB.out.size (fun k hk => by injection hk with hk; rw [← hk]; exact HQ4.out))
          have HS1Z := Lib.hid (HS1.out.far HGZ.out (Nat.lt_succ_self _))
          have HSGZ := Lib.hid (HSG.out.far HGZ.out (Nat.lt_succ_self _))
          obtain ⟨y0, y1, y2, y3, y4, f0, f1, f2, f3, f4⟩ := HR4.out.u5
          go_wp2_with fail
          refine hK.out _ _ trivial (fun _ => ?_)
          clear hK K
          try simp only [Act.put, List.setIfInBounds_toArray, List.set_cons_zero, List.set_cons_succ]
          refine wpAnyL_done (by kernel_rfl) ?_ _
          repeat go_step
          obtain ⟨wz, hwz⟩ : ∃ x, (((((wx3.setCell ⟨qR, 0, none⟩ (.int .i64 1)).setCell ⟨qR, 1, none⟩ (.int .i64 0)).setCell ⟨qR, 2, none⟩ (.slice (some ⟨g1, 0, none⟩) 1 1)).setCell ⟨qR, 3, none⟩ (.slice none 0 0)).setCell ⟨qR, 4, none⟩ (.slice ga m gc)) = x := ⟨_, rfl⟩
          rw [hwz] at KZ HBZ HS1Z HSGZ ⊢
          clear hwz HGZ y0 y1 y2 y3 y4 f0 f1 f2 f3 f4
          obtain ⟨z0, z1, z2, z3, z4, _⟩ := KZ.out.u5
          refine bodyPost_ret (v := .agg #[.int .i64 1, .int .i64 0, .slice (some ⟨g1, 0, none⟩) 1 1, .slice none 0 0, .slice ga m gc]) (by simp [results, Tryz.results33, go_sem, z0, z1, z2, z3, z4]) rfl ⟨⟨_, rfl, by rw [HV.out]; exact ⟨_, _, _, _, _, _, _, _, _, rfl, ((HS1Z.out).mono HBQ.out), (fun h => by cases h), ((SetsUp.nil _ (qR + 1)).mono HBQ.out), (fun _ => ⟨rfl, rfl⟩), ((HSGZ.out).mono HBQ.out), HGN.out⟩⟩, HBZ.out⟩
    | none =>
      replace HV := Lib.hid (HV.out.trans (show ansK S apex qn qt = (if thereP S qn = true then ⟨5, 0, [], soaL S apex, []⟩ else ⟨4, 3, [], soaL S apex, []⟩) by rw [ansK, hfk]))
      clear hfk HcS
      simp only [Option.isSome_none]
      go_wp2_with fail
      refine (zapex_any z apex S _ HZN.out).mono ?_; rintro e w99 ⟨rfl, rfl⟩
      go_wp2_with fail
      refine (akey_any apex 6 w11).mono ?_; rintro e w12 ⟨rfl, hb⟩
      replace HQ := Lib.hid (HQ.out.below hb)
      replace HR4 := Lib.hid (HR4.out.below hb)
      replace HB := Lib.hid (HB.out.trans (hb.mono HB.out.size))
      replace HZN := Lib.hid (HZN.out.below hb)
      replace HK := Lib.hid (HK.out.below hb)
      replace HbR := Lib.hid (own_below' HbR.out hb)
      replace HbB := Lib.hid (HbB.out.below hb)
      replace HyR := Lib.hid (own_below' HyR.out hb)
      replace HyB := Lib.hid (HyB.out.below hb)
      replace HcR := Lib.hid (own_below' HcR.out hb)
      replace HcB := Lib.hid (HcB.out.below hb)
      clear hb
      go_wp2_with fail
      refine (zget_any z apex S apex 6 1 w12 HZN.out HRI.out HSZ.out HA.out).mono ?_; rintro e w13 ⟨hf, hb⟩
      obtain ⟨rx, ra, rc, hrs, rfl, hrr⟩ := found_getD hf
      replace hrr := own_mono4 (base' := qR + 1) hrr HR4.out.1
      replace HQ := Lib.hid (HQ.out.below hb)
      replace HR4 := Lib.hid (HR4.out.below hb)
      replace HB := Lib.hid (HB.out.trans (hb.mono HB.out.size))
      replace HZN := Lib.hid (HZN.out.below hb)
      replace HK := Lib.hid (HK.out.below hb)
      replace HbR := Lib.hid (own_below' HbR.out hb)
      replace HbB := Lib.hid (HbB.out.below hb)
      replace HyR := Lib.hid (own_below' HyR.out hb)
      replace HyB := Lib.hid (HyB.out.below hb)
      replace HcR := Lib.hid (own_below' HcR.out hb)
      replace HcB := Lib.hid (HcB.out.below hb)
      clear hb hf
      have HrS := Lib.hid hrs
      clear hrs
      obtain ⟨⟨rn, rt, rk⟩, ru, rd⟩ := rx
      replace hrr : World.ownsRow w13 (qR + 1) 9 1 (.slice ra rd.length rc) rd.length (sc rd) := hrr
      dsimp only
      obtain ⟨rm, hrm⟩ : ∃ x, rd.length = x := ⟨_, rfl⟩
      rw [hrm] at hrr ⊢
      have HrM := Lib.hid hrm
      have HrR := Lib.hid hrr
      clear hrm hrr
      have hba := (Below.refl _ _ : Below w13.heap.size w13 w13).alloc (Nat.le_refl _) (.cells #[.string rn, .int .i64 rt, .int .i64 rk, .int .i64 ru, .slice ra rm rc] 38)
      have HrB := Lib.hid (CN.new w13 #[.string rn, .int .i64 rt, .int .i64 rk, .int .i64 ru, .slice ra rm rc] 38)
      replace HQ := Lib.hid (HQ.out.below hba)
      replace HR4 := Lib.hid (HR4.out.below hba)
      replace HB := Lib.hid (HB.out.trans (hba.mono HB.out.size))
      replace HZN := Lib.hid (HZN.out.below hba)
      replace HK := Lib.hid (HK.out.below hba)
      replace HbR := Lib.hid (own_below' HbR.out hba)
      replace HbB := Lib.hid (HbB.out.below hba)
      replace HyR := Lib.hid (own_below' HyR.out hba)
      replace HyB := Lib.hid (HyB.out.below hba)
      replace HcR := Lib.hid (own_below' HcR.out hba)
      replace HcB := Lib.hid (HcB.out.below hba)
      replace HrR := Lib.hid (own_below' HrR.out hba)
      obtain ⟨w14, hw⟩ : ∃ x, w13.alloc (.cells #[.string rn, .int .i64 rt, .int .i64 rk, .int .i64 ru, .slice ra rm rc] 38) = x := ⟨_, rfl⟩
      obtain ⟨q14, hq⟩ : ∃ x, w13.heap.size = x := ⟨_, rfl⟩
      rw [hw, hq] at HrB
      rw [hw] at HQ HR4 HB HZN HK HbR HbB HyR HyB HcR HcB HrR
      have HW := Lib.hid hw
      have HQ_ := Lib.hid hq
      clear hba hw hq
      go_upto_region 14 with (fail)
      rw [HW.out, HQ_.out]
      clear HW HQ_
      have HSO := Lib.hid (show soaL S apex = [⟨⟨rn, rt, rk⟩, ru, rd⟩] by rw [soaL, HrS.out])
      obtain ⟨p0, p1, p2, _⟩ := HQ.out.v3
      have HTH := Lib.hid (zthere_any z apex S qn w14 HZN.out HSZ.out HA.out HN.out)
      rw [HU.out, Bool.true_and] at HTH
      obtain ⟨tb, htb⟩ : ∃ x, thereP S qn = x := ⟨_, rfl⟩
      rw [htb, HSO.out] at HV
      rw [htb] at HTH
      clear htb
      go_wp2_with fail
      refine HTH.out.mono ?_; rintro e w15 ⟨rfl, hb⟩
      clear p0 p1 p2
      replace HQ := Lib.hid (HQ.out.below hb)
      replace HR4 := Lib.hid (HR4.out.below hb)
      replace HB := Lib.hid (HB.out.trans (hb.mono HB.out.size))
      replace HZN := Lib.hid (HZN.out.below hb)
      replace HK := Lib.hid (HK.out.below hb)
      replace HbR := Lib.hid (own_below' HbR.out hb)
      replace HbB := Lib.hid (HbB.out.below hb)
      replace HyR := Lib.hid (own_below' HyR.out hb)
      replace HyB := Lib.hid (HyB.out.below hb)
      replace HcR := Lib.hid (own_below' HcR.out hb)
      replace HcB := Lib.hid (HcB.out.below hb)
      replace HrR := Lib.hid (own_below' HrR.out hb)
      replace HrB := Lib.hid (HrB.out.below hb)
      clear hb HTH
      cases tb
      · replace HV := Lib.hid (show ansF S apex qn qt qc = ⟨4, 3, [], [⟨⟨rn, rt, rk⟩, ru, rd⟩], []⟩ from HV.out)
        go_upto_region 16 with (fail)
        obtain ⟨y0, y1, y2, y3, y4, _⟩ := HrB.out.u5
        have HS1 := Lib.hid (SetsUp.one (w := w15) (sn := rn) (st := rt) (sk := rk) (su := ru) HrM.out HrR.out HR4.out.1)
        iterate 7 go_step
        have hba := (Below.refl _ _ : Below w15.heap.size w15 w15).alloc (Nat.le_refl _) (.cells #[.string rn, .int .i64 rt, .int .i64 rk, .int .i64 ru, .slice ra rm rc] 38)
        replace HQ := Lib.hid (HQ.out.below hba)
        replace HR4 := Lib.hid (HR4.out.below hba)
        replace HB := Lib.hid (HB.out.trans (hba.mono HB.out.size))
        replace HZN := Lib.hid (HZN.out.below hba)
        replace HK := Lib.hid (HK.out.below hba)
        replace HbR := Lib.hid (own_below' HbR.out hba)
        replace HbB := Lib.hid (HbB.out.below hba)
        replace HyR := Lib.hid (own_below' HyR.out hba)
        replace HyB := Lib.hid (HyB.out.below hba)
        replace HcR := Lib.hid (own_below' HcR.out hba)
        replace HcB := Lib.hid (HcB.out.below hba)
        replace HrR := Lib.hid (own_below' HrR.out hba)
        replace HrB := Lib.hid (HrB.out.below hba)
        clear hba
        obtain ⟨wA, hwA⟩ : ∃ x, w15.alloc (.cells #[.string rn, .int .i64 rt, .int .i64 rk, .int .i64 ru, .slice ra rm rc] 38) = x := ⟨_, rfl⟩
        obtain ⟨gA, hgA⟩ : ∃ x, w15.heap.size = x := ⟨_, rfl⟩
        rw [hwA] at HQ HR4 HB HZN HK HbR HbB HyR HyB HcR HcB HrR HrB HS1 ⊢
        rw [hgA] at HS1 ⊢
        clear hwA hgA y0 y1 y2 y3 y4
        obtain ⟨g0, g1, g2, g3, g4, f0, f1, f2, f3, f4⟩ := HR4.out.u5
        have KZ := Lib.hid (HR4.out.s5 (.int .i64 4) (.int .i64 3) (.slice none 0 0) (.slice (some ⟨gA, 0, none⟩) 1 1) (.slice none 0 0))
        have HGZ := Lib.hid (grown_s5 wA qR (.int .i64 4) (.int .i64 3) (.slice none 0 0) (.slice (some ⟨gA, 0, none⟩) 1 1) (.slice none 0 0))
        have HBZ := Lib.hid (HB.out.grown HGZ.out HB.out.size (fun k hk => by injection hk with hk; rw [← hk]; exact HQ4.out))
        have HS1Z := Lib.hid (HS1.out.far HGZ.out (Nat.lt_succ_self _))
        repeat go_step
        obtain ⟨wz, hwz⟩ : ∃ x, (((((wA.setCell ⟨qR, 0, none⟩ (.int .i64 4)).setCell ⟨qR, 1, none⟩ (.int .i64 3)).setCell ⟨qR, 2, none⟩ (.slice none 0 0)).setCell ⟨qR, 3, none⟩ (.slice (some ⟨gA, 0, none⟩) 1 1)).setCell ⟨qR, 4, none⟩ (.slice none 0 0)) = x := ⟨_, rfl⟩
        rw [hwz] at KZ HBZ HS1Z ⊢
        clear hwz HGZ g0 g1 g2 g3 g4 f0 f1 f2 f3 f4
        obtain ⟨z0, z1, z2, z3, z4, _⟩ := KZ.out.u5
        refine bodyPost_ret (v := .agg #[.int .i64 4, .int .i64 3, .slice none 0 0, .slice (some ⟨gA, 0, none⟩) 1 1, .slice none 0 0]) (by simp [results, Tryz.results33, go_sem, z0, z1, z2, z3, z4]) rfl ⟨⟨_, rfl, by rw [HV.out]; exact ⟨_, _, _, _, _, _, _, _, _, rfl, ((SetsUp.nil _ (qR + 1)).mono HBQ.out), (fun _ => ⟨rfl, rfl⟩), ((HS1Z.out).mono HBQ.out), (fun h => by cases h), ((SetsUp.nil _ (qR + 1)).mono HBQ.out), (fun _ => ⟨rfl, rfl⟩)⟩⟩, HBZ.out⟩
      · replace HV := Lib.hid (show ansF S apex qn qt qc = ⟨5, 0, [], [⟨⟨rn, rt, rk⟩, ru, rd⟩], []⟩ from HV.out)
        go_upto_region 15 with (fail)
        obtain ⟨y0, y1, y2, y3, y4, _⟩ := HrB.out.u5
        have HS1 := Lib.hid (SetsUp.one (w := w15) (sn := rn) (st := rt) (sk := rk) (su := ru) HrM.out HrR.out HR4.out.1)
        iterate 7 go_step
        have hba := (Below.refl _ _ : Below w15.heap.size w15 w15).alloc (Nat.le_refl _) (.cells #[.string rn, .int .i64 rt, .int .i64 rk, .int .i64 ru, .slice ra rm rc] 38)
        replace HQ := Lib.hid (HQ.out.below hba)
        replace HR4 := Lib.hid (HR4.out.below hba)
        replace HB := Lib.hid (HB.out.trans (hba.mono HB.out.size))
        replace HZN := Lib.hid (HZN.out.below hba)
        replace HK := Lib.hid (HK.out.below hba)
        replace HbR := Lib.hid (own_below' HbR.out hba)
        replace HbB := Lib.hid (HbB.out.below hba)
        replace HyR := Lib.hid (own_below' HyR.out hba)
        replace HyB := Lib.hid (HyB.out.below hba)
        replace HcR := Lib.hid (own_below' HcR.out hba)
        replace HcB := Lib.hid (HcB.out.below hba)
        replace HrR := Lib.hid (own_below' HrR.out hba)
        replace HrB := Lib.hid (HrB.out.below hba)
        clear hba
        obtain ⟨wA, hwA⟩ : ∃ x, w15.alloc (.cells #[.string rn, .int .i64 rt, .int .i64 rk, .int .i64 ru, .slice ra rm rc] 38) = x := ⟨_, rfl⟩
        obtain ⟨gA, hgA⟩ : ∃ x, w15.heap.size = x := ⟨_, rfl⟩
        rw [hwA] at HQ HR4 HB HZN HK HbR HbB HyR HyB HcR HcB HrR HrB HS1 ⊢
        rw [hgA] at HS1 ⊢
        clear hwA hgA y0 y1 y2 y3 y4
        obtain ⟨g0, g1, g2, g3, g4, f0, f1, f2, f3, f4⟩ := HR4.out.u5
        have KZ := Lib.hid (HR4.out.s5 (.int .i64 5) (.int .i64 0) (.slice none 0 0) (.slice (some ⟨gA, 0, none⟩) 1 1) (.slice none 0 0))
        have HGZ := Lib.hid (grown_s5 wA qR (.int .i64 5) (.int .i64 0) (.slice none 0 0) (.slice (some ⟨gA, 0, none⟩) 1 1) (.slice none 0 0))
        have HBZ := Lib.hid (HB.out.grown HGZ.out HB.out.size (fun k hk => by injection hk with hk; rw [← hk]; exact HQ4.out))
        have HS1Z := Lib.hid (HS1.out.far HGZ.out (Nat.lt_succ_self _))
        repeat go_step
        obtain ⟨wz, hwz⟩ : ∃ x, (((((wA.setCell ⟨qR, 0, none⟩ (.int .i64 5)).setCell ⟨qR, 1, none⟩ (.int .i64 0)).setCell ⟨qR, 2, none⟩ (.slice none 0 0)).setCell ⟨qR, 3, none⟩ (.slice (some ⟨gA, 0, none⟩) 1 1)).setCell ⟨qR, 4, none⟩ (.slice none 0 0)) = x := ⟨_, rfl⟩
        rw [hwz] at KZ HBZ HS1Z ⊢
        clear hwz HGZ g0 g1 g2 g3 g4 f0 f1 f2 f3 f4
        obtain ⟨z0, z1, z2, z3, z4, _⟩ := KZ.out.u5
        refine bodyPost_ret (v := .agg #[.int .i64 5, .int .i64 0, .slice none 0 0, .slice (some ⟨gA, 0, none⟩) 1 1, .slice none 0 0]) (by simp [results, Tryz.results33, go_sem, z0, z1, z2, z3, z4]) rfl ⟨⟨_, rfl, by rw [HV.out]; exact ⟨_, _, _, _, _, _, _, _, _, rfl, ((SetsUp.nil _ (qR + 1)).mono HBQ.out), (fun _ => ⟨rfl, rfl⟩), ((HS1Z.out).mono HBQ.out), (fun h => by cases h), ((SetsUp.nil _ (qR + 1)).mono HBQ.out), (fun _ => ⟨rfl, rfl⟩)⟩⟩, HBZ.out⟩
  have HV := Lib.hid (HIQ.out.trans (show _ = (⟨3, 0, [], [⟨⟨bn, bt, bk⟩, bu, bd⟩], glueL S [⟨⟨bn, bt, bk⟩, bu, bd⟩]⟩ : RepP) by rw [hcp]; exact if_neg hds))
  have HGD := Lib.hid (show ∀ s ∈ [(⟨⟨bn, bt, bk⟩, bu, bd⟩ : SetP)], ∀ d ∈ s.data, d.size ≤ 1000000 from fun s hs => by obtain rfl := List.mem_singleton.1 hs; exact HZD.out _ (cutP_mem hcp))
  have HGS := Lib.hid (show sumD [(⟨⟨bn, bt, bk⟩, bu, bd⟩ : SetP)] ≤ 100000 by have h := (HSZ.out.2 _ (cutP_mem hcp)).2; simpa [sumD] using h)
  simp only [Option.isSome_some]
  clear HIQ hcp
  by_cases h1 : bn = qn
  case pos =>
    have s1 := strA_eq h1
    have f3 := eF (fun h2 => hds ⟨h1, h2⟩)
    clear h1 hds
    go_upto_region 6 with (fail)
    clear p0 p1 p2 y0 y1 y2 y3 y4 s1 f3
    have hbd := (Below.refl w6.heap.size w6).drew
    have HCD := Lib.hid (HbB.out.below hbd)
    replace HR4 := Lib.hid (HR4.out.below hbd)
    replace HZN := Lib.hid (HZN.out.below hbd)
    replace HbR := Lib.hid (own_below' HbR.out hbd)
    replace HB := Lib.hid (HB.out.trans (hbd.mono HB.out.size))
    obtain ⟨wdd, hwd⟩ : ∃ x, w6.drew = x := ⟨_, rfl⟩
    have HBD := Lib.hid (show Below w6.heap.size w6 wdd by rw [← hwd]; exact hbd)
    rw [hwd] at HCD HR4 HZN HbR HB
    clear hbd
    refine wp_region_last_drew (S := (fun wx => Hid (Below w6.heap.size w6 wx) ∧ wx.cell? ⟨q6, 0, none⟩ = some (.string bn) ∧ wx.cell? ⟨q6, 1, none⟩ = some (.int .i64 bt) ∧ wx.cell? ⟨q6, 2, none⟩ = some (.int .i64 bk) ∧ wx.cell? ⟨q6, 3, none⟩ = some (.int .i64 bu) ∧ wx.cell? ⟨q6, 4, none⟩ = some (.slice ba bm bc))) (L := 7) (by kernel_rfl) (by rw [hwd]; exact ⟨HBD, (HCD.out.2 0 _ rfl).1, (HCD.out.2 1 _ rfl).1, (HCD.out.2 2 _ rfl).1, (HCD.out.2 3 _ rfl).1, (HCD.out.2 4 _ rfl).1⟩) (fun hHeld => ?_)
    rw [hwd] at hHeld ⊢
    clear hwd
    refine wpAnyL_take (i := 0) (oi := { dst := some 62, op := Go.Op.load 38 (Go.Operand.tmp 6), type := 38, pos := "auth.go:43", after := #[], guard := none }) (v := ?v0_801) rfl (by kernel_rfl) (by kernel_rfl) (by kernel_rfl) (by kernel_rfl) (by kernel_rfl) (fun _ _ _ h => h) (Or.inl ⟨by rfl, ?y0_801⟩) hHeld ?r0_801
    case y0_801 => intro w hSw; (try dsimp only at hSw); go_simp; try with_reducible rfl
    try simp only [Act.put, List.setIfInBounds_toArray, List.set_cons_zero, List.set_cons_succ]
    refine wpAnyL_take (i := 2) (oi := { dst := some 64, op := Go.Op.move (Go.Operand.tmp 0), type := 28, pos := "auth.go:43", after := #[], guard := none }) (v := ?v2_801) rfl (by kernel_rfl) (by kernel_rfl) (by kernel_rfl) (by kernel_rfl) (by kernel_rfl) (fun _ _ _ h => h) (Or.inl ⟨by rfl, ?y2_801⟩) hHeld ?r2_801
    case y2_801 => intro w hSw; (try dsimp only at hSw); go_simp; try with_reducible rfl
    try simp only [Act.put, List.setIfInBounds_toArray, List.set_cons_zero, List.set_cons_succ]
    refine wpAnyL_take (i := 3) (oi := { dst := some 65, op := Go.Op.load 38 (Go.Operand.tmp 6), type := 38, pos := "auth.go:43", after := #[], guard := none }) (v := ?v3_801) rfl (by kernel_rfl) (by kernel_rfl) (by kernel_rfl) (by kernel_rfl) (by kernel_rfl) (fun _ _ _ h => h) (Or.inl ⟨by rfl, ?y3_801⟩) hHeld ?r3_801
    case y3_801 => intro w hSw; (try dsimp only at hSw); go_simp; try with_reducible rfl
    try simp only [Act.put, List.setIfInBounds_toArray, List.set_cons_zero, List.set_cons_succ]
    refine wpAnyL_ready (rs := [1, 4]) (by kernel_rfl) (by simp) ?_
    refine AllReadyL.cons (o := { dst := some 63, op := Go.Op.buildSlice 61 1 #[(0, Go.Operand.tmp 62)], type := 61, pos := "auth.go:43", after := #[{ on := 0, ground := Go.Ground.data }], guard := none }) rfl (by decide) (fun K hK => ?_) (AllReadyL.cons (o := { dst := some 66, op := Go.Op.buildSlice 61 1 #[(0, Go.Operand.tmp 65)], type := 61, pos := "auth.go:43", after := #[{ on := 3, ground := Go.Ground.data }], guard := none }) rfl (by decide) (fun K hK => ?_) AllReadyL.nil)
    · go_simp
      have hs := SetsUp.one (w := wdd) (sn := bn) (st := bt) (sk := bk) (su := bu) HbM.out HbR.out HR4.out.1
      have hb := (Below.refl _ _ : Below wdd.heap.size wdd wdd).alloc (Nat.le_refl _) (.cells #[.string bn, .int .i64 bt, .int .i64 bk, .int .i64 bu, .slice ba bm bc] 38)
      obtain ⟨wx1, hwe⟩ : ∃ x, wdd.alloc (.cells #[.string bn, .int .i64 bt, .int .i64 bk, .int .i64 bu, .slice ba bm bc] 38) = x := ⟨_, rfl⟩
      rw [hwe] at hs hb ⊢
      replace HR4 := Lib.hid (HR4.out.below hb)
      replace HZN := Lib.hid (HZN.out.below hb)
      replace HbR := Lib.hid (own_below' HbR.out hb)
      replace HB := Lib.hid (HB.out.trans (hb.mono HB.out.size))
      obtain ⟨g1, hge⟩ : ∃ x, wdd.heap.size = x := ⟨_, rfl⟩
      rw [hge] at hs ⊢
      have HS1 := Lib.hid hs
      clear hs hwe hge
      refine hK.out _ _ (⟨Lib.hid (hHeld.1.out.trans (hb.mono hHeld.1.out.size)), cell_later4 hb hHeld.2.1, cell_later4 hb hHeld.2.2.1, cell_later4 hb hHeld.2.2.2.1, cell_later4 hb hHeld.2.2.2.2.1, cell_later4 hb hHeld.2.2.2.2.2⟩) (fun hHeld2 => ?_)
      clear hK K hHeld
      have hHeld := hHeld2
      clear hHeld2
      try simp only [Act.put, List.setIfInBounds_toArray, List.set_cons_zero, List.set_cons_succ]
      refine wpAnyL_ready (rs := [4]) (by kernel_rfl) (by simp) ?_
      refine AllReadyL.cons (o := { dst := some 66, op := Go.Op.buildSlice 61 1 #[(0, Go.Operand.tmp 65)], type := 61, pos := "auth.go:43", after := #[{ on := 3, ground := Go.Ground.data }], guard := none }) rfl (by decide) (fun K hK => ?_) AllReadyL.nil
      go_simp
      have hs := SetsUp.one (w := wx1) (sn := bn) (st := bt) (sk := bk) (su := bu) HbM.out HbR.out HR4.out.1
      have hb := (Below.refl _ _ : Below wx1.heap.size wx1 wx1).alloc (Nat.le_refl _) (.cells #[.string bn, .int .i64 bt, .int .i64 bk, .int .i64 bu, .slice ba bm bc] 38)
      obtain ⟨wx2, hwe⟩ : ∃ x, wx1.alloc (.cells #[.string bn, .int .i64 bt, .int .i64 bk, .int .i64 bu, .slice ba bm bc] 38) = x := ⟨_, rfl⟩
      rw [hwe] at hs hb ⊢
      replace HR4 := Lib.hid (HR4.out.below hb)
      replace HZN := Lib.hid (HZN.out.below hb)
      replace HbR := Lib.hid (own_below' HbR.out hb)
      replace HB := Lib.hid (HB.out.trans (hb.mono HB.out.size))
      replace HS1 := Lib.hid (HS1.out.below hb)
      obtain ⟨g4, hge⟩ : ∃ x, wx1.heap.size = x := ⟨_, rfl⟩
      rw [hge] at hs ⊢
      have HS4 := Lib.hid hs
      clear hs hwe hge
      refine hK.out _ _ (⟨Lib.hid (hHeld.1.out.trans (hb.mono hHeld.1.out.size)), cell_later4 hb hHeld.2.1, cell_later4 hb hHeld.2.2.1, cell_later4 hb hHeld.2.2.2.1, cell_later4 hb hHeld.2.2.2.2.1, cell_later4 hb hHeld.2.2.2.2.2⟩) (fun hHeld2 => ?_)
      clear hK K hHeld
      have hHeld := hHeld2
      clear hHeld2
      try simp only [Act.put, List.setIfInBounds_toArray, List.set_cons_zero, List.set_cons_succ]
      refine wpAnyL_ready (rs := [5]) (by kernel_rfl) (by simp) ?_
      refine AllReadyL.cons (o := { dst := some 67, op := Go.Op.call { callee := Go.Callee.value (Go.Operand.func 78), args := #[Go.Operand.tmp 64, Go.Operand.tmp 66], argTypes := #[28, 61] }, type := 61, pos := "auth.go:43", after := #[{ on := 2, ground := Go.Ground.data }, { on := 4, ground := Go.Ground.data }], guard := none }) rfl (by decide) (fun K hK => ?_) AllReadyL.nil
      go_simp
      refine (glue_any z apex S (some ⟨g4, 0, none⟩) 1 1 [⟨⟨bn, bt, bk⟩, bu, bd⟩] wx2 HZN.out HRI.out HSZ.out HS4.out.at (by decide) HGD.out HGS.out).mono ?_; rintro e wx3 ⟨v, G, T, m, rfl, htg, hgm, hgl, hgn, hos, hb⟩
      obtain ⟨ga, gc, rfl, hsg, hgnil⟩ := SetsUp.own hos
      rw [hgm, ← tgF_eq htg] at hsg
      rw [hgl] at hsg hgnil ⊢
      have HGN := Lib.hid hgnil
      have HSG := Lib.hid (show SetsUp wx3 (qR + 1) ga m (glueL S [⟨⟨bn, bt, bk⟩, bu, bd⟩]) from hsg.mono HR4.out.1)
      replace HR4 := Lib.hid (HR4.out.below hb)
      replace HZN := Lib.hid (HZN.out.below hb)
      replace HbR := Lib.hid (own_below' HbR.out hb)
      replace HB := Lib.hid (HB.out.trans (hb.mono HB.out.size))
      replace HS1 := Lib.hid (HS1.out.below hb)
      replace HS4 := Lib.hid (HS4.out.below hb)
      clear hos hsg hgnil hgm hgl hgn htg
      go_wp2_with fail
      refine hK.out _ _ (⟨Lib.hid (hHeld.1.out.trans (hb.mono hHeld.1.out.size)), cell_later4 hb hHeld.2.1, cell_later4 hb hHeld.2.2.1, cell_later4 hb hHeld.2.2.2.1, cell_later4 hb hHeld.2.2.2.2.1, cell_later4 hb hHeld.2.2.2.2.2⟩) (fun hHeld2 => ?_)
      clear hK K hHeld
      have hHeld := hHeld2
      clear hHeld2
      try simp only [Act.put, List.setIfInBounds_toArray, List.set_cons_zero, List.set_cons_succ]
      refine wpAnyL_take (i := 6) (oi := { dst := some 68, op := Go.Op.build 71 #[(0, Go.Operand.const (Go.Value.int Go.IntKind.i64 3)), (3, Go.Operand.tmp 63), (4, Go.Operand.tmp 67)], type := 71, pos := "auth.go:43", after := #[{ on := 1, ground := Go.Ground.data }, { on := 5, ground := Go.Ground.data }], guard := none }) (v := ?v6_804) rfl (by kernel_rfl) (by kernel_rfl) (by kernel_rfl) (by kernel_rfl) (by kernel_rfl) (fun _ _ _ h => h) (Or.inl ⟨by rfl, ?y6_804⟩) hHeld ?r6_804
      case y6_804 => intro w hSw; (try dsimp only at hSw); go_simp; try with_reducible rfl
      try simp only [Act.put, List.setIfInBounds_toArray, List.set_cons_zero, List.set_cons_succ]
      refine wpAnyL_ready (rs := [7]) (by kernel_rfl) (by simp) ?_
      refine AllReadyL.last (o := { dst := none, op := Go.Op.store 71 (Go.Operand.tmp 4) (Go.Operand.tmp 68), type := 0, pos := "auth.go:43", after := #[{ on := 6, ground := Go.Ground.data }, { on := 5, ground := Go.Ground.chain }, { on := 0, ground := Go.Ground.phase }, { on := 1, ground := Go.Ground.phase }, { on := 2, ground := Go.Ground.phase }, { on := 3, ground := Go.Ground.phase }, { on := 4, ground := Go.Ground.phase }, { on := 5, ground := Go.Ground.phase }, { on := 6, ground := Go.Ground.phase }], guard := none }) rfl (by decide) (fun K hK => ?_) AllReadyL.nil
      have KZ := Lib.hid (HR4.out.s5 (.int .i64 3) (.int .i64 0) (.slice none 0 0) (.slice (some ⟨g1, 0, none⟩) 1 1) (.slice ga m gc))
      have HGZ := Lib.hid (grown_s5 wx3 qR (.int .i64 3) (.int .i64 0) (.slice none 0 0) (.slice (some ⟨g1, 0, none⟩) 1 1) (.slice ga m gc))
      have HBZ := Lib.hid (HB.out.grown HGZ.out HB.out.size (fun k hk => by injection hk with hk; rw [← hk]; exact HQ4.out))
      have HS1Z := Lib.hid (HS1.out.far HGZ.out (Nat.lt_succ_self _))
      have HSGZ := Lib.hid (HSG.out.far HGZ.out (Nat.lt_succ_self _))
      obtain ⟨y0, y1, y2, y3, y4, f0, f1, f2, f3, f4⟩ := HR4.out.u5
      go_wp2_with fail
      refine hK.out _ _ trivial (fun _ => ?_)
      clear hK K
      try simp only [Act.put, List.setIfInBounds_toArray, List.set_cons_zero, List.set_cons_succ]
      refine wpAnyL_done (by kernel_rfl) ?_ _
      repeat go_step
      obtain ⟨wz, hwz⟩ : ∃ x, (((((wx3.setCell ⟨qR, 0, none⟩ (.int .i64 3)).setCell ⟨qR, 1, none⟩ (.int .i64 0)).setCell ⟨qR, 2, none⟩ (.slice none 0 0)).setCell ⟨qR, 3, none⟩ (.slice (some ⟨g1, 0, none⟩) 1 1)).setCell ⟨qR, 4, none⟩ (.slice ga m gc)) = x := ⟨_, rfl⟩
      rw [hwz] at KZ HBZ HS1Z HSGZ ⊢
      clear hwz HGZ y0 y1 y2 y3 y4 f0 f1 f2 f3 f4
      obtain ⟨z0, z1, z2, z3, z4, _⟩ := KZ.out.u5
      refine bodyPost_ret (v := .agg #[.int .i64 3, .int .i64 0, .slice none 0 0, .slice (some ⟨g1, 0, none⟩) 1 1, .slice ga m gc]) (by simp [results, Tryz.results33, go_sem, z0, z1, z2, z3, z4]) rfl ⟨⟨_, rfl, by rw [HV.out]; exact ⟨_, _, _, _, _, _, _, _, _, rfl, ((SetsUp.nil _ (qR + 1)).mono HBQ.out), (fun _ => ⟨rfl, rfl⟩), ((HS1Z.out).mono HBQ.out), (fun h => by cases h), ((HSGZ.out).mono HBQ.out), HGN.out⟩⟩, HBZ.out⟩
    · go_simp
      have hs := SetsUp.one (w := wdd) (sn := bn) (st := bt) (sk := bk) (su := bu) HbM.out HbR.out HR4.out.1
      have hb := (Below.refl _ _ : Below wdd.heap.size wdd wdd).alloc (Nat.le_refl _) (.cells #[.string bn, .int .i64 bt, .int .i64 bk, .int .i64 bu, .slice ba bm bc] 38)
      obtain ⟨wx1, hwe⟩ : ∃ x, wdd.alloc (.cells #[.string bn, .int .i64 bt, .int .i64 bk, .int .i64 bu, .slice ba bm bc] 38) = x := ⟨_, rfl⟩
      rw [hwe] at hs hb ⊢
      replace HR4 := Lib.hid (HR4.out.below hb)
      replace HZN := Lib.hid (HZN.out.below hb)
      replace HbR := Lib.hid (own_below' HbR.out hb)
      replace HB := Lib.hid (HB.out.trans (hb.mono HB.out.size))
      obtain ⟨g4, hge⟩ : ∃ x, wdd.heap.size = x := ⟨_, rfl⟩
      rw [hge] at hs ⊢
      have HS4 := Lib.hid hs
      clear hs hwe hge
      refine hK.out _ _ (⟨Lib.hid (hHeld.1.out.trans (hb.mono hHeld.1.out.size)), cell_later4 hb hHeld.2.1, cell_later4 hb hHeld.2.2.1, cell_later4 hb hHeld.2.2.2.1, cell_later4 hb hHeld.2.2.2.2.1, cell_later4 hb hHeld.2.2.2.2.2⟩) (fun hHeld2 => ?_)
      clear hK K hHeld
      have hHeld := hHeld2
      clear hHeld2
      try simp only [Act.put, List.setIfInBounds_toArray, List.set_cons_zero, List.set_cons_succ]
      refine wpAnyL_ready (rs := [1, 5]) (by kernel_rfl) (by simp) ?_
      refine AllReadyL.cons (o := { dst := some 63, op := Go.Op.buildSlice 61 1 #[(0, Go.Operand.tmp 62)], type := 61, pos := "auth.go:43", after := #[{ on := 0, ground := Go.Ground.data }], guard := none }) rfl (by decide) (fun K hK => ?_) (AllReadyL.cons (o := { dst := some 67, op := Go.Op.call { callee := Go.Callee.value (Go.Operand.func 78), args := #[Go.Operand.tmp 64, Go.Operand.tmp 66], argTypes := #[28, 61] }, type := 61, pos := "auth.go:43", after := #[{ on := 2, ground := Go.Ground.data }, { on := 4, ground := Go.Ground.data }], guard := none }) rfl (by decide) (fun K hK => ?_) AllReadyL.nil)
      · go_simp
        have hs := SetsUp.one (w := wx1) (sn := bn) (st := bt) (sk := bk) (su := bu) HbM.out HbR.out HR4.out.1
        have hb := (Below.refl _ _ : Below wx1.heap.size wx1 wx1).alloc (Nat.le_refl _) (.cells #[.string bn, .int .i64 bt, .int .i64 bk, .int .i64 bu, .slice ba bm bc] 38)
        obtain ⟨wx2, hwe⟩ : ∃ x, wx1.alloc (.cells #[.string bn, .int .i64 bt, .int .i64 bk, .int .i64 bu, .slice ba bm bc] 38) = x := ⟨_, rfl⟩
        rw [hwe] at hs hb ⊢
        replace HR4 := Lib.hid (HR4.out.below hb)
        replace HZN := Lib.hid (HZN.out.below hb)
        replace HbR := Lib.hid (own_below' HbR.out hb)
        replace HB := Lib.hid (HB.out.trans (hb.mono HB.out.size))
        replace HS4 := Lib.hid (HS4.out.below hb)
        obtain ⟨g1, hge⟩ : ∃ x, wx1.heap.size = x := ⟨_, rfl⟩
        rw [hge] at hs ⊢
        have HS1 := Lib.hid hs
        clear hs hwe hge
        refine hK.out _ _ (⟨Lib.hid (hHeld.1.out.trans (hb.mono hHeld.1.out.size)), cell_later4 hb hHeld.2.1, cell_later4 hb hHeld.2.2.1, cell_later4 hb hHeld.2.2.2.1, cell_later4 hb hHeld.2.2.2.2.1, cell_later4 hb hHeld.2.2.2.2.2⟩) (fun hHeld2 => ?_)
        clear hK K hHeld
        have hHeld := hHeld2
        clear hHeld2
        try simp only [Act.put, List.setIfInBounds_toArray, List.set_cons_zero, List.set_cons_succ]
        refine wpAnyL_ready (rs := [5]) (by kernel_rfl) (by simp) ?_
        refine AllReadyL.cons (o := { dst := some 67, op := Go.Op.call { callee := Go.Callee.value (Go.Operand.func 78), args := #[Go.Operand.tmp 64, Go.Operand.tmp 66], argTypes := #[28, 61] }, type := 61, pos := "auth.go:43", after := #[{ on := 2, ground := Go.Ground.data }, { on := 4, ground := Go.Ground.data }], guard := none }) rfl (by decide) (fun K hK => ?_) AllReadyL.nil
        go_simp
        refine (glue_any z apex S (some ⟨g4, 0, none⟩) 1 1 [⟨⟨bn, bt, bk⟩, bu, bd⟩] wx2 HZN.out HRI.out HSZ.out HS4.out.at (by decide) HGD.out HGS.out).mono ?_; rintro e wx3 ⟨v, G, T, m, rfl, htg, hgm, hgl, hgn, hos, hb⟩
        obtain ⟨ga, gc, rfl, hsg, hgnil⟩ := SetsUp.own hos
        rw [hgm, ← tgF_eq htg] at hsg
        rw [hgl] at hsg hgnil ⊢
        have HGN := Lib.hid hgnil
        have HSG := Lib.hid (show SetsUp wx3 (qR + 1) ga m (glueL S [⟨⟨bn, bt, bk⟩, bu, bd⟩]) from hsg.mono HR4.out.1)
        replace HR4 := Lib.hid (HR4.out.below hb)
        replace HZN := Lib.hid (HZN.out.below hb)
        replace HbR := Lib.hid (own_below' HbR.out hb)
        replace HB := Lib.hid (HB.out.trans (hb.mono HB.out.size))
        replace HS1 := Lib.hid (HS1.out.below hb)
        replace HS4 := Lib.hid (HS4.out.below hb)
        clear hos hsg hgnil hgm hgl hgn htg
        go_wp2_with fail
        refine hK.out _ _ (⟨Lib.hid (hHeld.1.out.trans (hb.mono hHeld.1.out.size)), cell_later4 hb hHeld.2.1, cell_later4 hb hHeld.2.2.1, cell_later4 hb hHeld.2.2.2.1, cell_later4 hb hHeld.2.2.2.2.1, cell_later4 hb hHeld.2.2.2.2.2⟩) (fun hHeld2 => ?_)
        clear hK K hHeld
        have hHeld := hHeld2
        clear hHeld2
        try simp only [Act.put, List.setIfInBounds_toArray, List.set_cons_zero, List.set_cons_succ]
        refine wpAnyL_take (i := 6) (oi := { dst := some 68, op := Go.Op.build 71 #[(0, Go.Operand.const (Go.Value.int Go.IntKind.i64 3)), (3, Go.Operand.tmp 63), (4, Go.Operand.tmp 67)], type := 71, pos := "auth.go:43", after := #[{ on := 1, ground := Go.Ground.data }, { on := 5, ground := Go.Ground.data }], guard := none }) (v := ?v6_808) rfl (by kernel_rfl) (by kernel_rfl) (by kernel_rfl) (by kernel_rfl) (by kernel_rfl) (fun _ _ _ h => h) (Or.inl ⟨by rfl, ?y6_808⟩) hHeld ?r6_808
        case y6_808 => intro w hSw; (try dsimp only at hSw); go_simp; try with_reducible rfl
        try simp only [Act.put, List.setIfInBounds_toArray, List.set_cons_zero, List.set_cons_succ]
        refine wpAnyL_ready (rs := [7]) (by kernel_rfl) (by simp) ?_
        refine AllReadyL.last (o := { dst := none, op := Go.Op.store 71 (Go.Operand.tmp 4) (Go.Operand.tmp 68), type := 0, pos := "auth.go:43", after := #[{ on := 6, ground := Go.Ground.data }, { on := 5, ground := Go.Ground.chain }, { on := 0, ground := Go.Ground.phase }, { on := 1, ground := Go.Ground.phase }, { on := 2, ground := Go.Ground.phase }, { on := 3, ground := Go.Ground.phase }, { on := 4, ground := Go.Ground.phase }, { on := 5, ground := Go.Ground.phase }, { on := 6, ground := Go.Ground.phase }], guard := none }) rfl (by decide) (fun K hK => ?_) AllReadyL.nil
        have KZ := Lib.hid (HR4.out.s5 (.int .i64 3) (.int .i64 0) (.slice none 0 0) (.slice (some ⟨g1, 0, none⟩) 1 1) (.slice ga m gc))
        have HGZ := Lib.hid (grown_s5 wx3 qR (.int .i64 3) (.int .i64 0) (.slice none 0 0) (.slice (some ⟨g1, 0, none⟩) 1 1) (.slice ga m gc))
        have HBZ := Lib.hid (HB.out.grown HGZ.out HB.out.size (fun k hk => by injection hk with hk; rw [← hk]; exact HQ4.out))
        have HS1Z := Lib.hid (HS1.out.far HGZ.out (Nat.lt_succ_self _))
        have HSGZ := Lib.hid (HSG.out.far HGZ.out (Nat.lt_succ_self _))
        obtain ⟨y0, y1, y2, y3, y4, f0, f1, f2, f3, f4⟩ := HR4.out.u5
        go_wp2_with fail
        refine hK.out _ _ trivial (fun _ => ?_)
        clear hK K
        try simp only [Act.put, List.setIfInBounds_toArray, List.set_cons_zero, List.set_cons_succ]
        refine wpAnyL_done (by kernel_rfl) ?_ _
        repeat go_step
        obtain ⟨wz, hwz⟩ : ∃ x, (((((wx3.setCell ⟨qR, 0, none⟩ (.int .i64 3)).setCell ⟨qR, 1, none⟩ (.int .i64 0)).setCell ⟨qR, 2, none⟩ (.slice none 0 0)).setCell ⟨qR, 3, none⟩ (.slice (some ⟨g1, 0, none⟩) 1 1)).setCell ⟨qR, 4, none⟩ (.slice ga m gc)) = x := ⟨_, rfl⟩
        rw [hwz] at KZ HBZ HS1Z HSGZ ⊢
        clear hwz HGZ y0 y1 y2 y3 y4 f0 f1 f2 f3 f4
        obtain ⟨z0, z1, z2, z3, z4, _⟩ := KZ.out.u5
        refine bodyPost_ret (v := .agg #[.int .i64 3, .int .i64 0, .slice none 0 0, .slice (some ⟨g1, 0, none⟩) 1 1, .slice ga m gc]) (by simp [results, Tryz.results33, go_sem, z0, z1, z2, z3, z4]) rfl ⟨⟨_, rfl, by rw [HV.out]; exact ⟨_, _, _, _, _, _, _, _, _, rfl, ((SetsUp.nil _ (qR + 1)).mono HBQ.out), (fun _ => ⟨rfl, rfl⟩), ((HS1Z.out).mono HBQ.out), (fun h => by cases h), ((HSGZ.out).mono HBQ.out), HGN.out⟩⟩, HBZ.out⟩
      · go_simp
        refine (glue_any z apex S (some ⟨g4, 0, none⟩) 1 1 [⟨⟨bn, bt, bk⟩, bu, bd⟩] wx1 HZN.out HRI.out HSZ.out HS4.out.at (by decide) HGD.out HGS.out).mono ?_; rintro e wx2 ⟨v, G, T, m, rfl, htg, hgm, hgl, hgn, hos, hb⟩
        obtain ⟨ga, gc, rfl, hsg, hgnil⟩ := SetsUp.own hos
        rw [hgm, ← tgF_eq htg] at hsg
        rw [hgl] at hsg hgnil ⊢
        have HGN := Lib.hid hgnil
        have HSG := Lib.hid (show SetsUp wx2 (qR + 1) ga m (glueL S [⟨⟨bn, bt, bk⟩, bu, bd⟩]) from hsg.mono HR4.out.1)
        replace HR4 := Lib.hid (HR4.out.below hb)
        replace HZN := Lib.hid (HZN.out.below hb)
        replace HbR := Lib.hid (own_below' HbR.out hb)
        replace HB := Lib.hid (HB.out.trans (hb.mono HB.out.size))
        replace HS4 := Lib.hid (HS4.out.below hb)
        clear hos hsg hgnil hgm hgl hgn htg
        go_wp2_with fail
        refine hK.out _ _ (⟨Lib.hid (hHeld.1.out.trans (hb.mono hHeld.1.out.size)), cell_later4 hb hHeld.2.1, cell_later4 hb hHeld.2.2.1, cell_later4 hb hHeld.2.2.2.1, cell_later4 hb hHeld.2.2.2.2.1, cell_later4 hb hHeld.2.2.2.2.2⟩) (fun hHeld2 => ?_)
        clear hK K hHeld
        have hHeld := hHeld2
        clear hHeld2
        try simp only [Act.put, List.setIfInBounds_toArray, List.set_cons_zero, List.set_cons_succ]
        refine wpAnyL_ready (rs := [1]) (by kernel_rfl) (by simp) ?_
        refine AllReadyL.cons (o := { dst := some 63, op := Go.Op.buildSlice 61 1 #[(0, Go.Operand.tmp 62)], type := 61, pos := "auth.go:43", after := #[{ on := 0, ground := Go.Ground.data }], guard := none }) rfl (by decide) (fun K hK => ?_) AllReadyL.nil
        go_simp
        have hs := SetsUp.one (w := wx2) (sn := bn) (st := bt) (sk := bk) (su := bu) HbM.out HbR.out HR4.out.1
        have hb := (Below.refl _ _ : Below wx2.heap.size wx2 wx2).alloc (Nat.le_refl _) (.cells #[.string bn, .int .i64 bt, .int .i64 bk, .int .i64 bu, .slice ba bm bc] 38)
        obtain ⟨wx3, hwe⟩ : ∃ x, wx2.alloc (.cells #[.string bn, .int .i64 bt, .int .i64 bk, .int .i64 bu, .slice ba bm bc] 38) = x := ⟨_, rfl⟩
        rw [hwe] at hs hb ⊢
        replace HR4 := Lib.hid (HR4.out.below hb)
        replace HZN := Lib.hid (HZN.out.below hb)
        replace HbR := Lib.hid (own_below' HbR.out hb)
        replace HB := Lib.hid (HB.out.trans (hb.mono HB.out.size))
        replace HS4 := Lib.hid (HS4.out.below hb)
        replace HSG := Lib.hid (HSG.out.below hb)
        obtain ⟨g1, hge⟩ : ∃ x, wx2.heap.size = x := ⟨_, rfl⟩
        rw [hge] at hs ⊢
        have HS1 := Lib.hid hs
        clear hs hwe hge
        refine hK.out _ _ (⟨Lib.hid (hHeld.1.out.trans (hb.mono hHeld.1.out.size)), cell_later4 hb hHeld.2.1, cell_later4 hb hHeld.2.2.1, cell_later4 hb hHeld.2.2.2.1, cell_later4 hb hHeld.2.2.2.2.1, cell_later4 hb hHeld.2.2.2.2.2⟩) (fun hHeld2 => ?_)
        clear hK K hHeld
        have hHeld := hHeld2
        clear hHeld2
        try simp only [Act.put, List.setIfInBounds_toArray, List.set_cons_zero, List.set_cons_succ]
        refine wpAnyL_take (i := 6) (oi := { dst := some 68, op := Go.Op.build 71 #[(0, Go.Operand.const (Go.Value.int Go.IntKind.i64 3)), (3, Go.Operand.tmp 63), (4, Go.Operand.tmp 67)], type := 71, pos := "auth.go:43", after := #[{ on := 1, ground := Go.Ground.data }, { on := 5, ground := Go.Ground.data }], guard := none }) (v := ?v6_811) rfl (by kernel_rfl) (by kernel_rfl) (by kernel_rfl) (by kernel_rfl) (by kernel_rfl) (fun _ _ _ h => h) (Or.inl ⟨by rfl, ?y6_811⟩) hHeld ?r6_811
        case y6_811 => intro w hSw; (try dsimp only at hSw); go_simp; try with_reducible rfl
        try simp only [Act.put, List.setIfInBounds_toArray, List.set_cons_zero, List.set_cons_succ]
        refine wpAnyL_ready (rs := [7]) (by kernel_rfl) (by simp) ?_
        refine AllReadyL.last (o := { dst := none, op := Go.Op.store 71 (Go.Operand.tmp 4) (Go.Operand.tmp 68), type := 0, pos := "auth.go:43", after := #[{ on := 6, ground := Go.Ground.data }, { on := 5, ground := Go.Ground.chain }, { on := 0, ground := Go.Ground.phase }, { on := 1, ground := Go.Ground.phase }, { on := 2, ground := Go.Ground.phase }, { on := 3, ground := Go.Ground.phase }, { on := 4, ground := Go.Ground.phase }, { on := 5, ground := Go.Ground.phase }, { on := 6, ground := Go.Ground.phase }], guard := none }) rfl (by decide) (fun K hK => ?_) AllReadyL.nil
        have KZ := Lib.hid (HR4.out.s5 (.int .i64 3) (.int .i64 0) (.slice none 0 0) (.slice (some ⟨g1, 0, none⟩) 1 1) (.slice ga m gc))
        have HGZ := Lib.hid (grown_s5 wx3 qR (.int .i64 3) (.int .i64 0) (.slice none 0 0) (.slice (some ⟨g1, 0, none⟩) 1 1) (.slice ga m gc))
        have HBZ := Lib.hid (HB.out.grown HGZ.out HB.out.size (fun k hk => by injection hk with hk; rw [← hk]; exact HQ4.out))
        have HS1Z := Lib.hid (HS1.out.far HGZ.out (Nat.lt_succ_self _))
        have HSGZ := Lib.hid (HSG.out.far HGZ.out (Nat.lt_succ_self _))
        obtain ⟨y0, y1, y2, y3, y4, f0, f1, f2, f3, f4⟩ := HR4.out.u5
        go_wp2_with fail
        refine hK.out _ _ trivial (fun _ => ?_)
        clear hK K
        try simp only [Act.put, List.setIfInBounds_toArray, List.set_cons_zero, List.set_cons_succ]
        refine wpAnyL_done (by kernel_rfl) ?_ _
        repeat go_step
        obtain ⟨wz, hwz⟩ : ∃ x, (((((wx3.setCell ⟨qR, 0, none⟩ (.int .i64 3)).setCell ⟨qR, 1, none⟩ (.int .i64 0)).setCell ⟨qR, 2, none⟩ (.slice none 0 0)).setCell ⟨qR, 3, none⟩ (.slice (some ⟨g1, 0, none⟩) 1 1)).setCell ⟨qR, 4, none⟩ (.slice ga m gc)) = x := ⟨_, rfl⟩
        rw [hwz] at KZ HBZ HS1Z HSGZ ⊢
        clear hwz HGZ y0 y1 y2 y3 y4 f0 f1 f2 f3 f4
        obtain ⟨z0, z1, z2, z3, z4, _⟩ := KZ.out.u5
        refine bodyPost_ret (v := .agg #[.int .i64 3, .int .i64 0, .slice none 0 0, .slice (some ⟨g1, 0, none⟩) 1 1, .slice ga m gc]) (by simp [results, Tryz.results33, go_sem, z0, z1, z2, z3, z4]) rfl ⟨⟨_, rfl, by rw [HV.out]; exact ⟨_, _, _, _, _, _, _, _, _, rfl, ((SetsUp.nil _ (qR + 1)).mono HBQ.out), (fun _ => ⟨rfl, rfl⟩), ((HS1Z.out).mono HBQ.out), (fun h => by cases h), ((HSGZ.out).mono HBQ.out), HGN.out⟩⟩, HBZ.out⟩
  have s1 := strA_ne h1
  clear h1 hds
  go_upto_region 6 with (fail)
  clear p0 p1 p2 y0 y1 y2 y3 y4 s1
  have hbd := (Below.refl w6.heap.size w6).drew
  have HCD := Lib.hid (HbB.out.below hbd)
  replace HR4 := Lib.hid (HR4.out.below hbd)
  replace HZN := Lib.hid (HZN.out.below hbd)
  replace HbR := Lib.hid (own_below' HbR.out hbd)
  replace HB := Lib.hid (HB.out.trans (hbd.mono HB.out.size))
  obtain ⟨wdd, hwd⟩ : ∃ x, w6.drew = x := ⟨_, rfl⟩
  have HBD := Lib.hid (show Below w6.heap.size w6 wdd by rw [← hwd]; exact hbd)
  rw [hwd] at HCD HR4 HZN HbR HB
  clear hbd
  refine wp_region_last_drew (S := (fun wx => Hid (Below w6.heap.size w6 wx) ∧ wx.cell? ⟨q6, 0, none⟩ = some (.string bn) ∧ wx.cell? ⟨q6, 1, none⟩ = some (.int .i64 bt) ∧ wx.cell? ⟨q6, 2, none⟩ = some (.int .i64 bk) ∧ wx.cell? ⟨q6, 3, none⟩ = some (.int .i64 bu) ∧ wx.cell? ⟨q6, 4, none⟩ = some (.slice ba bm bc))) (L := 7) (by kernel_rfl) (by rw [hwd]; exact ⟨HBD, (HCD.out.2 0 _ rfl).1, (HCD.out.2 1 _ rfl).1, (HCD.out.2 2 _ rfl).1, (HCD.out.2 3 _ rfl).1, (HCD.out.2 4 _ rfl).1⟩) (fun hHeld => ?_)
  rw [hwd] at hHeld ⊢
  clear hwd
  refine wpAnyL_take (i := 0) (oi := { dst := some 62, op := Go.Op.load 38 (Go.Operand.tmp 6), type := 38, pos := "auth.go:43", after := #[], guard := none }) (v := ?v0_901) rfl (by kernel_rfl) (by kernel_rfl) (by kernel_rfl) (by kernel_rfl) (by kernel_rfl) (fun _ _ _ h => h) (Or.inl ⟨by rfl, ?y0_901⟩) hHeld ?r0_901
  case y0_901 => intro w hSw; (try dsimp only at hSw); go_simp; try with_reducible rfl
  try simp only [Act.put, List.setIfInBounds_toArray, List.set_cons_zero, List.set_cons_succ]
  refine wpAnyL_take (i := 2) (oi := { dst := some 64, op := Go.Op.move (Go.Operand.tmp 0), type := 28, pos := "auth.go:43", after := #[], guard := none }) (v := ?v2_901) rfl (by kernel_rfl) (by kernel_rfl) (by kernel_rfl) (by kernel_rfl) (by kernel_rfl) (fun _ _ _ h => h) (Or.inl ⟨by rfl, ?y2_901⟩) hHeld ?r2_901
  case y2_901 => intro w hSw; (try dsimp only at hSw); go_simp; try with_reducible rfl
  try simp only [Act.put, List.setIfInBounds_toArray, List.set_cons_zero, List.set_cons_succ]
  refine wpAnyL_take (i := 3) (oi := { dst := some 65, op := Go.Op.load 38 (Go.Operand.tmp 6), type := 38, pos := "auth.go:43", after := #[], guard := none }) (v := ?v3_901) rfl (by kernel_rfl) (by kernel_rfl) (by kernel_rfl) (by kernel_rfl) (by kernel_rfl) (fun _ _ _ h => h) (Or.inl ⟨by rfl, ?y3_901⟩) hHeld ?r3_901
  case y3_901 => intro w hSw; (try dsimp only at hSw); go_simp; try with_reducible rfl
  try simp only [Act.put, List.setIfInBounds_toArray, List.set_cons_zero, List.set_cons_succ]
  refine wpAnyL_ready (rs := [1, 4]) (by kernel_rfl) (by simp) ?_
  refine AllReadyL.cons (o := { dst := some 63, op := Go.Op.buildSlice 61 1 #[(0, Go.Operand.tmp 62)], type := 61, pos := "auth.go:43", after := #[{ on := 0, ground := Go.Ground.data }], guard := none }) rfl (by decide) (fun K hK => ?_) (AllReadyL.cons (o := { dst := some 66, op := Go.Op.buildSlice 61 1 #[(0, Go.Operand.tmp 65)], type := 61, pos := "auth.go:43", after := #[{ on := 3, ground := Go.Ground.data }], guard := none }) rfl (by decide) (fun K hK => ?_) AllReadyL.nil)
  · go_simp
    have hs := SetsUp.one (w := wdd) (sn := bn) (st := bt) (sk := bk) (su := bu) HbM.out HbR.out HR4.out.1
    have hb := (Below.refl _ _ : Below wdd.heap.size wdd wdd).alloc (Nat.le_refl _) (.cells #[.string bn, .int .i64 bt, .int .i64 bk, .int .i64 bu, .slice ba bm bc] 38)
    obtain ⟨wx1, hwe⟩ : ∃ x, wdd.alloc (.cells #[.string bn, .int .i64 bt, .int .i64 bk, .int .i64 bu, .slice ba bm bc] 38) = x := ⟨_, rfl⟩
    rw [hwe] at hs hb ⊢
    replace HR4 := Lib.hid (HR4.out.below hb)
    replace HZN := Lib.hid (HZN.out.below hb)
    replace HbR := Lib.hid (own_below' HbR.out hb)
    replace HB := Lib.hid (HB.out.trans (hb.mono HB.out.size))
    obtain ⟨g1, hge⟩ : ∃ x, wdd.heap.size = x := ⟨_, rfl⟩
    rw [hge] at hs ⊢
    have HS1 := Lib.hid hs
    clear hs hwe hge
    refine hK.out _ _ (⟨Lib.hid (hHeld.1.out.trans (hb.mono hHeld.1.out.size)), cell_later4 hb hHeld.2.1, cell_later4 hb hHeld.2.2.1, cell_later4 hb hHeld.2.2.2.1, cell_later4 hb hHeld.2.2.2.2.1, cell_later4 hb hHeld.2.2.2.2.2⟩) (fun hHeld2 => ?_)
    clear hK K hHeld
    have hHeld := hHeld2
    clear hHeld2
    try simp only [Act.put, List.setIfInBounds_toArray, List.set_cons_zero, List.set_cons_succ]
    refine wpAnyL_ready (rs := [4]) (by kernel_rfl) (by simp) ?_
    refine AllReadyL.cons (o := { dst := some 66, op := Go.Op.buildSlice 61 1 #[(0, Go.Operand.tmp 65)], type := 61, pos := "auth.go:43", after := #[{ on := 3, ground := Go.Ground.data }], guard := none }) rfl (by decide) (fun K hK => ?_) AllReadyL.nil
    go_simp
    have hs := SetsUp.one (w := wx1) (sn := bn) (st := bt) (sk := bk) (su := bu) HbM.out HbR.out HR4.out.1
    have hb := (Below.refl _ _ : Below wx1.heap.size wx1 wx1).alloc (Nat.le_refl _) (.cells #[.string bn, .int .i64 bt, .int .i64 bk, .int .i64 bu, .slice ba bm bc] 38)
    obtain ⟨wx2, hwe⟩ : ∃ x, wx1.alloc (.cells #[.string bn, .int .i64 bt, .int .i64 bk, .int .i64 bu, .slice ba bm bc] 38) = x := ⟨_, rfl⟩
    rw [hwe] at hs hb ⊢
    replace HR4 := Lib.hid (HR4.out.below hb)
    replace HZN := Lib.hid (HZN.out.below hb)
    replace HbR := Lib.hid (own_below' HbR.out hb)
    replace HB := Lib.hid (HB.out.trans (hb.mono HB.out.size))
    replace HS1 := Lib.hid (HS1.out.below hb)
    obtain ⟨g4, hge⟩ : ∃ x, wx1.heap.size = x := ⟨_, rfl⟩
    rw [hge] at hs ⊢
    have HS4 := Lib.hid hs
    clear hs hwe hge
    refine hK.out _ _ (⟨Lib.hid (hHeld.1.out.trans (hb.mono hHeld.1.out.size)), cell_later4 hb hHeld.2.1, cell_later4 hb hHeld.2.2.1, cell_later4 hb hHeld.2.2.2.1, cell_later4 hb hHeld.2.2.2.2.1, cell_later4 hb hHeld.2.2.2.2.2⟩) (fun hHeld2 => ?_)
    clear hK K hHeld
    have hHeld := hHeld2
    clear hHeld2
    try simp only [Act.put, List.setIfInBounds_toArray, List.set_cons_zero, List.set_cons_succ]
    refine wpAnyL_ready (rs := [5]) (by kernel_rfl) (by simp) ?_
    refine AllReadyL.cons (o := { dst := some 67, op := Go.Op.call { callee := Go.Callee.value (Go.Operand.func 78), args := #[Go.Operand.tmp 64, Go.Operand.tmp 66], argTypes := #[28, 61] }, type := 61, pos := "auth.go:43", after := #[{ on := 2, ground := Go.Ground.data }, { on := 4, ground := Go.Ground.data }], guard := none }) rfl (by decide) (fun K hK => ?_) AllReadyL.nil
    go_simp
    refine (glue_any z apex S (some ⟨g4, 0, none⟩) 1 1 [⟨⟨bn, bt, bk⟩, bu, bd⟩] wx2 HZN.out HRI.out HSZ.out HS4.out.at (by decide) HGD.out HGS.out).mono ?_; rintro e wx3 ⟨v, G, T, m, rfl, htg, hgm, hgl, hgn, hos, hb⟩
    obtain ⟨ga, gc, rfl, hsg, hgnil⟩ := SetsUp.own hos
    rw [hgm, ← tgF_eq htg] at hsg
    rw [hgl] at hsg hgnil ⊢
    have HGN := Lib.hid hgnil
    have HSG := Lib.hid (show SetsUp wx3 (qR + 1) ga m (glueL S [⟨⟨bn, bt, bk⟩, bu, bd⟩]) from hsg.mono HR4.out.1)
    replace HR4 := Lib.hid (HR4.out.below hb)
    replace HZN := Lib.hid (HZN.out.below hb)
    replace HbR := Lib.hid (own_below' HbR.out hb)
    replace HB := Lib.hid (HB.out.trans (hb.mono HB.out.size))
    replace HS1 := Lib.hid (HS1.out.below hb)
    replace HS4 := Lib.hid (HS4.out.below hb)
    clear hos hsg hgnil hgm hgl hgn htg
    go_wp2_with fail
    refine hK.out _ _ (⟨Lib.hid (hHeld.1.out.trans (hb.mono hHeld.1.out.size)), cell_later4 hb hHeld.2.1, cell_later4 hb hHeld.2.2.1, cell_later4 hb hHeld.2.2.2.1, cell_later4 hb hHeld.2.2.2.2.1, cell_later4 hb hHeld.2.2.2.2.2⟩) (fun hHeld2 => ?_)
    clear hK K hHeld
    have hHeld := hHeld2
    clear hHeld2
    try simp only [Act.put, List.setIfInBounds_toArray, List.set_cons_zero, List.set_cons_succ]
    refine wpAnyL_take (i := 6) (oi := { dst := some 68, op := Go.Op.build 71 #[(0, Go.Operand.const (Go.Value.int Go.IntKind.i64 3)), (3, Go.Operand.tmp 63), (4, Go.Operand.tmp 67)], type := 71, pos := "auth.go:43", after := #[{ on := 1, ground := Go.Ground.data }, { on := 5, ground := Go.Ground.data }], guard := none }) (v := ?v6_904) rfl (by kernel_rfl) (by kernel_rfl) (by kernel_rfl) (by kernel_rfl) (by kernel_rfl) (fun _ _ _ h => h) (Or.inl ⟨by rfl, ?y6_904⟩) hHeld ?r6_904
    case y6_904 => intro w hSw; (try dsimp only at hSw); go_simp; try with_reducible rfl
    try simp only [Act.put, List.setIfInBounds_toArray, List.set_cons_zero, List.set_cons_succ]
    refine wpAnyL_ready (rs := [7]) (by kernel_rfl) (by simp) ?_
    refine AllReadyL.last (o := { dst := none, op := Go.Op.store 71 (Go.Operand.tmp 4) (Go.Operand.tmp 68), type := 0, pos := "auth.go:43", after := #[{ on := 6, ground := Go.Ground.data }, { on := 5, ground := Go.Ground.chain }, { on := 0, ground := Go.Ground.phase }, { on := 1, ground := Go.Ground.phase }, { on := 2, ground := Go.Ground.phase }, { on := 3, ground := Go.Ground.phase }, { on := 4, ground := Go.Ground.phase }, { on := 5, ground := Go.Ground.phase }, { on := 6, ground := Go.Ground.phase }], guard := none }) rfl (by decide) (fun K hK => ?_) AllReadyL.nil
    have KZ := Lib.hid (HR4.out.s5 (.int .i64 3) (.int .i64 0) (.slice none 0 0) (.slice (some ⟨g1, 0, none⟩) 1 1) (.slice ga m gc))
    have HGZ := Lib.hid (grown_s5 wx3 qR (.int .i64 3) (.int .i64 0) (.slice none 0 0) (.slice (some ⟨g1, 0, none⟩) 1 1) (.slice ga m gc))
    have HBZ := Lib.hid (HB.out.grown HGZ.out HB.out.size (fun k hk => by injection hk with hk; rw [← hk]; exact HQ4.out))
    have HS1Z := Lib.hid (HS1.out.far HGZ.out (Nat.lt_succ_self _))
    have HSGZ := Lib.hid (HSG.out.far HGZ.out (Nat.lt_succ_self _))
    obtain ⟨y0, y1, y2, y3, y4, f0, f1, f2, f3, f4⟩ := HR4.out.u5
    go_wp2_with fail
    refine hK.out _ _ trivial (fun _ => ?_)
    clear hK K
    try simp only [Act.put, List.setIfInBounds_toArray, List.set_cons_zero, List.set_cons_succ]
    refine wpAnyL_done (by kernel_rfl) ?_ _
    repeat go_step
    obtain ⟨wz, hwz⟩ : ∃ x, (((((wx3.setCell ⟨qR, 0, none⟩ (.int .i64 3)).setCell ⟨qR, 1, none⟩ (.int .i64 0)).setCell ⟨qR, 2, none⟩ (.slice none 0 0)).setCell ⟨qR, 3, none⟩ (.slice (some ⟨g1, 0, none⟩) 1 1)).setCell ⟨qR, 4, none⟩ (.slice ga m gc)) = x := ⟨_, rfl⟩
    rw [hwz] at KZ HBZ HS1Z HSGZ ⊢
    clear hwz HGZ y0 y1 y2 y3 y4 f0 f1 f2 f3 f4
    obtain ⟨z0, z1, z2, z3, z4, _⟩ := KZ.out.u5
    refine bodyPost_ret (v := .agg #[.int .i64 3, .int .i64 0, .slice none 0 0, .slice (some ⟨g1, 0, none⟩) 1 1, .slice ga m gc]) (by simp [results, Tryz.results33, go_sem, z0, z1, z2, z3, z4]) rfl ⟨⟨_, rfl, by rw [HV.out]; exact ⟨_, _, _, _, _, _, _, _, _, rfl, ((SetsUp.nil _ (qR + 1)).mono HBQ.out), (fun _ => ⟨rfl, rfl⟩), ((HS1Z.out).mono HBQ.out), (fun h => by cases h), ((HSGZ.out).mono HBQ.out), HGN.out⟩⟩, HBZ.out⟩
  · go_simp
    have hs := SetsUp.one (w := wdd) (sn := bn) (st := bt) (sk := bk) (su := bu) HbM.out HbR.out HR4.out.1
    have hb := (Below.refl _ _ : Below wdd.heap.size wdd wdd).alloc (Nat.le_refl _) (.cells #[.string bn, .int .i64 bt, .int .i64 bk, .int .i64 bu, .slice ba bm bc] 38)
    obtain ⟨wx1, hwe⟩ : ∃ x, wdd.alloc (.cells #[.string bn, .int .i64 bt, .int .i64 bk, .int .i64 bu, .slice ba bm bc] 38) = x := ⟨_, rfl⟩
    rw [hwe] at hs hb ⊢
    replace HR4 := Lib.hid (HR4.out.below hb)
    replace HZN := Lib.hid (HZN.out.below hb)
    replace HbR := Lib.hid (own_below' HbR.out hb)
    replace HB := Lib.hid (HB.out.trans (hb.mono HB.out.size))
    obtain ⟨g4, hge⟩ : ∃ x, wdd.heap.size = x := ⟨_, rfl⟩
    rw [hge] at hs ⊢
    have HS4 := Lib.hid hs
    clear hs hwe hge
    refine hK.out _ _ (⟨Lib.hid (hHeld.1.out.trans (hb.mono hHeld.1.out.size)), cell_later4 hb hHeld.2.1, cell_later4 hb hHeld.2.2.1, cell_later4 hb hHeld.2.2.2.1, cell_later4 hb hHeld.2.2.2.2.1, cell_later4 hb hHeld.2.2.2.2.2⟩) (fun hHeld2 => ?_)
    clear hK K hHeld
    have hHeld := hHeld2
    clear hHeld2
    try simp only [Act.put, List.setIfInBounds_toArray, List.set_cons_zero, List.set_cons_succ]
    refine wpAnyL_ready (rs := [1, 5]) (by kernel_rfl) (by simp) ?_
    refine AllReadyL.cons (o := { dst := some 63, op := Go.Op.buildSlice 61 1 #[(0, Go.Operand.tmp 62)], type := 61, pos := "auth.go:43", after := #[{ on := 0, ground := Go.Ground.data }], guard := none }) rfl (by decide) (fun K hK => ?_) (AllReadyL.cons (o := { dst := some 67, op := Go.Op.call { callee := Go.Callee.value (Go.Operand.func 78), args := #[Go.Operand.tmp 64, Go.Operand.tmp 66], argTypes := #[28, 61] }, type := 61, pos := "auth.go:43", after := #[{ on := 2, ground := Go.Ground.data }, { on := 4, ground := Go.Ground.data }], guard := none }) rfl (by decide) (fun K hK => ?_) AllReadyL.nil)
    · go_simp
      have hs := SetsUp.one (w := wx1) (sn := bn) (st := bt) (sk := bk) (su := bu) HbM.out HbR.out HR4.out.1
      have hb := (Below.refl _ _ : Below wx1.heap.size wx1 wx1).alloc (Nat.le_refl _) (.cells #[.string bn, .int .i64 bt, .int .i64 bk, .int .i64 bu, .slice ba bm bc] 38)
      obtain ⟨wx2, hwe⟩ : ∃ x, wx1.alloc (.cells #[.string bn, .int .i64 bt, .int .i64 bk, .int .i64 bu, .slice ba bm bc] 38) = x := ⟨_, rfl⟩
      rw [hwe] at hs hb ⊢
      replace HR4 := Lib.hid (HR4.out.below hb)
      replace HZN := Lib.hid (HZN.out.below hb)
      replace HbR := Lib.hid (own_below' HbR.out hb)
      replace HB := Lib.hid (HB.out.trans (hb.mono HB.out.size))
      replace HS4 := Lib.hid (HS4.out.below hb)
      obtain ⟨g1, hge⟩ : ∃ x, wx1.heap.size = x := ⟨_, rfl⟩
      rw [hge] at hs ⊢
      have HS1 := Lib.hid hs
      clear hs hwe hge
      refine hK.out _ _ (⟨Lib.hid (hHeld.1.out.trans (hb.mono hHeld.1.out.size)), cell_later4 hb hHeld.2.1, cell_later4 hb hHeld.2.2.1, cell_later4 hb hHeld.2.2.2.1, cell_later4 hb hHeld.2.2.2.2.1, cell_later4 hb hHeld.2.2.2.2.2⟩) (fun hHeld2 => ?_)
      clear hK K hHeld
      have hHeld := hHeld2
      clear hHeld2
      try simp only [Act.put, List.setIfInBounds_toArray, List.set_cons_zero, List.set_cons_succ]
      refine wpAnyL_ready (rs := [5]) (by kernel_rfl) (by simp) ?_
      refine AllReadyL.cons (o := { dst := some 67, op := Go.Op.call { callee := Go.Callee.value (Go.Operand.func 78), args := #[Go.Operand.tmp 64, Go.Operand.tmp 66], argTypes := #[28, 61] }, type := 61, pos := "auth.go:43", after := #[{ on := 2, ground := Go.Ground.data }, { on := 4, ground := Go.Ground.data }], guard := none }) rfl (by decide) (fun K hK => ?_) AllReadyL.nil
      go_simp
      refine (glue_any z apex S (some ⟨g4, 0, none⟩) 1 1 [⟨⟨bn, bt, bk⟩, bu, bd⟩] wx2 HZN.out HRI.out HSZ.out HS4.out.at (by decide) HGD.out HGS.out).mono ?_; rintro e wx3 ⟨v, G, T, m, rfl, htg, hgm, hgl, hgn, hos, hb⟩
      obtain ⟨ga, gc, rfl, hsg, hgnil⟩ := SetsUp.own hos
      rw [hgm, ← tgF_eq htg] at hsg
      rw [hgl] at hsg hgnil ⊢
      have HGN := Lib.hid hgnil
      have HSG := Lib.hid (show SetsUp wx3 (qR + 1) ga m (glueL S [⟨⟨bn, bt, bk⟩, bu, bd⟩]) from hsg.mono HR4.out.1)
      replace HR4 := Lib.hid (HR4.out.below hb)
      replace HZN := Lib.hid (HZN.out.below hb)
      replace HbR := Lib.hid (own_below' HbR.out hb)
      replace HB := Lib.hid (HB.out.trans (hb.mono HB.out.size))
      replace HS1 := Lib.hid (HS1.out.below hb)
      replace HS4 := Lib.hid (HS4.out.below hb)
      clear hos hsg hgnil hgm hgl hgn htg
      go_wp2_with fail
      refine hK.out _ _ (⟨Lib.hid (hHeld.1.out.trans (hb.mono hHeld.1.out.size)), cell_later4 hb hHeld.2.1, cell_later4 hb hHeld.2.2.1, cell_later4 hb hHeld.2.2.2.1, cell_later4 hb hHeld.2.2.2.2.1, cell_later4 hb hHeld.2.2.2.2.2⟩) (fun hHeld2 => ?_)
      clear hK K hHeld
      have hHeld := hHeld2
      clear hHeld2
      try simp only [Act.put, List.setIfInBounds_toArray, List.set_cons_zero, List.set_cons_succ]
      refine wpAnyL_take (i := 6) (oi := { dst := some 68, op := Go.Op.build 71 #[(0, Go.Operand.const (Go.Value.int Go.IntKind.i64 3)), (3, Go.Operand.tmp 63), (4, Go.Operand.tmp 67)], type := 71, pos := "auth.go:43", after := #[{ on := 1, ground := Go.Ground.data }, { on := 5, ground := Go.Ground.data }], guard := none }) (v := ?v6_908) rfl (by kernel_rfl) (by kernel_rfl) (by kernel_rfl) (by kernel_rfl) (by kernel_rfl) (fun _ _ _ h => h) (Or.inl ⟨by rfl, ?y6_908⟩) hHeld ?r6_908
      case y6_908 => intro w hSw; (try dsimp only at hSw); go_simp; try with_reducible rfl
      try simp only [Act.put, List.setIfInBounds_toArray, List.set_cons_zero, List.set_cons_succ]
      refine wpAnyL_ready (rs := [7]) (by kernel_rfl) (by simp) ?_
      refine AllReadyL.last (o := { dst := none, op := Go.Op.store 71 (Go.Operand.tmp 4) (Go.Operand.tmp 68), type := 0, pos := "auth.go:43", after := #[{ on := 6, ground := Go.Ground.data }, { on := 5, ground := Go.Ground.chain }, { on := 0, ground := Go.Ground.phase }, { on := 1, ground := Go.Ground.phase }, { on := 2, ground := Go.Ground.phase }, { on := 3, ground := Go.Ground.phase }, { on := 4, ground := Go.Ground.phase }, { on := 5, ground := Go.Ground.phase }, { on := 6, ground := Go.Ground.phase }], guard := none }) rfl (by decide) (fun K hK => ?_) AllReadyL.nil
      have KZ := Lib.hid (HR4.out.s5 (.int .i64 3) (.int .i64 0) (.slice none 0 0) (.slice (some ⟨g1, 0, none⟩) 1 1) (.slice ga m gc))
      have HGZ := Lib.hid (grown_s5 wx3 qR (.int .i64 3) (.int .i64 0) (.slice none 0 0) (.slice (some ⟨g1, 0, none⟩) 1 1) (.slice ga m gc))
      have HBZ := Lib.hid (HB.out.grown HGZ.out HB.out.size (fun k hk => by injection hk with hk; rw [← hk]; exact HQ4.out))
      have HS1Z := Lib.hid (HS1.out.far HGZ.out (Nat.lt_succ_self _))
      have HSGZ := Lib.hid (HSG.out.far HGZ.out (Nat.lt_succ_self _))
      obtain ⟨y0, y1, y2, y3, y4, f0, f1, f2, f3, f4⟩ := HR4.out.u5
      go_wp2_with fail
      refine hK.out _ _ trivial (fun _ => ?_)
      clear hK K
      try simp only [Act.put, List.setIfInBounds_toArray, List.set_cons_zero, List.set_cons_succ]
      refine wpAnyL_done (by kernel_rfl) ?_ _
      repeat go_step
      obtain ⟨wz, hwz⟩ : ∃ x, (((((wx3.setCell ⟨qR, 0, none⟩ (.int .i64 3)).setCell ⟨qR, 1, none⟩ (.int .i64 0)).setCell ⟨qR, 2, none⟩ (.slice none 0 0)).setCell ⟨qR, 3, none⟩ (.slice (some ⟨g1, 0, none⟩) 1 1)).setCell ⟨qR, 4, none⟩ (.slice ga m gc)) = x := ⟨_, rfl⟩
      rw [hwz] at KZ HBZ HS1Z HSGZ ⊢
      clear hwz HGZ y0 y1 y2 y3 y4 f0 f1 f2 f3 f4
      obtain ⟨z0, z1, z2, z3, z4, _⟩ := KZ.out.u5
      refine bodyPost_ret (v := .agg #[.int .i64 3, .int .i64 0, .slice none 0 0, .slice (some ⟨g1, 0, none⟩) 1 1, .slice ga m gc]) (by simp [results, Tryz.results33, go_sem, z0, z1, z2, z3, z4]) rfl ⟨⟨_, rfl, by rw [HV.out]; exact ⟨_, _, _, _, _, _, _, _, _, rfl, ((SetsUp.nil _ (qR + 1)).mono HBQ.out), (fun _ => ⟨rfl, rfl⟩), ((HS1Z.out).mono HBQ.out), (fun h => by cases h), ((HSGZ.out).mono HBQ.out), HGN.out⟩⟩, HBZ.out⟩
    · go_simp
      refine (glue_any z apex S (some ⟨g4, 0, none⟩) 1 1 [⟨⟨bn, bt, bk⟩, bu, bd⟩] wx1 HZN.out HRI.out HSZ.out HS4.out.at (by decide) HGD.out HGS.out).mono ?_; rintro e wx2 ⟨v, G, T, m, rfl, htg, hgm, hgl, hgn, hos, hb⟩
      obtain ⟨ga, gc, rfl, hsg, hgnil⟩ := SetsUp.own hos
      rw [hgm, ← tgF_eq htg] at hsg
      rw [hgl] at hsg hgnil ⊢
      have HGN := Lib.hid hgnil
      have HSG := Lib.hid (show SetsUp wx2 (qR + 1) ga m (glueL S [⟨⟨bn, bt, bk⟩, bu, bd⟩]) from hsg.mono HR4.out.1)
      replace HR4 := Lib.hid (HR4.out.below hb)
      replace HZN := Lib.hid (HZN.out.below hb)
      replace HbR := Lib.hid (own_below' HbR.out hb)
      replace HB := Lib.hid (HB.out.trans (hb.mono HB.out.size))
      replace HS4 := Lib.hid (HS4.out.below hb)
      clear hos hsg hgnil hgm hgl hgn htg
      go_wp2_with fail
      refine hK.out _ _ (⟨Lib.hid (hHeld.1.out.trans (hb.mono hHeld.1.out.size)), cell_later4 hb hHeld.2.1, cell_later4 hb hHeld.2.2.1, cell_later4 hb hHeld.2.2.2.1, cell_later4 hb hHeld.2.2.2.2.1, cell_later4 hb hHeld.2.2.2.2.2⟩) (fun hHeld2 => ?_)
      clear hK K hHeld
      have hHeld := hHeld2
      clear hHeld2
      try simp only [Act.put, List.setIfInBounds_toArray, List.set_cons_zero, List.set_cons_succ]
      refine wpAnyL_ready (rs := [1]) (by kernel_rfl) (by simp) ?_
      refine AllReadyL.cons (o := { dst := some 63, op := Go.Op.buildSlice 61 1 #[(0, Go.Operand.tmp 62)], type := 61, pos := "auth.go:43", after := #[{ on := 0, ground := Go.Ground.data }], guard := none }) rfl (by decide) (fun K hK => ?_) AllReadyL.nil
      go_simp
      have hs := SetsUp.one (w := wx2) (sn := bn) (st := bt) (sk := bk) (su := bu) HbM.out HbR.out HR4.out.1
      have hb := (Below.refl _ _ : Below wx2.heap.size wx2 wx2).alloc (Nat.le_refl _) (.cells #[.string bn, .int .i64 bt, .int .i64 bk, .int .i64 bu, .slice ba bm bc] 38)
      obtain ⟨wx3, hwe⟩ : ∃ x, wx2.alloc (.cells #[.string bn, .int .i64 bt, .int .i64 bk, .int .i64 bu, .slice ba bm bc] 38) = x := ⟨_, rfl⟩
      rw [hwe] at hs hb ⊢
      replace HR4 := Lib.hid (HR4.out.below hb)
      replace HZN := Lib.hid (HZN.out.below hb)
      replace HbR := Lib.hid (own_below' HbR.out hb)
      replace HB := Lib.hid (HB.out.trans (hb.mono HB.out.size))
      replace HS4 := Lib.hid (HS4.out.below hb)
      replace HSG := Lib.hid (HSG.out.below hb)
      obtain ⟨g1, hge⟩ : ∃ x, wx2.heap.size = x := ⟨_, rfl⟩
      rw [hge] at hs ⊢
      have HS1 := Lib.hid hs
      clear hs hwe hge
      refine hK.out _ _ (⟨Lib.hid (hHeld.1.out.trans (hb.mono hHeld.1.out.size)), cell_later4 hb hHeld.2.1, cell_later4 hb hHeld.2.2.1, cell_later4 hb hHeld.2.2.2.1, cell_later4 hb hHeld.2.2.2.2.1, cell_later4 hb hHeld.2.2.2.2.2⟩) (fun hHeld2 => ?_)
      clear hK K hHeld
      have hHeld := hHeld2
      clear hHeld2
      try simp only [Act.put, List.setIfInBounds_toArray, List.set_cons_zero, List.set_cons_succ]
      refine wpAnyL_take (i := 6) (oi := { dst := some 68, op := Go.Op.build 71 #[(0, Go.Operand.const (Go.Value.int Go.IntKind.i64 3)), (3, Go.Operand.tmp 63), (4, Go.Operand.tmp 67)], type := 71, pos := "auth.go:43", after := #[{ on := 1, ground := Go.Ground.data }, { on := 5, ground := Go.Ground.data }], guard := none }) (v := ?v6_911) rfl (by kernel_rfl) (by kernel_rfl) (by kernel_rfl) (by kernel_rfl) (by kernel_rfl) (fun _ _ _ h => h) (Or.inl ⟨by rfl, ?y6_911⟩) hHeld ?r6_911
      case y6_911 => intro w hSw; (try dsimp only at hSw); go_simp; try with_reducible rfl
      try simp only [Act.put, List.setIfInBounds_toArray, List.set_cons_zero, List.set_cons_succ]
      refine wpAnyL_ready (rs := [7]) (by kernel_rfl) (by simp) ?_
      refine AllReadyL.last (o := { dst := none, op := Go.Op.store 71 (Go.Operand.tmp 4) (Go.Operand.tmp 68), type := 0, pos := "auth.go:43", after := #[{ on := 6, ground := Go.Ground.data }, { on := 5, ground := Go.Ground.chain }, { on := 0, ground := Go.Ground.phase }, { on := 1, ground := Go.Ground.phase }, { on := 2, ground := Go.Ground.phase }, { on := 3, ground := Go.Ground.phase }, { on := 4, ground := Go.Ground.phase }, { on := 5, ground := Go.Ground.phase }, { on := 6, ground := Go.Ground.phase }], guard := none }) rfl (by decide) (fun K hK => ?_) AllReadyL.nil
      have KZ := Lib.hid (HR4.out.s5 (.int .i64 3) (.int .i64 0) (.slice none 0 0) (.slice (some ⟨g1, 0, none⟩) 1 1) (.slice ga m gc))
      have HGZ := Lib.hid (grown_s5 wx3 qR (.int .i64 3) (.int .i64 0) (.slice none 0 0) (.slice (some ⟨g1, 0, none⟩) 1 1) (.slice ga m gc))
      have HBZ := Lib.hid (HB.out.grown HGZ.out HB.out.size (fun k hk => by injection hk with hk; rw [← hk]; exact HQ4.out))
      have HS1Z := Lib.hid (HS1.out.far HGZ.out (Nat.lt_succ_self _))
      have HSGZ := Lib.hid (HSG.out.far HGZ.out (Nat.lt_succ_self _))
      obtain ⟨y0, y1, y2, y3, y4, f0, f1, f2, f3, f4⟩ := HR4.out.u5
      go_wp2_with fail
      refine hK.out _ _ trivial (fun _ => ?_)
      clear hK K
      try simp only [Act.put, List.setIfInBounds_toArray, List.set_cons_zero, List.set_cons_succ]
      refine wpAnyL_done (by kernel_rfl) ?_ _
      repeat go_step
      obtain ⟨wz, hwz⟩ : ∃ x, (((((wx3.setCell ⟨qR, 0, none⟩ (.int .i64 3)).setCell ⟨qR, 1, none⟩ (.int .i64 0)).setCell ⟨qR, 2, none⟩ (.slice none 0 0)).setCell ⟨qR, 3, none⟩ (.slice (some ⟨g1, 0, none⟩) 1 1)).setCell ⟨qR, 4, none⟩ (.slice ga m gc)) = x := ⟨_, rfl⟩
      rw [hwz] at KZ HBZ HS1Z HSGZ ⊢
      clear hwz HGZ y0 y1 y2 y3 y4 f0 f1 f2 f3 f4
      obtain ⟨z0, z1, z2, z3, z4, _⟩ := KZ.out.u5
      refine bodyPost_ret (v := .agg #[.int .i64 3, .int .i64 0, .slice none 0 0, .slice (some ⟨g1, 0, none⟩) 1 1, .slice ga m gc]) (by simp [results, Tryz.results33, go_sem, z0, z1, z2, z3, z4]) rfl ⟨⟨_, rfl, by rw [HV.out]; exact ⟨_, _, _, _, _, _, _, _, _, rfl, ((SetsUp.nil _ (qR + 1)).mono HBQ.out), (fun _ => ⟨rfl, rfl⟩), ((HS1Z.out).mono HBQ.out), (fun h => by cases h), ((HSGZ.out).mono HBQ.out), HGN.out⟩⟩, HBZ.out⟩
end Go.Proofs.YthfnphcefkdgbaaGreat
