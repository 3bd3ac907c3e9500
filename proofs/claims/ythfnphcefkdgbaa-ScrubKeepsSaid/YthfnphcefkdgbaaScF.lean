/- Scrub: what the chapter's examples fix. -/
import Derived.Test.YthfnphcefkdgbaaScS
namespace Go.Proofs.Ythfnphcefkdgbaa
open Go.RowKit

def comC : ByteArray := ⟨#[3, 99, 111, 109, 0]⟩
def netC : ByteArray := ⟨#[3, 110, 101, 116, 0]⟩
def acoC : ByteArray := ⟨#[1, 97, 3, 99, 111, 109, 0]⟩
def adrC : ByteArray := ⟨#[1, 1, 1, 1]⟩
def rS : R5 := ⟨⟨acoC, 1, 1⟩, 5, adrC⟩
def lcomC : ByteArray := ⟨#[99, 111, 109]⟩
theorem labs_comC : labs comC = [lcomC] := labs_eq (L := [lcomC]) (by unfold OkL; decide +kernel) (by decide +kernel) (by decide +kernel)
theorem labs_netC : labs netC = [⟨#[110, 101, 116]⟩] := labs_eq (L := [⟨#[110, 101, 116]⟩]) (by unfold OkL; decide +kernel) (by decide +kernel) (by decide +kernel)
theorem labs_acoC : labs acoC = [⟨#[97]⟩, lcomC] := labs_eq (L := [⟨#[97]⟩, lcomC]) (by unfold OkL; decide +kernel) (by decide +kernel) (by decide +kernel)
theorem may_comC : mayN comC = true := by kernel_rfl
theorem may_netC : mayN netC = true := by kernel_rfl
theorem may_acoC : mayN acoC = true := by kernel_rfl
theorem may_rS : mayR5 rS = true := by kernel_rfl
theorem und_ofC {a b : ByteArray} (ha : mayN a = true) (hb : mayN b = true) : undS a b = undL (labs a) (labs b) := by
  rw [undS, ha, hb]; rfl
theorem und_ac : undS acoC comC = true := by rw [und_ofC may_acoC may_comC, labs_acoC, labs_comC]; decide +kernel
theorem und_an : undS acoC netC = false := by rw [und_ofC may_acoC may_netC, labs_acoC, labs_netC]; decide +kernel
theorem inC_com : inC comC rS = true := by rw [inC, may_rS, show undS rS.k.n comC = true from und_ac]; rfl
theorem inC_net : inC netC rS = false := by rw [inC, may_rS, show undS rS.k.n netC = false from und_an]; rfl
theorem wi_nil (cut : ByteArray) : wiF cut [] = [] := (grpF_of Canon.nil).symm
theorem wi_one {cut : ByteArray} {r : R5} (h : inC cut r = true) : wiF cut [r] = [⟨r.k, r.ttl, [r.d]⟩] := by
  have h1 : wiL cut [r] = [r] := by rw [wiL, List.filter_cons_of_pos h, List.filter_nil]
  rw [wiF, h1]
  exact (grpF_of (Canon.nil.new (r := r) (fun s h => by cases h))).symm
theorem wi_no {cut : ByteArray} {r : R5} (h : inC cut r = false) : wiF cut [r] = [] := by
  have h1 : wiL cut [r] = [] := by rw [wiL, List.filter_cons_of_neg (by rw [h]; simp), List.filter_nil]
  rw [wiF, h1]
  exact (grpF_of Canon.nil).symm
def mS : MsgP := ⟨0, 0, 0, false, true, false, false, false, [], [rS], [], []⟩
theorem small_mS : ScM mS := ⟨⟨by decide, (fun r hr => by obtain rfl := List.mem_singleton.1 hr; decide), fun r hr => by obtain rfl := List.mem_singleton.1 hr; decide⟩, ⟨by decide, (fun r hr => by cases hr), fun r hr => by cases hr⟩, ⟨by decide, (fun r hr => by cases hr), fun r hr => by cases hr⟩⟩
theorem findK_nil (k : Ky) : findK [] k = none := findK_none (j := 0) (fun s h => by simp at h) (Nat.le_refl _)
theorem findK_one (s : SetP) : findK [s] s.k = some s := findK_some (j := 0) (fun s h => by simp at h) rfl rfl
theorem sort_com : sortF comC acoC 1 1 mS = ⟨1, 0, [(⟨rS.k, 5, [adrC]⟩, 4)], emB⟩ := by
  show sortS comC acoC 1 1 0 true false (wiF comC [rS]) _ _ = _
  have h : ansO (wiF comC [rS]) acoC 1 1 (rankF true) = some ⟨1, 0, [(⟨rS.k, 5, [adrC]⟩, 4)], emB⟩ := by
    rw [wi_one inC_com, ansO, show findK [⟨rS.k, rS.ttl, [rS.d]⟩] ⟨acoC, 1, 1⟩ = some ⟨rS.k, rS.ttl, [rS.d]⟩ from findK_one _]; rfl
  rw [sort_an (Or.inl rfl) (by rw [h]; rfl), h]; rfl
theorem sort_net : sortF netC acoC 1 1 mS = ⟨5, 0, [], emB⟩ := by
  show sortS netC acoC 1 1 0 true false (wiF netC [rS]) (wiF netC []) (wiF netC []) = _
  rw [wi_no inC_net, wi_nil]
  have h : ansO [] acoC 1 1 (rankF true) = none := by rw [ansO, findK_nil]; show aliO _ _ _ _ = none; rw [aliO, findK_nil]
  have h2 : refO netC acoC 1 [] [] = none := if_pos rfl
  rw [sort_nd rfl h h2]
  rfl
/-- The first of the sets that are told, as it lies. -/
def H4 (w : World) (g : Nat) : Prop := w.cell? ⟨g, 0, none⟩ = some (.string acoC) ∧ w.cell? ⟨g, 1, none⟩ = some (.int .i64 1) ∧ w.cell? ⟨g, 2, none⟩ = some (.int .i64 1) ∧ w.cell? ⟨g, 5, none⟩ = some (.int .i64 4)
theorem H4.below {w w' : World} {g : Nat} (h : H4 w g) (hb : Below w.heap.size w w') : H4 w' g := ⟨cell_later4 hb h.1, cell_later4 hb h.2.1, cell_later4 hb h.2.2.1, cell_later4 hb h.2.2.2⟩
theorem H4.set {w w' : World} {g q : Nat} (h : H4 w g) (hg : w.grownBy w' (some q)) (hne : g ≠ q) : H4 w' g := by
  exact ⟨hg.cell h.1 (fun e => hne (Option.some.inj e)), hg.cell h.2.1 (fun e => hne (Option.some.inj e)), hg.cell h.2.2.1 (fun e => hne (Option.some.inj e)), hg.cell h.2.2.2 (fun e => hne (Option.some.inj e))⟩
theorem out_com {w : World} {B : Nat} {v : Value} (h : OutUp w B v ⟨1, 0, [(⟨rS.k, 5, [adrC]⟩, 4)], emB⟩) : ∃ g c, v = .agg #[.int .i64 1, .int .i64 0, .slice (some ⟨g, 0, none⟩) 1 c, .string ⟨#[]⟩] ∧ B ≤ g ∧ g < w.heap.size ∧ H4 w g := by
  obtain ⟨a, n, c, rfl, hr, hn⟩ := h
  obtain ⟨Lp, h1, h2, h3, -⟩ := id hr
  have hl : n = 1 := by rw [← h2, ← List.length_map (f := fstT), h1]; rfl
  subst hl
  rcases h3 with h3 | ⟨g, rfl, h6, h7, -⟩
  · cases h3
  obtain ⟨g', p, he, -, hp, a', c', x0, x1, x2, x3, x4, x5, -⟩ := hr.at 0 (by decide)
  obtain rfl : g = g' := by injection he with he; injection he
  obtain rfl : (⟨rS.k, 5, [adrC]⟩, 4) = p := Option.some.inj hp
  exact ⟨g, c, rfl, h6, h7, x0, x1, x2, x5⟩
theorem out_net {w : World} {B : Nat} {v : Value} (h : OutUp w B v ⟨5, 0, [], emB⟩) : ∃ a c, v = .agg #[.int .i64 5, .int .i64 0, .slice a 0 c, .string ⟨#[]⟩] := by
  obtain ⟨a, n, c, rfl, hr, hn⟩ := h
  obtain ⟨Lp, h1, h2, h3, -⟩ := hr
  have hl : n = 0 := by rw [← h2, ← List.length_map (f := fstT), h1]; rfl
  subst hl
  exact ⟨a, c, rfl⟩
theorem row_one (w : World) : RowR (w.alloc (.cells #[.string ⟨#[1, 97, 3, 99, 111, 109, 0]⟩, .int .i64 1, .int .i64 1, .int .i64 5, .string ⟨#[1, 1, 1, 1]⟩] 87)) (some ⟨w.heap.size, 0, none⟩) 1 [rS] := ⟨rfl, cells_lit w #[.string ⟨#[1, 97, 3, 99, 111, 109, 0]⟩, .int .i64 1, .int .i64 1, .int .i64 5, .string ⟨#[1, 1, 1, 1]⟩] _⟩
set_option maxRecDepth 100000 in
set_option maxHeartbeats 8000000 in
theorem first19 (w : World) : Calls Try.prog 35 #[] w fun e w' => e = .returned (.bool true) ∧ Below w.heap.size w w' := by
  have HB := Lib.hid (Below.refl w.heap.size w)
  go_enter Try.func35, Try.ntmps35
  go_upto_region 1 with (fail)
  have hba := (Below.refl _ _ : Below w.heap.size w w).alloc (Nat.le_refl _) (.cells #[.string ⟨#[1, 97, 3, 99, 111, 109, 0]⟩, .int .i64 1, .int .i64 1] 71)
  have C1 := Lib.hid (CN.new w #[.string ⟨#[1, 97, 3, 99, 111, 109, 0]⟩, .int .i64 1, .int .i64 1] 71)
  replace HB := Lib.hid (HB.out.trans (hba.mono HB.out.size))
  obtain ⟨w2, hw⟩ : ∃ x, w.alloc (.cells #[.string ⟨#[1, 97, 3, 99, 111, 109, 0]⟩, .int .i64 1, .int .i64 1] 71) = x := ⟨_, rfl⟩
  obtain ⟨q2, hq⟩ : ∃ x, w.heap.size = x := ⟨_, rfl⟩
  rw [hw, hq] at C1
  rw [hw] at HB
  have HW := Lib.hid hw
  have HQ_ := Lib.hid hq
  clear hba hw hq
  go_upto_region 2 with (fail)
  rw [HW.out, HQ_.out]
  clear HW HQ_
  have hba := (Below.refl _ _ : Below w2.heap.size w2 w2).alloc (Nat.le_refl _) (.cells #[.string ⟨#[1, 97, 3, 99, 111, 109, 0]⟩, .int .i64 1, .int .i64 1, .int .i64 5, .string ⟨#[1, 1, 1, 1]⟩] 87)
  have C2 := Lib.hid (CN.new w2 #[.string ⟨#[1, 97, 3, 99, 111, 109, 0]⟩, .int .i64 1, .int .i64 1, .int .i64 5, .string ⟨#[1, 1, 1, 1]⟩] 87)
  replace HB := Lib.hid (HB.out.trans (hba.mono HB.out.size))
  replace C1 := Lib.hid (C1.out.below hba)
  obtain ⟨w3, hw⟩ : ∃ x, w2.alloc (.cells #[.string ⟨#[1, 97, 3, 99, 111, 109, 0]⟩, .int .i64 1, .int .i64 1, .int .i64 5, .string ⟨#[1, 1, 1, 1]⟩] 87) = x := ⟨_, rfl⟩
  obtain ⟨q3, hq⟩ : ∃ x, w2.heap.size = x := ⟨_, rfl⟩
  rw [hw, hq] at C2
  rw [hw] at HB C1
  have HW := Lib.hid hw
  have HQ_ := Lib.hid hq
  clear hba hw hq
  go_upto_region 3 with (fail)
  rw [HW.out, HQ_.out]
  clear HW HQ_
  obtain ⟨p0, p1, p2, p3, p4, _⟩ := C2.out.u5
  have HLR := Lib.hid (row_one w3)
  have hba := (Below.refl _ _ : Below w3.heap.size w3 w3).alloc (Nat.le_refl _) (.cells #[.string ⟨#[1, 97, 3, 99, 111, 109, 0]⟩, .int .i64 1, .int .i64 1, .int .i64 5, .string ⟨#[1, 1, 1, 1]⟩] 87)
  replace HB := Lib.hid (HB.out.trans (hba.mono HB.out.size))
  replace C1 := Lib.hid (C1.out.below hba)
  replace C2 := Lib.hid (C2.out.below hba)
  clear hba
  obtain ⟨wl, hwl⟩ : ∃ x, w3.alloc (.cells #[.string ⟨#[1, 97, 3, 99, 111, 109, 0]⟩, .int .i64 1, .int .i64 1, .int .i64 5, .string ⟨#[1, 1, 1, 1]⟩] 87) = x := ⟨_, rfl⟩
  obtain ⟨ql, hql⟩ : ∃ x, w3.heap.size = x := ⟨_, rfl⟩
  have HSL := Lib.hid (show ql + 1 = wl.heap.size by rw [← hql, ← hwl, World.size_alloc])
  rw [hwl, hql] at HLR
  rw [hwl] at HB C1 C2
  have hba := (Below.refl _ _ : Below wl.heap.size wl wl).alloc (Nat.le_refl _) (.cells #[.int .i64 0, .int .i64 0, .int .i64 0, .bool false, .bool true, .bool false, .bool false, .bool false, .slice none 0 0, .slice (some ⟨ql, 0, none⟩) 1 1, .slice none 0 0, .slice none 0 0] 77)
  have C3 := Lib.hid (CN.new wl #[.int .i64 0, .int .i64 0, .int .i64 0, .bool false, .bool true, .bool false, .bool false, .bool false, .slice none 0 0, .slice (some ⟨ql, 0, none⟩) 1 1, .slice none 0 0, .slice none 0 0] 77)
  replace HB := Lib.hid (HB.out.trans (hba.mono HB.out.size))
  replace C1 := Lib.hid (C1.out.below hba)
  replace C2 := Lib.hid (C2.out.below hba)
  replace HLR := Lib.hid (HLR.out.below hba)
  clear hba
  obtain ⟨w5, hw5⟩ : ∃ x, wl.alloc (.cells #[.int .i64 0, .int .i64 0, .int .i64 0, .bool false, .bool true, .bool false, .bool false, .bool false, .slice none 0 0, .slice (some ⟨ql, 0, none⟩) 1 1, .slice none 0 0, .slice none 0 0] 77) = x := ⟨_, rfl⟩
  obtain ⟨q5, hq5⟩ : ∃ x, wl.heap.size = x := ⟨_, rfl⟩
  rw [hq5] at HSL
  rw [hw5, hq5] at C3
  rw [hw5] at HB C1 C2 HLR
  have HW1 := Lib.hid hwl
  have HW2 := Lib.hid hql
  have HW3 := Lib.hid hw5
  clear hwl hql hw5 hq5
  go_upto_region 4 with (fail)
  clear p0 p1 p2 p3 p4
  rw [HW1.out, show (Value.slice (some { block := w3.heap.size, off := 0 }) 1 1) = Value.slice (some { block := ql, off := 0 }) 1 1 by rw [HW2.out], HW3.out]
  rw [show (Value.pointer (some { block := w3.heap.size + 1, off := 0 })) = Value.pointer (some { block := q5, off := 0 }) by rw [HW2.out, HSL.out]]
  clear HW1 HW2 HW3 HSL
  have HMA := Lib.hid (show MsgAt w5 (.agg #[.int .i64 0, .int .i64 0, .int .i64 0, .bool false, .bool true, .bool false, .bool false, .bool false, .slice none 0 0, .slice (some ⟨ql, 0, none⟩) 1 1, .slice none 0 0, .slice none 0 0]) mS from ⟨none, 0, some ⟨ql, 0, none⟩, 1, none, 0, none, 0, rfl, ⟨⟨rfl, rfl, Or.inl rfl⟩, fun _ => ⟨rfl, rfl⟩⟩, ⟨HLR.out, fun h => by cases h⟩, ⟨⟨rfl, rfl, Or.inl rfl⟩, fun _ => ⟨rfl, rfl⟩⟩, ⟨⟨rfl, rfl, Or.inl rfl⟩, fun _ => ⟨rfl, rfl⟩⟩⟩)
  clear HLR C2
  have hbd := (Below.refl w5.heap.size w5).drew
  obtain ⟨wd, hwd⟩ : ∃ x, w5.drew = x := ⟨_, rfl⟩
  have HBD := Lib.hid (show Below w5.heap.size w5 wd by rw [← hwd]; exact hbd)
  clear hbd
  refine wp_region_held_drew (S := (fun wx => Hid (Below w5.heap.size w5 wx))) (by kernel_rfl) (by rw [hwd]; exact HBD) (fun hHeld => ?_)
  rw [hwd] at hHeld ⊢
  clear hwd
  refine Plan.of [0, 1, 3, 4] ?_
  iterate 4 (refine Plan.w (v := ?_) rfl hHeld (by rfl) ?_ ?_; rotate_left; (focus (intro w hSw; (try dsimp only at hSw); obtain ⟨p0, p1, p2, _⟩ := (C1.out.below hSw.out).u3; obtain ⟨m0, m1, m2, m3, m4, m5, m6, m7, m8, m9, m10, m11, _⟩ := (C3.out.below hSw.out).u12; go_simp; try with_reducible rfl)); try simp only [Act.put, List.setIfInBounds_toArray, List.set_cons_zero, List.set_cons_succ])
  refine Plan.fin ?_
  refine wpAnyH_ready (rs := [2, 6, 7]) (by kernel_rfl) (by simp) ?_
  refine AllReadyH.cons (o := { dst := some 14, op := Go.Op.call { callee := Go.Callee.value (Go.Operand.func 37), args := #[Go.Operand.const (Go.Value.string { data := #[3, 99, 111, 109, 0] }), Go.Operand.tmp 12, Go.Operand.tmp 13], argTypes := #[9, 71, 77] }, type := 81, pos := "law.go:48", after := #[{ on := 0, ground := Go.Ground.data }, { on := 1, ground := Go.Ground.data }], guard := none }) rfl (fun K hK => ?_) (AllReadyH.cons (o := { dst := some 4, op := Go.Op.alloc 81, type := 0, pos := "law.go:48", after := #[], guard := none }) rfl (fun K hK => ?_) (AllReadyH.cons (o := { dst := some 5, op := Go.Op.alloc 81, type := 0, pos := "law.go:48", after := #[], guard := none }) rfl (fun K hK => ?_) AllReadyH.nil))
  · go_simp
    refine (sort_any comC acoC 1 1 mS _ wd (HMA.out.below hHeld.out) small_mS (by decide) (by decide)).mono ?_; rintro e wx1 ⟨⟨v, rfl, hou⟩, hb⟩
    rw [sort_com] at hou
    obtain ⟨gx, cx, rfl, hgB, hgl, hx⟩ := out_com hou
    have HX := Lib.hid hx
    have HGL := Lib.hid hgl
    clear hou hx hgB hgl
    go_wp2_with fail
    refine hK.out _ _ (Lib.hid (hHeld.out.trans (hb.mono hHeld.out.size))) (fun hHeld2 => ?_)
    clear hK K hHeld
    have hHeld := hHeld2
    clear hHeld2
    try simp only [Act.put, List.setIfInBounds_toArray, List.set_cons_zero, List.set_cons_succ]
    refine wpAnyH_ready (rs := [5, 6, 7]) (by kernel_rfl) (by simp) ?_
    refine AllReadyH.cons (o := { dst := some 17, op := Go.Op.call { callee := Go.Callee.value (Go.Operand.func 37), args := #[Go.Operand.const (Go.Value.string { data := #[3, 110, 101, 116, 0] }), Go.Operand.tmp 15, Go.Operand.tmp 16], argTypes := #[9, 71, 77] }, type := 81, pos := "law.go:48", after := #[{ on := 3, ground := Go.Ground.data }, { on := 4, ground := Go.Ground.data }, { on := 2, ground := Go.Ground.chain }], guard := none }) rfl (fun K hK => ?_) (AllReadyH.cons (o := { dst := some 4, op := Go.Op.alloc 81, type := 0, pos := "law.go:48", after := #[], guard := none }) rfl (fun K hK => ?_) (AllReadyH.cons (o := { dst := some 5, op := Go.Op.alloc 81, type := 0, pos := "law.go:48", after := #[], guard := none }) rfl (fun K hK => ?_) AllReadyH.nil))
    · go_simp
      refine (sort_any netC acoC 1 1 mS _ wx1 (HMA.out.below hHeld.out) small_mS (by decide) (by decide)).mono ?_; rintro e wx2 ⟨⟨v, rfl, hou⟩, hb⟩
      replace HX := Lib.hid (HX.out.below hb)
      replace HGL := Lib.hid (Nat.lt_of_lt_of_le HGL.out hb.size)
      rw [sort_net] at hou
      obtain ⟨ax, cy, rfl⟩ := out_net hou
      clear hou
      go_wp2_with fail
      refine hK.out _ _ (Lib.hid (hHeld.out.trans (hb.mono hHeld.out.size))) (fun hHeld2 => ?_)
      clear hK K hHeld
      have hHeld := hHeld2
      clear hHeld2
      try simp only [Act.put, List.setIfInBounds_toArray, List.set_cons_zero, List.set_cons_succ]
      refine wpAnyH_ready (rs := [6, 7]) (by kernel_rfl) (by simp) ?_
      refine AllReadyH.cons (o := { dst := some 4, op := Go.Op.alloc 81, type := 0, pos := "law.go:48", after := #[], guard := none }) rfl (fun K hK => ?_) (AllReadyH.cons (o := { dst := some 5, op := Go.Op.alloc 81, type := 0, pos := "law.go:48", after := #[], guard := none }) rfl (fun K hK => ?_) AllReadyH.nil)
      · go_simp
        have hb := (Below.refl _ _ : Below wx2.heap.size wx2 wx2).alloc (Nat.le_refl _) (.cells #[.int .i64 0, .int .i64 0, .slice none 0 0, .string ⟨#[]⟩] 81)
        have hn := CN.new wx2 #[.int .i64 0, .int .i64 0, .slice none 0 0, .string ⟨#[]⟩] 81
        replace HX := Lib.hid (HX.out.below hb)
        have hsz := hHeld.out.size
        obtain ⟨wx3, hwe⟩ : ∃ x, wx2.alloc (.cells #[.int .i64 0, .int .i64 0, .slice none 0 0, .string ⟨#[]⟩] 81) = x := ⟨_, rfl⟩
        obtain ⟨qa, hge⟩ : ∃ x, wx2.heap.size = x := ⟨_, rfl⟩
        have HNA := Lib.hid (show gx ≠ qa by have h := HGL.out; omega)
        rw [hwe] at hb hn HX ⊢
        rw [hge] at hn hsz ⊢
        have CA := Lib.hid hn
        have HQA := Lib.hid (show w5.heap.size ≤ qa ∧ qa < wx3.heap.size from ⟨hsz, hn.1⟩)
        replace HGL := Lib.hid (Nat.lt_of_lt_of_le HGL.out hb.size)
        clear hn hwe hge hsz
        refine hK.out _ _ (Lib.hid (hHeld.out.trans (hb.mono hHeld.out.size))) (fun hHeld2 => ?_)
        clear hK K hHeld
        have hHeld := hHeld2
        clear hHeld2
        try simp only [Act.put, List.setIfInBounds_toArray, List.set_cons_zero, List.set_cons_succ]
        refine wpAnyH_ready (rs := [7]) (by kernel_rfl) (by simp) ?_
        refine AllReadyH.cons (o := { dst := some 5, op := Go.Op.alloc 81, type := 0, pos := "law.go:48", after := #[], guard := none }) rfl (fun K hK => ?_) AllReadyH.nil
        go_simp
        have hb := (Below.refl _ _ : Below wx3.heap.size wx3 wx3).alloc (Nat.le_refl _) (.cells #[.int .i64 0, .int .i64 0, .slice none 0 0, .string ⟨#[]⟩] 81)
        have hn := CN.new wx3 #[.int .i64 0, .int .i64 0, .slice none 0 0, .string ⟨#[]⟩] 81
        replace HX := Lib.hid (HX.out.below hb)
        replace CA := Lib.hid (CA.out.below hb)
        have hsz := hHeld.out.size
        obtain ⟨wx4, hwe⟩ : ∃ x, wx3.alloc (.cells #[.int .i64 0, .int .i64 0, .slice none 0 0, .string ⟨#[]⟩] 81) = x := ⟨_, rfl⟩
        obtain ⟨qb, hge⟩ : ∃ x, wx3.heap.size = x := ⟨_, rfl⟩
        have HNB := Lib.hid (show gx ≠ qb by have h := HGL.out; omega)
        rw [hwe] at hb hn HX CA ⊢
        rw [hge] at hn hsz ⊢
        have CB := Lib.hid hn
        have HQB := Lib.hid (show w5.heap.size ≤ qb ∧ qb < wx4.heap.size from ⟨hsz, hn.1⟩)
        replace HGL := Lib.hid (Nat.lt_of_lt_of_le HGL.out hb.size)
        have HAB := Lib.hid (show qa ≠ qb by have h := HQA.out; have h2 := hge; omega)
        replace HQA := Lib.hid (show w5.heap.size ≤ qa ∧ qa < wx4.heap.size from ⟨HQA.out.1, Nat.lt_of_lt_of_le HQA.out.2 hb.size⟩)
        clear hn hwe hge hsz
        refine hK.out _ _ (Lib.hid (hHeld.out.trans (hb.mono hHeld.out.size))) (fun hHeld2 => ?_)
        clear hK K hHeld
        have hHeld := hHeld2
        clear hHeld2
        try simp only [Act.put, List.setIfInBounds_toArray, List.set_cons_zero, List.set_cons_succ]
        refine wpAnyH_ready (rs := [8]) (by kernel_rfl) (by simp) ?_
        refine AllReadyH.cons (o := { dst := none, op := Go.Op.store 81 (Go.Operand.tmp 4) (Go.Operand.tmp 14), type := 0, pos := "law.go:48", after := #[{ on := 6, ground := Go.Ground.data }, { on := 2, ground := Go.Ground.data }, { on := 5, ground := Go.Ground.chain }, { on := 0, ground := Go.Ground.phase }, { on := 1, ground := Go.Ground.phase }, { on := 2, ground := Go.Ground.phase }, { on := 3, ground := Go.Ground.textOnly Go.Departure.lateStores }, { on := 4, ground := Go.Ground.textOnly Go.Departure.lateStores }, { on := 5, ground := Go.Ground.textOnly Go.Departure.lateStoresUnsure }, { on := 6, ground := Go.Ground.phase }, { on := 7, ground := Go.Ground.phase }], guard := none }) rfl (fun K hK => ?_) AllReadyH.nil
        obtain ⟨y0, y1, y2, y3, g0, g1, g2, g3⟩ := CA.out.o4
        have hgz := grown_p4 wx4 qa (.int .i64 1) (.int .i64 0) (.slice (some ⟨gx, 0, none⟩) 1 cx) (.string ⟨#[]⟩)
        have KZ := CA.out.p4 (.int .i64 1) (.int .i64 0) (.slice (some ⟨gx, 0, none⟩) 1 cx) (.string ⟨#[]⟩)
        have hbz := hHeld.out.grown hgz hHeld.out.size (fun k hk => by injection hk with hk; rw [← hk]; exact HQA.out.1)
        replace HX := Lib.hid (HX.out.set hgz HNA.out)
        have HO2 := Lib.hid (CB.out.grown hgz (fun e => HAB.out (Option.some.inj e).symm))
        clear hgz
        go_wp2_with fail
        clear y0 y1 y2 y3 g0 g1 g2 g3
        obtain ⟨wx5, hwe⟩ : ∃ x, ((((wx4.setCell ⟨qa, 0, none⟩ (.int .i64 1)).setCell ⟨qa, 1, none⟩ (.int .i64 0)).setCell ⟨qa, 2, none⟩ (.slice (some ⟨gx, 0, none⟩) 1 cx)).setCell ⟨qa, 3, none⟩ (.string ⟨#[]⟩)) = x := ⟨_, rfl⟩
        rw [hwe] at KZ hbz HX HO2 ⊢
        clear hwe
        replace CA := Lib.hid KZ
        replace CB := HO2
        have HBZ8 := Lib.hid hbz
        clear KZ hbz HO2
        refine hK.out _ _ (HBZ8) (fun hHeld2 => ?_)
        clear hK K hHeld
        have hHeld := hHeld2
        clear hHeld2
        try simp only [Act.put, List.setIfInBounds_toArray, List.set_cons_zero, List.set_cons_succ]
        refine wpAnyH_ready (rs := [9]) (by kernel_rfl) (by simp) ?_
        refine AllReadyH.cons (o := { dst := none, op := Go.Op.store 81 (Go.Operand.tmp 5) (Go.Operand.tmp 17), type := 0, pos := "law.go:48", after := #[{ on := 7, ground := Go.Ground.data }, { on := 5, ground := Go.Ground.data }, { on := 8, ground := Go.Ground.chain }, { on := 0, ground := Go.Ground.phase }, { on := 1, ground := Go.Ground.phase }, { on := 2, ground := Go.Ground.phase }, { on := 3, ground := Go.Ground.phase }, { on := 4, ground := Go.Ground.phase }, { on := 5, ground := Go.Ground.phase }, { on := 6, ground := Go.Ground.phase }, { on := 7, ground := Go.Ground.phase }, { on := 8, ground := Go.Ground.phase }], guard := none }) rfl (fun K hK => ?_) AllReadyH.nil
        obtain ⟨y0, y1, y2, y3, g0, g1, g2, g3⟩ := CB.out.o4
        have hgz := grown_p4 wx5 qb (.int .i64 5) (.int .i64 0) (.slice ax 0 cy) (.string ⟨#[]⟩)
        have KZ := CB.out.p4 (.int .i64 5) (.int .i64 0) (.slice ax 0 cy) (.string ⟨#[]⟩)
        have hbz := hHeld.out.grown hgz hHeld.out.size (fun k hk => by injection hk with hk; rw [← hk]; exact HQB.out.1)
        replace HX := Lib.hid (HX.out.set hgz HNB.out)
        have HO2 := Lib.hid (CA.out.grown hgz (fun e => HAB.out (Option.some.inj e)))
        clear hgz
        go_wp2_with fail
        clear y0 y1 y2 y3 g0 g1 g2 g3
        obtain ⟨wx6, hwe⟩ : ∃ x, ((((wx5.setCell ⟨qb, 0, none⟩ (.int .i64 5)).setCell ⟨qb, 1, none⟩ (.int .i64 0)).setCell ⟨qb, 2, none⟩ (.slice ax 0 cy)).setCell ⟨qb, 3, none⟩ (.string ⟨#[]⟩)) = x := ⟨_, rfl⟩
        rw [hwe] at KZ hbz HX HO2 ⊢
        clear hwe
        replace CB := Lib.hid KZ
        replace CA := HO2
        have HBZ9 := Lib.hid hbz
        clear KZ hbz HO2
        refine hK.out _ _ (HBZ9) (fun hHeld2 => ?_)
        clear hK K hHeld
        have hHeld := hHeld2
        clear hHeld2
        try simp only [Act.put, List.setIfInBounds_toArray, List.set_cons_zero, List.set_cons_succ]
        refine wpAnyH_done (by kernel_rfl) ?_ _
        have HBE := Lib.hid (HB.out.trans (hHeld.out.mono HB.out.size))
        clear hHeld
        obtain ⟨y0, y1, y2, y3, _⟩ := CA.out.o4
        obtain ⟨z0, z1, z2, z3, _⟩ := CB.out.o4
        obtain ⟨x0, x1, x2, x5⟩ := HX.out
        have HIK := Lib.hid (isK ⟨acoC, 1, 1⟩ _ 1 1 [1] _ (row_litC1 wx6 1 3) (by decide))
        have hba := (Below.refl _ _ : Below wx6.heap.size wx6 wx6).alloc (Nat.le_refl _) (.cells #[.int .i64 1] 3)
        have HBF := Lib.hid (HBE.out.trans (hba.mono HBE.out.size))
        replace CB := Lib.hid (CB.out.below hba)
        rw [show decide ((⟨acoC, 1, 1⟩ : Ky).t ∈ [(1 : Int)]) = true from rfl] at HIK
        clear hba
        go_wp2_with fail
        refine HIK.out.mono ?_; rintro e wf ⟨rfl, hb⟩
        clear HIK y0 y1 y2 y3 z0 z1 z2 z3 x0 x1 x2 x5
        obtain ⟨z0, z1, z2, z3, _⟩ := (CB.out.below hb).o4
        have HBG := Lib.hid (HBF.out.trans (hb.mono HBF.out.size))
        clear hb
        go_wp2
        go_ret
        exact ⟨rfl, HBG.out⟩
      · go_simp
        have hb := (Below.refl _ _ : Below wx2.heap.size wx2 wx2).alloc (Nat.le_refl _) (.cells #[.int .i64 0, .int .i64 0, .slice none 0 0, .string ⟨#[]⟩] 81)
        have hn := CN.new wx2 #[.int .i64 0, .int .i64 0, .slice none 0 0, .string ⟨#[]⟩] 81
        replace HX := Lib.hid (HX.out.below hb)
        have hsz := hHeld.out.size
        obtain ⟨wx3, hwe⟩ : ∃ x, wx2.alloc (.cells #[.int .i64 0, .int .i64 0, .slice none 0 0, .string ⟨#[]⟩] 81) = x := ⟨_, rfl⟩
        obtain ⟨qb, hge⟩ : ∃ x, wx2.heap.size = x := ⟨_, rfl⟩
        have HNB := Lib.hid (show gx ≠ qb by have h := HGL.out; omega)
        rw [hwe] at hb hn HX ⊢
        rw [hge] at hn hsz ⊢
        have CB := Lib.hid hn
        have HQB := Lib.hid (show w5.heap.size ≤ qb ∧ qb < wx3.heap.size from ⟨hsz, hn.1⟩)
        replace HGL := Lib.hid (Nat.lt_of_lt_of_le HGL.out hb.size)
        clear hn hwe hge hsz
        refine hK.out _ _ (Lib.hid (hHeld.out.trans (hb.mono hHeld.out.size))) (fun hHeld2 => ?_)
        clear hK K hHeld
        have hHeld := hHeld2
        clear hHeld2
        try simp only [Act.put, List.setIfInBounds_toArray, List.set_cons_zero, List.set_cons_succ]
        refine wpAnyH_ready (rs := [6]) (by kernel_rfl) (by simp) ?_
        refine AllReadyH.cons (o := { dst := some 4, op := Go.Op.alloc 81, type := 0, pos := "law.go:48", after := #[], guard := none }) rfl (fun K hK => ?_) AllReadyH.nil
        go_simp
        have hb := (Below.refl _ _ : Below wx3.heap.size wx3 wx3).alloc (Nat.le_refl _) (.cells #[.int .i64 0, .int .i64 0, .slice none 0 0, .string ⟨#[]⟩] 81)
        have hn := CN.new wx3 #[.int .i64 0, .int .i64 0, .slice none 0 0, .string ⟨#[]⟩] 81
        replace HX := Lib.hid (HX.out.below hb)
        replace CB := Lib.hid (CB.out.below hb)
        have hsz := hHeld.out.size
        obtain ⟨wx4, hwe⟩ : ∃ x, wx3.alloc (.cells #[.int .i64 0, .int .i64 0, .slice none 0 0, .string ⟨#[]⟩] 81) = x := ⟨_, rfl⟩
        obtain ⟨qa, hge⟩ : ∃ x, wx3.heap.size = x := ⟨_, rfl⟩
        have HNA := Lib.hid (show gx ≠ qa by have h := HGL.out; omega)
        rw [hwe] at hb hn HX CB ⊢
        rw [hge] at hn hsz ⊢
        have CA := Lib.hid hn
        have HQA := Lib.hid (show w5.heap.size ≤ qa ∧ qa < wx4.heap.size from ⟨hsz, hn.1⟩)
        replace HGL := Lib.hid (Nat.lt_of_lt_of_le HGL.out hb.size)
        have HAB := Lib.hid (show qa ≠ qb by have h := HQB.out; have h2 := hge; omega)
        replace HQB := Lib.hid (show w5.heap.size ≤ qb ∧ qb < wx4.heap.size from ⟨HQB.out.1, Nat.lt_of_lt_of_le HQB.out.2 hb.size⟩)
        clear hn hwe hge hsz
        refine hK.out _ _ (Lib.hid (hHeld.out.trans (hb.mono hHeld.out.size))) (fun hHeld2 => ?_)
        clear hK K hHeld
        have hHeld := hHeld2
        clear hHeld2
        try simp only [Act.put, List.setIfInBounds_toArray, List.set_cons_zero, List.set_cons_succ]
        refine wpAnyH_ready (rs := [8]) (by kernel_rfl) (by simp) ?_
        refine AllReadyH.cons (o := { dst := none, op := Go.Op.store 81 (Go.Operand.tmp 4) (Go.Operand.tmp 14), type := 0, pos := "law.go:48", after := #[{ on := 6, ground := Go.Ground.data }, { on := 2, ground := Go.Ground.data }, { on := 5, ground := Go.Ground.chain }, { on := 0, ground := Go.Ground.phase }, { on := 1, ground := Go.Ground.phase }, { on := 2, ground := Go.Ground.phase }, { on := 3, ground := Go.Ground.textOnly Go.Departure.lateStores }, { on := 4, ground := Go.Ground.textOnly Go.Departure.lateStores }, { on := 5, ground := Go.Ground.textOnly Go.Departure.lateStoresUnsure }, { on := 6, ground := Go.Ground.phase }, { on := 7, ground := Go.Ground.phase }], guard := none }) rfl (fun K hK => ?_) AllReadyH.nil
        obtain ⟨y0, y1, y2, y3, g0, g1, g2, g3⟩ := CA.out.o4
        have hgz := grown_p4 wx4 qa (.int .i64 1) (.int .i64 0) (.slice (some ⟨gx, 0, none⟩) 1 cx) (.string ⟨#[]⟩)
        have KZ := CA.out.p4 (.int .i64 1) (.int .i64 0) (.slice (some ⟨gx, 0, none⟩) 1 cx) (.string ⟨#[]⟩)
        have hbz := hHeld.out.grown hgz hHeld.out.size (fun k hk => by injection hk with hk; rw [← hk]; exact HQA.out.1)
        replace HX := Lib.hid (HX.out.set hgz HNA.out)
        have HO2 := Lib.hid (CB.out.grown hgz (fun e => HAB.out (Option.some.inj e).symm))
        clear hgz
        go_wp2_with fail
        clear y0 y1 y2 y3 g0 g1 g2 g3
        obtain ⟨wx5, hwe⟩ : ∃ x, ((((wx4.setCell ⟨qa, 0, none⟩ (.int .i64 1)).setCell ⟨qa, 1, none⟩ (.int .i64 0)).setCell ⟨qa, 2, none⟩ (.slice (some ⟨gx, 0, none⟩) 1 cx)).setCell ⟨qa, 3, none⟩ (.string ⟨#[]⟩)) = x := ⟨_, rfl⟩
        rw [hwe] at KZ hbz HX HO2 ⊢
        clear hwe
        replace CA := Lib.hid KZ
        replace CB := HO2
        have HBZ8 := Lib.hid hbz
        clear KZ hbz HO2
        refine hK.out _ _ (HBZ8) (fun hHeld2 => ?_)
        clear hK K hHeld
        have hHeld := hHeld2
        clear hHeld2
        try simp only [Act.put, List.setIfInBounds_toArray, List.set_cons_zero, List.set_cons_succ]
        refine wpAnyH_ready (rs := [9]) (by kernel_rfl) (by simp) ?_
        refine AllReadyH.cons (o := { dst := none, op := Go.Op.store 81 (Go.Operand.tmp 5) (Go.Operand.tmp 17), type := 0, pos := "law.go:48", after := #[{ on := 7, ground := Go.Ground.data }, { on := 5, ground := Go.Ground.data }, { on := 8, ground := Go.Ground.chain }, { on := 0, ground := Go.Ground.phase }, { on := 1, ground := Go.Ground.phase }, { on := 2, ground := Go.Ground.phase }, { on := 3, ground := Go.Ground.phase }, { on := 4, ground := Go.Ground.phase }, { on := 5, ground := Go.Ground.phase }, { on := 6, ground := Go.Ground.phase }, { on := 7, ground := Go.Ground.phase }, { on := 8, ground := Go.Ground.phase }], guard := none }) rfl (fun K hK => ?_) AllReadyH.nil
        obtain ⟨y0, y1, y2, y3, g0, g1, g2, g3⟩ := CB.out.o4
        have hgz := grown_p4 wx5 qb (.int .i64 5) (.int .i64 0) (.slice ax 0 cy) (.string ⟨#[]⟩)
        have KZ := CB.out.p4 (.int .i64 5) (.int .i64 0) (.slice ax 0 cy) (.string ⟨#[]⟩)
        have hbz := hHeld.out.grown hgz hHeld.out.size (fun k hk => by injection hk with hk; rw [← hk]; exact HQB.out.1)
        replace HX := Lib.hid (HX.out.set hgz HNB.out)
        have HO2 := Lib.hid (CA.out.grown hgz (fun e => HAB.out (Option.some.inj e)))
        clear hgz
        go_wp2_with fail
        clear y0 y1 y2 y3 g0 g1 g2 g3
        obtain ⟨wx6, hwe⟩ : ∃ x, ((((wx5.setCell ⟨qb, 0, none⟩ (.int .i64 5)).setCell ⟨qb, 1, none⟩ (.int .i64 0)).setCell ⟨qb, 2, none⟩ (.slice ax 0 cy)).setCell ⟨qb, 3, none⟩ (.string ⟨#[]⟩)) = x := ⟨_, rfl⟩
        rw [hwe] at KZ hbz HX HO2 ⊢
        clear hwe
        replace CB := Lib.hid KZ
        replace CA := HO2
        have HBZ9 := Lib.hid hbz
        clear KZ hbz HO2
        refine hK.out _ _ (HBZ9) (fun hHeld2 => ?_)
        clear hK K hHeld
        have hHeld := hHeld2
        clear hHeld2
        try simp only [Act.put, List.setIfInBounds_toArray, List.set_cons_zero, List.set_cons_succ]
        refine wpAnyH_done (by kernel_rfl) ?_ _
        have HBE := Lib.hid (HB.out.trans (hHeld.out.mono HB.out.size))
        clear hHeld
        obtain ⟨y0, y1, y2, y3, _⟩ := CA.out.o4
        obtain ⟨z0, z1, z2, z3, _⟩ := CB.out.o4
        obtain ⟨x0, x1, x2, x5⟩ := HX.out
        have HIK := Lib.hid (isK ⟨acoC, 1, 1⟩ _ 1 1 [1] _ (row_litC1 wx6 1 3) (by decide))
        have hba := (Below.refl _ _ : Below wx6.heap.size wx6 wx6).alloc (Nat.le_refl _) (.cells #[.int .i64 1] 3)
        have HBF := Lib.hid (HBE.out.trans (hba.mono HBE.out.size))
        replace CB := Lib.hid (CB.out.below hba)
        rw [show decide ((⟨acoC, 1, 1⟩ : Ky).t ∈ [(1 : Int)]) = true from rfl] at HIK
        clear hba
        go_wp2_with fail
        refine HIK.out.mono ?_; rintro e wf ⟨rfl, hb⟩
        clear HIK y0 y1 y2 y3 z0 z1 z2 z3 x0 x1 x2 x5
        obtain ⟨z0, z1, z2, z3, _⟩ := (CB.out.below hb).o4
        have HBG := Lib.hid (HBF.out.trans (hb.mono HBF.out.size))
        clear hb
        go_wp2
        go_ret
        exact ⟨rfl, HBG.out⟩
    · go_simp
      have hb := (Below.refl _ _ : Below wx1.heap.size wx1 wx1).alloc (Nat.le_refl _) (.cells #[.int .i64 0, .int .i64 0, .slice none 0 0, .string ⟨#[]⟩] 81)
      have hn := CN.new wx1 #[.int .i64 0, .int .i64 0, .slice none 0 0, .string ⟨#[]⟩] 81
      replace HX := Lib.hid (HX.out.below hb)
      have hsz := hHeld.out.size
      obtain ⟨wx2, hwe⟩ : ∃ x, wx1.alloc (.cells #[.int .i64 0, .int .i64 0, .slice none 0 0, .string ⟨#[]⟩] 81) = x := ⟨_, rfl⟩
      obtain ⟨qa, hge⟩ : ∃ x, wx1.heap.size = x := ⟨_, rfl⟩
      have HNA := Lib.hid (show gx ≠ qa by have h := HGL.out; omega)
      rw [hwe] at hb hn HX ⊢
      rw [hge] at hn hsz ⊢
      have CA := Lib.hid hn
      have HQA := Lib.hid (show w5.heap.size ≤ qa ∧ qa < wx2.heap.size from ⟨hsz, hn.1⟩)
      replace HGL := Lib.hid (Nat.lt_of_lt_of_le HGL.out hb.size)
      clear hn hwe hge hsz
      refine hK.out _ _ (Lib.hid (hHeld.out.trans (hb.mono hHeld.out.size))) (fun hHeld2 => ?_)
      clear hK K hHeld
      have hHeld := hHeld2
      clear hHeld2
      try simp only [Act.put, List.setIfInBounds_toArray, List.set_cons_zero, List.set_cons_succ]
      refine wpAnyH_ready (rs := [5, 7]) (by kernel_rfl) (by simp) ?_
      refine AllReadyH.cons (o := { dst := some 17, op := Go.Op.call { callee := Go.Callee.value (Go.Operand.func 37), args := #[Go.Operand.const (Go.Value.string { data := #[3, 110, 101, 116, 0] }), Go.Operand.tmp 15, Go.Operand.tmp 16], argTypes := #[9, 71, 77] }, type := 81, pos := "law.go:48", after := #[{ on := 3, ground := Go.Ground.data }, { on := 4, ground := Go.Ground.data }, { on := 2, ground := Go.Ground.chain }], guard := none }) rfl (fun K hK => ?_) (AllReadyH.cons (o := { dst := some 5, op := Go.Op.alloc 81, type := 0, pos := "law.go:48", after := #[], guard := none }) rfl (fun K hK => ?_) AllReadyH.nil)
      · go_simp
        refine (sort_any netC acoC 1 1 mS _ wx2 (HMA.out.below hHeld.out) small_mS (by decide) (by decide)).mono ?_; rintro e wx3 ⟨⟨v, rfl, hou⟩, hb⟩
        replace HX := Lib.hid (HX.out.below hb)
        replace CA := Lib.hid (CA.out.below hb)
        replace HGL := Lib.hid (Nat.lt_of_lt_of_le HGL.out hb.size)
        rw [sort_net] at hou
        obtain ⟨ax, cy, rfl⟩ := out_net hou
        clear hou
        replace HQA := Lib.hid (show w5.heap.size ≤ qa ∧ qa < wx3.heap.size from ⟨HQA.out.1, Nat.lt_of_lt_of_le HQA.out.2 hb.size⟩)
        go_wp2_with fail
        refine hK.out _ _ (Lib.hid (hHeld.out.trans (hb.mono hHeld.out.size))) (fun hHeld2 => ?_)
        clear hK K hHeld
        have hHeld := hHeld2
        clear hHeld2
        try simp only [Act.put, List.setIfInBounds_toArray, List.set_cons_zero, List.set_cons_succ]
        refine wpAnyH_ready (rs := [7]) (by kernel_rfl) (by simp) ?_
        refine AllReadyH.cons (o := { dst := some 5, op := Go.Op.alloc 81, type := 0, pos := "law.go:48", after := #[], guard := none }) rfl (fun K hK => ?_) AllReadyH.nil
        go_simp
        have hb := (Below.refl _ _ : Below wx3.heap.size wx3 wx3).alloc (Nat.le_refl _) (.cells #[.int .i64 0, .int .i64 0, .slice none 0 0, .string ⟨#[]⟩] 81)
        have hn := CN.new wx3 #[.int .i64 0, .int .i64 0, .slice none 0 0, .string ⟨#[]⟩] 81
        replace HX := Lib.hid (HX.out.below hb)
        replace CA := Lib.hid (CA.out.below hb)
        have hsz := hHeld.out.size
        obtain ⟨wx4, hwe⟩ : ∃ x, wx3.alloc (.cells #[.int .i64 0, .int .i64 0, .slice none 0 0, .string ⟨#[]⟩] 81) = x := ⟨_, rfl⟩
        obtain ⟨qb, hge⟩ : ∃ x, wx3.heap.size = x := ⟨_, rfl⟩
        have HNB := Lib.hid (show gx ≠ qb by have h := HGL.out; omega)
        rw [hwe] at hb hn HX CA ⊢
        rw [hge] at hn hsz ⊢
        have CB := Lib.hid hn
        have HQB := Lib.hid (show w5.heap.size ≤ qb ∧ qb < wx4.heap.size from ⟨hsz, hn.1⟩)
        replace HGL := Lib.hid (Nat.lt_of_lt_of_le HGL.out hb.size)
        have HAB := Lib.hid (show qa ≠ qb by have h := HQA.out; have h2 := hge; omega)
        replace HQA := Lib.hid (show w5.heap.size ≤ qa ∧ qa < wx4.heap.size from ⟨HQA.out.1, Nat.lt_of_lt_of_le HQA.out.2 hb.size⟩)
        clear hn hwe hge hsz
        refine hK.out _ _ (Lib.hid (hHeld.out.trans (hb.mono hHeld.out.size))) (fun hHeld2 => ?_)
        clear hK K hHeld
        have hHeld := hHeld2
        clear hHeld2
        try simp only [Act.put, List.setIfInBounds_toArray, List.set_cons_zero, List.set_cons_succ]
        refine wpAnyH_ready (rs := [8]) (by kernel_rfl) (by simp) ?_
        refine AllReadyH.cons (o := { dst := none, op := Go.Op.store 81 (Go.Operand.tmp 4) (Go.Operand.tmp 14), type := 0, pos := "law.go:48", after := #[{ on := 6, ground := Go.Ground.data }, { on := 2, ground := Go.Ground.data }, { on := 5, ground := Go.Ground.chain }, { on := 0, ground := Go.Ground.phase }, { on := 1, ground := Go.Ground.phase }, { on := 2, ground := Go.Ground.phase }, { on := 3, ground := Go.Ground.textOnly Go.Departure.lateStores }, { on := 4, ground := Go.Ground.textOnly Go.Departure.lateStores }, { on := 5, ground := Go.Ground.textOnly Go.Departure.lateStoresUnsure }, { on := 6, ground := Go.Ground.phase }, { on := 7, ground := Go.Ground.phase }], guard := none }) rfl (fun K hK => ?_) AllReadyH.nil
        obtain ⟨y0, y1, y2, y3, g0, g1, g2, g3⟩ := CA.out.o4
        have hgz := grown_p4 wx4 qa (.int .i64 1) (.int .i64 0) (.slice (some ⟨gx, 0, none⟩) 1 cx) (.string ⟨#[]⟩)
        have KZ := CA.out.p4 (.int .i64 1) (.int .i64 0) (.slice (some ⟨gx, 0, none⟩) 1 cx) (.string ⟨#[]⟩)
        have hbz := hHeld.out.grown hgz hHeld.out.size (fun k hk => by injection hk with hk; rw [← hk]; exact HQA.out.1)
        replace HX := Lib.hid (HX.out.set hgz HNA.out)
        have HO2 := Lib.hid (CB.out.grown hgz (fun e => HAB.out (Option.some.inj e).symm))
        clear hgz
        go_wp2_with fail
        clear y0 y1 y2 y3 g0 g1 g2 g3
        obtain ⟨wx5, hwe⟩ : ∃ x, ((((wx4.setCell ⟨qa, 0, none⟩ (.int .i64 1)).setCell ⟨qa, 1, none⟩ (.int .i64 0)).setCell ⟨qa, 2, none⟩ (.slice (some ⟨gx, 0, none⟩) 1 cx)).setCell ⟨qa, 3, none⟩ (.string ⟨#[]⟩)) = x := ⟨_, rfl⟩
        rw [hwe] at KZ hbz HX HO2 ⊢
        clear hwe
        replace CA := Lib.hid KZ
        replace CB := HO2
        have HBZ8 := Lib.hid hbz
        clear KZ hbz HO2
        refine hK.out _ _ (HBZ8) (fun hHeld2 => ?_)
        clear hK K hHeld
        have hHeld := hHeld2
        clear hHeld2
        try simp only [Act.put, List.setIfInBounds_toArray, List.set_cons_zero, List.set_cons_succ]
        refine wpAnyH_ready (rs := [9]) (by kernel_rfl) (by simp) ?_
        refine AllReadyH.cons (o := { dst := none, op := Go.Op.store 81 (Go.Operand.tmp 5) (Go.Operand.tmp 17), type := 0, pos := "law.go:48", after := #[{ on := 7, ground := Go.Ground.data }, { on := 5, ground := Go.Ground.data }, { on := 8, ground := Go.Ground.chain }, { on := 0, ground := Go.Ground.phase }, { on := 1, ground := Go.Ground.phase }, { on := 2, ground := Go.Ground.phase }, { on := 3, ground := Go.Ground.phase }, { on := 4, ground := Go.Ground.phase }, { on := 5, ground := Go.Ground.phase }, { on := 6, ground := Go.Ground.phase }, { on := 7, ground := Go.Ground.phase }, { on := 8, ground := Go.Ground.phase }], guard := none }) rfl (fun K hK => ?_) AllReadyH.nil
        obtain ⟨y0, y1, y2, y3, g0, g1, g2, g3⟩ := CB.out.o4
        have hgz := grown_p4 wx5 qb (.int .i64 5) (.int .i64 0) (.slice ax 0 cy) (.string ⟨#[]⟩)
        have KZ := CB.out.p4 (.int .i64 5) (.int .i64 0) (.slice ax 0 cy) (.string ⟨#[]⟩)
        have hbz := hHeld.out.grown hgz hHeld.out.size (fun k hk => by injection hk with hk; rw [← hk]; exact HQB.out.1)
        replace HX := Lib.hid (HX.out.set hgz HNB.out)
        have HO2 := Lib.hid (CA.out.grown hgz (fun e => HAB.out (Option.some.inj e)))
        clear hgz
        go_wp2_with fail
        clear y0 y1 y2 y3 g0 g1 g2 g3
        obtain ⟨wx6, hwe⟩ : ∃ x, ((((wx5.setCell ⟨qb, 0, none⟩ (.int .i64 5)).setCell ⟨qb, 1, none⟩ (.int .i64 0)).setCell ⟨qb, 2, none⟩ (.slice ax 0 cy)).setCell ⟨qb, 3, none⟩ (.string ⟨#[]⟩)) = x := ⟨_, rfl⟩
        rw [hwe] at KZ hbz HX HO2 ⊢
        clear hwe
        replace CB := Lib.hid KZ
        replace CA := HO2
        have HBZ9 := Lib.hid hbz
        clear KZ hbz HO2
        refine hK.out _ _ (HBZ9) (fun hHeld2 => ?_)
        clear hK K hHeld
        have hHeld := hHeld2
        clear hHeld2
        try simp only [Act.put, List.setIfInBounds_toArray, List.set_cons_zero, List.set_cons_succ]
        refine wpAnyH_done (by kernel_rfl) ?_ _
        have HBE := Lib.hid (HB.out.trans (hHeld.out.mono HB.out.size))
        clear hHeld
        obtain ⟨y0, y1, y2, y3, _⟩ := CA.out.o4
        obtain ⟨z0, z1, z2, z3, _⟩ := CB.out.o4
        obtain ⟨x0, x1, x2, x5⟩ := HX.out
        have HIK := Lib.hid (isK ⟨acoC, 1, 1⟩ _ 1 1 [1] _ (row_litC1 wx6 1 3) (by decide))
        have hba := (Below.refl _ _ : Below wx6.heap.size wx6 wx6).alloc (Nat.le_refl _) (.cells #[.int .i64 1] 3)
        have HBF := Lib.hid (HBE.out.trans (hba.mono HBE.out.size))
        replace CB := Lib.hid (CB.out.below hba)
        rw [show decide ((⟨acoC, 1, 1⟩ : Ky).t ∈ [(1 : Int)]) = true from rfl] at HIK
        clear hba
        go_wp2_with fail
        refine HIK.out.mono ?_; rintro e wf ⟨rfl, hb⟩
        clear HIK y0 y1 y2 y3 z0 z1 z2 z3 x0 x1 x2 x5
        obtain ⟨z0, z1, z2, z3, _⟩ := (CB.out.below hb).o4
        have HBG := Lib.hid (HBF.out.trans (hb.mono HBF.out.size))
        clear hb
        go_wp2
        go_ret
        exact ⟨rfl, HBG.out⟩
      · go_simp
        have hb := (Below.refl _ _ : Below wx2.heap.size wx2 wx2).alloc (Nat.le_refl _) (.cells #[.int .i64 0, .int .i64 0, .slice none 0 0, .string ⟨#[]⟩] 81)
        have hn := CN.new wx2 #[.int .i64 0, .int .i64 0, .slice none 0 0, .string ⟨#[]⟩] 81
        replace HX := Lib.hid (HX.out.below hb)
        replace CA := Lib.hid (CA.out.below hb)
        have hsz := hHeld.out.size
        obtain ⟨wx3, hwe⟩ : ∃ x, wx2.alloc (.cells #[.int .i64 0, .int .i64 0, .slice none 0 0, .string ⟨#[]⟩] 81) = x := ⟨_, rfl⟩
        obtain ⟨qb, hge⟩ : ∃ x, wx2.heap.size = x := ⟨_, rfl⟩
        have HNB := Lib.hid (show gx ≠ qb by have h := HGL.out; omega)
        rw [hwe] at hb hn HX CA ⊢
        rw [hge] at hn hsz ⊢
        have CB := Lib.hid hn
        have HQB := Lib.hid (show w5.heap.size ≤ qb ∧ qb < wx3.heap.size from ⟨hsz, hn.1⟩)
        replace HGL := Lib.hid (Nat.lt_of_lt_of_le HGL.out hb.size)
        have HAB := Lib.hid (show qa ≠ qb by have h := HQA.out; have h2 := hge; omega)
        replace HQA := Lib.hid (show w5.heap.size ≤ qa ∧ qa < wx3.heap.size from ⟨HQA.out.1, Nat.lt_of_lt_of_le HQA.out.2 hb.size⟩)
        clear hn hwe hge hsz
        refine hK.out _ _ (Lib.hid (hHeld.out.trans (hb.mono hHeld.out.size))) (fun hHeld2 => ?_)
        clear hK K hHeld
        have hHeld := hHeld2
        clear hHeld2
        try simp only [Act.put, List.setIfInBounds_toArray, List.set_cons_zero, List.set_cons_succ]
        refine wpAnyH_ready (rs := [5]) (by kernel_rfl) (by simp) ?_
        refine AllReadyH.cons (o := { dst := some 17, op := Go.Op.call { callee := Go.Callee.value (Go.Operand.func 37), args := #[Go.Operand.const (Go.Value.string { data := #[3, 110, 101, 116, 0] }), Go.Operand.tmp 15, Go.Operand.tmp 16], argTypes := #[9, 71, 77] }, type := 81, pos := "law.go:48", after := #[{ on := 3, ground := Go.Ground.data }, { on := 4, ground := Go.Ground.data }, { on := 2, ground := Go.Ground.chain }], guard := none }) rfl (fun K hK => ?_) AllReadyH.nil
        go_simp
        refine (sort_any netC acoC 1 1 mS _ wx3 (HMA.out.below hHeld.out) small_mS (by decide) (by decide)).mono ?_; rintro e wx4 ⟨⟨v, rfl, hou⟩, hb⟩
        replace HX := Lib.hid (HX.out.below hb)
        replace CA := Lib.hid (CA.out.below hb)
        replace CB := Lib.hid (CB.out.below hb)
        replace HGL := Lib.hid (Nat.lt_of_lt_of_le HGL.out hb.size)
        rw [sort_net] at hou
        obtain ⟨ax, cy, rfl⟩ := out_net hou
        clear hou
        replace HQA := Lib.hid (show w5.heap.size ≤ qa ∧ qa < wx4.heap.size from ⟨HQA.out.1, Nat.lt_of_lt_of_le HQA.out.2 hb.size⟩)
        replace HQB := Lib.hid (show w5.heap.size ≤ qb ∧ qb < wx4.heap.size from ⟨HQB.out.1, Nat.lt_of_lt_of_le HQB.out.2 hb.size⟩)
        go_wp2_with fail
        refine hK.out _ _ (Lib.hid (hHeld.out.trans (hb.mono hHeld.out.size))) (fun hHeld2 => ?_)
        clear hK K hHeld
        have hHeld := hHeld2
        clear hHeld2
        try simp only [Act.put, List.setIfInBounds_toArray, List.set_cons_zero, List.set_cons_succ]
        refine wpAnyH_ready (rs := [8]) (by kernel_rfl) (by simp) ?_
        refine AllReadyH.cons (o := { dst := none, op := Go.Op.store 81 (Go.Operand.tmp 4) (Go.Operand.tmp 14), type := 0, pos := "law.go:48", after := #[{ on := 6, ground := Go.Ground.data }, { on := 2, ground := Go.Ground.data }, { on := 5, ground := Go.Ground.chain }, { on := 0, ground := Go.Ground.phase }, { on := 1, ground := Go.Ground.phase }, { on := 2, ground := Go.Ground.phase }, { on := 3, ground := Go.Ground.textOnly Go.Departure.lateStores }, { on := 4, ground := Go.Ground.textOnly Go.Departure.lateStores }, { on := 5, ground := Go.Ground.textOnly Go.Departure.lateStoresUnsure }, { on := 6, ground := Go.Ground.phase }, { on := 7, ground := Go.Ground.phase }], guard := none }) rfl (fun K hK => ?_) AllReadyH.nil
        obtain ⟨y0, y1, y2, y3, g0, g1, g2, g3⟩ := CA.out.o4
        have hgz := grown_p4 wx4 qa (.int .i64 1) (.int .i64 0) (.slice (some ⟨gx, 0, none⟩) 1 cx) (.string ⟨#[]⟩)
        have KZ := CA.out.p4 (.int .i64 1) (.int .i64 0) (.slice (some ⟨gx, 0, none⟩) 1 cx) (.string ⟨#[]⟩)
        have hbz := hHeld.out.grown hgz hHeld.out.size (fun k hk => by injection hk with hk; rw [← hk]; exact HQA.out.1)
        replace HX := Lib.hid (HX.out.set hgz HNA.out)
        have HO2 := Lib.hid (CB.out.grown hgz (fun e => HAB.out (Option.some.inj e).symm))
        clear hgz
        go_wp2_with fail
        clear y0 y1 y2 y3 g0 g1 g2 g3
        obtain ⟨wx5, hwe⟩ : ∃ x, ((((wx4.setCell ⟨qa, 0, none⟩ (.int .i64 1)).setCell ⟨qa, 1, none⟩ (.int .i64 0)).setCell ⟨qa, 2, none⟩ (.slice (some ⟨gx, 0, none⟩) 1 cx)).setCell ⟨qa, 3, none⟩ (.string ⟨#[]⟩)) = x := ⟨_, rfl⟩
        rw [hwe] at KZ hbz HX HO2 ⊢
        clear hwe
        replace CA := Lib.hid KZ
        replace CB := HO2
        have HBZ8 := Lib.hid hbz
        clear KZ hbz HO2
        refine hK.out _ _ (HBZ8) (fun hHeld2 => ?_)
        clear hK K hHeld
        have hHeld := hHeld2
        clear hHeld2
        try simp only [Act.put, List.setIfInBounds_toArray, List.set_cons_zero, List.set_cons_succ]
        refine wpAnyH_ready (rs := [9]) (by kernel_rfl) (by simp) ?_
        refine AllReadyH.cons (o := { dst := none, op := Go.Op.store 81 (Go.Operand.tmp 5) (Go.Operand.tmp 17), type := 0, pos := "law.go:48", after := #[{ on := 7, ground := Go.Ground.data }, { on := 5, ground := Go.Ground.data }, { on := 8, ground := Go.Ground.chain }, { on := 0, ground := Go.Ground.phase }, { on := 1, ground := Go.Ground.phase }, { on := 2, ground := Go.Ground.phase }, { on := 3, ground := Go.Ground.phase }, { on := 4, ground := Go.Ground.phase }, { on := 5, ground := Go.Ground.phase }, { on := 6, ground := Go.Ground.phase }, { on := 7, ground := Go.Ground.phase }, { on := 8, ground := Go.Ground.phase }], guard := none }) rfl (fun K hK => ?_) AllReadyH.nil
        obtain ⟨y0, y1, y2, y3, g0, g1, g2, g3⟩ := CB.out.o4
        have hgz := grown_p4 wx5 qb (.int .i64 5) (.int .i64 0) (.slice ax 0 cy) (.string ⟨#[]⟩)
        have KZ := CB.out.p4 (.int .i64 5) (.int .i64 0) (.slice ax 0 cy) (.string ⟨#[]⟩)
        have hbz := hHeld.out.grown hgz hHeld.out.size (fun k hk => by injection hk with hk; rw [← hk]; exact HQB.out.1)
        replace HX := Lib.hid (HX.out.set hgz HNB.out)
        have HO2 := Lib.hid (CA.out.grown hgz (fun e => HAB.out (Option.some.inj e)))
        clear hgz
        go_wp2_with fail
        clear y0 y1 y2 y3 g0 g1 g2 g3
        obtain ⟨wx6, hwe⟩ : ∃ x, ((((wx5.setCell ⟨qb, 0, none⟩ (.int .i64 5)).setCell ⟨qb, 1, none⟩ (.int .i64 0)).setCell ⟨qb, 2, none⟩ (.slice ax 0 cy)).setCell ⟨qb, 3, none⟩ (.string ⟨#[]⟩)) = x := ⟨_, rfl⟩
        rw [hwe] at KZ hbz HX HO2 ⊢
        clear hwe
        replace CB := Lib.hid KZ
        replace CA := HO2
        have HBZ9 := Lib.hid hbz
        clear KZ hbz HO2
        refine hK.out _ _ (HBZ9) (fun hHeld2 => ?_)
        clear hK K hHeld
        have hHeld := hHeld2
        clear hHeld2
        try simp only [Act.put, List.setIfInBounds_toArray, List.set_cons_zero, List.set_cons_succ]
        refine wpAnyH_done (by kernel_rfl) ?_ _
        have HBE := Lib.hid (HB.out.trans (hHeld.out.mono HB.out.size))
        clear hHeld
        obtain ⟨y0, y1, y2, y3, _⟩ := CA.out.o4
        obtain ⟨z0, z1, z2, z3, _⟩ := CB.out.o4
        obtain ⟨x0, x1, x2, x5⟩ := HX.out
        have HIK := Lib.hid (isK ⟨acoC, 1, 1⟩ _ 1 1 [1] _ (row_litC1 wx6 1 3) (by decide))
        have hba := (Below.refl _ _ : Below wx6.heap.size wx6 wx6).alloc (Nat.le_refl _) (.cells #[.int .i64 1] 3)
        have HBF := Lib.hid (HBE.out.trans (hba.mono HBE.out.size))
        replace CB := Lib.hid (CB.out.below hba)
        rw [show decide ((⟨acoC, 1, 1⟩ : Ky).t ∈ [(1 : Int)]) = true from rfl] at HIK
        clear hba
        go_wp2_with fail
        refine HIK.out.mono ?_; rintro e wf ⟨rfl, hb⟩
        clear HIK y0 y1 y2 y3 z0 z1 z2 z3 x0 x1 x2 x5
        obtain ⟨z0, z1, z2, z3, _⟩ := (CB.out.below hb).o4
        have HBG := Lib.hid (HBF.out.trans (hb.mono HBF.out.size))
        clear hb
        go_wp2
        go_ret
        exact ⟨rfl, HBG.out⟩
    · go_simp
      have hb := (Below.refl _ _ : Below wx1.heap.size wx1 wx1).alloc (Nat.le_refl _) (.cells #[.int .i64 0, .int .i64 0, .slice none 0 0, .string ⟨#[]⟩] 81)
      have hn := CN.new wx1 #[.int .i64 0, .int .i64 0, .slice none 0 0, .string ⟨#[]⟩] 81
      replace HX := Lib.hid (HX.out.below hb)
      have hsz := hHeld.out.size
      obtain ⟨wx2, hwe⟩ : ∃ x, wx1.alloc (.cells #[.int .i64 0, .int .i64 0, .slice none 0 0, .string ⟨#[]⟩] 81) = x := ⟨_, rfl⟩
      obtain ⟨qb, hge⟩ : ∃ x, wx1.heap.size = x := ⟨_, rfl⟩
      have HNB := Lib.hid (show gx ≠ qb by have h := HGL.out; omega)
      rw [hwe] at hb hn HX ⊢
      rw [hge] at hn hsz ⊢
      have CB := Lib.hid hn
      have HQB := Lib.hid (show w5.heap.size ≤ qb ∧ qb < wx2.heap.size from ⟨hsz, hn.1⟩)
      replace HGL := Lib.hid (Nat.lt_of_lt_of_le HGL.out hb.size)
      clear hn hwe hge hsz
      refine hK.out _ _ (Lib.hid (hHeld.out.trans (hb.mono hHeld.out.size))) (fun hHeld2 => ?_)
      clear hK K hHeld
      have hHeld := hHeld2
      clear hHeld2
      try simp only [Act.put, List.setIfInBounds_toArray, List.set_cons_zero, List.set_cons_succ]
      refine wpAnyH_ready (rs := [5, 6]) (by kernel_rfl) (by simp) ?_
      refine AllReadyH.cons (o := { dst := some 17, op := Go.Op.call { callee := Go.Callee.value (Go.Operand.func 37), args := #[Go.Operand.const (Go.Value.string { data := #[3, 110, 101, 116, 0] }), Go.Operand.tmp 15, Go.Operand.tmp 16], argTypes := #[9, 71, 77] }, type := 81, pos := "law.go:48", after := #[{ on := 3, ground := Go.Ground.data }, { on := 4, ground := Go.Ground.data }, { on := 2, ground := Go.Ground.chain }], guard := none }) rfl (fun K hK => ?_) (AllReadyH.cons (o := { dst := some 4, op := Go.Op.alloc 81, type := 0, pos := "law.go:48", after := #[], guard := none }) rfl (fun K hK => ?_) AllReadyH.nil)
      · go_simp
        refine (sort_any netC acoC 1 1 mS _ wx2 (HMA.out.below hHeld.out) small_mS (by decide) (by decide)).mono ?_; rintro e wx3 ⟨⟨v, rfl, hou⟩, hb⟩
        replace HX := Lib.hid (HX.out.below hb)
        replace CB := Lib.hid (CB.out.below hb)
        replace HGL := Lib.hid (Nat.lt_of_lt_of_le HGL.out hb.size)
        rw [sort_net] at hou
        obtain ⟨ax, cy, rfl⟩ := out_net hou
        clear hou
        replace HQB := Lib.hid (show w5.heap.size ≤ qb ∧ qb < wx3.heap.size from ⟨HQB.out.1, Nat.lt_of_lt_of_le HQB.out.2 hb.size⟩)
        go_wp2_with fail
        refine hK.out _ _ (Lib.hid (hHeld.out.trans (hb.mono hHeld.out.size))) (fun hHeld2 => ?_)
        clear hK K hHeld
        have hHeld := hHeld2
        clear hHeld2
        try simp only [Act.put, List.setIfInBounds_toArray, List.set_cons_zero, List.set_cons_succ]
        refine wpAnyH_ready (rs := [6]) (by kernel_rfl) (by simp) ?_
        refine AllReadyH.cons (o := { dst := some 4, op := Go.Op.alloc 81, type := 0, pos := "law.go:48", after := #[], guard := none }) rfl (fun K hK => ?_) AllReadyH.nil
        go_simp
        have hb := (Below.refl _ _ : Below wx3.heap.size wx3 wx3).alloc (Nat.le_refl _) (.cells #[.int .i64 0, .int .i64 0, .slice none 0 0, .string ⟨#[]⟩] 81)
        have hn := CN.new wx3 #[.int .i64 0, .int .i64 0, .slice none 0 0, .string ⟨#[]⟩] 81
        replace HX := Lib.hid (HX.out.below hb)
        replace CB := Lib.hid (CB.out.below hb)
        have hsz := hHeld.out.size
        obtain ⟨wx4, hwe⟩ : ∃ x, wx3.alloc (.cells #[.int .i64 0, .int .i64 0, .slice none 0 0, .string ⟨#[]⟩] 81) = x := ⟨_, rfl⟩
        obtain ⟨qa, hge⟩ : ∃ x, wx3.heap.size = x := ⟨_, rfl⟩
        have HNA := Lib.hid (show gx ≠ qa by have h := HGL.out; omega)
        rw [hwe] at hb hn HX CB ⊢
        rw [hge] at hn hsz ⊢
        have CA := Lib.hid hn
        have HQA := Lib.hid (show w5.heap.size ≤ qa ∧ qa < wx4.heap.size from ⟨hsz, hn.1⟩)
        replace HGL := Lib.hid (Nat.lt_of_lt_of_le HGL.out hb.size)
        have HAB := Lib.hid (show qa ≠ qb by have h := HQB.out; have h2 := hge; omega)
        replace HQB := Lib.hid (show w5.heap.size ≤ qb ∧ qb < wx4.heap.size from ⟨HQB.out.1, Nat.lt_of_lt_of_le HQB.out.2 hb.size⟩)
        clear hn hwe hge hsz
        refine hK.out _ _ (Lib.hid (hHeld.out.trans (hb.mono hHeld.out.size))) (fun hHeld2 => ?_)
        clear hK K hHeld
        have hHeld := hHeld2
        clear hHeld2
        try simp only [Act.put, List.setIfInBounds_toArray, List.set_cons_zero, List.set_cons_succ]
        refine wpAnyH_ready (rs := [8]) (by kernel_rfl) (by simp) ?_
        refine AllReadyH.cons (o := { dst := none, op := Go.Op.store 81 (Go.Operand.tmp 4) (Go.Operand.tmp 14), type := 0, pos := "law.go:48", after := #[{ on := 6, ground := Go.Ground.data }, { on := 2, ground := Go.Ground.data }, { on := 5, ground := Go.Ground.chain }, { on := 0, ground := Go.Ground.phase }, { on := 1, ground := Go.Ground.phase }, { on := 2, ground := Go.Ground.phase }, { on := 3, ground := Go.Ground.textOnly Go.Departure.lateStores }, { on := 4, ground := Go.Ground.textOnly Go.Departure.lateStores }, { on := 5, ground := Go.Ground.textOnly Go.Departure.lateStoresUnsure }, { on := 6, ground := Go.Ground.phase }, { on := 7, ground := Go.Ground.phase }], guard := none }) rfl (fun K hK => ?_) AllReadyH.nil
        obtain ⟨y0, y1, y2, y3, g0, g1, g2, g3⟩ := CA.out.o4
        have hgz := grown_p4 wx4 qa (.int .i64 1) (.int .i64 0) (.slice (some ⟨gx, 0, none⟩) 1 cx) (.string ⟨#[]⟩)
        have KZ := CA.out.p4 (.int .i64 1) (.int .i64 0) (.slice (some ⟨gx, 0, none⟩) 1 cx) (.string ⟨#[]⟩)
        have hbz := hHeld.out.grown hgz hHeld.out.size (fun k hk => by injection hk with hk; rw [← hk]; exact HQA.out.1)
        replace HX := Lib.hid (HX.out.set hgz HNA.out)
        have HO2 := Lib.hid (CB.out.grown hgz (fun e => HAB.out (Option.some.inj e).symm))
        clear hgz
        go_wp2_with fail
        clear y0 y1 y2 y3 g0 g1 g2 g3
        obtain ⟨wx5, hwe⟩ : ∃ x, ((((wx4.setCell ⟨qa, 0, none⟩ (.int .i64 1)).setCell ⟨qa, 1, none⟩ (.int .i64 0)).setCell ⟨qa, 2, none⟩ (.slice (some ⟨gx, 0, none⟩) 1 cx)).setCell ⟨qa, 3, none⟩ (.string ⟨#[]⟩)) = x := ⟨_, rfl⟩
        rw [hwe] at KZ hbz HX HO2 ⊢
        clear hwe
        replace CA := Lib.hid KZ
        replace CB := HO2
        have HBZ8 := Lib.hid hbz
        clear KZ hbz HO2
        refine hK.out _ _ (HBZ8) (fun hHeld2 => ?_)
        clear hK K hHeld
        have hHeld := hHeld2
        clear hHeld2
        try simp only [Act.put, List.setIfInBounds_toArray, List.set_cons_zero, List.set_cons_succ]
        refine wpAnyH_ready (rs := [9]) (by kernel_rfl) (by simp) ?_
        refine AllReadyH.cons (o := { dst := none, op := Go.Op.store 81 (Go.Operand.tmp 5) (Go.Operand.tmp 17), type := 0, pos := "law.go:48", after := #[{ on := 7, ground := Go.Ground.data }, { on := 5, ground := Go.Ground.data }, { on := 8, ground := Go.Ground.chain }, { on := 0, ground := Go.Ground.phase }, { on := 1, ground := Go.Ground.phase }, { on := 2, ground := Go.Ground.phase }, { on := 3, ground := Go.Ground.phase }, { on := 4, ground := Go.Ground.phase }, { on := 5, ground := Go.Ground.phase }, { on := 6, ground := Go.Ground.phase }, { on := 7, ground := Go.Ground.phase }, { on := 8, ground := Go.Ground.phase }], guard := none }) rfl (fun K hK => ?_) AllReadyH.nil
        obtain ⟨y0, y1, y2, y3, g0, g1, g2, g3⟩ := CB.out.o4
        have hgz := grown_p4 wx5 qb (.int .i64 5) (.int .i64 0) (.slice ax 0 cy) (.string ⟨#[]⟩)
        have KZ := CB.out.p4 (.int .i64 5) (.int .i64 0) (.slice ax 0 cy) (.string ⟨#[]⟩)
        have hbz := hHeld.out.grown hgz hHeld.out.size (fun k hk => by injection hk with hk; rw [← hk]; exact HQB.out.1)
        replace HX := Lib.hid (HX.out.set hgz HNB.out)
        have HO2 := Lib.hid (CA.out.grown hgz (fun e => HAB.out (Option.some.inj e)))
        clear hgz
        go_wp2_with fail
        clear y0 y1 y2 y3 g0 g1 g2 g3
        obtain ⟨wx6, hwe⟩ : ∃ x, ((((wx5.setCell ⟨qb, 0, none⟩ (.int .i64 5)).setCell ⟨qb, 1, none⟩ (.int .i64 0)).setCell ⟨qb, 2, none⟩ (.slice ax 0 cy)).setCell ⟨qb, 3, none⟩ (.string ⟨#[]⟩)) = x := ⟨_, rfl⟩
        rw [hwe] at KZ hbz HX HO2 ⊢
        clear hwe
        replace CB := Lib.hid KZ
        replace CA := HO2
        have HBZ9 := Lib.hid hbz
        clear KZ hbz HO2
        refine hK.out _ _ (HBZ9) (fun hHeld2 => ?_)
        clear hK K hHeld
        have hHeld := hHeld2
        clear hHeld2
        try simp only [Act.put, List.setIfInBounds_toArray, List.set_cons_zero, List.set_cons_succ]
        refine wpAnyH_done (by kernel_rfl) ?_ _
        have HBE := Lib.hid (HB.out.trans (hHeld.out.mono HB.out.size))
        clear hHeld
        obtain ⟨y0, y1, y2, y3, _⟩ := CA.out.o4
        obtain ⟨z0, z1, z2, z3, _⟩ := CB.out.o4
        obtain ⟨x0, x1, x2, x5⟩ := HX.out
        have HIK := Lib.hid (isK ⟨acoC, 1, 1⟩ _ 1 1 [1] _ (row_litC1 wx6 1 3) (by decide))
        have hba := (Below.refl _ _ : Below wx6.heap.size wx6 wx6).alloc (Nat.le_refl _) (.cells #[.int .i64 1] 3)
        have HBF := Lib.hid (HBE.out.trans (hba.mono HBE.out.size))
        replace CB := Lib.hid (CB.out.below hba)
        rw [show decide ((⟨acoC, 1, 1⟩ : Ky).t ∈ [(1 : Int)]) = true from rfl] at HIK
        clear hba
        go_wp2_with fail
        refine HIK.out.mono ?_; rintro e wf ⟨rfl, hb⟩
        clear HIK y0 y1 y2 y3 z0 z1 z2 z3 x0 x1 x2 x5
        obtain ⟨z0, z1, z2, z3, _⟩ := (CB.out.below hb).o4
        have HBG := Lib.hid (HBF.out.trans (hb.mono HBF.out.size))
        clear hb
        go_wp2
        go_ret
        exact ⟨rfl, HBG.out⟩
      · go_simp
        have hb := (Below.refl _ _ : Below wx2.heap.size wx2 wx2).alloc (Nat.le_refl _) (.cells #[.int .i64 0, .int .i64 0, .slice none 0 0, .string ⟨#[]⟩] 81)
        have hn := CN.new wx2 #[.int .i64 0, .int .i64 0, .slice none 0 0, .string ⟨#[]⟩] 81
        replace HX := Lib.hid (HX.out.below hb)
        replace CB := Lib.hid (CB.out.below hb)
        have hsz := hHeld.out.size
        obtain ⟨wx3, hwe⟩ : ∃ x, wx2.alloc (.cells #[.int .i64 0, .int .i64 0, .slice none 0 0, .string ⟨#[]⟩] 81) = x := ⟨_, rfl⟩
        obtain ⟨qa, hge⟩ : ∃ x, wx2.heap.size = x := ⟨_, rfl⟩
        have HNA := Lib.hid (show gx ≠ qa by have h := HGL.out; omega)
        rw [hwe] at hb hn HX CB ⊢
        rw [hge] at hn hsz ⊢
        have CA := Lib.hid hn
        have HQA := Lib.hid (show w5.heap.size ≤ qa ∧ qa < wx3.heap.size from ⟨hsz, hn.1⟩)
        replace HGL := Lib.hid (Nat.lt_of_lt_of_le HGL.out hb.size)
        have HAB := Lib.hid (show qa ≠ qb by have h := HQB.out; have h2 := hge; omega)
        replace HQB := Lib.hid (show w5.heap.size ≤ qb ∧ qb < wx3.heap.size from ⟨HQB.out.1, Nat.lt_of_lt_of_le HQB.out.2 hb.size⟩)
        clear hn hwe hge hsz
        refine hK.out _ _ (Lib.hid (hHeld.out.trans (hb.mono hHeld.out.size))) (fun hHeld2 => ?_)
        clear hK K hHeld
        have hHeld := hHeld2
        clear hHeld2
        try simp only [Act.put, List.setIfInBounds_toArray, List.set_cons_zero, List.set_cons_succ]
        refine wpAnyH_ready (rs := [5]) (by kernel_rfl) (by simp) ?_
        refine AllReadyH.cons (o := { dst := some 17, op := Go.Op.call { callee := Go.Callee.value (Go.Operand.func 37), args := #[Go.Operand.const (Go.Value.string { data := #[3, 110, 101, 116, 0] }), Go.Operand.tmp 15, Go.Operand.tmp 16], argTypes := #[9, 71, 77] }, type := 81, pos := "law.go:48", after := #[{ on := 3, ground := Go.Ground.data }, { on := 4, ground := Go.Ground.data }, { on := 2, ground := Go.Ground.chain }], guard := none }) rfl (fun K hK => ?_) AllReadyH.nil
        go_simp
        refine (sort_any netC acoC 1 1 mS _ wx3 (HMA.out.below hHeld.out) small_mS (by decide) (by decide)).mono ?_; rintro e wx4 ⟨⟨v, rfl, hou⟩, hb⟩
        replace HX := Lib.hid (HX.out.below hb)
        replace CA := Lib.hid (CA.out.below hb)
        replace CB := Lib.hid (CB.out.below hb)
        replace HGL := Lib.hid (Nat.lt_of_lt_of_le HGL.out hb.size)
        rw [sort_net] at hou
        obtain ⟨ax, cy, rfl⟩ := out_net hou
        clear hou
        replace HQA := Lib.hid (show w5.heap.size ≤ qa ∧ qa < wx4.heap.size from ⟨HQA.out.1, Nat.lt_of_lt_of_le HQA.out.2 hb.size⟩)
        replace HQB := Lib.hid (show w5.heap.size ≤ qb ∧ qb < wx4.heap.size from ⟨HQB.out.1, Nat.lt_of_lt_of_le HQB.out.2 hb.size⟩)
        go_wp2_with fail
        refine hK.out _ _ (Lib.hid (hHeld.out.trans (hb.mono hHeld.out.size))) (fun hHeld2 => ?_)
        clear hK K hHeld
        have hHeld := hHeld2
        clear hHeld2
        try simp only [Act.put, List.setIfInBounds_toArray, List.set_cons_zero, List.set_cons_succ]
        refine wpAnyH_ready (rs := [8]) (by kernel_rfl) (by simp) ?_
        refine AllReadyH.cons (o := { dst := none, op := Go.Op.store 81 (Go.Operand.tmp 4) (Go.Operand.tmp 14), type := 0, pos := "law.go:48", after := #[{ on := 6, ground := Go.Ground.data }, { on := 2, ground := Go.Ground.data }, { on := 5, ground := Go.Ground.chain }, { on := 0, ground := Go.Ground.phase }, { on := 1, ground := Go.Ground.phase }, { on := 2, ground := Go.Ground.phase }, { on := 3, ground := Go.Ground.textOnly Go.Departure.lateStores }, { on := 4, ground := Go.Ground.textOnly Go.Departure.lateStores }, { on := 5, ground := Go.Ground.textOnly Go.Departure.lateStoresUnsure }, { on := 6, ground := Go.Ground.phase }, { on := 7, ground := Go.Ground.phase }], guard := none }) rfl (fun K hK => ?_) AllReadyH.nil
        obtain ⟨y0, y1, y2, y3, g0, g1, g2, g3⟩ := CA.out.o4
        have hgz := grown_p4 wx4 qa (.int .i64 1) (.int .i64 0) (.slice (some ⟨gx, 0, none⟩) 1 cx) (.string ⟨#[]⟩)
        have KZ := CA.out.p4 (.int .i64 1) (.int .i64 0) (.slice (some ⟨gx, 0, none⟩) 1 cx) (.string ⟨#[]⟩)
        have hbz := hHeld.out.grown hgz hHeld.out.size (fun k hk => by injection hk with hk; rw [← hk]; exact HQA.out.1)
        replace HX := Lib.hid (HX.out.set hgz HNA.out)
        have HO2 := Lib.hid (CB.out.grown hgz (fun e => HAB.out (Option.some.inj e).symm))
        clear hgz
        go_wp2_with fail
        clear y0 y1 y2 y3 g0 g1 g2 g3
        obtain ⟨wx5, hwe⟩ : ∃ x, ((((wx4.setCell ⟨qa, 0, none⟩ (.int .i64 1)).setCell ⟨qa, 1, none⟩ (.int .i64 0)).setCell ⟨qa, 2, none⟩ (.slice (some ⟨gx, 0, none⟩) 1 cx)).setCell ⟨qa, 3, none⟩ (.string ⟨#[]⟩)) = x := ⟨_, rfl⟩
        rw [hwe] at KZ hbz HX HO2 ⊢
        clear hwe
        replace CA := Lib.hid KZ
        replace CB := HO2
        have HBZ8 := Lib.hid hbz
        clear KZ hbz HO2
        refine hK.out _ _ (HBZ8) (fun hHeld2 => ?_)
        clear hK K hHeld
        have hHeld := hHeld2
        clear hHeld2
        try simp only [Act.put, List.setIfInBounds_toArray, List.set_cons_zero, List.set_cons_succ]
        refine wpAnyH_ready (rs := [9]) (by kernel_rfl) (by simp) ?_
        refine AllReadyH.cons (o := { dst := none, op := Go.Op.store 81 (Go.Operand.tmp 5) (Go.Operand.tmp 17), type := 0, pos := "law.go:48", after := #[{ on := 7, ground := Go.Ground.data }, { on := 5, ground := Go.Ground.data }, { on := 8, ground := Go.Ground.chain }, { on := 0, ground := Go.Ground.phase }, { on := 1, ground := Go.Ground.phase }, { on := 2, ground := Go.Ground.phase }, { on := 3, ground := Go.Ground.phase }, { on := 4, ground := Go.Ground.phase }, { on := 5, ground := Go.Ground.phase }, { on := 6, ground := Go.Ground.phase }, { on := 7, ground := Go.Ground.phase }, { on := 8, ground := Go.Ground.phase }], guard := none }) rfl (fun K hK => ?_) AllReadyH.nil
        obtain ⟨y0, y1, y2, y3, g0, g1, g2, g3⟩ := CB.out.o4
        have hgz := grown_p4 wx5 qb (.int .i64 5) (.int .i64 0) (.slice ax 0 cy) (.string ⟨#[]⟩)
        have KZ := CB.out.p4 (.int .i64 5) (.int .i64 0) (.slice ax 0 cy) (.string ⟨#[]⟩)
        have hbz := hHeld.out.grown hgz hHeld.out.size (fun k hk => by injection hk with hk; rw [← hk]; exact HQB.out.1)
        replace HX := Lib.hid (HX.out.set hgz HNB.out)
        have HO2 := Lib.hid (CA.out.grown hgz (fun e => HAB.out (Option.some.inj e)))
        clear hgz
        go_wp2_with fail
        clear y0 y1 y2 y3 g0 g1 g2 g3
        obtain ⟨wx6, hwe⟩ : ∃ x, ((((wx5.setCell ⟨qb, 0, none⟩ (.int .i64 5)).setCell ⟨qb, 1, none⟩ (.int .i64 0)).setCell ⟨qb, 2, none⟩ (.slice ax 0 cy)).setCell ⟨qb, 3, none⟩ (.string ⟨#[]⟩)) = x := ⟨_, rfl⟩
        rw [hwe] at KZ hbz HX HO2 ⊢
        clear hwe
        replace CB := Lib.hid KZ
        replace CA := HO2
        have HBZ9 := Lib.hid hbz
        clear KZ hbz HO2
        refine hK.out _ _ (HBZ9) (fun hHeld2 => ?_)
        clear hK K hHeld
        have hHeld := hHeld2
        clear hHeld2
        try simp only [Act.put, List.setIfInBounds_toArray, List.set_cons_zero, List.set_cons_succ]
        refine wpAnyH_done (by kernel_rfl) ?_ _
        have HBE := Lib.hid (HB.out.trans (hHeld.out.mono HB.out.size))
        clear hHeld
        obtain ⟨y0, y1, y2, y3, _⟩ := CA.out.o4
        obtain ⟨z0, z1, z2, z3, _⟩ := CB.out.o4
        obtain ⟨x0, x1, x2, x5⟩ := HX.out
        have HIK := Lib.hid (isK ⟨acoC, 1, 1⟩ _ 1 1 [1] _ (row_litC1 wx6 1 3) (by decide))
        have hba := (Below.refl _ _ : Below wx6.heap.size wx6 wx6).alloc (Nat.le_refl _) (.cells #[.int .i64 1] 3)
        have HBF := Lib.hid (HBE.out.trans (hba.mono HBE.out.size))
        replace CB := Lib.hid (CB.out.below hba)
        rw [show decide ((⟨acoC, 1, 1⟩ : Ky).t ∈ [(1 : Int)]) = true from rfl] at HIK
        clear hba
        go_wp2_with fail
        refine HIK.out.mono ?_; rintro e wf ⟨rfl, hb⟩
        clear HIK y0 y1 y2 y3 z0 z1 z2 z3 x0 x1 x2 x5
        obtain ⟨z0, z1, z2, z3, _⟩ := (CB.out.below hb).o4
        have HBG := Lib.hid (HBF.out.trans (hb.mono HBF.out.size))
        clear hb
        go_wp2
        go_ret
        exact ⟨rfl, HBG.out⟩
  · go_simp
    have hb := (Below.refl _ _ : Below wd.heap.size wd wd).alloc (Nat.le_refl _) (.cells #[.int .i64 0, .int .i64 0, .slice none 0 0, .string ⟨#[]⟩] 81)
    have hn := CN.new wd #[.int .i64 0, .int .i64 0, .slice none 0 0, .string ⟨#[]⟩] 81
    have hsz := hHeld.out.size
    obtain ⟨wx1, hwe⟩ : ∃ x, wd.alloc (.cells #[.int .i64 0, .int .i64 0, .slice none 0 0, .string ⟨#[]⟩] 81) = x := ⟨_, rfl⟩
    obtain ⟨qa, hge⟩ : ∃ x, wd.heap.size = x := ⟨_, rfl⟩
    rw [hwe] at hb hn ⊢
    rw [hge] at hn hsz ⊢
    have CA := Lib.hid hn
    have HQA := Lib.hid (show w5.heap.size ≤ qa ∧ qa < wx1.heap.size from ⟨hsz, hn.1⟩)
    clear hn hwe hge hsz
    refine hK.out _ _ (Lib.hid (hHeld.out.trans (hb.mono hHeld.out.size))) (fun hHeld2 => ?_)
    clear hK K hHeld
    have hHeld := hHeld2
    clear hHeld2
    try simp only [Act.put, List.setIfInBounds_toArray, List.set_cons_zero, List.set_cons_succ]
    refine wpAnyH_ready (rs := [2, 7]) (by kernel_rfl) (by simp) ?_
    refine AllReadyH.cons (o := { dst := some 14, op := Go.Op.call { callee := Go.Callee.value (Go.Operand.func 37), args := #[Go.Operand.const (Go.Value.string { data := #[3, 99, 111, 109, 0] }), Go.Operand.tmp 12, Go.Operand.tmp 13], argTypes := #[9, 71, 77] }, type := 81, pos := "law.go:48", after := #[{ on := 0, ground := Go.Ground.data }, { on := 1, ground := Go.Ground.data }], guard := none }) rfl (fun K hK => ?_) (AllReadyH.cons (o := { dst := some 5, op := Go.Op.alloc 81, type := 0, pos := "law.go:48", after := #[], guard := none }) rfl (fun K hK => ?_) AllReadyH.nil)
    · go_simp
      refine (sort_any comC acoC 1 1 mS _ wx1 (HMA.out.below hHeld.out) small_mS (by decide) (by decide)).mono ?_; rintro e wx2 ⟨⟨v, rfl, hou⟩, hb⟩
      replace CA := Lib.hid (CA.out.below hb)
      rw [sort_com] at hou
      obtain ⟨gx, cx, rfl, hgB, hgl, hx⟩ := out_com hou
      have HX := Lib.hid hx
      have HNA := Lib.hid (show gx ≠ qa by have h := HQA.out; omega)
      replace HQA := Lib.hid (show w5.heap.size ≤ qa ∧ qa < wx2.heap.size from ⟨HQA.out.1, Nat.lt_of_lt_of_le HQA.out.2 hb.size⟩)
      have HGL := Lib.hid hgl
      clear hou hx hgB hgl
      go_wp2_with fail
      refine hK.out _ _ (Lib.hid (hHeld.out.trans (hb.mono hHeld.out.size))) (fun hHeld2 => ?_)
      clear hK K hHeld
      have hHeld := hHeld2
      clear hHeld2
      try simp only [Act.put, List.setIfInBounds_toArray, List.set_cons_zero, List.set_cons_succ]
      refine wpAnyH_ready (rs := [5, 7]) (by kernel_rfl) (by simp) ?_
      refine AllReadyH.cons (o := { dst := some 17, op := Go.Op.call { callee := Go.Callee.value (Go.Operand.func 37), args := #[Go.Operand.const (Go.Value.string { data := #[3, 110, 101, 116, 0] }), Go.Operand.tmp 15, Go.Operand.tmp 16], argTypes := #[9, 71, 77] }, type := 81, pos := "law.go:48", after := #[{ on := 3, ground := Go.Ground.data }, { on := 4, ground := Go.Ground.data }, { on := 2, ground := Go.Ground.chain }], guard := none }) rfl (fun K hK => ?_) (AllReadyH.cons (o := { dst := some 5, op := Go.Op.alloc 81, type := 0, pos := "law.go:48", after := #[], guard := none }) rfl (fun K hK => ?_) AllReadyH.nil)
      · go_simp
        refine (sort_any netC acoC 1 1 mS _ wx2 (HMA.out.below hHeld.out) small_mS (by decide) (by decide)).mono ?_; rintro e wx3 ⟨⟨v, rfl, hou⟩, hb⟩
        replace HX := Lib.hid (HX.out.below hb)
        replace CA := Lib.hid (CA.out.below hb)
        replace HGL := Lib.hid (Nat.lt_of_lt_of_le HGL.out hb.size)
        rw [sort_net] at hou
        obtain ⟨ax, cy, rfl⟩ := out_net hou
        clear hou
        replace HQA := Lib.hid (show w5.heap.size ≤ qa ∧ qa < wx3.heap.size from ⟨HQA.out.1, Nat.lt_of_lt_of_le HQA.out.2 hb.size⟩)
        go_wp2_with fail
        refine hK.out _ _ (Lib.hid (hHeld.out.trans (hb.mono hHeld.out.size))) (fun hHeld2 => ?_)
        clear hK K hHeld
        have hHeld := hHeld2
        clear hHeld2
        try simp only [Act.put, List.setIfInBounds_toArray, List.set_cons_zero, List.set_cons_succ]
        refine wpAnyH_ready (rs := [7]) (by kernel_rfl) (by simp) ?_
        refine AllReadyH.cons (o := { dst := some 5, op := Go.Op.alloc 81, type := 0, pos := "law.go:48", after := #[], guard := none }) rfl (fun K hK => ?_) AllReadyH.nil
        go_simp
        have hb := (Below.refl _ _ : Below wx3.heap.size wx3 wx3).alloc (Nat.le_refl _) (.cells #[.int .i64 0, .int .i64 0, .slice none 0 0, .string ⟨#[]⟩] 81)
        have hn := CN.new wx3 #[.int .i64 0, .int .i64 0, .slice none 0 0, .string ⟨#[]⟩] 81
        replace HX := Lib.hid (HX.out.below hb)
        replace CA := Lib.hid (CA.out.below hb)
        have hsz := hHeld.out.size
        obtain ⟨wx4, hwe⟩ : ∃ x, wx3.alloc (.cells #[.int .i64 0, .int .i64 0, .slice none 0 0, .string ⟨#[]⟩] 81) = x := ⟨_, rfl⟩
        obtain ⟨qb, hge⟩ : ∃ x, wx3.heap.size = x := ⟨_, rfl⟩
        have HNB := Lib.hid (show gx ≠ qb by have h := HGL.out; omega)
        rw [hwe] at hb hn HX CA ⊢
        rw [hge] at hn hsz ⊢
        have CB := Lib.hid hn
        have HQB := Lib.hid (show w5.heap.size ≤ qb ∧ qb < wx4.heap.size from ⟨hsz, hn.1⟩)
        replace HGL := Lib.hid (Nat.lt_of_lt_of_le HGL.out hb.size)
        have HAB := Lib.hid (show qa ≠ qb by have h := HQA.out; have h2 := hge; omega)
        replace HQA := Lib.hid (show w5.heap.size ≤ qa ∧ qa < wx4.heap.size from ⟨HQA.out.1, Nat.lt_of_lt_of_le HQA.out.2 hb.size⟩)
        clear hn hwe hge hsz
        refine hK.out _ _ (Lib.hid (hHeld.out.trans (hb.mono hHeld.out.size))) (fun hHeld2 => ?_)
        clear hK K hHeld
        have hHeld := hHeld2
        clear hHeld2
        try simp only [Act.put, List.setIfInBounds_toArray, List.set_cons_zero, List.set_cons_succ]
        refine wpAnyH_ready (rs := [8]) (by kernel_rfl) (by simp) ?_
        refine AllReadyH.cons (o := { dst := none, op := Go.Op.store 81 (Go.Operand.tmp 4) (Go.Operand.tmp 14), type := 0, pos := "law.go:48", after := #[{ on := 6, ground := Go.Ground.data }, { on := 2, ground := Go.Ground.data }, { on := 5, ground := Go.Ground.chain }, { on := 0, ground := Go.Ground.phase }, { on := 1, ground := Go.Ground.phase }, { on := 2, ground := Go.Ground.phase }, { on := 3, ground := Go.Ground.textOnly Go.Departure.lateStores }, { on := 4, ground := Go.Ground.textOnly Go.Departure.lateStores }, { on := 5, ground := Go.Ground.textOnly Go.Departure.lateStoresUnsure }, { on := 6, ground := Go.Ground.phase }, { on := 7, ground := Go.Ground.phase }], guard := none }) rfl (fun K hK => ?_) AllReadyH.nil
        obtain ⟨y0, y1, y2, y3, g0, g1, g2, g3⟩ := CA.out.o4
        have hgz := grown_p4 wx4 qa (.int .i64 1) (.int .i64 0) (.slice (some ⟨gx, 0, none⟩) 1 cx) (.string ⟨#[]⟩)
        have KZ := CA.out.p4 (.int .i64 1) (.int .i64 0) (.slice (some ⟨gx, 0, none⟩) 1 cx) (.string ⟨#[]⟩)
        have hbz := hHeld.out.grown hgz hHeld.out.size (fun k hk => by injection hk with hk; rw [← hk]; exact HQA.out.1)
        replace HX := Lib.hid (HX.out.set hgz HNA.out)
        have HO2 := Lib.hid (CB.out.grown hgz (fun e => HAB.out (Option.some.inj e).symm))
        clear hgz
        go_wp2_with fail
        clear y0 y1 y2 y3 g0 g1 g2 g3
        obtain ⟨wx5, hwe⟩ : ∃ x, ((((wx4.setCell ⟨qa, 0, none⟩ (.int .i64 1)).setCell ⟨qa, 1, none⟩ (.int .i64 0)).setCell ⟨qa, 2, none⟩ (.slice (some ⟨gx, 0, none⟩) 1 cx)).setCell ⟨qa, 3, none⟩ (.string ⟨#[]⟩)) = x := ⟨_, rfl⟩
        rw [hwe] at KZ hbz HX HO2 ⊢
        clear hwe
        replace CA := Lib.hid KZ
        replace CB := HO2
        have HBZ8 := Lib.hid hbz
        clear KZ hbz HO2
        refine hK.out _ _ (HBZ8) (fun hHeld2 => ?_)
        clear hK K hHeld
        have hHeld := hHeld2
        clear hHeld2
        try simp only [Act.put, List.setIfInBounds_toArray, List.set_cons_zero, List.set_cons_succ]
        refine wpAnyH_ready (rs := [9]) (by kernel_rfl) (by simp) ?_
        refine AllReadyH.cons (o := { dst := none, op := Go.Op.store 81 (Go.Operand.tmp 5) (Go.Operand.tmp 17), type := 0, pos := "law.go:48", after := #[{ on := 7, ground := Go.Ground.data }, { on := 5, ground := Go.Ground.data }, { on := 8, ground := Go.Ground.chain }, { on := 0, ground := Go.Ground.phase }, { on := 1, ground := Go.Ground.phase }, { on := 2, ground := Go.Ground.phase }, { on := 3, ground := Go.Ground.phase }, { on := 4, ground := Go.Ground.phase }, { on := 5, ground := Go.Ground.phase }, { on := 6, ground := Go.Ground.phase }, { on := 7, ground := Go.Ground.phase }, { on := 8, ground := Go.Ground.phase }], guard := none }) rfl (fun K hK => ?_) AllReadyH.nil
        obtain ⟨y0, y1, y2, y3, g0, g1, g2, g3⟩ := CB.out.o4
        have hgz := grown_p4 wx5 qb (.int .i64 5) (.int .i64 0) (.slice ax 0 cy) (.string ⟨#[]⟩)
        have KZ := CB.out.p4 (.int .i64 5) (.int .i64 0) (.slice ax 0 cy) (.string ⟨#[]⟩)
        have hbz := hHeld.out.grown hgz hHeld.out.size (fun k hk => by injection hk with hk; rw [← hk]; exact HQB.out.1)
        replace HX := Lib.hid (HX.out.set hgz HNB.out)
        have HO2 := Lib.hid (CA.out.grown hgz (fun e => HAB.out (Option.some.inj e)))
        clear hgz
        go_wp2_with fail
        clear y0 y1 y2 y3 g0 g1 g2 g3
        obtain ⟨wx6, hwe⟩ : ∃ x, ((((wx5.setCell ⟨qb, 0, none⟩ (.int .i64 5)).setCell ⟨qb, 1, none⟩ (.int .i64 0)).setCell ⟨qb, 2, none⟩ (.slice ax 0 cy)).setCell ⟨qb, 3, none⟩ (.string ⟨#[]⟩)) = x := ⟨_, rfl⟩
        rw [hwe] at KZ hbz HX HO2 ⊢
        clear hwe
        replace CB := Lib.hid KZ
        replace CA := HO2
        have HBZ9 := Lib.hid hbz
        clear KZ hbz HO2
        refine hK.out _ _ (HBZ9) (fun hHeld2 => ?_)
        clear hK K hHeld
        have hHeld := hHeld2
        clear hHeld2
        try simp only [Act.put, List.setIfInBounds_toArray, List.set_cons_zero, List.set_cons_succ]
        refine wpAnyH_done (by kernel_rfl) ?_ _
        have HBE := Lib.hid (HB.out.trans (hHeld.out.mono HB.out.size))
        clear hHeld
        obtain ⟨y0, y1, y2, y3, _⟩ := CA.out.o4
        obtain ⟨z0, z1, z2, z3, _⟩ := CB.out.o4
        obtain ⟨x0, x1, x2, x5⟩ := HX.out
        have HIK := Lib.hid (isK ⟨acoC, 1, 1⟩ _ 1 1 [1] _ (row_litC1 wx6 1 3) (by decide))
        have hba := (Below.refl _ _ : Below wx6.heap.size wx6 wx6).alloc (Nat.le_refl _) (.cells #[.int .i64 1] 3)
        have HBF := Lib.hid (HBE.out.trans (hba.mono HBE.out.size))
        replace CB := Lib.hid (CB.out.below hba)
        rw [show decide ((⟨acoC, 1, 1⟩ : Ky).t ∈ [(1 : Int)]) = true from rfl] at HIK
        clear hba
        go_wp2_with fail
        refine HIK.out.mono ?_; rintro e wf ⟨rfl, hb⟩
        clear HIK y0 y1 y2 y3 z0 z1 z2 z3 x0 x1 x2 x5
        obtain ⟨z0, z1, z2, z3, _⟩ := (CB.out.below hb).o4
        have HBG := Lib.hid (HBF.out.trans (hb.mono HBF.out.size))
        clear hb
        go_wp2
        go_ret
        exact ⟨rfl, HBG.out⟩
      · go_simp
        have hb := (Below.refl _ _ : Below wx2.heap.size wx2 wx2).alloc (Nat.le_refl _) (.cells #[.int .i64 0, .int .i64 0, .slice none 0 0, .string ⟨#[]⟩] 81)
        have hn := CN.new wx2 #[.int .i64 0, .int .i64 0, .slice none 0 0, .string ⟨#[]⟩] 81
        replace HX := Lib.hid (HX.out.below hb)
        replace CA := Lib.hid (CA.out.below hb)
        have hsz := hHeld.out.size
        obtain ⟨wx3, hwe⟩ : ∃ x, wx2.alloc (.cells #[.int .i64 0, .int .i64 0, .slice none 0 0, .string ⟨#[]⟩] 81) = x := ⟨_, rfl⟩
        obtain ⟨qb, hge⟩ : ∃ x, wx2.heap.size = x := ⟨_, rfl⟩
        have HNB := Lib.hid (show gx ≠ qb by have h := HGL.out; omega)
        rw [hwe] at hb hn HX CA ⊢
        rw [hge] at hn hsz ⊢
        have CB := Lib.hid hn
        have HQB := Lib.hid (show w5.heap.size ≤ qb ∧ qb < wx3.heap.size from ⟨hsz, hn.1⟩)
        replace HGL := Lib.hid (Nat.lt_of_lt_of_le HGL.out hb.size)
        have HAB := Lib.hid (show qa ≠ qb by have h := HQA.out; have h2 := hge; omega)
        replace HQA := Lib.hid (show w5.heap.size ≤ qa ∧ qa < wx3.heap.size from ⟨HQA.out.1, Nat.lt_of_lt_of_le HQA.out.2 hb.size⟩)
        clear hn hwe hge hsz
        refine hK.out _ _ (Lib.hid (hHeld.out.trans (hb.mono hHeld.out.size))) (fun hHeld2 => ?_)
        clear hK K hHeld
        have hHeld := hHeld2
        clear hHeld2
        try simp only [Act.put, List.setIfInBounds_toArray, List.set_cons_zero, List.set_cons_succ]
        refine wpAnyH_ready (rs := [5]) (by kernel_rfl) (by simp) ?_
        refine AllReadyH.cons (o := { dst := some 17, op := Go.Op.call { callee := Go.Callee.value (Go.Operand.func 37), args := #[Go.Operand.const (Go.Value.string { data := #[3, 110, 101, 116, 0] }), Go.Operand.tmp 15, Go.Operand.tmp 16], argTypes := #[9, 71, 77] }, type := 81, pos := "law.go:48", after := #[{ on := 3, ground := Go.Ground.data }, { on := 4, ground := Go.Ground.data }, { on := 2, ground := Go.Ground.chain }], guard := none }) rfl (fun K hK => ?_) AllReadyH.nil
        go_simp
        refine (sort_any netC acoC 1 1 mS _ wx3 (HMA.out.below hHeld.out) small_mS (by decide) (by decide)).mono ?_; rintro e wx4 ⟨⟨v, rfl, hou⟩, hb⟩
        replace HX := Lib.hid (HX.out.below hb)
        replace CA := Lib.hid (CA.out.below hb)
        replace CB := Lib.hid (CB.out.below hb)
        replace HGL := Lib.hid (Nat.lt_of_lt_of_le HGL.out hb.size)
        rw [sort_net] at hou
        obtain ⟨ax, cy, rfl⟩ := out_net hou
        clear hou
        replace HQA := Lib.hid (show w5.heap.size ≤ qa ∧ qa < wx4.heap.size from ⟨HQA.out.1, Nat.lt_of_lt_of_le HQA.out.2 hb.size⟩)
        replace HQB := Lib.hid (show w5.heap.size ≤ qb ∧ qb < wx4.heap.size from ⟨HQB.out.1, Nat.lt_of_lt_of_le HQB.out.2 hb.size⟩)
        go_wp2_with fail
        refine hK.out _ _ (Lib.hid (hHeld.out.trans (hb.mono hHeld.out.size))) (fun hHeld2 => ?_)
        clear hK K hHeld
        have hHeld := hHeld2
        clear hHeld2
        try simp only [Act.put, List.setIfInBounds_toArray, List.set_cons_zero, List.set_cons_succ]
        refine wpAnyH_ready (rs := [8]) (by kernel_rfl) (by simp) ?_
        refine AllReadyH.cons (o := { dst := none, op := Go.Op.store 81 (Go.Operand.tmp 4) (Go.Operand.tmp 14), type := 0, pos := "law.go:48", after := #[{ on := 6, ground := Go.Ground.data }, { on := 2, ground := Go.Ground.data }, { on := 5, ground := Go.Ground.chain }, { on := 0, ground := Go.Ground.phase }, { on := 1, ground := Go.Ground.phase }, { on := 2, ground := Go.Ground.phase }, { on := 3, ground := Go.Ground.textOnly Go.Departure.lateStores }, { on := 4, ground := Go.Ground.textOnly Go.Departure.lateStores }, { on := 5, ground := Go.Ground.textOnly Go.Departure.lateStoresUnsure }, { on := 6, ground := Go.Ground.phase }, { on := 7, ground := Go.Ground.phase }], guard := none }) rfl (fun K hK => ?_) AllReadyH.nil
        obtain ⟨y0, y1, y2, y3, g0, g1, g2, g3⟩ := CA.out.o4
        have hgz := grown_p4 wx4 qa (.int .i64 1) (.int .i64 0) (.slice (some ⟨gx, 0, none⟩) 1 cx) (.string ⟨#[]⟩)
        have KZ := CA.out.p4 (.int .i64 1) (.int .i64 0) (.slice (some ⟨gx, 0, none⟩) 1 cx) (.string ⟨#[]⟩)
        have hbz := hHeld.out.grown hgz hHeld.out.size (fun k hk => by injection hk with hk; rw [← hk]; exact HQA.out.1)
        replace HX := Lib.hid (HX.out.set hgz HNA.out)
        have HO2 := Lib.hid (CB.out.grown hgz (fun e => HAB.out (Option.some.inj e).symm))
        clear hgz
        go_wp2_with fail
        clear y0 y1 y2 y3 g0 g1 g2 g3
        obtain ⟨wx5, hwe⟩ : ∃ x, ((((wx4.setCell ⟨qa, 0, none⟩ (.int .i64 1)).setCell ⟨qa, 1, none⟩ (.int .i64 0)).setCell ⟨qa, 2, none⟩ (.slice (some ⟨gx, 0, none⟩) 1 cx)).setCell ⟨qa, 3, none⟩ (.string ⟨#[]⟩)) = x := ⟨_, rfl⟩
        rw [hwe] at KZ hbz HX HO2 ⊢
        clear hwe
        replace CA := Lib.hid KZ
        replace CB := HO2
        have HBZ8 := Lib.hid hbz
        clear KZ hbz HO2
        refine hK.out _ _ (HBZ8) (fun hHeld2 => ?_)
        clear hK K hHeld
        have hHeld := hHeld2
        clear hHeld2
        try simp only [Act.put, List.setIfInBounds_toArray, List.set_cons_zero, List.set_cons_succ]
        refine wpAnyH_ready (rs := [9]) (by kernel_rfl) (by simp) ?_
        refine AllReadyH.cons (o := { dst := none, op := Go.Op.store 81 (Go.Operand.tmp 5) (Go.Operand.tmp 17), type := 0, pos := "law.go:48", after := #[{ on := 7, ground := Go.Ground.data }, { on := 5, ground := Go.Ground.data }, { on := 8, ground := Go.Ground.chain }, { on := 0, ground := Go.Ground.phase }, { on := 1, ground := Go.Ground.phase }, { on := 2, ground := Go.Ground.phase }, { on := 3, ground := Go.Ground.phase }, { on := 4, ground := Go.Ground.phase }, { on := 5, ground := Go.Ground.phase }, { on := 6, ground := Go.Ground.phase }, { on := 7, ground := Go.Ground.phase }, { on := 8, ground := Go.Ground.phase }], guard := none }) rfl (fun K hK => ?_) AllReadyH.nil
        obtain ⟨y0, y1, y2, y3, g0, g1, g2, g3⟩ := CB.out.o4
        have hgz := grown_p4 wx5 qb (.int .i64 5) (.int .i64 0) (.slice ax 0 cy) (.string ⟨#[]⟩)
        have KZ := CB.out.p4 (.int .i64 5) (.int .i64 0) (.slice ax 0 cy) (.string ⟨#[]⟩)
        have hbz := hHeld.out.grown hgz hHeld.out.size (fun k hk => by injection hk with hk; rw [← hk]; exact HQB.out.1)
        replace HX := Lib.hid (HX.out.set hgz HNB.out)
        have HO2 := Lib.hid (CA.out.grown hgz (fun e => HAB.out (Option.some.inj e)))
        clear hgz
        go_wp2_with fail
        clear y0 y1 y2 y3 g0 g1 g2 g3
        obtain ⟨wx6, hwe⟩ : ∃ x, ((((wx5.setCell ⟨qb, 0, none⟩ (.int .i64 5)).setCell ⟨qb, 1, none⟩ (.int .i64 0)).setCell ⟨qb, 2, none⟩ (.slice ax 0 cy)).setCell ⟨qb, 3, none⟩ (.string ⟨#[]⟩)) = x := ⟨_, rfl⟩
        rw [hwe] at KZ hbz HX HO2 ⊢
        clear hwe
        replace CB := Lib.hid KZ
        replace CA := HO2
        have HBZ9 := Lib.hid hbz
        clear KZ hbz HO2
        refine hK.out _ _ (HBZ9) (fun hHeld2 => ?_)
        clear hK K hHeld
        have hHeld := hHeld2
        clear hHeld2
        try simp only [Act.put, List.setIfInBounds_toArray, List.set_cons_zero, List.set_cons_succ]
        refine wpAnyH_done (by kernel_rfl) ?_ _
        have HBE := Lib.hid (HB.out.trans (hHeld.out.mono HB.out.size))
        clear hHeld
        obtain ⟨y0, y1, y2, y3, _⟩ := CA.out.o4
        obtain ⟨z0, z1, z2, z3, _⟩ := CB.out.o4
        obtain ⟨x0, x1, x2, x5⟩ := HX.out
        have HIK := Lib.hid (isK ⟨acoC, 1, 1⟩ _ 1 1 [1] _ (row_litC1 wx6 1 3) (by decide))
        have hba := (Below.refl _ _ : Below wx6.heap.size wx6 wx6).alloc (Nat.le_refl _) (.cells #[.int .i64 1] 3)
        have HBF := Lib.hid (HBE.out.trans (hba.mono HBE.out.size))
        replace CB := Lib.hid (CB.out.below hba)
        rw [show decide ((⟨acoC, 1, 1⟩ : Ky).t ∈ [(1 : Int)]) = true from rfl] at HIK
        clear hba
        go_wp2_with fail
        refine HIK.out.mono ?_; rintro e wf ⟨rfl, hb⟩
        clear HIK y0 y1 y2 y3 z0 z1 z2 z3 x0 x1 x2 x5
        obtain ⟨z0, z1, z2, z3, _⟩ := (CB.out.below hb).o4
        have HBG := Lib.hid (HBF.out.trans (hb.mono HBF.out.size))
        clear hb
        go_wp2
        go_ret
        exact ⟨rfl, HBG.out⟩
    · go_simp
      have hb := (Below.refl _ _ : Below wx1.heap.size wx1 wx1).alloc (Nat.le_refl _) (.cells #[.int .i64 0, .int .i64 0, .slice none 0 0, .string ⟨#[]⟩] 81)
      have hn := CN.new wx1 #[.int .i64 0, .int .i64 0, .slice none 0 0, .string ⟨#[]⟩] 81
      replace CA := Lib.hid (CA.out.below hb)
      have hsz := hHeld.out.size
      obtain ⟨wx2, hwe⟩ : ∃ x, wx1.alloc (.cells #[.int .i64 0, .int .i64 0, .slice none 0 0, .string ⟨#[]⟩] 81) = x := ⟨_, rfl⟩
      obtain ⟨qb, hge⟩ : ∃ x, wx1.heap.size = x := ⟨_, rfl⟩
      rw [hwe] at hb hn CA ⊢
      rw [hge] at hn hsz ⊢
      have CB := Lib.hid hn
      have HQB := Lib.hid (show w5.heap.size ≤ qb ∧ qb < wx2.heap.size from ⟨hsz, hn.1⟩)
      have HAB := Lib.hid (show qa ≠ qb by have h := HQA.out; have h2 := hge; omega)
      replace HQA := Lib.hid (show w5.heap.size ≤ qa ∧ qa < wx2.heap.size from ⟨HQA.out.1, Nat.lt_of_lt_of_le HQA.out.2 hb.size⟩)
      clear hn hwe hge hsz
      refine hK.out _ _ (Lib.hid (hHeld.out.trans (hb.mono hHeld.out.size))) (fun hHeld2 => ?_)
      clear hK K hHeld
      have hHeld := hHeld2
      clear hHeld2
      try simp only [Act.put, List.setIfInBounds_toArray, List.set_cons_zero, List.set_cons_succ]
      refine wpAnyH_ready (rs := [2]) (by kernel_rfl) (by simp) ?_
      refine AllReadyH.cons (o := { dst := some 14, op := Go.Op.call { callee := Go.Callee.value (Go.Operand.func 37), args := #[Go.Operand.const (Go.Value.string { data := #[3, 99, 111, 109, 0] }), Go.Operand.tmp 12, Go.Operand.tmp 13], argTypes := #[9, 71, 77] }, type := 81, pos := "law.go:48", after := #[{ on := 0, ground := Go.Ground.data }, { on := 1, ground := Go.Ground.data }], guard := none }) rfl (fun K hK => ?_) AllReadyH.nil
      go_simp
      refine (sort_any comC acoC 1 1 mS _ wx2 (HMA.out.below hHeld.out) small_mS (by decide) (by decide)).mono ?_; rintro e wx3 ⟨⟨v, rfl, hou⟩, hb⟩
      replace CA := Lib.hid (CA.out.below hb)
      replace CB := Lib.hid (CB.out.below hb)
      rw [sort_com] at hou
      obtain ⟨gx, cx, rfl, hgB, hgl, hx⟩ := out_com hou
      have HX := Lib.hid hx
      have HNA := Lib.hid (show gx ≠ qa by have h := HQA.out; omega)
      have HNB := Lib.hid (show gx ≠ qb by have h := HQB.out; omega)
      replace HQA := Lib.hid (show w5.heap.size ≤ qa ∧ qa < wx3.heap.size from ⟨HQA.out.1, Nat.lt_of_lt_of_le HQA.out.2 hb.size⟩)
      replace HQB := Lib.hid (show w5.heap.size ≤ qb ∧ qb < wx3.heap.size from ⟨HQB.out.1, Nat.lt_of_lt_of_le HQB.out.2 hb.size⟩)
      have HGL := Lib.hid hgl
      clear hou hx hgB hgl
      go_wp2_with fail
      refine hK.out _ _ (Lib.hid (hHeld.out.trans (hb.mono hHeld.out.size))) (fun hHeld2 => ?_)
      clear hK K hHeld
      have hHeld := hHeld2
      clear hHeld2
      try simp only [Act.put, List.setIfInBounds_toArray, List.set_cons_zero, List.set_cons_succ]
      refine wpAnyH_ready (rs := [5]) (by kernel_rfl) (by simp) ?_
      refine AllReadyH.cons (o := { dst := some 17, op := Go.Op.call { callee := Go.Callee.value (Go.Operand.func 37), args := #[Go.Operand.const (Go.Value.string { data := #[3, 110, 101, 116, 0] }), Go.Operand.tmp 15, Go.Operand.tmp 16], argTypes := #[9, 71, 77] }, type := 81, pos := "law.go:48", after := #[{ on := 3, ground := Go.Ground.data }, { on := 4, ground := Go.Ground.data }, { on := 2, ground := Go.Ground.chain }], guard := none }) rfl (fun K hK => ?_) AllReadyH.nil
      go_simp
      refine (sort_any netC acoC 1 1 mS _ wx3 (HMA.out.below hHeld.out) small_mS (by decide) (by decide)).mono ?_; rintro e wx4 ⟨⟨v, rfl, hou⟩, hb⟩
      replace HX := Lib.hid (HX.out.below hb)
      replace CA := Lib.hid (CA.out.below hb)
      replace CB := Lib.hid (CB.out.below hb)
      replace HGL := Lib.hid (Nat.lt_of_lt_of_le HGL.out hb.size)
      rw [sort_net] at hou
      obtain ⟨ax, cy, rfl⟩ := out_net hou
      clear hou
      replace HQA := Lib.hid (show w5.heap.size ≤ qa ∧ qa < wx4.heap.size from ⟨HQA.out.1, Nat.lt_of_lt_of_le HQA.out.2 hb.size⟩)
      replace HQB := Lib.hid (show w5.heap.size ≤ qb ∧ qb < wx4.heap.size from ⟨HQB.out.1, Nat.lt_of_lt_of_le HQB.out.2 hb.size⟩)
      go_wp2_with fail
      refine hK.out _ _ (Lib.hid (hHeld.out.trans (hb.mono hHeld.out.size))) (fun hHeld2 => ?_)
      clear hK K hHeld
      have hHeld := hHeld2
      clear hHeld2
      try simp only [Act.put, List.setIfInBounds_toArray, List.set_cons_zero, List.set_cons_succ]
      refine wpAnyH_ready (rs := [8]) (by kernel_rfl) (by simp) ?_
      refine AllReadyH.cons (o := { dst := none, op := Go.Op.store 81 (Go.Operand.tmp 4) (Go.Operand.tmp 14), type := 0, pos := "law.go:48", after := #[{ on := 6, ground := Go.Ground.data }, { on := 2, ground := Go.Ground.data }, { on := 5, ground := Go.Ground.chain }, { on := 0, ground := Go.Ground.phase }, { on := 1, ground := Go.Ground.phase }, { on := 2, ground := Go.Ground.phase }, { on := 3, ground := Go.Ground.textOnly Go.Departure.lateStores }, { on := 4, ground := Go.Ground.textOnly Go.Departure.lateStores }, { on := 5, ground := Go.Ground.textOnly Go.Departure.lateStoresUnsure }, { on := 6, ground := Go.Ground.phase }, { on := 7, ground := Go.Ground.phase }], guard := none }) rfl (fun K hK => ?_) AllReadyH.nil
      obtain ⟨y0, y1, y2, y3, g0, g1, g2, g3⟩ := CA.out.o4
      have hgz := grown_p4 wx4 qa (.int .i64 1) (.int .i64 0) (.slice (some ⟨gx, 0, none⟩) 1 cx) (.string ⟨#[]⟩)
      have KZ := CA.out.p4 (.int .i64 1) (.int .i64 0) (.slice (some ⟨gx, 0, none⟩) 1 cx) (.string ⟨#[]⟩)
      have hbz := hHeld.out.grown hgz hHeld.out.size (fun k hk => by injection hk with hk; rw [← hk]; exact HQA.out.1)
      replace HX := Lib.hid (HX.out.set hgz HNA.out)
      have HO2 := Lib.hid (CB.out.grown hgz (fun e => HAB.out (Option.some.inj e).symm))
      clear hgz
      go_wp2_with fail
      clear y0 y1 y2 y3 g0 g1 g2 g3
      obtain ⟨wx5, hwe⟩ : ∃ x, ((((wx4.setCell ⟨qa, 0, none⟩ (.int .i64 1)).setCell ⟨qa, 1, none⟩ (.int .i64 0)).setCell ⟨qa, 2, none⟩ (.slice (some ⟨gx, 0, none⟩) 1 cx)).setCell ⟨qa, 3, none⟩ (.string ⟨#[]⟩)) = x := ⟨_, rfl⟩
      rw [hwe] at KZ hbz HX HO2 ⊢
      clear hwe
      replace CA := Lib.hid KZ
      replace CB := HO2
      have HBZ8 := Lib.hid hbz
      clear KZ hbz HO2
      refine hK.out _ _ (HBZ8) (fun hHeld2 => ?_)
      clear hK K hHeld
      have hHeld := hHeld2
      clear hHeld2
      try simp only [Act.put, List.setIfInBounds_toArray, List.set_cons_zero, List.set_cons_succ]
      refine wpAnyH_ready (rs := [9]) (by kernel_rfl) (by simp) ?_
      refine AllReadyH.cons (o := { dst := none, op := Go.Op.store 81 (Go.Operand.tmp 5) (Go.Operand.tmp 17), type := 0, pos := "law.go:48", after := #[{ on := 7, ground := Go.Ground.data }, { on := 5, ground := Go.Ground.data }, { on := 8, ground := Go.Ground.chain }, { on := 0, ground := Go.Ground.phase }, { on := 1, ground := Go.Ground.phase }, { on := 2, ground := Go.Ground.phase }, { on := 3, ground := Go.Ground.phase }, { on := 4, ground := Go.Ground.phase }, { on := 5, ground := Go.Ground.phase }, { on := 6, ground := Go.Ground.phase }, { on := 7, ground := Go.Ground.phase }, { on := 8, ground := Go.Ground.phase }], guard := none }) rfl (fun K hK => ?_) AllReadyH.nil
      obtain ⟨y0, y1, y2, y3, g0, g1, g2, g3⟩ := CB.out.o4
      have hgz := grown_p4 wx5 qb (.int .i64 5) (.int .i64 0) (.slice ax 0 cy) (.string ⟨#[]⟩)
      have KZ := CB.out.p4 (.int .i64 5) (.int .i64 0) (.slice ax 0 cy) (.string ⟨#[]⟩)
      have hbz := hHeld.out.grown hgz hHeld.out.size (fun k hk => by injection hk with hk; rw [← hk]; exact HQB.out.1)
      replace HX := Lib.hid (HX.out.set hgz HNB.out)
      have HO2 := Lib.hid (CA.out.grown hgz (fun e => HAB.out (Option.some.inj e)))
      clear hgz
      go_wp2_with fail
      clear y0 y1 y2 y3 g0 g1 g2 g3
      obtain ⟨wx6, hwe⟩ : ∃ x, ((((wx5.setCell ⟨qb, 0, none⟩ (.int .i64 5)).setCell ⟨qb, 1, none⟩ (.int .i64 0)).setCell ⟨qb, 2, none⟩ (.slice ax 0 cy)).setCell ⟨qb, 3, none⟩ (.string ⟨#[]⟩)) = x := ⟨_, rfl⟩
      rw [hwe] at KZ hbz HX HO2 ⊢
      clear hwe
      replace CB := Lib.hid KZ
      replace CA := HO2
      have HBZ9 := Lib.hid hbz
      clear KZ hbz HO2
      refine hK.out _ _ (HBZ9) (fun hHeld2 => ?_)
      clear hK K hHeld
      have hHeld := hHeld2
      clear hHeld2
      try simp only [Act.put, List.setIfInBounds_toArray, List.set_cons_zero, List.set_cons_succ]
      refine wpAnyH_done (by kernel_rfl) ?_ _
      have HBE := Lib.hid (HB.out.trans (hHeld.out.mono HB.out.size))
      clear hHeld
      obtain ⟨y0, y1, y2, y3, _⟩ := CA.out.o4
      obtain ⟨z0, z1, z2, z3, _⟩ := CB.out.o4
      obtain ⟨x0, x1, x2, x5⟩ := HX.out
      have HIK := Lib.hid (isK ⟨acoC, 1, 1⟩ _ 1 1 [1] _ (row_litC1 wx6 1 3) (by decide))
      have hba := (Below.refl _ _ : Below wx6.heap.size wx6 wx6).alloc (Nat.le_refl _) (.cells #[.int .i64 1] 3)
      have HBF := Lib.hid (HBE.out.trans (hba.mono HBE.out.size))
      replace CB := Lib.hid (CB.out.below hba)
      rw [show decide ((⟨acoC, 1, 1⟩ : Ky).t ∈ [(1 : Int)]) = true from rfl] at HIK
      clear hba
      go_wp2_with fail
      refine HIK.out.mono ?_; rintro e wf ⟨rfl, hb⟩
      clear HIK y0 y1 y2 y3 z0 z1 z2 z3 x0 x1 x2 x5
      obtain ⟨z0, z1, z2, z3, _⟩ := (CB.out.below hb).o4
      have HBG := Lib.hid (HBF.out.trans (hb.mono HBF.out.size))
      clear hb
      go_wp2
      go_ret
      exact ⟨rfl, HBG.out⟩
  · go_simp
    have hb := (Below.refl _ _ : Below wd.heap.size wd wd).alloc (Nat.le_refl _) (.cells #[.int .i64 0, .int .i64 0, .slice none 0 0, .string ⟨#[]⟩] 81)
    have hn := CN.new wd #[.int .i64 0, .int .i64 0, .slice none 0 0, .string ⟨#[]⟩] 81
    have hsz := hHeld.out.size
    obtain ⟨wx1, hwe⟩ : ∃ x, wd.alloc (.cells #[.int .i64 0, .int .i64 0, .slice none 0 0, .string ⟨#[]⟩] 81) = x := ⟨_, rfl⟩
    obtain ⟨qb, hge⟩ : ∃ x, wd.heap.size = x := ⟨_, rfl⟩
    rw [hwe] at hb hn ⊢
    rw [hge] at hn hsz ⊢
    have CB := Lib.hid hn
    have HQB := Lib.hid (show w5.heap.size ≤ qb ∧ qb < wx1.heap.size from ⟨hsz, hn.1⟩)
    clear hn hwe hge hsz
    refine hK.out _ _ (Lib.hid (hHeld.out.trans (hb.mono hHeld.out.size))) (fun hHeld2 => ?_)
    clear hK K hHeld
    have hHeld := hHeld2
    clear hHeld2
    try simp only [Act.put, List.setIfInBounds_toArray, List.set_cons_zero, List.set_cons_succ]
    refine wpAnyH_ready (rs := [2, 6]) (by kernel_rfl) (by simp) ?_
    refine AllReadyH.cons (o := { dst := some 14, op := Go.Op.call { callee := Go.Callee.value (Go.Operand.func 37), args := #[Go.Operand.const (Go.Value.string { data := #[3, 99, 111, 109, 0] }), Go.Operand.tmp 12, Go.Operand.tmp 13], argTypes := #[9, 71, 77] }, type := 81, pos := "law.go:48", after := #[{ on := 0, ground := Go.Ground.data }, { on := 1, ground := Go.Ground.data }], guard := none }) rfl (fun K hK => ?_) (AllReadyH.cons (o := { dst := some 4, op := Go.Op.alloc 81, type := 0, pos := "law.go:48", after := #[], guard := none }) rfl (fun K hK => ?_) AllReadyH.nil)
    · go_simp
      refine (sort_any comC acoC 1 1 mS _ wx1 (HMA.out.below hHeld.out) small_mS (by decide) (by decide)).mono ?_; rintro e wx2 ⟨⟨v, rfl, hou⟩, hb⟩
      replace CB := Lib.hid (CB.out.below hb)
      rw [sort_com] at hou
      obtain ⟨gx, cx, rfl, hgB, hgl, hx⟩ := out_com hou
      have HX := Lib.hid hx
      have HNB := Lib.hid (show gx ≠ qb by have h := HQB.out; omega)
      replace HQB := Lib.hid (show w5.heap.size ≤ qb ∧ qb < wx2.heap.size from ⟨HQB.out.1, Nat.lt_of_lt_of_le HQB.out.2 hb.size⟩)
      have HGL := Lib.hid hgl
      clear hou hx hgB hgl
      go_wp2_with fail
      refine hK.out _ _ (Lib.hid (hHeld.out.trans (hb.mono hHeld.out.size))) (fun hHeld2 => ?_)
      clear hK K hHeld
      have hHeld := hHeld2
      clear hHeld2
      try simp only [Act.put, List.setIfInBounds_toArray, List.set_cons_zero, List.set_cons_succ]
      refine wpAnyH_ready (rs := [5, 6]) (by kernel_rfl) (by simp) ?_
      refine AllReadyH.cons (o := { dst := some 17, op := Go.Op.call { callee := Go.Callee.value (Go.Operand.func 37), args := #[Go.Operand.const (Go.Value.string { data := #[3, 110, 101, 116, 0] }), Go.Operand.tmp 15, Go.Operand.tmp 16], argTypes := #[9, 71, 77] }, type := 81, pos := "law.go:48", after := #[{ on := 3, ground := Go.Ground.data }, { on := 4, ground := Go.Ground.data }, { on := 2, ground := Go.Ground.chain }], guard := none }) rfl (fun K hK => ?_) (AllReadyH.cons (o := { dst := some 4, op := Go.Op.alloc 81, type := 0, pos := "law.go:48", after := #[], guard := none }) rfl (fun K hK => ?_) AllReadyH.nil)
      · go_simp
        refine (sort_any netC acoC 1 1 mS _ wx2 (HMA.out.below hHeld.out) small_mS (by decide) (by decide)).mono ?_; rintro e wx3 ⟨⟨v, rfl, hou⟩, hb⟩
        replace HX := Lib.hid (HX.out.below hb)
        replace CB := Lib.hid (CB.out.below hb)
        replace HGL := Lib.hid (Nat.lt_of_lt_of_le HGL.out hb.size)
        rw [sort_net] at hou
        obtain ⟨ax, cy, rfl⟩ := out_net hou
        clear hou
        replace HQB := Lib.hid (show w5.heap.size ≤ qb ∧ qb < wx3.heap.size from ⟨HQB.out.1, Nat.lt_of_lt_of_le HQB.out.2 hb.size⟩)
        go_wp2_with fail
        refine hK.out _ _ (Lib.hid (hHeld.out.trans (hb.mono hHeld.out.size))) (fun hHeld2 => ?_)
        clear hK K hHeld
        have hHeld := hHeld2
        clear hHeld2
        try simp only [Act.put, List.setIfInBounds_toArray, List.set_cons_zero, List.set_cons_succ]
        refine wpAnyH_ready (rs := [6]) (by kernel_rfl) (by simp) ?_
        refine AllReadyH.cons (o := { dst := some 4, op := Go.Op.alloc 81, type := 0, pos := "law.go:48", after := #[], guard := none }) rfl (fun K hK => ?_) AllReadyH.nil
        go_simp
        have hb := (Below.refl _ _ : Below wx3.heap.size wx3 wx3).alloc (Nat.le_refl _) (.cells #[.int .i64 0, .int .i64 0, .slice none 0 0, .string ⟨#[]⟩] 81)
        have hn := CN.new wx3 #[.int .i64 0, .int .i64 0, .slice none 0 0, .string ⟨#[]⟩] 81
        replace HX := Lib.hid (HX.out.below hb)
        replace CB := Lib.hid (CB.out.below hb)
        have hsz := hHeld.out.size
        obtain ⟨wx4, hwe⟩ : ∃ x, wx3.alloc (.cells #[.int .i64 0, .int .i64 0, .slice none 0 0, .string ⟨#[]⟩] 81) = x := ⟨_, rfl⟩
        obtain ⟨qa, hge⟩ : ∃ x, wx3.heap.size = x := ⟨_, rfl⟩
        have HNA := Lib.hid (show gx ≠ qa by have h := HGL.out; omega)
        rw [hwe] at hb hn HX CB ⊢
        rw [hge] at hn hsz ⊢
        have CA := Lib.hid hn
        have HQA := Lib.hid (show w5.heap.size ≤ qa ∧ qa < wx4.heap.size from ⟨hsz, hn.1⟩)
        replace HGL := Lib.hid (Nat.lt_of_lt_of_le HGL.out hb.size)
        have HAB := Lib.hid (show qa ≠ qb by have h := HQB.out; have h2 := hge; omega)
        replace HQB := Lib.hid (show w5.heap.size ≤ qb ∧ qb < wx4.heap.size from ⟨HQB.out.1, Nat.lt_of_lt_of_le HQB.out.2 hb.size⟩)
        clear hn hwe hge hsz
        refine hK.out _ _ (Lib.hid (hHeld.out.trans (hb.mono hHeld.out.size))) (fun hHeld2 => ?_)
        clear hK K hHeld
        have hHeld := hHeld2
        clear hHeld2
        try simp only [Act.put, List.setIfInBounds_toArray, List.set_cons_zero, List.set_cons_succ]
        refine wpAnyH_ready (rs := [8]) (by kernel_rfl) (by simp) ?_
        refine AllReadyH.cons (o := { dst := none, op := Go.Op.store 81 (Go.Operand.tmp 4) (Go.Operand.tmp 14), type := 0, pos := "law.go:48", after := #[{ on := 6, ground := Go.Ground.data }, { on := 2, ground := Go.Ground.data }, { on := 5, ground := Go.Ground.chain }, { on := 0, ground := Go.Ground.phase }, { on := 1, ground := Go.Ground.phase }, { on := 2, ground := Go.Ground.phase }, { on := 3, ground := Go.Ground.textOnly Go.Departure.lateStores }, { on := 4, ground := Go.Ground.textOnly Go.Departure.lateStores }, { on := 5, ground := Go.Ground.textOnly Go.Departure.lateStoresUnsure }, { on := 6, ground := Go.Ground.phase }, { on := 7, ground := Go.Ground.phase }], guard := none }) rfl (fun K hK => ?_) AllReadyH.nil
        obtain ⟨y0, y1, y2, y3, g0, g1, g2, g3⟩ := CA.out.o4
        have hgz := grown_p4 wx4 qa (.int .i64 1) (.int .i64 0) (.slice (some ⟨gx, 0, none⟩) 1 cx) (.string ⟨#[]⟩)
        have KZ := CA.out.p4 (.int .i64 1) (.int .i64 0) (.slice (some ⟨gx, 0, none⟩) 1 cx) (.string ⟨#[]⟩)
        have hbz := hHeld.out.grown hgz hHeld.out.size (fun k hk => by injection hk with hk; rw [← hk]; exact HQA.out.1)
        replace HX := Lib.hid (HX.out.set hgz HNA.out)
        have HO2 := Lib.hid (CB.out.grown hgz (fun e => HAB.out (Option.some.inj e).symm))
        clear hgz
        go_wp2_with fail
        clear y0 y1 y2 y3 g0 g1 g2 g3
        obtain ⟨wx5, hwe⟩ : ∃ x, ((((wx4.setCell ⟨qa, 0, none⟩ (.int .i64 1)).setCell ⟨qa, 1, none⟩ (.int .i64 0)).setCell ⟨qa, 2, none⟩ (.slice (some ⟨gx, 0, none⟩) 1 cx)).setCell ⟨qa, 3, none⟩ (.string ⟨#[]⟩)) = x := ⟨_, rfl⟩
        rw [hwe] at KZ hbz HX HO2 ⊢
        clear hwe
        replace CA := Lib.hid KZ
        replace CB := HO2
        have HBZ8 := Lib.hid hbz
        clear KZ hbz HO2
        refine hK.out _ _ (HBZ8) (fun hHeld2 => ?_)
        clear hK K hHeld
        have hHeld := hHeld2
        clear hHeld2
        try simp only [Act.put, List.setIfInBounds_toArray, List.set_cons_zero, List.set_cons_succ]
        refine wpAnyH_ready (rs := [9]) (by kernel_rfl) (by simp) ?_
        refine AllReadyH.cons (o := { dst := none, op := Go.Op.store 81 (Go.Operand.tmp 5) (Go.Operand.tmp 17), type := 0, pos := "law.go:48", after := #[{ on := 7, ground := Go.Ground.data }, { on := 5, ground := Go.Ground.data }, { on := 8, ground := Go.Ground.chain }, { on := 0, ground := Go.Ground.phase }, { on := 1, ground := Go.Ground.phase }, { on := 2, ground := Go.Ground.phase }, { on := 3, ground := Go.Ground.phase }, { on := 4, ground := Go.Ground.phase }, { on := 5, ground := Go.Ground.phase }, { on := 6, ground := Go.Ground.phase }, { on := 7, ground := Go.Ground.phase }, { on := 8, ground := Go.Ground.phase }], guard := none }) rfl (fun K hK => ?_) AllReadyH.nil
        obtain ⟨y0, y1, y2, y3, g0, g1, g2, g3⟩ := CB.out.o4
        have hgz := grown_p4 wx5 qb (.int .i64 5) (.int .i64 0) (.slice ax 0 cy) (.string ⟨#[]⟩)
        have KZ := CB.out.p4 (.int .i64 5) (.int .i64 0) (.slice ax 0 cy) (.string ⟨#[]⟩)
        have hbz := hHeld.out.grown hgz hHeld.out.size (fun k hk => by injection hk with hk; rw [← hk]; exact HQB.out.1)
        replace HX := Lib.hid (HX.out.set hgz HNB.out)
        have HO2 := Lib.hid (CA.out.grown hgz (fun e => HAB.out (Option.some.inj e)))
        clear hgz
        go_wp2_with fail
        clear y0 y1 y2 y3 g0 g1 g2 g3
        obtain ⟨wx6, hwe⟩ : ∃ x, ((((wx5.setCell ⟨qb, 0, none⟩ (.int .i64 5)).setCell ⟨qb, 1, none⟩ (.int .i64 0)).setCell ⟨qb, 2, none⟩ (.slice ax 0 cy)).setCell ⟨qb, 3, none⟩ (.string ⟨#[]⟩)) = x := ⟨_, rfl⟩
        rw [hwe] at KZ hbz HX HO2 ⊢
        clear hwe
        replace CB := Lib.hid KZ
        replace CA := HO2
        have HBZ9 := Lib.hid hbz
        clear KZ hbz HO2
        refine hK.out _ _ (HBZ9) (fun hHeld2 => ?_)
        clear hK K hHeld
        have hHeld := hHeld2
        clear hHeld2
        try simp only [Act.put, List.setIfInBounds_toArray, List.set_cons_zero, List.set_cons_succ]
        refine wpAnyH_done (by kernel_rfl) ?_ _
        have HBE := Lib.hid (HB.out.trans (hHeld.out.mono HB.out.size))
        clear hHeld
        obtain ⟨y0, y1, y2, y3, _⟩ := CA.out.o4
        obtain ⟨z0, z1, z2, z3, _⟩ := CB.out.o4
        obtain ⟨x0, x1, x2, x5⟩ := HX.out
        have HIK := Lib.hid (isK ⟨acoC, 1, 1⟩ _ 1 1 [1] _ (row_litC1 wx6 1 3) (by decide))
        have hba := (Below.refl _ _ : Below wx6.heap.size wx6 wx6).alloc (Nat.le_refl _) (.cells #[.int .i64 1] 3)
        have HBF := Lib.hid (HBE.out.trans (hba.mono HBE.out.size))
        replace CB := Lib.hid (CB.out.below hba)
        rw [show decide ((⟨acoC, 1, 1⟩ : Ky).t ∈ [(1 : Int)]) = true from rfl] at HIK
        clear hba
        go_wp2_with fail
        refine HIK.out.mono ?_; rintro e wf ⟨rfl, hb⟩
        clear HIK y0 y1 y2 y3 z0 z1 z2 z3 x0 x1 x2 x5
        obtain ⟨z0, z1, z2, z3, _⟩ := (CB.out.below hb).o4
        have HBG := Lib.hid (HBF.out.trans (hb.mono HBF.out.size))
        clear hb
        go_wp2
        go_ret
        exact ⟨rfl, HBG.out⟩
      · go_simp
        have hb := (Below.refl _ _ : Below wx2.heap.size wx2 wx2).alloc (Nat.le_refl _) (.cells #[.int .i64 0, .int .i64 0, .slice none 0 0, .string ⟨#[]⟩] 81)
        have hn := CN.new wx2 #[.int .i64 0, .int .i64 0, .slice none 0 0, .string ⟨#[]⟩] 81
        replace HX := Lib.hid (HX.out.below hb)
        replace CB := Lib.hid (CB.out.below hb)
        have hsz := hHeld.out.size
        obtain ⟨wx3, hwe⟩ : ∃ x, wx2.alloc (.cells #[.int .i64 0, .int .i64 0, .slice none 0 0, .string ⟨#[]⟩] 81) = x := ⟨_, rfl⟩
        obtain ⟨qa, hge⟩ : ∃ x, wx2.heap.size = x := ⟨_, rfl⟩
        have HNA := Lib.hid (show gx ≠ qa by have h := HGL.out; omega)
        rw [hwe] at hb hn HX CB ⊢
        rw [hge] at hn hsz ⊢
        have CA := Lib.hid hn
        have HQA := Lib.hid (show w5.heap.size ≤ qa ∧ qa < wx3.heap.size from ⟨hsz, hn.1⟩)
        replace HGL := Lib.hid (Nat.lt_of_lt_of_le HGL.out hb.size)
        have HAB := Lib.hid (show qa ≠ qb by have h := HQB.out; have h2 := hge; omega)
        replace HQB := Lib.hid (show w5.heap.size ≤ qb ∧ qb < wx3.heap.size from ⟨HQB.out.1, Nat.lt_of_lt_of_le HQB.out.2 hb.size⟩)
        clear hn hwe hge hsz
        refine hK.out _ _ (Lib.hid (hHeld.out.trans (hb.mono hHeld.out.size))) (fun hHeld2 => ?_)
        clear hK K hHeld
        have hHeld := hHeld2
        clear hHeld2
        try simp only [Act.put, List.setIfInBounds_toArray, List.set_cons_zero, List.set_cons_succ]
        refine wpAnyH_ready (rs := [5]) (by kernel_rfl) (by simp) ?_
        refine AllReadyH.cons (o := { dst := some 17, op := Go.Op.call { callee := Go.Callee.value (Go.Operand.func 37), args := #[Go.Operand.const (Go.Value.string { data := #[3, 110, 101, 116, 0] }), Go.Operand.tmp 15, Go.Operand.tmp 16], argTypes := #[9, 71, 77] }, type := 81, pos := "law.go:48", after := #[{ on := 3, ground := Go.Ground.data }, { on := 4, ground := Go.Ground.data }, { on := 2, ground := Go.Ground.chain }], guard := none }) rfl (fun K hK => ?_) AllReadyH.nil
        go_simp
        refine (sort_any netC acoC 1 1 mS _ wx3 (HMA.out.below hHeld.out) small_mS (by decide) (by decide)).mono ?_; rintro e wx4 ⟨⟨v, rfl, hou⟩, hb⟩
        replace HX := Lib.hid (HX.out.below hb)
        replace CA := Lib.hid (CA.out.below hb)
        replace CB := Lib.hid (CB.out.below hb)
        replace HGL := Lib.hid (Nat.lt_of_lt_of_le HGL.out hb.size)
        rw [sort_net] at hou
        obtain ⟨ax, cy, rfl⟩ := out_net hou
        clear hou
        replace HQA := Lib.hid (show w5.heap.size ≤ qa ∧ qa < wx4.heap.size from ⟨HQA.out.1, Nat.lt_of_lt_of_le HQA.out.2 hb.size⟩)
        replace HQB := Lib.hid (show w5.heap.size ≤ qb ∧ qb < wx4.heap.size from ⟨HQB.out.1, Nat.lt_of_lt_of_le HQB.out.2 hb.size⟩)
        go_wp2_with fail
        refine hK.out _ _ (Lib.hid (hHeld.out.trans (hb.mono hHeld.out.size))) (fun hHeld2 => ?_)
        clear hK K hHeld
        have hHeld := hHeld2
        clear hHeld2
        try simp only [Act.put, List.setIfInBounds_toArray, List.set_cons_zero, List.set_cons_succ]
        refine wpAnyH_ready (rs := [8]) (by kernel_rfl) (by simp) ?_
        refine AllReadyH.cons (o := { dst := none, op := Go.Op.store 81 (Go.Operand.tmp 4) (Go.Operand.tmp 14), type := 0, pos := "law.go:48", after := #[{ on := 6, ground := Go.Ground.data }, { on := 2, ground := Go.Ground.data }, { on := 5, ground := Go.Ground.chain }, { on := 0, ground := Go.Ground.phase }, { on := 1, ground := Go.Ground.phase }, { on := 2, ground := Go.Ground.phase }, { on := 3, ground := Go.Ground.textOnly Go.Departure.lateStores }, { on := 4, ground := Go.Ground.textOnly Go.Departure.lateStores }, { on := 5, ground := Go.Ground.textOnly Go.Departure.lateStoresUnsure }, { on := 6, ground := Go.Ground.phase }, { on := 7, ground := Go.Ground.phase }], guard := none }) rfl (fun K hK => ?_) AllReadyH.nil
        obtain ⟨y0, y1, y2, y3, g0, g1, g2, g3⟩ := CA.out.o4
        have hgz := grown_p4 wx4 qa (.int .i64 1) (.int .i64 0) (.slice (some ⟨gx, 0, none⟩) 1 cx) (.string ⟨#[]⟩)
        have KZ := CA.out.p4 (.int .i64 1) (.int .i64 0) (.slice (some ⟨gx, 0, none⟩) 1 cx) (.string ⟨#[]⟩)
        have hbz := hHeld.out.grown hgz hHeld.out.size (fun k hk => by injection hk with hk; rw [← hk]; exact HQA.out.1)
        replace HX := Lib.hid (HX.out.set hgz HNA.out)
        have HO2 := Lib.hid (CB.out.grown hgz (fun e => HAB.out (Option.some.inj e).symm))
        clear hgz
        go_wp2_with fail
        clear y0 y1 y2 y3 g0 g1 g2 g3
        obtain ⟨wx5, hwe⟩ : ∃ x, ((((wx4.setCell ⟨qa, 0, none⟩ (.int .i64 1)).setCell ⟨qa, 1, none⟩ (.int .i64 0)).setCell ⟨qa, 2, none⟩ (.slice (some ⟨gx, 0, none⟩) 1 cx)).setCell ⟨qa, 3, none⟩ (.string ⟨#[]⟩)) = x := ⟨_, rfl⟩
        rw [hwe] at KZ hbz HX HO2 ⊢
        clear hwe
        replace CA := Lib.hid KZ
        replace CB := HO2
        have HBZ8 := Lib.hid hbz
        clear KZ hbz HO2
        refine hK.out _ _ (HBZ8) (fun hHeld2 => ?_)
        clear hK K hHeld
        have hHeld := hHeld2
        clear hHeld2
        try simp only [Act.put, List.setIfInBounds_toArray, List.set_cons_zero, List.set_cons_succ]
        refine wpAnyH_ready (rs := [9]) (by kernel_rfl) (by simp) ?_
        refine AllReadyH.cons (o := { dst := none, op := Go.Op.store 81 (Go.Operand.tmp 5) (Go.Operand.tmp 17), type := 0, pos := "law.go:48", after := #[{ on := 7, ground := Go.Ground.data }, { on := 5, ground := Go.Ground.data }, { on := 8, ground := Go.Ground.chain }, { on := 0, ground := Go.Ground.phase }, { on := 1, ground := Go.Ground.phase }, { on := 2, ground := Go.Ground.phase }, { on := 3, ground := Go.Ground.phase }, { on := 4, ground := Go.Ground.phase }, { on := 5, ground := Go.Ground.phase }, { on := 6, ground := Go.Ground.phase }, { on := 7, ground := Go.Ground.phase }, { on := 8, ground := Go.Ground.phase }], guard := none }) rfl (fun K hK => ?_) AllReadyH.nil
        obtain ⟨y0, y1, y2, y3, g0, g1, g2, g3⟩ := CB.out.o4
        have hgz := grown_p4 wx5 qb (.int .i64 5) (.int .i64 0) (.slice ax 0 cy) (.string ⟨#[]⟩)
        have KZ := CB.out.p4 (.int .i64 5) (.int .i64 0) (.slice ax 0 cy) (.string ⟨#[]⟩)
        have hbz := hHeld.out.grown hgz hHeld.out.size (fun k hk => by injection hk with hk; rw [← hk]; exact HQB.out.1)
        replace HX := Lib.hid (HX.out.set hgz HNB.out)
        have HO2 := Lib.hid (CA.out.grown hgz (fun e => HAB.out (Option.some.inj e)))
        clear hgz
        go_wp2_with fail
        clear y0 y1 y2 y3 g0 g1 g2 g3
        obtain ⟨wx6, hwe⟩ : ∃ x, ((((wx5.setCell ⟨qb, 0, none⟩ (.int .i64 5)).setCell ⟨qb, 1, none⟩ (.int .i64 0)).setCell ⟨qb, 2, none⟩ (.slice ax 0 cy)).setCell ⟨qb, 3, none⟩ (.string ⟨#[]⟩)) = x := ⟨_, rfl⟩
        rw [hwe] at KZ hbz HX HO2 ⊢
        clear hwe
        replace CB := Lib.hid KZ
        replace CA := HO2
        have HBZ9 := Lib.hid hbz
        clear KZ hbz HO2
        refine hK.out _ _ (HBZ9) (fun hHeld2 => ?_)
        clear hK K hHeld
        have hHeld := hHeld2
        clear hHeld2
        try simp only [Act.put, List.setIfInBounds_toArray, List.set_cons_zero, List.set_cons_succ]
        refine wpAnyH_done (by kernel_rfl) ?_ _
        have HBE := Lib.hid (HB.out.trans (hHeld.out.mono HB.out.size))
        clear hHeld
        obtain ⟨y0, y1, y2, y3, _⟩ := CA.out.o4
        obtain ⟨z0, z1, z2, z3, _⟩ := CB.out.o4
        obtain ⟨x0, x1, x2, x5⟩ := HX.out
        have HIK := Lib.hid (isK ⟨acoC, 1, 1⟩ _ 1 1 [1] _ (row_litC1 wx6 1 3) (by decide))
        have hba := (Below.refl _ _ : Below wx6.heap.size wx6 wx6).alloc (Nat.le_refl _) (.cells #[.int .i64 1] 3)
        have HBF := Lib.hid (HBE.out.trans (hba.mono HBE.out.size))
        replace CB := Lib.hid (CB.out.below hba)
        rw [show decide ((⟨acoC, 1, 1⟩ : Ky).t ∈ [(1 : Int)]) = true from rfl] at HIK
        clear hba
        go_wp2_with fail
        refine HIK.out.mono ?_; rintro e wf ⟨rfl, hb⟩
        clear HIK y0 y1 y2 y3 z0 z1 z2 z3 x0 x1 x2 x5
        obtain ⟨z0, z1, z2, z3, _⟩ := (CB.out.below hb).o4
        have HBG := Lib.hid (HBF.out.trans (hb.mono HBF.out.size))
        clear hb
        go_wp2
        go_ret
        exact ⟨rfl, HBG.out⟩
    · go_simp
      have hb := (Below.refl _ _ : Below wx1.heap.size wx1 wx1).alloc (Nat.le_refl _) (.cells #[.int .i64 0, .int .i64 0, .slice none 0 0, .string ⟨#[]⟩] 81)
      have hn := CN.new wx1 #[.int .i64 0, .int .i64 0, .slice none 0 0, .string ⟨#[]⟩] 81
      replace CB := Lib.hid (CB.out.below hb)
      have hsz := hHeld.out.size
      obtain ⟨wx2, hwe⟩ : ∃ x, wx1.alloc (.cells #[.int .i64 0, .int .i64 0, .slice none 0 0, .string ⟨#[]⟩] 81) = x := ⟨_, rfl⟩
      obtain ⟨qa, hge⟩ : ∃ x, wx1.heap.size = x := ⟨_, rfl⟩
      rw [hwe] at hb hn CB ⊢
      rw [hge] at hn hsz ⊢
      have CA := Lib.hid hn
      have HQA := Lib.hid (show w5.heap.size ≤ qa ∧ qa < wx2.heap.size from ⟨hsz, hn.1⟩)
      have HAB := Lib.hid (show qa ≠ qb by have h := HQB.out; have h2 := hge; omega)
      replace HQB := Lib.hid (show w5.heap.size ≤ qb ∧ qb < wx2.heap.size from ⟨HQB.out.1, Nat.lt_of_lt_of_le HQB.out.2 hb.size⟩)
      clear hn hwe hge hsz
      refine hK.out _ _ (Lib.hid (hHeld.out.trans (hb.mono hHeld.out.size))) (fun hHeld2 => ?_)
      clear hK K hHeld
      have hHeld := hHeld2
      clear hHeld2
      try simp only [Act.put, List.setIfInBounds_toArray, List.set_cons_zero, List.set_cons_succ]
      refine wpAnyH_ready (rs := [2]) (by kernel_rfl) (by simp) ?_
      refine AllReadyH.cons (o := { dst := some 14, op := Go.Op.call { callee := Go.Callee.value (Go.Operand.func 37), args := #[Go.Operand.const (Go.Value.string { data := #[3, 99, 111, 109, 0] }), Go.Operand.tmp 12, Go.Operand.tmp 13], argTypes := #[9, 71, 77] }, type := 81, pos := "law.go:48", after := #[{ on := 0, ground := Go.Ground.data }, { on := 1, ground := Go.Ground.data }], guard := none }) rfl (fun K hK => ?_) AllReadyH.nil
      go_simp
      refine (sort_any comC acoC 1 1 mS _ wx2 (HMA.out.below hHeld.out) small_mS (by decide) (by decide)).mono ?_; rintro e wx3 ⟨⟨v, rfl, hou⟩, hb⟩
      replace CA := Lib.hid (CA.out.below hb)
      replace CB := Lib.hid (CB.out.below hb)
      rw [sort_com] at hou
      obtain ⟨gx, cx, rfl, hgB, hgl, hx⟩ := out_com hou
      have HX := Lib.hid hx
      have HNA := Lib.hid (show gx ≠ qa by have h := HQA.out; omega)
      have HNB := Lib.hid (show gx ≠ qb by have h := HQB.out; omega)
      replace HQA := Lib.hid (show w5.heap.size ≤ qa ∧ qa < wx3.heap.size from ⟨HQA.out.1, Nat.lt_of_lt_of_le HQA.out.2 hb.size⟩)
      replace HQB := Lib.hid (show w5.heap.size ≤ qb ∧ qb < wx3.heap.size from ⟨HQB.out.1, Nat.lt_of_lt_of_le HQB.out.2 hb.size⟩)
      have HGL := Lib.hid hgl
      clear hou hx hgB hgl
      go_wp2_with fail
      refine hK.out _ _ (Lib.hid (hHeld.out.trans (hb.mono hHeld.out.size))) (fun hHeld2 => ?_)
      clear hK K hHeld
      have hHeld := hHeld2
      clear hHeld2
      try simp only [Act.put, List.setIfInBounds_toArray, List.set_cons_zero, List.set_cons_succ]
      refine wpAnyH_ready (rs := [5]) (by kernel_rfl) (by simp) ?_
      refine AllReadyH.cons (o := { dst := some 17, op := Go.Op.call { callee := Go.Callee.value (Go.Operand.func 37), args := #[Go.Operand.const (Go.Value.string { data := #[3, 110, 101, 116, 0] }), Go.Operand.tmp 15, Go.Operand.tmp 16], argTypes := #[9, 71, 77] }, type := 81, pos := "law.go:48", after := #[{ on := 3, ground := Go.Ground.data }, { on := 4, ground := Go.Ground.data }, { on := 2, ground := Go.Ground.chain }], guard := none }) rfl (fun K hK => ?_) AllReadyH.nil
      go_simp
      refine (sort_any netC acoC 1 1 mS _ wx3 (HMA.out.below hHeld.out) small_mS (by decide) (by decide)).mono ?_; rintro e wx4 ⟨⟨v, rfl, hou⟩, hb⟩
      replace HX := Lib.hid (HX.out.below hb)
      replace CA := Lib.hid (CA.out.below hb)
      replace CB := Lib.hid (CB.out.below hb)
      replace HGL := Lib.hid (Nat.lt_of_lt_of_le HGL.out hb.size)
      rw [sort_net] at hou
      obtain ⟨ax, cy, rfl⟩ := out_net hou
      clear hou
      replace HQA := Lib.hid (show w5.heap.size ≤ qa ∧ qa < wx4.heap.size from ⟨HQA.out.1, Nat.lt_of_lt_of_le HQA.out.2 hb.size⟩)
      replace HQB := Lib.hid (show w5.heap.size ≤ qb ∧ qb < wx4.heap.size from ⟨HQB.out.1, Nat.lt_of_lt_of_le HQB.out.2 hb.size⟩)
      go_wp2_with fail
      refine hK.out _ _ (Lib.hid (hHeld.out.trans (hb.mono hHeld.out.size))) (fun hHeld2 => ?_)
      clear hK K hHeld
      have hHeld := hHeld2
      clear hHeld2
      try simp only [Act.put, List.setIfInBounds_toArray, List.set_cons_zero, List.set_cons_succ]
      refine wpAnyH_ready (rs := [8]) (by kernel_rfl) (by simp) ?_
      refine AllReadyH.cons (o := { dst := none, op := Go.Op.store 81 (Go.Operand.tmp 4) (Go.Operand.tmp 14), type := 0, pos := "law.go:48", after := #[{ on := 6, ground := Go.Ground.data }, { on := 2, ground := Go.Ground.data }, { on := 5, ground := Go.Ground.chain }, { on := 0, ground := Go.Ground.phase }, { on := 1, ground := Go.Ground.phase }, { on := 2, ground := Go.Ground.phase }, { on := 3, ground := Go.Ground.textOnly Go.Departure.lateStores }, { on := 4, ground := Go.Ground.textOnly Go.Departure.lateStores }, { on := 5, ground := Go.Ground.textOnly Go.Departure.lateStoresUnsure }, { on := 6, ground := Go.Ground.phase }, { on := 7, ground := Go.Ground.phase }], guard := none }) rfl (fun K hK => ?_) AllReadyH.nil
      obtain ⟨y0, y1, y2, y3, g0, g1, g2, g3⟩ := CA.out.o4
      have hgz := grown_p4 wx4 qa (.int .i64 1) (.int .i64 0) (.slice (some ⟨gx, 0, none⟩) 1 cx) (.string ⟨#[]⟩)
      have KZ := CA.out.p4 (.int .i64 1) (.int .i64 0) (.slice (some ⟨gx, 0, none⟩) 1 cx) (.string ⟨#[]⟩)
      have hbz := hHeld.out.grown hgz hHeld.out.size (fun k hk => by injection hk with hk; rw [← hk]; exact HQA.out.1)
      replace HX := Lib.hid (HX.out.set hgz HNA.out)
      have HO2 := Lib.hid (CB.out.grown hgz (fun e => HAB.out (Option.some.inj e).symm))
      clear hgz
      go_wp2_with fail
      clear y0 y1 y2 y3 g0 g1 g2 g3
      obtain ⟨wx5, hwe⟩ : ∃ x, ((((wx4.setCell ⟨qa, 0, none⟩ (.int .i64 1)).setCell ⟨qa, 1, none⟩ (.int .i64 0)).setCell ⟨qa, 2, none⟩ (.slice (some ⟨gx, 0, none⟩) 1 cx)).setCell ⟨qa, 3, none⟩ (.string ⟨#[]⟩)) = x := ⟨_, rfl⟩
      rw [hwe] at KZ hbz HX HO2 ⊢
      clear hwe
      replace CA := Lib.hid KZ
      replace CB := HO2
      have HBZ8 := Lib.hid hbz
      clear KZ hbz HO2
      refine hK.out _ _ (HBZ8) (fun hHeld2 => ?_)
      clear hK K hHeld
      have hHeld := hHeld2
      clear hHeld2
      try simp only [Act.put, List.setIfInBounds_toArray, List.set_cons_zero, List.set_cons_succ]
      refine wpAnyH_ready (rs := [9]) (by kernel_rfl) (by simp) ?_
      refine AllReadyH.cons (o := { dst := none, op := Go.Op.store 81 (Go.Operand.tmp 5) (Go.Operand.tmp 17), type := 0, pos := "law.go:48", after := #[{ on := 7, ground := Go.Ground.data }, { on := 5, ground := Go.Ground.data }, { on := 8, ground := Go.Ground.chain }, { on := 0, ground := Go.Ground.phase }, { on := 1, ground := Go.Ground.phase }, { on := 2, ground := Go.Ground.phase }, { on := 3, ground := Go.Ground.phase }, { on := 4, ground := Go.Ground.phase }, { on := 5, ground := Go.Ground.phase }, { on := 6, ground := Go.Ground.phase }, { on := 7, ground := Go.Ground.phase }, { on := 8, ground := Go.Ground.phase }], guard := none }) rfl (fun K hK => ?_) AllReadyH.nil
      obtain ⟨y0, y1, y2, y3, g0, g1, g2, g3⟩ := CB.out.o4
      have hgz := grown_p4 wx5 qb (.int .i64 5) (.int .i64 0) (.slice ax 0 cy) (.string ⟨#[]⟩)
      have KZ := CB.out.p4 (.int .i64 5) (.int .i64 0) (.slice ax 0 cy) (.string ⟨#[]⟩)
      have hbz := hHeld.out.grown hgz hHeld.out.size (fun k hk => by injection hk with hk; rw [← hk]; exact HQB.out.1)
      replace HX := Lib.hid (HX.out.set hgz HNB.out)
      have HO2 := Lib.hid (CA.out.grown hgz (fun e => HAB.out (Option.some.inj e)))
      clear hgz
      go_wp2_with fail
      clear y0 y1 y2 y3 g0 g1 g2 g3
      obtain ⟨wx6, hwe⟩ : ∃ x, ((((wx5.setCell ⟨qb, 0, none⟩ (.int .i64 5)).setCell ⟨qb, 1, none⟩ (.int .i64 0)).setCell ⟨qb, 2, none⟩ (.slice ax 0 cy)).setCell ⟨qb, 3, none⟩ (.string ⟨#[]⟩)) = x := ⟨_, rfl⟩
      rw [hwe] at KZ hbz HX HO2 ⊢
      clear hwe
      replace CB := Lib.hid KZ
      replace CA := HO2
      have HBZ9 := Lib.hid hbz
      clear KZ hbz HO2
      refine hK.out _ _ (HBZ9) (fun hHeld2 => ?_)
      clear hK K hHeld
      have hHeld := hHeld2
      clear hHeld2
      try simp only [Act.put, List.setIfInBounds_toArray, List.set_cons_zero, List.set_cons_succ]
      refine wpAnyH_done (by kernel_rfl) ?_ _
      have HBE := Lib.hid (HB.out.trans (hHeld.out.mono HB.out.size))
      clear hHeld
      obtain ⟨y0, y1, y2, y3, _⟩ := CA.out.o4
      obtain ⟨z0, z1, z2, z3, _⟩ := CB.out.o4
      obtain ⟨x0, x1, x2, x5⟩ := HX.out
      have HIK := Lib.hid (isK ⟨acoC, 1, 1⟩ _ 1 1 [1] _ (row_litC1 wx6 1 3) (by decide))
      have hba := (Below.refl _ _ : Below wx6.heap.size wx6 wx6).alloc (Nat.le_refl _) (.cells #[.int .i64 1] 3)
      have HBF := Lib.hid (HBE.out.trans (hba.mono HBE.out.size))
      replace CB := Lib.hid (CB.out.below hba)
      rw [show decide ((⟨acoC, 1, 1⟩ : Ky).t ∈ [(1 : Int)]) = true from rfl] at HIK
      clear hba
      go_wp2_with fail
      refine HIK.out.mono ?_; rintro e wf ⟨rfl, hb⟩
      clear HIK y0 y1 y2 y3 z0 z1 z2 z3 x0 x1 x2 x5
      obtain ⟨z0, z1, z2, z3, _⟩ := (CB.out.below hb).o4
      have HBG := Lib.hid (HBF.out.trans (hb.mono HBF.out.size))
      clear hb
      go_wp2
      go_ret
      exact ⟨rfl, HBG.out⟩
end Go.Proofs.Ythfnphcefkdgbaa
