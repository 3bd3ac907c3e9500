/- md.soaOf. -/
import Derived.Test.YtmhiglhgkgannaaMgA
import Derived.Test.YtmhiglhgkgannaaMdE
import Derived.Test.YtmhiglhgkgannaaStB
import Derived.Test.YtmhiglhgkgannaaMgC
namespace Go.Proofs.Ytmhiglhgkgannaa
open Go.RowKit

theorem soaV_ex (d : ByteArray) : ∃ s0 s1 i2 i3 i4 i5 i6, getSoaV d = .tuple #[.agg #[.string s0, .string s1, .int .i64 i2, .int .i64 i3, .int .i64 i4, .int .i64 i5, .int .i64 i6], .bool (soaOk d)] ∧ (soaOk d = true → i2 = getN (soaT d) 0 4) := by
  unfold getSoaV
  cases soaOk d
  · exact ⟨_, _, _, _, _, _, _, rfl, fun h => by cases h⟩
  · exact ⟨_, _, _, _, _, _, _, rfl, fun _ => rfl⟩
/-- What soaOf answers. -/
def SoaR (apex : ByteArray) (l : List R5) (w : World) (e : Ending) (w' : World) : Prop :=
  (∃ o, OnceP mcmp (isSoa apex) l o ∧ ((o.length ≠ 1 ∧ e = .returned (.tuple #[.agg #[.string ⟨#[]⟩, .int .i64 0, .int .i64 0, .int .i64 0, .string ⟨#[]⟩], .agg #[.string ⟨#[]⟩, .string ⟨#[]⟩, .int .i64 0, .int .i64 0, .int .i64 0, .int .i64 0, .int .i64 0], .bool false])) ∨
    ∃ xn xt xc xu xd s0 s1 i2 i3 i4 i5 i6, o = [⟨⟨xn, xt, xc⟩, xu, xd⟩] ∧ (soaOk xd = true → i2 = getN (soaT xd) 0 4) ∧ e = .returned (.tuple #[.agg #[.string xn, .int .i64 xt, .int .i64 xc, .int .i64 xu, .string xd], .agg #[.string s0, .string s1, .int .i64 i2, .int .i64 i3, .int .i64 i4, .int .i64 i5, .int .i64 i6], .bool (soaOk xd)]))) ∧ Below w.heap.size w w'
theorem own_CN {w : World} {B g n c : Nat} {x : R5} (h : w.ownsRow B 30 5 (.slice (some ⟨g, 0, none⟩) n c) n (flatR [x])) : CN w g (encR x) := by
  have hl := (h.lt g rfl).2
  refine ⟨hl, fun j u hj => ⟨ownsRow_at h j u (by simpa [flatR] using hj), h.frozenAt j⟩⟩

set_option maxRecDepth 100000 in
set_option maxHeartbeats 16000000 in
theorem soaOf_any (apex : ByteArray) (a : Option Addr) (n c : Nat) (l : List R5) (w : World) (h : RowR w a n l) (hn : n ≤ 1000) (hs : ∀ r ∈ l, SmX r) :
    Calls Try.prog 23 #[.string apex, .slice a n c] w fun e w' => SoaR apex l w e w' := by
  have HLN := Lib.hid h.1
  have HS := Lib.hid hs
  have HB := Lib.hid (Below.refl w.heap.size w)
  have HR := Lib.hid h
  clear h hs
  go_enter Try.func23, Try.ntmps23
  have hba := (Below.refl w.heap.size w).alloc (Nat.le_refl _) (.cells #[.string apex] 9)
  have HQ := Lib.hid (CN.new w #[.string apex] 9)
  replace HB := Lib.hid (HB.out.trans (hba.mono HB.out.size))
  replace HR := Lib.hid (HR.out.below hba)
  obtain ⟨w1, hw1⟩ : ∃ x, w.alloc (.cells #[.string apex] 9) = x := ⟨_, rfl⟩
  obtain ⟨q, hq⟩ : ∃ x, w.heap.size = x := ⟨_, rfl⟩
  rw [hw1] at HQ HB HR
  rw [hq] at HQ
  have hz1 : w1.heap.size = q + 1 := by rw [← hw1, World.size_alloc, hq]
  clear hba
  have hba := (Below.refl w1.heap.size w1).alloc (Nat.le_refl _) (.cells #[.string ⟨#[]⟩, .int .i64 0, .int .i64 0, .int .i64 0, .string ⟨#[]⟩] 30)
  have HZ4 := Lib.hid (CN.new w1 #[.string ⟨#[]⟩, .int .i64 0, .int .i64 0, .int .i64 0, .string ⟨#[]⟩] 30)
  replace HB := Lib.hid (HB.out.trans (hba.mono HB.out.size))
  replace HR := Lib.hid (HR.out.below hba)
  replace HQ := Lib.hid (HQ.out.below hba)
  obtain ⟨w2, hw2⟩ : ∃ x, w1.alloc (.cells #[.string ⟨#[]⟩, .int .i64 0, .int .i64 0, .int .i64 0, .string ⟨#[]⟩] 30) = x := ⟨_, rfl⟩
  obtain ⟨q4, hq4⟩ : ∃ x, q + 1 = x := ⟨_, rfl⟩
  rw [hw2] at HQ HB HR HZ4
  rw [hz1, hq4] at HZ4
  have hz2 : w2.heap.size = q + 2 := by rw [← hw2, World.size_alloc, hz1]
  clear hba
  have hba := (Below.refl w2.heap.size w2).alloc (Nat.le_refl _) (.cells #[.string ⟨#[]⟩, .string ⟨#[]⟩, .int .i64 0, .int .i64 0, .int .i64 0, .int .i64 0, .int .i64 0] 50)
  have HZ5 := Lib.hid (CN.new w2 #[.string ⟨#[]⟩, .string ⟨#[]⟩, .int .i64 0, .int .i64 0, .int .i64 0, .int .i64 0, .int .i64 0] 50)
  replace HB := Lib.hid (HB.out.trans (hba.mono HB.out.size))
  replace HR := Lib.hid (HR.out.below hba)
  replace HQ := Lib.hid (HQ.out.below hba)
  replace HZ4 := Lib.hid (HZ4.out.below hba)
  obtain ⟨w3, hw3⟩ : ∃ x, w2.alloc (.cells #[.string ⟨#[]⟩, .string ⟨#[]⟩, .int .i64 0, .int .i64 0, .int .i64 0, .int .i64 0, .int .i64 0] 50) = x := ⟨_, rfl⟩
  obtain ⟨q5, hq5⟩ : ∃ x, q + 2 = x := ⟨_, rfl⟩
  rw [hw3] at HQ HB HR HZ4 HZ5
  rw [hz2, hq5] at HZ5
  have HNE := Lib.hid (show w.heap.size ≤ q4 ∧ w.heap.size ≤ q5 ∧ q4 ≠ q5 by omega)
  have HW := Lib.hid (And.intro hw1 (And.intro hw2 hw3))
  have HQE := Lib.hid (And.intro hq (And.intro hq4 (show q4 + 1 = q5 by omega)))
  clear hba hz1 hz2 hw1 hw2 hw3 hq hq4 hq5
  go_upto_region 1 with (fail)
  rw [HW.out.1, HW.out.2.1, HW.out.2.2]
  rw [HQE.out.1]
  rw [HQE.out.2.1, HQE.out.2.2]
  clear HW HQE
  go_wp2_with fail
  have HZ4a := Lib.hid (show q4 < w3.heap.size from HZ4.out.1)
  have HZ5a := Lib.hid (show q5 < w3.heap.size from HZ5.out.1)
  refine (once_soa apex q a n c l _ HR.out (by omega) HS.out HQ.out).mono ?_
  rintro e w4 ⟨va, vc, o, m, rfl, hom, hml, hon, ho, hb⟩
  replace HB := Lib.hid (HB.out.trans (hb.mono HB.out.size))
  replace HZ4 := Lib.hid (HZ4.out.below hb)
  replace HZ5 := Lib.hid (HZ5.out.below hb)
  have HO := Lib.hid ho
  have HON := Lib.hid hon
  have HOM := Lib.hid hom
  have HGW := Lib.hid (show q4 < w3.heap.size ∧ q5 < w3.heap.size from ⟨HZ4a.out, HZ5a.out⟩)
  have HSX := Lib.hid (show ∀ r ∈ o, SmX r from fun r hr => HS.out r ((hon.mem r).1 hr).1)
  clear hb ho hon hom hml HQ HR
  by_cases hm : m = 1
  · have e1 := nF (a := (m : Int)) (b := 1) (by omega)
    obtain ⟨⟨⟨xn, xt, xc⟩, xu, xd⟩, hox⟩ : ∃ x, o = [x] := List.length_eq_one_iff.1 (by rw [HOM.out]; exact hm)
    subst hox hm
    obtain ⟨g, rfl⟩ : ∃ g, va = some ⟨g, 0, none⟩ := by
      rcases shape_ownM HO.out with ⟨_, h0, _⟩ | ⟨g, c9, h9⟩
      · cases h0
      · injection h9 with h1; exact ⟨g, h1⟩
    have HGG := Lib.hid (show w3.heap.size ≤ g from (HO.out.lt g rfl).1)
    have HC := Lib.hid (own_CN HO.out)
    obtain ⟨s0, s1, i2, i3, i4, i5, i6, hgs, hser⟩ := soaV_ex xd
    have HGS := Lib.hid hgs
    have HSER := Lib.hid hser
    have hxd := (HSX.out _ (List.mem_singleton.2 rfl)).2
    obtain ⟨bo, hbo⟩ : ∃ x, soaOk xd = x := ⟨_, rfl⟩
    rw [hbo] at HGS
    have HBO := Lib.hid hbo
    have i1' : (0 : Int) < ((1 : Nat) : Int) := by omega
    clear hgs hser HO HSX HOM hbo
    have c4 : w4.cell? ⟨g, 4, none⟩ = some (.string xd) := (HC.out.2 4 _ rfl).1
    go_wp2_with fail
    refine (getSoa_any xd _ hxd).mono ?_; rintro e w5 ⟨rfl, hb⟩
    replace HB := Lib.hid (HB.out.trans (hb.mono HB.out.size))
    replace HZ4 := Lib.hid (HZ4.out.below hb)
    replace HZ5 := Lib.hid (HZ5.out.below hb)
    have HGL := Lib.hid (show g < w5.heap.size from Nat.lt_of_lt_of_le HC.out.1 hb.size)
    replace HC := Lib.hid (HC.out.below hb)
    rw [HGS.out]
    clear hb c4 HGS
    have hba := (Below.refl w5.heap.size w5).alloc (Nat.le_refl _) (.cells #[.string s0, .string s1, .int .i64 i2, .int .i64 i3, .int .i64 i4, .int .i64 i5, .int .i64 i6] 50)
    have HC8 := Lib.hid (CN.new w5 #[.string s0, .string s1, .int .i64 i2, .int .i64 i3, .int .i64 i4, .int .i64 i5, .int .i64 i6] 50)
    have HQ8 := Lib.hid (show q4 ≠ w5.heap.size ∧ q5 ≠ w5.heap.size from ⟨Nat.ne_of_lt HZ4.out.1, Nat.ne_of_lt HZ5.out.1⟩)
    replace HB := Lib.hid (HB.out.trans (hba.mono HB.out.size))
    replace HZ4 := Lib.hid (HZ4.out.below hba)
    replace HZ5 := Lib.hid (HZ5.out.below hba)
    replace HC := Lib.hid (HC.out.below hba)
    obtain ⟨w6, hw6⟩ : ∃ x, w5.alloc (.cells #[.string s0, .string s1, .int .i64 i2, .int .i64 i3, .int .i64 i4, .int .i64 i5, .int .i64 i6] 50) = x := ⟨_, rfl⟩
    obtain ⟨q8, hq8⟩ : ∃ x, w5.heap.size = x := ⟨_, rfl⟩
    rw [hw6] at HB HZ4 HZ5 HC HC8
    rw [hq8] at HC8 HQ8
    have HW := Lib.hid hw6
    have HQE := Lib.hid hq8
    have HGN := Lib.hid (show q4 ≠ g ∧ q5 ≠ g from ⟨by have h1 := HGW.out; have h2 := HGG.out; omega, by have h1 := HGW.out; have h2 := HGG.out; omega⟩)
    clear hba hw6 hq8 hxd
    go_upto_region 5 with (fail)
    rw [HW.out, HQE.out]
    clear HW HQE
    replace HB := Lib.hid (HB.out.trans ((Below.refl w6.heap.size w6).drew.mono HB.out.size))
    replace HZ4 := Lib.hid (HZ4.out.below (Below.refl w6.heap.size w6).drew)
    replace HZ5 := Lib.hid (HZ5.out.below (Below.refl w6.heap.size w6).drew)
    replace HC := Lib.hid (HC.out.below (Below.refl w6.heap.size w6).drew)
    replace HC8 := Lib.hid (HC8.out.below (Below.refl w6.heap.size w6).drew)
    refine wp_region_held_drew (S := (fun wx => Hid (Below w.heap.size w wx ∧ CN wx g [.string xn, .int .i64 xt, .int .i64 xc, .int .i64 xu, .string xd] ∧ CN wx q8 [.string s0, .string s1, .int .i64 i2, .int .i64 i3, .int .i64 i4, .int .i64 i5, .int .i64 i6]))) (by kernel_rfl) (Lib.hid ⟨HB.out, HC.out, HC8.out⟩) (fun hHeld => ?_)
    refine Plan.of [0, 1, 2, 3, 4] ?_
    iterate 5 (refine Plan.w (v := ?_) rfl hHeld (by rfl) ?_ ?_; rotate_left; (focus (intro w hSw; (try dsimp only at hSw); obtain ⟨_, hg5, hg8⟩ := hSw.out; have g0 := (hg5.2 0 _ rfl).1; have g1 := (hg5.2 1 _ rfl).1; have g2 := (hg5.2 2 _ rfl).1; have g3 := (hg5.2 3 _ rfl).1; have g4 := (hg5.2 4 _ rfl).1; have k0 := (hg8.2 0 _ rfl).1; have k1 := (hg8.2 1 _ rfl).1; have k2 := (hg8.2 2 _ rfl).1; have k3 := (hg8.2 3 _ rfl).1; have k4 := (hg8.2 4 _ rfl).1; have k5 := (hg8.2 5 _ rfl).1; have k6 := (hg8.2 6 _ rfl).1; go_simp; try with_reducible rfl)); try simp only [Act.put, List.setIfInBounds_toArray, List.set_cons_zero, List.set_cons_succ])
    refine Plan.fin ?_
    refine wpAnyH_ready (rs := [5]) (by kernel_rfl) (by simp) ?_
    refine AllReadyH.cons (o := { dst := none, op := Go.Op.store 30 (Go.Operand.tmp 4) (Go.Operand.tmp 28), type := 0, pos := "md.go:83", after := #[{ on := 2, ground := Go.Ground.data }, { on := 0, ground := Go.Ground.phase }, { on := 1, ground := Go.Ground.phase }, { on := 2, ground := Go.Ground.phase }, { on := 3, ground := Go.Ground.textOnly Go.Departure.lateStores }, { on := 4, ground := Go.Ground.textOnly Go.Departure.lateStores }], guard := none }) rfl (fun K hK => ?_) AllReadyH.nil
    refine step_store_box rfl 30 (.tmp 4) (.tmp 28) rfl [.string xn, .int .i64 xt, .int .i64 xc, .int .i64 xu, .string xd] rfl rfl HZ4.out rfl (by kernel_rfl) (by rfl) ?_
    intro wx5 hcn hgz
    have HS5 := Lib.hid (show Below w.heap.size w wx5 ∧ CN wx5 g [.string xn, .int .i64 xt, .int .i64 xc, .int .i64 xu, .string xd] ∧ CN wx5 q8 [.string s0, .string s1, .int .i64 i2, .int .i64 i3, .int .i64 i4, .int .i64 i5, .int .i64 i6] from ⟨hHeld.out.1.grown hgz hHeld.out.1.size (fun k hk => by injection hk with hk; rw [← hk]; exact HNE.out.1), hHeld.out.2.1.grown hgz (fun e => HGN.out.1 (Option.some.inj e).symm), hHeld.out.2.2.grown hgz (fun e => HQ8.out.1 (Option.some.inj e).symm)⟩)
    have HZ5b := Lib.hid (HZ5.out.grown hgz (fun e => HNE.out.2.2 (Option.some.inj e).symm))
    have HX4 := Lib.hid hcn
    clear hcn hgz HZ4 HZ5
    simp only [Act.put]
    refine hK.out _ _ (HS5) (fun hHeld2 => ?_)
    clear hK K hHeld
    have hHeld := hHeld2
    clear hHeld2
    try simp only [Act.put, List.setIfInBounds_toArray, List.set_cons_zero, List.set_cons_succ]
    refine wpAnyH_ready (rs := [6]) (by kernel_rfl) (by simp) ?_
    refine AllReadyH.cons (o := { dst := none, op := Go.Op.store 50 (Go.Operand.tmp 5) (Go.Operand.tmp 29), type := 0, pos := "md.go:83", after := #[{ on := 3, ground := Go.Ground.data }, { on := 5, ground := Go.Ground.chain }, { on := 0, ground := Go.Ground.phase }, { on := 1, ground := Go.Ground.phase }, { on := 2, ground := Go.Ground.phase }, { on := 3, ground := Go.Ground.phase }, { on := 4, ground := Go.Ground.textOnly Go.Departure.lateStores }, { on := 5, ground := Go.Ground.phase }], guard := none }) rfl (fun K hK => ?_) AllReadyH.nil
    refine step_store_box rfl 50 (.tmp 5) (.tmp 29) rfl [.string s0, .string s1, .int .i64 i2, .int .i64 i3, .int .i64 i4, .int .i64 i5, .int .i64 i6] rfl rfl HZ5b.out rfl (by kernel_rfl) (by rfl) ?_
    intro wx6 hcn hgz
    have HS6 := Lib.hid (show Below w.heap.size w wx6 ∧ CN wx6 g [.string xn, .int .i64 xt, .int .i64 xc, .int .i64 xu, .string xd] ∧ CN wx6 q8 [.string s0, .string s1, .int .i64 i2, .int .i64 i3, .int .i64 i4, .int .i64 i5, .int .i64 i6] from ⟨hHeld.out.1.grown hgz hHeld.out.1.size (fun k hk => by injection hk with hk; rw [← hk]; exact HNE.out.2.1), hHeld.out.2.1.grown hgz (fun e => HGN.out.2 (Option.some.inj e).symm), hHeld.out.2.2.grown hgz (fun e => HQ8.out.2 (Option.some.inj e).symm)⟩)
    have HX4b := Lib.hid (HX4.out.grown hgz (fun e => HNE.out.2.2 (Option.some.inj e)))
    have HX5 := Lib.hid hcn
    clear hcn hgz HZ5b HX4 HS5
    simp only [Act.put]
    refine hK.out _ _ (HS6) (fun hHeld2 => ?_)
    clear hK K hHeld
    have hHeld := hHeld2
    clear hHeld2
    try simp only [Act.put, List.setIfInBounds_toArray, List.set_cons_zero, List.set_cons_succ]
    refine Plan.of [7] ?_
    refine Plan.w (v := ?_) rfl hHeld (by rfl) ?_ ?_; rotate_left; (focus (intro w hSw; (try dsimp only at hSw); obtain ⟨_, hg5, hg8⟩ := hSw.out; have g0 := (hg5.2 0 _ rfl).1; have g1 := (hg5.2 1 _ rfl).1; have g2 := (hg5.2 2 _ rfl).1; have g3 := (hg5.2 3 _ rfl).1; have g4 := (hg5.2 4 _ rfl).1; have k0 := (hg8.2 0 _ rfl).1; have k1 := (hg8.2 1 _ rfl).1; have k2 := (hg8.2 2 _ rfl).1; have k3 := (hg8.2 3 _ rfl).1; have k4 := (hg8.2 4 _ rfl).1; have k5 := (hg8.2 5 _ rfl).1; have k6 := (hg8.2 6 _ rfl).1; go_simp; try with_reducible rfl)); try simp only [Act.put, List.setIfInBounds_toArray, List.set_cons_zero, List.set_cons_succ]
    refine Plan.fin ?_
    refine wpAnyH_done (by kernel_rfl) ?_ _
    clear hHeld
    have z0 := (HX4b.out.2 0 _ rfl).1
    have z1 := (HX4b.out.2 1 _ rfl).1
    have z2 := (HX4b.out.2 2 _ rfl).1
    have z3 := (HX4b.out.2 3 _ rfl).1
    have z4 := (HX4b.out.2 4 _ rfl).1
    have y0 := (HX5.out.2 0 _ rfl).1
    have y1 := (HX5.out.2 1 _ rfl).1
    have y2 := (HX5.out.2 2 _ rfl).1
    have y3 := (HX5.out.2 3 _ rfl).1
    have y4 := (HX5.out.2 4 _ rfl).1
    have y5 := (HX5.out.2 5 _ rfl).1
    have y6 := (HX5.out.2 6 _ rfl).1
    have HP := Lib.hid (show SoaR apex l w (.returned (.tuple #[.agg #[.string xn, .int .i64 xt, .int .i64 xc, .int .i64 xu, .string xd], .agg #[.string s0, .string s1, .int .i64 i2, .int .i64 i3, .int .i64 i4, .int .i64 i5, .int .i64 i6], .bool bo])) wx6 from ⟨⟨_, HON.out, Or.inr ⟨xn, xt, xc, xu, xd, s0, s1, i2, i3, i4, i5, i6, rfl, HSER.out, by rw [HBO.out]⟩⟩, HS6.out.1⟩)
    go_wp2
    refine bodyPost_ret (v := .tuple #[.agg #[.string xn, .int .i64 xt, .int .i64 xc, .int .i64 xu, .string xd], .agg #[.string s0, .string s1, .int .i64 i2, .int .i64 i3, .int .i64 i4, .int .i64 i5, .int .i64 i6], .bool bo]) (by simp [results, Try.results23, go_sem, z0, z1, z2, z3, z4, y0, y1, y2, y3, y4, y5, y6]) rfl HP.out
  · have e1 := nT (a := (m : Int)) (b := 1) (by omega)
    have HP := Lib.hid (show ∀ wz, Below w.heap.size w wz → SoaR apex l w (.returned (.tuple #[.agg #[.string ⟨#[]⟩, .int .i64 0, .int .i64 0, .int .i64 0, .string ⟨#[]⟩], .agg #[.string ⟨#[]⟩, .string ⟨#[]⟩, .int .i64 0, .int .i64 0, .int .i64 0, .int .i64 0, .int .i64 0], .bool false])) wz from fun wz hz => ⟨⟨o, HON.out, Or.inl ⟨by rw [HOM.out]; exact hm, rfl⟩⟩, hz⟩)
    clear hm HO HON HOM HSX HGW
    go_wp2_with (first | (refine wpList_store_box rfl 30 (.tmp 4) (.tmp 16) rfl [.string ⟨#[]⟩, .int .i64 0, .int .i64 0, .int .i64 0, .string ⟨#[]⟩] rfl rfl HZ4.out rfl (by kernel_rfl) (by rfl) ?_) | (refine wpList_store_box rfl 50 (.tmp 5) (.tmp 17) rfl [.string ⟨#[]⟩, .string ⟨#[]⟩, .int .i64 0, .int .i64 0, .int .i64 0, .int .i64 0, .int .i64 0] rfl rfl HZ5b.out rfl (by kernel_rfl) (by rfl) ?_))
    intro wx5 hcn hgz
    have HB5 := Lib.hid (HB.out.grown hgz HB.out.size (fun k hk => by injection hk with hk; rw [← hk]; exact HNE.out.1))
    have HZ5b := Lib.hid (HZ5.out.grown hgz (fun e => HNE.out.2.2 (Option.some.inj e).symm))
    have HX4 := Lib.hid hcn
    clear hcn hgz HZ4 HZ5 HB
    go_wp2_with (first | (refine wpList_store_box rfl 30 (.tmp 4) (.tmp 16) rfl [.string ⟨#[]⟩, .int .i64 0, .int .i64 0, .int .i64 0, .string ⟨#[]⟩] rfl rfl HX4.out rfl (by kernel_rfl) (by rfl) ?_) | (refine wpList_store_box rfl 50 (.tmp 5) (.tmp 17) rfl [.string ⟨#[]⟩, .string ⟨#[]⟩, .int .i64 0, .int .i64 0, .int .i64 0, .int .i64 0, .int .i64 0] rfl rfl HZ5b.out rfl (by kernel_rfl) (by rfl) ?_))
    intro wx6 hcn hgz
    have HB6 := Lib.hid (HB5.out.grown hgz HB5.out.size (fun k hk => by injection hk with hk; rw [← hk]; exact HNE.out.2.1))
    have HX4b := Lib.hid (HX4.out.grown hgz (fun e => HNE.out.2.2 (Option.some.inj e)))
    have HX5 := Lib.hid hcn
    clear hcn hgz HZ5b HX4 HB5
    have z0 := (HX4b.out.2 0 _ rfl).1
    have z1 := (HX4b.out.2 1 _ rfl).1
    have z2 := (HX4b.out.2 2 _ rfl).1
    have z3 := (HX4b.out.2 3 _ rfl).1
    have z4 := (HX4b.out.2 4 _ rfl).1
    have y0 := (HX5.out.2 0 _ rfl).1
    have y1 := (HX5.out.2 1 _ rfl).1
    have y2 := (HX5.out.2 2 _ rfl).1
    have y3 := (HX5.out.2 3 _ rfl).1
    have y4 := (HX5.out.2 4 _ rfl).1
    have y5 := (HX5.out.2 5 _ rfl).1
    have y6 := (HX5.out.2 6 _ rfl).1
    go_wp2
    refine bodyPost_ret (v := .tuple #[.agg #[.string ⟨#[]⟩, .int .i64 0, .int .i64 0, .int .i64 0, .string ⟨#[]⟩], .agg #[.string ⟨#[]⟩, .string ⟨#[]⟩, .int .i64 0, .int .i64 0, .int .i64 0, .int .i64 0, .int .i64 0], .bool false]) (by simp [results, Try.results23, go_sem, z0, z1, z2, z3, z4, y0, y1, y2, y3, y4, y5, y6]) rfl (HP.out _ HB6.out)
end Go.Proofs.Ytmhiglhgkgannaa
