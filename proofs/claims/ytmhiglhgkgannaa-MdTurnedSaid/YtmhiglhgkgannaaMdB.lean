/- md.compare; slices.SortFunc by it. -/
import Derived.Test.YtmhiglhgkgannaaMdP
import Derived.Test.YtmhiglhgkgannaaSoR
namespace Go.Proofs.Ytmhiglhgkgannaa
open Go.RowKit Go.Sort Go.Shelf

set_option maxRecDepth 100000 in
set_option maxHeartbeats 4000000 in
theorem mcompare5 (a b : R5) (w : World) (ha : a.k.n.size ≤ 1000000) (hb : b.k.n.size ≤ 1000000) : Calls Try.prog 47 #[.agg #[.string a.k.n, .int .i64 a.k.t, .int .i64 a.k.c, .int .i64 a.ttl, .string a.d], .agg #[.string b.k.n, .int .i64 b.k.t, .int .i64 b.k.c, .int .i64 b.ttl, .string b.d]] w fun e w' => e = .returned (.int .i64 (mcmp a b)) ∧ BelD w.heap.size w w' := by
  obtain ⟨⟨an, at1, ac⟩, au, ad⟩ := a
  obtain ⟨⟨bn, bt, bk⟩, bu, bd⟩ := b
  have HV := Lib.hid (show mcmp ⟨⟨an, at1, ac⟩, au, ad⟩ ⟨⟨bn, bt, bk⟩, bu, bd⟩ = orI [kcmp ⟨an, at1, ac⟩ ⟨bn, bt, bk⟩, cmpB ad bd, Lib.compareInt au bu] from rfl)
  have HC := Lib.hid (fun wx => kcompare' an at1 ac bn bt bk wx ha hb)
  have HS := Lib.hid (show ∀ wx, Calls Try.prog 65 #[.string ad, .string bd] wx fun e w' => e = .returned (.int .i64 (cmpB ad bd)) ∧ w' = wx from fun wx => scompare_any ad bd wx)
  have HI := Lib.hid (show ∀ wx, Calls Try.prog 66 #[.int .i64 au, .int .i64 bu] wx fun e w' => e = .returned (.int .i64 (Lib.compareInt au bu)) ∧ w' = wx from fun wx => icompare_any au bu wx)
  have HK1 := Lib.hid (fun wx => keyOf' an at1 ac au ad wx)
  have HK2 := Lib.hid (fun wx => keyOf' bn bt bk bu bd wx)
  obtain ⟨v1, hv1⟩ : ∃ x, kcmp ⟨an, at1, ac⟩ ⟨bn, bt, bk⟩ = x := ⟨_, rfl⟩
  obtain ⟨v2, hv2⟩ : ∃ x, cmpB ad bd = x := ⟨_, rfl⟩
  obtain ⟨v3, hv3⟩ : ∃ x, Lib.compareInt au bu = x := ⟨_, rfl⟩
  rw [hv1, hv2, hv3] at HV
  rw [hv1] at HC
  rw [hv2] at HS
  rw [hv3] at HI
  clear hv1 hv2 hv3 ha hb
  have hK0 : RP w w.heap.size (w.heap.size + 1) ⟨⟨an, at1, ac⟩, au, ad⟩ ⟨⟨bn, bt, bk⟩, bu, bd⟩ ((w.alloc (.cells #[.string an, .int .i64 at1, .int .i64 ac, .int .i64 au, .string ad] 30)).alloc (.cells #[.string bn, .int .i64 bt, .int .i64 bk, .int .i64 bu, .string bd] 30)) := by
    refine ⟨((BelD.refl _ _).alloc (Nat.le_refl _) _).alloc (by simp) _, (rrAt5_new w ⟨⟨an, at1, ac⟩, au, ad⟩ _).below ((Below.refl _ _).alloc (Nat.le_refl _) _), ?_⟩
    have h := rrAt5_new (w.alloc (.cells #[.string an, .int .i64 at1, .int .i64 ac, .int .i64 au, .string ad] 30)) ⟨⟨bn, bt, bk⟩, bu, bd⟩ 30
    rw [World.size_alloc] at h
    exact h
  go_enter Try.func47, Try.ntmps47
  go_wp2_with fail
  obtain ⟨w2, hw2⟩ : ∃ x, ((w.alloc (.cells #[.string an, .int .i64 at1, .int .i64 ac, .int .i64 au, .string ad] 30)).alloc (.cells #[.string bn, .int .i64 bt, .int .i64 bk, .int .i64 bu, .string bd] 30)) = x := ⟨_, rfl⟩
  rw [hw2] at hK0 ⊢
  obtain ⟨q2, hq2⟩ : ∃ q, w.heap.size + 1 = q := ⟨_, rfl⟩
  obtain ⟨q1, hq1⟩ : ∃ q, w.heap.size = q := ⟨_, rfl⟩
  rw [hq2] at hK0 ⊢
  have hK1 : RP w q1 q2 ⟨⟨an, at1, ac⟩, au, ad⟩ ⟨⟨bn, bt, bk⟩, bu, bd⟩ w2 := by rw [← hq1]; exact hK0
  have HK := Lib.hid (RP.next ((BelD.refl w2.heap.size w2).drew) (RP.shown hK1))
  rw [show (Value.pointer (some { block := w.heap.size, off := 0 })) = Value.pointer (some { block := q1, off := 0 }) by rw [hq1]]
  clear hK0 hK1 hw2 hq2 hq1
  go_region_held3 (fun wx => Hid (RP w q1 q2 ⟨⟨an, at1, ac⟩, au, ad⟩ ⟨⟨bn, bt, bk⟩, bu, bd⟩ wx) ∧ wx.cell? ⟨q1, 0, none⟩ = some (.string an) ∧ wx.cell? ⟨q1, 1, none⟩ = some (.int .i64 at1) ∧ wx.cell? ⟨q1, 2, none⟩ = some (.int .i64 ac) ∧ wx.cell? ⟨q1, 3, none⟩ = some (.int .i64 au) ∧ wx.cell? ⟨q1, 4, none⟩ = some (.string ad) ∧ wx.cell? ⟨q2, 0, none⟩ = some (.string bn) ∧ wx.cell? ⟨q2, 1, none⟩ = some (.int .i64 bt) ∧ wx.cell? ⟨q2, 2, none⟩ = some (.int .i64 bk) ∧ wx.cell? ⟨q2, 3, none⟩ = some (.int .i64 bu) ∧ wx.cell? ⟨q2, 4, none⟩ = some (.string bd)) (first | (exact HK.out) | assumption | (refine RP.next hb ?_; assumption) | (refine RP.next ((BelD.refl _ _).alloc (Nat.le_refl _) _) ?_; assumption))
    (first
      | (go_at_call 63; first | (with_reducible refine (HK1.out _).mono ?_; rintro e wy ⟨rfl, hb⟩) | (with_reducible refine (HK2.out _).mono ?_; rintro e wy ⟨rfl, hb⟩))
      | (go_at_call 64; refine (HC.out _).mono ?_; rintro e wy ⟨rfl, hb⟩)
      | (go_at_call 65; refine (HS.out _).mono ?_; rintro e wy ⟨rfl, rfl⟩)
      | (go_at_call 66; refine (HI.out _).mono ?_; rintro e wy ⟨rfl, rfl⟩)
      | (go_at_call 62; refine (or_any _ 3 3 [v1, v2, v3] _ (row3_lit _ _ _ _ _) (by omega)).mono ?_; rintro e wy ⟨rfl, rfl⟩))
  all_goals
    go_wp2
    go_ret
    refine ⟨ret_int HV.out.symm, RP.get (q1 := q1) (q2 := q2) (a := ⟨⟨an, at1, ac⟩, au, ad⟩) (b := ⟨⟨bn, bt, bk⟩, bu, bd⟩) ?_⟩
    assumption
theorem cmpLaysMd (blk off size : Nat) (w : World) : CmpLays Try.prog 47 #[] encB 5 (fun a b : R5b => mcmp a.1 b.1) blk off size w :=
  fun _ _ _ _ x y => (mcompare5 x.1 y.1 _ x.2 y.2).mono fun _ _ ⟨he, hb⟩ => ⟨he, belD_grow hb⟩

/-- The order in which md's records stand. -/
def SortedM (l : List R5) : Prop := l.Pairwise (fun x y => mcmp x y ≤ 0)
theorem sortMd_some (B g n cap : Nat) (l : List R5) (w : World) (hl : ∀ r ∈ l, r.k.n.size ≤ 1000000) (hn : l.length = n) (hown : w.ownsRow B 30 5 (.slice (some ⟨g, 0, none⟩) n cap) n (flatR l)) (hsz : n ≤ 1000000) :
    Calls Try.prog 46 #[.slice (some ⟨g, 0, none⟩) n cap, .func (.func 47) #[] #[]] w fun e w' => e = .returned (.tuple #[]) ∧ ∃ l' : List R5, l'.Perm l ∧ SortedM l' ∧ w'.ownsRow B 30 5 (.slice (some ⟨g, 0, none⟩) n cap) n (flatR l') ∧ w.grownBy w' (some g) := by
  obtain ⟨d, hd⟩ : ∃ d : Array R5b, d.toList = l.attach.map (fun x => ⟨x.1, hl x.1 x.2⟩) := ⟨(l.attach.map (fun x => (⟨x.1, hl x.1 x.2⟩ : R5b))).toArray, rfl⟩
  have hdl : d.toList.map Subtype.val = l := by
    rw [hd, List.map_map]
    show l.attach.map (fun x => x.1) = l
    exact List.attach_map_subtype_val l
  have hds : d.size = n := by rw [← hn, ← hdl, List.length_map, Array.length_toList]
  have hfl : (flatK encB 5 d).toList = flatR l := by
    rw [flatK_list, ← hdl, flatR, List.flatMap_map]; rfl
  have hlt := (hown.lt g rfl)
  have hH : HoldsK encB 5 w g 0 d := by
    intro j hj
    rw [size_flatK, hds] at hj
    have h1 := hown.cellAt j hj
    refine ⟨?_, by rw [Nat.zero_add]; exact hown.frozenAt j⟩
    rw [Nat.zero_add, h1, ← hfl, Array.getElem?_toList, Array.getElem?_eq_getElem (by rw [size_flatK, hds]; exact hj), getElem!_pos _ j (by rw [size_flatK, hds]; exact hj)]
    rfl
  have eg : ∀ args w, (callFunc 47 args).run Try.prog w = .ok (.enter 47 args) w := enters_of Try.func47 (by kernel_rfl) rfl
  have hcon := AnyQ.slices_SortFunc sortRR 5 Try.isAgg30 Try.sizeOf30 encB encB_len encB_one (fun a b : R5b => mcmp a.1 b.1) (ord_mcmp.pre.comap Subtype.val).swo 47 #[] g 0 cap d w eg (cmpLaysMd g 0 d.size w) hH hlt.2 (by omega)
  change Calls Try.prog 46 _ _ _ at hcon
  rw [hds] at hcon
  refine hcon.mono ?_
  rintro e w' ⟨rfl, d', m, os, hp, hs, rfl⟩
  have hds' : d'.size = n := by rw [hp.1, hds]
  refine ⟨rfl, d'.toList.map Subtype.val, ?_, ?_, ?_, grownBy_sortedK _⟩
  · rw [← hdl]
    refine List.Perm.map _ ?_
    have h3 := hp.2.2
    rw [show n = d'.size from hds'.symm, Array.extract_size] at h3
    rw [show d'.size = d.size by omega, Array.extract_size] at h3
    exact h3
  · rw [SortedM, List.pairwise_map, List.pairwise_iff_getElem]
    intro i j hi hj hij
    rw [Array.length_toList] at hi hj
    have h3 := hs i j (Nat.zero_le _) hij (by omega)
    rw [getElem!_pos d' i hi, getElem!_pos d' j hj] at h3
    have h4 : ¬ mcmp d'[j].1 d'[i].1 < 0 := of_decide_eq_false h3
    have h5 := ord_mcmp.pre.anti d'[j].1 d'[i].1
    rw [Array.getElem_toList, Array.getElem_toList]
    omega
  · have hfl' : (flatK encB 5 d').toList = flatR (d'.toList.map Subtype.val) := by
      rw [flatK_list, flatR, List.flatMap_map]; rfl
    rcases hown.2 with ⟨h', _⟩ | ⟨g', cap', cur, h', hb, hgg, hnc, hcm, hcs, htake⟩
    · cases h'
    · injection h' with h1 h2 h3
      injection h1 with h1
      injection h1 with h1
      subst h1 h3
      have hsz' : (flatK encB 5 d').size = n * 5 := by rw [size_flatK, hds']
      refine ⟨by rw [flatR_len, List.length_map, Array.length_toList, hds'], Or.inr ⟨g, cap, _, rfl, hb, heap_sortedK _ hgg, hnc, hcm, by simp [putCells, hcs], ?_⟩⟩
      rw [← hfl', ← hsz']
      exact take_putCellsK cur _ (by rw [hsz', hcs]; exact Nat.mul_le_mul_right 5 hnc)
end Go.Proofs.Ytmhiglhgkgannaa
