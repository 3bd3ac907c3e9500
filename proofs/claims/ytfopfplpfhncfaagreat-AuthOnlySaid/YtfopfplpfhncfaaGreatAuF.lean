/- auth: what the chapter's examples fix. -/
import Derived.Test.YtfopfplpfhncfaaGreatAuA
import Derived.Test.YtfopfplpfhncfaaGreatCmo
namespace Go.Proofs.YtfopfplpfhncfaaGreat
open Go.RowKit

def comB : ByteArray := ⟨#[3, 99, 111, 109, 0]⟩
def ncoB : ByteArray := ⟨#[1, 110, 3, 99, 111, 109, 0]⟩
def wcoB : ByteArray := ⟨#[1, 119, 3, 99, 111, 109, 0]⟩
def adrB : ByteArray := ⟨#[1, 2, 3, 4]⟩
def rC : R5 := ⟨⟨comB, 2, 1⟩, 5, ncoB⟩
def rA : R5 := ⟨⟨ncoB, 1, 1⟩, 5, adrB⟩
def lcom : ByteArray := ⟨#[99, 111, 109]⟩
def l4 : List R5 := [r6, r2, rC, rA]
theorem labs_root : labs rootB = [] := labs_eq (L := []) (by unfold OkL; decide +kernel) (by decide +kernel) (by decide +kernel)
theorem labs_com : labs comB = [lcom] := labs_eq (L := [lcom]) (by unfold OkL; decide +kernel) (by decide +kernel) (by decide +kernel)
theorem labs_nco : labs ncoB = [⟨#[110]⟩, lcom] := labs_eq (L := [⟨#[110]⟩, lcom]) (by unfold OkL; decide +kernel) (by decide +kernel) (by decide +kernel)
theorem labs_wco : labs wcoB = [⟨#[119]⟩, lcom] := labs_eq (L := [⟨#[119]⟩, lcom]) (by unfold OkL; decide +kernel) (by decide +kernel) (by decide +kernel)
theorem may_com : mayN comB = true := by kernel_rfl
theorem may_nco : mayN ncoB = true := by kernel_rfl
theorem may_wco : mayN wcoB = true := by kernel_rfl
theorem may_rC : mayR5 rC = true := by kernel_rfl
theorem may_rA : mayR5 rA = true := by kernel_rfl
theorem cmps_of {a b : ByteArray} (ha : mayN a = true) (hb : mayN b = true) : cmpS a b = cmpN (labs a) (labs b) := by
  rw [cmpS, ha, hb]; rfl
theorem kcmp_n {a b : Ky} (h : cmpS a.n b.n = -1) : kcmp a b < 0 := by
  show orI [cmpS a.n b.n, Lib.compareInt a.c b.c, Lib.compareInt a.t b.t] < 0
  rw [or3, h, if_neg (by decide)]; decide
theorem cmp_rc : cmpS rootB comB = -1 := by rw [cmps_of may_root may_com, labs_root, labs_com]; decide +kernel
theorem cmp_cn : cmpS comB ncoB = -1 := by rw [cmps_of may_com may_nco, labs_com, labs_nco]; decide +kernel
theorem cmp_rn : cmpS rootB ncoB = -1 := by rw [cmps_of may_root may_nco, labs_root, labs_nco]; decide +kernel
def S4 : List SetP := [⟨r2.k, 9, [rootB]⟩, ⟨r6.k, 9, [soa0]⟩, ⟨rC.k, 5, [ncoB]⟩, ⟨rA.k, 5, [adrB]⟩]
theorem canon_four : Canon l4 S4 := by
  have h2 : Canon ([r6, r2] ++ [rC]) ([⟨r2.k, 9, [rootB]⟩, ⟨r6.k, 9, [soa0]⟩] ++ [⟨rC.k, 5, [ncoB]⟩]) := canon_least.new (r := rC) (fun s h => by
    simp only [List.mem_cons, List.not_mem_nil, or_false] at h
    rcases h with rfl | rfl <;> exact kcmp_n cmp_rc)
  exact h2.new (r := rA) (fun s h => by
    simp only [List.cons_append, List.nil_append, List.mem_cons, List.not_mem_nil, or_false] at h
    rcases h with rfl | rfl | rfl
    · exact kcmp_n cmp_rn
    · exact kcmp_n cmp_rn
    · exact kcmp_n cmp_cn)
theorem und_of {a b : ByteArray} (ha : mayN a = true) (hb : mayN b = true) : undS a b = undL (labs a) (labs b) := by
  rw [undS, ha, hb]; rfl
theorem und_cr : undS comB rootB = true := by rw [und_of may_com may_root, labs_com, labs_root]; decide +kernel
theorem und_nr : undS ncoB rootB = true := by rw [und_of may_nco may_root, labs_nco, labs_root]; decide +kernel
theorem und_wr : undS wcoB rootB = true := by rw [und_of may_wco may_root, labs_wco, labs_root]; decide +kernel
theorem find_four {k : Ky} {s : SetP} (hs : s ∈ S4) (hk : s.k = k) : findK S4 k = some s := (findK_iff canon_four k s).2 ⟨hs, hk⟩
theorem find_no {k : Ky} (h : ∀ s ∈ S4, s.k ≠ k) : findK S4 k = none := findK_none (j := 4) (fun s hs => h s (List.mem_of_mem_take hs)) (Nat.le_refl _)
theorem whole_four {S : List SetP} (h : Canon l4 S) : S = S4 ∧ wholeB rootB S = true ∧ sumD S = 4 := by
  have hS := canon_same h canon_four
  subst hS
  refine ⟨rfl, ?_, rfl⟩
  rw [whole_yes, find_four (k := ⟨rootB, 6, 1⟩) (s := ⟨r6.k, 9, [soa0]⟩) (by simp [S4]) rfl, find_four (k := ⟨rootB, 2, 1⟩) (s := ⟨r2.k, 9, [rootB]⟩) (by simp [S4]) rfl]
  · rfl
  · intro s hs
    simp only [S4, List.mem_cons, List.not_mem_nil, or_false] at hs
    rcases hs with rfl | rfl | rfl | rfl
    · show (undS rootB rootB && _) = true; rw [und_root]; rfl
    · show (undS rootB rootB && _) = true; rw [und_root]; rfl
    · show (undS comB rootB && _) = true; rw [und_cr]; rfl
    · show (undS ncoB rootB && _) = true; rw [und_nr]; rfl
  · intro s hs
    simp only [S4, List.mem_cons, List.not_mem_nil, or_false] at hs
    rcases hs with rfl | rfl | rfl | rfl <;> rfl
theorem newR_four {w w' : World} {e : Ending} (h : NewR rootB l4 w e w') : (∃ z, e = .returned (.tuple #[.pointer (some ⟨z, 0, none⟩), .int .i64 0]) ∧ ZOk w' z rootB l4 S4) ∧ Below w.heap.size w w' := by
  obtain ⟨h, hb⟩ := h
  refine ⟨?_, hb⟩
  rcases h with ⟨h, _⟩ | ⟨h1, ⟨⟨r, hr, h⟩, _⟩ | ⟨h2, ⟨h, _⟩ | ⟨h3, S, hc, hs, hl, ⟨h, _⟩ | ⟨hw, z, rfl, hz, hza⟩⟩⟩⟩
  · rw [may_root] at h; cases h
  · simp only [l4, List.mem_cons, List.not_mem_nil, or_false] at hr
    rcases hr with rfl | rfl | rfl | rfl
    · rw [may_r6] at h; cases h
    · rw [may_r2] at h; cases h
    · rw [may_rC] at h; cases h
    · rw [may_rA] at h; cases h
  · simp [l4] at h
  · rw [(whole_four hc).2.1] at h; cases h
  · obtain ⟨rfl, -, -⟩ := whole_four hc
    exact ⟨z, rfl, h1, h2, h3, hc, hs, hl, hw, hza⟩
def sC : SetP := ⟨rC.k, 5, [ncoB]⟩
def sA : SetP := ⟨rA.k, 5, [adrB]⟩
theorem tg_nco : tgB 2 ncoB = true := by kernel_rfl
theorem glue_four : glueL S4 [sC] = [sA] := by
  have ht : tgF [sC] = [ncoB] := tgF_eq ⟨List.pairwise_singleton _ _, fun x => by simp [nsD, tgL, sC, rC, tg_nco]⟩
  have h1 : findK S4 ⟨ncoB, 1, 1⟩ = some sA := find_four (by simp [S4, sA]) rfl
  have h2 : findK S4 ⟨ncoB, 28, 1⟩ = none := find_no (fun s hs e => by
    simp only [S4, List.mem_cons, List.not_mem_nil, or_false] at hs
    have h := congrArg Ky.t e
    rcases hs with rfl | rfl | rfl | rfl <;> exact absurd h (by decide))
  rw [glueL, ht, glueP, List.flatMap_cons, List.flatMap_nil, glueN, glueF, glueF, h1, h2]; rfl
theorem nameB_wco : nameB [⟨#[119]⟩, lcom] = wcoB := by decide +kernel
theorem nameB_com : nameB [lcom] = comB := by decide +kernel
theorem cut_four : cutP S4 rootB wcoB = some sC := by
  have h1 : findK S4 ⟨wcoB, 2, 1⟩ = none := find_no (fun s hs e => by
    simp only [S4, List.mem_cons, List.not_mem_nil, or_false] at hs
    have h := congrArg Ky.n e
    rcases hs with rfl | rfl | rfl | rfl <;> exact absurd h (by decide))
  have h2 : findK S4 ⟨comB, 2, 1⟩ = some sC := find_four (by simp [S4, sC]) rfl
  rw [cutP, if_pos und_wr, labs_wco, labs_root]
  show cutI S4 (fun i => nameB ([⟨#[119]⟩, lcom].drop i)) 2 0 none = _
  rw [cutI, cutI, cutI]
  show (match findK S4 ⟨nameB [lcom], 2, 1⟩ with | some s => some s | none => _) = _
  rw [nameB_com, h2]
theorem ans_four : ansF S4 rootB wcoB 1 1 = ⟨3, 0, [], [sC], [sA]⟩ := by
  have hq : inQ rootB wcoB 1 1 = true := by rw [inQ, und_wr]; decide
  rw [ansF, if_neg (by rw [hq]; simp), cut_four]
  show (if sC.k.n = wcoB ∧ (1 : Int) = 43 then _ else _) = _
  rw [if_neg (fun h => absurd h.2 (by decide)), glue_four]
theorem own_lit {w : World} (cs : Array Value) (n size : Nat) (e : TypeId) (hs : cs.size = n * size) (hm : n ≤ maxLen) : (w.alloc (.cells cs e)).ownsRow w.heap.size e size (.slice (some ⟨w.heap.size, 0, none⟩) n n) n cs.toList :=
  ⟨by simp [hs], .inr ⟨w.heap.size, n, cs, rfl, Nat.le_refl _, heap_alloc_new w _, Nat.le_refl _, hm, hs, by rw [List.take_of_length_le (by simp [hs])]⟩⟩
set_option maxRecDepth 100000 in
theorem least_own (w : World) : Calls Tryz.prog 62 #[.string ⟨#[0]⟩] w fun e w' => (∃ g, e = .returned (.slice (some ⟨g, 0, none⟩) 2 2) ∧ w'.ownsRow w.heap.size 125 5 (.slice (some ⟨g, 0, none⟩) 2 2) 2 (flatR [r6, r2])) ∧ Below w.heap.size w w' := by
  have HP := Lib.hid (fun wx => rputSoa_any ⟨#[0]⟩ ⟨#[0]⟩ 1 2 3 4 5 wx (by decide) (by decide))
  rw [putSoa_root.1, putSoa_root.2] at HP
  go_enter Tryz.func62, Tryz.ntmps62
  go_wp2_with fail
  refine (HP.out _).mono ?_; rintro e w1 ⟨rfl, hb⟩
  have HB := Lib.hid (hb.alloc hb.size (.cells #[.string ⟨#[0]⟩, .int .i64 6, .int .i64 1, .int .i64 9, .string soa0, .string ⟨#[0]⟩, .int .i64 2, .int .i64 1, .int .i64 9, .string ⟨#[0]⟩] 125))
  have HC := Lib.hid (show (w1.alloc (.cells #[.string ⟨#[0]⟩, .int .i64 6, .int .i64 1, .int .i64 9, .string soa0, .string ⟨#[0]⟩, .int .i64 2, .int .i64 1, .int .i64 9, .string ⟨#[0]⟩] 125)).ownsRow w.heap.size 125 5 (.slice (some ⟨w1.heap.size, 0, none⟩) 2 2) 2 (flatR [r6, r2]) from own_mono4 (own_lit #[.string ⟨#[0]⟩, .int .i64 6, .int .i64 1, .int .i64 9, .string soa0, .string ⟨#[0]⟩, .int .i64 2, .int .i64 1, .int .i64 9, .string ⟨#[0]⟩] 2 5 _ rfl (by decide)) hb.size)
  clear hb
  go_wp2
  go_ret
  exact ⟨⟨_, rfl, HC.out⟩, HB.out⟩
theorem ZOk.szd {w : World} {z : Nat} {apex : ByteArray} {l : List R5} {S : List SetP} (h : ZOk w z apex l S) : ∀ s ∈ S, ∀ d ∈ s.data, d.size ≤ 1000000 := by
  intro s hs d hd
  obtain ⟨r, hr, -, rfl⟩ := (h.canon.mem s.k d).1 ⟨s, hs, rfl, hd⟩
  have h1 := h.may r hr
  simp only [mayR5, mayR, mayD, Bool.and_eq_true, decide_eq_true_eq] at h1
  have := h1.2.2.2.2.1.2
  omega
theorem at_one {w : World} {a : Option Addr} {n : Nat} {s : SetP} (h : SetsAt w a n [s]) : n = 1 ∧ ∃ b o, a = some ⟨b, o, none⟩ ∧ w.cell? ⟨b, o, none⟩ = some (.string s.k.n) ∧ w.cell? ⟨b, o + 1, none⟩ = some (.int .i64 s.k.t) := by
  have hn : 1 = n := h.1
  subst hn
  rcases h.2 with h9 | ⟨b, o, rfl, hb, hc⟩
  · cases h9
  · obtain ⟨p, c, h0, h1, -⟩ := hc 0 (by omega)
    rw [Nat.zero_mul, Nat.add_zero] at h0 h1
    exact ⟨rfl, b, o, rfl, h0, h1⟩
set_option maxRecDepth 100000 in
set_option maxHeartbeats 4000000 in
theorem first11 (w : World) : Calls Tryz.prog 34 #[] w fun e w' => e = .returned (.bool true) ∧ Below w.heap.size w w' := by
  obtain ⟨i0', hi, hz0, hz1, hz2⟩ := info_parts infoRR
  have HI := Lib.hid hi
  have HZ0 := Lib.hid hz0
  have HZ1 := Lib.hid hz1
  have HZ2 := Lib.hid hz2
  clear hi hz0 hz1 hz2
  go_enter Tryz.func34, Tryz.ntmps34
  go_wp2_with fail
  refine (least_own _).mono ?_; rintro e w1 ⟨⟨g, rfl, ho⟩, hb⟩
  have HO := Lib.hid ho
  have HB := Lib.hid hb
  have hal := (Below.refl w1.heap.size w1).alloc (Nat.le_refl _) (.cells #[.string ⟨#[3, 99, 111, 109, 0]⟩, .int .i64 2, .int .i64 1, .int .i64 5, .string ⟨#[1, 110, 3, 99, 111, 109, 0]⟩, .string ⟨#[1, 110, 3, 99, 111, 109, 0]⟩, .int .i64 1, .int .i64 1, .int .i64 5, .string ⟨#[1, 2, 3, 4]⟩] 125)
  have HAL := Lib.hid hal
  clear ho hb hal
  go_wp2_with (at_builtin; refine append_cellsK rfl _ _ 22 125 rfl i0' _ 5 56 Tryz.underlying22 HI.out HZ0.out HZ1.out HZ2.out rfl (by decide) w.heap.size _ 2 _ rfl (own_below' HO.out HAL.out) (some ⟨w1.heap.size, 0, none⟩) 2 2 (flatR [rC, rA]) rfl (fun h => by cases h) (cells_lit w1 #[.string ⟨#[3, 99, 111, 109, 0]⟩, .int .i64 2, .int .i64 1, .int .i64 5, .string ⟨#[1, 110, 3, 99, 111, 109, 0]⟩, .string ⟨#[1, 110, 3, 99, 111, 109, 0]⟩, .int .i64 1, .int .i64 1, .int .i64 5, .string ⟨#[1, 2, 3, 4]⟩] _) (flatR_one [rC, rA]) (by decide) (by decide) (by have := HB.out.size; simp; omega) ?_)
  intro v' w2 hown hgrow
  obtain ⟨ta, tc, rfl, hrt, hnt⟩ := rowR_own (l := l4) (show w2.ownsRow w.heap.size 125 5 v' 4 (flatR l4) from hown)
  have HRT := Lib.hid hrt
  have HNT := Lib.hid hnt
  have HB2 := Lib.hid ((HB.out.trans (HAL.out.mono HB.out.size)).grown hgrow (by have := HB.out.size; simp; omega) (fun k hk => (HO.out.lt k hk).1))
  clear hown hgrow hrt hnt HO HB HAL HI HZ0 HZ1 HZ2
  go_wp2_with fail
  refine (znew_any rootB ta 4 tc l4 w2 HRT.out HNT.out (by decide) (fun r hr => by
      simp only [l4, List.mem_cons, List.not_mem_nil, or_false] at hr
      rcases hr with rfl | rfl | rfl | rfl <;> decide) (fun r hr => by
      simp only [l4, List.mem_cons, List.not_mem_nil, or_false] at hr
      rcases hr with rfl | rfl | rfl | rfl <;> decide) (by decide)).mono ?_; rintro e w3 h
  obtain ⟨⟨z, rfl, hok⟩, hb⟩ := newR_four h
  have HB3 := Lib.hid (HB2.out.trans (hb.mono HB2.out.size))
  have HOK := Lib.hid hok
  clear h hb hok HRT HNT HB2
  go_wp2_with fail
  refine (answer_any z rootB S4 wcoB 1 1 w3 HOK.out.is HOK.out.canon.keys HOK.out.sz HOK.out.szd HOK.out.canon.non (by decide) (by decide)).mono ?_; rintro e w4 ⟨⟨v, rfl, hrep⟩, hb⟩
  rw [ans_four] at hrep
  obtain ⟨a1, n1, c1, a2, n2, c2, a3, n3, c3, rfl, -, -, h2, -, h3, -⟩ := hrep
  obtain ⟨rfl, -⟩ := at_one h2.at
  obtain ⟨rfl, b, o, rfl, x0, x1⟩ := at_one h3.at
  have hba := (Below.refl w4.heap.size w4).alloc (Nat.le_refl _) (.cells #[.int .i64 3, .int .i64 0, .slice a1 n1 c1, .slice a2 1 c2, .slice (some ⟨b, o, none⟩) 1 c3] 71)
  have HB4 := Lib.hid (HB3.out.trans ((hb.trans (hba.mono hb.size)).mono HB3.out.size))
  have X1 := Lib.hid (cell_later4 hba x1)
  have HC := Lib.hid (CN.new w4 #[.int .i64 3, .int .i64 0, .slice a1 n1 c1, .slice a2 1 c2, .slice (some ⟨b, o, none⟩) 1 c3] 71)
  dsimp only
  clear hb hba h2 h3 x0 x1 HB3 HOK
  go_upto_region 4 with (fail)
  obtain ⟨w5, hw⟩ : ∃ x, w4.alloc (.cells #[.int .i64 3, .int .i64 0, .slice a1 n1 c1, .slice a2 1 c2, .slice (some ⟨b, o, none⟩) 1 c3] 71) = x := ⟨_, rfl⟩
  rw [hw] at HB4 X1 HC ⊢
  clear hw
  obtain ⟨q, hq⟩ : ∃ x, w4.heap.size = x := ⟨_, rfl⟩
  rw [hq] at HC ⊢
  clear hq
  obtain ⟨y0, y1, y2, y3, y4, -⟩ := HC.out.u5
  have x1 : w5.cell? ⟨b, o + 1, none⟩ = some (.int .i64 1) := X1.out
  go_wp2
  go_ret
  exact ⟨rfl, HB4.out⟩
end Go.Proofs.YtfopfplpfhncfaaGreat
