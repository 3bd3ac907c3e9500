/- Texts that others rest on, one behind the other: ScZ, AsL, StC. -/
import Derived.Test.YthfnphcefkdgbaaGreatMgR
import Derived.Test.YthfnphcefkdgbaaGreatMgS
import Derived.Test.YthfnphcefkdgbaaGreatMgT
import Derived.Test.YthfnphcefkdgbaaGreatStB
section
namespace Go.Proofs.YthfnphcefkdgbaaGreat
open Go.RowKit
theorem canon_of {S : List SetP} (hk : S.Pairwise (fun s t => kcmp s.k t.k < 0)) (hr : ∀ s ∈ S, s.data.Pairwise (fun x y => cmpB x y < 0)) (hn : ∀ s ∈ S, s.data ≠ []) : Canon (flatP S) S where
 keys := hk
 rise := hr
 mem k d := by
  constructor
  · rintro ⟨s, hs, h1, hd⟩
    exact ⟨⟨s.k, s.ttl, d⟩, mem_flatP.2 ⟨s, hs, rfl, rfl, hd⟩, h1, rfl⟩
  · rintro ⟨r, hr, h1, hd⟩
    obtain ⟨s, hs, h2, h3, h4⟩ := mem_flatP.1 hr
    exact ⟨s, hs, by rw [← h2]; exact h1, by rw [← hd]; exact h4⟩
 non := hn
 low s hs := by
  obtain ⟨d, hd⟩ : ∃ d, d ∈ s.data := List.exists_mem_of_ne_nil _ (hn s hs)
  refine ⟨⟨⟨s.k, s.ttl, d⟩, mem_flatP.2 ⟨s, hs, rfl, rfl, hd⟩, rfl, rfl⟩, fun r hr2 h1 => ?_⟩
  obtain ⟨t, ht, h2, h3, h4⟩ := mem_flatP.1 hr2
  have hst : s = t := by
    have hk2 : s.k = t.k := by rw [← h1, h2]
    refine Classical.byContradiction fun hne => ?_
    obtain ⟨i, hi, h5⟩ := List.getElem_of_mem hs
    obtain ⟨j, hj, h6⟩ := List.getElem_of_mem ht
    have hpw := List.pairwise_iff_getElem.1 hk
    rcases Nat.lt_trichotomy i j with hij | hij | hij
    · have h7 := hpw i j hi hj hij
      rw [h5, h6] at h7
      have h8 := (ord_kcmp.zero s.k t.k).2 hk2
      omega
    · subst hij; exact hne (h5.symm.trans h6)
    · have h7 := hpw j i hj hi hij
      rw [h5, h6] at h7
      have h8 := (ord_kcmp.zero t.k s.k).2 hk2.symm
      omega
  rw [hst, h3]
  exact Int.le_refl _
theorem may_pos {s : ByteArray} (h : mayN s = true) : 0 < s.size := by
 rw [mayN, Bool.and_eq_true] at h
 have := (of_decide_eq_true h.1).1
 omega
theorem zok_key3 {w : World} {z : Nat} {apex : ByteArray} {l : List R5} {S : List SetP} (h : ZOk w z apex l S) {s : SetP} (hs : s ∈ S) : undS s.k.n apex = true ∧ s.k.c = 1 ∧ 0 < s.k.n.size := by
 obtain ⟨w1, -⟩ := whole_parts h.whole
 obtain ⟨u, c⟩ := w1 s hs
 exact ⟨u, c, may_pos (und_may u)⟩
theorem names_one {S : List SetP} {s : SetP} {n : ByteArray} (hs : s ∈ S) (h1 : s.k.n = n) : s.data.length ≤ namesN S n := by
 induction S with
 | nil => cases hs
 | cons x S ih =>
  rw [namesN]
  rcases List.mem_cons.1 hs with rfl | hs
  · rw [if_pos h1]; omega
  · have := ih hs
    omega
theorem cname_one {w : World} {z : Nat} {apex : ByteArray} {l : List R5} {S : List SetP} (h : ZOk w z apex l S) {s : SetP} (hs : s ∈ S) (ht : s.k.t = 5) : s.data.length = 1 := by
 obtain ⟨-, w2, -⟩ := whole_parts h.whole
 have h1 := w2 s hs
 rw [cnB, ht] at h1
 have h2 := names_one hs rfl
 have h3 := h.canon.non s hs
 have h4 : 0 < s.data.length := List.length_pos_iff.2 h3
 by_cases h5 : 1 < namesN S s.k.n
 · rw [dT h5] at h1; cases h1
 · omega
theorem wi_self {w : World} {z : Nat} {apex : ByteArray} {l : List R5} {S : List SetP} (h : ZOk w z apex l S) {L : List SetP} (hL : ∀ s ∈ L, s ∈ S) (hk : L.Pairwise (fun s t => kcmp s.k t.k < 0)) : wiF apex (flatP L) = L := by
 have hw : wiL apex (flatP L) = flatP L := by
  rw [wiL]
  refine List.filter_eq_self.2 (fun r hr => ?_)
  obtain ⟨s, hs, h1, h2, h3⟩ := mem_flatP.1 hr
  obtain ⟨u, c, -⟩ := zok_key3 h (hL s hs)
  obtain ⟨q, hq, k1, d1⟩ := (h.canon.mem s.k r.d).1 ⟨s, hL s hs, rfl, h3⟩
  obtain ⟨⟨q2, hq2, k2, t2⟩, -⟩ := h.canon.low s (hL s hs)
  have hm := h.may q hq
  have hm2 := h.may q2 hq2
  have hmr : mayR5 r = true := by
   simp only [mayR5, mayR, Bool.and_eq_true] at hm hm2 ⊢
   rw [h1, h2, ← t2]
   rw [k1, d1] at hm
   rw [k2] at hm2
   exact ⟨hm.1, hm.2.1, hm.2.2.1, hm2.2.2.2.1, hm.2.2.2.2⟩
  rw [inC, h1, c, u, hmr]; rfl
 rw [wiF, hw]
 exact (grpF_of (canon_of hk (fun s hs => h.canon.rise s (hL s hs)) (fun s hs => h.canon.non s (hL s hs)))).symm
def ZonesP (S : List SetP) (apex : ByteArray) (R : RepP) (o : OutP) : Prop :=
 (R.kind = 1 ∧ o.kind = 1 ∧ ∃ s r, R.an = [s] ∧ o.sets = [(s, r)]) ∨
 (R.kind = 2 ∧ o.kind = 2 ∧ ∃ s r, R.an = [s] ∧ o.sets = [(s, r)]) ∨
 (R.kind = 3 ∧ o.kind = 3 ∧ ∃ x T, R.ns = [x] ∧ o.sets = (x, 2) :: T ∧ T.length = R.ar.length) ∨
 ((R.kind = 4 ∧ o.kind = 4 ∨ R.kind = 5 ∧ o.kind = 5) ∧ ∃ s d, findK S ⟨apex, 6, 1⟩ = some s ∧ s.data = [d] ∧ o.ttl = min s.ttl (soaMin d)) ∨
 (R.kind = 6 ∧ o.kind = 0)
theorem rise_one (s : SetP) : [s].Pairwise (fun s t => kcmp s.k t.k < 0) := List.pairwise_singleton _ _
theorem fk_one {s : SetP} {k : Ky} (h : s.k = k) : findK [s] k = some s := by
 rw [findK]; simp [h]
theorem fk_oneN {s : SetP} {k : Ky} (h : s.k ≠ k) : findK [s] k = none := by
 rw [findK]; simp [h]
def zMsg (id : Int) (qn : ByteArray) (qt qc : Int) (R : RepP) : MsgP := ⟨id, 0, R.rc, true, decide (R.kind ≠ 3 ∧ R.kind ≠ 6), false, false, false, [⟨qn, qt, qc⟩], flatP R.an, flatP R.ns, flatP R.ar⟩
theorem sort_zMsg (apex qn : ByteArray) (qt qc id : Int) (R : RepP) : sortF apex qn qt qc (zMsg id qn qt qc R) = sortS apex qn qt qc R.rc (decide (R.kind ≠ 3 ∧ R.kind ≠ 6)) false (wiF apex (flatP R.an)) (wiF apex (flatP R.ns)) (wiF apex (flatP R.ar)) := rfl
theorem glue_rise (S : List SetP) (x : SetP) : (glueL S [x]).Pairwise (fun s t => kcmp s.k t.k < 0) := by
 rw [glueL]
 refine glueP_rise S _ ?_
 unfold tgF
 split
 · rename_i h; exact h.choose_spec.1
 · exact List.Pairwise.nil
theorem glue_data {S : List SetP} {x g : SetP} (hg : g ∈ glueL S [x]) : g ∈ S ∧ gluB x g = true := by
 rw [glueL] at hg
 obtain ⟨h1, h2, h3, -⟩ := glue_in hg
 refine ⟨find_mem h1, ?_⟩
 have h4 : g.k.n ∈ x.data := by
  unfold tgF at h3
  split at h3
  · rename_i h
    have h5 := (h.choose_spec.2 _).1 h3
    have e : nsD [x] = tgL x := by simp [nsD]
    rw [e, tgL] at h5
    split at h5
    · exact (List.mem_filter.1 h5).1
    · cases h5
  · cases h3
 rw [gluB, memS_t h4, dT (show g.k.t ∈ [(1 : Int), 28] by rcases h2 with h2 | h2 <;> simp [h2])]; rfl
theorem belS_yes3 {cut qn : ByteArray} {qt : Int} {b s : SetP} (h : leadB cut qn qt s = true) (h2 : b.k.n.size < s.k.n.size) : belS cut qn qt b s = s := by rw [belS, if_pos ⟨h, h2⟩]
theorem ans_nil (qn : ByteArray) (qt qc rk : Int) : ansO [] qn qt qc rk = none := rfl
theorem zonesT {w : World} {z : Nat} {apex : ByteArray} {l : List R5} {S : List SetP} (h : ZOk w z apex l S) {qn : ByteArray} (hu : undS qn apex = true) (qt id : Int) : ZonesP S apex (ansT S apex qn qt) (sortF apex qn qt 1 (zMsg id qn qt 1 (ansT S apex qn qt))) := by
 have w0 : wiF apex (flatP []) = [] := wi_self h (fun s hs => by cases hs) List.Pairwise.nil
 have wk : ∀ s, s ∈ S → wiF apex (flatP [s]) = [s] := fun s hs => wi_self h (fun t ht => by rw [List.mem_singleton.1 ht]; exact hs) (rise_one s)
 have hK : ZonesP S apex (ansK S apex qn qt) (sortF apex qn qt 1 (zMsg id qn qt 1 (ansK S apex qn qt))) := by
  cases hf : findK S ⟨qn, qt, 1⟩ with
  | some s =>
    rw [ansK_yes hf, sort_zMsg, sortS]
    dsimp only
    rw [if_neg (by simp), if_neg (by simp), wk s (find_mem hf), ansO, fk_one (find_key hf)]
    exact Or.inl ⟨rfl, rfl, s, _, rfl, rfl⟩
  | none =>
    obtain ⟨s0, d0, hs0, hd0, -, -⟩ := soa_one h
    have hk0 := find_key hs0
    have e0 : soaL S apex = [s0] := by rw [soaL, hs0]; rfl
    have hb : soaB qn s0 = true := by rw [soaB, hk0, hd0, hu]; rfl
    have hno : noTtl qn [s0] = min s0.ttl (soaMin d0) := by
     rw [noTtl]
     simp only [List.find?_cons, hb]
     rw [hd0]; rfl
    rw [ansK_no hf]
    cases ht : thereP S qn with
    | true =>
     rw [if_pos rfl, sort_zMsg, sortS]
     dsimp only
     rw [if_neg (by simp), if_neg (by simp), w0, e0, wk s0 (find_mem hs0), ans_nil]
     dsimp only
     have hbel : belF apex qn qt [s0] = sZ := by
       show belS apex qn qt sZ s0 = sZ
       rw [belS, if_neg (fun h1 => by have h2 := h1.1; rw [leadB, hk0] at h2; simp at h2)]
     rw [if_neg (by decide), refO, hbel, if_pos (show sZ.data = [] from rfl)]
     refine Or.inr (Or.inr (Or.inr (Or.inl ⟨Or.inr ⟨rfl, rfl⟩, s0, d0, hs0, hd0, ?_⟩)))
     show (noO 5 qn _ [s0]).ttl = _
     rw [noO, if_pos (dT (show (5 : Int) ≠ 3 ∧ (5 : Int) ≠ 6 by decide))]; exact hno
    | false =>
     rw [if_neg (by simp), sort_zMsg, sortS]
     dsimp only
     rw [if_neg (by simp), if_neg (by simp), w0, e0, wk s0 (find_mem hs0), ans_nil]
     dsimp only
     rw [if_pos rfl]
     refine Or.inr (Or.inr (Or.inr (Or.inl ⟨Or.inl ⟨rfl, ?_⟩, s0, d0, hs0, hd0, ?_⟩)))
     · rw [noO, if_pos (dT (show (4 : Int) ≠ 3 ∧ (4 : Int) ≠ 6 by decide))]
     · rw [noO, if_pos (dT (show (4 : Int) ≠ 3 ∧ (4 : Int) ≠ 6 by decide))]; exact hno
 cases h5 : findK S ⟨qn, 5, 1⟩ with
 | none => rw [ansT_k (Or.inl h5)]; exact hK
 | some s =>
  by_cases ht : qt = 5
  · rw [ansT_k (Or.inr ht)]; exact hK
  · have hk := find_key h5
    have hs := find_mem h5
    rw [ansT_alias h5 ht, sort_zMsg, sortS]
    dsimp only
    rw [if_neg (by simp), if_neg (by simp), wk s hs, ansO, fk_oneN (by rw [hk]; intro e; injection e with _ e2; exact ht e2.symm)]
    dsimp only
    rw [aliO, fk_one hk]
    dsimp only
    rw [if_pos ⟨cname_one h hs (by rw [hk]), ht⟩]
    exact Or.inr (Or.inl ⟨rfl, rfl, s, _, rfl, rfl⟩)
theorem zonesP {w : World} {z : Nat} {apex : ByteArray} {l : List R5} {S : List SetP} (h : ZOk w z apex l S) {qn : ByteArray} (hn : qn.size ≤ 1000000) (qt qc id : Int) : ZonesP S apex (ansF S apex qn qt qc) (sortF apex qn qt qc (zMsg id qn qt qc (ansF S apex qn qt qc))) := by
 cases hq : inQ apex qn qt qc with
 | false =>
  rw [ans_out hq, sort_zMsg, sortS]
  dsimp only
  rw [if_neg (by simp), if_pos (by decide)]
  exact Or.inr (Or.inr (Or.inr (Or.inr ⟨rfl, rfl⟩)))
 | true =>
  obtain ⟨hqc, hu⟩ : qc = 1 ∧ undS qn apex = true := by
   have h1 := hq
   rw [inQ, Bool.and_eq_true, Bool.and_eq_true] at h1
   exact ⟨of_decide_eq_true h1.1, h1.2.1⟩
  subst hqc
  cases hc : cutP S apex qn with
  | none => rw [ans_no hq hc]; exact zonesT h hu qt id
  | some x =>
   by_cases hd : x.k.n = qn ∧ qt = 43
   · have e : ansF S apex qn qt 1 = ansT S apex qn qt := by rw [ansF, if_neg (by rw [hq]; simp), hc]; exact if_pos hd
     rw [e]; exact zonesT h hu qt id
   · obtain ⟨c1, c2, c3, c4⟩ := cut_facts hn hc
     have hx := find_mem c4
     have w0 : wiF apex (flatP []) = [] := wi_self h (fun s hs => by cases hs) List.Pairwise.nil
     have wk : wiF apex (flatP [x]) = [x] := wi_self h (fun t ht => by rw [List.mem_singleton.1 ht]; exact hx) (rise_one x)
     have wg : wiF apex (flatP (glueL S [x])) = glueL S [x] := wi_self h (fun t ht => (glue_data ht).1) (glue_rise S x)
     rw [ans_cut hq hc hd, sort_zMsg, sortS]
     dsimp only
     rw [if_neg (by simp), if_neg (by simp), w0, wk, wg, ans_nil]
     dsimp only
     have hne : ¬ x.k.n = apex := fun e => by rw [e] at c3; simp at c3
     have hbel : belF apex qn qt [x] = x := by
      show belS apex qn qt sZ x = x
      refine belS_yes3 ?_ ?_
      · simp only [leadB, c1, c2, hne, decide_true, decide_false, Bool.not_false, Bool.true_and, Bool.not_eq_true', Bool.and_eq_false_iff, decide_eq_false_iff_not]
        by_cases h5 : qt = 43
        · exact Or.inr (fun h6 => hd ⟨h6, h5⟩)
        · exact Or.inl h5
      · exact (zok_key3 h hx).2.2
     rw [if_neg (by decide), refO, hbel, if_neg (h.canon.non x hx)]
     refine Or.inr (Or.inr (Or.inl ⟨rfl, rfl, x, _, rfl, rfl, ?_⟩))
     rw [List.length_map, gluF, List.filter_eq_self.2 (fun g hg => (glue_data hg).2)]
end Go.Proofs.YthfnphcefkdgbaaGreat
end
section
namespace Go.Proofs.YthfnphcefkdgbaaGreat
open Go.RowKit
theorem rowQ_own {w : World} {B n : Nat} {v : Value} {l : List Ky} (h : w.ownsRow B 69 3 v n (flatQ l)) : ∃ a c, v = .slice a n c ∧ RowQ w a n l ∧ (a = none → n = 0 ∧ c = 0) := by
 obtain ⟨a, c, e, h1, h2⟩ := cellsK_own h
 exact ⟨a, c, e, ⟨by have := h.1; rw [flatQ_len] at this; omega, h1⟩, h2⟩
theorem infoQ : (Tryz.prog.info? 69).map (fun i => (i.zero, i.size, i.bytes)) = some (some (.agg #[.string ⟨#[]⟩, .int .i64 0, .int .i64 0]), 3, 32) := by kernel_rfl
set_option maxRecDepth 100000 in
theorem cloneQ (a : Option Addr) (n c : Nat) (l : List Ky) (w : World) (h : RowQ w a n l) (hn : a = none → n = 0 ∧ c = 0) (hlen : n ≤ 100000) :
  Calls Tryz.prog 124 #[.slice a n c] w fun e w' => ∃ v, e = .returned v ∧ w'.ownsRow w.heap.size 69 3 v n (flatQ l) ∧ Below w.heap.size w w' := by
 obtain ⟨i0, hi, hz0, hz1, hz2⟩ := info_parts infoQ
 have HR := Lib.hid h
 have HN := Lib.hid hn
 cases a with
 | none =>
  obtain ⟨rfl, rfl⟩ := hn rfl
  have hl0 : l = [] := List.eq_nil_of_length_eq_zero h.1
  subst hl0
  clear h hn
  have he : (binOp .eql 75 (.slice none 0 0) (.slice none 0 0)).run Tryz.prog w = .ok (.bool true) w := Lib.run_eql_slice_nil w 75 69 none 0 0 0 0 Tryz.underlying75
  go_enter Tryz.func124, Tryz.ntmps124
  go_wp2
  go_ret
  exact ⟨_, rfl, World.ownsRow_nil _ _ _ _, Below.refl _ _⟩
 | some ad =>
  have HH := Lib.hid (show RowQ (w.alloc (.cells #[] 69)) (some ad) n l from h.below ((Below.refl _ _).alloc (Nat.le_refl _) _))
  have HO := Lib.hid (show (w.alloc (.cells #[] 69)).ownsRow w.heap.size 69 3 (.slice (some ⟨w.heap.size, 0, none⟩) 0 0) 0 [] from World.ownsRow_made w #[] 0 (Nat.le_refl _) (Nat.zero_le _) rfl)
  have HB := Lib.hid ((Below.refl w.heap.size w).alloc (Nat.le_refl _) (.cells #[] 69))
  clear h hn
  have he : (binOp .eql 75 (.slice (some ad) n c) (.slice none 0 0)).run Tryz.prog w = .ok (.bool false) w := Lib.run_eql_slice_nil w 75 69 (some ad) n c 0 0 Tryz.underlying75
  go_enter Tryz.func124, Tryz.ntmps124
  go_wp2_with (first | (at_builtin; refine append_cellsK rfl _ _ 75 69 rfl i0 _ 3 32 Tryz.underlying75 hi hz0 hz1 hz2 rfl (by decide) w.heap.size _ 0 _ rfl HO.out (some ad) n c (flatQ l) rfl HN.out HH.out.2 (flatQ_one l) (by omega) (by decide) (by simp) ?_))
  intro v' w' ho hg
  go_wp2
  go_ret
  exact ⟨v', rfl, ho, HB.out.grown hg (by simp) (fun k hk => (HO.out.lt k hk).1)⟩
set_option maxRecDepth 100000 in
set_option maxHeartbeats 4000000 in
theorem ask_ex (i : Int) (qa : Option Addr) (ql qc : Nat) (Q : List Ky) (w : World) (hq : RowQ w qa ql Q) (hqn : qa = none → ql = 0 ∧ qc = 0) (hql : ql ≤ 100000) :
  Calls Tryz.prog 79 #[.int .i64 i, .slice qa ql qc] w fun e w' => ∃ (qa2 : Option Addr) (qc2 : Nat), e = .returned (.agg #[.int .i64 i, .int .i64 0, .int .i64 0, .bool false, .bool false, .bool false, .bool false, .bool false, .slice qa2 ql qc2, .slice none 0 0, .slice none 0 0, .slice none 0 0]) ∧ w'.ownsRow w.heap.size 69 3 (.slice qa2 ql qc2) ql (flatQ Q) ∧ Below w.heap.size w w' := by
 have hb1 := (Below.refl w.heap.size w).alloc (Nat.le_refl _) (.cells #[.int .i64 0, .int .i64 0, .int .i64 0, .bool false, .bool false, .bool false, .bool false, .bool false, .slice none 0 0, .slice none 0 0, .slice none 0 0, .slice none 0 0] 77)
 have HC := Lib.hid (CN.new w #[.int .i64 0, .int .i64 0, .int .i64 0, .bool false, .bool false, .bool false, .bool false, .bool false, .slice none 0 0, .slice none 0 0, .slice none 0 0, .slice none 0 0] 77)
 have HQ := Lib.hid (hq.below hb1)
 have HQN := Lib.hid hqn
 have HB := Lib.hid hb1
 clear hq hqn hb1
 go_enter Tryz.func79, Tryz.ntmps79
 go_wp2_with fail
 refine (cloneQ qa ql qc Q _ HQ.out HQN.out hql).mono ?_; rintro e w2 ⟨v, rfl, ho, hb⟩
 obtain ⟨qa2, qc2, rfl, _⟩ := rowQ_own ho
 have HO := Lib.hid ho
 have HC2 := Lib.hid (HC.out.below hb)
 have HB2 := Lib.hid (HB.out.trans (hb.mono HB.out.size))
 clear ho hb HC
 have hlt := HC2.out.1
 obtain ⟨y0, y1, y2, y3, y4, y5, y6, y7, y8, y9, y10, y11, g0, g1, g2, g3, g4, g5, g6, g7, g8, g9, g10, g11⟩ := HC2.out.u12
 have KZ := Lib.hid (HC2.out.p12 (.int .i64 i) (.int .i64 0) (.int .i64 0) (.bool false) (.bool false) (.bool false) (.bool false) (.bool false) (.slice qa2 ql qc2) (.slice none 0 0) (.slice none 0 0) (.slice none 0 0))
 have HG := Lib.hid (grown_p12 w2 w.heap.size (.int .i64 i) (.int .i64 0) (.int .i64 0) (.bool false) (.bool false) (.bool false) (.bool false) (.bool false) (.slice qa2 ql qc2) (.slice none 0 0) (.slice none 0 0) (.slice none 0 0))
 have HBZ := Lib.hid (HB2.out.grown HG.out HB2.out.size (fun k hk => by injection hk with hk; omega))
 have HOZ := Lib.hid (HO.out.kept HG.out (by
  cases hv : (Value.slice qa2 ql qc2).ownBlock with
  | none => exact Or.inl rfl
  | some k => exact Or.inr (fun e => by have := (HO.out.lt k hv).1; rw [World.size_alloc] at this; injection e with e; omega)))
 go_wp2
 obtain ⟨wz, hwz⟩ : ∃ x, ((((((((((((w2.setCell ⟨w.heap.size, 0, none⟩ (.int .i64 i)).setCell ⟨w.heap.size, 1, none⟩ (.int .i64 0)).setCell ⟨w.heap.size, 2, none⟩ (.int .i64 0)).setCell ⟨w.heap.size, 3, none⟩ (.bool false)).setCell ⟨w.heap.size, 4, none⟩ (.bool false)).setCell ⟨w.heap.size, 5, none⟩ (.bool false)).setCell ⟨w.heap.size, 6, none⟩ (.bool false)).setCell ⟨w.heap.size, 7, none⟩ (.bool false)).setCell ⟨w.heap.size, 8, none⟩ (.slice qa2 ql qc2)).setCell ⟨w.heap.size, 9, none⟩ (.slice none 0 0)).setCell ⟨w.heap.size, 10, none⟩ (.slice none 0 0)).setCell ⟨w.heap.size, 11, none⟩ (.slice none 0 0)) = x := ⟨_, rfl⟩
 rw [hwz] at KZ HBZ HOZ ⊢
 clear hwz HG y0 g0 y1 g1 y2 g2 y3 g3 y4 g4 y5 g5 y6 g6 y7 g7 y8 g8 y9 g9 y10 g10 y11 g11
 obtain ⟨z0, z1, z2, z3, z4, z5, z6, z7, z8, z9, z10, z11, _⟩ := KZ.out.u12
 refine bodyPost_ret (v := .agg #[.int .i64 i, .int .i64 0, .int .i64 0, .bool false, .bool false, .bool false, .bool false, .bool false, .slice qa2 ql qc2, .slice none 0 0, .slice none 0 0, .slice none 0 0]) (by simp [results, Tryz.results79, go_sem, z0, z1, z2, z3, z4, z5, z6, z7, z8, z9, z10, z11]) rfl ⟨qa2, qc2, rfl, own_mono4 HOZ.out (by simp), HBZ.out⟩
end Go.Proofs.YthfnphcefkdgbaaGreat
end
section
namespace Go.Proofs.YthfnphcefkdgbaaGreat
end Go.Proofs.YthfnphcefkdgbaaGreat
end
