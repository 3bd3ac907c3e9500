/- Contract of scrub.referred. -/
import Derived.Test.YthfnphcefkdgbaaScN
import Derived.Test.YthfnphcefkdgbaaCeM
namespace Go.Proofs.Ythfnphcefkdgbaa
open Go.RowKit

theorem infoRk : (Try.prog.info? 85).map (fun i => (i.zero, i.size, i.bytes)) = some (some (.agg #[.string ⟨#[]⟩, .int .i64 0, .int .i64 0, .int .i64 0, .slice none 0 0, .int .i64 0]), 6, 72) := by kernel_rfl
theorem strC_ne {a b : ByteArray} (h : a ≠ b) : (a.toList == b.toList) = false := beq_eq_false_iff_ne.2 (fun e => h (toList_inj4 e))
theorem strC_eq {a b : ByteArray} (h : a = b) : (a.toList == b.toList) = true := by rw [h]; simp
theorem strC_neT {a b : ByteArray} (h : a ≠ b) : (a.toList != b.toList) = true := by rw [bne, strC_ne h]; rfl
theorem strC_neF {a b : ByteArray} (h : a = b) : (a.toList != b.toList) = false := by rw [bne, strC_eq h]; rfl
theorem SetsUp.get {w : World} {B n : Nat} {a : Option Addr} {L : List SetP} (h : SetsUp w B a n L) (k : Nat) (hk : k < n) : ∃ g s da dc, a = some ⟨g, 0, none⟩ ∧ g < w.heap.size ∧ L[k]? = some s ∧ w.cell? ⟨g, k * 5, none⟩ = some (.string s.k.n) ∧ w.cell? ⟨g, k * 5 + 1, none⟩ = some (.int .i64 s.k.t) ∧ w.cell? ⟨g, k * 5 + 2, none⟩ = some (.int .i64 s.k.c) ∧ w.cell? ⟨g, k * 5 + 3, none⟩ = some (.int .i64 s.ttl) ∧ w.cell? ⟨g, k * 5 + 4, none⟩ = some (.slice da s.data.length dc) ∧ w.ownsRow B 9 1 (.slice da s.data.length dc) s.data.length (sc s.data) := by
  obtain ⟨Lp, h1, h2, h3, h4⟩ := h
  rcases h3 with h3 | ⟨g, h5, h6, h7, h8⟩
  · omega
  obtain ⟨p, hp⟩ : ∃ p, Lp[k]? = some p := ⟨Lp[k]'(by omega), List.getElem?_eq_getElem (by omega)⟩
  have hg : ∀ i, i < 5 → ∀ u, (encS p)[i]? = some u → w.cell? ⟨g, k * 5 + i, none⟩ = some u := fun i hi u hu => by
    have := h8 (k * 5 + i) u (by
      rw [flatS, flatMap_get encS 5 encS_len (by omega), show (k * 5 + i) / 5 = k by omega, show (k * 5 + i) % 5 = i by omega, hp]
      exact hu)
    rw [Nat.zero_add] at this; exact this
  have hm := h4 p (List.mem_of_getElem? hp)
  obtain ⟨a', c', he, -, -⟩ := rowS_of_own hm
  rw [he] at hm
  exact ⟨g, p.1, a', c', h5, h7, by rw [← h1, List.getElem?_map, hp]; rfl, hg 0 (by omega) _ rfl, hg 1 (by omega) _ rfl, hg 2 (by omega) _ rfl, hg 3 (by omega) _ rfl, (by have := hg 4 (by omega) _ rfl; rw [he] at this; exact this), hm⟩
theorem sets_up {w : World} {B n : Nat} {a : Option Addr} {c : Nat} {Lp : List (SetP × Value)} {S : List SetP} (h : OwnSets w B (.slice a n c) Lp) (hm : Lp.map Prod.fst = S) (hn : S.length = n) : SetsUp w B a n S := by
  obtain ⟨a', c', he, hs, -⟩ := SetsUp.own h
  have hl : Lp.length = n := by rw [← hn, ← hm, List.length_map]
  rw [hl] at he hs
  simp only [Value.slice.injEq] at he
  rw [hm, ← he.1] at hs
  exact hs
theorem own_far {w w' : World} {B1 B2 n1 n2 s1 s2 : Nat} {e1 e2 : TypeId} {v1 v2 : Value} {x1 x2 : List Value} (he : e1 ≠ e2) (h1 : w.ownsRow B1 e1 s1 v1 n1 x1) (h2 : w.ownsRow B2 e2 s2 v2 n2 x2) (hg : w.grownBy w' v2.ownBlock) : w'.ownsRow B1 e1 s1 v1 n1 x1 :=
  own_apart7 h1 hg (fun k hk e => by
    rcases own_ne2 he h1 h2 with h9 | h9
    · rw [hk] at h9; cases h9
    · exact h9 (hk.trans e.symm))
theorem own_above {w : World} {B n s q : Nat} {e : TypeId} {v : Value} {xs : List Value} (h : w.ownsRow B e s v n xs) (hq : q < B) : some q ≠ v.ownBlock := fun e => by
  have := (h.lt q e.symm).1
  omega
theorem OwnSets.grow {w w' : World} {B B2 n : Nat} {v vr : Value} {L : List (SetP × Value)} {xs : List Value} (h : OwnSets w B v L) (hr : w.ownsRow B2 85 6 vr n xs) (hg : w.grownBy w' vr.ownBlock) : OwnSets w' B v L :=
  ⟨own_far (by decide) h.1 hr hg, fun p hp => own_far (by decide) (h.2.1 p hp) hr hg, h.2.2⟩
/-- A row of ranked sets of the call's own. -/
def OwnRk (w : World) (B : Nat) (v : Value) (m : Nat) (Lp : List ((SetP × Value) × Int)) : Prop := w.ownsRow B 85 6 v m (flatT Lp) ∧ ∀ p ∈ Lp, w.ownsRow B 9 1 p.1.2 p.1.1.data.length (sc p.1.1.data)
theorem OwnRk.below {w w' : World} {B m : Nat} {v : Value} {Lp : List ((SetP × Value) × Int)} (h : OwnRk w B v m Lp) (hb : Below w.heap.size w w') : OwnRk w' B v m Lp := ⟨own_below' h.1 hb, fun p hp => own_below' (h.2 p hp) hb⟩
theorem OwnRk.lit {w : World} {B : Nat} {s : SetP} {dv : Value} (rk : Int) (hB : B ≤ w.heap.size) (hd : w.ownsRow B 9 1 dv s.data.length (sc s.data)) : OwnRk (w.alloc (.cells #[.string s.k.n, .int .i64 s.k.t, .int .i64 s.k.c, .int .i64 s.ttl, dv, .int .i64 rk] 85)) B (.slice (some ⟨w.heap.size, 0, none⟩) 1 1) 1 [((s, dv), rk)] :=
  ⟨World.ownsRow_lit w _ 1 hB (by decide) rfl, fun p hp => by obtain rfl := List.mem_singleton.1 hp; exact own_below' hd ((Below.refl _ _).alloc (Nat.le_refl _) _)⟩
theorem OwnRk.app {w w' : World} {B m : Nat} {v v' : Value} {Lp : List ((SetP × Value) × Int)} {s : SetP} {dv : Value} {rk : Int} (h : OwnRk w B v m Lp) (_ : Lp.length = m) (hd : w.ownsRow B 9 1 dv s.data.length (sc s.data)) (hown : w'.ownsRow B 85 6 v' (m + 1) (flatT Lp ++ encTk ((s, dv), rk))) (hg : w.grownBy w' v.ownBlock) : OwnRk w' B v' (m + 1) (Lp ++ [((s, dv), rk)]) := by
  refine ⟨by rw [flatT_append]; simpa [flatT] using hown, fun p hp => ?_⟩
  rcases List.mem_append.1 hp with hp | hp
  · exact own_far (by decide) (h.2 p hp) h.1 hg
  · obtain rfl := List.mem_singleton.1 hp
    exact own_far (by decide) hd h.1 hg
theorem encTk_one (p : SetP × Value) (r : Int) (h : ∃ a n c, p.2 = .slice a n c) : ∀ u ∈ encTk (p, r), u.oneCell' = true := by
  obtain ⟨a, n, c, he⟩ := h
  intro u hu
  simp only [encTk, encS, List.cons_append, List.nil_append, List.mem_cons, List.not_mem_nil, or_false] at hu
  rcases hu with rfl | rfl | rfl | rfl | rfl | rfl
  · rfl
  · rfl
  · rfl
  · rfl
  · rw [he]; rfl
  · rfl
theorem CN.b5 {w : World} {q : Nat} {c0 c1 c2 c3 c4 : Value} (h : CN w q [c0, c1, c2, c3, c4]) (d0 d1 d2 d3 d4 : Value) : CN (((((w.setCell ⟨q, 0, none⟩ d0).setCell ⟨q, 1, none⟩ d1).setCell ⟨q, 2, none⟩ d2).setCell ⟨q, 3, none⟩ d3).setCell ⟨q, 4, none⟩ d4) q [d0, d1, d2, d3, d4] :=
  ((((h.set 0 (by simp) d0).set 1 (by simp) d1).set 2 (by simp) d2).set 3 (by simp) d3).set 4 (by simp) d4
theorem grown_b5 (w : World) (q : Nat) (d0 d1 d2 d3 d4 : Value) : w.grownBy (((((w.setCell ⟨q, 0, none⟩ d0).setCell ⟨q, 1, none⟩ d1).setCell ⟨q, 2, none⟩ d2).setCell ⟨q, 3, none⟩ d3).setCell ⟨q, 4, none⟩ d4) (some q) :=
  ((((grown_cell w q 0 d0).trans (grown_cell _ q 1 d1)).trans (grown_cell _ q 2 d2)).trans (grown_cell _ q 3 d3)).trans (grown_cell _ q 4 d4)
/-- What stands while the cut below is sought. -/
def RfI (w0 w : World) (q2 q3 q4 q5 : Nat) (D1 D2 : List Value) (b : SetP) : Prop := CN w q2 D1 ∧ CN w q3 D2 ∧ CN w q4 [.int .i64 0, .int .i64 0, .slice none 0 0, .string ⟨#[]⟩] ∧ (∃ ba bc, CN w q5 [.string b.k.n, .int .i64 b.k.t, .int .i64 b.k.c, .int .i64 b.ttl, .slice ba b.data.length bc] ∧ w.ownsRow (q5 + 1) 9 1 (.slice ba b.data.length bc) b.data.length (sc b.data)) ∧ Below w0.heap.size w0 w
theorem RfI.below {w0 w w' : World} {q2 q3 q4 q5 : Nat} {D1 D2 : List Value} {b : SetP} (h : RfI w0 w q2 q3 q4 q5 D1 D2 b) (hb : Below w.heap.size w w') : RfI w0 w' q2 q3 q4 q5 D1 D2 b := by
  obtain ⟨h1, h2, h3, ⟨ba, bc, h4, h5⟩, h6⟩ := h
  exact ⟨h1.below hb, h2.below hb, h3.below hb, ⟨ba, bc, h4.below hb, own_below' h5 hb⟩, h6.trans (hb.mono h6.size)⟩
theorem RfI.store {w0 w : World} {q2 q3 q4 q5 : Nat} {D1 D2 : List Value} {b s : SetP} {da : Option Addr} {dc : Nat} (h : RfI w0 w q2 q3 q4 q5 D1 D2 b) (hq : q2 < q5 ∧ q3 < q5 ∧ q4 < q5 ∧ w0.heap.size ≤ q5) (ho : w.ownsRow (q5 + 1) 9 1 (.slice da s.data.length dc) s.data.length (sc s.data)) : RfI w0 (((((w.setCell ⟨q5, 0, none⟩ (.string s.k.n)).setCell ⟨q5, 1, none⟩ (.int .i64 s.k.t)).setCell ⟨q5, 2, none⟩ (.int .i64 s.k.c)).setCell ⟨q5, 3, none⟩ (.int .i64 s.ttl)).setCell ⟨q5, 4, none⟩ (.slice da s.data.length dc)) q2 q3 q4 q5 D1 D2 s := by
  obtain ⟨h1, h2, h3, ⟨ba, bc, h4, h5⟩, h6⟩ := h
  obtain ⟨k1, k2, k3, k4⟩ := hq
  have hg := grown_b5 w q5 (.string s.k.n) (.int .i64 s.k.t) (.int .i64 s.k.c) (.int .i64 s.ttl) (.slice da s.data.length dc)
  have ne : ∀ q, q < q5 → some q ≠ some q5 := fun q hq e => by injection e with e; omega
  refine ⟨h1.grown hg (ne _ k1), h2.grown hg (ne _ k2), h3.grown hg (ne _ k3), ⟨da, dc, h4.b5 _ _ _ _ _, own_apart7 ho hg (fun k hk e => by injection e with e; have := (ho.lt k hk).1; omega)⟩, h6.grown hg h6.size (fun k hk => by injection hk with hk; rw [← hk]; exact k4)⟩
theorem RfI.grow {w0 w w' : World} {q2 q3 q4 q5 n : Nat} {D1 D2 : List Value} {b : SetP} {v : Value} {xs : List Value} (h : RfI w0 w q2 q3 q4 q5 D1 D2 b) (hq : q2 < q5 ∧ q3 < q5 ∧ q4 < q5 ∧ w0.heap.size ≤ q5) (hr : w.ownsRow (q5 + 1) 85 6 v n xs) (hg : w.grownBy w' v.ownBlock) : RfI w0 w' q2 q3 q4 q5 D1 D2 b := by
  obtain ⟨h1, h2, h3, ⟨ba, bc, h4, h5⟩, h6⟩ := h
  obtain ⟨k1, k2, k3, k4⟩ := hq
  exact ⟨h1.grown hg (own_above hr (by omega)), h2.grown hg (own_above hr (by omega)), h3.grown hg (own_above hr (by omega)), ⟨ba, bc, h4.grown hg (own_above hr (by omega)), own_far (by decide) h5 hr hg⟩, h6.grown hg h6.size (fun k hk => by have := (hr.lt k hk).1; omega)⟩
theorem fold_next {α : Type} {f : α → SetP → α} {b : α} {l : List SetP} {k : Nat} {s : SetP} (h : l[k]? = some s) : (l.take (k + 1)).foldl f b = f ((l.take k).foldl f b) s := by
  rw [List.take_add_one, h, List.foldl_append]; rfl
theorem glu_next {b : SetP} {l : List SetP} {k : Nat} {s : SetP} (h : l[k]? = some s) : gluF b (l.take (k + 1)) = gluF b (l.take k) ++ (if gluB b s = true then [s] else []) := by
  rw [gluF, gluF, List.take_add_one, h, List.filter_append]
  congr 1
  cases hc : gluB b s <;> simp [hc]
theorem glu_t {b : SetP} {sn : ByteArray} {st sk su : Int} {sd : List ByteArray} (h : decide (st ∈ [(1 : Int), 28]) = false) : gluB b ⟨⟨sn, st, sk⟩, su, sd⟩ = false := by show (decide (st ∈ [(1 : Int), 28]) && _) = false; rw [h]; rfl
theorem glu_h {b : SetP} {sn : ByteArray} {st sk su : Int} {sd : List ByteArray} (h : memS sn b.data = false) : gluB b ⟨⟨sn, st, sk⟩, su, sd⟩ = false := by show (_ && memS sn b.data) = false; rw [h, Bool.and_false]
theorem glu_y {b : SetP} {sn : ByteArray} {st sk su : Int} {sd : List ByteArray} (h : decide (st ∈ [(1 : Int), 28]) = true) (h2 : memS sn b.data = true) : gluB b ⟨⟨sn, st, sk⟩, su, sd⟩ = true := by show (decide (st ∈ [(1 : Int), 28]) && memS sn b.data) = true; rw [h, h2]; rfl
section
variable {cut qn : ByteArray} {qt : Int} {s b : SetP}
theorem lead_t (h : ¬ s.k.t = 2) : leadB cut qn qt s = false := by simp [leadB, h]
theorem lead_c (h : s.k.n = cut) : leadB cut qn qt s = false := by simp [leadB, h]
theorem lead_u (h : undS qn s.k.n = false) : leadB cut qn qt s = false := by simp [leadB, h]
theorem lead_d (h : qt = 43) (h2 : s.k.n = qn) : leadB cut qn qt s = false := by simp [leadB, h, h2]
theorem lead_y (h : s.k.t = 2) (h2 : ¬ s.k.n = cut) (h3 : undS qn s.k.n = true) (h4 : ¬ (qt = 43 ∧ s.k.n = qn)) : leadB cut qn qt s = true := by
  simp only [leadB, h, h2, h3, decide_true, decide_false, Bool.not_false, Bool.true_and, Bool.not_eq_true', Bool.and_eq_false_iff, decide_eq_false_iff_not]
  by_cases h5 : qt = 43
  · exact Or.inr (fun h6 => h4 ⟨h5, h6⟩)
  · exact Or.inl h5
theorem belS_no (h : leadB cut qn qt s = false) : belS cut qn qt b s = b := by rw [belS, if_neg (fun h1 => by rw [h] at h1; exact Bool.false_ne_true h1.1)]
theorem belS_le (h : ¬ b.k.n.size < s.k.n.size) : belS cut qn qt b s = b := by rw [belS, if_neg (fun h1 => h h1.2)]
theorem bel_mem (l : List SetP) : ∀ b, l.foldl (belS cut qn qt) b = b ∨ l.foldl (belS cut qn qt) b ∈ l := by
  induction l with
  | nil => exact fun b => Or.inl rfl
  | cons x l ih =>
    intro b
    rw [List.foldl_cons]
    rcases ih (belS cut qn qt b x) with h | h
    · rw [h]
      unfold belS
      split
      · exact Or.inr List.mem_cons_self
      · exact Or.inl rfl
    · exact Or.inr (List.mem_cons_of_mem _ h)
theorem belS_yes (h : leadB cut qn qt s = true) (h2 : b.k.n.size < s.k.n.size) : belS cut qn qt b s = s := by rw [belS, if_pos ⟨h, h2⟩]
end
set_option maxRecDepth 100000 in
set_option maxHeartbeats 8000000 in
theorem referred_any (cut qn : ByteArray) (qt qc : Int) (m : MsgP) (mv : Value) (w : World) (h : MsgAt w mv m) (hs : ScM m) (hc : cut.size ≤ 1000000) (hqs : qn.size ≤ 1000000) :
    Calls Try.prog 73 #[.string cut, .agg #[.string qn, .int .i64 qt, .int .i64 qc], mv] w fun e w' => OkO (refO cut qn qt (wiF cut m.n) (wiF cut m.x)) w e w' := by
  obtain ⟨mi, mo, mr, b1, b2, b3, b4, b5, Q, A, N, X⟩ := m
  obtain ⟨pa, pc, aa, ac, na, nc, xa, xc, rfl, -, ⟨hra, -⟩, ⟨hrn, -⟩, ⟨hrx, -⟩⟩ := h
  obtain ⟨⟨hl1, hk1, hd1⟩, ⟨hl2, hk2, hd2⟩, ⟨hl3, hk3, hd3⟩⟩ := hs
  dsimp only at *
  obtain ⟨pl, hpl⟩ : ∃ x, Q.length = x := ⟨_, rfl⟩
  obtain ⟨al, hal⟩ : ∃ x, A.length = x := ⟨_, rfl⟩
  obtain ⟨nl, hnl⟩ : ∃ x, N.length = x := ⟨_, rfl⟩
  obtain ⟨xl, hxl⟩ : ∃ x, X.length = x := ⟨_, rfl⟩
  rw [hal] at hra hl1
  rw [hnl] at hrn hl2
  rw [hxl] at hrx hl3
  rw [hpl, hal, hnl, hxl]
  have HCT := Lib.hid hc
  have HB := Lib.hid (Below.refl w.heap.size w)
  have HRn := Lib.hid hrn
  have HLn := Lib.hid hl2
  have HKn := Lib.hid hk2
  have HDn := Lib.hid hd2
  have HRx := Lib.hid hrx
  have HLx := Lib.hid hl3
  have HKx := Lib.hid hk3
  have HDx := Lib.hid hd3
  have HX0 := Lib.hid hrx
  have HQS := Lib.hid hqs
  clear hra hrn hrx hl1 hk1 hd1 hl2 hk2 hd2 hl3 hk3 hd3 hpl hal hnl hxl hc hqs
  clear HRx
  obtain ⟨i0, hi, hz0, hz1, hz2⟩ := info_parts infoRk
  have HI0 := Lib.hid hi
  have HZ0 := Lib.hid hz0
  have HZ1 := Lib.hid hz1
  have HZ2 := Lib.hid hz2
  clear hi hz0 hz1 hz2
  go_enter Try.func73, Try.ntmps73
  have hba := (Below.refl _ _ : Below w.heap.size w w).alloc (Nat.le_refl _) (.cells #[.string qn, .int .i64 qt, .int .i64 qc] 71)
  have C1 := Lib.hid (CN.new w #[.string qn, .int .i64 qt, .int .i64 qc] 71)
  replace HRn := Lib.hid (HRn.out.below hba)
  replace HB := Lib.hid (HB.out.trans (hba.mono HB.out.size))
  obtain ⟨w2, hw⟩ : ∃ x, w.alloc (.cells #[.string qn, .int .i64 qt, .int .i64 qc] 71) = x := ⟨_, rfl⟩
  obtain ⟨q2, hq⟩ : ∃ x, w.heap.size = x := ⟨_, rfl⟩
  rw [hw, hq] at C1
  rw [hw] at HRn HB
  have HWw2 := Lib.hid hw
  have HQq2 := Lib.hid hq
  clear hba hw hq
  have hba := (Below.refl _ _ : Below w2.heap.size w2 w2).alloc (Nat.le_refl _) (.cells #[.int .i64 mi, .int .i64 mo, .int .i64 mr, .bool b1, .bool b2, .bool b3, .bool b4, .bool b5, .slice pa pl pc, .slice aa al ac, .slice na nl nc, .slice xa xl xc] 77)
  have C2 := Lib.hid (CN.new w2 #[.int .i64 mi, .int .i64 mo, .int .i64 mr, .bool b1, .bool b2, .bool b3, .bool b4, .bool b5, .slice pa pl pc, .slice aa al ac, .slice na nl nc, .slice xa xl xc] 77)
  replace HRn := Lib.hid (HRn.out.below hba)
  replace HB := Lib.hid (HB.out.trans (hba.mono HB.out.size))
  replace C1 := Lib.hid (C1.out.below hba)
  obtain ⟨w3, hw⟩ : ∃ x, w2.alloc (.cells #[.int .i64 mi, .int .i64 mo, .int .i64 mr, .bool b1, .bool b2, .bool b3, .bool b4, .bool b5, .slice pa pl pc, .slice aa al ac, .slice na nl nc, .slice xa xl xc] 77) = x := ⟨_, rfl⟩
  obtain ⟨q3, hq⟩ : ∃ x, w2.heap.size = x := ⟨_, rfl⟩
  rw [hw, hq] at C2
  rw [hw] at HRn HB C1
  have HSq3 := Lib.hid (show q2 + 1 = q3 by rw [← HQq2.out, ← hq, ← HWw2.out, World.size_alloc])
  have HWw3 := Lib.hid hw
  have HQq3 := Lib.hid hq
  clear hba hw hq
  have hba := (Below.refl _ _ : Below w3.heap.size w3 w3).alloc (Nat.le_refl _) (.cells #[.int .i64 0, .int .i64 0, .slice none 0 0, .string ⟨#[]⟩] 81)
  have C3 := Lib.hid (CN.new w3 #[.int .i64 0, .int .i64 0, .slice none 0 0, .string ⟨#[]⟩] 81)
  replace HRn := Lib.hid (HRn.out.below hba)
  replace HB := Lib.hid (HB.out.trans (hba.mono HB.out.size))
  replace C1 := Lib.hid (C1.out.below hba)
  replace C2 := Lib.hid (C2.out.below hba)
  obtain ⟨w4, hw⟩ : ∃ x, w3.alloc (.cells #[.int .i64 0, .int .i64 0, .slice none 0 0, .string ⟨#[]⟩] 81) = x := ⟨_, rfl⟩
  obtain ⟨q4, hq⟩ : ∃ x, w3.heap.size = x := ⟨_, rfl⟩
  rw [hw, hq] at C3
  rw [hw] at HRn HB C1 C2
  have HSq4 := Lib.hid (show q3 + 1 = q4 by rw [← HQq3.out, ← hq, ← HWw3.out, World.size_alloc])
  have HWw4 := Lib.hid hw
  have HQq4 := Lib.hid hq
  clear hba hw hq
  go_upto_region 1 with (fail)
  rw [HWw2.out, HWw3.out, HWw4.out]
  rw [show (Value.pointer (some { block := w.heap.size + 1 + 1, off := 0 })) = Value.pointer (some { block := q4, off := 0 }) by rw [HQq2.out, HSq3.out, HSq4.out]]
  rw [show (Value.pointer (some { block := w.heap.size + 1, off := 0 })) = Value.pointer (some { block := q3, off := 0 }) by rw [HQq2.out, HSq3.out]]
  rw [show (Value.pointer (some { block := w.heap.size, off := 0 })) = Value.pointer (some { block := q2, off := 0 }) by rw [HQq2.out]]
  have hba := (Below.refl _ _ : Below w4.heap.size w4 w4).alloc (Nat.le_refl _) (.cells #[.string ⟨#[]⟩, .int .i64 0, .int .i64 0, .int .i64 0, .slice none 0 0] 39)
  have HQ45 := Lib.hid (show q4 < w4.heap.size from C3.out.1)
  have C4 := Lib.hid (CN.new w4 #[.string ⟨#[]⟩, .int .i64 0, .int .i64 0, .int .i64 0, .slice none 0 0] 39)
  replace HRn := Lib.hid (HRn.out.below hba)
  replace HB := Lib.hid (HB.out.trans (hba.mono HB.out.size))
  replace C1 := Lib.hid (C1.out.below hba)
  replace C2 := Lib.hid (C2.out.below hba)
  replace C3 := Lib.hid (C3.out.below hba)
  obtain ⟨w5, hw⟩ : ∃ x, w4.alloc (.cells #[.string ⟨#[]⟩, .int .i64 0, .int .i64 0, .int .i64 0, .slice none 0 0] 39) = x := ⟨_, rfl⟩
  obtain ⟨q5, hq⟩ : ∃ x, w4.heap.size = x := ⟨_, rfl⟩
  rw [hq] at HQ45
  rw [hw, hq] at C4
  rw [hw] at HRn HB C1 C2 C3
  have HW := Lib.hid hw
  have HQ_ := Lib.hid hq
  clear hba hw hq
  go_upto_region 2 with (fail)
  rw [HW.out, HQ_.out]
  clear HW HQ_
  have HQ4 := Lib.hid (show w.heap.size ≤ q4 by have h := HSq3.out; have h2 := HSq4.out; have h3 := HQq2.out; omega)
  have HQ5 := Lib.hid (show q2 < q5 ∧ q3 < q5 ∧ q4 < q5 ∧ w.heap.size ≤ q5 by have h := HSq3.out; have h2 := HSq4.out; have h3 := HQq2.out; have h4 := HQ45.out; omega)
  obtain ⟨m0, m1, m2, m3, m4, m5, m6, m7, m8, m9, m10, m11, _⟩ := C2.out.u12
  have HFA := Lib.hid (show q5 + 1 ≤ w5.heap.size from C4.out.1)
  go_wp2_with fail
  refine (within_any cut na nl nc N w5 HRn.out (Nat.le_trans HLn.out (by decide)) HKn.out HDn.out HCT.out).mono ?_; rintro e w6 ⟨wan, wcn, Sn, rfl, hS, hs1, hs2, hsu, hso, hb⟩
  clear m0 m1 m2 m3 m4 m5 m6 m7 m8 m9 m10 m11
  replace HRn := Lib.hid (HRn.out.below hb)
  replace HB := Lib.hid (HB.out.trans (hb.mono HB.out.size))
  replace C1 := Lib.hid (C1.out.below hb)
  replace C2 := Lib.hid (C2.out.below hb)
  replace C3 := Lib.hid (C3.out.below hb)
  replace C4 := Lib.hid (C4.out.below hb)
  clear hb
  have HSn := Lib.hid hS
  have HSMn := Lib.hid (show ∀ s ∈ Sn, s.k.n.size ≤ 1000000 ∧ s.data.length ≤ 100000 ∧ ∀ d ∈ s.data, d.size ≤ 1000000 by have h := wiF_small (cut := cut) (by rw [HRn.out.1]; exact Nat.le_trans HLn.out (by decide)) HKn.out HDn.out (by rw [hS]; exact hs1); rw [hS] at h; exact h)
  have HZLn := Lib.hid (show Sn.length ≤ 10000 by have h := HLn.out; rw [← HRn.out.1] at h; omega)
  obtain ⟨zln, hzl⟩ : ∃ x, Sn.length = x := ⟨_, rfl⟩
  rw [hzl] at hsu HZLn ⊢
  have HSUn := Lib.hid hsu
  have HLNn := Lib.hid hzl
  clear hS hs1 hs2 hsu hso hzl
  have HI := Lib.hid (show RfI w w6 q2 q3 q4 q5 [.string qn, .int .i64 qt, .int .i64 qc] [.int .i64 mi, .int .i64 mo, .int .i64 mr, .bool b1, .bool b2, .bool b3, .bool b4, .bool b5, .slice pa pl pc, .slice aa al ac, .slice na nl nc, .slice xa xl xc] sZ from ⟨C1.out, C2.out, C3.out, ⟨none, 0, C4.out, World.ownsRow_nil _ _ _ _⟩, HB.out⟩)
  replace HSUn := Lib.hid (HSUn.out.mono HFA.out)
  clear C1 C2 C3 C4 HRn HB HFA HQ45
  go_wp2_with fail
  go_loopw [20] (fun i wr => ∃ (k : Nat) (b : SetP), k ≤ zln ∧ i = .int .i64 k ∧ Hid ((Sn.take k).foldl (belS cut qn qt) sZ = b) ∧ Hid (RfI w wr q2 q3 q4 q5 [.string qn, .int .i64 qt, .int .i64 qc] [.int .i64 mi, .int .i64 mo, .int .i64 mr, .bool b1, .bool b2, .bool b3, .bool b4, .bool b5, .slice pa pl pc, .slice aa al ac, .slice na nl nc, .slice xa xl xc] b) ∧ Hid (SetsUp wr (q5 + 1) wan zln Sn)) (fun i _ => zln - (intOf i).toNat)
  case atStart => exact ⟨0, sZ, Nat.zero_le _, rfl, Lib.hid rfl, HI, HSUn⟩
  case round =>
    clear HI HSUn
    obtain ⟨k, ⟨⟨bn, bt, bk⟩, bu, bd⟩, hk, rfl, HFB, HI, HSUn⟩ := hrel
    by_cases hlt : k < zln
    · obtain ⟨gs, s, da, dc, hwa, hgs, hLk, x0, x1, x2, x3, x4, hor⟩ := HSUn.out.get k hlt
      subst hwa
      obtain ⟨⟨sn, st, sk⟩, su, sd⟩ := s
      replace x0 : wr.cell? ⟨gs, k * 5, none⟩ = some (.string sn) := x0
      replace x1 : wr.cell? ⟨gs, k * 5 + 1, none⟩ = some (.int .i64 st) := x1
      replace x2 : wr.cell? ⟨gs, k * 5 + 2, none⟩ = some (.int .i64 sk) := x2
      replace x3 : wr.cell? ⟨gs, k * 5 + 3, none⟩ = some (.int .i64 su) := x3
      replace x4 : wr.cell? ⟨gs, k * 5 + 4, none⟩ = some (.slice da sd.length dc) := x4
      replace hor : wr.ownsRow (q5 + 1) 9 1 (.slice da sd.length dc) sd.length (sc sd) := hor
      obtain ⟨dl, hdl⟩ : ∃ x, sd.length = x := ⟨_, rfl⟩
      rw [hdl] at x4 hor
      have HDL := Lib.hid hdl
      have HLK := Lib.hid hLk
      have HMM := Lib.hid (HSMn.out _ (List.mem_of_getElem? hLk))
      have HO := Lib.hid hor
      have HLT := Lib.hid hlt
      have i1 : (0 : Int) ≤ (k : Int) := by omega
      have i2 : (k : Int) < (zln : Int) := by omega
      clear hdl hLk hor hgs hlt hk
      have hba := (Below.refl _ _ : Below wr.heap.size wr wr).alloc (Nat.le_refl _) (.cells #[.string sn, .int .i64 st, .int .i64 sk, .int .i64 su, .slice da dl dc] 39)
      have D1 := Lib.hid (CN.new wr #[.string sn, .int .i64 st, .int .i64 sk, .int .i64 su, .slice da dl dc] 39)
      replace HI := Lib.hid (HI.out.below hba)
      replace HSUn := Lib.hid (HSUn.out.below hba)
      replace HO := Lib.hid (own_below' HO.out hba)
      obtain ⟨w7, hw⟩ : ∃ x, wr.alloc (.cells #[.string sn, .int .i64 st, .int .i64 sk, .int .i64 su, .slice da dl dc] 39) = x := ⟨_, rfl⟩
      obtain ⟨q7, hq⟩ : ∃ x, wr.heap.size = x := ⟨_, rfl⟩
      rw [hw, hq] at D1
      rw [hw] at HI HSUn HO
      have HW := Lib.hid hw
      have HQ_ := Lib.hid hq
      clear hba hw hq
      go_upto_region 5 with (fail)
      rw [HW.out, HQ_.out]
      clear HW HQ_
      clear x0 x1 x2 x3 x4
      obtain ⟨y0, y1, y2, y3, y4, _⟩ := D1.out.u5
      obtain ⟨p0, p1, p2, _⟩ := HI.out.1.u3
      have HIK := Lib.hid (isK ⟨sn, st, sk⟩ _ 1 1 [2] _ (row_litC1 w7 2 3) (by decide))
      have hba := (Below.refl _ _ : Below w7.heap.size w7 w7).alloc (Nat.le_refl _) (.cells #[.int .i64 2] 3)
      replace HI := Lib.hid (HI.out.below hba)
      replace HSUn := Lib.hid (HSUn.out.below hba)
      replace HO := Lib.hid (own_below' HO.out hba)
      replace D1 := Lib.hid (D1.out.below hba)
      clear hba
      obtain ⟨vt, hvt⟩ : ∃ x, decide ((⟨sn, st, sk⟩ : Ky).t ∈ [(2 : Int)]) = x := ⟨_, rfl⟩
      rw [hvt] at HIK
      have HVT := Lib.hid (show decide (st = 2) = vt by first | exact hvt | (rw [← hvt]; simp))
      clear hvt
      go_wp2_with fail
      refine HIK.out.mono ?_; rintro e w8 ⟨rfl, hb⟩
      clear y0 y1 y2 y3 y4 p0 p1 p2
      clear HIK
      replace HI := Lib.hid (HI.out.below hb)
      replace HSUn := Lib.hid (HSUn.out.below hb)
      replace HO := Lib.hid (own_below' HO.out hb)
      replace D1 := Lib.hid (D1.out.below hb)
      clear hb
      obtain ⟨y0, y1, y2, y3, y4, _⟩ := D1.out.u5
      obtain ⟨p0, p1, p2, _⟩ := HI.out.1.u3
      cases vt
      · have hmn := HZLn.out
        have hlt9 := HLT.out
        have HNX := Lib.hid (show (Sn.take (k + 1)).foldl (belS cut qn qt) sZ = ⟨⟨bn, bt, bk⟩, bu, bd⟩ by rw [fold_next HLK.out, HFB.out]; exact belS_no (lead_t (of_decide_eq_false HVT.out)))
        go_wp2
        go_roundw
        case rel => exact ⟨k + 1, ⟨⟨bn, bt, bk⟩, bu, bd⟩, by have := HLT.out; omega, by have := HLT.out; have := HZLn.out; go_num, HNX, HI, HSUn⟩
        case measure => have := HLT.out; have := HZLn.out; simp [intOf]; omega
      · by_cases hcn : sn = cut
        · have s1 := strC_eq hcn
          have s2 := strC_neF hcn
          have HCN := Lib.hid hcn
          clear hcn
          have hmn := HZLn.out
          have hlt9 := HLT.out
          have HNX := Lib.hid (show (Sn.take (k + 1)).foldl (belS cut qn qt) sZ = ⟨⟨bn, bt, bk⟩, bu, bd⟩ by rw [fold_next HLK.out, HFB.out]; exact belS_no (lead_c HCN.out))
          go_wp2
          go_roundw
          case rel => exact ⟨k + 1, ⟨⟨bn, bt, bk⟩, bu, bd⟩, by have := HLT.out; omega, by have := HLT.out; have := HZLn.out; go_num, HNX, HI, HSUn⟩
          case measure => have := HLT.out; have := HZLn.out; simp [intOf]; omega
        · have s1 := strC_ne hcn
          have s2 := strC_neT hcn
          have HCN := Lib.hid hcn
          clear hcn
          obtain ⟨vu, hvu⟩ : ∃ x, undS qn sn = x := ⟨_, rfl⟩
          have HU := Lib.hid (fun wx => under_any qn sn wx HQS.out HMM.out.1)
          rw [hvu] at HU
          have HVU := Lib.hid hvu
          clear hvu
          go_wp2_with fail
          refine (HU.out _).mono ?_; rintro e w9 ⟨rfl, rfl⟩
          clear HU s1 s2
          cases vu
          · have hmn := HZLn.out
            have hlt9 := HLT.out
            have HNX := Lib.hid (show (Sn.take (k + 1)).foldl (belS cut qn qt) sZ = ⟨⟨bn, bt, bk⟩, bu, bd⟩ by rw [fold_next HLK.out, HFB.out]; exact belS_no (lead_u HVU.out))
            go_wp2
            go_roundw
            case rel => exact ⟨k + 1, ⟨⟨bn, bt, bk⟩, bu, bd⟩, by have := HLT.out; omega, by have := HLT.out; have := HZLn.out; go_num, HNX, HI, HSUn⟩
            case measure => have := HLT.out; have := HZLn.out; simp [intOf]; omega
          · by_cases h43 : qt = 43
            · have f1 : (qt == 43) = true := eT h43
              have H43 := Lib.hid h43
              clear h43
              by_cases hqn : sn = qn
              · have s1 := strC_eq hqn
                have s2 := strC_eq hqn.symm
                have HQN := Lib.hid hqn
                clear hqn
                have hmn := HZLn.out
                have hlt9 := HLT.out
                have HNX := Lib.hid (show (Sn.take (k + 1)).foldl (belS cut qn qt) sZ = ⟨⟨bn, bt, bk⟩, bu, bd⟩ by rw [fold_next HLK.out, HFB.out]; exact belS_no (lead_d H43.out HQN.out))
                go_wp2
                go_roundw
                case rel => exact ⟨k + 1, ⟨⟨bn, bt, bk⟩, bu, bd⟩, by have := HLT.out; omega, by have := HLT.out; have := HZLn.out; go_num, HNX, HI, HSUn⟩
                case measure => have := HLT.out; have := HZLn.out; simp [intOf]; omega
              · have s1 := strC_ne hqn
                have s2 := strC_ne (fun h => hqn h.symm)
                have HQN := Lib.hid hqn
                clear hqn
                have HLD := Lib.hid (show leadB cut qn qt ⟨⟨sn, st, sk⟩, su, sd⟩ = true from lead_y (of_decide_eq_true HVT.out) HCN.out HVU.out (fun h => HQN.out h.2))
                obtain ⟨ba, bc9, hq5, ho5⟩ := HI.out.2.2.2.1
                obtain ⟨b0, b1_, b2_, b3_, b4_, _⟩ := hq5.u5
                by_cases hsz : bn.size < sn.size
                · have e1 : decide (bn.size < sn.size) = true := dT hsz
                  have e2 : decide ((bn.size : Int) < (sn.size : Int)) = true := dT (by omega)
                  have HNX := Lib.hid (show (Sn.take (k + 1)).foldl (belS cut qn qt) sZ = ⟨⟨sn, st, sk⟩, su, sd⟩ by rw [fold_next HLK.out, HFB.out]; exact belS_yes HLD.out hsz)
                  clear hsz
                  obtain ⟨_, _, _, _, _, g0, g1, g2, g3, g4⟩ := hq5.u5
                  have hgz := grown_b5 w8 q5 (.string sn) (.int .i64 st) (.int .i64 sk) (.int .i64 su) (.slice da dl dc)
                  have HIZ := Lib.hid (HI.out.store (s := ⟨⟨sn, st, sk⟩, su, sd⟩) HQ5.out (by rw [HDL.out]; exact HO.out))
                  have HSZ := Lib.hid (HSUn.out.far hgz (Nat.lt_succ_self _))
                  rw [show (⟨⟨sn, st, sk⟩, su, sd⟩ : SetP).data.length = dl from HDL.out] at HIZ
                  dsimp only at HIZ
                  clear hgz
                  have hmn := HZLn.out
                  have hlt9 := HLT.out
                  go_wp2
                  go_roundw
                  case rel => exact ⟨k + 1, ⟨⟨sn, st, sk⟩, su, sd⟩, by have := HLT.out; omega, by have := HLT.out; have := HZLn.out; go_num, HNX, HIZ, HSZ⟩
                  case measure => have := HLT.out; have := HZLn.out; simp [intOf]; omega
                · have e1 : decide (bn.size < sn.size) = false := dF hsz
                  have e2 : decide ((bn.size : Int) < (sn.size : Int)) = false := dF (by omega)
                  have HZ := Lib.hid hsz
                  clear hsz hq5 ho5
                  have hmn := HZLn.out
                  have hlt9 := HLT.out
                  have HNX := Lib.hid (show (Sn.take (k + 1)).foldl (belS cut qn qt) sZ = ⟨⟨bn, bt, bk⟩, bu, bd⟩ by rw [fold_next HLK.out, HFB.out]; exact belS_le HZ.out)
                  go_wp2
                  go_roundw
                  case rel => exact ⟨k + 1, ⟨⟨bn, bt, bk⟩, bu, bd⟩, by have := HLT.out; omega, by have := HLT.out; have := HZLn.out; go_num, HNX, HI, HSUn⟩
                  case measure => have := HLT.out; have := HZLn.out; simp [intOf]; omega
            · have f1 : (qt == 43) = false := eF h43
              have H43 := Lib.hid h43
              clear h43
              have HLD := Lib.hid (show leadB cut qn qt ⟨⟨sn, st, sk⟩, su, sd⟩ = true from lead_y (of_decide_eq_true HVT.out) HCN.out HVU.out (fun h => H43.out h.1))
              obtain ⟨ba, bc9, hq5, ho5⟩ := HI.out.2.2.2.1
              obtain ⟨b0, b1_, b2_, b3_, b4_, _⟩ := hq5.u5
              by_cases hsz : bn.size < sn.size
              · have e1 : decide (bn.size < sn.size) = true := dT hsz
                have e2 : decide ((bn.size : Int) < (sn.size : Int)) = true := dT (by omega)
                have HNX := Lib.hid (show (Sn.take (k + 1)).foldl (belS cut qn qt) sZ = ⟨⟨sn, st, sk⟩, su, sd⟩ by rw [fold_next HLK.out, HFB.out]; exact belS_yes HLD.out hsz)
                clear hsz
                obtain ⟨_, _, _, _, _, g0, g1, g2, g3, g4⟩ := hq5.u5
                have hgz := grown_b5 w8 q5 (.string sn) (.int .i64 st) (.int .i64 sk) (.int .i64 su) (.slice da dl dc)
                have HIZ := Lib.hid (HI.out.store (s := ⟨⟨sn, st, sk⟩, su, sd⟩) HQ5.out (by rw [HDL.out]; exact HO.out))
                have HSZ := Lib.hid (HSUn.out.far hgz (Nat.lt_succ_self _))
                rw [show (⟨⟨sn, st, sk⟩, su, sd⟩ : SetP).data.length = dl from HDL.out] at HIZ
                dsimp only at HIZ
                clear hgz
                have hmn := HZLn.out
                have hlt9 := HLT.out
                go_wp2
                go_roundw
                case rel => exact ⟨k + 1, ⟨⟨sn, st, sk⟩, su, sd⟩, by have := HLT.out; omega, by have := HLT.out; have := HZLn.out; go_num, HNX, HIZ, HSZ⟩
                case measure => have := HLT.out; have := HZLn.out; simp [intOf]; omega
              · have e1 : decide (bn.size < sn.size) = false := dF hsz
                have e2 : decide ((bn.size : Int) < (sn.size : Int)) = false := dF (by omega)
                have HZ := Lib.hid hsz
                clear hsz hq5 ho5
                have hmn := HZLn.out
                have hlt9 := HLT.out
                have HNX := Lib.hid (show (Sn.take (k + 1)).foldl (belS cut qn qt) sZ = ⟨⟨bn, bt, bk⟩, bu, bd⟩ by rw [fold_next HLK.out, HFB.out]; exact belS_le HZ.out)
                go_wp2
                go_roundw
                case rel => exact ⟨k + 1, ⟨⟨bn, bt, bk⟩, bu, bd⟩, by have := HLT.out; omega, by have := HLT.out; have := HZLn.out; go_num, HNX, HI, HSUn⟩
                case measure => have := HLT.out; have := HZLn.out; simp [intOf]; omega
    · obtain rfl : k = zln := by omega
      have HBF := Lib.hid (show belF cut qn qt Sn = ⟨⟨bn, bt, bk⟩, bu, bd⟩ by have h := HFB.out; rw [List.take_of_length_le (by rw [HLNn.out]; exact Nat.le_refl _)] at h; exact h)
      clear hlt hk HFB HSUn
      obtain ⟨w5, hw5⟩ : ∃ x, wr = x := ⟨_, rfl⟩
      rw [hw5] at HI ⊢
      clear hw5
      obtain ⟨ba, bc9, hq5, ho5⟩ := HI.out.2.2.2.1
      obtain ⟨b0, b1_, b2_, b3_, b4_, _⟩ := hq5.u5
      clear ho5
      obtain ⟨bl, hbl⟩ : ∃ x, bd.length = x := ⟨_, rfl⟩
      replace b4_ : w5.cell? ⟨q5, 4, none⟩ = some (.slice ba bd.length bc9) := b4_
      rw [hbl] at b4_
      have HBL := Lib.hid hbl
      have HBLB := Lib.hid (show bl ≤ 100000 by
          have h := bel_mem (cut := cut) (qn := qn) (qt := qt) Sn sZ
          rw [show Sn.foldl (belS cut qn qt) sZ = ⟨⟨bn, bt, bk⟩, bu, bd⟩ from HBF.out] at h
          rcases h with h | h
          · have h2 : bd = [] := congrArg SetP.data h
            rw [← hbl, h2]; exact Nat.zero_le _
          · rw [← hbl]; exact (HSMn.out _ h).2.1)
      clear hbl hq5
      by_cases h0 : bl = 0
      · have f0 : ((bl : Int) == 0) = true := eT (by omega)
        have HV := Lib.hid (show refO cut qn qt (wiF cut N) (wiF cut X) = none by rw [HSn.out, refO, HBF.out]; exact if_pos (List.eq_nil_of_length_eq_zero (HBL.out.trans h0)))
        clear h0
        go_upto_region 10 with (fail)
        clear b0 b1_ b2_ b3_ b4_
        clear f0
        have HC3 := Lib.hid HI.out.2.2.1
        have HB := Lib.hid HI.out.2.2.2.2
        obtain ⟨y0, y1, y2, y3, g0, g1, g2, g3⟩ := HC3.out.o4
        have KZ := Lib.hid (HC3.out.p4 (.int .i64 0) (.int .i64 0) (.slice none 0 0) (.string ⟨#[]⟩))
        have HGZ := Lib.hid (grown_p4 w5 q4 (.int .i64 0) (.int .i64 0) (.slice none 0 0) (.string ⟨#[]⟩))
        have HBZ := Lib.hid (HB.out.grown HGZ.out HB.out.size (fun k hk => by injection hk with hk; rw [← hk]; exact HQ4.out))
        repeat go_step
        obtain ⟨wz, hwz⟩ : ∃ x, ((((w5.setCell ⟨q4, 0, none⟩ (.int .i64 0)).setCell ⟨q4, 1, none⟩ (.int .i64 0)).setCell ⟨q4, 2, none⟩ (.slice none 0 0)).setCell ⟨q4, 3, none⟩ (.string ⟨#[]⟩)) = x := ⟨_, rfl⟩
        rw [hwz] at KZ HBZ ⊢
        clear hwz HGZ y0 y1 y2 y3 g0 g1 g2 g3
        obtain ⟨z0, z1, z2, z3, _⟩ := KZ.out.o4
        refine bodyPost_ret (v := .tuple #[.agg #[.int .i64 0, .int .i64 0, .slice none 0 0, .string ⟨#[]⟩], .bool false]) (by simp [results, Try.results73, go_sem, z0, z1, z2, z3]) rfl ⟨⟨_, by rw [HV.out]; rfl, by rw [HV.out]; exact OutUp.bad _ _⟩, HBZ.out⟩
      · have f0 : ((bl : Int) == 0) = false := eF (by omega)
        have HB0 := Lib.hid h0
        clear h0
        go_upto_region 11 with (fail)
        clear b0 b1_ b2_ b3_ b4_
        clear f0
        obtain ⟨ba, bc9, hq5, ho5⟩ := HI.out.2.2.2.1
        obtain ⟨b0, b1_, b2_, b3_, b4_, _⟩ := hq5.u5
        replace ho5 : w5.ownsRow (q5 + 1) 9 1 (.slice ba bd.length bc9) bd.length (sc bd) := ho5
        replace b4_ : w5.cell? ⟨q5, 4, none⟩ = some (.slice ba bd.length bc9) := b4_
        replace hq5 : CN w5 q5 [.string bn, .int .i64 bt, .int .i64 bk, .int .i64 bu, .slice ba bd.length bc9] := hq5
        rw [HBL.out] at ho5 b4_ hq5
        have HQ5C := Lib.hid hq5
        have HO5 := Lib.hid ho5
        have HRK := Lib.hid (show OwnRk (w5.alloc (.cells #[.string bn, .int .i64 bt, .int .i64 bk, .int .i64 bu, .slice ba bl bc9, .int .i64 2] 85)) (q5 + 1) (.slice (some ⟨w5.heap.size, 0, none⟩) 1 1) 1 [((⟨⟨bn, bt, bk⟩, bu, bd⟩, .slice ba bl bc9), 2)] from OwnRk.lit (s := ⟨⟨bn, bt, bk⟩, bu, bd⟩) 2 HQ5C.out.1 (by rw [HBL.out]; exact HO5.out))
        clear hq5 ho5
        skip
        have hba := (Below.refl _ _ : Below w5.heap.size w5 w5).alloc (Nat.le_refl _) (.cells #[.string bn, .int .i64 bt, .int .i64 bk, .int .i64 bu, .slice ba bl bc9, .int .i64 2] 85)
        replace HI := Lib.hid (HI.out.below hba)
        replace HQ5C := Lib.hid (HQ5C.out.below hba)
        replace HO5 := Lib.hid (own_below' HO5.out hba)
        clear hba
        go_upto_region 12 with (fail)
        clear b0 b1_ b2_ b3_ b4_
        obtain ⟨w51, hw⟩ : ∃ x, w5.alloc (.cells #[.string bn, .int .i64 bt, .int .i64 bk, .int .i64 bu, .slice ba bl bc9, .int .i64 2] 85) = x := ⟨_, rfl⟩
        obtain ⟨q51, hq⟩ : ∃ x, w5.heap.size = x := ⟨_, rfl⟩
        rw [hw] at HI HQ5C HO5 HRK ⊢
        rw [hq] at HRK ⊢
        clear hw hq
        have HRx := Lib.hid (HX0.out.below HI.out.2.2.2.2)
        obtain ⟨m0, m1, m2, m3, m4, m5, m6, m7, m8, m9, m10, m11, _⟩ := HI.out.2.1.u12
        have HFA := Lib.hid (show q5 + 1 ≤ w51.heap.size from HQ5C.out.1)
        go_wp2_with fail
        refine (within_any cut xa xl xc X w51 HRx.out (Nat.le_trans HLx.out (by decide)) HKx.out HDx.out HCT.out).mono ?_; rintro e w52 ⟨wax, wcx, Sx, rfl, hS, hs1, hs2, hsu, hso, hb⟩
        clear m0 m1 m2 m3 m4 m5 m6 m7 m8 m9 m10 m11
        replace HI := Lib.hid (HI.out.below hb)
        replace HQ5C := Lib.hid (HQ5C.out.below hb)
        replace HO5 := Lib.hid (own_below' HO5.out hb)
        replace HRK := Lib.hid (HRK.out.below hb)
        replace HRx := Lib.hid (HRx.out.below hb)
        clear hb
        have HSx := Lib.hid hS
        have HSMx := Lib.hid (show ∀ s ∈ Sx, s.k.n.size ≤ 1000000 ∧ s.data.length ≤ 100000 ∧ ∀ d ∈ s.data, d.size ≤ 1000000 by have h := wiF_small (cut := cut) (by rw [HRx.out.1]; exact Nat.le_trans HLx.out (by decide)) HKx.out HDx.out (by rw [hS]; exact hs1); rw [hS] at h; exact h)
        have HZLx := Lib.hid (show Sx.length ≤ 10000 by have h := HLx.out; rw [← HRx.out.1] at h; omega)
        obtain ⟨zlx, hzl⟩ : ∃ x, Sx.length = x := ⟨_, rfl⟩
        rw [hzl] at hsu HZLx ⊢
        have HSUx := Lib.hid hsu
        have HLNx := Lib.hid hzl
        rw [hzl] at hso
        have HSOx := Lib.hid hso
        clear hS hs1 hs2 hsu hso hzl
        obtain ⟨Lx, hlx, hso⟩ := HSOx.out
        have HSO := Lib.hid (hso.mono HFA.out)
        have HLX := Lib.hid hlx
        clear hso hlx HSOx HSUx HRx HFA
        go_wp2_with fail
        go_loopw [12, 84] (fun v i wr => ∃ (k m : Nat) (Lp : List ((SetP × Value) × Int)), k ≤ zlx ∧ m ≤ k + 1 ∧ i = .int .i64 k ∧ Hid (Lp.length = m) ∧ Hid (Lp.map fstT = (⟨⟨bn, bt, bk⟩, bu, bd⟩, 2) :: (gluF ⟨⟨bn, bt, bk⟩, bu, bd⟩ (Sx.take k)).map (fun s => (s, 1))) ∧ Hid (OwnRk wr (q5 + 1) v m Lp) ∧ Hid (RfI w wr q2 q3 q4 q5 [.string qn, .int .i64 qt, .int .i64 qc] [.int .i64 mi, .int .i64 mo, .int .i64 mr, .bool b1, .bool b2, .bool b3, .bool b4, .bool b5, .slice pa pl pc, .slice aa al ac, .slice na nl nc, .slice xa xl xc] ⟨⟨bn, bt, bk⟩, bu, bd⟩) ∧ Hid (CN wr q5 [.string bn, .int .i64 bt, .int .i64 bk, .int .i64 bu, .slice ba bl bc9]) ∧ Hid (wr.ownsRow (q5 + 1) 9 1 (.slice ba bl bc9) bl (sc bd)) ∧ Hid (OwnSets wr (q5 + 1) (.slice wax zlx wcx) Lx)) (fun _ i _ => zlx - (intOf i).toNat)
        case atStart => exact ⟨0, 1, [((⟨⟨bn, bt, bk⟩, bu, bd⟩, .slice ba bl bc9), 2)], Nat.zero_le _, Nat.le_refl _, rfl, Lib.hid rfl, Lib.hid rfl, HRK, HI, HQ5C, HO5, HSO⟩
        case round =>
          clear HI HSO HRK HQ5C HO5
          obtain ⟨k, m, Lp, hk, hm, rfl, HPL, HPM, HRK, HI, HQ5C, HO5, HSO⟩ := hrel
          by_cases hlt : k < zlx
          · have hsux := sets_up HSO.out HLX.out HLNx.out
            obtain ⟨gs, s, da, dc, hwa, hgs, hLk, x0, x1, x2, x3, x4, hor⟩ := hsux.get k hlt
            subst hwa
            obtain ⟨⟨sn, st, sk⟩, su, sd⟩ := s
            replace x0 : wr.cell? ⟨gs, k * 5, none⟩ = some (.string sn) := x0
            replace x1 : wr.cell? ⟨gs, k * 5 + 1, none⟩ = some (.int .i64 st) := x1
            replace x2 : wr.cell? ⟨gs, k * 5 + 2, none⟩ = some (.int .i64 sk) := x2
            replace x3 : wr.cell? ⟨gs, k * 5 + 3, none⟩ = some (.int .i64 su) := x3
            replace x4 : wr.cell? ⟨gs, k * 5 + 4, none⟩ = some (.slice da sd.length dc) := x4
            replace hor : wr.ownsRow (q5 + 1) 9 1 (.slice da sd.length dc) sd.length (sc sd) := hor
            obtain ⟨dl, hdl⟩ : ∃ x, sd.length = x := ⟨_, rfl⟩
            rw [hdl] at x4 hor
            have HDL := Lib.hid hdl
            have HLK := Lib.hid hLk
            have HMM := Lib.hid (HSMx.out _ (List.mem_of_getElem? hLk))
            have HO := Lib.hid hor
            have HLT := Lib.hid hlt
            have i1 : (0 : Int) ≤ (k : Int) := by omega
            have i2 : (k : Int) < (zlx : Int) := by omega
            clear hdl hLk hor hgs hlt hk
            clear hsux
            have hba := (Below.refl _ _ : Below wr.heap.size wr wr).alloc (Nat.le_refl _) (.cells #[.string sn, .int .i64 st, .int .i64 sk, .int .i64 su, .slice da dl dc] 39)
            have D1 := Lib.hid (CN.new wr #[.string sn, .int .i64 st, .int .i64 sk, .int .i64 su, .slice da dl dc] 39)
            replace HRK := Lib.hid (HRK.out.below hba)
            replace HI := Lib.hid (HI.out.below hba)
            replace HQ5C := Lib.hid (HQ5C.out.below hba)
            replace HO5 := Lib.hid (own_below' HO5.out hba)
            replace HSO := Lib.hid (HSO.out.below hba)
            replace HO := Lib.hid (own_below' HO.out hba)
            obtain ⟨w53, hw⟩ : ∃ x, wr.alloc (.cells #[.string sn, .int .i64 st, .int .i64 sk, .int .i64 su, .slice da dl dc] 39) = x := ⟨_, rfl⟩
            obtain ⟨q53, hq⟩ : ∃ x, wr.heap.size = x := ⟨_, rfl⟩
            rw [hw, hq] at D1
            rw [hw] at HRK HI HQ5C HO5 HSO HO
            have HW := Lib.hid hw
            have HQ_ := Lib.hid hq
            clear hba hw hq
            go_upto_region 15 with (fail)
            rw [HW.out, HQ_.out]
            clear HW HQ_
            clear x0 x1 x2 x3 x4
            obtain ⟨y0, y1, y2, y3, y4, _⟩ := D1.out.u5
            obtain ⟨b0, b1, b2, b3, b4, _⟩ := HQ5C.out.u5
            have HIK := Lib.hid (isK ⟨sn, st, sk⟩ _ 2 2 [1, 28] _ (row_lit2 w53 1 28 3) (by decide))
            have hba := (Below.refl _ _ : Below w53.heap.size w53 w53).alloc (Nat.le_refl _) (.cells #[.int .i64 1, .int .i64 28] 3)
            replace HRK := Lib.hid (HRK.out.below hba)
            replace HI := Lib.hid (HI.out.below hba)
            replace HQ5C := Lib.hid (HQ5C.out.below hba)
            replace HO5 := Lib.hid (own_below' HO5.out hba)
            replace HSO := Lib.hid (HSO.out.below hba)
            replace HO := Lib.hid (own_below' HO.out hba)
            replace D1 := Lib.hid (D1.out.below hba)
            clear hba
            obtain ⟨vt, hvt⟩ : ∃ x, decide ((⟨sn, st, sk⟩ : Ky).t ∈ [(1 : Int), 28]) = x := ⟨_, rfl⟩
            rw [hvt] at HIK
            have HVT := Lib.hid (show decide (st ∈ [(1 : Int), 28]) = vt by first | exact hvt | (rw [← hvt]; simp))
            clear hvt
            go_wp2_with fail
            refine HIK.out.mono ?_; rintro e w54 ⟨rfl, hb⟩
            clear y0 y1 y2 y3 y4 b0 b1 b2 b3 b4
            clear HIK
            replace HRK := Lib.hid (HRK.out.below hb)
            replace HI := Lib.hid (HI.out.below hb)
            replace HQ5C := Lib.hid (HQ5C.out.below hb)
            replace HO5 := Lib.hid (own_below' HO5.out hb)
            replace HSO := Lib.hid (HSO.out.below hb)
            replace HO := Lib.hid (own_below' HO.out hb)
            replace D1 := Lib.hid (D1.out.below hb)
            clear hb
            obtain ⟨y0, y1, y2, y3, y4, _⟩ := D1.out.u5
            obtain ⟨b0, b1, b2, b3, b4, _⟩ := HQ5C.out.u5
            cases vt
            · have hmn := HZLx.out
              have hlt9 := HLT.out
              have HNX := Lib.hid (show gluF ⟨⟨bn, bt, bk⟩, bu, bd⟩ (Sx.take (k + 1)) = gluF ⟨⟨bn, bt, bk⟩, bu, bd⟩ (Sx.take k) by rw [glu_next HLK.out, glu_t HVT.out]; simp)
              go_wp2
              go_roundw
              case rel => exact ⟨k + 1, m, Lp, by have := HLT.out; omega, by omega, by have := HLT.out; have := HZLx.out; go_num, HPL, Lib.hid (by rw [HNX.out]; exact HPM.out), HRK, HI, HQ5C, HO5, HSO⟩
              case measure => have := HLT.out; have := HZLx.out; simp [intOf]; omega
            · obtain ⟨ta, tc, he, hbr, -⟩ := rowS_of_own HO5.out
              simp only [Value.slice.injEq] at he
              obtain ⟨rfl, -, rfl⟩ := he
              have HBR := Lib.hid hbr
              clear hbr
              obtain ⟨vh, hvh⟩ : ∃ x, memS sn bd = x := ⟨_, rfl⟩
              have HH := Lib.hid (fun wx h => has_any bn bt bk bu bd ba bl bc9 sn wx h HBLB.out)
              rw [hvh] at HH
              have HVH := Lib.hid hvh
              clear hvh
              go_wp2_with fail
              refine (HH.out _ HBR.out).mono ?_; rintro e w55 ⟨rfl, hb⟩
              clear y0 y1 y2 y3 y4 b0 b1 b2 b3 b4
              clear HH HBR
              replace HRK := Lib.hid (HRK.out.below hb)
              replace HI := Lib.hid (HI.out.below hb)
              replace HQ5C := Lib.hid (HQ5C.out.below hb)
              replace HO5 := Lib.hid (own_below' HO5.out hb)
              replace HSO := Lib.hid (HSO.out.below hb)
              replace HO := Lib.hid (own_below' HO.out hb)
              replace D1 := Lib.hid (D1.out.below hb)
              clear hb
              cases vh
              · have hmn := HZLx.out
                have hlt9 := HLT.out
                have HNX := Lib.hid (show gluF ⟨⟨bn, bt, bk⟩, bu, bd⟩ (Sx.take (k + 1)) = gluF ⟨⟨bn, bt, bk⟩, bu, bd⟩ (Sx.take k) by rw [glu_next HLK.out, glu_h HVH.out]; simp)
                go_wp2
                go_roundw
                case rel => exact ⟨k + 1, m, Lp, by have := HLT.out; omega, by omega, by have := HLT.out; have := HZLx.out; go_num, HPL, Lib.hid (by rw [HNX.out]; exact HPM.out), HRK, HI, HQ5C, HO5, HSO⟩
                case measure => have := HLT.out; have := HZLx.out; simp [intOf]; omega
              · have HNX := Lib.hid (show gluF ⟨⟨bn, bt, bk⟩, bu, bd⟩ (Sx.take (k + 1)) = gluF ⟨⟨bn, bt, bk⟩, bu, bd⟩ (Sx.take k) ++ [⟨⟨sn, st, sk⟩, su, sd⟩] by rw [glu_next HLK.out, glu_y HVT.out HVH.out]; rfl)
                obtain ⟨y0, y1, y2, y3, y4, _⟩ := D1.out.u5
                have hal := (Below.refl w55.heap.size w55).alloc (Nat.le_refl _) (.cells #[.string sn, .int .i64 st, .int .i64 sk, .int .i64 su, .slice da dl dc, .int .i64 1] 85)
                have HAL := Lib.hid hal
                clear hal
                have HMB := Lib.hid (show m ≤ 10001 by have h1 := HZLx.out; have h2 := HLT.out; omega)
                go_wp2_with (at_builtin; refine append_cellsL rfl _ _ 79 85 rfl i0 _ 6 72 Try.underlying79 HI0.out HZ0.out HZ1.out HZ2.out rfl (by decide) (q5 + 1) _ m _ rfl (own_below' HRK.out.1 HAL.out) (some ⟨w55.heap.size, 0, none⟩) 1 1 (encTk ((⟨⟨sn, st, sk⟩, su, sd⟩, .slice da dl dc), 1)) rfl (fun h => by cases h) (cells_lit w55 #[.string sn, .int .i64 st, .int .i64 sk, .int .i64 su, .slice da dl dc, .int .i64 1] _) (encTk_one _ _ ⟨_, _, _, rfl⟩) (by have := HMB.out; omega) (by decide) (by have h1 := HQ5C.out.1; simp; omega) ?_)
                intro v' w8 hown' hgrow'
                replace HRK := Lib.hid (HRK.out.below HAL.out)
                replace HI := Lib.hid (HI.out.below HAL.out)
                replace HQ5C := Lib.hid (HQ5C.out.below HAL.out)
                replace HSO := Lib.hid (HSO.out.below HAL.out)
                replace HO5 := Lib.hid (own_below' HO5.out HAL.out)
                replace HO := Lib.hid (own_below' HO.out HAL.out)
                have HRK8 := Lib.hid (HRK.out.app (s := ⟨⟨sn, st, sk⟩, su, sd⟩) (dv := .slice da dl dc) HPL.out (by rw [HDL.out]; exact HO.out) hown' hgrow')
                have HI8 := Lib.hid (HI.out.grow HQ5.out HRK.out.1 hgrow')
                have HQ8 := Lib.hid (HQ5C.out.grown hgrow' (own_above HRK.out.1 (Nat.lt_succ_self _)))
                have HO8 := Lib.hid (own_far (by decide) HO5.out HRK.out.1 hgrow')
                have HSO8 := Lib.hid (HSO.out.grow HRK.out.1 hgrow')
                clear hown' hgrow' HAL
                clear y0 y1 y2 y3 y4
                have hmn := HZLx.out
                have hlt9 := HLT.out
                go_wp2
                go_roundw
                case rel => exact ⟨k + 1, m + 1, Lp ++ [((⟨⟨sn, st, sk⟩, su, sd⟩, .slice da dl dc), 1)], by have := HLT.out; omega, by omega, by have := HLT.out; have := HZLx.out; go_num, Lib.hid (by rw [List.length_append, HPL.out]; rfl), Lib.hid (by rw [List.map_append, HPM.out, HNX.out, List.map_append]; rfl), HRK8, HI8, HQ8, HO8, HSO8⟩
                case measure => have := HLT.out; have := HZLx.out; simp [intOf]; omega
          · obtain rfl : k = zlx := by omega
            replace HPM := Lib.hid (show Lp.map fstT = (⟨⟨bn, bt, bk⟩, bu, bd⟩, 2) :: (gluF ⟨⟨bn, bt, bk⟩, bu, bd⟩ Sx).map (fun s => (s, 1)) by have h := HPM.out; rw [List.take_of_length_le (by rw [HLNx.out]; exact Nat.le_refl _)] at h; exact h)
            have HV := Lib.hid (show refO cut qn qt (wiF cut N) (wiF cut X) = some ⟨3, 0, Lp.map fstT, emB⟩ by rw [HSn.out, HSx.out, refO, HBF.out, HPM.out]; exact if_neg (fun h => HB0.out (by rw [← HBL.out]; exact congrArg List.length h)))
            clear hlt hk
            obtain ⟨va, vc, hva, hvr, hvn⟩ := RkUp.own HRK.out.1 HPL.out HRK.out.2
            subst hva
            have HRU := Lib.hid hvr
            have HRN := Lib.hid hvn
            clear hvr hvn
            have HC3 := Lib.hid HI.out.2.2.1
            have HB := Lib.hid HI.out.2.2.2.2
            go_upto_region 18 with (fail)
            obtain ⟨y0, y1, y2, y3, g0, g1, g2, g3⟩ := HC3.out.o4
            have KZ := Lib.hid (HC3.out.p4 (.int .i64 3) (.int .i64 0) (.slice va m vc) (.string ⟨#[]⟩))
            have HGZ := Lib.hid (grown_p4 wr q4 (.int .i64 3) (.int .i64 0) (.slice va m vc) (.string ⟨#[]⟩))
            have HBZ := Lib.hid (HB.out.grown HGZ.out HB.out.size (fun k hk => by injection hk with hk; rw [← hk]; exact HQ4.out))
            have HRUZ := Lib.hid (HRU.out.far HGZ.out (by have := HQ5.out; omega))
            go_wp2
            obtain ⟨wz, hwz⟩ : ∃ x, ((((wr.setCell ⟨q4, 0, none⟩ (.int .i64 3)).setCell ⟨q4, 1, none⟩ (.int .i64 0)).setCell ⟨q4, 2, none⟩ (.slice va m vc)).setCell ⟨q4, 3, none⟩ (.string ⟨#[]⟩)) = x := ⟨_, rfl⟩
            rw [hwz] at KZ HBZ HRUZ ⊢
            clear hwz HGZ y0 y1 y2 y3 g0 g1 g2 g3
            obtain ⟨z0, z1, z2, z3, _⟩ := KZ.out.o4
            refine bodyPost_ret (v := .tuple #[.agg #[.int .i64 3, .int .i64 0, .slice va m vc, .string ⟨#[]⟩], .bool true]) (by simp [results, Try.results73, go_sem, z0, z1, z2, z3]) rfl ⟨⟨_, by rw [HV.out]; rfl, by rw [HV.out]; exact ⟨va, m, vc, rfl, HRUZ.out.mono (by have := HQ5.out; omega), HRN.out⟩⟩, HBZ.out⟩
end Go.Proofs.Ythfnphcefkdgbaa
