/- ScrubZones: the walk. -/
import Derived.Test.YthfnphcefkdgbaaGreatRZb
import Derived.Test.YthfnphcefkdgbaaGreatAMz
import Derived.Test.YthfnphcefkdgbaaGreatMgU
import Derived.Test.YthfnphcefkdgbaaGreatAOn
namespace Go.Proofs.YthfnphcefkdgbaaGreat
open Go.RowKit
theorem sumD_subR {S : List SetP} (hS : S.Pairwise (fun s t => kcmp s.k t.k < 0)) : ∀ {L : List SetP}, L.Pairwise (fun s t => kcmp s.k t.k < 0) → (∀ x ∈ L, x ∈ S) → sumD L ≤ sumD S := by
 induction S with
 | nil =>
  intro L _ h
  cases L with
  | nil => exact Nat.le_refl _
  | cons x L => cases h x (List.mem_cons_self ..)
 | cons s S ih =>
  intro L hL h
  obtain ⟨h1, h2⟩ := List.pairwise_cons.1 hS
  cases L with
  | nil => exact Nat.zero_le _
  | cons x L =>
   obtain ⟨h3, h4⟩ := List.pairwise_cons.1 hL
   have hx := h x (List.mem_cons_self ..)
   by_cases e : x = s
   · subst e
     have h5 : sumD L ≤ sumD S := ih h2 h4 (fun y hy => by
      rcases List.mem_cons.1 (h y (List.mem_cons_of_mem _ hy)) with h6 | h6
      · subst h6
        have h7 := h3 y hy
        rw [(ord_kcmp.zero _ _).2 rfl] at h7
        omega
      · exact h6)
     rw [sumD, sumD]; omega
   · have hxS : x ∈ S := by
      rcases List.mem_cons.1 hx with h6 | h6
      · exact absurd h6 e
      · exact h6
     have h5 : sumD (x :: L) ≤ sumD S := ih h2 hL (fun y hy => by
      rcases List.mem_cons.1 (h y hy) with h6 | h6
      · subst h6
        rcases List.mem_cons.1 hy with h7 | h7
        · exact absurd h7.symm e
        · have h8 := h3 y h7
          have h9 := h1 x hxS
          have h10 := ord_kcmp.anti x.k y.k
          omega
      · exact h6)
     rw [show sumD (s :: S) = s.data.length + sumD S from rfl]; omega
theorem ans_ar (S : List SetP) (apex qn : ByteArray) (qt qc : Int) : (ansF S apex qn qt qc).ar.Pairwise (fun s t => kcmp s.k t.k < 0) := by
 have hT : ∀ t, (ansT S apex qn t).ar.Pairwise (fun s t => kcmp s.k t.k < 0) := fun t => by
  have hK : (ansK S apex qn t).ar.Pairwise (fun s t => kcmp s.k t.k < 0) := by
   cases hf : findK S ⟨qn, t, 1⟩ with
   | some s => rw [ansK_yes hf]; exact glue_rise S s
   | none =>
     rw [ansK_no hf]
     split
     · exact List.Pairwise.nil
     · exact List.Pairwise.nil
  cases h5 : findK S ⟨qn, 5, 1⟩ with
  | none => rw [ansT_k (Or.inl h5)]; exact hK
  | some s =>
   by_cases ht : t = 5
   · rw [ansT_k (Or.inr ht)]; exact hK
   · rw [ansT_alias h5 ht]; exact List.Pairwise.nil
 cases hq : inQ apex qn qt qc with
 | false => rw [ans_out hq]; exact List.Pairwise.nil
 | true =>
  cases hc : cutP S apex qn with
  | none => rw [ans_no hq hc]; exact hT qt
  | some x =>
   by_cases hd : x.k.n = qn ∧ qt = 43
   · have e : ansF S apex qn qt qc = ansT S apex qn qt := by rw [ansF, if_neg (by rw [hq]; simp), hc]; exact if_pos hd
     rw [e]; exact hT qt
   · rw [ans_cut hq hc hd]; exact glue_rise S x
theorem short_rise {L : List SetP} (h : L.length ≤ 1) : L.Pairwise (fun s t => kcmp s.k t.k < 0) := by
 match L, h with
 | [], _ => exact List.Pairwise.nil
 | [x], _ => exact rise_one x
theorem scl_of {w : World} {z : Nat} {apex : ByteArray} {l : List R5} {S : List SetP} (h : ZOk w z apex l S) {L : List SetP} (hL : L.Pairwise (fun s t => kcmp s.k t.k < 0)) (hm : ∀ g ∈ L, g ∈ S) : (flatP L).length ≤ 300 ∧ ScL (flatP L) := by
 have h1 : (flatP L).length ≤ 300 := by
   rw [flatP_length]
   have h2 := sumD_subR h.canon.keys hL hm
   have h3 := h.sum
   have h4 := h.few
   omega
 refine ⟨h1, by omega, fun r hr => ?_, fun r hr => ?_⟩
 · obtain ⟨s, hs, h2, -, -⟩ := mem_flatP.1 hr
   rw [h2]; exact (h.sz.2 s (hm s hs)).1
 · obtain ⟨s, hs, -, -, h2⟩ := mem_flatP.1 hr
   exact h.szd s (hm s hs) _ h2
theorem zmsg_scm {w : World} {z : Nat} {apex : ByteArray} {l : List R5} {S : List SetP} (h : ZOk w z apex l S) {qn : ByteArray} (hn : qn.size ≤ 1000000) (qt qc id : Int) : ScM (zMsg id qn qt qc (ansF S apex qn qt qc)) ∧ (flatP (ansF S apex qn qt qc).an).length ≤ 100000 ∧ (flatP (ansF S apex qn qt qc).ns).length ≤ 100000 ∧ (flatP (ansF S apex qn qt qc).ar).length ≤ 100000 := by
 have hO := (onlyP h hn qt qc).1
 obtain ⟨h1, h2, -⟩ := ans_len h hn qt qc
 have hA := scl_of h (short_rise h1) (fun g hg => find_mem (hO g (List.mem_append_left _ (List.mem_append_left _ hg))))
 have hN := scl_of h (short_rise h2) (fun g hg => find_mem (hO g (List.mem_append_left _ (List.mem_append_right _ hg))))
 have hX := scl_of h (ans_ar S apex qn qt qc) (fun g hg => find_mem (hO g (List.mem_append_right _ hg)))
 have := hA.1
 have := hN.1
 have := hX.1
 exact ⟨⟨hA.2, hN.2, hX.2⟩, by omega, by omega, by omega⟩
theorem rk_full {w : World} {B n : Nat} {a : Option Addr} {s : SetP} {r : Int} {T : List (SetP × Int)} (h : RkUp w B a n ((s, r) :: T)) : n = T.length + 1 ∧ ∃ b da dc, a = some ⟨b, 0, none⟩ ∧ w.cell? ⟨b, 0, none⟩ = some (.string s.k.n) ∧ w.cell? ⟨b, 1, none⟩ = some (.int .i64 s.k.t) ∧ w.cell? ⟨b, 2, none⟩ = some (.int .i64 s.k.c) ∧ w.cell? ⟨b, 3, none⟩ = some (.int .i64 s.ttl) ∧ w.cell? ⟨b, 4, none⟩ = some (.slice da s.data.length dc) ∧ RowS w da s.data.length s.data := by
 have hl : n = T.length + 1 := by rw [← h.len]; simp
 obtain ⟨g, p, da, dc, h1, h2, h3, y0, y1, y2, y3, y4, y5, ho⟩ := h.get 0 (by omega)
 obtain rfl : (s, r) = p := by simpa using h3
 obtain ⟨a2, c2, he, hr, -⟩ := rowS_of_own ho
 simp only [Value.slice.injEq] at he
 obtain ⟨rfl, -, -⟩ := he
 exact ⟨hl, g, da, dc, h1, y0, y1, y2, y3, y4, hr⟩
theorem rnew_two {apex : ByteArray} {l : List R5} {w w' : World} {e : Ending} (h : RNew apex l w e w') : ((∃ i : Int, e = .returned (.tuple #[.pointer none, .int .i64 i])) ∨ ∃ x S, e = .returned (.tuple #[.pointer (some ⟨x, 0, none⟩), .int .i64 0]) ∧ Canon l S ∧ RZnAt w' x apex S) ∧ Below w.heap.size w w' := by
 obtain ⟨h1, h2⟩ := h
 refine ⟨?_, h2⟩
 rcases h1 with ⟨-, rfl⟩ | ⟨-, ⟨-, rfl⟩ | ⟨-, ⟨-, rfl⟩ | ⟨-, S, hc, ⟨-, rfl⟩ | ⟨-, x, rfl, hz⟩⟩⟩⟩
 · exact Or.inl ⟨_, rfl⟩
 · exact Or.inl ⟨_, rfl⟩
 · exact Or.inl ⟨_, rfl⟩
 · exact Or.inl ⟨_, rfl⟩
 · exact Or.inr ⟨x, S, rfl, hc, hz⟩
theorem repAt_below {w w' : World} {B : Nat} {v : Value} {R : RepP} (h : RepAt w B v R) (hb : Below w.heap.size w w') : RepAt w' B v R := by
 obtain ⟨a1, n1, c1, a2, n2, c2, a3, n3, c3, h1, h2, h3, h4, h5, h6, h7⟩ := h
 exact ⟨a1, n1, c1, a2, n2, c2, a3, n3, c3, h1, h2.below hb, h3, h4.below hb, h5, h6.below hb, h7⟩
set_option maxRecDepth 100000 in
set_option maxHeartbeats 8000000 in
theorem rsoaset_any (z : Nat) (apex : ByteArray) (S : List SetP) (s0 : SetP) (w : World) (h : RZnAt w z apex S) (hl : S.length ≤ 100000) (hf : findK S ⟨apex, 6, 1⟩ = some s0) : Calls Tryz.prog 49 #[.pointer (some ⟨z, 0, none⟩)] w fun e w' => (∃ p c, e = .returned (.agg #[.string s0.k.n, .int .i64 s0.k.t, .int .i64 s0.k.c, .int .i64 s0.ttl, .slice p s0.data.length c])) ∧ Below w.heap.size w w' := by
 obtain ⟨a, c, hq, hsa⟩ := id h
 have HZ := Lib.hid h
 have CZ := Lib.hid hq
 have HB := Lib.hid (Below.refl w.heap.size w)
 have HL := Lib.hid hl
 have HF := Lib.hid hf
 clear hq hsa hf hl h
 go_enter Tryz.func49, Tryz.ntmps49
 have hba := (Below.refl _ _ : Below w.heap.size w w).alloc (Nat.le_refl _) (.cells #[.string ⟨#[]⟩, .int .i64 0, .int .i64 0, .int .i64 0, .slice none 0 0] 43)
 have C2 := Lib.hid (CN.new w #[.string ⟨#[]⟩, .int .i64 0, .int .i64 0, .int .i64 0, .slice none 0 0] 43)
 replace CZ := Lib.hid (CZ.out.below hba)
 replace HB := Lib.hid (HB.out.trans (hba.mono HB.out.size))
 replace HZ := Lib.hid (HZ.out.below hba)
 obtain ⟨w2, hw⟩ : ∃ x, w.alloc (.cells #[.string ⟨#[]⟩, .int .i64 0, .int .i64 0, .int .i64 0, .slice none 0 0] 43) = x := ⟨_, rfl⟩
 obtain ⟨q2, hq⟩ : ∃ x, w.heap.size = x := ⟨_, rfl⟩
 rw [hw, hq] at C2
 rw [hw] at CZ HB HZ
 have HWw2 := Lib.hid hw
 have HQq2 := Lib.hid hq
 clear hba hw hq
 go_upto_region 1 with (fail)
 rw [HWw2.out]
 rw [show (Value.pointer (some { block := w.heap.size, off := 0 })) = Value.pointer (some { block := q2, off := 0 }) by rw [HQq2.out]]
 have HQ4 := Lib.hid (show w.heap.size ≤ q2 by have h2 := HQq2.out; omega)
 obtain ⟨z0, z1⟩ := CZ.out.w2
 go_wp2_with fail
 refine (rzget_any z apex S apex 6 1 _ HZ.out HL.out).mono ?_; rintro e w3 ⟨hf, hb⟩
 obtain ⟨s, p, c9, hs9, rfl⟩ := hf
 rw [HF.out] at hs9 ⊢
 obtain rfl : s0 = s := hs9
 clear z0 z1
 replace CZ := Lib.hid (CZ.out.below hb)
 replace HB := Lib.hid (HB.out.trans (hb.mono HB.out.size))
 replace HZ := Lib.hid (HZ.out.below hb)
 replace C2 := Lib.hid (C2.out.below hb)
 clear hb
 obtain ⟨⟨sn, st, sk⟩, su, sd⟩ := s0
 dsimp only
 obtain ⟨dl, hdl⟩ : ∃ x, sd.length = x := ⟨_, rfl⟩
 rw [hdl]
 have HDL := Lib.hid hdl
 clear hdl HF
 have hba := (Below.refl _ _ : Below w3.heap.size w3 w3).alloc (Nat.le_refl _) (.cells #[.string sn, .int .i64 st, .int .i64 sk, .int .i64 su, .slice p dl c9] 43)
 have C3 := Lib.hid (CN.new w3 #[.string sn, .int .i64 st, .int .i64 sk, .int .i64 su, .slice p dl c9] 43)
 replace CZ := Lib.hid (CZ.out.below hba)
 replace HB := Lib.hid (HB.out.trans (hba.mono HB.out.size))
 replace HZ := Lib.hid (HZ.out.below hba)
 replace C2 := Lib.hid (C2.out.below hba)
 obtain ⟨w4, hw⟩ : ∃ x, w3.alloc (.cells #[.string sn, .int .i64 st, .int .i64 sk, .int .i64 su, .slice p dl c9] 43) = x := ⟨_, rfl⟩
 obtain ⟨q4, hq⟩ : ∃ x, w3.heap.size = x := ⟨_, rfl⟩
 rw [hw, hq] at C3
 rw [hw] at CZ HB HZ C2
 have HW := Lib.hid hw
 have HQ_ := Lib.hid hq
 clear hba hw hq
 go_upto_region 2 with (fail)
 rw [HW.out, HQ_.out]
 clear HW HQ_
 obtain ⟨y0, y1, y2, y3, y4, _⟩ := C3.out.u5
 obtain ⟨g0, g1, g2, g3, g4, f0, f1, f2, f3, f4⟩ := C2.out.u5
 have KZ := Lib.hid (C2.out.s5 (.string sn) (.int .i64 st) (.int .i64 sk) (.int .i64 su) (.slice p dl c9))
 have HGZ := Lib.hid (grown_s5 w4 q2 (.string sn) (.int .i64 st) (.int .i64 sk) (.int .i64 su) (.slice p dl c9))
 have HBZ := Lib.hid (HB.out.grown HGZ.out HB.out.size (fun k hk => by injection hk with hk; rw [← hk]; exact HQ4.out))
 go_wp2
 obtain ⟨wz, hwz⟩ : ∃ x, (((((w4.setCell ⟨q2, 0, none⟩ (.string sn)).setCell ⟨q2, 1, none⟩ (.int .i64 st)).setCell ⟨q2, 2, none⟩ (.int .i64 sk)).setCell ⟨q2, 3, none⟩ (.int .i64 su)).setCell ⟨q2, 4, none⟩ (.slice p dl c9)) = x := ⟨_, rfl⟩
 rw [hwz] at KZ HBZ ⊢
 clear hwz HGZ g0 g1 g2 g3 g4 f0 f1 f2 f3 f4 y0 y1 y2 y3 y4
 obtain ⟨z0, z1, z2, z3, z4, _⟩ := KZ.out.u5
 refine bodyPost_ret (v := .agg #[.string sn, .int .i64 st, .int .i64 sk, .int .i64 su, .slice p dl c9]) (by simp [results, Tryz.results49, go_sem, z0, z1, z2, z3, z4]) rfl ⟨⟨p, c9, by rw [← HDL.out]⟩, HBZ.out⟩
set_option maxRecDepth 100000 in
set_option maxHeartbeats 20000000 in
theorem walkZones (apex : ByteArray) (a : Option Addr) (n c : Nat) (l : List R5) (qn : ByteArray) (qt qc : Int) (w : World) (h : RowR w a n l) (hn : a = none → n = 0 ∧ c = 0) (hlen : n ≤ 9223372036854775807) (hsz : ∀ r ∈ l, SzR r) (ha : apex.size ≤ 9223372036854775807) (hqn : qn.size ≤ 9223372036854775807) : Calls Tryz.prog 6 #[.string apex, .slice a n c, .agg #[.string qn, .int .i64 qt, .int .i64 qc]] w fun e w' => e = .returned (.bool true) ∧ Below w.heap.size w w' := by
 have HR := Lib.hid h
 have HN := Lib.hid hn
 have HSZ := Lib.hid hsz
 have HB := Lib.hid (Below.refl w.heap.size w)
 clear h hn hsz
 go_enter Tryz.func6, Tryz.ntmps6
 have hba := (Below.refl _ _ : Below w.heap.size w w).alloc (Nat.le_refl _) (.cells #[.string qn, .int .i64 qt, .int .i64 qc] 69)
 have C1 := Lib.hid (CN.new w #[.string qn, .int .i64 qt, .int .i64 qc] 69)
 replace HR := Lib.hid (HR.out.below hba)
 replace HB := Lib.hid (HB.out.trans (hba.mono HB.out.size))
 obtain ⟨w2, hw⟩ : ∃ x, w.alloc (.cells #[.string qn, .int .i64 qt, .int .i64 qc] 69) = x := ⟨_, rfl⟩
 obtain ⟨q2, hq⟩ : ∃ x, w.heap.size = x := ⟨_, rfl⟩
 rw [hw, hq] at C1
 rw [hw] at HR HB
 have HWw2 := Lib.hid hw
 have HQq2 := Lib.hid hq
 clear hba hw hq
 go_upto_region 1 with (fail)
 rw [HWw2.out]
 rw [show (Value.pointer (some { block := w.heap.size, off := 0 })) = Value.pointer (some { block := q2, off := 0 }) by rw [HQq2.out]]
 go_wp2_with fail
 refine (first19 _).mono ?_; rintro e w3 ⟨rfl, hb⟩
 replace HR := Lib.hid (HR.out.below hb)
 replace HB := Lib.hid (HB.out.trans (hb.mono HB.out.size))
 replace C1 := Lib.hid (C1.out.below hb)
 clear hb
 obtain ⟨p0, p1, p2, _⟩ := C1.out.v3
 go_wp2_with fail
 refine (few10 a n c l _ HR.out hlen HSZ.out).mono ?_; rintro e w4 ⟨hres, hb⟩
 clear p0 p1 p2
 replace HR := Lib.hid (HR.out.below hb)
 replace HB := Lib.hid (HB.out.trans (hb.mono HB.out.size))
 replace C1 := Lib.hid (C1.out.below hb)
 clear hb
 rcases hres with rfl | ⟨rfl, hn4, hsm⟩
 · go_wp2_with fail
   refine (first19 _).mono ?_; rintro e w9 ⟨rfl, hb⟩
   have HB9 := Lib.hid (HB.out.trans (hb.mono HB.out.size))
   clear hb
   go_wp2
   go_ret
   exact ⟨rfl, HB9.out⟩
 have HSM := Lib.hid hsm
 have HN3 := Lib.hid (show n ≤ 310 by omega)
 clear hsm hlen hn4
 by_cases h1 : 1000 < apex.size
 · have d1 : decide (1000 < apex.size) = true := dT (by omega)
   have d2 : decide ((1000 : Int) < (apex.size : Int)) = true := dT (by omega)
   clear h1
   go_wp2_with fail
   refine (first19 _).mono ?_; rintro e w9 ⟨rfl, hb⟩
   have HB9 := Lib.hid (HB.out.trans (hb.mono HB.out.size))
   clear hb
   go_wp2
   go_ret
   exact ⟨rfl, HB9.out⟩
 have d1 : decide (1000 < apex.size) = false := dF (by omega)
 have d2 : decide ((1000 : Int) < (apex.size : Int)) = false := dF (by omega)
 have N1 := Lib.hid h1
 clear h1
 by_cases h1 : 1000 < qn.size
 · have d3 : decide (1000 < qn.size) = true := dT (by omega)
   have d4 : decide ((1000 : Int) < (qn.size : Int)) = true := dT (by omega)
   obtain ⟨p0, p1, p2, _⟩ := C1.out.v3
   clear h1
   go_wp2_with fail
   refine (first19 _).mono ?_; rintro e w9 ⟨rfl, hb⟩
   have HB9 := Lib.hid (HB.out.trans (hb.mono HB.out.size))
   clear hb
   go_wp2
   go_ret
   exact ⟨rfl, HB9.out⟩
 have d3 : decide (1000 < qn.size) = false := dF (by omega)
 have d4 : decide ((1000 : Int) < (qn.size : Int)) = false := dF (by omega)
 have N2 := Lib.hid h1
 clear h1
 have HA1 := Lib.hid (show apex.size ≤ 1000000 by have := N1.out; omega)
 have HA2 := Lib.hid (show qn.size ≤ 1000000 by have := N2.out; omega)
 clear N1 N2 ha hqn
 obtain ⟨p0, p1, p2, _⟩ := C1.out.v3
 go_wp2_with fail
 refine (znew_up apex a n c l _ HR.out HN.out (by have := HN3.out; omega) (fun r hr => by have := (HSM.out r hr).1; omega) (fun r hr => by have := (HSM.out r hr).2; omega) HA1.out).mono ?_; rintro e w5 hnr
 obtain ⟨hres, hb⟩ := newU_two hnr
 clear hnr d1 d2 d3 d4
 clear p0 p1 p2
 replace HR := Lib.hid (HR.out.below hb)
 replace HB := Lib.hid (HB.out.trans (hb.mono HB.out.size))
 replace C1 := Lib.hid (C1.out.below hb)
 clear hb
 rcases hres with ⟨x, hx, rfl⟩ | ⟨z, S, rfl, -, hok⟩
 · clear hx
   go_wp2_with fail
   refine (rznew_any apex a n c l _ HR.out (by have := HN3.out; omega) (fun r hr => by have := (HSM.out r hr).1; omega) (fun r hr => by have := (HSM.out r hr).2; omega) HA1.out).mono ?_; rintro e w6 hnr
   obtain ⟨hres, hb⟩ := rnew_two hnr
   clear hnr
   replace HR := Lib.hid (HR.out.below hb)
   replace HB := Lib.hid (HB.out.trans (hb.mono HB.out.size))
   replace C1 := Lib.hid (C1.out.below hb)
   clear hb
   rcases hres with ⟨i9, rfl⟩ | ⟨x9, S9, rfl, -, -⟩
   · go_wp2_with fail
     refine (first19 _).mono ?_; rintro e w9 ⟨rfl, hb⟩
     have HB9 := Lib.hid (HB.out.trans (hb.mono HB.out.size))
     clear hb
     go_wp2
     go_ret
     exact ⟨rfl, HB9.out⟩
   · go_wp2_with fail
     refine (first19 _).mono ?_; rintro e w9 ⟨rfl, hb⟩
     have HB9 := Lib.hid (HB.out.trans (hb.mono HB.out.size))
     clear hb
     go_wp2
     go_ret
     exact ⟨rfl, HB9.out⟩
 have HOK := Lib.hid hok
 clear hok
 go_wp2_with fail
 refine (rznew_any apex a n c l _ HR.out (by have := HN3.out; omega) (fun r hr => by have := (HSM.out r hr).1; omega) (fun r hr => by have := (HSM.out r hr).2; omega) HA1.out).mono ?_; rintro e w6 hnr
 obtain ⟨hres, hb⟩ := rnew_two hnr
 clear hnr
 replace HR := Lib.hid (HR.out.below hb)
 replace HB := Lib.hid (HB.out.trans (hb.mono HB.out.size))
 replace C1 := Lib.hid (C1.out.below hb)
 replace HOK := Lib.hid (HOK.out.below hb)
 clear hb
 rcases hres with ⟨i9, rfl⟩ | ⟨y, S9, rfl, hcn, hry⟩
 · go_wp2_with fail
   refine (first19 _).mono ?_; rintro e w9 ⟨rfl, hb⟩
   have HB9 := Lib.hid (HB.out.trans (hb.mono HB.out.size))
   clear hb
   go_wp2
   go_ret
   exact ⟨rfl, HB9.out⟩
 obtain rfl : S = S9 := canon_eq HOK.out.canon hcn (fun _ _ => Iff.rfl) (fun _ _ => Iff.rfl)
 have HRZ := Lib.hid hry
 clear hry hcn
 clear HR HSM HSZ HN HN3
 have HZP := Lib.hid (zonesP HOK.out HA2.out qt qc 7)
 have HAL := Lib.hid (ans_len HOK.out HA2.out qt qc)
 have HMM := Lib.hid (fun g (hg : g ∈ (ansF S apex qn qt qc).an ++ (ansF S apex qn qt qc).ns) => find_mem ((onlyP HOK.out HA2.out qt qc).1 g (List.mem_append_left _ hg)))
 have HSCM := Lib.hid (zmsg_scm HOK.out HA2.out qt qc 7)
 obtain ⟨p0, p1, p2, _⟩ := C1.out.v3
 go_wp2_with fail
 refine (answer_any z apex S qn qt qc _ HOK.out.is HOK.out.canon.keys HOK.out.sz HOK.out.szd HOK.out.canon.non HA1.out HA2.out).mono ?_; rintro e w7 ⟨⟨v, rfl, hrep⟩, hb⟩
 clear p0 p1 p2
 replace HB := Lib.hid (HB.out.trans (hb.mono HB.out.size))
 replace C1 := Lib.hid (C1.out.below hb)
 replace HOK := Lib.hid (HOK.out.below hb)
 replace HRZ := Lib.hid (HRZ.out.below hb)
 clear hb
 obtain ⟨a1, n1, c1, a2, n2, c2, a3, n3, c3, rfl, hs1, hz1, hs2, hz2, hs3, hz3⟩ := hrep
 obtain ⟨R, hR⟩ : ∃ x, ansF S apex qn qt qc = x := ⟨_, rfl⟩
 rw [hR] at HZP HAL HMM HSCM hs1 hs2 hs3 ⊢
 clear hR
 obtain ⟨O, hO⟩ : ∃ x, sortF apex qn qt qc (zMsg 7 qn qt qc R) = x := ⟨_, rfl⟩
 rw [hO] at HZP
 have HO := Lib.hid hO
 clear hO
 obtain ⟨k1, t1, s1, x1⟩ := O
 obtain ⟨kd, rc, AN, NS, AR⟩ := R
 dsimp only at hs1 hs2 hs3 ⊢
 have HS1 := Lib.hid hs1
 have HY1 := Lib.hid hz1
 have HS2 := Lib.hid hs2
 have HY2 := Lib.hid hz2
 have HS3 := Lib.hid hs3
 have HY3 := Lib.hid hz3
 clear hs1 hs2 hs3 hz1 hz2 hz3
 replace HMM : Hid (∀ g ∈ AN ++ NS, g ∈ S) := HMM
 have HLN := Lib.hid (show AN.length ≤ 1 ∧ NS.length ≤ 1 ∧ AR.length ≤ 600 from HAL.out)
 clear HAL
 have hba := (Below.refl _ _ : Below w7.heap.size w7 w7).alloc (Nat.le_refl _) (.cells #[.int .i64 kd, .int .i64 rc, .slice a1 n1 c1, .slice a2 n2 c2, .slice a3 n3 c3] 71)
 have CR := Lib.hid (CN.new w7 #[.int .i64 kd, .int .i64 rc, .slice a1 n1 c1, .slice a2 n2 c2, .slice a3 n3 c3] 71)
 replace HB := Lib.hid (HB.out.trans (hba.mono HB.out.size))
 replace C1 := Lib.hid (C1.out.below hba)
 replace HOK := Lib.hid (HOK.out.below hba)
 replace HRZ := Lib.hid (HRZ.out.below hba)
 replace HS1 := Lib.hid (HS1.out.below hba)
 replace HS2 := Lib.hid (HS2.out.below hba)
 replace HS3 := Lib.hid (HS3.out.below hba)
 obtain ⟨w8, hw⟩ : ∃ x, w7.alloc (.cells #[.int .i64 kd, .int .i64 rc, .slice a1 n1 c1, .slice a2 n2 c2, .slice a3 n3 c3] 71) = x := ⟨_, rfl⟩
 obtain ⟨q8, hq⟩ : ∃ x, w7.heap.size = x := ⟨_, rfl⟩
 rw [hw, hq] at CR
 rw [hw] at HB C1 HOK HRZ HS1 HS2 HS3
 have HW := Lib.hid hw
 have HQ_ := Lib.hid hq
 clear hba hw hq
 go_upto_region 10 with (fail)
 rw [HW.out, HQ_.out]
 clear HW HQ_
 go_cut [12] (fun p wx => ∃ (q12 : Nat) (oa : Option Addr) (on oc Bq : Nat), p = .pointer (some ⟨q12, 0, none⟩) ∧ Hid (CN wx q12 [.int .i64 k1, .int .i64 t1, .slice oa on oc, .string x1]) ∧ Hid (RkUp wx Bq oa on s1) ∧ Hid (Below w8.heap.size w8 wx))
 case first =>
   as_aux_lemma =>
     obtain ⟨wd, hwd⟩ : ∃ x, w8.drew = x := ⟨_, rfl⟩
     have HBD := Lib.hid (show Below w8.heap.size w8 wd by rw [← hwd]; exact (Below.refl _ _).drew)
     have HREP := Lib.hid (show RepAt w8 0 (.agg #[.int .i64 kd, .int .i64 rc, .slice a1 n1 c1, .slice a2 n2 c2, .slice a3 n3 c3]) ⟨kd, rc, AN, NS, AR⟩ from ⟨a1, n1, c1, a2, n2, c2, a3, n3, c3, rfl, (HS1.out.mono (Nat.zero_le _)), HY1.out, (HS2.out.mono (Nat.zero_le _)), HY2.out, (HS3.out.mono (Nat.zero_le _)), HY3.out⟩)
     refine wp_region_held_drew (S := (fun wx => Hid (Below w8.heap.size w8 wx))) (by kernel_rfl) (by rw [hwd]; exact HBD) (fun hHeld => ?_)
     rw [hwd] at hHeld ⊢
     clear hwd
     refine Plan.of [0, 1, 2, 3] ?_
     iterate 4 (refine Plan.w (v := ?_) rfl hHeld (by rfl) ?_ ?_; rotate_left; (focus (intro w hSw; (try dsimp only at hSw); obtain ⟨m0, m1, m2, m3, m4, _⟩ := (CR.out.below hSw.out).u5; obtain ⟨p0, p1, p2, _⟩ := (C1.out.below hSw.out).v3; go_simp; try with_reducible rfl)); try simp only [Act.put, List.setIfInBounds_toArray, List.set_cons_zero, List.set_cons_succ])
     refine Plan.fin ?_
     refine wpAnyH_ready (rs := [4, 6]) (by kernel_rfl) (by simp) ?_
     refine AllReadyH.cons (o := { dst := some 57, op := Go.Op.call { callee := Go.Callee.value (Go.Operand.func 34), args := #[Go.Operand.const (Go.Value.int Go.IntKind.i64 7), Go.Operand.tmp 55, Go.Operand.tmp 56], argTypes := #[3, 69, 71] }, type := 77, pos := "law.go:129", after := #[{ on := 2, ground := Go.Ground.data }, { on := 3, ground := Go.Ground.data }], guard := none }) rfl (fun K hK => ?_) (AllReadyH.cons (o := { dst := some 12, op := Go.Op.alloc 90, type := 0, pos := "law.go:129", after := #[], guard := none }) rfl (fun K hK => ?_) AllReadyH.nil)
     · go_simp
       refine (message_any 7 qn qt qc ⟨kd, rc, AN, NS, AR⟩ 0 _ wd (repAt_below HREP.out hHeld.out) ⟨by have := HLN.out.1; exact Nat.le_trans this (by decide), by have := HLN.out.2.1; exact Nat.le_trans this (by decide), by have := HLN.out.2.2; exact Nat.le_trans this (by decide)⟩ HSCM.out.2).mono ?_; rintro e wx1 ⟨⟨mv, rfl, hma⟩, hb⟩
       have HMA := Lib.hid hma
       clear hma
       go_wp2_with fail
       refine hK.out _ _ (Lib.hid (hHeld.out.trans (hb.mono hHeld.out.size))) (fun hHeld2 => ?_)
       clear hK K hHeld
       have hHeld := hHeld2
       clear hHeld2
       try simp only [Act.put, List.setIfInBounds_toArray, List.set_cons_zero, List.set_cons_succ]
       refine wpAnyH_ready (rs := [5, 6]) (by kernel_rfl) (by simp) ?_
       refine AllReadyH.cons (o := { dst := some 58, op := Go.Op.call { callee := Go.Callee.value (Go.Operand.func 41), args := #[Go.Operand.tmp 53, Go.Operand.tmp 54, Go.Operand.tmp 57], argTypes := #[9, 69, 77] }, type := 90, pos := "law.go:129", after := #[{ on := 0, ground := Go.Ground.data }, { on := 1, ground := Go.Ground.data }, { on := 4, ground := Go.Ground.data }, { on := 4, ground := Go.Ground.chain }], guard := none }) rfl (fun K hK => ?_) (AllReadyH.cons (o := { dst := some 12, op := Go.Op.alloc 90, type := 0, pos := "law.go:129", after := #[], guard := none }) rfl (fun K hK => ?_) AllReadyH.nil)
       · go_simp
         refine (sort_any apex qn qt qc (zMsg 7 qn qt qc ⟨kd, rc, AN, NS, AR⟩) mv wx1 HMA.out HSCM.out.1 HA1.out HA2.out).mono ?_; rintro e wx2 ⟨⟨v2, rfl, hou⟩, hb⟩
         rw [HO.out] at hou
         obtain ⟨oa, on, oc, rfl, hrk, -⟩ := hou
         replace hrk : RkUp wx2 wx1.heap.size oa on s1 := hrk
         have HRK := Lib.hid hrk
         clear hrk
         replace HMA := Lib.hid (HMA.out.below hb)
         go_wp2_with fail
         refine hK.out _ _ (Lib.hid (hHeld.out.trans (hb.mono hHeld.out.size))) (fun hHeld2 => ?_)
         clear hK K hHeld
         have hHeld := hHeld2
         clear hHeld2
         try simp only [Act.put, List.setIfInBounds_toArray, List.set_cons_zero, List.set_cons_succ]
         refine wpAnyH_ready (rs := [6]) (by kernel_rfl) (by simp) ?_
         refine AllReadyH.cons (o := { dst := some 12, op := Go.Op.alloc 90, type := 0, pos := "law.go:129", after := #[], guard := none }) rfl (fun K hK => ?_) AllReadyH.nil
         go_simp
         have hb := (Below.refl _ _ : Below wx2.heap.size wx2 wx2).alloc (Nat.le_refl _) (.cells #[.int .i64 0, .int .i64 0, .slice none 0 0, .string ⟨#[]⟩] 90)
         have C12 := Lib.hid (CN.new wx2 #[.int .i64 0, .int .i64 0, .slice none 0 0, .string ⟨#[]⟩] 90)
         have HOB := Lib.hid hb
         obtain ⟨wx3, hwe⟩ : ∃ x, wx2.alloc (.cells #[.int .i64 0, .int .i64 0, .slice none 0 0, .string ⟨#[]⟩] 90) = x := ⟨_, rfl⟩
         obtain ⟨q12, hge⟩ : ∃ x, wx2.heap.size = x := ⟨_, rfl⟩
         have hsz := hHeld.out.size
         have HWS := Lib.hid hge
         rw [hwe] at hb C12 HOB ⊢
         rw [hge] at C12 hsz ⊢
         clear hwe hge
         have HQM := Lib.hid hsz
         clear hsz
         refine hK.out _ _ (Lib.hid (hHeld.out.trans (hb.mono hHeld.out.size))) (fun hHeld2 => ?_)
         clear hK K hHeld
         have hHeld := hHeld2
         clear hHeld2
         try simp only [Act.put, List.setIfInBounds_toArray, List.set_cons_zero, List.set_cons_succ]
         refine wpAnyH_ready (rs := [7]) (by kernel_rfl) (by simp) ?_
         refine AllReadyH.cons (o := { dst := none, op := Go.Op.store 90 (Go.Operand.tmp 12) (Go.Operand.tmp 58), type := 0, pos := "law.go:129", after := #[{ on := 6, ground := Go.Ground.data }, { on := 5, ground := Go.Ground.data }, { on := 5, ground := Go.Ground.chain }, { on := 0, ground := Go.Ground.phase }, { on := 1, ground := Go.Ground.phase }, { on := 2, ground := Go.Ground.phase }, { on := 3, ground := Go.Ground.phase }, { on := 4, ground := Go.Ground.phase }, { on := 5, ground := Go.Ground.phase }, { on := 6, ground := Go.Ground.phase }], guard := none }) rfl (fun K hK => ?_) AllReadyH.nil
         obtain ⟨y0, y1, y2, y3, g0, g1, g2, g3⟩ := C12.out.o4
         have hgz := grown_p4 wx3 q12 (.int .i64 k1) (.int .i64 t1) (.slice oa on oc) (.string x1)
         have hbz := hHeld.out.grown hgz hHeld.out.size (fun k hk => by injection hk with hk; rw [← hk]; exact HQM.out)
         have C12Z := Lib.hid (C12.out.p4 (.int .i64 k1) (.int .i64 t1) (.slice oa on oc) (.string x1))
         have HRKZ := Lib.hid (HRK.out.below ((((HOB.out.setCell (by rw [HWS.out]; exact Nat.le_refl _) _).setCell (by rw [HWS.out]; exact Nat.le_refl _) _).setCell (by rw [HWS.out]; exact Nat.le_refl _) _).setCell (by rw [HWS.out]; exact Nat.le_refl _) _ : Below _ _ ((((wx3.setCell ⟨q12, 0, none⟩ (.int .i64 k1)).setCell ⟨q12, 1, none⟩ (.int .i64 t1)).setCell ⟨q12, 2, none⟩ (.slice oa on oc)).setCell ⟨q12, 3, none⟩ (.string x1))))
         clear hgz
         go_wp2_with fail
         clear y0 y1 y2 y3 g0 g1 g2 g3
         obtain ⟨wx4, hwe⟩ : ∃ x, ((((wx3.setCell ⟨q12, 0, none⟩ (.int .i64 k1)).setCell ⟨q12, 1, none⟩ (.int .i64 t1)).setCell ⟨q12, 2, none⟩ (.slice oa on oc)).setCell ⟨q12, 3, none⟩ (.string x1)) = x := ⟨_, rfl⟩
         rw [hwe] at C12Z HRKZ hbz ⊢
         clear hwe
         have HBZ := Lib.hid hbz
         clear hbz
         refine hK.out _ _ (HBZ) (fun hHeld2 => ?_)
         clear hK K hHeld
         have hHeld := hHeld2
         clear hHeld2
         try simp only [Act.put, List.setIfInBounds_toArray, List.set_cons_zero, List.set_cons_succ]
         refine wpAnyH_done (by kernel_rfl) ?_ _
         clear hHeld
         go_wp2_with fail
         go_meet
         exact ⟨q12, oa, on, oc, _, rfl, C12Z, HRKZ, HBZ⟩
       · go_simp
         have hb := (Below.refl _ _ : Below wx1.heap.size wx1 wx1).alloc (Nat.le_refl _) (.cells #[.int .i64 0, .int .i64 0, .slice none 0 0, .string ⟨#[]⟩] 90)
         have C12 := Lib.hid (CN.new wx1 #[.int .i64 0, .int .i64 0, .slice none 0 0, .string ⟨#[]⟩] 90)
         replace HMA := Lib.hid (HMA.out.below hb)
         obtain ⟨wx2, hwe⟩ : ∃ x, wx1.alloc (.cells #[.int .i64 0, .int .i64 0, .slice none 0 0, .string ⟨#[]⟩] 90) = x := ⟨_, rfl⟩
         obtain ⟨q12, hge⟩ : ∃ x, wx1.heap.size = x := ⟨_, rfl⟩
         have hsz := hHeld.out.size
         have HWS := Lib.hid hge
         rw [hwe] at hb C12 HMA ⊢
         rw [hge] at C12 hsz ⊢
         clear hwe hge
         have HQM := Lib.hid hsz
         clear hsz
         refine hK.out _ _ (Lib.hid (hHeld.out.trans (hb.mono hHeld.out.size))) (fun hHeld2 => ?_)
         clear hK K hHeld
         have hHeld := hHeld2
         clear hHeld2
         try simp only [Act.put, List.setIfInBounds_toArray, List.set_cons_zero, List.set_cons_succ]
         refine wpAnyH_ready (rs := [5]) (by kernel_rfl) (by simp) ?_
         refine AllReadyH.cons (o := { dst := some 58, op := Go.Op.call { callee := Go.Callee.value (Go.Operand.func 41), args := #[Go.Operand.tmp 53, Go.Operand.tmp 54, Go.Operand.tmp 57], argTypes := #[9, 69, 77] }, type := 90, pos := "law.go:129", after := #[{ on := 0, ground := Go.Ground.data }, { on := 1, ground := Go.Ground.data }, { on := 4, ground := Go.Ground.data }, { on := 4, ground := Go.Ground.chain }], guard := none }) rfl (fun K hK => ?_) AllReadyH.nil
         go_simp
         refine (sort_any apex qn qt qc (zMsg 7 qn qt qc ⟨kd, rc, AN, NS, AR⟩) mv wx2 HMA.out HSCM.out.1 HA1.out HA2.out).mono ?_; rintro e wx3 ⟨⟨v2, rfl, hou⟩, hb⟩
         rw [HO.out] at hou
         obtain ⟨oa, on, oc, rfl, hrk, -⟩ := hou
         replace hrk : RkUp wx3 wx2.heap.size oa on s1 := hrk
         have HRK := Lib.hid hrk
         clear hrk
         have HQB := Lib.hid (show q12 < wx2.heap.size from C12.out.1)
         replace HMA := Lib.hid (HMA.out.below hb)
         replace C12 := Lib.hid (C12.out.below hb)
         go_wp2_with fail
         refine hK.out _ _ (Lib.hid (hHeld.out.trans (hb.mono hHeld.out.size))) (fun hHeld2 => ?_)
         clear hK K hHeld
         have hHeld := hHeld2
         clear hHeld2
         try simp only [Act.put, List.setIfInBounds_toArray, List.set_cons_zero, List.set_cons_succ]
         refine wpAnyH_ready (rs := [7]) (by kernel_rfl) (by simp) ?_
         refine AllReadyH.cons (o := { dst := none, op := Go.Op.store 90 (Go.Operand.tmp 12) (Go.Operand.tmp 58), type := 0, pos := "law.go:129", after := #[{ on := 6, ground := Go.Ground.data }, { on := 5, ground := Go.Ground.data }, { on := 5, ground := Go.Ground.chain }, { on := 0, ground := Go.Ground.phase }, { on := 1, ground := Go.Ground.phase }, { on := 2, ground := Go.Ground.phase }, { on := 3, ground := Go.Ground.phase }, { on := 4, ground := Go.Ground.phase }, { on := 5, ground := Go.Ground.phase }, { on := 6, ground := Go.Ground.phase }], guard := none }) rfl (fun K hK => ?_) AllReadyH.nil
         obtain ⟨y0, y1, y2, y3, g0, g1, g2, g3⟩ := C12.out.o4
         have hgz := grown_p4 wx3 q12 (.int .i64 k1) (.int .i64 t1) (.slice oa on oc) (.string x1)
         have hbz := hHeld.out.grown hgz hHeld.out.size (fun k hk => by injection hk with hk; rw [← hk]; exact HQM.out)
         have C12Z := Lib.hid (C12.out.p4 (.int .i64 k1) (.int .i64 t1) (.slice oa on oc) (.string x1))
         have HRKZ := Lib.hid (HRK.out.far hgz HQB.out)
         clear hgz
         go_wp2_with fail
         clear y0 y1 y2 y3 g0 g1 g2 g3
         obtain ⟨wx4, hwe⟩ : ∃ x, ((((wx3.setCell ⟨q12, 0, none⟩ (.int .i64 k1)).setCell ⟨q12, 1, none⟩ (.int .i64 t1)).setCell ⟨q12, 2, none⟩ (.slice oa on oc)).setCell ⟨q12, 3, none⟩ (.string x1)) = x := ⟨_, rfl⟩
         rw [hwe] at C12Z HRKZ hbz ⊢
         clear hwe
         have HBZ := Lib.hid hbz
         clear hbz
         refine hK.out _ _ (HBZ) (fun hHeld2 => ?_)
         clear hK K hHeld
         have hHeld := hHeld2
         clear hHeld2
         try simp only [Act.put, List.setIfInBounds_toArray, List.set_cons_zero, List.set_cons_succ]
         refine wpAnyH_done (by kernel_rfl) ?_ _
         clear hHeld
         go_wp2_with fail
         go_meet
         exact ⟨q12, oa, on, oc, _, rfl, C12Z, HRKZ, HBZ⟩
     · go_simp
       have hb := (Below.refl _ _ : Below wd.heap.size wd wd).alloc (Nat.le_refl _) (.cells #[.int .i64 0, .int .i64 0, .slice none 0 0, .string ⟨#[]⟩] 90)
       have C12 := Lib.hid (CN.new wd #[.int .i64 0, .int .i64 0, .slice none 0 0, .string ⟨#[]⟩] 90)
       obtain ⟨wx1, hwe⟩ : ∃ x, wd.alloc (.cells #[.int .i64 0, .int .i64 0, .slice none 0 0, .string ⟨#[]⟩] 90) = x := ⟨_, rfl⟩
       obtain ⟨q12, hge⟩ : ∃ x, wd.heap.size = x := ⟨_, rfl⟩
       have hsz := hHeld.out.size
       have HWS := Lib.hid hge
       rw [hwe] at hb C12 ⊢
       rw [hge] at C12 hsz ⊢
       clear hwe hge
       have HQM := Lib.hid hsz
       clear hsz
       refine hK.out _ _ (Lib.hid (hHeld.out.trans (hb.mono hHeld.out.size))) (fun hHeld2 => ?_)
       clear hK K hHeld
       have hHeld := hHeld2
       clear hHeld2
       try simp only [Act.put, List.setIfInBounds_toArray, List.set_cons_zero, List.set_cons_succ]
       refine wpAnyH_ready (rs := [4]) (by kernel_rfl) (by simp) ?_
       refine AllReadyH.cons (o := { dst := some 57, op := Go.Op.call { callee := Go.Callee.value (Go.Operand.func 34), args := #[Go.Operand.const (Go.Value.int Go.IntKind.i64 7), Go.Operand.tmp 55, Go.Operand.tmp 56], argTypes := #[3, 69, 71] }, type := 77, pos := "law.go:129", after := #[{ on := 2, ground := Go.Ground.data }, { on := 3, ground := Go.Ground.data }], guard := none }) rfl (fun K hK => ?_) AllReadyH.nil
       go_simp
       refine (message_any 7 qn qt qc ⟨kd, rc, AN, NS, AR⟩ 0 _ wx1 (repAt_below HREP.out hHeld.out) ⟨by have := HLN.out.1; exact Nat.le_trans this (by decide), by have := HLN.out.2.1; exact Nat.le_trans this (by decide), by have := HLN.out.2.2; exact Nat.le_trans this (by decide)⟩ HSCM.out.2).mono ?_; rintro e wx2 ⟨⟨mv, rfl, hma⟩, hb⟩
       have HMA := Lib.hid hma
       clear hma
       replace C12 := Lib.hid (C12.out.below hb)
       go_wp2_with fail
       refine hK.out _ _ (Lib.hid (hHeld.out.trans (hb.mono hHeld.out.size))) (fun hHeld2 => ?_)
       clear hK K hHeld
       have hHeld := hHeld2
       clear hHeld2
       try simp only [Act.put, List.setIfInBounds_toArray, List.set_cons_zero, List.set_cons_succ]
       refine wpAnyH_ready (rs := [5]) (by kernel_rfl) (by simp) ?_
       refine AllReadyH.cons (o := { dst := some 58, op := Go.Op.call { callee := Go.Callee.value (Go.Operand.func 41), args := #[Go.Operand.tmp 53, Go.Operand.tmp 54, Go.Operand.tmp 57], argTypes := #[9, 69, 77] }, type := 90, pos := "law.go:129", after := #[{ on := 0, ground := Go.Ground.data }, { on := 1, ground := Go.Ground.data }, { on := 4, ground := Go.Ground.data }, { on := 4, ground := Go.Ground.chain }], guard := none }) rfl (fun K hK => ?_) AllReadyH.nil
       go_simp
       refine (sort_any apex qn qt qc (zMsg 7 qn qt qc ⟨kd, rc, AN, NS, AR⟩) mv wx2 HMA.out HSCM.out.1 HA1.out HA2.out).mono ?_; rintro e wx3 ⟨⟨v2, rfl, hou⟩, hb⟩
       rw [HO.out] at hou
       obtain ⟨oa, on, oc, rfl, hrk, -⟩ := hou
       replace hrk : RkUp wx3 wx2.heap.size oa on s1 := hrk
       have HRK := Lib.hid hrk
       clear hrk
       have HQB := Lib.hid (show q12 < wx2.heap.size from C12.out.1)
       replace HMA := Lib.hid (HMA.out.below hb)
       replace C12 := Lib.hid (C12.out.below hb)
       go_wp2_with fail
       refine hK.out _ _ (Lib.hid (hHeld.out.trans (hb.mono hHeld.out.size))) (fun hHeld2 => ?_)
       clear hK K hHeld
       have hHeld := hHeld2
       clear hHeld2
       try simp only [Act.put, List.setIfInBounds_toArray, List.set_cons_zero, List.set_cons_succ]
       refine wpAnyH_ready (rs := [7]) (by kernel_rfl) (by simp) ?_
       refine AllReadyH.cons (o := { dst := none, op := Go.Op.store 90 (Go.Operand.tmp 12) (Go.Operand.tmp 58), type := 0, pos := "law.go:129", after := #[{ on := 6, ground := Go.Ground.data }, { on := 5, ground := Go.Ground.data }, { on := 5, ground := Go.Ground.chain }, { on := 0, ground := Go.Ground.phase }, { on := 1, ground := Go.Ground.phase }, { on := 2, ground := Go.Ground.phase }, { on := 3, ground := Go.Ground.phase }, { on := 4, ground := Go.Ground.phase }, { on := 5, ground := Go.Ground.phase }, { on := 6, ground := Go.Ground.phase }], guard := none }) rfl (fun K hK => ?_) AllReadyH.nil
       obtain ⟨y0, y1, y2, y3, g0, g1, g2, g3⟩ := C12.out.o4
       have hgz := grown_p4 wx3 q12 (.int .i64 k1) (.int .i64 t1) (.slice oa on oc) (.string x1)
       have hbz := hHeld.out.grown hgz hHeld.out.size (fun k hk => by injection hk with hk; rw [← hk]; exact HQM.out)
       have C12Z := Lib.hid (C12.out.p4 (.int .i64 k1) (.int .i64 t1) (.slice oa on oc) (.string x1))
       have HRKZ := Lib.hid (HRK.out.far hgz HQB.out)
       clear hgz
       go_wp2_with fail
       clear y0 y1 y2 y3 g0 g1 g2 g3
       obtain ⟨wx4, hwe⟩ : ∃ x, ((((wx3.setCell ⟨q12, 0, none⟩ (.int .i64 k1)).setCell ⟨q12, 1, none⟩ (.int .i64 t1)).setCell ⟨q12, 2, none⟩ (.slice oa on oc)).setCell ⟨q12, 3, none⟩ (.string x1)) = x := ⟨_, rfl⟩
       rw [hwe] at C12Z HRKZ hbz ⊢
       clear hwe
       have HBZ := Lib.hid hbz
       clear hbz
       refine hK.out _ _ (HBZ) (fun hHeld2 => ?_)
       clear hK K hHeld
       have hHeld := hHeld2
       clear hHeld2
       try simp only [Act.put, List.setIfInBounds_toArray, List.set_cons_zero, List.set_cons_succ]
       refine wpAnyH_done (by kernel_rfl) ?_ _
       clear hHeld
       go_wp2_with fail
       go_meet
       exact ⟨q12, oa, on, oc, _, rfl, C12Z, HRKZ, HBZ⟩
 case rest =>
   obtain ⟨q12, oa, on, oc, Bq, rfl, C12, HRK, HBX⟩ := hcut
   replace HB := Lib.hid (HB.out.trans (HBX.out.mono HB.out.size))
   replace C1 := Lib.hid (C1.out.below HBX.out)
   replace HOK := Lib.hid (HOK.out.below HBX.out)
   replace HRZ := Lib.hid (HRZ.out.below HBX.out)
   replace HS1 := Lib.hid (HS1.out.below HBX.out)
   replace HS2 := Lib.hid (HS2.out.below HBX.out)
   replace HS3 := Lib.hid (HS3.out.below HBX.out)
   replace CR := Lib.hid (CR.out.below HBX.out)
   obtain ⟨w11, hw11⟩ : ∃ x, wc = x := ⟨_, rfl⟩
   rw [hw11] at HB C1 HOK HRZ HS1 HS2 HS3 CR C12 HRK ⊢
   clear hw11 HBX HSCM HO HY1 HY2 HY3
   obtain ⟨m0, m1, m2, m3, m4, _⟩ := CR.out.u5
   rcases HZP.out with ⟨hk, ho, s, r, hs, hso⟩ | ⟨hk, ho, s, r, hs, hso⟩ | ⟨hk, ho, s, T, hs, hso, hT⟩ | ⟨hko, s, d, hf, hd, ht⟩ | ⟨hk, ho⟩
   · as_aux_lemma =>
       obtain rfl : kd = 1 := hk
       obtain rfl : k1 = 1 := ho
       obtain rfl : AN = [s] := hs
       subst hso
       obtain ⟨hon, b9, da, dc, rfl, u0, u1, u2, u3, u4, hrd⟩ := rk_full HRK.out
       obtain ⟨hn9, b, o, pp, pc, hav, y0, y1, y2, y3, y4, hrs⟩ := at_full3 HS1.out.at
       subst hn9 hav
       have HDS := Lib.hid (show s.data.length ≤ 100000 from (HOK.out.sz.2 s (HMM.out s (by simp))).2)
       obtain ⟨⟨sn, st, sk⟩, su, sd⟩ := s
       obtain ⟨dl, hdl⟩ : ∃ x, sd.length = x := ⟨_, rfl⟩
       replace u4 : w11.cell? ⟨b9, 4, none⟩ = some (.slice da sd.length dc) := u4
       replace y4 : w11.cell? ⟨b, o + 4, none⟩ = some (.slice pp sd.length pc) := y4
       replace hrd : RowS w11 da sd.length sd := hrd
       replace hrs : RowS w11 pp sd.length sd := hrs.1
       replace HDS : Hid (sd.length ≤ 100000) := HDS
       rw [hdl] at u4 y4 hrd hrs HDS
       clear hdl
       replace y0 : w11.cell? ⟨b, o, none⟩ = some (.string sn) := y0
       replace u0 : w11.cell? ⟨b9, 0, none⟩ = some (.string sn) := u0
       replace y1 : w11.cell? ⟨b, o + 1, none⟩ = some (.int .i64 st) := y1
       replace u1 : w11.cell? ⟨b9, 1, none⟩ = some (.int .i64 st) := u1
       replace y2 : w11.cell? ⟨b, o + 2, none⟩ = some (.int .i64 sk) := y2
       replace u2 : w11.cell? ⟨b9, 2, none⟩ = some (.int .i64 sk) := u2
       replace y3 : w11.cell? ⟨b, o + 3, none⟩ = some (.int .i64 su) := y3
       replace u3 : w11.cell? ⟨b9, 3, none⟩ = some (.int .i64 su) := u3
       have Y0 := Lib.hid y0
       have U0 := Lib.hid u0
       have Y1 := Lib.hid y1
       have U1 := Lib.hid u1
       have Y2 := Lib.hid y2
       have U2 := Lib.hid u2
       have Y3 := Lib.hid y3
       have U3 := Lib.hid u3
       have Y4 := Lib.hid y4
       have U4 := Lib.hid u4
       have HRD := Lib.hid hrd
       have HRS := Lib.hid hrs
       clear hrd hrs y0 u0 y1 u1 y2 u2 y3 u3 y4 u4
       obtain rfl : on = 1 := hon
       have HSAME := Lib.hid (fun wx (hx : Below w11.heap.size w11 wx) => same_selfO sn st sk su sd da pp dl dc pc wx (HRD.out.below hx) (HRS.out.below hx) HDS.out)
       go_upto_region 14 with (fail)
       clear m0 m1 m2 m3 m4
       obtain ⟨wd, hwd⟩ : ∃ x, w11.drew = x := ⟨_, rfl⟩
       have HBD := Lib.hid (show Below w11.heap.size w11 wd by rw [← hwd]; exact (Below.refl _ _).drew)
       refine wp_region_held_drew (S := (fun wx => Hid (Below w11.heap.size w11 wx))) (by kernel_rfl) (by rw [hwd]; exact HBD) (fun hHeld => ?_)
       rw [hwd] at hHeld ⊢
       clear hwd
       refine Plan.of [0, 1, 2, 3, 4, 5, 6, 7, 8, 9, 10, 11, 12] ?_
       iterate 13 (refine Plan.w (v := ?_) rfl hHeld (by rfl) ?_ ?_; rotate_left; (focus (intro w hSw; (try dsimp only at hSw); obtain ⟨m0, m1, m2, m3, m4, _⟩ := (CR.out.below hSw.out).u5; obtain ⟨r0, r1, r2, r3, _⟩ := (C12.out.below hSw.out).o4; have y0 := cell_later4 hSw.out Y0.out; have y1 := cell_later4 hSw.out Y1.out; have y2 := cell_later4 hSw.out Y2.out; have y3 := cell_later4 hSw.out Y3.out; have y4 := cell_later4 hSw.out Y4.out; have u0 := cell_later4 hSw.out U0.out; have u1 := cell_later4 hSw.out U1.out; have u2 := cell_later4 hSw.out U2.out; have u3 := cell_later4 hSw.out U3.out; have u4 := cell_later4 hSw.out U4.out; go_simp; try with_reducible rfl)); try simp only [Act.put, List.setIfInBounds_toArray, List.set_cons_zero, List.set_cons_succ])
       refine Plan.fin ?_
       refine wpAnyH_ready (rs := [13]) (by kernel_rfl) (by simp) ?_
       refine AllReadyH.cons (o := { dst := some 76, op := Go.Op.call { callee := Go.Callee.value (Go.Operand.func 48), args := #[Go.Operand.tmp 71, Go.Operand.tmp 75], argTypes := #[38, 38] }, type := 4, pos := "law.go:133", after := #[{ on := 8, ground := Go.Ground.data }, { on := 12, ground := Go.Ground.data }, { on := 3, ground := Go.Ground.chain }, { on := 3, ground := Go.Ground.guard }], guard := some (3, true) }) rfl (fun K hK => ?_) AllReadyH.nil
       go_simp
       refine (HSAME.out _ hHeld.out).mono ?_; rintro e wx1 ⟨rfl, hb⟩
       go_wp2_with fail
       refine hK.out _ _ (Lib.hid (hHeld.out.trans (hb.mono hHeld.out.size))) (fun hHeld2 => ?_)
       clear hK K hHeld
       have hHeld := hHeld2
       clear hHeld2
       try simp only [Act.put, List.setIfInBounds_toArray, List.set_cons_zero, List.set_cons_succ]
       refine Plan.of [14, 15] ?_
       iterate 2 (refine Plan.w (v := ?_) rfl hHeld (by rfl) ?_ ?_; rotate_left; (focus (intro w hSw; (try dsimp only at hSw); obtain ⟨m0, m1, m2, m3, m4, _⟩ := (CR.out.below hSw.out).u5; obtain ⟨r0, r1, r2, r3, _⟩ := (C12.out.below hSw.out).o4; have y0 := cell_later4 hSw.out Y0.out; have y1 := cell_later4 hSw.out Y1.out; have y2 := cell_later4 hSw.out Y2.out; have y3 := cell_later4 hSw.out Y3.out; have y4 := cell_later4 hSw.out Y4.out; have u0 := cell_later4 hSw.out U0.out; have u1 := cell_later4 hSw.out U1.out; have u2 := cell_later4 hSw.out U2.out; have u3 := cell_later4 hSw.out U3.out; have u4 := cell_later4 hSw.out U4.out; go_simp; try with_reducible rfl)); try simp only [Act.put, List.setIfInBounds_toArray, List.set_cons_zero, List.set_cons_succ])
       refine Plan.fin ?_
       refine wpAnyH_done (by kernel_rfl) ?_ _
       have HB7 := Lib.hid hHeld.out
       clear hHeld
       skip
       have HB8 := Lib.hid (HB.out.trans (HB7.out.mono HB.out.size))
       go_wp2_with fail
       refine (first19 _).mono ?_; rintro e w9 ⟨rfl, hb⟩
       have HB9 := Lib.hid (HB8.out.trans (hb.mono HB8.out.size))
       clear hb
       go_wp2
       go_ret
       exact ⟨rfl, HB9.out⟩
   · as_aux_lemma =>
       obtain rfl : kd = 2 := hk
       obtain rfl : k1 = 2 := ho
       obtain rfl : AN = [s] := hs
       subst hso
       obtain ⟨hon, b9, da, dc, rfl, u0, u1, u2, u3, u4, hrd⟩ := rk_full HRK.out
       obtain ⟨hn9, b, o, pp, pc, hav, y0, y1, y2, y3, y4, hrs⟩ := at_full3 HS1.out.at
       subst hn9 hav
       have HDS := Lib.hid (show s.data.length ≤ 100000 from (HOK.out.sz.2 s (HMM.out s (by simp))).2)
       obtain ⟨⟨sn, st, sk⟩, su, sd⟩ := s
       obtain ⟨dl, hdl⟩ : ∃ x, sd.length = x := ⟨_, rfl⟩
       replace u4 : w11.cell? ⟨b9, 4, none⟩ = some (.slice da sd.length dc) := u4
       replace y4 : w11.cell? ⟨b, o + 4, none⟩ = some (.slice pp sd.length pc) := y4
       replace hrd : RowS w11 da sd.length sd := hrd
       replace hrs : RowS w11 pp sd.length sd := hrs.1
       replace HDS : Hid (sd.length ≤ 100000) := HDS
       rw [hdl] at u4 y4 hrd hrs HDS
       clear hdl
       replace y0 : w11.cell? ⟨b, o, none⟩ = some (.string sn) := y0
       replace u0 : w11.cell? ⟨b9, 0, none⟩ = some (.string sn) := u0
       replace y1 : w11.cell? ⟨b, o + 1, none⟩ = some (.int .i64 st) := y1
       replace u1 : w11.cell? ⟨b9, 1, none⟩ = some (.int .i64 st) := u1
       replace y2 : w11.cell? ⟨b, o + 2, none⟩ = some (.int .i64 sk) := y2
       replace u2 : w11.cell? ⟨b9, 2, none⟩ = some (.int .i64 sk) := u2
       replace y3 : w11.cell? ⟨b, o + 3, none⟩ = some (.int .i64 su) := y3
       replace u3 : w11.cell? ⟨b9, 3, none⟩ = some (.int .i64 su) := u3
       have Y0 := Lib.hid y0
       have U0 := Lib.hid u0
       have Y1 := Lib.hid y1
       have U1 := Lib.hid u1
       have Y2 := Lib.hid y2
       have U2 := Lib.hid u2
       have Y3 := Lib.hid y3
       have U3 := Lib.hid u3
       have Y4 := Lib.hid y4
       have U4 := Lib.hid u4
       have HRD := Lib.hid hrd
       have HRS := Lib.hid hrs
       clear hrd hrs y0 u0 y1 u1 y2 u2 y3 u3 y4 u4
       obtain rfl : on = 1 := hon
       have HSAME := Lib.hid (fun wx (hx : Below w11.heap.size w11 wx) => same_selfO sn st sk su sd da pp dl dc pc wx (HRD.out.below hx) (HRS.out.below hx) HDS.out)
       go_upto_region 16 with (fail)
       clear m0 m1 m2 m3 m4
       obtain ⟨wd, hwd⟩ : ∃ x, w11.drew = x := ⟨_, rfl⟩
       have HBD := Lib.hid (show Below w11.heap.size w11 wd by rw [← hwd]; exact (Below.refl _ _).drew)
       refine wp_region_held_drew (S := (fun wx => Hid (Below w11.heap.size w11 wx))) (by kernel_rfl) (by rw [hwd]; exact HBD) (fun hHeld => ?_)
       rw [hwd] at hHeld ⊢
       clear hwd
       refine Plan.of [0, 1, 2, 3, 4, 5, 6, 7, 8, 9, 10, 11, 12] ?_
       iterate 13 (refine Plan.w (v := ?_) rfl hHeld (by rfl) ?_ ?_; rotate_left; (focus (intro w hSw; (try dsimp only at hSw); obtain ⟨m0, m1, m2, m3, m4, _⟩ := (CR.out.below hSw.out).u5; obtain ⟨r0, r1, r2, r3, _⟩ := (C12.out.below hSw.out).o4; have y0 := cell_later4 hSw.out Y0.out; have y1 := cell_later4 hSw.out Y1.out; have y2 := cell_later4 hSw.out Y2.out; have y3 := cell_later4 hSw.out Y3.out; have y4 := cell_later4 hSw.out Y4.out; have u0 := cell_later4 hSw.out U0.out; have u1 := cell_later4 hSw.out U1.out; have u2 := cell_later4 hSw.out U2.out; have u3 := cell_later4 hSw.out U3.out; have u4 := cell_later4 hSw.out U4.out; go_simp; try with_reducible rfl)); try simp only [Act.put, List.setIfInBounds_toArray, List.set_cons_zero, List.set_cons_succ])
       refine Plan.fin ?_
       refine wpAnyH_ready (rs := [13]) (by kernel_rfl) (by simp) ?_
       refine AllReadyH.cons (o := { dst := some 93, op := Go.Op.call { callee := Go.Callee.value (Go.Operand.func 48), args := #[Go.Operand.tmp 88, Go.Operand.tmp 92], argTypes := #[38, 38] }, type := 4, pos := "law.go:135", after := #[{ on := 8, ground := Go.Ground.data }, { on := 12, ground := Go.Ground.data }, { on := 3, ground := Go.Ground.chain }, { on := 3, ground := Go.Ground.guard }], guard := some (3, true) }) rfl (fun K hK => ?_) AllReadyH.nil
       go_simp
       refine (HSAME.out _ hHeld.out).mono ?_; rintro e wx1 ⟨rfl, hb⟩
       go_wp2_with fail
       refine hK.out _ _ (Lib.hid (hHeld.out.trans (hb.mono hHeld.out.size))) (fun hHeld2 => ?_)
       clear hK K hHeld
       have hHeld := hHeld2
       clear hHeld2
       try simp only [Act.put, List.setIfInBounds_toArray, List.set_cons_zero, List.set_cons_succ]
       refine Plan.of [14, 15] ?_
       iterate 2 (refine Plan.w (v := ?_) rfl hHeld (by rfl) ?_ ?_; rotate_left; (focus (intro w hSw; (try dsimp only at hSw); obtain ⟨m0, m1, m2, m3, m4, _⟩ := (CR.out.below hSw.out).u5; obtain ⟨r0, r1, r2, r3, _⟩ := (C12.out.below hSw.out).o4; have y0 := cell_later4 hSw.out Y0.out; have y1 := cell_later4 hSw.out Y1.out; have y2 := cell_later4 hSw.out Y2.out; have y3 := cell_later4 hSw.out Y3.out; have y4 := cell_later4 hSw.out Y4.out; have u0 := cell_later4 hSw.out U0.out; have u1 := cell_later4 hSw.out U1.out; have u2 := cell_later4 hSw.out U2.out; have u3 := cell_later4 hSw.out U3.out; have u4 := cell_later4 hSw.out U4.out; go_simp; try with_reducible rfl)); try simp only [Act.put, List.setIfInBounds_toArray, List.set_cons_zero, List.set_cons_succ])
       refine Plan.fin ?_
       refine wpAnyH_done (by kernel_rfl) ?_ _
       have HB7 := Lib.hid hHeld.out
       clear hHeld
       skip
       have HB8 := Lib.hid (HB.out.trans (HB7.out.mono HB.out.size))
       go_wp2_with fail
       refine (first19 _).mono ?_; rintro e w9 ⟨rfl, hb⟩
       have HB9 := Lib.hid (HB8.out.trans (hb.mono HB8.out.size))
       clear hb
       go_wp2
       go_ret
       exact ⟨rfl, HB9.out⟩
   · as_aux_lemma =>
       obtain rfl : kd = 3 := hk
       obtain rfl : k1 = 3 := ho
       obtain rfl : NS = [s] := hs
       subst hso
       obtain ⟨hon, b9, da, dc, rfl, u0, u1, u2, u3, u4, hrd⟩ := rk_full HRK.out
       obtain ⟨hn9, b, o, pp, pc, hav, y0, y1, y2, y3, y4, hrs⟩ := at_full3 HS2.out.at
       subst hn9 hav
       have HDS := Lib.hid (show s.data.length ≤ 100000 from (HOK.out.sz.2 s (HMM.out s (by simp))).2)
       obtain ⟨⟨sn, st, sk⟩, su, sd⟩ := s
       obtain ⟨dl, hdl⟩ : ∃ x, sd.length = x := ⟨_, rfl⟩
       replace u4 : w11.cell? ⟨b9, 4, none⟩ = some (.slice da sd.length dc) := u4
       replace y4 : w11.cell? ⟨b, o + 4, none⟩ = some (.slice pp sd.length pc) := y4
       replace hrd : RowS w11 da sd.length sd := hrd
       replace hrs : RowS w11 pp sd.length sd := hrs.1
       replace HDS : Hid (sd.length ≤ 100000) := HDS
       rw [hdl] at u4 y4 hrd hrs HDS
       clear hdl
       replace y0 : w11.cell? ⟨b, o, none⟩ = some (.string sn) := y0
       replace u0 : w11.cell? ⟨b9, 0, none⟩ = some (.string sn) := u0
       replace y1 : w11.cell? ⟨b, o + 1, none⟩ = some (.int .i64 st) := y1
       replace u1 : w11.cell? ⟨b9, 1, none⟩ = some (.int .i64 st) := u1
       replace y2 : w11.cell? ⟨b, o + 2, none⟩ = some (.int .i64 sk) := y2
       replace u2 : w11.cell? ⟨b9, 2, none⟩ = some (.int .i64 sk) := u2
       replace y3 : w11.cell? ⟨b, o + 3, none⟩ = some (.int .i64 su) := y3
       replace u3 : w11.cell? ⟨b9, 3, none⟩ = some (.int .i64 su) := u3
       have Y0 := Lib.hid y0
       have U0 := Lib.hid u0
       have Y1 := Lib.hid y1
       have U1 := Lib.hid u1
       have Y2 := Lib.hid y2
       have U2 := Lib.hid u2
       have Y3 := Lib.hid y3
       have U3 := Lib.hid u3
       have Y4 := Lib.hid y4
       have U4 := Lib.hid u4
       have HRD := Lib.hid hrd
       have HRS := Lib.hid hrs
       clear hrd hrs y0 u0 y1 u1 y2 u2 y3 u3 y4 u4
       obtain ⟨hl3, hn3⟩ : AR.length = n3 ∧ n3 ≤ 600 := ⟨HS3.out.at.1, by have := HLN.out.2.2; have := HS3.out.at.1; omega⟩
       have hon3 : on = n3 + 1 := by rw [hon, hT]; exact congrArg (· + 1) hl3
       have HN30 := Lib.hid hn3
       have HI1 := Lib.hid (show (0 : Int) < (on : Int) by omega)
       have HI2 := Lib.hid (show 0 < on by omega)
       have HE1 := Lib.hid (show ((on : Int) == 1 + (n3 : Int)) = true by rw [beq_iff_eq]; omega)
       have HE3 := Lib.hid (show ((on : Int) == IntKind.i64.wrap (1 + (n3 : Int))) = true by rw [IntWalk.i64_left, IntWalk.wrap64_in _ ⟨by omega, by omega⟩, beq_iff_eq]; omega)
       have HE4 := Lib.hid (show ((on : Int) == wrap64 (1 + (n3 : Int))) = true by rw [IntWalk.wrap64_in _ ⟨by omega, by omega⟩, beq_iff_eq]; omega)
       clear hon hon3 hT hl3 hn3
       have HSAME := Lib.hid (fun wx (hx : Below w11.heap.size w11 wx) => same_selfO sn st sk su sd da pp dl dc pc wx (HRD.out.below hx) (HRS.out.below hx) HDS.out)
       go_upto_region 18 with (fail)
       clear m0 m1 m2 m3 m4
       obtain ⟨wd, hwd⟩ : ∃ x, w11.drew = x := ⟨_, rfl⟩
       have HBD := Lib.hid (show Below w11.heap.size w11 wd by rw [← hwd]; exact (Below.refl _ _).drew)
       refine wp_region_held_drew (S := (fun wx => Hid (Below w11.heap.size w11 wx))) (by kernel_rfl) (by rw [hwd]; exact HBD) (fun hHeld => ?_)
       rw [hwd] at hHeld ⊢
       clear hwd
       refine Plan.of [0, 1, 2, 3, 4, 5, 6, 7, 8, 9, 10, 11, 12] ?_
       iterate 13 (refine Plan.w (v := ?_) rfl hHeld (by rfl) ?_ ?_; rotate_left; (focus (intro w hSw; (try dsimp only at hSw); obtain ⟨m0, m1, m2, m3, m4, _⟩ := (CR.out.below hSw.out).u5; obtain ⟨r0, r1, r2, r3, _⟩ := (C12.out.below hSw.out).o4; have y0 := cell_later4 hSw.out Y0.out; have y1 := cell_later4 hSw.out Y1.out; have y2 := cell_later4 hSw.out Y2.out; have y3 := cell_later4 hSw.out Y3.out; have y4 := cell_later4 hSw.out Y4.out; have u0 := cell_later4 hSw.out U0.out; have u1 := cell_later4 hSw.out U1.out; have u2 := cell_later4 hSw.out U2.out; have u3 := cell_later4 hSw.out U3.out; have u4 := cell_later4 hSw.out U4.out; have hn3 := HN30.out; have i1 := HI1.out; have i2 := HI2.out; have e1 := HE1.out; have e3 := HE3.out; have e4 := HE4.out; go_simp; try with_reducible rfl)); try simp only [Act.put, List.setIfInBounds_toArray, List.set_cons_zero, List.set_cons_succ])
       refine Plan.fin ?_
       refine wpAnyH_ready (rs := [13]) (by kernel_rfl) (by simp) ?_
       refine AllReadyH.cons (o := { dst := some 110, op := Go.Op.call { callee := Go.Callee.value (Go.Operand.func 48), args := #[Go.Operand.tmp 105, Go.Operand.tmp 109], argTypes := #[38, 38] }, type := 4, pos := "law.go:137", after := #[{ on := 8, ground := Go.Ground.data }, { on := 12, ground := Go.Ground.data }, { on := 3, ground := Go.Ground.chain }, { on := 3, ground := Go.Ground.guard }], guard := some (3, true) }) rfl (fun K hK => ?_) AllReadyH.nil
       go_simp
       refine (HSAME.out _ hHeld.out).mono ?_; rintro e wx1 ⟨rfl, hb⟩
       go_wp2_with fail
       refine hK.out _ _ (Lib.hid (hHeld.out.trans (hb.mono hHeld.out.size))) (fun hHeld2 => ?_)
       clear hK K hHeld
       have hHeld := hHeld2
       clear hHeld2
       try simp only [Act.put, List.setIfInBounds_toArray, List.set_cons_zero, List.set_cons_succ]
       refine Plan.of [14, 15, 16, 17, 18, 19, 20, 21, 22, 23, 24, 25] ?_
       iterate 12 (refine Plan.w (v := ?_) rfl hHeld (by rfl) ?_ ?_; rotate_left; (focus (intro w hSw; (try dsimp only at hSw); obtain ⟨m0, m1, m2, m3, m4, _⟩ := (CR.out.below hSw.out).u5; obtain ⟨r0, r1, r2, r3, _⟩ := (C12.out.below hSw.out).o4; have y0 := cell_later4 hSw.out Y0.out; have y1 := cell_later4 hSw.out Y1.out; have y2 := cell_later4 hSw.out Y2.out; have y3 := cell_later4 hSw.out Y3.out; have y4 := cell_later4 hSw.out Y4.out; have u0 := cell_later4 hSw.out U0.out; have u1 := cell_later4 hSw.out U1.out; have u2 := cell_later4 hSw.out U2.out; have u3 := cell_later4 hSw.out U3.out; have u4 := cell_later4 hSw.out U4.out; have hn3 := HN30.out; have i1 := HI1.out; have i2 := HI2.out; have e1 := HE1.out; have e3 := HE3.out; have e4 := HE4.out; go_simp; try with_reducible rfl)); try simp only [Act.put, List.setIfInBounds_toArray, List.set_cons_zero, List.set_cons_succ])
       refine Plan.fin ?_
       refine wpAnyH_done (by kernel_rfl) ?_ _
       have HB7 := Lib.hid hHeld.out
       clear hHeld
       skip
       have HB8 := Lib.hid (HB.out.trans (HB7.out.mono HB.out.size))
       go_wp2_with fail
       refine (first19 _).mono ?_; rintro e w9 ⟨rfl, hb⟩
       have HB9 := Lib.hid (HB8.out.trans (hb.mono HB8.out.size))
       clear hb
       go_wp2
       go_ret
       exact ⟨by first | rfl | (show Ending.returned (Value.bool ((on : Int) == wrap64 (1 + (n3 : Int)))) = _; rw [HE4.out]), HB9.out⟩
   · as_aux_lemma =>
       have HFS := Lib.hid hf
       obtain ⟨M, R, x1v, x2, x3, x4, x5, vb, hgv⟩ := getSoaV_ex d
       have hmn := soaMin_of hgv
       have HT9 := Lib.hid (show t1 = min s.ttl x5 from by rw [← hmn]; exact ht)
       have HSOA := Lib.hid (fun wx (hx : Below w11.heap.size w11 wx) => zsoa_any z apex S s d [] M R x1v x2 x3 x4 x5 vb wx (HOK.out.is.below hx) HOK.out.canon.keys HOK.out.sz HA1.out hf hd (by have h := HOK.out.szd s (find_mem hf) d (by rw [hd]; simp); exact h) hgv)
       clear hf hd ht hgv hmn
       rcases hko with ⟨hk, ho⟩ | ⟨hk, ho⟩
       · obtain rfl : kd = 4 := hk
         obtain rfl : k1 = 4 := ho
         go_upto_region 20 with (fail)
         clear m0 m1 m2 m3 m4
         obtain ⟨wd, hwd⟩ : ∃ x, w11.drew = x := ⟨_, rfl⟩
         have HBD := Lib.hid (show Below w11.heap.size w11 wd by rw [← hwd]; exact (Below.refl _ _).drew)
         refine wp_region_held_drew (S := (fun wx => Hid (Below w11.heap.size w11 wx))) (by kernel_rfl) (by rw [hwd]; exact HBD) (fun hHeld => ?_)
         rw [hwd] at hHeld ⊢
         clear hwd
         refine Plan.of [0, 1, 2, 3, 4, 5, 6, 9] ?_
         iterate 8 (refine Plan.w (v := ?_) rfl hHeld (by rfl) ?_ ?_; rotate_left; (focus (intro w hSw; (try dsimp only at hSw); obtain ⟨m0, m1, m2, m3, m4, _⟩ := (CR.out.below hSw.out).u5; obtain ⟨r0, r1, r2, r3, _⟩ := (C12.out.below hSw.out).o4; go_simp; try with_reducible rfl)); try simp only [Act.put, List.setIfInBounds_toArray, List.set_cons_zero, List.set_cons_succ])
         refine Plan.fin ?_
         refine wpAnyH_ready (rs := [7]) (by kernel_rfl) (by simp) ?_
         refine AllReadyH.cons (o := { dst := some 131, op := Go.Op.call { callee := Go.Callee.value (Go.Operand.func 49), args := #[Go.Operand.tmp 130], argTypes := #[32] }, type := 43, pos := "law.go:139", after := #[{ on := 6, ground := Go.Ground.data }, { on := 3, ground := Go.Ground.chain }, { on := 3, ground := Go.Ground.guard }], guard := some (3, true) }) rfl (fun K hK => ?_) AllReadyH.nil
         go_simp
         refine (rsoaset_any y apex S s _ (HRZ.out.below hHeld.out) (HOK.out.sz.1) HFS.out).mono ?_; rintro e wx1 ⟨⟨p9, c9, rfl⟩, hb⟩
         obtain ⟨dl, hdl⟩ : ∃ x, s.data.length = x := ⟨_, rfl⟩
         rw [hdl]
         obtain ⟨⟨sn, st, sk⟩, su, sd⟩ := s
         obtain rfl : t1 = min su x5 := HT9.out
         dsimp only
         have hfd : ∀ w : World, (Instr.field 43 (.agg #[.string sn, .int .i64 st, .int .i64 sk, .int .i64 su, .slice p9 dl c9]) 1).run Tryz.prog w = .ok (.int .i64 su) w := fun _ => by kernel_rfl
         go_wp2_with fail
         refine hK.out _ _ (Lib.hid (hHeld.out.trans (hb.mono hHeld.out.size))) (fun hHeld2 => ?_)
         clear hK K hHeld
         have hHeld := hHeld2
         clear hHeld2
         try simp only [Act.put, List.setIfInBounds_toArray, List.set_cons_zero, List.set_cons_succ]
         refine Plan.of [8] ?_
         refine Plan.w (v := ?_) rfl hHeld (by rfl) ?_ ?_; rotate_left; (focus (intro w hSw; (try dsimp only at hSw); obtain ⟨m0, m1, m2, m3, m4, _⟩ := (CR.out.below hSw.out).u5; obtain ⟨r0, r1, r2, r3, _⟩ := (C12.out.below hSw.out).o4; go_simp; try with_reducible rfl)); try simp only [Act.put, List.setIfInBounds_toArray, List.set_cons_zero, List.set_cons_succ]
         refine Plan.fin ?_
         refine wpAnyH_ready (rs := [10]) (by kernel_rfl) (by simp) ?_
         refine AllReadyH.cons (o := { dst := some 134, op := Go.Op.call { callee := Go.Callee.value (Go.Operand.func 20), args := #[Go.Operand.tmp 133], argTypes := #[28] }, type := 56, pos := "law.go:139", after := #[{ on := 9, ground := Go.Ground.data }, { on := 7, ground := Go.Ground.chain }, { on := 3, ground := Go.Ground.guard }], guard := some (3, true) }) rfl (fun K hK => ?_) AllReadyH.nil
         go_simp
         refine (HSOA.out _ hHeld.out).mono ?_; rintro e wx2 ⟨rfl, hb⟩
         have hfe : ∀ w : World, (Instr.field 56 (.agg #[.string M, .string R, .int .i64 x1v, .int .i64 x2, .int .i64 x3, .int .i64 x4, .int .i64 x5]) 6).run Tryz.prog w = .ok (.int .i64 x5) w := fun _ => by kernel_rfl
         go_wp2_with fail
         refine hK.out _ _ (Lib.hid (hHeld.out.trans (hb.mono hHeld.out.size))) (fun hHeld2 => ?_)
         clear hK K hHeld
         have hHeld := hHeld2
         clear hHeld2
         try simp only [Act.put, List.setIfInBounds_toArray, List.set_cons_zero, List.set_cons_succ]
         refine Plan.of [11, 12, 13, 14, 15] ?_
         iterate 5 (refine Plan.w (v := ?_) rfl hHeld (by rfl) ?_ ?_; rotate_left; (focus (intro w hSw; (try dsimp only at hSw); obtain ⟨m0, m1, m2, m3, m4, _⟩ := (CR.out.below hSw.out).u5; obtain ⟨r0, r1, r2, r3, _⟩ := (C12.out.below hSw.out).o4; go_simp; try with_reducible rfl)); try simp only [Act.put, List.setIfInBounds_toArray, List.set_cons_zero, List.set_cons_succ])
         refine Plan.fin ?_
         refine wpAnyH_done (by kernel_rfl) ?_ _
         have HB7 := Lib.hid hHeld.out
         clear hHeld
         skip
         have HB8 := Lib.hid (HB.out.trans (HB7.out.mono HB.out.size))
         go_wp2_with fail
         refine (first19 _).mono ?_; rintro e w9 ⟨rfl, hb⟩
         have HB9 := Lib.hid (HB8.out.trans (hb.mono HB8.out.size))
         clear hb
         go_wp2
         go_ret
         exact ⟨rfl, HB9.out⟩
       · obtain rfl : kd = 5 := hk
         obtain rfl : k1 = 5 := ho
         go_upto_region 22 with (fail)
         clear m0 m1 m2 m3 m4
         obtain ⟨wd, hwd⟩ : ∃ x, w11.drew = x := ⟨_, rfl⟩
         have HBD := Lib.hid (show Below w11.heap.size w11 wd by rw [← hwd]; exact (Below.refl _ _).drew)
         refine wp_region_held_drew (S := (fun wx => Hid (Below w11.heap.size w11 wx))) (by kernel_rfl) (by rw [hwd]; exact HBD) (fun hHeld => ?_)
         rw [hwd] at hHeld ⊢
         clear hwd
         refine Plan.of [0, 1, 2, 3, 4, 5, 6, 9] ?_
         iterate 8 (refine Plan.w (v := ?_) rfl hHeld (by rfl) ?_ ?_; rotate_left; (focus (intro w hSw; (try dsimp only at hSw); obtain ⟨m0, m1, m2, m3, m4, _⟩ := (CR.out.below hSw.out).u5; obtain ⟨r0, r1, r2, r3, _⟩ := (C12.out.below hSw.out).o4; go_simp; try with_reducible rfl)); try simp only [Act.put, List.setIfInBounds_toArray, List.set_cons_zero, List.set_cons_succ])
         refine Plan.fin ?_
         refine wpAnyH_ready (rs := [7]) (by kernel_rfl) (by simp) ?_
         refine AllReadyH.cons (o := { dst := some 148, op := Go.Op.call { callee := Go.Callee.value (Go.Operand.func 49), args := #[Go.Operand.tmp 147], argTypes := #[32] }, type := 43, pos := "law.go:141", after := #[{ on := 6, ground := Go.Ground.data }, { on := 3, ground := Go.Ground.chain }, { on := 3, ground := Go.Ground.guard }], guard := some (3, true) }) rfl (fun K hK => ?_) AllReadyH.nil
         go_simp
         refine (rsoaset_any y apex S s _ (HRZ.out.below hHeld.out) (HOK.out.sz.1) HFS.out).mono ?_; rintro e wx1 ⟨⟨p9, c9, rfl⟩, hb⟩
         obtain ⟨dl, hdl⟩ : ∃ x, s.data.length = x := ⟨_, rfl⟩
         rw [hdl]
         obtain ⟨⟨sn, st, sk⟩, su, sd⟩ := s
         obtain rfl : t1 = min su x5 := HT9.out
         dsimp only
         have hfd : ∀ w : World, (Instr.field 43 (.agg #[.string sn, .int .i64 st, .int .i64 sk, .int .i64 su, .slice p9 dl c9]) 1).run Tryz.prog w = .ok (.int .i64 su) w := fun _ => by kernel_rfl
         go_wp2_with fail
         refine hK.out _ _ (Lib.hid (hHeld.out.trans (hb.mono hHeld.out.size))) (fun hHeld2 => ?_)
         clear hK K hHeld
         have hHeld := hHeld2
         clear hHeld2
         try simp only [Act.put, List.setIfInBounds_toArray, List.set_cons_zero, List.set_cons_succ]
         refine Plan.of [8] ?_
         refine Plan.w (v := ?_) rfl hHeld (by rfl) ?_ ?_; rotate_left; (focus (intro w hSw; (try dsimp only at hSw); obtain ⟨m0, m1, m2, m3, m4, _⟩ := (CR.out.below hSw.out).u5; obtain ⟨r0, r1, r2, r3, _⟩ := (C12.out.below hSw.out).o4; go_simp; try with_reducible rfl)); try simp only [Act.put, List.setIfInBounds_toArray, List.set_cons_zero, List.set_cons_succ]
         refine Plan.fin ?_
         refine wpAnyH_ready (rs := [10]) (by kernel_rfl) (by simp) ?_
         refine AllReadyH.cons (o := { dst := some 151, op := Go.Op.call { callee := Go.Callee.value (Go.Operand.func 20), args := #[Go.Operand.tmp 150], argTypes := #[28] }, type := 56, pos := "law.go:141", after := #[{ on := 9, ground := Go.Ground.data }, { on := 7, ground := Go.Ground.chain }, { on := 3, ground := Go.Ground.guard }], guard := some (3, true) }) rfl (fun K hK => ?_) AllReadyH.nil
         go_simp
         refine (HSOA.out _ hHeld.out).mono ?_; rintro e wx2 ⟨rfl, hb⟩
         have hfe : ∀ w : World, (Instr.field 56 (.agg #[.string M, .string R, .int .i64 x1v, .int .i64 x2, .int .i64 x3, .int .i64 x4, .int .i64 x5]) 6).run Tryz.prog w = .ok (.int .i64 x5) w := fun _ => by kernel_rfl
         go_wp2_with fail
         refine hK.out _ _ (Lib.hid (hHeld.out.trans (hb.mono hHeld.out.size))) (fun hHeld2 => ?_)
         clear hK K hHeld
         have hHeld := hHeld2
         clear hHeld2
         try simp only [Act.put, List.setIfInBounds_toArray, List.set_cons_zero, List.set_cons_succ]
         refine Plan.of [11, 12, 13, 14, 15] ?_
         iterate 5 (refine Plan.w (v := ?_) rfl hHeld (by rfl) ?_ ?_; rotate_left; (focus (intro w hSw; (try dsimp only at hSw); obtain ⟨m0, m1, m2, m3, m4, _⟩ := (CR.out.below hSw.out).u5; obtain ⟨r0, r1, r2, r3, _⟩ := (C12.out.below hSw.out).o4; go_simp; try with_reducible rfl)); try simp only [Act.put, List.setIfInBounds_toArray, List.set_cons_zero, List.set_cons_succ])
         refine Plan.fin ?_
         refine wpAnyH_done (by kernel_rfl) ?_ _
         have HB7 := Lib.hid hHeld.out
         clear hHeld
         skip
         have HB8 := Lib.hid (HB.out.trans (HB7.out.mono HB.out.size))
         go_wp2_with fail
         refine (first19 _).mono ?_; rintro e w9 ⟨rfl, hb⟩
         have HB9 := Lib.hid (HB8.out.trans (hb.mono HB8.out.size))
         clear hb
         go_wp2
         go_ret
         exact ⟨rfl, HB9.out⟩
   · as_aux_lemma =>
       obtain rfl : kd = 6 := hk
       obtain rfl : k1 = 0 := ho
       obtain ⟨r0, r1, r2, r3, _⟩ := C12.out.o4
       go_wp2_with fail
       refine (first19 _).mono ?_; rintro e w9 ⟨rfl, hb⟩
       have HB9 := Lib.hid (HB.out.trans (hb.mono HB.out.size))
       clear hb
       go_wp2
       go_ret
       exact ⟨rfl, HB9.out⟩
end Go.Proofs.YthfnphcefkdgbaaGreat
