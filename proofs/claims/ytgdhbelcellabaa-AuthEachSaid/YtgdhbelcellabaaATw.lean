/- AuthTwice: the walk. -/
import Derived.Test.YtgdhbelcellabaaAuF
import Derived.Test.YtgdhbelcellabaaZCu
namespace Go.Proofs.Ytgdhbelcellabaa
open Go.RowKit

theorem there_in {S : List SetP} {s : SetP} {n : ByteArray} (hs : s ∈ S) (hk : s.k.n = n) (hm : mayN n = true) : thereP S n = true :=
  List.any_eq_true.2 ⟨s, hs, by rw [hk]; exact und_refl hm⟩
theorem und_may {n a : ByteArray} (h : undS n a = true) : mayN n = true := by
  rw [undS, Bool.and_eq_true, Bool.and_eq_true] at h; exact h.1.1
theorem soaL_one {w : World} {z : Nat} {apex : ByteArray} {l : List R5} {S : List SetP} (h : ZOk w z apex l S) : ∃ s, soaL S apex = [s] ∧ s.k.n = apex := by
  obtain ⟨s0, d0, hs, -⟩ := soa_one h
  exact ⟨s0, by rw [soaL, hs]; rfl, by rw [find_key hs]⟩
theorem ans_out {S : List SetP} {apex n : ByteArray} {t c : Int} (h : inQ apex n t c = false) : ansF S apex n t c = ⟨6, 5, [], [], []⟩ := by rw [ansF, if_pos h]
theorem ans_cut {S : List SetP} {apex n : ByteArray} {t c : Int} {x : SetP} (h : inQ apex n t c = true) (hc : cutP S apex n = some x) (ht : ¬ (x.k.n = n ∧ t = 43)) : ansF S apex n t c = ⟨3, 0, [], [x], glueL S [x]⟩ := by
  rw [ansF, if_neg (by rw [h]; simp), hc]; exact if_neg ht
theorem ans_no {S : List SetP} {apex n : ByteArray} {t c : Int} (h : inQ apex n t c = true) (hc : cutP S apex n = none) : ansF S apex n t c = ansT S apex n t := by
  rw [ansF, if_neg (by rw [h]; simp), hc]
theorem ansT_alias {S : List SetP} {apex n : ByteArray} {t : Int} {s : SetP} (h : findK S ⟨n, 5, 1⟩ = some s) (ht : t ≠ 5) : ansT S apex n t = ⟨2, 0, [s], [], []⟩ := by rw [ansT, h]; exact if_neg ht
theorem ansT_k {S : List SetP} {apex n : ByteArray} {t : Int} (h : findK S ⟨n, 5, 1⟩ = none ∨ t = 5) : ansT S apex n t = ansK S apex n t := by
  rw [ansT]
  cases hf : findK S ⟨n, 5, 1⟩ with
  | none => rfl
  | some s =>
    rcases h with h | h
    · rw [hf] at h; cases h
    · exact if_pos h
theorem ansK_yes {S : List SetP} {apex n : ByteArray} {t : Int} {s : SetP} (h : findK S ⟨n, t, 1⟩ = some s) : ansK S apex n t = ⟨1, 0, [s], [], glueL S [s]⟩ := by rw [ansK, h]
theorem ansK_no {S : List SetP} {apex n : ByteArray} {t : Int} (h : findK S ⟨n, t, 1⟩ = none) : ansK S apex n t = if thereP S n = true then ⟨5, 0, [], soaL S apex, []⟩ else ⟨4, 3, [], soaL S apex, []⟩ := by rw [ansK, h]
/-- What is told behind a cut. -/
theorem ansT_kinds {w : World} {z : Nat} {apex : ByteArray} {l : List R5} {S : List SetP} (h : ZOk w z apex l S) {n : ByteArray} (hm : mayN n = true) (t : Int) :
    (thereP S n = false → (ansT S apex n t).kind = 4) ∧ (thereP S n = true →
      ((findK S ⟨n, 5, 1⟩).isSome = true ∧ t ≠ 5 ∧ (ansT S apex n t).kind = 2 ∨ ((findK S ⟨n, 5, 1⟩).isSome = false ∨ t = 5) ∧
        ((findK S ⟨n, t, 1⟩).isSome = true ∧ (ansT S apex n t).kind = 1 ∨ (findK S ⟨n, t, 1⟩).isSome = false ∧ (ansT S apex n t).kind = 5 ∧ ∃ s, (ansT S apex n t).ns = [s] ∧ s.k.n = apex))) := by
  constructor
  · intro ht
    have hno : ∀ t, findK S ⟨n, t, 1⟩ = none := fun t => by
      cases hf : findK S ⟨n, t, 1⟩ with
      | none => rfl
      | some s =>
        have h1 := there_in (find_mem hf) (by rw [find_key hf]) hm
        rw [ht] at h1; cases h1
    rw [ansT_k (Or.inl (hno 5)), ansK_no (hno t), ht]; rfl
  · intro ht
    have hk : ((findK S ⟨n, 5, 1⟩) = none ∨ t = 5) → ((findK S ⟨n, t, 1⟩).isSome = true ∧ (ansT S apex n t).kind = 1 ∨ (findK S ⟨n, t, 1⟩).isSome = false ∧ (ansT S apex n t).kind = 5 ∧ ∃ s, (ansT S apex n t).ns = [s] ∧ s.k.n = apex) := by
      intro h5
      rw [ansT_k h5]
      cases hf : findK S ⟨n, t, 1⟩ with
      | some s => exact Or.inl ⟨rfl, by rw [ansK_yes hf]⟩
      | none =>
        refine Or.inr ⟨rfl, ?_⟩
        rw [ansK_no hf, if_pos ht]
        exact ⟨rfl, soaL_one h⟩
    cases h5 : findK S ⟨n, 5, 1⟩ with
    | none => exact Or.inr ⟨Or.inl rfl, hk (Or.inl h5)⟩
    | some s =>
      by_cases ht5 : t = 5
      · exact Or.inr ⟨Or.inr ht5, hk (Or.inr ht5)⟩
      · exact Or.inl ⟨rfl, ht5, by rw [ansT_alias h5 ht5]⟩
def TwiceP (S : List SetP) (apex n : ByteArray) (a b : Int) : Prop :=
  (undS n apex = false ∧ (ansF S apex n a 1).kind = 6 ∧ (ansF S apex n b 1).kind = 6) ∨
  (undS n apex = true ∧ (ansF S apex n a 1).kind = 6) ∨ (undS n apex = true ∧ (ansF S apex n a 1).kind ≠ 6 ∧ (ansF S apex n b 1).kind = 6) ∨
  (undS n apex = true ∧ (ansF S apex n b 1).kind ≠ 6 ∧ ((ansF S apex n a 1).kind = 3 ∧ (ansF S apex n b 1).kind = 3 ∨ (ansF S apex n a 1).kind = 4 ∧ (ansF S apex n b 1).kind = 4)) ∨
  (undS n apex = true ∧ ((ansF S apex n a 1).kind ≠ 6 ∧ (ansF S apex n a 1).kind ≠ 3 ∧ (ansF S apex n a 1).kind ≠ 4) ∧
    ((findK S ⟨n, 5, 1⟩).isSome = true ∧ b ≠ 5 ∧ (ansF S apex n b 1).kind = 2 ∨ ((findK S ⟨n, 5, 1⟩).isSome = false ∨ b = 5) ∧
        ((findK S ⟨n, b, 1⟩).isSome = true ∧ (ansF S apex n b 1).kind = 1 ∨ (findK S ⟨n, b, 1⟩).isSome = false ∧ (ansF S apex n b 1).kind = 5 ∧ ∃ s, (ansF S apex n b 1).ns = [s] ∧ s.k.n = apex)))
theorem twiceP {w : World} {z : Nat} {apex : ByteArray} {l : List R5} {S : List SetP} (h : ZOk w z apex l S) (n : ByteArray) (a b : Int) (ha : a ≠ 43) (hb : b ≠ 43) : TwiceP S apex n a b := by
  cases hu : undS n apex with
  | false =>
    have h1 : ∀ t, inQ apex n t 1 = false := fun t => by rw [inQ, hu]; simp
    exact Or.inl ⟨hu, by rw [ans_out (h1 a)], by rw [ans_out (h1 b)]⟩
  | true =>
    cases ia : inQ apex n a 1 with
    | false => exact Or.inr (Or.inl ⟨hu, by rw [ans_out ia]⟩)
    | true =>
      have hka : (ansF S apex n a 1).kind ≠ 6 ∧ True := ⟨by
        cases hc : cutP S apex n with
        | some x => rw [ans_cut ia hc (fun h => ha h.2)]; show (3 : Int) ≠ 6; decide
        | none =>
          rw [ans_no ia hc]
          obtain ⟨k1, k2⟩ := ansT_kinds h (und_may hu) a
          cases ht : thereP S n with
          | false => rw [k1 ht]; decide
          | true =>
            rcases k2 ht with ⟨-, -, k⟩ | ⟨-, ⟨-, k⟩ | ⟨-, k, -⟩⟩ <;> rw [k] <;> decide, trivial⟩
      cases ib : inQ apex n b 1 with
      | false => exact Or.inr (Or.inr (Or.inl ⟨hu, hka.1, by rw [ans_out ib]⟩))
      | true =>
        cases hc : cutP S apex n with
        | some x =>
          refine Or.inr (Or.inr (Or.inr (Or.inl ⟨hu, ?_, Or.inl ⟨?_, ?_⟩⟩)))
          · rw [ans_cut ib hc (fun h => hb h.2)]; show (3 : Int) ≠ 6; decide
          · rw [ans_cut ia hc (fun h => ha h.2)]
          · rw [ans_cut ib hc (fun h => hb h.2)]
        | none =>
          unfold TwiceP
          rw [ans_no ia hc, ans_no ib hc]
          obtain ⟨a1, a2⟩ := ansT_kinds h (und_may hu) a
          obtain ⟨b1, b2⟩ := ansT_kinds h (und_may hu) b
          cases ht : thereP S n with
          | false => exact Or.inr (Or.inr (Or.inr (Or.inl ⟨hu, by rw [b1 ht]; decide, Or.inr ⟨a1 ht, b1 ht⟩⟩)))
          | true =>
            refine Or.inr (Or.inr (Or.inr (Or.inr ⟨hu, ?_, b2 ht⟩)))
            rcases a2 ht with ⟨-, -, k⟩ | ⟨-, ⟨-, k⟩ | ⟨-, k, -⟩⟩ <;> rw [k] <;> decide
set_option maxRecDepth 100000 in
set_option maxHeartbeats 8000000 in
theorem walkTwice (apex : ByteArray) (a : Option Addr) (n c : Nat) (l : List R5) (nm : ByteArray) (ta tb : Int) (w : World) (h : RowR w a n l) (hn : a = none → n = 0 ∧ c = 0) (hlen : n ≤ 9223372036854775807) (hsz : ∀ r ∈ l, SzR r) (ha : apex.size ≤ 9223372036854775807) (hnm : nm.size ≤ 9223372036854775807) :
    Calls Try.prog 8 #[.string apex, .slice a n c, .string nm, .int .i64 ta, .int .i64 tb] w fun e w' => e = .returned (.bool true) ∧ Below w.heap.size w w' := by
  have HR := Lib.hid h
  have HN := Lib.hid hn
  have HSZ := Lib.hid hsz
  have HLN := Lib.hid h.1
  clear h hn hsz
  go_enter Try.func8, Try.ntmps8
  go_wp2_with fail
  refine (first11 _).mono ?_; rintro e w1 ⟨rfl, hb⟩
  have HB1 := Lib.hid hb
  clear hb
  go_wp2_with fail
  refine (few10 a n c l _ (HR.out.below HB1.out) hlen HSZ.out).mono ?_; rintro e w2 ⟨hres, hb⟩
  have HB2 := Lib.hid (HB1.out.trans (hb.mono HB1.out.size))
  clear hb HB1
  rcases hres with rfl | ⟨rfl, hn4, hsm⟩
  · go_wp2_with fail
    refine (first11 _).mono ?_; rintro e w9 ⟨rfl, hb⟩
    have HB9 := Lib.hid (HB2.out.trans (hb.mono HB2.out.size))
    clear hb
    go_wp2
    go_ret
    exact ⟨rfl, HB9.out⟩
  have HSM := Lib.hid hsm
  have HN3 := Lib.hid (show n ≤ 310 by omega)
  clear hsm hlen hn4
  by_cases h1 : 1000 < apex.size
  · have d1 : decide (1000 < apex.size) = true := dT h1
    have d2 : decide ((1000 : Int) < (apex.size : Int)) = true := dT (by omega)
    clear h1
    go_wp2_with fail
    refine (first11 _).mono ?_; rintro e w9 ⟨rfl, hb⟩
    have HB9 := Lib.hid (HB2.out.trans (hb.mono HB2.out.size))
    clear hb
    go_wp2
    go_ret
    exact ⟨rfl, HB9.out⟩
  have d1 : decide (1000 < apex.size) = false := dF h1
  have d2 : decide ((1000 : Int) < (apex.size : Int)) = false := dF (by omega)
  have HA1 := Lib.hid (show apex.size ≤ 1000000 by omega)
  clear h1
  by_cases h1 : 1000 < nm.size
  · have d3 : decide (1000 < nm.size) = true := dT h1
    have d4 : decide ((1000 : Int) < (nm.size : Int)) = true := dT (by omega)
    clear h1
    go_wp2_with fail
    refine (first11 _).mono ?_; rintro e w9 ⟨rfl, hb⟩
    have HB9 := Lib.hid (HB2.out.trans (hb.mono HB2.out.size))
    clear hb
    go_wp2
    go_ret
    exact ⟨rfl, HB9.out⟩
  have d3 : decide (1000 < nm.size) = false := dF h1
  have d4 : decide ((1000 : Int) < (nm.size : Int)) = false := dF (by omega)
  have HA2 := Lib.hid (show nm.size ≤ 1000000 by omega)
  clear h1 ha hnm
  go_wp2_with fail
  refine (znew_any apex a n c l w2 (HR.out.below HB2.out) HN.out (by have := HN3.out; omega) (fun r hr => by have := (HSM.out r hr).1; omega) (fun r hr => by have := (HSM.out r hr).2; omega) HA1.out).mono ?_; rintro e w3 hnr
  obtain ⟨hres, hb⟩ := hnr.two
  have HB3 := Lib.hid (HB2.out.trans (hb.mono HB2.out.size))
  clear hnr hb HB2 d1 d2 d3 d4
  rcases hres with ⟨x, hx, rfl⟩ | ⟨z, S, rfl, hzw, hok⟩
  · go_wp2_with fail
    refine (first11 _).mono ?_; rintro e w9 ⟨rfl, hb⟩
    have HB9 := Lib.hid (HB3.out.trans (hb.mono HB3.out.size))
    clear hb
    go_wp2
    go_ret
    exact ⟨rfl, HB9.out⟩
  have HOK := Lib.hid hok
  clear hok hzw
  by_cases h1 : ta = 43
  · have f1 := eT h1
    clear h1
    go_wp2_with fail
    refine (first11 _).mono ?_; rintro e w9 ⟨rfl, hb⟩
    have HB9 := Lib.hid (HB3.out.trans (hb.mono HB3.out.size))
    clear hb
    go_wp2
    go_ret
    exact ⟨rfl, HB9.out⟩
  have f1 := eF h1
  have H1 := Lib.hid h1
  clear h1
  by_cases h1 : tb = 43
  · have f2 := eT h1
    clear h1
    go_wp2_with fail
    refine (first11 _).mono ?_; rintro e w9 ⟨rfl, hb⟩
    have HB9 := Lib.hid (HB3.out.trans (hb.mono HB3.out.size))
    clear hb
    go_wp2
    go_ret
    exact ⟨rfl, HB9.out⟩
  have f2 := eF h1
  have HTW := Lib.hid (twiceP HOK.out nm ta tb H1.out h1)
  clear h1 H1
  go_wp2_with fail
  refine (answer_any z apex S nm ta 1 w3 HOK.out.is HOK.out.canon.keys HOK.out.sz HOK.out.szd HOK.out.canon.non HA1.out HA2.out).mono ?_; rintro e w4 ⟨⟨v, rfl, hrep⟩, hb⟩
  obtain ⟨a1, n1, c1, a2, n2, c2, a3, n3, c3, rfl, -, -, -, -, -, -⟩ := hrep
  have HB4 := Lib.hid (HB3.out.trans (hb.mono HB3.out.size))
  have HOK4 := Lib.hid (HOK.out.below hb)
  clear hb f1 f2 HB3 HOK
  obtain ⟨kx, hkx⟩ : ∃ x, (ansF S apex nm ta 1).kind = x := ⟨_, rfl⟩
  obtain ⟨rx, hrx⟩ : ∃ x, (ansF S apex nm ta 1).rc = x := ⟨_, rfl⟩
  rw [hkx, hrx]
  have HKX := Lib.hid hkx
  clear hkx hrx
  go_wp2_with fail
  refine (answer_any z apex S nm tb 1 w4 HOK4.out.is HOK4.out.canon.keys HOK4.out.sz HOK4.out.szd HOK4.out.canon.non HA1.out HA2.out).mono ?_; rintro e w5 ⟨⟨v, rfl, hrep⟩, hb⟩
  obtain ⟨b1, m1, e1, b2, m2, e2, b3, m3, e3, rfl, -, -, hns, -, -, -⟩ := hrep
  have HB5 := Lib.hid (HB4.out.trans (hb.mono HB4.out.size))
  have HOK5 := Lib.hid (HOK4.out.below hb)
  have HNS := Lib.hid hns.at
  clear hb hns HB4 HOK4
  obtain ⟨ky, hky⟩ : ∃ x, (ansF S apex nm tb 1).kind = x := ⟨_, rfl⟩
  obtain ⟨ry, hry⟩ : ∃ x, (ansF S apex nm tb 1).rc = x := ⟨_, rfl⟩
  rw [hky, hry]
  have HKY := Lib.hid hky
  clear hky hry
  go_upto_region 9 with (fail)
  have hba := (Below.refl w5.heap.size w5).alloc (Nat.le_refl _) (.cells #[.int .i64 kx, .int .i64 rx, .slice a1 n1 c1, .slice a2 n2 c2, .slice a3 n3 c3] 68)
  have hx := CN.new w5 #[.int .i64 kx, .int .i64 rx, .slice a1 n1 c1, .slice a2 n2 c2, .slice a3 n3 c3] 68
  obtain ⟨w6, hw6⟩ : ∃ x, w5.alloc (.cells #[.int .i64 kx, .int .i64 rx, .slice a1 n1 c1, .slice a2 n2 c2, .slice a3 n3 c3] 68) = x := ⟨_, rfl⟩
  have hq14 : w5.heap.size + 1 = w6.heap.size := by rw [← hw6]; simp
  rw [hw6] at hba hx ⊢
  try rw [hq14]
  have hbb := (Below.refl w6.heap.size w6).alloc (Nat.le_refl _) (.cells #[.int .i64 ky, .int .i64 ry, .slice b1 m1 e1, .slice b2 m2 e2, .slice b3 m3 e3] 68)
  have hy := CN.new w6 #[.int .i64 ky, .int .i64 ry, .slice b1 m1 e1, .slice b2 m2 e2, .slice b3 m3 e3] 68
  obtain ⟨w7, hw7⟩ : ∃ x, w6.alloc (.cells #[.int .i64 ky, .int .i64 ry, .slice b1 m1 e1, .slice b2 m2 e2, .slice b3 m3 e3] 68) = x := ⟨_, rfl⟩
  rw [hw7] at hbb hy ⊢
  replace hx := hx.below hbb
  have hbc := hba.trans (hbb.mono hba.size)
  obtain ⟨q13, hq13⟩ : ∃ x, w5.heap.size = x := ⟨_, rfl⟩
  obtain ⟨q14, hq14b⟩ : ∃ x, w6.heap.size = x := ⟨_, rfl⟩
  have HB7 := Lib.hid (HB5.out.trans (hbc.mono HB5.out.size))
  have HOK7 := Lib.hid (HOK5.out.below hbc)
  have HNS7 := Lib.hid (HNS.out.below hbc)
  rw [hq13] at hx ⊢
  rw [hq14b] at hy ⊢
  have HX := Lib.hid hx
  have HY := Lib.hid hy
  clear hx hy hba hbb hbc hw6 hw7 hq14 hq13 hq14b HB5 HOK5 HNS
  have htw := HTW.out
  unfold TwiceP at htw
  rw [HKX.out, HKY.out] at htw
  clear HTW HKX
  obtain ⟨x0, x1, x2, x3, x4, -⟩ := HX.out.u5
  obtain ⟨y0, y1, y2, y3, y4, -⟩ := HY.out.u5
  rcases htw with ⟨hu, rfl, rfl⟩ | ⟨hu, rfl⟩ | ⟨hu, k1, rfl⟩ | ⟨hu, -, ⟨rfl, rfl⟩ | ⟨rfl, rfl⟩⟩ | ⟨hu, ⟨k1, k2, k3⟩, hk⟩
  · have HU := Lib.hid hu
    clear hu
    go_wp2_with fail
    refine (runder_any nm apex w7 HA2.out HA1.out).mono ?_; rintro e w8 ⟨rfl, hb⟩
    rw [HU.out]
    have HB8 := Lib.hid (HB7.out.trans (hb.mono HB7.out.size))
    replace HX := Lib.hid (HX.out.below hb)
    replace HY := Lib.hid (HY.out.below hb)
    clear hb
    clear x0 x1 x2 x3 x4 y0 y1 y2 y3 y4
    obtain ⟨x0, x1, x2, x3, x4, -⟩ := HX.out.u5
    obtain ⟨y0, y1, y2, y3, y4, -⟩ := HY.out.u5
    go_wp2_with fail
    refine (first11 _).mono ?_; rintro e w9 ⟨rfl, hb⟩
    have HB9 := Lib.hid (HB8.out.trans (hb.mono HB8.out.size))
    replace HX := Lib.hid (HX.out.below hb)
    replace HY := Lib.hid (HY.out.below hb)
    clear hb
    clear x0 x1 x2 x3 x4 y0 y1 y2 y3 y4
    obtain ⟨x0, x1, x2, x3, x4, -⟩ := HX.out.u5
    obtain ⟨y0, y1, y2, y3, y4, -⟩ := HY.out.u5
    go_wp2
    go_ret
    exact ⟨rfl, HB9.out⟩
  · have HU := Lib.hid hu
    clear hu
    go_wp2_with fail
    refine (runder_any nm apex w7 HA2.out HA1.out).mono ?_; rintro e w8 ⟨rfl, hb⟩
    rw [HU.out]
    have HB8 := Lib.hid (HB7.out.trans (hb.mono HB7.out.size))
    replace HX := Lib.hid (HX.out.below hb)
    replace HY := Lib.hid (HY.out.below hb)
    clear hb
    clear x0 x1 x2 x3 x4 y0 y1 y2 y3 y4
    obtain ⟨x0, x1, x2, x3, x4, -⟩ := HX.out.u5
    obtain ⟨y0, y1, y2, y3, y4, -⟩ := HY.out.u5
    go_wp2_with fail
    refine (first11 _).mono ?_; rintro e w9 ⟨rfl, hb⟩
    have HB9 := Lib.hid (HB8.out.trans (hb.mono HB8.out.size))
    clear hb
    go_wp2
    go_ret
    exact ⟨rfl, HB9.out⟩
  · have HU := Lib.hid hu
    have f1 := eF k1
    clear hu k1
    go_wp2_with fail
    refine (runder_any nm apex w7 HA2.out HA1.out).mono ?_; rintro e w8 ⟨rfl, hb⟩
    rw [HU.out]
    have HB8 := Lib.hid (HB7.out.trans (hb.mono HB7.out.size))
    replace HX := Lib.hid (HX.out.below hb)
    replace HY := Lib.hid (HY.out.below hb)
    clear hb
    clear x0 x1 x2 x3 x4 y0 y1 y2 y3 y4
    obtain ⟨x0, x1, x2, x3, x4, -⟩ := HX.out.u5
    obtain ⟨y0, y1, y2, y3, y4, -⟩ := HY.out.u5
    go_wp2_with fail
    refine (first11 _).mono ?_; rintro e w9 ⟨rfl, hb⟩
    have HB9 := Lib.hid (HB8.out.trans (hb.mono HB8.out.size))
    clear hb
    go_wp2
    go_ret
    exact ⟨rfl, HB9.out⟩
  · clear hu
    go_wp2_with fail
    refine (first11 _).mono ?_; rintro e w9 ⟨rfl, hb⟩
    have HB9 := Lib.hid (HB7.out.trans (hb.mono HB7.out.size))
    replace HX := Lib.hid (HX.out.below hb)
    replace HY := Lib.hid (HY.out.below hb)
    clear hb
    clear x0 x1 x2 x3 x4 y0 y1 y2 y3 y4
    obtain ⟨x0, x1, x2, x3, x4, -⟩ := HX.out.u5
    obtain ⟨y0, y1, y2, y3, y4, -⟩ := HY.out.u5
    go_wp2
    go_ret
    exact ⟨rfl, HB9.out⟩
  · clear hu
    go_wp2_with fail
    refine (first11 _).mono ?_; rintro e w9 ⟨rfl, hb⟩
    have HB9 := Lib.hid (HB7.out.trans (hb.mono HB7.out.size))
    replace HX := Lib.hid (HX.out.below hb)
    replace HY := Lib.hid (HY.out.below hb)
    clear hb
    clear x0 x1 x2 x3 x4 y0 y1 y2 y3 y4
    obtain ⟨x0, x1, x2, x3, x4, -⟩ := HX.out.u5
    obtain ⟨y0, y1, y2, y3, y4, -⟩ := HY.out.u5
    go_wp2
    go_ret
    exact ⟨rfl, HB9.out⟩
  · clear hu
    have f1 := eF k1
    have f2 := eF k2
    have f3 := eF k3
    have HK := Lib.hid hk
    clear k1 k2 k3 hk
    have f4 : (ky == 6) = false := by rcases HK.out with ⟨-, -, h⟩ | ⟨-, ⟨-, h⟩ | ⟨-, h, -⟩⟩ <;> rw [h] <;> rfl
    go_wp2_with fail
    refine (zget_any z apex S nm tb 1 w7 HOK7.out.is HOK7.out.canon.keys HOK7.out.sz HA2.out).mono ?_; rintro e wg0 ⟨hf, hb⟩
    obtain ⟨⟨⟨sn0, st0, sk0⟩, su0, sd0⟩, da0, dc0, -, rfl, -⟩ := found_getD hf
    dsimp only
    obtain ⟨sl0, hsl⟩ : ∃ x, sd0.length = x := ⟨_, rfl⟩
    rw [hsl]
    clear hsl hf
    have hba := (Below.refl wg0.heap.size wg0).alloc (Nat.le_refl _) (.cells #[.string sn0, .int .i64 st0, .int .i64 sk0, .int .i64 su0, .slice da0 sl0 dc0] 39)
    have hbb := hb.trans (hba.mono hb.size)
    have HB7g := Lib.hid (HB7.out.trans (hbb.mono HB7.out.size))
    have HOK7g := Lib.hid (HOK7.out.below hbb)
    replace HX := Lib.hid (HX.out.below hbb)
    replace HY := Lib.hid (HY.out.below hbb)
    replace HNS7 := Lib.hid (HNS7.out.below hbb)
    clear hb hba hbb
    clear x0 x1 x2 x3 x4 y0 y1 y2 y3 y4
    go_upto_region 14 with (fail)
    obtain ⟨wh0, hw⟩ : ∃ x, wg0.alloc (.cells #[.string sn0, .int .i64 st0, .int .i64 sk0, .int .i64 su0, .slice da0 sl0 dc0] 39) = x := ⟨_, rfl⟩
    rw [hw] at HB7g HOK7g HX HY HNS7 ⊢
    clear hw
    clear f1 f2 f3 f4
    go_wp2_with fail
    refine (zget_any z apex S nm 5 1 wh0 HOK7g.out.is HOK7g.out.canon.keys HOK7g.out.sz HA2.out).mono ?_; rintro e wg1 ⟨hf, hb⟩
    obtain ⟨⟨⟨sn1, st1, sk1⟩, su1, sd1⟩, da1, dc1, -, rfl, -⟩ := found_getD hf
    dsimp only
    obtain ⟨sl1, hsl⟩ : ∃ x, sd1.length = x := ⟨_, rfl⟩
    rw [hsl]
    clear hsl hf
    have hba := (Below.refl wg1.heap.size wg1).alloc (Nat.le_refl _) (.cells #[.string sn1, .int .i64 st1, .int .i64 sk1, .int .i64 su1, .slice da1 sl1 dc1] 39)
    have hbb := hb.trans (hba.mono hb.size)
    have HB7gg := Lib.hid (HB7g.out.trans (hbb.mono HB7g.out.size))
    have HOK7gg := Lib.hid (HOK7g.out.below hbb)
    replace HX := Lib.hid (HX.out.below hbb)
    replace HY := Lib.hid (HY.out.below hbb)
    replace HNS7 := Lib.hid (HNS7.out.below hbb)
    clear hb hba hbb
    go_upto_region 15 with (fail)
    obtain ⟨wh1, hw⟩ : ∃ x, wg1.alloc (.cells #[.string sn1, .int .i64 st1, .int .i64 sk1, .int .i64 su1, .slice da1 sl1 dc1] 39) = x := ⟨_, rfl⟩
    rw [hw] at HB7gg HOK7gg HX HY HNS7 ⊢
    clear hw
    obtain ⟨x0, x1, x2, x3, x4, -⟩ := HX.out.u5
    obtain ⟨y0, y1, y2, y3, y4, -⟩ := HY.out.u5
    rcases HK.out with ⟨h5, hb5, rfl⟩ | ⟨h5, hk⟩
    · rw [h5]
      have f5 := nT hb5
      clear h5 hb5 HK
      go_wp2_with fail
      refine (first11 _).mono ?_; rintro e w9 ⟨rfl, hb⟩
      have HB9 := Lib.hid (HB7gg.out.trans (hb.mono HB7gg.out.size))
      replace HX := Lib.hid (HX.out.below hb)
      replace HY := Lib.hid (HY.out.below hb)
      clear hb
      clear x0 x1 x2 x3 x4 y0 y1 y2 y3 y4
      obtain ⟨x0, x1, x2, x3, x4, -⟩ := HX.out.u5
      obtain ⟨y0, y1, y2, y3, y4, -⟩ := HY.out.u5
      go_wp2
      go_ret
      exact ⟨rfl, HB9.out⟩
    have h5b : ((findK S ⟨nm, 5, 1⟩).isSome && (tb != 5)) = false := by rcases h5 with h | h; (rw [h]; rfl); (rw [nF h, Bool.and_false])
    obtain ⟨cb, hcb⟩ : ∃ x, (findK S ⟨nm, 5, 1⟩).isSome = x := ⟨_, rfl⟩
    rw [hcb] at h5b ⊢
    clear hcb h5 HK
    cases cb
    · go_upto_region 17 with (fail)
      clear h5b
      rcases hk with ⟨hs, rfl⟩ | ⟨hs, rfl, s, hns, hsn⟩
      · rw [hs]
        clear hs
        go_wp2_with fail
        refine (first11 _).mono ?_; rintro e w9 ⟨rfl, hb⟩
        have HB9 := Lib.hid (HB7gg.out.trans (hb.mono HB7gg.out.size))
        replace HX := Lib.hid (HX.out.below hb)
        replace HY := Lib.hid (HY.out.below hb)
        clear hb
        clear x0 x1 x2 x3 x4 y0 y1 y2 y3 y4
        obtain ⟨x0, x1, x2, x3, x4, -⟩ := HX.out.u5
        obtain ⟨y0, y1, y2, y3, y4, -⟩ := HY.out.u5
        go_wp2
        go_ret
        exact ⟨rfl, HB9.out⟩
      rw [hs]
      have hat := HNS7.out
      rw [hns] at hat
      obtain ⟨rfl, b9, o9, rfl, z0, -⟩ := at_one hat
      rw [hsn] at z0
      have Z0 := Lib.hid z0
      clear hat hns hsn hs z0
      go_wp2_with fail
      refine (first11 _).mono ?_; rintro e w9 ⟨rfl, hb⟩
      have HB9 := Lib.hid (HB7gg.out.trans (hb.mono HB7gg.out.size))
      replace HY := Lib.hid (HY.out.below hb)
      have z0 := cell_later4 hb Z0.out
      clear hb
      clear x0 x1 x2 x3 x4 y0 y1 y2 y3 y4
      obtain ⟨y0, y1, y2, y3, y4, -⟩ := HY.out.u5
      go_wp2
      go_ret
      exact ⟨rfl, HB9.out⟩
    have f5 : (tb != 5) = false := by simpa using h5b
    clear h5b
    go_upto_region 17 with (fail)
    clear f5
    rcases hk with ⟨hs, rfl⟩ | ⟨hs, rfl, s, hns, hsn⟩
    · rw [hs]
      clear hs
      go_wp2_with fail
      refine (first11 _).mono ?_; rintro e w9 ⟨rfl, hb⟩
      have HB9 := Lib.hid (HB7gg.out.trans (hb.mono HB7gg.out.size))
      replace HX := Lib.hid (HX.out.below hb)
      replace HY := Lib.hid (HY.out.below hb)
      clear hb
      clear x0 x1 x2 x3 x4 y0 y1 y2 y3 y4
      obtain ⟨x0, x1, x2, x3, x4, -⟩ := HX.out.u5
      obtain ⟨y0, y1, y2, y3, y4, -⟩ := HY.out.u5
      go_wp2
      go_ret
      exact ⟨rfl, HB9.out⟩
    rw [hs]
    have hat := HNS7.out
    rw [hns] at hat
    obtain ⟨rfl, b9, o9, rfl, z0, -⟩ := at_one hat
    rw [hsn] at z0
    have Z0 := Lib.hid z0
    clear hat hns hsn hs z0
    go_wp2_with fail
    refine (first11 _).mono ?_; rintro e w9 ⟨rfl, hb⟩
    have HB9 := Lib.hid (HB7gg.out.trans (hb.mono HB7gg.out.size))
    replace HY := Lib.hid (HY.out.below hb)
    have z0 := cell_later4 hb Z0.out
    clear hb
    clear x0 x1 x2 x3 x4 y0 y1 y2 y3 y4
    obtain ⟨y0, y1, y2, y3, y4, -⟩ := HY.out.u5
    go_wp2
    go_ret
    exact ⟨rfl, HB9.out⟩
end Go.Proofs.Ytgdhbelcellabaa
