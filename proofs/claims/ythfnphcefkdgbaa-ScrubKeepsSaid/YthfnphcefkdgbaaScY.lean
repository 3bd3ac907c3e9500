/- ScrubKeeps: the walk. -/
import Derived.Test.YthfnphcefkdgbaaScK
import Derived.Test.YthfnphcefkdgbaaAlM
import Derived.Test.YthfnphcefkdgbaaScQ
import Derived.Test.YthfnphcefkdgbaaScF
namespace Go.Proofs.Ythfnphcefkdgbaa
open Go.RowKit

theorem wiF_len (cut : ByteArray) (l : List R5) : (wiF cut l).length ≤ l.length ∧ sumD (wiF cut l) ≤ l.length :=
  ⟨Nat.le_trans (grpK_len _ _) (wiL_le cut l), Nat.le_trans (grpK_sum _ _) (wiL_le cut l)⟩
theorem wiF_data {cut : ByteArray} {l : List R5} (hl : ScL l) : ∀ s ∈ wiF cut l, s.data.length ≤ 100000 := fun s hs => by
  have h1 := data_le_sum hs
  have h2 := (wiF_len cut l).2
  have h3 := hl.1
  omega
theorem ali_b {S : List SetP} {qn : ByteArray} {qt rk : Int} (hS : ∀ s ∈ S, s.data.length ≤ 100000) {o : OutP} (h : aliO S qn qt rk = some o) : o.sets.length ≤ 10001 ∧ ∀ p ∈ o.sets, p.1.data.length ≤ 100000 := by
  rw [aliO] at h
  cases hf : findK S ⟨qn, 5, 1⟩ with
  | none => rw [hf] at h; cases h
  | some s =>
    rw [hf] at h
    replace h : (if s.data.length = 1 ∧ qt ≠ 5 then some (⟨2, 0, [(s, rk)], tgS 5 (s.data.getD 0 emB)⟩ : OutP) else none) = some o := h
    split at h
    · obtain rfl := Option.some.inj h
      exact ⟨by show (1 : Nat) ≤ 10001; decide, fun p hp => by obtain rfl := List.mem_singleton.1 hp; exact hS _ (find_memC hf)⟩
    · cases h
theorem ans_b {S : List SetP} {qn : ByteArray} {qt qc rk : Int} (hS : ∀ s ∈ S, s.data.length ≤ 100000) {o : OutP} (h : ansO S qn qt qc rk = some o) : o.sets.length ≤ 10001 ∧ ∀ p ∈ o.sets, p.1.data.length ≤ 100000 := by
  rw [ansO] at h
  cases hf : findK S ⟨qn, qt, qc⟩ with
  | none => rw [hf] at h; exact ali_b hS h
  | some s =>
    rw [hf] at h
    obtain rfl := Option.some.inj h
    exact ⟨by show (1 : Nat) ≤ 10001; decide, fun p hp => by obtain rfl := List.mem_singleton.1 hp; exact hS _ (find_memC hf)⟩
theorem noO_b (kd : Int) (qn : ByteArray) (aa : Bool) (N : List SetP) : (noO kd qn aa N).sets = [] := by
  rw [noO]; split <;> rfl
theorem sort_bounds {cut qn : ByteArray} {qt qc : Int} {m : MsgP} (hs : ScM m) : (sortF cut qn qt qc m).sets.length ≤ 10001 ∧ ∀ p ∈ (sortF cut qn qt qc m).sets, p.1.data.length ≤ 100000 := by
  have nil : ∀ o : OutP, o.sets = [] → o.sets.length ≤ 10001 ∧ ∀ p ∈ o.sets, p.1.data.length ≤ 100000 := fun o h => by rw [h]; exact ⟨by decide, fun p hp => by cases hp⟩
  rw [sortF, sortS]
  split
  · exact nil _ rfl
  split
  · exact nil _ rfl
  split
  · rename_i o ho
    exact ans_b (wiF_data hs.1) ho
  · split
    · exact nil _ (noO_b _ _ _ _)
    · cases hr : refO cut qn qt (wiF cut m.n) (wiF cut m.x) with
      | none => exact nil _ (noO_b _ _ _ _)
      | some o =>
        rw [refO] at hr
        split at hr
        · cases hr
        · obtain rfl := Option.some.inj hr
          have hb : (belF cut qn qt (wiF cut m.n)).data.length ≤ 100000 := by
            rcases bel_mem (cut := cut) (qn := qn) (qt := qt) (wiF cut m.n) sZ with h | h
            · rw [belF, h]; decide
            · exact wiF_data hs.2.1 _ h
          refine ⟨?_, fun p hp => ?_⟩
          · show (_ :: (gluF _ _).map _).length ≤ 10001
            rw [List.length_cons, List.length_map]
            have h1 : (gluF (belF cut qn qt (wiF cut m.n)) (wiF cut m.x)).length ≤ (wiF cut m.x).length := List.length_filter_le _ _
            have h2 := (wiF_len cut m.x).1
            have h3 := hs.2.2.1
            omega
          · rcases List.mem_cons.1 hp with rfl | hp
            · exact hb
            · obtain ⟨s, h4, rfl⟩ := List.mem_map.1 hp
              exact wiF_data hs.2.2 s (List.mem_filter.1 h4).1
theorem ord_small {m : MsgP} (h : SmallM m) : ScM m := by
  obtain ⟨-, ⟨h1, h2⟩, ⟨h3, h4⟩, h5, h6⟩ := h
  exact ⟨⟨by omega, (fun r hr => Nat.le_trans (h2 r hr).1 (by decide)), fun r hr => Nat.le_trans (h2 r hr).2 (by decide)⟩, ⟨by omega, (fun r hr => Nat.le_trans (h4 r hr).1 (by decide)), fun r hr => Nat.le_trans (h4 r hr).2 (by decide)⟩, ⟨by omega, (fun r hr => Nat.le_trans (h6 r hr).1 (by decide)), fun r hr => Nat.le_trans (h6 r hr).2 (by decide)⟩⟩
theorem CN.u6 {w : World} {q : Nat} {c0 c1 c2 c3 c4 c5 : Value} (h : CN w q [c0, c1, c2, c3, c4, c5]) : w.cell? ⟨q, 0, none⟩ = some c0 ∧ w.cell? ⟨q, 1, none⟩ = some c1 ∧ w.cell? ⟨q, 2, none⟩ = some c2 ∧ w.cell? ⟨q, 3, none⟩ = some c3 ∧ w.cell? ⟨q, 4, none⟩ = some c4 ∧ w.cell? ⟨q, 5, none⟩ = some c5 ∧ True :=
  ⟨(h.2 0 _ rfl).1, (h.2 1 _ rfl).1, (h.2 2 _ rfl).1, (h.2 3 _ rfl).1, (h.2 4 _ rfl).1, (h.2 5 _ rfl).1, trivial⟩
theorem keeps_len {m : MsgP} {al nl xl : Nat} (h : SmallM m) (ha : m.a.length = al) (hn : m.n.length = nl) (hx : m.x.length = xl) : al + nl + xl ≤ 1200 := by
  obtain ⟨-, ⟨h1, -⟩, ⟨h3, -⟩, h5, -⟩ := h
  omega
theorem keeps_name {a b : ByteArray} (h : undS a b = true) : a.size ≤ 1000000 := by
  rw [undS] at h
  simp only [Bool.and_eq_true] at h
  have h2 := mayN_size h.1.1
  omega
/-- None of the first records says it. -/
def NoOk (L : List R5) (sn : ByteArray) (st su : Int) (dj : ByteArray) (t : Nat) : Prop := ∀ i r, i < t → L[i]? = some r → ¬ (r.k = ⟨sn, st, 1⟩ ∧ r.d = dj ∧ su ≤ r.ttl)
theorem NoOk.next {L : List R5} {sn : ByteArray} {st su : Int} {dj : ByteArray} {t : Nat} {r : R5} (h : NoOk L sn st su dj t) (hL : L[t]? = some r) (hno : ¬ (r.k = ⟨sn, st, 1⟩ ∧ r.d = dj ∧ su ≤ r.ttl)) : NoOk L sn st su dj (t + 1) := fun i r' hi hr => by
  by_cases h1 : i = t
  · subst h1
    obtain rfl := Option.some.inj (hL.symm.trans hr)
    exact hno
  · exact h i r' (by omega) hr
theorem NoOk.all {L : List R5} {sn : ByteArray} {st su : Int} {dj : ByteArray} {t : Nat} (h : NoOk L sn st su dj t) (hl : L.length = t) (he : ∃ r ∈ L, r.k = ⟨sn, st, 1⟩ ∧ r.d = dj ∧ su ≤ r.ttl) : False := by
  obtain ⟨r, hr, h1⟩ := he
  obtain ⟨i, hi, rfl⟩ := List.getElem_of_mem hr
  exact h i _ (by omega) (List.getElem?_eq_getElem hi) h1
theorem keeps_glue {b : SetP} {l : List SetP} {S : List (SetP × Int)} {p : SetP × Int} {j : Nat} (hs : S = (b, 2) :: l.map (fun s => (s, (1 : Int)))) (hp : S[j]? = some p) (hj : 1 ≤ j) : ∃ x ∈ l, p = (x, (1 : Int)) := by
  subst hs
  obtain ⟨i, rfl⟩ : ∃ i, j = i + 1 := ⟨j - 1, by omega⟩
  rw [List.getElem?_cons_succ, List.getElem?_map] at hp
  cases h : l[i]? with
  | none => rw [h] at hp; cases hp
  | some x =>
    rw [h] at hp
    exact ⟨x, List.mem_of_getElem? h, (Option.some.inj hp).symm⟩
set_option maxRecDepth 100000 in
set_option maxHeartbeats 60000000 in
theorem walkKeeps (cut qn : ByteArray) (qt qc : Int) (m : MsgP) (mv : Value) (w : World) (h : MsgAt w mv m) (hz : SzM m) : Calls Try.prog 8 #[.string cut, .agg #[.string qn, .int .i64 qt, .int .i64 qc], mv] w fun e w' => e = .returned (.bool true) ∧ Below w.heap.size w w' := by
  obtain ⟨mi, mo, mr, b1, b2, b3, b4, b5, Q, A, N, X⟩ := m
  have HMA := Lib.hid h
  obtain ⟨pa, pc, aa, ac, na, nc, xa, xc, rfl, -, ⟨hra, hna⟩, ⟨hrn, hnn⟩, ⟨hrx, hnx⟩⟩ := h
  dsimp only at hra hrn hrx hna hnn hnx ⊢
  dsimp only at HMA
  obtain ⟨pl, hpl⟩ : ∃ x, Q.length = x := ⟨_, rfl⟩
  obtain ⟨al, hal⟩ : ∃ x, A.length = x := ⟨_, rfl⟩
  obtain ⟨nl, hnl⟩ : ∃ x, N.length = x := ⟨_, rfl⟩
  obtain ⟨xl, hxl⟩ : ∃ x, X.length = x := ⟨_, rfl⟩
  rw [hal] at hra hna
  rw [hnl] at hrn hnn
  rw [hxl] at hrx hnx
  rw [hpl, hal, hnl, hxl] at HMA ⊢
  have HRa := Lib.hid hra
  have HRn := Lib.hid hrn
  have HRx := Lib.hid hrx
  have HNa := Lib.hid hna
  have HNn := Lib.hid hnn
  have HNx := Lib.hid hnx
  have HLa := Lib.hid hra.1
  have HLn := Lib.hid hrn.1
  have HLx := Lib.hid hrx.1
  have HZM := Lib.hid hz
  clear hra hrn hrx hna hnn hnx hpl hal hnl hxl hz
  have HB := Lib.hid (Below.refl w.heap.size w)
  go_enter Try.func8, Try.ntmps8
  have hba := (Below.refl _ _ : Below w.heap.size w w).alloc (Nat.le_refl _) (.cells #[.string qn, .int .i64 qt, .int .i64 qc] 71)
  have C1 := Lib.hid (CN.new w #[.string qn, .int .i64 qt, .int .i64 qc] 71)
  replace HMA := Lib.hid (HMA.out.below hba)
  replace HRa := Lib.hid (HRa.out.below hba)
  replace HRn := Lib.hid (HRn.out.below hba)
  replace HRx := Lib.hid (HRx.out.below hba)
  replace HB := Lib.hid (HB.out.trans (hba.mono HB.out.size))
  obtain ⟨w2, hw⟩ : ∃ x, w.alloc (.cells #[.string qn, .int .i64 qt, .int .i64 qc] 71) = x := ⟨_, rfl⟩
  obtain ⟨q2, hq⟩ : ∃ x, w.heap.size = x := ⟨_, rfl⟩
  rw [hw, hq] at C1
  rw [hw] at HMA HRa HRn HRx HB
  have HWw2 := Lib.hid hw
  have HQq2 := Lib.hid hq
  clear hba hw hq
  have hba := (Below.refl _ _ : Below w2.heap.size w2 w2).alloc (Nat.le_refl _) (.cells #[.int .i64 mi, .int .i64 mo, .int .i64 mr, .bool b1, .bool b2, .bool b3, .bool b4, .bool b5, .slice pa pl pc, .slice aa al ac, .slice na nl nc, .slice xa xl xc] 77)
  have C2 := Lib.hid (CN.new w2 #[.int .i64 mi, .int .i64 mo, .int .i64 mr, .bool b1, .bool b2, .bool b3, .bool b4, .bool b5, .slice pa pl pc, .slice aa al ac, .slice na nl nc, .slice xa xl xc] 77)
  replace HMA := Lib.hid (HMA.out.below hba)
  replace HRa := Lib.hid (HRa.out.below hba)
  replace HRn := Lib.hid (HRn.out.below hba)
  replace HRx := Lib.hid (HRx.out.below hba)
  replace HB := Lib.hid (HB.out.trans (hba.mono HB.out.size))
  replace C1 := Lib.hid (C1.out.below hba)
  obtain ⟨w3, hw⟩ : ∃ x, w2.alloc (.cells #[.int .i64 mi, .int .i64 mo, .int .i64 mr, .bool b1, .bool b2, .bool b3, .bool b4, .bool b5, .slice pa pl pc, .slice aa al ac, .slice na nl nc, .slice xa xl xc] 77) = x := ⟨_, rfl⟩
  obtain ⟨q3, hq⟩ : ∃ x, w2.heap.size = x := ⟨_, rfl⟩
  rw [hw, hq] at C2
  rw [hw] at HMA HRa HRn HRx HB C1
  have HSq3 := Lib.hid (show q2 + 1 = q3 by rw [← HQq2.out, ← hq, ← HWw2.out, World.size_alloc])
  have HWw3 := Lib.hid hw
  have HQq3 := Lib.hid hq
  clear hba hw hq
  go_upto_region 1 with (fail)
  rw [HWw2.out, HWw3.out]
  rw [show (Value.pointer (some { block := w.heap.size + 1, off := 0 })) = Value.pointer (some { block := q3, off := 0 }) by rw [HQq2.out, HSq3.out]]
  rw [show (Value.pointer (some { block := w.heap.size, off := 0 })) = Value.pointer (some { block := q2, off := 0 }) by rw [HQq2.out]]
  go_wp2_with fail
  refine (first19 _).mono ?_; rintro e w4 ⟨rfl, hb⟩
  replace HMA := Lib.hid (HMA.out.below hb)
  replace HRa := Lib.hid (HRa.out.below hb)
  replace HRn := Lib.hid (HRn.out.below hb)
  replace HRx := Lib.hid (HRx.out.below hb)
  replace HB := Lib.hid (HB.out.trans (hb.mono HB.out.size))
  replace C1 := Lib.hid (C1.out.below hb)
  replace C2 := Lib.hid (C2.out.below hb)
  clear hb
  obtain ⟨p0, p1, p2, _⟩ := C1.out.u3
  obtain ⟨m0, m1, m2, m3, m4, m5, m6, m7, m8, m9, m10, m11, _⟩ := C2.out.u12
  go_wp2_with fail
  refine (few5_any _ ⟨mi, mo, mr, b1, b2, b3, b4, b5, Q, A, N, X⟩ w4 HMA.out HZM.out).mono ?_; rintro e w5 ⟨hres, hb⟩
  clear p0 p1 p2 m0 m1 m2 m3 m4 m5 m6 m7 m8 m9 m10 m11
  replace HMA := Lib.hid (HMA.out.below hb)
  replace HRa := Lib.hid (HRa.out.below hb)
  replace HRn := Lib.hid (HRn.out.below hb)
  replace HRx := Lib.hid (HRx.out.below hb)
  replace HB := Lib.hid (HB.out.trans (hb.mono HB.out.size))
  replace C1 := Lib.hid (C1.out.below hb)
  replace C2 := Lib.hid (C2.out.below hb)
  clear hb
  rcases hres with rfl | ⟨rfl, hsm⟩
  · go_wp2_with fail
    refine (first19 _).mono ?_; rintro e w9 ⟨rfl, hb⟩
    have HB9 := Lib.hid (HB.out.trans (hb.mono HB.out.size))
    clear hb
    go_wp2
    go_ret
    exact ⟨rfl, HB9.out⟩
  have HSM := Lib.hid hsm
  clear hsm
  obtain ⟨p0, p1, p2, _⟩ := C1.out.u3
  obtain ⟨m0, m1, m2, m3, m4, m5, m6, m7, m8, m9, m10, m11, _⟩ := C2.out.u12
  by_cases h1 : 1000 < cut.size
  · have d1 : decide (1000 < cut.size) = true := dT (by omega)
    have d2 : decide ((1000 : Int) < (cut.size : Int)) = true := dT (by omega)
    clear h1
    go_wp2_with fail
    refine (first19 _).mono ?_; rintro e w9 ⟨rfl, hb⟩
    have HB9 := Lib.hid (HB.out.trans (hb.mono HB.out.size))
    clear hb
    go_wp2
    go_ret
    exact ⟨rfl, HB9.out⟩
  have d1 : decide (1000 < cut.size) = false := dF (by omega)
  have d2 : decide ((1000 : Int) < (cut.size : Int)) = false := dF (by omega)
  have N1 := Lib.hid h1
  clear h1
  by_cases h1 : 1000 < qn.size
  · have d3 : decide (1000 < qn.size) = true := dT (by omega)
    have d4 : decide ((1000 : Int) < (qn.size : Int)) = true := dT (by omega)
    clear h1
    go_wp2_with fail
    refine (first19 _).mono ?_; rintro e w9 ⟨rfl, hb⟩
    have HB9 := Lib.hid (HB.out.trans (hb.mono HB.out.size))
    clear hb
    go_wp2
    go_ret
    exact ⟨rfl, HB9.out⟩
  have d3 : decide (1000 < qn.size) = false := dF (by omega)
  have d4 : decide ((1000 : Int) < (qn.size : Int)) = false := dF (by omega)
  have N2 := Lib.hid h1
  clear h1
  have HCS := Lib.hid (show cut.size ≤ 1000000 by have := N1.out; omega)
  have HQS := Lib.hid (show qn.size ≤ 1000000 by have := N2.out; omega)
  have HSC := Lib.hid (ord_small HSM.out)
  clear N1 N2
  have HBS5 := Lib.hid HB.out.size
  go_wp2_with fail
  refine (sort_any cut qn qt qc ⟨mi, mo, mr, b1, b2, b3, b4, b5, Q, A, N, X⟩ _ w5 HMA.out HSC.out HCS.out HQS.out).mono ?_; rintro e w6 ⟨⟨v, rfl, hou⟩, hb⟩
  clear p0 p1 p2 m0 m1 m2 m3 m4 m5 m6 m7 m8 m9 m10 m11
  replace HMA := Lib.hid (HMA.out.below hb)
  replace HRa := Lib.hid (HRa.out.below hb)
  replace HRn := Lib.hid (HRn.out.below hb)
  replace HRx := Lib.hid (HRx.out.below hb)
  replace HB := Lib.hid (HB.out.trans (hb.mono HB.out.size))
  replace C1 := Lib.hid (C1.out.below hb)
  replace C2 := Lib.hid (C2.out.below hb)
  clear hb
  clear d1 d2 d3 d4
  have HBS := Lib.hid (sort_bounds (cut := cut) (qn := qn) (qt := qt) (qc := qc) HSC.out)
  have HKP := Lib.hid (keeps_any cut qn qt qc ⟨mi, mo, mr, b1, b2, b3, b4, b5, Q, A, N, X⟩)
  obtain ⟨O, hO⟩ : ∃ x, sortF cut qn qt qc ⟨mi, mo, mr, b1, b2, b3, b4, b5, Q, A, N, X⟩ = x := ⟨_, rfl⟩
  rw [hO] at hou HBS HKP
  have HO := Lib.hid hO
  clear hO
  obtain ⟨k1, t1, s1, n1⟩ := O
  obtain ⟨oa, on, oc, rfl, hrk, hnn⟩ := hou
  dsimp only at hrk
  dsimp only
  have HOU := Lib.hid (RkUp.mono hrk HBS5.out)
  clear hrk hnn HBS5
  have hba := (Below.refl _ _ : Below w6.heap.size w6 w6).alloc (Nat.le_refl _) (.cells #[.int .i64 k1, .int .i64 t1, .slice oa on oc, .string n1] 81)
  have CO := Lib.hid (CN.new w6 #[.int .i64 k1, .int .i64 t1, .slice oa on oc, .string n1] 81)
  replace HMA := Lib.hid (HMA.out.below hba)
  replace HRa := Lib.hid (HRa.out.below hba)
  replace HRn := Lib.hid (HRn.out.below hba)
  replace HRx := Lib.hid (HRx.out.below hba)
  replace HB := Lib.hid (HB.out.trans (hba.mono HB.out.size))
  replace C1 := Lib.hid (C1.out.below hba)
  replace C2 := Lib.hid (C2.out.below hba)
  replace HOU := Lib.hid (HOU.out.below hba)
  obtain ⟨w7, hw⟩ : ∃ x, w6.alloc (.cells #[.int .i64 k1, .int .i64 t1, .slice oa on oc, .string n1] 81) = x := ⟨_, rfl⟩
  obtain ⟨q7, hq⟩ : ∃ x, w6.heap.size = x := ⟨_, rfl⟩
  rw [hw, hq] at CO
  rw [hw] at HMA HRa HRn HRx HB C1 C2 HOU
  have HW := Lib.hid hw
  have HQ_ := Lib.hid hq
  clear hba hw hq
  go_upto_region 6 with (fail)
  rw [HW.out, HQ_.out]
  clear HW HQ_
  clear HMA
  obtain ⟨m0, m1, m2, m3, m4, m5, m6, m7, m8, m9, m10, m11, _⟩ := C2.out.u12
  have HSL := Lib.hid (keeps_len HSM.out HLa.out HLn.out HLx.out)
  go_wp2_with fail
  refine (all_ex mi mo mr b1 b2 b3 b4 b5 pa aa na xa pl pc al ac nl nc xl xc A N X _ HRa.out HNa.out HRn.out HNn.out HRx.out HNx.out (Nat.le_trans HSL.out (by decide))).mono ?_; rintro e w8 ⟨v, rfl, ho, hb⟩
  clear m0 m1 m2 m3 m4 m5 m6 m7 m8 m9 m10 m11
  replace HRa := Lib.hid (HRa.out.below hb)
  replace HRn := Lib.hid (HRn.out.below hb)
  replace HRx := Lib.hid (HRx.out.below hb)
  replace HB := Lib.hid (HB.out.trans (hb.mono HB.out.size))
  replace C1 := Lib.hid (C1.out.below hb)
  replace C2 := Lib.hid (C2.out.below hb)
  replace HOU := Lib.hid (HOU.out.below hb)
  replace CO := Lib.hid (CO.out.below hb)
  clear hb
  obtain ⟨la, lc, rfl, hrl, -⟩ := rowR_own ho
  obtain ⟨ll, hll⟩ : ∃ x, al + nl + xl = x := ⟨_, rfl⟩
  obtain ⟨L, hL⟩ : ∃ x, A ++ (N ++ X) = x := ⟨_, rfl⟩
  rw [hll, hL] at hrl
  rw [hll]
  have HRL := Lib.hid hrl
  have HAL := Lib.hid (show A ++ N ++ X = L by rw [List.append_assoc]; exact hL)
  replace HSL := Lib.hid (show ll ≤ 1200 by rw [← hll]; exact HSL.out)
  clear ho hrl hll hL HRa HRn HRx HNa HNn HNx HLa HLn HLx
  have HKS := Lib.hid (show ∀ p ∈ s1, KeptS cut L b2 k1 p by have h := HKP.out.1; rw [show (⟨mi, mo, mr, b1, b2, b3, b4, b5, Q, A, N, X⟩ : MsgP).a ++ (⟨mi, mo, mr, b1, b2, b3, b4, b5, Q, A, N, X⟩ : MsgP).n ++ (⟨mi, mo, mr, b1, b2, b3, b4, b5, Q, A, N, X⟩ : MsgP).x = L from HAL.out] at h; exact h)
  have HKK := Lib.hid (show KeptK cut qn qt mr b2 b3 ⟨k1, t1, s1, n1⟩ from HKP.out.2)
  clear HKP HAL
  have HLS := Lib.hid (show on ≤ 10001 by rw [← HOU.out.len]; exact HBS.out.1)
  obtain ⟨m0, m1, m2, m3, m4, m5, m6, m7, m8, m9, m10, m11, _⟩ := C2.out.u12
  obtain ⟨o0, o1, o2, o3, _⟩ := CO.out.o4
  go_wp2_with fail
  go_loopw [9] (fun i wr => ∃ (k : Nat), k ≤ on ∧ i = .int .i64 k ∧ Hid (Below w8.heap.size w8 wr)) (fun i _ => on - (intOf i).toNat)
  case atStart => exact ⟨0, Nat.zero_le _, rfl, Lib.hid (Below.refl _ _)⟩
  case round =>
    obtain ⟨k, hk, rfl, HBW⟩ := hrel
    clear m0 m1 m2 m3 m4 m5 m6 m7 m8 m9 m10 m11 o0 o1 o2 o3
    have C2r := Lib.hid (C2.out.below HBW.out)
    have COr := Lib.hid (CO.out.below HBW.out)
    have HOUr := Lib.hid (HOU.out.below HBW.out)
    have HRLr := Lib.hid (HRL.out.below HBW.out)
    obtain ⟨o0, o1, o2, o3, _⟩ := COr.out.o4
    obtain ⟨m0, m1, m2, m3, m4, m5, m6, m7, m8, m9, m10, m11, _⟩ := C2r.out.u12
    by_cases hlt : k < on
    · obtain ⟨g2, ⟨⟨⟨sn, st, sk⟩, su, sd⟩, rk⟩, da, dc, ha2, -, hp, y0, y1, y2, y3, y4, y5, hr2⟩ := HOUr.out.get k hlt
      subst ha2
      have HDD := Lib.hid (HBS.out.2 _ (List.mem_of_getElem? hp))
      have HKT := Lib.hid (HKS.out _ (List.mem_of_getElem? hp))
      replace y0 : wr.cell? ⟨g2, k * 6, none⟩ = some (.string sn) := y0
      replace y1 : wr.cell? ⟨g2, k * 6 + 1, none⟩ = some (.int .i64 st) := y1
      replace y2 : wr.cell? ⟨g2, k * 6 + 2, none⟩ = some (.int .i64 sk) := y2
      replace y3 : wr.cell? ⟨g2, k * 6 + 3, none⟩ = some (.int .i64 su) := y3
      replace y4 : wr.cell? ⟨g2, k * 6 + 4, none⟩ = some (.slice da sd.length dc) := y4
      replace y5 : wr.cell? ⟨g2, k * 6 + 5, none⟩ = some (.int .i64 rk) := y5
      replace hr2 : wr.ownsRow w.heap.size 9 1 (.slice da sd.length dc) sd.length (sc sd) := hr2
      obtain ⟨ta, tc, he, hrs, -⟩ := rowS_of_own hr2
      simp only [Value.slice.injEq] at he
      obtain ⟨rfl, -, rfl⟩ := he
      obtain ⟨dl, hdl⟩ : ∃ x, sd.length = x := ⟨_, rfl⟩
      rw [hdl] at y4 hrs
      have HRS := Lib.hid hrs
      have HDL := Lib.hid hdl
      replace HDD := Lib.hid (show dl ≤ 100000 by rw [← hdl]; exact HDD.out)
      have HLT := Lib.hid hlt
      have i1 : (0 : Int) ≤ (k : Int) := by omega
      have i2 : (k : Int) < (on : Int) := by omega
      clear hp hr2 hrs hdl hlt hk
      obtain ⟨hu, hc1, hne, hr1, hr4, hrk, hdt⟩ := HKT.out
      dsimp only at hu hc1 hne hr1 hr4 hrk hdt
      subst hc1
      have HU := Lib.hid hu
      have HRK := Lib.hid hrk
      have HDT := Lib.hid hdt
      have e1 : ((dl : Int) == 0) = false := eF (by have h : sd.length ≠ 0 := fun h => hne (List.eq_nil_of_length_eq_zero h); rw [HDL.out] at h; omega)
      have e2 : decide (rk < 1) = false := dF (by omega)
      have e3 : decide (4 < rk) = false := dF (by omega)
      have HSN := Lib.hid (keeps_name hu)
      clear hu hrk hdt hr1 hr4 HKT
      have hba := (Below.refl _ _ : Below wr.heap.size wr wr).alloc (Nat.le_refl _) (.cells #[.string sn, .int .i64 st, .int .i64 1, .int .i64 su, .slice da dl dc, .int .i64 rk] 85)
      have D1 := Lib.hid (CN.new wr #[.string sn, .int .i64 st, .int .i64 1, .int .i64 su, .slice da dl dc, .int .i64 rk] 85)
      replace C2r := Lib.hid (C2r.out.below hba)
      replace COr := Lib.hid (COr.out.below hba)
      replace HRLr := Lib.hid (HRLr.out.below hba)
      replace HOUr := Lib.hid (HOUr.out.below hba)
      replace HBW := Lib.hid (HBW.out.trans (hba.mono HBW.out.size))
      replace HRS := Lib.hid (HRS.out.below hba)
      obtain ⟨w41, hw⟩ : ∃ x, wr.alloc (.cells #[.string sn, .int .i64 st, .int .i64 1, .int .i64 su, .slice da dl dc, .int .i64 rk] 85) = x := ⟨_, rfl⟩
      obtain ⟨q41, hq⟩ : ∃ x, wr.heap.size = x := ⟨_, rfl⟩
      rw [hw, hq] at D1
      rw [hw] at C2r COr HRLr HOUr HBW HRS
      have HW := Lib.hid hw
      have HQ_ := Lib.hid hq
      clear hba hw hq
      go_upto_region 11 with (fail)
      rw [HW.out, HQ_.out]
      clear HW HQ_
      clear y0 y1 y2 y3 y4 y5
      clear o0 o1 o2 o3 m0 m1 m2 m3 m4 m5 m6 m7 m8 m9 m10 m11
      obtain ⟨z0, z1, z2, z3, z4, z5, _⟩ := D1.out.u6
      obtain ⟨o0, o1, o2, o3, _⟩ := COr.out.o4
      obtain ⟨m0, m1, m2, m3, m4, m5, m6, m7, m8, m9, m10, m11, _⟩ := C2r.out.u12
      go_wp2_with fail
      refine (runder_any sn cut w41 HSN.out HCS.out).mono ?_; rintro e w42 ⟨rfl, hb⟩
      clear z0 z1 z2 z3 z4 z5 o0 o1 o2 o3 m0 m1 m2 m3 m4 m5 m6 m7 m8 m9 m10 m11
      replace C2r := Lib.hid (C2r.out.below hb)
      replace COr := Lib.hid (COr.out.below hb)
      replace HRLr := Lib.hid (HRLr.out.below hb)
      replace HOUr := Lib.hid (HOUr.out.below hb)
      replace HBW := Lib.hid (HBW.out.trans (hb.mono HBW.out.size))
      replace HRS := Lib.hid (HRS.out.below hb)
      replace D1 := Lib.hid (D1.out.below hb)
      clear hb
      rw [HU.out]
      obtain ⟨z0, z1, z2, z3, z4, z5, _⟩ := D1.out.u6
      obtain ⟨o0, o1, o2, o3, _⟩ := COr.out.o4
      obtain ⟨m0, m1, m2, m3, m4, m5, m6, m7, m8, m9, m10, m11, _⟩ := C2r.out.u12
      cases b2
      · have e4 : (rk == 4) = false := eF (by have h := HRK.out; simpa using h)
        as_aux_lemma =>
          obtain ⟨w4, hw4⟩ : ∃ x, w42 = x := ⟨_, rfl⟩
          rw [hw4] at C2r COr HRLr HOUr HBW HRS D1 ⊢
          clear hw4
          obtain ⟨z0, z1, z2, z3, z4, z5, _⟩ := D1.out.u6
          obtain ⟨o0, o1, o2, o3, _⟩ := COr.out.o4
          obtain ⟨m0, m1, m2, m3, m4, m5, m6, m7, m8, m9, m10, m11, _⟩ := C2r.out.u12
          go_wp2_with fail
          go_loopw [11] (fun i w5 => ∃ (j : Nat), j ≤ dl ∧ i = .int .i64 j ∧ Hid (Below w4.heap.size w4 w5)) (fun i _ => dl - (intOf i).toNat)
          case atStart => exact ⟨0, Nat.zero_le _, rfl, Lib.hid (Below.refl _ _)⟩
          case round =>
            clear z0 z1 z2 z3 z4 z5 o0 o1 o2 o3 m0 m1 m2 m3 m4 m5 m6 m7 m8 m9 m10 m11
            skip
            obtain ⟨j, hj, rfl, HB5⟩ := hrel
            have D15 := Lib.hid (D1.out.below HB5.out)
            obtain ⟨z0, z1, z2, z3, z4, z5, _⟩ := D15.out.u6
            by_cases hj2 : j < dl
            · obtain ⟨bd, od, hta, hcd⟩ : ∃ bd od, da = some ⟨bd, od, none⟩ ∧ wr.cell? ⟨bd, od + j, none⟩ = some (.string (sd.getD j ByteArray.empty)) := by
                rcases (HRS.out.below HB5.out).2 with h | ⟨b, o, h1, -, h2⟩
                · omega
                · exact ⟨b, o, h1, h2 j hj2⟩
              subst hta
              obtain ⟨dj, hdj⟩ : ∃ x, sd.getD j ByteArray.empty = x := ⟨_, rfl⟩
              rw [hdj] at hcd
              have HDM := Lib.hid (HDT.out dj (by rw [← hdj, List.getD_eq_getElem?_getD, List.getElem?_eq_getElem (by rw [HDL.out]; exact hj2)]; exact List.getElem_mem _))
              have HCD := Lib.hid hcd
              have HJ := Lib.hid hj2
              have i3 : (0 : Int) ≤ (j : Int) := by omega
              have i4 : (j : Int) < (dl : Int) := by omega
              clear hcd hdj hj2 hj
              go_wp2_with fail
              go_loopw [12, 13] (fun f i w6 => ∃ (t : Nat) (fv : Bool), t ≤ ll ∧ i = .int .i64 t ∧ f = .bool fv ∧ Hid (fv = true ∨ NoOk L sn st su dj t) ∧ Hid (Below wr.heap.size wr w6)) (fun _ i _ => ll - (intOf i).toNat)
              case atStart => exact ⟨0, false, Nat.zero_le _, rfl, rfl, Lib.hid (Or.inr (fun i r h => absurd h (Nat.not_lt_zero _))), Lib.hid (Below.refl _ _)⟩
              case round =>
                clear z0 z1 z2 z3 z4 z5
                obtain ⟨t, fv, ht, rfl, rfl, HFN, HB6⟩ := hrel
                by_cases ht2 : t < ll
                · have HT := Lib.hid ht2
                  have i5 : (0 : Int) ≤ (t : Int) := by omega
                  have i6 : (t : Int) < (ll : Int) := by omega
                  have HRD := Lib.hid ((HRLr.out.below HB5.out).below HB6.out)
                  clear ht ht2
                  cases fv
                  · have HNO := Lib.hid (HFN.out.resolve_left (by simp))
                    clear HFN
                    obtain ⟨bl, ol, ⟨⟨xn, xt, xk⟩, xu, xd⟩, hla, -, hLt, v0, v1, v2, v3, v4⟩ := HRD.out.at t HT.out
                    subst hla
                    have HLt := Lib.hid hLt
                    clear hLt
                    replace v0 : wr.cell? ⟨bl, ol + t * 5, none⟩ = some (.string xn) := v0
                    replace v1 : wr.cell? ⟨bl, ol + t * 5 + 1, none⟩ = some (.int .i64 xt) := v1
                    replace v2 : wr.cell? ⟨bl, ol + t * 5 + 2, none⟩ = some (.int .i64 xk) := v2
                    replace v3 : wr.cell? ⟨bl, ol + t * 5 + 3, none⟩ = some (.int .i64 xu) := v3
                    replace v4 : wr.cell? ⟨bl, ol + t * 5 + 4, none⟩ = some (.string xd) := v4
                    obtain ⟨z0, z1, z2, z3, z4, z5, _⟩ := (D15.out.below HB6.out).u6
                    have v5 := cell_later4 HB6.out HCD.out
                    by_cases h1 : xn = sn
                    · have s0 := strC_eq h1
                      clear h1
                      by_cases h1 : xt = st
                      · have s1 := eT h1
                        clear h1
                        by_cases h1 : xk = 1
                        · have s2 := eT h1
                          clear h1
                          by_cases h1 : xd = dj
                          · have s3 := strC_eq h1
                            clear h1
                            by_cases h1 : su ≤ xu
                            · have s4 := dT h1
                              clear h1
                              go_wp2_with fail
                              go_quiet (fail)
                              rename_i nq
                              have HBN := Lib.hid (below_drewN HB6.out nq)
                              have HFX := Lib.hid (show (true = true ∨ NoOk L sn st su dj (t + 1)) from Or.inl rfl)
                              have hlt9 := HT.out
                              have hsl9 := HSL.out
                              go_wp2
                              go_roundw
                              case rel => exact ⟨t + 1, true, by have := HT.out; omega, by have := HT.out; have := HSL.out; go_num, rfl, HFX, HBN⟩
                              case measure => have := HT.out; have := HSL.out; simp [intOf]; omega
                            · have s4 := dF (by omega)
                              have H1 := Lib.hid h1
                              clear h1
                              go_wp2_with fail
                              go_quiet (fail)
                              rename_i nq
                              have HBN := Lib.hid (below_drewN HB6.out nq)
                              have HFX := Lib.hid (show (false = true ∨ NoOk L sn st su dj (t + 1)) from Or.inr (HNO.out.next HLt.out (fun h => by have h7 := H1.out; have h8 : su ≤ xu := h.2.2; omega)))
                              have hlt9 := HT.out
                              have hsl9 := HSL.out
                              go_wp2
                              go_roundw
                              case rel => exact ⟨t + 1, false, by have := HT.out; omega, by have := HT.out; have := HSL.out; go_num, rfl, HFX, HBN⟩
                              case measure => have := HT.out; have := HSL.out; simp [intOf]; omega
                          · have s3 := strC_ne h1
                            have H1 := Lib.hid h1
                            clear h1
                            go_wp2_with fail
                            go_quiet (fail)
                            rename_i nq
                            have HBN := Lib.hid (below_drewN HB6.out nq)
                            have HFX := Lib.hid (show (false = true ∨ NoOk L sn st su dj (t + 1)) from Or.inr (HNO.out.next HLt.out (fun h => H1.out (h.2.1))))
                            have hlt9 := HT.out
                            have hsl9 := HSL.out
                            go_wp2
                            go_roundw
                            case rel => exact ⟨t + 1, false, by have := HT.out; omega, by have := HT.out; have := HSL.out; go_num, rfl, HFX, HBN⟩
                            case measure => have := HT.out; have := HSL.out; simp [intOf]; omega
                        · have s2 := eF h1
                          have H1 := Lib.hid h1
                          clear h1
                          go_wp2_with fail
                          go_quiet (fail)
                          rename_i nq
                          have HBN := Lib.hid (below_drewN HB6.out nq)
                          have HFX := Lib.hid (show (false = true ∨ NoOk L sn st su dj (t + 1)) from Or.inr (HNO.out.next HLt.out (fun h => H1.out (congrArg Ky.c h.1))))
                          have hlt9 := HT.out
                          have hsl9 := HSL.out
                          go_wp2
                          go_roundw
                          case rel => exact ⟨t + 1, false, by have := HT.out; omega, by have := HT.out; have := HSL.out; go_num, rfl, HFX, HBN⟩
                          case measure => have := HT.out; have := HSL.out; simp [intOf]; omega
                      · have s1 := eF h1
                        have H1 := Lib.hid h1
                        clear h1
                        go_wp2_with fail
                        go_quiet (fail)
                        rename_i nq
                        have HBN := Lib.hid (below_drewN HB6.out nq)
                        have HFX := Lib.hid (show (false = true ∨ NoOk L sn st su dj (t + 1)) from Or.inr (HNO.out.next HLt.out (fun h => H1.out (congrArg Ky.t h.1))))
                        have hlt9 := HT.out
                        have hsl9 := HSL.out
                        go_wp2
                        go_roundw
                        case rel => exact ⟨t + 1, false, by have := HT.out; omega, by have := HT.out; have := HSL.out; go_num, rfl, HFX, HBN⟩
                        case measure => have := HT.out; have := HSL.out; simp [intOf]; omega
                    · have s0 := strC_ne h1
                      have H1 := Lib.hid h1
                      clear h1
                      go_wp2_with fail
                      go_quiet (fail)
                      rename_i nq
                      have HBN := Lib.hid (below_drewN HB6.out nq)
                      have HFX := Lib.hid (show (false = true ∨ NoOk L sn st su dj (t + 1)) from Or.inr (HNO.out.next HLt.out (fun h => H1.out (congrArg Ky.n h.1))))
                      have hlt9 := HT.out
                      have hsl9 := HSL.out
                      go_wp2
                      go_roundw
                      case rel => exact ⟨t + 1, false, by have := HT.out; omega, by have := HT.out; have := HSL.out; go_num, rfl, HFX, HBN⟩
                      case measure => have := HT.out; have := HSL.out; simp [intOf]; omega
                  · go_wp2_with fail
                    go_quiet (fail)
                    rename_i nq
                    have HBN := Lib.hid (below_drewN HB6.out nq)
                    have HFX := Lib.hid (show (true = true ∨ NoOk L sn st su dj (t + 1)) from Or.inl rfl)
                    have hlt9 := HT.out
                    have hsl9 := HSL.out
                    go_wp2
                    go_roundw
                    case rel => exact ⟨t + 1, true, by have := HT.out; omega, by have := HT.out; have := HSL.out; go_num, rfl, HFX, HBN⟩
                    case measure => have := HT.out; have := HSL.out; simp [intOf]; omega
                · obtain rfl : t = ll := by omega
                  obtain rfl : fv = true := HFN.out.resolve_right (fun h => h.all HRL.out.1 HDM.out)
                  have HBN := Lib.hid (HB5.out.trans (HB6.out.mono HB5.out.size))
                  have hlt9 := HJ.out
                  have hdd9 := HDD.out
                  go_wp2
                  go_roundw
                  case rel => exact ⟨j + 1, by have := HJ.out; omega, by have := HJ.out; have := HDD.out; go_num, HBN⟩
                  case measure => have := HJ.out; have := HDD.out; simp [intOf]; omega
            · obtain rfl : j = dl := by omega
              have HBN := Lib.hid (HBW.out.trans (HB5.out.mono HBW.out.size))
              have hlt9 := HLT.out
              have hls9 := HLS.out
              go_wp2
              go_roundw
              case rel => exact ⟨k + 1, by have := HLT.out; omega, by have := HLT.out; have := HLS.out; go_num, HBN⟩
              case measure => have := HLT.out; have := HLS.out; simp [intOf]; omega
      · by_cases h3 : k1 = 3
        · have e4 : (rk == 4) = false := eF (by have h := HRK.out; rw [h3] at h; simpa using h)
          have e5 : (k1 != 3) = false := by rw [h3]; rfl
          have H3 := Lib.hid h3
          clear h3
          as_aux_lemma =>
            obtain ⟨w4, hw4⟩ : ∃ x, w42 = x := ⟨_, rfl⟩
            rw [hw4] at C2r COr HRLr HOUr HBW HRS D1 ⊢
            clear hw4
            obtain ⟨z0, z1, z2, z3, z4, z5, _⟩ := D1.out.u6
            obtain ⟨o0, o1, o2, o3, _⟩ := COr.out.o4
            obtain ⟨m0, m1, m2, m3, m4, m5, m6, m7, m8, m9, m10, m11, _⟩ := C2r.out.u12
            go_wp2_with fail
            go_loopw [11] (fun i w5 => ∃ (j : Nat), j ≤ dl ∧ i = .int .i64 j ∧ Hid (Below w4.heap.size w4 w5)) (fun i _ => dl - (intOf i).toNat)
            case atStart => exact ⟨0, Nat.zero_le _, rfl, Lib.hid (Below.refl _ _)⟩
            case round =>
              clear z0 z1 z2 z3 z4 z5 o0 o1 o2 o3 m0 m1 m2 m3 m4 m5 m6 m7 m8 m9 m10 m11
              skip
              obtain ⟨j, hj, rfl, HB5⟩ := hrel
              have D15 := Lib.hid (D1.out.below HB5.out)
              obtain ⟨z0, z1, z2, z3, z4, z5, _⟩ := D15.out.u6
              by_cases hj2 : j < dl
              · obtain ⟨bd, od, hta, hcd⟩ : ∃ bd od, da = some ⟨bd, od, none⟩ ∧ wr.cell? ⟨bd, od + j, none⟩ = some (.string (sd.getD j ByteArray.empty)) := by
                  rcases (HRS.out.below HB5.out).2 with h | ⟨b, o, h1, -, h2⟩
                  · omega
                  · exact ⟨b, o, h1, h2 j hj2⟩
                subst hta
                obtain ⟨dj, hdj⟩ : ∃ x, sd.getD j ByteArray.empty = x := ⟨_, rfl⟩
                rw [hdj] at hcd
                have HDM := Lib.hid (HDT.out dj (by rw [← hdj, List.getD_eq_getElem?_getD, List.getElem?_eq_getElem (by rw [HDL.out]; exact hj2)]; exact List.getElem_mem _))
                have HCD := Lib.hid hcd
                have HJ := Lib.hid hj2
                have i3 : (0 : Int) ≤ (j : Int) := by omega
                have i4 : (j : Int) < (dl : Int) := by omega
                clear hcd hdj hj2 hj
                go_wp2_with fail
                go_loopw [12, 13] (fun f i w6 => ∃ (t : Nat) (fv : Bool), t ≤ ll ∧ i = .int .i64 t ∧ f = .bool fv ∧ Hid (fv = true ∨ NoOk L sn st su dj t) ∧ Hid (Below wr.heap.size wr w6)) (fun _ i _ => ll - (intOf i).toNat)
                case atStart => exact ⟨0, false, Nat.zero_le _, rfl, rfl, Lib.hid (Or.inr (fun i r h => absurd h (Nat.not_lt_zero _))), Lib.hid (Below.refl _ _)⟩
                case round =>
                  clear z0 z1 z2 z3 z4 z5
                  obtain ⟨t, fv, ht, rfl, rfl, HFN, HB6⟩ := hrel
                  by_cases ht2 : t < ll
                  · have HT := Lib.hid ht2
                    have i5 : (0 : Int) ≤ (t : Int) := by omega
                    have i6 : (t : Int) < (ll : Int) := by omega
                    have HRD := Lib.hid ((HRLr.out.below HB5.out).below HB6.out)
                    clear ht ht2
                    cases fv
                    · have HNO := Lib.hid (HFN.out.resolve_left (by simp))
                      clear HFN
                      obtain ⟨bl, ol, ⟨⟨xn, xt, xk⟩, xu, xd⟩, hla, -, hLt, v0, v1, v2, v3, v4⟩ := HRD.out.at t HT.out
                      subst hla
                      have HLt := Lib.hid hLt
                      clear hLt
                      replace v0 : wr.cell? ⟨bl, ol + t * 5, none⟩ = some (.string xn) := v0
                      replace v1 : wr.cell? ⟨bl, ol + t * 5 + 1, none⟩ = some (.int .i64 xt) := v1
                      replace v2 : wr.cell? ⟨bl, ol + t * 5 + 2, none⟩ = some (.int .i64 xk) := v2
                      replace v3 : wr.cell? ⟨bl, ol + t * 5 + 3, none⟩ = some (.int .i64 xu) := v3
                      replace v4 : wr.cell? ⟨bl, ol + t * 5 + 4, none⟩ = some (.string xd) := v4
                      obtain ⟨z0, z1, z2, z3, z4, z5, _⟩ := (D15.out.below HB6.out).u6
                      have v5 := cell_later4 HB6.out HCD.out
                      by_cases h1 : xn = sn
                      · have s0 := strC_eq h1
                        clear h1
                        by_cases h1 : xt = st
                        · have s1 := eT h1
                          clear h1
                          by_cases h1 : xk = 1
                          · have s2 := eT h1
                            clear h1
                            by_cases h1 : xd = dj
                            · have s3 := strC_eq h1
                              clear h1
                              by_cases h1 : su ≤ xu
                              · have s4 := dT h1
                                clear h1
                                go_wp2_with fail
                                go_quiet (fail)
                                rename_i nq
                                have HBN := Lib.hid (below_drewN HB6.out nq)
                                have HFX := Lib.hid (show (true = true ∨ NoOk L sn st su dj (t + 1)) from Or.inl rfl)
                                have hlt9 := HT.out
                                have hsl9 := HSL.out
                                go_wp2
                                go_roundw
                                case rel => exact ⟨t + 1, true, by have := HT.out; omega, by have := HT.out; have := HSL.out; go_num, rfl, HFX, HBN⟩
                                case measure => have := HT.out; have := HSL.out; simp [intOf]; omega
                              · have s4 := dF (by omega)
                                have H1 := Lib.hid h1
                                clear h1
                                go_wp2_with fail
                                go_quiet (fail)
                                rename_i nq
                                have HBN := Lib.hid (below_drewN HB6.out nq)
                                have HFX := Lib.hid (show (false = true ∨ NoOk L sn st su dj (t + 1)) from Or.inr (HNO.out.next HLt.out (fun h => by have h7 := H1.out; have h8 : su ≤ xu := h.2.2; omega)))
                                have hlt9 := HT.out
                                have hsl9 := HSL.out
                                go_wp2
                                go_roundw
                                case rel => exact ⟨t + 1, false, by have := HT.out; omega, by have := HT.out; have := HSL.out; go_num, rfl, HFX, HBN⟩
                                case measure => have := HT.out; have := HSL.out; simp [intOf]; omega
                            · have s3 := strC_ne h1
                              have H1 := Lib.hid h1
                              clear h1
                              go_wp2_with fail
                              go_quiet (fail)
                              rename_i nq
                              have HBN := Lib.hid (below_drewN HB6.out nq)
                              have HFX := Lib.hid (show (false = true ∨ NoOk L sn st su dj (t + 1)) from Or.inr (HNO.out.next HLt.out (fun h => H1.out (h.2.1))))
                              have hlt9 := HT.out
                              have hsl9 := HSL.out
                              go_wp2
                              go_roundw
                              case rel => exact ⟨t + 1, false, by have := HT.out; omega, by have := HT.out; have := HSL.out; go_num, rfl, HFX, HBN⟩
                              case measure => have := HT.out; have := HSL.out; simp [intOf]; omega
                          · have s2 := eF h1
                            have H1 := Lib.hid h1
                            clear h1
                            go_wp2_with fail
                            go_quiet (fail)
                            rename_i nq
                            have HBN := Lib.hid (below_drewN HB6.out nq)
                            have HFX := Lib.hid (show (false = true ∨ NoOk L sn st su dj (t + 1)) from Or.inr (HNO.out.next HLt.out (fun h => H1.out (congrArg Ky.c h.1))))
                            have hlt9 := HT.out
                            have hsl9 := HSL.out
                            go_wp2
                            go_roundw
                            case rel => exact ⟨t + 1, false, by have := HT.out; omega, by have := HT.out; have := HSL.out; go_num, rfl, HFX, HBN⟩
                            case measure => have := HT.out; have := HSL.out; simp [intOf]; omega
                        · have s1 := eF h1
                          have H1 := Lib.hid h1
                          clear h1
                          go_wp2_with fail
                          go_quiet (fail)
                          rename_i nq
                          have HBN := Lib.hid (below_drewN HB6.out nq)
                          have HFX := Lib.hid (show (false = true ∨ NoOk L sn st su dj (t + 1)) from Or.inr (HNO.out.next HLt.out (fun h => H1.out (congrArg Ky.t h.1))))
                          have hlt9 := HT.out
                          have hsl9 := HSL.out
                          go_wp2
                          go_roundw
                          case rel => exact ⟨t + 1, false, by have := HT.out; omega, by have := HT.out; have := HSL.out; go_num, rfl, HFX, HBN⟩
                          case measure => have := HT.out; have := HSL.out; simp [intOf]; omega
                      · have s0 := strC_ne h1
                        have H1 := Lib.hid h1
                        clear h1
                        go_wp2_with fail
                        go_quiet (fail)
                        rename_i nq
                        have HBN := Lib.hid (below_drewN HB6.out nq)
                        have HFX := Lib.hid (show (false = true ∨ NoOk L sn st su dj (t + 1)) from Or.inr (HNO.out.next HLt.out (fun h => H1.out (congrArg Ky.n h.1))))
                        have hlt9 := HT.out
                        have hsl9 := HSL.out
                        go_wp2
                        go_roundw
                        case rel => exact ⟨t + 1, false, by have := HT.out; omega, by have := HT.out; have := HSL.out; go_num, rfl, HFX, HBN⟩
                        case measure => have := HT.out; have := HSL.out; simp [intOf]; omega
                    · go_wp2_with fail
                      go_quiet (fail)
                      rename_i nq
                      have HBN := Lib.hid (below_drewN HB6.out nq)
                      have HFX := Lib.hid (show (true = true ∨ NoOk L sn st su dj (t + 1)) from Or.inl rfl)
                      have hlt9 := HT.out
                      have hsl9 := HSL.out
                      go_wp2
                      go_roundw
                      case rel => exact ⟨t + 1, true, by have := HT.out; omega, by have := HT.out; have := HSL.out; go_num, rfl, HFX, HBN⟩
                      case measure => have := HT.out; have := HSL.out; simp [intOf]; omega
                  · obtain rfl : t = ll := by omega
                    obtain rfl : fv = true := HFN.out.resolve_right (fun h => h.all HRL.out.1 HDM.out)
                    have HBN := Lib.hid (HB5.out.trans (HB6.out.mono HB5.out.size))
                    have hlt9 := HJ.out
                    have hdd9 := HDD.out
                    go_wp2
                    go_roundw
                    case rel => exact ⟨j + 1, by have := HJ.out; omega, by have := HJ.out; have := HDD.out; go_num, HBN⟩
                    case measure => have := HJ.out; have := HDD.out; simp [intOf]; omega
              · obtain rfl : j = dl := by omega
                have HBN := Lib.hid (HBW.out.trans (HB5.out.mono HBW.out.size))
                have hlt9 := HLT.out
                have hls9 := HLS.out
                go_wp2
                go_roundw
                case rel => exact ⟨k + 1, by have := HLT.out; omega, by have := HLT.out; have := HLS.out; go_num, HBN⟩
                case measure => have := HLT.out; have := HLS.out; simp [intOf]; omega
        · have e4 : (rk == 4) = true := eT (by have h := HRK.out; rw [dF h3] at h; simpa using h)
          have e5 : (k1 != 3) = true := by simpa using h3
          have H3 := Lib.hid h3
          clear h3
          as_aux_lemma =>
            obtain ⟨w4, hw4⟩ : ∃ x, w42 = x := ⟨_, rfl⟩
            rw [hw4] at C2r COr HRLr HOUr HBW HRS D1 ⊢
            clear hw4
            obtain ⟨z0, z1, z2, z3, z4, z5, _⟩ := D1.out.u6
            obtain ⟨o0, o1, o2, o3, _⟩ := COr.out.o4
            obtain ⟨m0, m1, m2, m3, m4, m5, m6, m7, m8, m9, m10, m11, _⟩ := C2r.out.u12
            go_wp2_with fail
            go_loopw [11] (fun i w5 => ∃ (j : Nat), j ≤ dl ∧ i = .int .i64 j ∧ Hid (Below w4.heap.size w4 w5)) (fun i _ => dl - (intOf i).toNat)
            case atStart => exact ⟨0, Nat.zero_le _, rfl, Lib.hid (Below.refl _ _)⟩
            case round =>
              clear z0 z1 z2 z3 z4 z5 o0 o1 o2 o3 m0 m1 m2 m3 m4 m5 m6 m7 m8 m9 m10 m11
              skip
              obtain ⟨j, hj, rfl, HB5⟩ := hrel
              have D15 := Lib.hid (D1.out.below HB5.out)
              obtain ⟨z0, z1, z2, z3, z4, z5, _⟩ := D15.out.u6
              by_cases hj2 : j < dl
              · obtain ⟨bd, od, hta, hcd⟩ : ∃ bd od, da = some ⟨bd, od, none⟩ ∧ wr.cell? ⟨bd, od + j, none⟩ = some (.string (sd.getD j ByteArray.empty)) := by
                  rcases (HRS.out.below HB5.out).2 with h | ⟨b, o, h1, -, h2⟩
                  · omega
                  · exact ⟨b, o, h1, h2 j hj2⟩
                subst hta
                obtain ⟨dj, hdj⟩ : ∃ x, sd.getD j ByteArray.empty = x := ⟨_, rfl⟩
                rw [hdj] at hcd
                have HDM := Lib.hid (HDT.out dj (by rw [← hdj, List.getD_eq_getElem?_getD, List.getElem?_eq_getElem (by rw [HDL.out]; exact hj2)]; exact List.getElem_mem _))
                have HCD := Lib.hid hcd
                have HJ := Lib.hid hj2
                have i3 : (0 : Int) ≤ (j : Int) := by omega
                have i4 : (j : Int) < (dl : Int) := by omega
                clear hcd hdj hj2 hj
                go_wp2_with fail
                go_loopw [12, 13] (fun f i w6 => ∃ (t : Nat) (fv : Bool), t ≤ ll ∧ i = .int .i64 t ∧ f = .bool fv ∧ Hid (fv = true ∨ NoOk L sn st su dj t) ∧ Hid (Below wr.heap.size wr w6)) (fun _ i _ => ll - (intOf i).toNat)
                case atStart => exact ⟨0, false, Nat.zero_le _, rfl, rfl, Lib.hid (Or.inr (fun i r h => absurd h (Nat.not_lt_zero _))), Lib.hid (Below.refl _ _)⟩
                case round =>
                  clear z0 z1 z2 z3 z4 z5
                  obtain ⟨t, fv, ht, rfl, rfl, HFN, HB6⟩ := hrel
                  by_cases ht2 : t < ll
                  · have HT := Lib.hid ht2
                    have i5 : (0 : Int) ≤ (t : Int) := by omega
                    have i6 : (t : Int) < (ll : Int) := by omega
                    have HRD := Lib.hid ((HRLr.out.below HB5.out).below HB6.out)
                    clear ht ht2
                    cases fv
                    · have HNO := Lib.hid (HFN.out.resolve_left (by simp))
                      clear HFN
                      obtain ⟨bl, ol, ⟨⟨xn, xt, xk⟩, xu, xd⟩, hla, -, hLt, v0, v1, v2, v3, v4⟩ := HRD.out.at t HT.out
                      subst hla
                      have HLt := Lib.hid hLt
                      clear hLt
                      replace v0 : wr.cell? ⟨bl, ol + t * 5, none⟩ = some (.string xn) := v0
                      replace v1 : wr.cell? ⟨bl, ol + t * 5 + 1, none⟩ = some (.int .i64 xt) := v1
                      replace v2 : wr.cell? ⟨bl, ol + t * 5 + 2, none⟩ = some (.int .i64 xk) := v2
                      replace v3 : wr.cell? ⟨bl, ol + t * 5 + 3, none⟩ = some (.int .i64 xu) := v3
                      replace v4 : wr.cell? ⟨bl, ol + t * 5 + 4, none⟩ = some (.string xd) := v4
                      obtain ⟨z0, z1, z2, z3, z4, z5, _⟩ := (D15.out.below HB6.out).u6
                      have v5 := cell_later4 HB6.out HCD.out
                      by_cases h1 : xn = sn
                      · have s0 := strC_eq h1
                        clear h1
                        by_cases h1 : xt = st
                        · have s1 := eT h1
                          clear h1
                          by_cases h1 : xk = 1
                          · have s2 := eT h1
                            clear h1
                            by_cases h1 : xd = dj
                            · have s3 := strC_eq h1
                              clear h1
                              by_cases h1 : su ≤ xu
                              · have s4 := dT h1
                                clear h1
                                go_wp2_with fail
                                go_quiet (fail)
                                rename_i nq
                                have HBN := Lib.hid (below_drewN HB6.out nq)
                                have HFX := Lib.hid (show (true = true ∨ NoOk L sn st su dj (t + 1)) from Or.inl rfl)
                                have hlt9 := HT.out
                                have hsl9 := HSL.out
                                go_wp2
                                go_roundw
                                case rel => exact ⟨t + 1, true, by have := HT.out; omega, by have := HT.out; have := HSL.out; go_num, rfl, HFX, HBN⟩
                                case measure => have := HT.out; have := HSL.out; simp [intOf]; omega
                              · have s4 := dF (by omega)
                                have H1 := Lib.hid h1
                                clear h1
                                go_wp2_with fail
                                go_quiet (fail)
                                rename_i nq
                                have HBN := Lib.hid (below_drewN HB6.out nq)
                                have HFX := Lib.hid (show (false = true ∨ NoOk L sn st su dj (t + 1)) from Or.inr (HNO.out.next HLt.out (fun h => by have h7 := H1.out; have h8 : su ≤ xu := h.2.2; omega)))
                                have hlt9 := HT.out
                                have hsl9 := HSL.out
                                go_wp2
                                go_roundw
                                case rel => exact ⟨t + 1, false, by have := HT.out; omega, by have := HT.out; have := HSL.out; go_num, rfl, HFX, HBN⟩
                                case measure => have := HT.out; have := HSL.out; simp [intOf]; omega
                            · have s3 := strC_ne h1
                              have H1 := Lib.hid h1
                              clear h1
                              go_wp2_with fail
                              go_quiet (fail)
                              rename_i nq
                              have HBN := Lib.hid (below_drewN HB6.out nq)
                              have HFX := Lib.hid (show (false = true ∨ NoOk L sn st su dj (t + 1)) from Or.inr (HNO.out.next HLt.out (fun h => H1.out (h.2.1))))
                              have hlt9 := HT.out
                              have hsl9 := HSL.out
                              go_wp2
                              go_roundw
                              case rel => exact ⟨t + 1, false, by have := HT.out; omega, by have := HT.out; have := HSL.out; go_num, rfl, HFX, HBN⟩
                              case measure => have := HT.out; have := HSL.out; simp [intOf]; omega
                          · have s2 := eF h1
                            have H1 := Lib.hid h1
                            clear h1
                            go_wp2_with fail
                            go_quiet (fail)
                            rename_i nq
                            have HBN := Lib.hid (below_drewN HB6.out nq)
                            have HFX := Lib.hid (show (false = true ∨ NoOk L sn st su dj (t + 1)) from Or.inr (HNO.out.next HLt.out (fun h => H1.out (congrArg Ky.c h.1))))
                            have hlt9 := HT.out
                            have hsl9 := HSL.out
                            go_wp2
                            go_roundw
                            case rel => exact ⟨t + 1, false, by have := HT.out; omega, by have := HT.out; have := HSL.out; go_num, rfl, HFX, HBN⟩
                            case measure => have := HT.out; have := HSL.out; simp [intOf]; omega
                        · have s1 := eF h1
                          have H1 := Lib.hid h1
                          clear h1
                          go_wp2_with fail
                          go_quiet (fail)
                          rename_i nq
                          have HBN := Lib.hid (below_drewN HB6.out nq)
                          have HFX := Lib.hid (show (false = true ∨ NoOk L sn st su dj (t + 1)) from Or.inr (HNO.out.next HLt.out (fun h => H1.out (congrArg Ky.t h.1))))
                          have hlt9 := HT.out
                          have hsl9 := HSL.out
                          go_wp2
                          go_roundw
                          case rel => exact ⟨t + 1, false, by have := HT.out; omega, by have := HT.out; have := HSL.out; go_num, rfl, HFX, HBN⟩
                          case measure => have := HT.out; have := HSL.out; simp [intOf]; omega
                      · have s0 := strC_ne h1
                        have H1 := Lib.hid h1
                        clear h1
                        go_wp2_with fail
                        go_quiet (fail)
                        rename_i nq
                        have HBN := Lib.hid (below_drewN HB6.out nq)
                        have HFX := Lib.hid (show (false = true ∨ NoOk L sn st su dj (t + 1)) from Or.inr (HNO.out.next HLt.out (fun h => H1.out (congrArg Ky.n h.1))))
                        have hlt9 := HT.out
                        have hsl9 := HSL.out
                        go_wp2
                        go_roundw
                        case rel => exact ⟨t + 1, false, by have := HT.out; omega, by have := HT.out; have := HSL.out; go_num, rfl, HFX, HBN⟩
                        case measure => have := HT.out; have := HSL.out; simp [intOf]; omega
                    · go_wp2_with fail
                      go_quiet (fail)
                      rename_i nq
                      have HBN := Lib.hid (below_drewN HB6.out nq)
                      have HFX := Lib.hid (show (true = true ∨ NoOk L sn st su dj (t + 1)) from Or.inl rfl)
                      have hlt9 := HT.out
                      have hsl9 := HSL.out
                      go_wp2
                      go_roundw
                      case rel => exact ⟨t + 1, true, by have := HT.out; omega, by have := HT.out; have := HSL.out; go_num, rfl, HFX, HBN⟩
                      case measure => have := HT.out; have := HSL.out; simp [intOf]; omega
                  · obtain rfl : t = ll := by omega
                    obtain rfl : fv = true := HFN.out.resolve_right (fun h => h.all HRL.out.1 HDM.out)
                    have HBN := Lib.hid (HB5.out.trans (HB6.out.mono HB5.out.size))
                    have hlt9 := HJ.out
                    have hdd9 := HDD.out
                    go_wp2
                    go_roundw
                    case rel => exact ⟨j + 1, by have := HJ.out; omega, by have := HJ.out; have := HDD.out; go_num, HBN⟩
                    case measure => have := HJ.out; have := HDD.out; simp [intOf]; omega
              · obtain rfl : j = dl := by omega
                have HBN := Lib.hid (HBW.out.trans (HB5.out.mono HBW.out.size))
                have hlt9 := HLT.out
                have hls9 := HLS.out
                go_wp2
                go_roundw
                case rel => exact ⟨k + 1, by have := HLT.out; omega, by have := HLT.out; have := HLS.out; go_num, HBN⟩
                case measure => have := HLT.out; have := HLS.out; simp [intOf]; omega
    · as_aux_lemma =>
        have hkf : decide ((k : Int) < (on : Int)) = false := dF (by omega)
        have hkf2 : decide (k < on) = false := dF hlt
        have HKO := Lib.hid hlt
        have HBE := Lib.hid (HB.out.trans (HBW.out.mono HB.out.size))
        have C1r := Lib.hid (C1.out.below HBW.out)
        clear hk hlt
        go_upto_region 23 with (fail)
        clear hkf hkf2
        have hkk := HKK.out
        unfold KeptK at hkk
        dsimp only at hkk
        rcases hkk with ⟨rfl, rfl, hn, s, rk, hs, h1, h2⟩ | ⟨rfl, rfl, hn, s, rk, hs, h1, h2, h3, h4⟩ | ⟨rfl, rfl, hn, b, l, hs, h1, h2, h3, h4⟩ | ⟨rfl, hn, rfl, hr, hb2⟩ | ⟨rfl, hn, rfl, hr, hb2⟩ | ⟨rfl, rfl, hn, rfl, hb3⟩ | ⟨rfl, rfl, hn, rfl, hb3⟩
        · as_aux_lemma =>
            obtain rfl := hs
            obtain rfl : 1 = on := HOUr.out.len
            obtain ⟨⟨sn, st, sk⟩, su, sd⟩ := s
            dsimp only at h1 h2
            subst h1 h2
            obtain rfl : n1 = ⟨#[]⟩ := hn
            obtain ⟨g2, p9, da, dc, ha2, -, hp, y0, y1, y2, y3, y4, y5, hr2⟩ := HOUr.out.get 0 (by decide)
            subst ha2
            obtain rfl := Option.some.inj hp
            clear hp
            replace hr2 : wr.ownsRow w.heap.size 9 1 (.slice da sd.length dc) sd.length (sc sd) := hr2
            obtain ⟨ta, tc, he, hrs, -⟩ := rowS_of_own hr2
            simp only [Value.slice.injEq] at he
            obtain ⟨rfl, -, rfl⟩ := he
            have HRS := Lib.hid hrs
            clear hr2 hrs
            replace y0 : wr.cell? ⟨g2, 0, none⟩ = some (.string sn) := y0
            replace y1 : wr.cell? ⟨g2, 0 + 1, none⟩ = some (.int .i64 st) := y1
            replace y2 : wr.cell? ⟨g2, 0 + 2, none⟩ = some (.int .i64 sk) := y2
            replace y3 : wr.cell? ⟨g2, 0 + 3, none⟩ = some (.int .i64 su) := y3
            replace y4 : wr.cell? ⟨g2, 0 + 4, none⟩ = some (.slice da sd.length dc) := y4
            replace y5 : wr.cell? ⟨g2, 0 + 5, none⟩ = some (.int .i64 rk) := y5
            have s1 := strC_eq (rfl : sn = sn)
            have e1 := eT (rfl : st = st)
            obtain ⟨p0, p1, p2, _⟩ := C1r.out.u3
            go_wp2_with fail
            go_quiet (fail)
            rename_i nq
            have hb := (below_drewN (Below.refl wr.heap.size wr) nq)
            obtain ⟨w71, hw71⟩ : ∃ x, wr.drewN nq = x := ⟨_, rfl⟩
            rw [hw71] at hb ⊢
            clear hw71
            clear o0 o1 o2 o3 m0 m1 m2 m3 m4 m5 m6 m7 m8 m9 m10 m11 p0 p1 p2
            clear y0 y1 y2 y3 y4 y5 s1 e1
            replace C1r := Lib.hid (C1r.out.below hb)
            replace C2r := Lib.hid (C2r.out.below hb)
            replace COr := Lib.hid (COr.out.below hb)
            replace HOUr := Lib.hid (HOUr.out.below hb)
            replace HRLr := Lib.hid (HRLr.out.below hb)
            replace HBE := Lib.hid (HBE.out.trans (hb.mono HBE.out.size))
            clear hb
            go_wp2_with fail
            refine (first19 _).mono ?_; rintro e w61 ⟨rfl, hb⟩
            replace C1r := Lib.hid (C1r.out.below hb)
            replace C2r := Lib.hid (C2r.out.below hb)
            replace COr := Lib.hid (COr.out.below hb)
            replace HOUr := Lib.hid (HOUr.out.below hb)
            replace HRLr := Lib.hid (HRLr.out.below hb)
            replace HBE := Lib.hid (HBE.out.trans (hb.mono HBE.out.size))
            clear hb
            obtain ⟨o0, o1, o2, o3, _⟩ := COr.out.o4
            obtain ⟨m0, m1, m2, m3, m4, m5, m6, m7, m8, m9, m10, m11, _⟩ := C2r.out.u12
            go_wp2
            go_ret
            exact ⟨rfl, HBE.out⟩
        · as_aux_lemma =>
            obtain rfl := hs
            obtain rfl : 1 = on := HOUr.out.len
            obtain ⟨⟨sn, st, sk⟩, su, sd⟩ := s
            dsimp only at h1 h2 h3
            subst h1 h2
            have HN1 := Lib.hid h3
            have HDB := Lib.hid (HBS.out.2 _ List.mem_cons_self)
            have s9 := strC_ne (b := ⟨#[]⟩) hn
            (try have s9b : (n1.toList == []) = false := by rw [show ([] : List UInt8) = (⟨#[]⟩ : ByteArray).toList from by kernel_rfl]; exact s9)
            have s1 := strC_eq (rfl : sn = sn)
            have e5 : (qt != 5) = true := by simpa using h4
            clear h3 h4 hn
            obtain ⟨g2, p9, da, dc, ha2, -, hp, y0, y1, y2, y3, y4, y5, hr2⟩ := HOUr.out.get 0 (by decide)
            subst ha2
            obtain rfl := Option.some.inj hp
            clear hp
            replace hr2 : wr.ownsRow w.heap.size 9 1 (.slice da sd.length dc) sd.length (sc sd) := hr2
            obtain ⟨ta, tc, he, hrs, -⟩ := rowS_of_own hr2
            simp only [Value.slice.injEq] at he
            obtain ⟨rfl, -, rfl⟩ := he
            have HRS := Lib.hid hrs
            clear hr2 hrs
            replace y0 : wr.cell? ⟨g2, 0, none⟩ = some (.string sn) := y0
            replace y1 : wr.cell? ⟨g2, 0 + 1, none⟩ = some (.int .i64 5) := y1
            replace y2 : wr.cell? ⟨g2, 0 + 2, none⟩ = some (.int .i64 sk) := y2
            replace y3 : wr.cell? ⟨g2, 0 + 3, none⟩ = some (.int .i64 su) := y3
            replace y4 : wr.cell? ⟨g2, 0 + 4, none⟩ = some (.slice da sd.length dc) := y4
            replace y5 : wr.cell? ⟨g2, 0 + 5, none⟩ = some (.int .i64 rk) := y5
            have Y0 := Lib.hid y0
            have Y1 := Lib.hid y1
            have Y2 := Lib.hid y2
            have Y3 := Lib.hid y3
            have Y4 := Lib.hid y4
            have Y5 := Lib.hid y5
            clear y0 y1 y2 y3 y4 y5
            go_upto_region 29 with (fail)
            clear o0 o1 o2 o3 m0 m1 m2 m3 m4 m5 m6 m7 m8 m9 m10 m11
            obtain ⟨wd, hwd⟩ : ∃ x, wr.drew = x := ⟨_, rfl⟩
            have HBD := Lib.hid (show Below wr.heap.size wr wd by rw [← hwd]; exact (Below.refl _ _).drew)
            refine wp_region_held_drew (S := (fun wx => Hid (Below wr.heap.size wr wx))) (by kernel_rfl) (by rw [hwd]; exact HBD) (fun hHeld => ?_)
            rw [hwd] at hHeld ⊢
            clear hwd
            refine Plan.of [0, 1, 2, 3, 4, 5, 6, 7, 8, 9, 10, 11, 12, 13, 14, 15, 16, 17, 18, 19, 20, 21, 22] ?_
            iterate 23 (refine Plan.w (v := ?_) rfl hHeld (by rfl) ?_ ?_; rotate_left; (focus (intro w hSw; (try dsimp only at hSw); obtain ⟨o0, o1, o2, o3, _⟩ := (COr.out.below hSw.out).o4; obtain ⟨p0, p1, p2, _⟩ := (C1r.out.below hSw.out).u3; have y0 := cell_later4 hSw.out Y0.out; have y1 := cell_later4 hSw.out Y1.out; have y2 := cell_later4 hSw.out Y2.out; have y3 := cell_later4 hSw.out Y3.out; have y4 := cell_later4 hSw.out Y4.out; have y5 := cell_later4 hSw.out Y5.out; go_simp; try with_reducible rfl)); try simp only [Act.put, List.setIfInBounds_toArray, List.set_cons_zero, List.set_cons_succ])
            refine Plan.fin ?_
            refine wpAnyH_ready (rs := [23]) (by kernel_rfl) (by simp) ?_
            refine AllReadyH.cons (o := { dst := some 231, op := Go.Op.buildSlice 118 1 #[(0, Go.Operand.const (Go.Value.int Go.IntKind.i64 5))], type := 118, pos := "law.go:95", after := #[{ on := 16, ground := Go.Ground.guard }], guard := some (16, true) }) rfl (fun K hK => ?_) AllReadyH.nil
            go_simp
            have HIK := Lib.hid (isK ⟨sn, 5, sk⟩ _ 1 1 [5] _ (row_litC1 wd 5 3) (by decide))
            have hb := (Below.refl _ _ : Below wd.heap.size wd wd).alloc (Nat.le_refl _) (.cells #[.int .i64 5] 3)
            obtain ⟨wx1, hwe⟩ : ∃ x, wd.alloc (.cells #[.int .i64 5] 3) = x := ⟨_, rfl⟩
            obtain ⟨gi, hge⟩ : ∃ x, wd.heap.size = x := ⟨_, rfl⟩
            have hsz := hHeld.out.size
            rw [hwe] at hb HIK ⊢
            rw [hge] at HIK ⊢
            clear hwe hge hsz
            refine hK.out _ _ (Lib.hid (hHeld.out.trans (hb.mono hHeld.out.size))) (fun hHeld2 => ?_)
            clear hK K hHeld
            have hHeld := hHeld2
            clear hHeld2
            try simp only [Act.put, List.setIfInBounds_toArray, List.set_cons_zero, List.set_cons_succ]
            refine wpAnyH_ready (rs := [24]) (by kernel_rfl) (by simp) ?_
            refine AllReadyH.cons (o := { dst := some 232, op := Go.Op.call { callee := Go.Callee.value (Go.Operand.func 28), args := #[Go.Operand.tmp 230, Go.Operand.tmp 231], argTypes := #[31, 118] }, type := 4, pos := "law.go:95", after := #[{ on := 22, ground := Go.Ground.data }, { on := 23, ground := Go.Ground.data }, { on := 16, ground := Go.Ground.chain }, { on := 16, ground := Go.Ground.guard }], guard := some (16, true) }) rfl (fun K hK => ?_) AllReadyH.nil
            go_simp
            refine HIK.out.mono ?_; rintro e wx2 ⟨rfl, hb⟩
            clear HIK
            rw [show decide ((⟨sn, 5, sk⟩ : Ky).t ∈ [(5 : Int)]) = true from by simp]
            go_wp2_with fail
            refine hK.out _ _ (Lib.hid (hHeld.out.trans (hb.mono hHeld.out.size))) (fun hHeld2 => ?_)
            clear hK K hHeld
            have hHeld := hHeld2
            clear hHeld2
            try simp only [Act.put, List.setIfInBounds_toArray, List.set_cons_zero, List.set_cons_succ]
            refine Plan.of [25, 26, 27, 28, 29, 30, 31, 32, 33] ?_
            iterate 9 (refine Plan.w (v := ?_) rfl hHeld (by rfl) ?_ ?_; rotate_left; (focus (intro w hSw; (try dsimp only at hSw); obtain ⟨o0, o1, o2, o3, _⟩ := (COr.out.below hSw.out).o4; obtain ⟨p0, p1, p2, _⟩ := (C1r.out.below hSw.out).u3; have y0 := cell_later4 hSw.out Y0.out; have y1 := cell_later4 hSw.out Y1.out; have y2 := cell_later4 hSw.out Y2.out; have y3 := cell_later4 hSw.out Y3.out; have y4 := cell_later4 hSw.out Y4.out; have y5 := cell_later4 hSw.out Y5.out; go_simp; try with_reducible rfl)); try simp only [Act.put, List.setIfInBounds_toArray, List.set_cons_zero, List.set_cons_succ])
            refine Plan.fin ?_
            refine wpAnyH_ready (rs := [34]) (by kernel_rfl) (by simp) ?_
            refine AllReadyH.cons (o := { dst := some 242, op := Go.Op.call { callee := Go.Callee.value (Go.Operand.func 16), args := #[Go.Operand.tmp 239, Go.Operand.tmp 241], argTypes := #[39, 9] }, type := 4, pos := "law.go:95", after := #[{ on := 31, ground := Go.Ground.data }, { on := 33, ground := Go.Ground.data }, { on := 26, ground := Go.Ground.chain }, { on := 26, ground := Go.Ground.guard }], guard := some (26, true) }) rfl (fun K hK => ?_) AllReadyH.nil
            go_simp
            have hhs := has_any sn 5 sk su sd da sd.length dc n1 wx2 (HRS.out.below hHeld.out) HDB.out
            rw [memS_t HN1.out] at hhs
            refine hhs.mono ?_; rintro e wx3 ⟨rfl, hb⟩
            clear hhs
            go_wp2_with fail
            refine hK.out _ _ (Lib.hid (hHeld.out.trans (hb.mono hHeld.out.size))) (fun hHeld2 => ?_)
            clear hK K hHeld
            have hHeld := hHeld2
            clear hHeld2
            try simp only [Act.put, List.setIfInBounds_toArray, List.set_cons_zero, List.set_cons_succ]
            refine Plan.of [35, 36, 37, 38, 39, 40, 41] ?_
            iterate 7 (refine Plan.w (v := ?_) rfl hHeld (by rfl) ?_ ?_; rotate_left; (focus (intro w hSw; (try dsimp only at hSw); obtain ⟨o0, o1, o2, o3, _⟩ := (COr.out.below hSw.out).o4; obtain ⟨p0, p1, p2, _⟩ := (C1r.out.below hSw.out).u3; have y0 := cell_later4 hSw.out Y0.out; have y1 := cell_later4 hSw.out Y1.out; have y2 := cell_later4 hSw.out Y2.out; have y3 := cell_later4 hSw.out Y3.out; have y4 := cell_later4 hSw.out Y4.out; have y5 := cell_later4 hSw.out Y5.out; go_simp; try with_reducible rfl)); try simp only [Act.put, List.setIfInBounds_toArray, List.set_cons_zero, List.set_cons_succ])
            refine Plan.fin ?_
            refine wpAnyH_done (by kernel_rfl) ?_ _
            have HB7 := Lib.hid hHeld.out
            clear hHeld
            skip
            replace C1r := Lib.hid (C1r.out.below HB7.out)
            replace C2r := Lib.hid (C2r.out.below HB7.out)
            replace COr := Lib.hid (COr.out.below HB7.out)
            replace HOUr := Lib.hid (HOUr.out.below HB7.out)
            replace HRLr := Lib.hid (HRLr.out.below HB7.out)
            replace HBE := Lib.hid (HBE.out.trans (HB7.out.mono HBE.out.size))
            clear HB7 HBD
            go_wp2_with fail
            refine (first19 _).mono ?_; rintro e w61 ⟨rfl, hb⟩
            replace C1r := Lib.hid (C1r.out.below hb)
            replace C2r := Lib.hid (C2r.out.below hb)
            replace COr := Lib.hid (COr.out.below hb)
            replace HOUr := Lib.hid (HOUr.out.below hb)
            replace HRLr := Lib.hid (HRLr.out.below hb)
            replace HBE := Lib.hid (HBE.out.trans (hb.mono HBE.out.size))
            clear hb
            obtain ⟨o0, o1, o2, o3, _⟩ := COr.out.o4
            obtain ⟨m0, m1, m2, m3, m4, m5, m6, m7, m8, m9, m10, m11, _⟩ := C2r.out.u12
            go_wp2
            go_ret
            exact ⟨rfl, HBE.out⟩
        · as_aux_lemma =>
            obtain rfl : n1 = ⟨#[]⟩ := hn
            have HHS := Lib.hid hs
            have hon : 1 ≤ on := by
              have h := HOUr.out.len
              rw [hs, List.length_cons] at h
              omega
            obtain ⟨⟨sn, st, sk⟩, su, sd⟩ := b
            dsimp only at h1 h2 h3 h4
            subst h1
            have HBN := Lib.hid (keeps_name (HKS.out _ (by rw [hs]; exact List.mem_cons_self)).1)
            have HDB := Lib.hid (HBS.out.2 _ (by rw [hs]; exact List.mem_cons_self))
            have HGL := Lib.hid h4
            have HVU := Lib.hid h3
            have sq := strC_neT h2
            have sq2 := strC_ne h2
            have hoi : (0 : Int) < (on : Int) := by omega
            have hod : decide ((1 : Int) ≤ (on : Int)) = true := dT (by omega)
            have hon0 : 0 < on := hon
            have hod2 : decide (1 ≤ on) = true := dT hon
            clear h2 h3 h4 hs
            obtain ⟨g2, p9, da, dc, ha2, -, hp, y0, y1, y2, y3, y4, y5, hr2⟩ := HOUr.out.get 0 hon
            subst ha2
            obtain rfl : ((⟨⟨sn, 2, sk⟩, su, sd⟩ : SetP), (2 : Int)) = p9 := Option.some.inj (by rw [← hp, HHS.out]; rfl)
            clear hp
            replace y0 : wr.cell? ⟨g2, 0, none⟩ = some (.string sn) := y0
            replace y1 : wr.cell? ⟨g2, 0 + 1, none⟩ = some (.int .i64 2) := y1
            replace y2 : wr.cell? ⟨g2, 0 + 2, none⟩ = some (.int .i64 sk) := y2
            replace y3 : wr.cell? ⟨g2, 0 + 3, none⟩ = some (.int .i64 su) := y3
            replace y4 : wr.cell? ⟨g2, 0 + 4, none⟩ = some (.slice da sd.length dc) := y4
            replace y5 : wr.cell? ⟨g2, 0 + 5, none⟩ = some (.int .i64 2) := y5
            replace hr2 : wr.ownsRow w.heap.size 9 1 (.slice da sd.length dc) sd.length (sc sd) := hr2
            obtain ⟨ta, tc, he, hrs, -⟩ := rowS_of_own hr2
            simp only [Value.slice.injEq] at he
            obtain ⟨rfl, -, rfl⟩ := he
            have HRS := Lib.hid hrs
            clear hr2 hrs
            have Y0 := Lib.hid y0
            have Y1 := Lib.hid y1
            have Y2 := Lib.hid y2
            have Y3 := Lib.hid y3
            have Y4 := Lib.hid y4
            have Y5 := Lib.hid y5
            clear y0 y1 y2 y3 y4 y5
            go_upto_region 31 with (fail)
            clear o0 o1 o2 o3 m0 m1 m2 m3 m4 m5 m6 m7 m8 m9 m10 m11
            obtain ⟨wd, hwd⟩ : ∃ x, wr.drew = x := ⟨_, rfl⟩
            have HBD := Lib.hid (show Below wr.heap.size wr wd by rw [← hwd]; exact (Below.refl _ _).drew)
            refine wp_region_held_drew (S := (fun wx => Hid (Below wr.heap.size wr wx))) (by kernel_rfl) (by rw [hwd]; exact HBD) (fun hHeld => ?_)
            rw [hwd] at hHeld ⊢
            clear hwd
            refine Plan.of [0, 1, 2, 3, 4, 5, 6, 7, 8, 9, 10] ?_
            iterate 11 (refine Plan.w (v := ?_) rfl hHeld (by rfl) ?_ ?_; rotate_left; (focus (intro w hSw; (try dsimp only at hSw); obtain ⟨o0, o1, o2, o3, _⟩ := (COr.out.below hSw.out).o4; obtain ⟨p0, p1, p2, _⟩ := (C1r.out.below hSw.out).u3; have y0 := cell_later4 hSw.out Y0.out; have y1 := cell_later4 hSw.out Y1.out; have y2 := cell_later4 hSw.out Y2.out; have y3 := cell_later4 hSw.out Y3.out; have y4 := cell_later4 hSw.out Y4.out; have y5 := cell_later4 hSw.out Y5.out; go_simp; try with_reducible rfl)); try simp only [Act.put, List.setIfInBounds_toArray, List.set_cons_zero, List.set_cons_succ])
            refine Plan.fin ?_
            refine wpAnyH_ready (rs := [11]) (by kernel_rfl) (by simp) ?_
            refine AllReadyH.cons (o := { dst := some 262, op := Go.Op.buildSlice 118 1 #[(0, Go.Operand.const (Go.Value.int Go.IntKind.i64 2))], type := 118, pos := "law.go:97", after := #[{ on := 4, ground := Go.Ground.guard }], guard := some (4, true) }) rfl (fun K hK => ?_) AllReadyH.nil
            go_simp
            have HIK := Lib.hid (isK ⟨sn, 2, sk⟩ _ 1 1 [2] _ (row_litC1 wd 2 3) (by decide))
            have hb := (Below.refl _ _ : Below wd.heap.size wd wd).alloc (Nat.le_refl _) (.cells #[.int .i64 2] 3)
            obtain ⟨wx1, hwe⟩ : ∃ x, wd.alloc (.cells #[.int .i64 2] 3) = x := ⟨_, rfl⟩
            obtain ⟨gi, hge⟩ : ∃ x, wd.heap.size = x := ⟨_, rfl⟩
            have hsz := hHeld.out.size
            rw [hwe] at hb HIK ⊢
            rw [hge] at HIK ⊢
            clear hwe hge hsz
            refine hK.out _ _ (Lib.hid (hHeld.out.trans (hb.mono hHeld.out.size))) (fun hHeld2 => ?_)
            clear hK K hHeld
            have hHeld := hHeld2
            clear hHeld2
            try simp only [Act.put, List.setIfInBounds_toArray, List.set_cons_zero, List.set_cons_succ]
            refine wpAnyH_ready (rs := [12]) (by kernel_rfl) (by simp) ?_
            refine AllReadyH.cons (o := { dst := some 263, op := Go.Op.call { callee := Go.Callee.value (Go.Operand.func 28), args := #[Go.Operand.tmp 261, Go.Operand.tmp 262], argTypes := #[31, 118] }, type := 4, pos := "law.go:97", after := #[{ on := 10, ground := Go.Ground.data }, { on := 11, ground := Go.Ground.data }, { on := 4, ground := Go.Ground.chain }, { on := 4, ground := Go.Ground.guard }], guard := some (4, true) }) rfl (fun K hK => ?_) AllReadyH.nil
            go_simp
            refine HIK.out.mono ?_; rintro e wx2 ⟨rfl, hb⟩
            clear HIK
            rw [show decide ((⟨sn, 2, sk⟩ : Ky).t ∈ [(2 : Int)]) = true from by simp]
            go_wp2_with fail
            refine hK.out _ _ (Lib.hid (hHeld.out.trans (hb.mono hHeld.out.size))) (fun hHeld2 => ?_)
            clear hK K hHeld
            have hHeld := hHeld2
            clear hHeld2
            try simp only [Act.put, List.setIfInBounds_toArray, List.set_cons_zero, List.set_cons_succ]
            refine Plan.of [13, 14, 15, 16, 17, 18, 19, 20, 21, 22, 23, 24, 25, 26, 27, 28, 29, 30, 31, 32, 33, 34] ?_
            iterate 22 (refine Plan.w (v := ?_) rfl hHeld (by rfl) ?_ ?_; rotate_left; (focus (intro w hSw; (try dsimp only at hSw); obtain ⟨o0, o1, o2, o3, _⟩ := (COr.out.below hSw.out).o4; obtain ⟨p0, p1, p2, _⟩ := (C1r.out.below hSw.out).u3; have y0 := cell_later4 hSw.out Y0.out; have y1 := cell_later4 hSw.out Y1.out; have y2 := cell_later4 hSw.out Y2.out; have y3 := cell_later4 hSw.out Y3.out; have y4 := cell_later4 hSw.out Y4.out; have y5 := cell_later4 hSw.out Y5.out; go_simp; try with_reducible rfl)); try simp only [Act.put, List.setIfInBounds_toArray, List.set_cons_zero, List.set_cons_succ])
            refine Plan.fin ?_
            refine wpAnyH_ready (rs := [35]) (by kernel_rfl) (by simp) ?_
            refine AllReadyH.cons (o := { dst := some 286, op := Go.Op.call { callee := Go.Callee.value (Go.Operand.func 27), args := #[Go.Operand.tmp 278, Go.Operand.tmp 285], argTypes := #[9, 9] }, type := 4, pos := "law.go:97", after := #[{ on := 27, ground := Go.Ground.data }, { on := 34, ground := Go.Ground.data }, { on := 25, ground := Go.Ground.chain }, { on := 25, ground := Go.Ground.guard }], guard := some (25, true) }) rfl (fun K hK => ?_) AllReadyH.nil
            go_simp
            refine (runder_any qn sn wx2 HQS.out HBN.out).mono ?_; rintro e wx3 ⟨rfl, hb⟩
            rw [HVU.out]
            go_wp2_with fail
            refine hK.out _ _ (Lib.hid (hHeld.out.trans (hb.mono hHeld.out.size))) (fun hHeld2 => ?_)
            clear hK K hHeld
            have hHeld := hHeld2
            clear hHeld2
            try simp only [Act.put, List.setIfInBounds_toArray, List.set_cons_zero, List.set_cons_succ]
            refine Plan.of [36, 37] ?_
            iterate 2 (refine Plan.w (v := ?_) rfl hHeld (by rfl) ?_ ?_; rotate_left; (focus (intro w hSw; (try dsimp only at hSw); obtain ⟨o0, o1, o2, o3, _⟩ := (COr.out.below hSw.out).o4; obtain ⟨p0, p1, p2, _⟩ := (C1r.out.below hSw.out).u3; have y0 := cell_later4 hSw.out Y0.out; have y1 := cell_later4 hSw.out Y1.out; have y2 := cell_later4 hSw.out Y2.out; have y3 := cell_later4 hSw.out Y3.out; have y4 := cell_later4 hSw.out Y4.out; have y5 := cell_later4 hSw.out Y5.out; go_simp; try with_reducible rfl)); try simp only [Act.put, List.setIfInBounds_toArray, List.set_cons_zero, List.set_cons_succ])
            refine Plan.fin ?_
            refine wpAnyH_done (by kernel_rfl) ?_ _
            have HB7 := Lib.hid hHeld.out
            clear hHeld
            skip
            replace C1r := Lib.hid (C1r.out.below HB7.out)
            replace C2r := Lib.hid (C2r.out.below HB7.out)
            replace COr := Lib.hid (COr.out.below HB7.out)
            replace HOUr := Lib.hid (HOUr.out.below HB7.out)
            replace HRLr := Lib.hid (HRLr.out.below HB7.out)
            replace HBE := Lib.hid (HBE.out.trans (HB7.out.mono HBE.out.size))
            clear HB7 HBD
            clear Y0 Y1 Y2 Y3 Y4 Y5 HRS sq sq2
            obtain ⟨o0, o1, o2, o3, _⟩ := COr.out.o4
            obtain ⟨m0, m1, m2, m3, m4, m5, m6, m7, m8, m9, m10, m11, _⟩ := C2r.out.u12
            go_wp2_with fail
            go_loopw [14, 15] (fun gv i w8 => ∃ (j : Nat), 1 ≤ j ∧ j ≤ on ∧ gv = .bool true ∧ i = .int .i64 j ∧ Hid (Below wx3.heap.size wx3 w8)) (fun _ i _ => on - (intOf i).toNat)
            case atStart => exact ⟨1, Nat.le_refl _, hon, rfl, rfl, Lib.hid (Below.refl _ _)⟩
            case round =>
              clear o0 o1 o2 o3 m0 m1 m2 m3 m4 m5 m6 m7 m8 m9 m10 m11
              obtain ⟨j, hj1, hj2, rfl, rfl, HB8⟩ := hrel
              replace C1r := Lib.hid (C1r.out.below HB8.out)
              replace C2r := Lib.hid (C2r.out.below HB8.out)
              replace COr := Lib.hid (COr.out.below HB8.out)
              replace HOUr := Lib.hid (HOUr.out.below HB8.out)
              replace HRLr := Lib.hid (HRLr.out.below HB8.out)
              replace HBE := Lib.hid (HBE.out.trans (HB8.out.mono HBE.out.size))
              obtain ⟨o0, o1, o2, o3, _⟩ := COr.out.o4
              obtain ⟨m0, m1, m2, m3, m4, m5, m6, m7, m8, m9, m10, m11, _⟩ := C2r.out.u12
              by_cases hlt : j < on
              · obtain ⟨g3, p9, da, dc, ha2, -, hp, y0, y1, y2, y3, y4, y5, hr2⟩ := HOUr.out.get 0 hon
                simp only [Option.some.injEq, Addr.mk.injEq] at ha2
                obtain ⟨rfl, -⟩ := ha2
                obtain rfl : ((⟨⟨sn, 2, sk⟩, su, sd⟩ : SetP), (2 : Int)) = p9 := Option.some.inj (by rw [← hp, HHS.out]; rfl)
                clear hp
                replace y0 : wr.cell? ⟨g2, 0, none⟩ = some (.string sn) := y0
                replace y1 : wr.cell? ⟨g2, 0 + 1, none⟩ = some (.int .i64 2) := y1
                replace y2 : wr.cell? ⟨g2, 0 + 2, none⟩ = some (.int .i64 sk) := y2
                replace y3 : wr.cell? ⟨g2, 0 + 3, none⟩ = some (.int .i64 su) := y3
                replace y4 : wr.cell? ⟨g2, 0 + 4, none⟩ = some (.slice da sd.length dc) := y4
                replace y5 : wr.cell? ⟨g2, 0 + 5, none⟩ = some (.int .i64 2) := y5
                replace hr2 : wr.ownsRow w.heap.size 9 1 (.slice da sd.length dc) sd.length (sc sd) := hr2
                obtain ⟨ta, tc, he, hrs, -⟩ := rowS_of_own hr2
                simp only [Value.slice.injEq] at he
                obtain ⟨rfl, -, rfl⟩ := he
                have HRS := Lib.hid hrs
                clear hr2 hrs
                have Y0 := Lib.hid y0
                have Y1 := Lib.hid y1
                have Y2 := Lib.hid y2
                have Y3 := Lib.hid y3
                have Y4 := Lib.hid y4
                have Y5 := Lib.hid y5
                clear y0 y1 y2 y3 y4 y5
                obtain ⟨g4, p8, db, dcb, ha3, -, hp3, z0, z1, z2, z3, z4, z5, -⟩ := HOUr.out.get j hlt
                simp only [Option.some.injEq, Addr.mk.injEq] at ha3
                obtain ⟨rfl, -⟩ := ha3
                obtain ⟨⟨⟨xn, xt, xk⟩, xu, xd⟩, hx, rfl⟩ := keeps_glue HHS.out hp3 hj1
                have HXT := Lib.hid (HGL.out _ hx).1
                have HXN := Lib.hid (HGL.out _ hx).2
                clear hp3 hx
                replace z0 : wr.cell? ⟨g2, j * 6, none⟩ = some (.string xn) := z0
                replace z1 : wr.cell? ⟨g2, j * 6 + 1, none⟩ = some (.int .i64 xt) := z1
                replace z2 : wr.cell? ⟨g2, j * 6 + 2, none⟩ = some (.int .i64 xk) := z2
                replace z3 : wr.cell? ⟨g2, j * 6 + 3, none⟩ = some (.int .i64 xu) := z3
                replace z4 : wr.cell? ⟨g2, j * 6 + 4, none⟩ = some (.slice db xd.length dcb) := z4
                replace z5 : wr.cell? ⟨g2, j * 6 + 5, none⟩ = some (.int .i64 1) := z5
                have Z0 := Lib.hid z0
                have Z1 := Lib.hid z1
                have Z2 := Lib.hid z2
                have Z3 := Lib.hid z3
                have Z4 := Lib.hid z4
                have Z5 := Lib.hid z5
                clear z0 z1 z2 z3 z4 z5
                have HJ := Lib.hid hlt
                have i3 : (0 : Int) ≤ (j : Int) := by omega
                have i4 : (j : Int) < (on : Int) := by omega
                clear hlt hj1 hj2
                go_upto_region 35 with (fail)
                clear o0 o1 o2 o3 m0 m1 m2 m3 m4 m5 m6 m7 m8 m9 m10 m11
                obtain ⟨wd, hwd⟩ : ∃ x, wr.drew = x := ⟨_, rfl⟩
                have HBD := Lib.hid (show Below wr.heap.size wr wd by rw [← hwd]; exact (Below.refl _ _).drew)
                refine wp_region_held_drew (S := (fun wx => Hid (Below wr.heap.size wr wx))) (by kernel_rfl) (by rw [hwd]; exact HBD) (fun hHeld => ?_)
                rw [hwd] at hHeld ⊢
                clear hwd
                refine Plan.of [0, 1, 2, 3, 4, 5, 6] ?_
                iterate 7 (refine Plan.w (v := ?_) rfl hHeld (by rfl) ?_ ?_; rotate_left; (focus (intro w hSw; (try dsimp only at hSw); obtain ⟨o0, o1, o2, o3, _⟩ := (COr.out.below hSw.out).o4; have y0 := cell_later4 hSw.out Y0.out; have y1 := cell_later4 hSw.out Y1.out; have y2 := cell_later4 hSw.out Y2.out; have y3 := cell_later4 hSw.out Y3.out; have y4 := cell_later4 hSw.out Y4.out; have y5 := cell_later4 hSw.out Y5.out; have z0 := cell_later4 hSw.out Z0.out; have z1 := cell_later4 hSw.out Z1.out; have z2 := cell_later4 hSw.out Z2.out; have z3 := cell_later4 hSw.out Z3.out; have z4 := cell_later4 hSw.out Z4.out; have z5 := cell_later4 hSw.out Z5.out; go_simp; try with_reducible rfl)); try simp only [Act.put, List.setIfInBounds_toArray, List.set_cons_zero, List.set_cons_succ])
                refine Plan.fin ?_
                refine wpAnyH_ready (rs := [7]) (by kernel_rfl) (by simp) ?_
                refine AllReadyH.cons (o := { dst := some 305, op := Go.Op.buildSlice 118 2 #[(0, Go.Operand.const (Go.Value.int Go.IntKind.i64 1)), (1, Go.Operand.const (Go.Value.int Go.IntKind.i64 28))], type := 118, pos := "law.go:99", after := #[], guard := none }) rfl (fun K hK => ?_) AllReadyH.nil
                go_simp
                have HIK := Lib.hid (isK ⟨xn, xt, xk⟩ _ 2 2 [1, 28] _ (row_lit2 wd 1 28 3) (by decide))
                have hb := (Below.refl _ _ : Below wd.heap.size wd wd).alloc (Nat.le_refl _) (.cells #[.int .i64 1, .int .i64 28] 3)
                obtain ⟨wx1, hwe⟩ : ∃ x, wd.alloc (.cells #[.int .i64 1, .int .i64 28] 3) = x := ⟨_, rfl⟩
                obtain ⟨gi, hge⟩ : ∃ x, wd.heap.size = x := ⟨_, rfl⟩
                have hsz := hHeld.out.size
                rw [hwe] at hb HIK ⊢
                rw [hge] at HIK ⊢
                clear hwe hge hsz
                refine hK.out _ _ (Lib.hid (hHeld.out.trans (hb.mono hHeld.out.size))) (fun hHeld2 => ?_)
                clear hK K hHeld
                have hHeld := hHeld2
                clear hHeld2
                try simp only [Act.put, List.setIfInBounds_toArray, List.set_cons_zero, List.set_cons_succ]
                refine wpAnyH_ready (rs := [8]) (by kernel_rfl) (by simp) ?_
                refine AllReadyH.cons (o := { dst := some 306, op := Go.Op.call { callee := Go.Callee.value (Go.Operand.func 28), args := #[Go.Operand.tmp 304, Go.Operand.tmp 305], argTypes := #[31, 118] }, type := 4, pos := "law.go:99", after := #[{ on := 6, ground := Go.Ground.data }, { on := 7, ground := Go.Ground.data }], guard := none }) rfl (fun K hK => ?_) AllReadyH.nil
                go_simp
                refine HIK.out.mono ?_; rintro e wx2 ⟨rfl, hb⟩
                clear HIK
                rw [show decide ((⟨xn, xt, xk⟩ : Ky).t ∈ [(1 : Int), 28]) = true from decide_eq_true HXT.out]
                go_wp2_with fail
                refine hK.out _ _ (Lib.hid (hHeld.out.trans (hb.mono hHeld.out.size))) (fun hHeld2 => ?_)
                clear hK K hHeld
                have hHeld := hHeld2
                clear hHeld2
                try simp only [Act.put, List.setIfInBounds_toArray, List.set_cons_zero, List.set_cons_succ]
                refine Plan.of [9, 10, 11, 12, 13, 14, 15, 16, 17, 18, 19, 20, 21, 22] ?_
                iterate 14 (refine Plan.w (v := ?_) rfl hHeld (by rfl) ?_ ?_; rotate_left; (focus (intro w hSw; (try dsimp only at hSw); obtain ⟨o0, o1, o2, o3, _⟩ := (COr.out.below hSw.out).o4; have y0 := cell_later4 hSw.out Y0.out; have y1 := cell_later4 hSw.out Y1.out; have y2 := cell_later4 hSw.out Y2.out; have y3 := cell_later4 hSw.out Y3.out; have y4 := cell_later4 hSw.out Y4.out; have y5 := cell_later4 hSw.out Y5.out; have z0 := cell_later4 hSw.out Z0.out; have z1 := cell_later4 hSw.out Z1.out; have z2 := cell_later4 hSw.out Z2.out; have z3 := cell_later4 hSw.out Z3.out; have z4 := cell_later4 hSw.out Z4.out; have z5 := cell_later4 hSw.out Z5.out; go_simp; try with_reducible rfl)); try simp only [Act.put, List.setIfInBounds_toArray, List.set_cons_zero, List.set_cons_succ])
                refine Plan.fin ?_
                refine wpAnyH_ready (rs := [23]) (by kernel_rfl) (by simp) ?_
                refine AllReadyH.cons (o := { dst := some 321, op := Go.Op.call { callee := Go.Callee.value (Go.Operand.func 16), args := #[Go.Operand.tmp 312, Go.Operand.tmp 320], argTypes := #[39, 9] }, type := 4, pos := "law.go:99", after := #[{ on := 14, ground := Go.Ground.data }, { on := 22, ground := Go.Ground.data }, { on := 9, ground := Go.Ground.chain }, { on := 9, ground := Go.Ground.guard }], guard := some (9, true) }) rfl (fun K hK => ?_) AllReadyH.nil
                go_simp
                have hhs := has_any sn 2 sk su sd da sd.length dc xn wx2 (HRS.out.below hHeld.out) HDB.out
                rw [memS_t HXN.out] at hhs
                refine hhs.mono ?_; rintro e wx3 ⟨rfl, hb⟩
                clear hhs
                go_wp2_with fail
                refine hK.out _ _ (Lib.hid (hHeld.out.trans (hb.mono hHeld.out.size))) (fun hHeld2 => ?_)
                clear hK K hHeld
                have hHeld := hHeld2
                clear hHeld2
                try simp only [Act.put, List.setIfInBounds_toArray, List.set_cons_zero, List.set_cons_succ]
                refine Plan.of [24, 25, 26, 27, 28, 29, 30, 31, 32, 33, 34] ?_
                iterate 11 (refine Plan.w (v := ?_) rfl hHeld (by rfl) ?_ ?_; rotate_left; (focus (intro w hSw; (try dsimp only at hSw); obtain ⟨o0, o1, o2, o3, _⟩ := (COr.out.below hSw.out).o4; have y0 := cell_later4 hSw.out Y0.out; have y1 := cell_later4 hSw.out Y1.out; have y2 := cell_later4 hSw.out Y2.out; have y3 := cell_later4 hSw.out Y3.out; have y4 := cell_later4 hSw.out Y4.out; have y5 := cell_later4 hSw.out Y5.out; have z0 := cell_later4 hSw.out Z0.out; have z1 := cell_later4 hSw.out Z1.out; have z2 := cell_later4 hSw.out Z2.out; have z3 := cell_later4 hSw.out Z3.out; have z4 := cell_later4 hSw.out Z4.out; have z5 := cell_later4 hSw.out Z5.out; go_simp; try with_reducible rfl)); try simp only [Act.put, List.setIfInBounds_toArray, List.set_cons_zero, List.set_cons_succ])
                refine Plan.fin ?_
                refine wpAnyH_done (by kernel_rfl) ?_ _
                have HB7 := Lib.hid hHeld.out
                clear hHeld
                skip
                have HBN8 := Lib.hid (HB8.out.trans (HB7.out.mono HB8.out.size))
                have hlt9 := HJ.out
                have hls9 := HLS.out
                go_wp2
                go_roundw
                case rel => exact ⟨j + 1, by omega, by have := HJ.out; omega, rfl, by have := HJ.out; have := HLS.out; go_num, HBN8⟩
                case measure => have := HJ.out; have := HLS.out; simp [intOf]; omega
              · have hjf : decide ((j : Int) < (on : Int)) = false := dF (by omega)
                have hjf2 : decide (j < on) = false := dF hlt
                clear hj1 hj2
                go_wp2_with fail
                refine (first19 _).mono ?_; rintro e w61 ⟨rfl, hb⟩
                clear o0 o1 o2 o3 m0 m1 m2 m3 m4 m5 m6 m7 m8 m9 m10 m11
                replace C1r := Lib.hid (C1r.out.below hb)
                replace C2r := Lib.hid (C2r.out.below hb)
                replace COr := Lib.hid (COr.out.below hb)
                replace HOUr := Lib.hid (HOUr.out.below hb)
                replace HRLr := Lib.hid (HRLr.out.below hb)
                replace HBE := Lib.hid (HBE.out.trans (hb.mono HBE.out.size))
                clear hb
                obtain ⟨o0, o1, o2, o3, _⟩ := COr.out.o4
                obtain ⟨m0, m1, m2, m3, m4, m5, m6, m7, m8, m9, m10, m11, _⟩ := C2r.out.u12
                go_wp2
                go_ret
                exact ⟨rfl, HBE.out⟩
        · as_aux_lemma =>
            obtain rfl : 0 = on := HOUr.out.len
            obtain rfl : n1 = ⟨#[]⟩ := hn
            subst hr hb2
            by_cases ht1 : t1 = 0
            · have e7 := eT ht1
              clear ht1
              go_wp2_with fail
              refine (first19 _).mono ?_; rintro e w61 ⟨rfl, hb⟩
              clear o0 o1 o2 o3 m0 m1 m2 m3 m4 m5 m6 m7 m8 m9 m10 m11
              replace C1r := Lib.hid (C1r.out.below hb)
              replace C2r := Lib.hid (C2r.out.below hb)
              replace COr := Lib.hid (COr.out.below hb)
              replace HOUr := Lib.hid (HOUr.out.below hb)
              replace HRLr := Lib.hid (HRLr.out.below hb)
              replace HBE := Lib.hid (HBE.out.trans (hb.mono HBE.out.size))
              clear hb
              obtain ⟨o0, o1, o2, o3, _⟩ := COr.out.o4
              obtain ⟨m0, m1, m2, m3, m4, m5, m6, m7, m8, m9, m10, m11, _⟩ := C2r.out.u12
              go_wp2
              go_ret
              exact ⟨rfl, HBE.out⟩
            · have e7 := eF ht1
              clear ht1
              go_wp2_with fail
              refine (first19 _).mono ?_; rintro e w61 ⟨rfl, hb⟩
              clear o0 o1 o2 o3 m0 m1 m2 m3 m4 m5 m6 m7 m8 m9 m10 m11
              replace C1r := Lib.hid (C1r.out.below hb)
              replace C2r := Lib.hid (C2r.out.below hb)
              replace COr := Lib.hid (COr.out.below hb)
              replace HOUr := Lib.hid (HOUr.out.below hb)
              replace HRLr := Lib.hid (HRLr.out.below hb)
              replace HBE := Lib.hid (HBE.out.trans (hb.mono HBE.out.size))
              clear hb
              obtain ⟨o0, o1, o2, o3, _⟩ := COr.out.o4
              obtain ⟨m0, m1, m2, m3, m4, m5, m6, m7, m8, m9, m10, m11, _⟩ := C2r.out.u12
              go_wp2
              go_ret
              exact ⟨rfl, HBE.out⟩
        · as_aux_lemma =>
            obtain rfl : 0 = on := HOUr.out.len
            obtain rfl : n1 = ⟨#[]⟩ := hn
            subst hr hb2
            by_cases ht1 : t1 = 0
            · have e7 := eT ht1
              clear ht1
              go_wp2_with fail
              refine (first19 _).mono ?_; rintro e w61 ⟨rfl, hb⟩
              clear o0 o1 o2 o3 m0 m1 m2 m3 m4 m5 m6 m7 m8 m9 m10 m11
              replace C1r := Lib.hid (C1r.out.below hb)
              replace C2r := Lib.hid (C2r.out.below hb)
              replace COr := Lib.hid (COr.out.below hb)
              replace HOUr := Lib.hid (HOUr.out.below hb)
              replace HRLr := Lib.hid (HRLr.out.below hb)
              replace HBE := Lib.hid (HBE.out.trans (hb.mono HBE.out.size))
              clear hb
              obtain ⟨o0, o1, o2, o3, _⟩ := COr.out.o4
              obtain ⟨m0, m1, m2, m3, m4, m5, m6, m7, m8, m9, m10, m11, _⟩ := C2r.out.u12
              go_wp2
              go_ret
              exact ⟨rfl, HBE.out⟩
            · have e7 := eF ht1
              clear ht1
              go_wp2_with fail
              refine (first19 _).mono ?_; rintro e w61 ⟨rfl, hb⟩
              clear o0 o1 o2 o3 m0 m1 m2 m3 m4 m5 m6 m7 m8 m9 m10 m11
              replace C1r := Lib.hid (C1r.out.below hb)
              replace C2r := Lib.hid (C2r.out.below hb)
              replace COr := Lib.hid (COr.out.below hb)
              replace HOUr := Lib.hid (HOUr.out.below hb)
              replace HRLr := Lib.hid (HRLr.out.below hb)
              replace HBE := Lib.hid (HBE.out.trans (hb.mono HBE.out.size))
              clear hb
              obtain ⟨o0, o1, o2, o3, _⟩ := COr.out.o4
              obtain ⟨m0, m1, m2, m3, m4, m5, m6, m7, m8, m9, m10, m11, _⟩ := C2r.out.u12
              go_wp2
              go_ret
              exact ⟨rfl, HBE.out⟩
        · as_aux_lemma =>
            obtain rfl : 0 = on := HOUr.out.len
            obtain rfl : n1 = ⟨#[]⟩ := hn
            subst hb3
            go_wp2_with fail
            refine (first19 _).mono ?_; rintro e w61 ⟨rfl, hb⟩
            clear o0 o1 o2 o3 m0 m1 m2 m3 m4 m5 m6 m7 m8 m9 m10 m11
            replace C1r := Lib.hid (C1r.out.below hb)
            replace C2r := Lib.hid (C2r.out.below hb)
            replace COr := Lib.hid (COr.out.below hb)
            replace HOUr := Lib.hid (HOUr.out.below hb)
            replace HRLr := Lib.hid (HRLr.out.below hb)
            replace HBE := Lib.hid (HBE.out.trans (hb.mono HBE.out.size))
            clear hb
            obtain ⟨o0, o1, o2, o3, _⟩ := COr.out.o4
            obtain ⟨m0, m1, m2, m3, m4, m5, m6, m7, m8, m9, m10, m11, _⟩ := C2r.out.u12
            go_wp2
            go_ret
            exact ⟨rfl, HBE.out⟩
        · as_aux_lemma =>
            obtain rfl : 0 = on := HOUr.out.len
            obtain rfl : n1 = ⟨#[]⟩ := hn
            subst hb3
            go_wp2_with fail
            refine (first19 _).mono ?_; rintro e w61 ⟨rfl, hb⟩
            clear o0 o1 o2 o3 m0 m1 m2 m3 m4 m5 m6 m7 m8 m9 m10 m11
            replace C1r := Lib.hid (C1r.out.below hb)
            replace C2r := Lib.hid (C2r.out.below hb)
            replace COr := Lib.hid (COr.out.below hb)
            replace HOUr := Lib.hid (HOUr.out.below hb)
            replace HRLr := Lib.hid (HRLr.out.below hb)
            replace HBE := Lib.hid (HBE.out.trans (hb.mono HBE.out.size))
            clear hb
            obtain ⟨o0, o1, o2, o3, _⟩ := COr.out.o4
            obtain ⟨m0, m1, m2, m3, m4, m5, m6, m7, m8, m9, m10, m11, _⟩ := C2r.out.u12
            go_wp2
            go_ret
            exact ⟨rfl, HBE.out⟩
end Go.Proofs.Ythfnphcefkdgbaa
