/- ScrubTtls: the walk. -/
import Derived.Test.YtfopfplpfhncfaaScF
namespace Go.Proofs.Ytfopfplpfhncfaa
open Go.RowKit

def rooC : ByteArray := ⟨#[0]⟩
theorem ttl_eno {z : ByteArray} {l : List Int} (h : mayN z = false) : putSoaE z z l = 10 := by rw [putSoaE, h]; rfl
theorem ttl_eyes {z : ByteArray} {least : Int} (h : mayN z = true) (hl : 0 ≤ least ∧ least < 4294967296) : putSoaE z z [0, 0, 0, 0, least] = 0 ∧ soaOk (putSoaS z z [0, 0, 0, 0, least]) = true ∧ soaMin (putSoaS z z [0, 0, 0, 0, least]) = least := by
  have h3 : joinOk 4 [0, 0, 0, 0, least] = true := by
    simp only [joinOk, fits, List.all_cons, List.all_nil, Bool.and_true, Bool.and_eq_true, decide_eq_true_eq]
    refine ⟨by decide, by decide, by decide, by decide, by decide, ?_⟩
    simp only [hl.1, true_and]
    first | exact hl.2 | (simp; omega)
  have e1 : putSoaS z z [0, 0, 0, 0, least] = z ++ z ++ bs (joinL 4 [0, 0, 0, 0, least]) := by rw [putSoaS, h]; exact (if_pos rfl).trans (if_pos h3)
  obtain ⟨k1, k2⟩ := soa_put z z 0 0 0 0 least h h h3
  rw [e1]
  refine ⟨?_, k1, soaMin_of k2⟩
  rw [putSoaE, h]
  exact (if_pos rfl).trans (if_pos h3)
theorem ttl_may {z D : ByteArray} {ttl : Int} (hz : mayN z = true) (hd : soaOk D = true) (h1 : 0 ≤ ttl) (h2 : ttl ≤ 2147483647) : mayR5 ⟨⟨z, 6, 1⟩, ttl, D⟩ = true := by
  show mayR z 6 1 ttl D = true
  rw [mayR, mayD_6, hd, hz, dT (⟨h1, h2⟩ : 0 ≤ ttl ∧ ttl ≤ 2147483647)]; decide
theorem und_rootC {a : ByteArray} (h : mayN a = true) : undS a rooC = true := by
  rw [undS, h, show mayN rooC = true from by kernel_rfl, show labs rooC = [] from labs_eq (L := []) (by unfold OkL; decide +kernel) (by decide +kernel) (by decide +kernel), undL_nil]; rfl
theorem ttl_wi {z D : ByteArray} {ttl : Int} (hz : mayN z = true) (hd : soaOk D = true) (h1 : 0 ≤ ttl) (h2 : ttl ≤ 2147483647) : wiF rooC [⟨⟨z, 6, 1⟩, ttl, D⟩] = [⟨⟨z, 6, 1⟩, ttl, [D]⟩] :=
  wi_one (by rw [inC, ttl_may hz hd h1 h2, show undS (⟨⟨z, 6, 1⟩, ttl, D⟩ : R5).k.n rooC = true from und_rootC hz]; rfl)
theorem ttl_no {q : ByteArray} {rc kd : Int} (aa : Bool) {N : List SetP} (hr : (rc = 0 ∧ kd = 5) ∨ (rc = 3 ∧ kd = 4)) (hN : ∀ s ∈ N, ¬ s.k.t = 2) (X : List SetP) : sortS rooC q 1 1 rc aa false [] N X = noO kd q aa N := by
  have h : ansO [] q 1 1 (rankF aa) = none := by rw [ansO, findK_nil]; show aliO _ _ _ _ = none; rw [aliO, findK_nil]
  rcases hr with ⟨h0, rfl⟩ | ⟨h3, rfl⟩
  · refine sort_nd h0 h ?_
    have hb : belF rooC q 1 N = sZ := by
      have : ∀ l : List SetP, (∀ s ∈ l, ¬ s.k.t = 2) → l.foldl (belS rooC q 1) sZ = sZ := by
        intro l
        induction l with
        | nil => exact fun _ => rfl
        | cons x l ih =>
          intro hl
          rw [List.foldl_cons, belS_no (lead_t (hl x List.mem_cons_self))]
          exact ih (fun s hs => hl s (List.mem_cons_of_mem _ hs))
      exact this N hN
    rw [refO, hb]; exact if_pos rfl
  · exact sort_nx h3 h
theorem ttl_noTtl {q z D : ByteArray} {ttl least : Int} (hm : soaMin D = least) : noTtl q [⟨⟨z, 6, 1⟩, ttl, [D]⟩] = if undS q z = true then min ttl least else 0 := by
  rw [noTtl, List.find?_cons, soaB]
  cases h : undS q z
  · rfl
  · show min ttl (soaMin D) = _
    rw [hm]; rfl
section
variable {z q D : ByteArray} {ttl least rc kd : Int}
theorem ttl_one_t (hr : (rc = 0 ∧ kd = 5) ∨ (rc = 3 ∧ kd = 4)) (hz : mayN z = true) (_ : mayN q = true) (hd : soaOk D = true) (hm : soaMin D = least) (h1 : 0 ≤ ttl) (h2 : ttl ≤ 2147483647) : sortF rooC q 1 1 ⟨0, 0, rc, true, true, false, false, false, [], [], [⟨⟨z, 6, 1⟩, ttl, D⟩], []⟩ = ⟨kd, if undS q z = true then min ttl least else 0, [], emB⟩ := by
  show sortS rooC q 1 1 rc true false (wiF rooC []) (wiF rooC [⟨⟨z, 6, 1⟩, ttl, D⟩]) (wiF rooC []) = _
  rw [wi_nil, ttl_wi hz hd h1 h2, ttl_no true hr (fun s hs => by obtain rfl := List.mem_singleton.1 hs; show ¬ (6 : Int) = 2; decide), noO, if_pos rfl, ttl_noTtl hm]
theorem ttl_one_f (hr : (rc = 0 ∧ kd = 5) ∨ (rc = 3 ∧ kd = 4)) (hz : mayN z = true) (_ : mayN q = true) (hd : soaOk D = true) (_ : soaMin D = least) (h1 : 0 ≤ ttl) (h2 : ttl ≤ 2147483647) : sortF rooC q 1 1 ⟨0, 0, rc, true, false, false, false, false, [], [], [⟨⟨z, 6, 1⟩, ttl, D⟩], []⟩ = ⟨0, 0, [], emB⟩ := by
  show sortS rooC q 1 1 rc false false (wiF rooC []) (wiF rooC [⟨⟨z, 6, 1⟩, ttl, D⟩]) (wiF rooC []) = _
  rw [wi_nil, ttl_wi hz hd h1 h2, ttl_no false hr (fun s hs => by obtain rfl := List.mem_singleton.1 hs; show ¬ (6 : Int) = 2; decide), noO, if_neg (by simp)]; rfl
theorem ttl_none_t (hr : (rc = 0 ∧ kd = 5) ∨ (rc = 3 ∧ kd = 4)) : sortF rooC q 1 1 ⟨0, 0, rc, true, true, false, false, false, [], [], [], []⟩ = ⟨kd, 0, [], emB⟩ := by
  show sortS rooC q 1 1 rc true false (wiF rooC []) (wiF rooC []) (wiF rooC []) = _
  rw [wi_nil, ttl_no true hr (fun s hs => by cases hs), noO, if_pos rfl]; rfl
theorem ttl_none_f (hr : (rc = 0 ∧ kd = 5) ∨ (rc = 3 ∧ kd = 4)) : sortF rooC q 1 1 ⟨0, 0, rc, true, false, false, false, false, [], [], [], []⟩ = ⟨0, 0, [], emB⟩ := by
  show sortS rooC q 1 1 rc false false (wiF rooC []) (wiF rooC []) (wiF rooC []) = _
  rw [wi_nil, ttl_no false hr (fun s hs => by cases hs), noO, if_neg (by simp)]; rfl
theorem ttl_small {i oo r : Int} {c1 c2 c3 c4 c5 : Bool} {l : List R5} (hz : z.size ≤ 250) (hd : soaOk D = true) (hl : l = [⟨⟨z, 6, 1⟩, ttl, D⟩] ∨ l = []) : ScM ⟨i, oo, r, c1, c2, c3, c4, c5, [], [], l, []⟩ := by
  have hs := soaOk_size hd
  refine ⟨⟨Nat.zero_le _, (fun r hr => by cases hr), fun r hr => by cases hr⟩, ?_, ⟨Nat.zero_le _, (fun r hr => by cases hr), fun r hr => by cases hr⟩⟩
  rcases hl with rfl | rfl
  · refine ⟨by simp, (fun r hr => ?_), fun r hr => ?_⟩
    · obtain rfl := List.mem_singleton.1 hr; show z.size ≤ 1000000; omega
    · obtain rfl := List.mem_singleton.1 hr; show D.size ≤ 1000000; omega
  · exact ⟨Nat.zero_le _, (fun r hr => by cases hr), fun r hr => by cases hr⟩
end
theorem out_zero {w : World} {B : Nat} {v : Value} {k t : Int} (h : OutUp w B v ⟨k, t, [], emB⟩) : ∃ a c, v = .agg #[.int .i64 k, .int .i64 t, .slice a 0 c, .string ⟨#[]⟩] := by
  obtain ⟨a, m, c, rfl, hr, hn⟩ := h
  obtain ⟨Lp, h1, h2, h3, -⟩ := hr
  have hl : m = 0 := by rw [← h2, ← List.length_map (f := fstT), h1]; rfl
  subst hl
  exact ⟨a, c, rfl⟩
theorem row_litR (w : World) (n : ByteArray) (t c u : Int) (d : ByteArray) : RowR (w.alloc (.cells #[.string n, .int .i64 t, .int .i64 c, .int .i64 u, .string d] 91)) (some ⟨w.heap.size, 0, none⟩) 1 [⟨⟨n, t, c⟩, u, d⟩] := ⟨rfl, cells_lit w #[.string n, .int .i64 t, .int .i64 c, .int .i64 u, .string d] _⟩
theorem rowR_set {w w' : World} {b q n : Nat} {l : List R5} (h : RowR w (some ⟨b, 0, none⟩) n l) (hg : w.grownBy w' (some q)) (hne : b < q) : RowR w' (some ⟨b, 0, none⟩) n l := by
  obtain ⟨h1, h2, h3⟩ := h
  refine ⟨h1, h2, ?_⟩
  rcases h3 with h3 | ⟨b', off, he, hb, hc⟩
  · exact Or.inl h3
  · injection he with he
    injection he with he1 he2
    subst he1 he2
    exact Or.inr ⟨b, 0, rfl, Nat.lt_of_lt_of_le hb hg.size, fun j u hj => hg.cell (hc j u hj) (fun e => by have h9 : b = q := Option.some.inj e; omega)⟩
theorem CN.u12f {w : World} {q : Nat} {c0 c1 c2 c3 c4 c5 c6 c7 c8 c9 c10 c11 : Value} (h : CN w q [c0, c1, c2, c3, c4, c5, c6, c7, c8, c9, c10, c11]) : w.cell? ⟨q, 0, none⟩ = some c0 ∧ w.cell? ⟨q, 1, none⟩ = some c1 ∧ w.cell? ⟨q, 2, none⟩ = some c2 ∧ w.cell? ⟨q, 3, none⟩ = some c3 ∧ w.cell? ⟨q, 4, none⟩ = some c4 ∧ w.cell? ⟨q, 5, none⟩ = some c5 ∧ w.cell? ⟨q, 6, none⟩ = some c6 ∧ w.cell? ⟨q, 7, none⟩ = some c7 ∧ w.cell? ⟨q, 8, none⟩ = some c8 ∧ w.cell? ⟨q, 9, none⟩ = some c9 ∧ w.cell? ⟨q, 10, none⟩ = some c10 ∧ w.cell? ⟨q, 11, none⟩ = some c11 ∧ w.frozen? ⟨q, 0, none⟩ = false ∧ w.frozen? ⟨q, 1, none⟩ = false ∧ w.frozen? ⟨q, 2, none⟩ = false ∧ w.frozen? ⟨q, 3, none⟩ = false ∧ w.frozen? ⟨q, 4, none⟩ = false ∧ w.frozen? ⟨q, 5, none⟩ = false ∧ w.frozen? ⟨q, 6, none⟩ = false ∧ w.frozen? ⟨q, 7, none⟩ = false ∧ w.frozen? ⟨q, 8, none⟩ = false ∧ w.frozen? ⟨q, 9, none⟩ = false ∧ w.frozen? ⟨q, 10, none⟩ = false ∧ w.frozen? ⟨q, 11, none⟩ = false :=
  ⟨(h.2 0 _ rfl).1, (h.2 1 _ rfl).1, (h.2 2 _ rfl).1, (h.2 3 _ rfl).1, (h.2 4 _ rfl).1, (h.2 5 _ rfl).1, (h.2 6 _ rfl).1, (h.2 7 _ rfl).1, (h.2 8 _ rfl).1, (h.2 9 _ rfl).1, (h.2 10 _ rfl).1, (h.2 11 _ rfl).1, (h.2 0 _ rfl).2, (h.2 1 _ rfl).2, (h.2 2 _ rfl).2, (h.2 3 _ rfl).2, (h.2 4 _ rfl).2, (h.2 5 _ rfl).2, (h.2 6 _ rfl).2, (h.2 7 _ rfl).2, (h.2 8 _ rfl).2, (h.2 9 _ rfl).2, (h.2 10 _ rfl).2, (h.2 11 _ rfl).2⟩
/-- Two blocks whose first cells differ in kind (a number of ints, of a slice) are two. -/
theorem cn_ne3 {w : World} {q p : Nat} {c0 c1 c3 c4 c5 c6 c7 c8 c9 c10 c11 e0 e1 : Value} {i : Int} {a : Option Addr} {n c : Nat} {e3 : Value} (h : CN w q [c0, c1, .int .i64 i, c3, c4, c5, c6, c7, c8, c9, c10, c11]) (h2 : CN w p [e0, e1, .slice a n c, e3]) : p ≠ q := by
  rintro rfl
  have h3 := (h.2 2 _ rfl).1
  rw [(h2.2 2 _ rfl).1] at h3
  cases h3
set_option maxRecDepth 100000 in
set_option maxHeartbeats 8000000 in
theorem walkTtls (z q : ByteArray) (ttl least : Int) (aa gone : Bool) (w : World) : Calls Try.prog 8 #[.string z, .string q, .int .i64 ttl, .int .i64 least, .bool aa, .bool gone] w fun e w' => e = .returned (.bool true) ∧ Below w.heap.size w w' := by
  go_enter Try.func8, Try.ntmps8
  go_wp2_with fail
  refine (first19 _).mono ?_; rintro e w1 ⟨rfl, hb⟩
  have HB := Lib.hid hb
  clear hb
  by_cases h1 : 250 < z.size
  · have d1 : decide (250 < z.size) = true := dT (by omega)
    have d2 : decide ((250 : Int) < (z.size : Int)) = true := dT (by omega)
    clear h1
    go_wp2_with fail
    refine (first19 _).mono ?_; rintro e w9 ⟨rfl, hb⟩
    have HB9 := Lib.hid (HB.out.trans (hb.mono HB.out.size))
    clear hb
    go_wp2
    go_ret
    exact ⟨rfl, HB9.out⟩
  have d1 : decide (250 < z.size) = false := dF (by omega)
  have d2 : decide ((250 : Int) < (z.size : Int)) = false := dF (by omega)
  have N1 := Lib.hid h1
  clear h1
  by_cases h1 : 250 < q.size
  · have d3 : decide (250 < q.size) = true := dT (by omega)
    have d4 : decide ((250 : Int) < (q.size : Int)) = true := dT (by omega)
    clear h1
    go_wp2_with fail
    refine (first19 _).mono ?_; rintro e w9 ⟨rfl, hb⟩
    have HB9 := Lib.hid (HB.out.trans (hb.mono HB.out.size))
    clear hb
    go_wp2
    go_ret
    exact ⟨rfl, HB9.out⟩
  have d3 : decide (250 < q.size) = false := dF (by omega)
  have d4 : decide ((250 : Int) < (q.size : Int)) = false := dF (by omega)
  have N2 := Lib.hid h1
  clear h1
  by_cases h1 : ttl < 0
  · have d5 : decide (ttl < 0) = true := dT (by omega)
    clear h1
    go_wp2_with fail
    refine (first19 _).mono ?_; rintro e w9 ⟨rfl, hb⟩
    have HB9 := Lib.hid (HB.out.trans (hb.mono HB.out.size))
    clear hb
    go_wp2
    go_ret
    exact ⟨rfl, HB9.out⟩
  have d5 : decide (ttl < 0) = false := dF (by omega)
  have N3 := Lib.hid h1
  clear h1
  by_cases h1 : 2147483648 ≤ ttl
  · have d6 : decide (2147483648 ≤ ttl) = true := dT (by omega)
    clear h1
    go_wp2_with fail
    refine (first19 _).mono ?_; rintro e w9 ⟨rfl, hb⟩
    have HB9 := Lib.hid (HB.out.trans (hb.mono HB.out.size))
    clear hb
    go_wp2
    go_ret
    exact ⟨rfl, HB9.out⟩
  have d6 : decide (2147483648 ≤ ttl) = false := dF (by omega)
  have N4 := Lib.hid h1
  clear h1
  by_cases h1 : least < 0
  · have d7 : decide (least < 0) = true := dT (by omega)
    clear h1
    go_wp2_with fail
    refine (first19 _).mono ?_; rintro e w9 ⟨rfl, hb⟩
    have HB9 := Lib.hid (HB.out.trans (hb.mono HB.out.size))
    clear hb
    go_wp2
    go_ret
    exact ⟨rfl, HB9.out⟩
  have d7 : decide (least < 0) = false := dF (by omega)
  have N5 := Lib.hid h1
  clear h1
  by_cases h1 : 4294967296 ≤ least
  · have d8 : decide (4294967296 ≤ least) = true := dT (by omega)
    clear h1
    go_wp2_with fail
    refine (first19 _).mono ?_; rintro e w9 ⟨rfl, hb⟩
    have HB9 := Lib.hid (HB.out.trans (hb.mono HB.out.size))
    clear hb
    go_wp2
    go_ret
    exact ⟨rfl, HB9.out⟩
  have d8 : decide (4294967296 ≤ least) = false := dF (by omega)
  have N6 := Lib.hid h1
  clear h1
  have HZS := Lib.hid (show z.size ≤ 1000000 by have := N1.out; omega)
  have HQS := Lib.hid (show q.size ≤ 1000000 by have := N2.out; omega)
  go_wp2_with fail
  refine (rputSoa_any z z 0 0 0 0 least _ HZS.out HZS.out).mono ?_; rintro e w2 ⟨rfl, hb⟩
  replace HB := Lib.hid (HB.out.trans (hb.mono HB.out.size))
  clear hb
  clear d1 d2 d3 d4 d5 d6 d7 d8
  obtain ⟨D, hD⟩ : ∃ x, putSoaS z z [0, 0, 0, 0, least] = x := ⟨_, rfl⟩
  obtain ⟨E, hE⟩ : ∃ x, putSoaE z z [0, 0, 0, 0, least] = x := ⟨_, rfl⟩
  rw [hD, hE]
  cases hmz : mayN z
  · have hne : E ≠ 0 := by rw [← hE, ttl_eno hmz]; decide
    have f1 := nT hne
    clear hE hD hmz hne
    go_wp2_with fail
    refine (first19 _).mono ?_; rintro e w9 ⟨rfl, hb⟩
    have HB9 := Lib.hid (HB.out.trans (hb.mono HB.out.size))
    clear hb
    go_wp2
    go_ret
    exact ⟨rfl, HB9.out⟩
  · obtain ⟨hE0, hDok, hmin⟩ := ttl_eyes (least := least) hmz (by have h1 := N5.out; have h2 := N6.out; omega)
    rw [hD] at hDok hmin
    have f1 := nF (hE.symm.trans hE0)
    have HDK := Lib.hid hDok
    have HMN := Lib.hid hmin
    have HMZ := Lib.hid hmz
    clear hE hD hE0 hDok hmin hmz
    go_wp2_with fail
    refine (rmay_any q _ HQS.out).mono ?_; rintro e w3 ⟨rfl, rfl⟩
    clear f1
    cases hmq : mayN q
    · clear hmq
      go_wp2_with fail
      refine (first19 _).mono ?_; rintro e w9 ⟨rfl, hb⟩
      have HB9 := Lib.hid (HB.out.trans (hb.mono HB.out.size))
      clear hb
      go_wp2
      go_ret
      exact ⟨rfl, HB9.out⟩
    · have HMQ := Lib.hid hmq
      clear hmq
      go_upto_region 8 with (fail)
      cases aa
      · cases gone
        · have HLR := Lib.hid (row_litR w2 z 6 1 ttl D)
          have hba := (Below.refl _ _ : Below w2.heap.size w2 w2).alloc (Nat.le_refl _) (.cells #[.string z, .int .i64 6, .int .i64 1, .int .i64 ttl, .string D] 91)
          replace HB := Lib.hid (HB.out.trans (hba.mono HB.out.size))
          clear hba
          obtain ⟨wl, hwl⟩ : ∃ x, w2.alloc (.cells #[.string z, .int .i64 6, .int .i64 1, .int .i64 ttl, .string D] 91) = x := ⟨_, rfl⟩
          obtain ⟨ql, hql⟩ : ∃ x, w2.heap.size = x := ⟨_, rfl⟩
          have HSL := Lib.hid (show ql + 1 = wl.heap.size by rw [← hql, ← hwl, World.size_alloc])
          rw [hwl, hql] at HLR
          rw [hwl] at HB
          have hba := (Below.refl _ _ : Below wl.heap.size wl wl).alloc (Nat.le_refl _) (.cells #[.int .i64 0, .int .i64 0, .int .i64 0, .bool true, .bool false, .bool false, .bool false, .bool false, .slice none 0 0, .slice none 0 0, .slice (some ⟨ql, 0, none⟩) 1 1, .slice none 0 0] 81)
          have C3 := Lib.hid (CN.new wl #[.int .i64 0, .int .i64 0, .int .i64 0, .bool true, .bool false, .bool false, .bool false, .bool false, .slice none 0 0, .slice none 0 0, .slice (some ⟨ql, 0, none⟩) 1 1, .slice none 0 0] 81)
          have HWQ := Lib.hid (show w.heap.size ≤ wl.heap.size from HB.out.size)
          replace HB := Lib.hid (HB.out.trans (hba.mono HB.out.size))
          replace HLR := Lib.hid (HLR.out.below hba)
          clear hba
          obtain ⟨wM, hw5⟩ : ∃ x, wl.alloc (.cells #[.int .i64 0, .int .i64 0, .int .i64 0, .bool true, .bool false, .bool false, .bool false, .bool false, .slice none 0 0, .slice none 0 0, .slice (some ⟨ql, 0, none⟩) 1 1, .slice none 0 0] 81) = x := ⟨_, rfl⟩
          obtain ⟨qM, hq5⟩ : ∃ x, wl.heap.size = x := ⟨_, rfl⟩
          rw [hq5] at HSL HWQ
          rw [hw5, hq5] at C3
          rw [hw5] at HB HLR
          have HW1 := Lib.hid hwl
          have HW2 := Lib.hid hql
          have HW3 := Lib.hid hw5
          have HLQ := Lib.hid (show ql < qM by have := HSL.out; omega)
          clear hwl hql hw5 hq5
          go_upto_region 9 with (fail)
          rw [HW1.out, show (Value.slice (some { block := w2.heap.size, off := 0 }) 1 1) = Value.slice (some { block := ql, off := 0 }) 1 1 by rw [HW2.out], HW3.out]
          rw [show (Value.pointer (some { block := w2.heap.size + 1, off := 0 })) = Value.pointer (some { block := qM, off := 0 }) by rw [HW2.out, HSL.out]]
          clear HW1 HW2 HW3 HSL
          skip
          obtain ⟨m0, m1, m2, m3, m4, m5, m6, m7, m8, m9, m10, m11, _⟩ := C3.out.u12
          have HMA := Lib.hid (show MsgAt wM (.agg #[.int .i64 0, .int .i64 0, .int .i64 0, .bool true, .bool false, .bool false, .bool false, .bool false, .slice none 0 0, .slice none 0 0, .slice (some ⟨ql, 0, none⟩) 1 1, .slice none 0 0]) ⟨0, 0, 0, true, false, false, false, false, [], [], [⟨⟨z, 6, 1⟩, ttl, D⟩], []⟩ from ⟨none, 0, none, 0, some ⟨ql, 0, none⟩, 1, none, 0, rfl, ⟨⟨rfl, rfl, Or.inl rfl⟩, fun _ => ⟨rfl, rfl⟩⟩, ⟨⟨rfl, rfl, Or.inl rfl⟩, fun _ => ⟨rfl, rfl⟩⟩, ⟨HLR.out, fun h => by cases h⟩, ⟨⟨rfl, rfl, Or.inl rfl⟩, fun _ => ⟨rfl, rfl⟩⟩⟩)
          go_wp2_with fail
          refine (sort_any rooC q 1 1 ⟨0, 0, 0, true, false, false, false, false, [], [], [⟨⟨z, 6, 1⟩, ttl, D⟩], []⟩ _ wM HMA.out (ttl_small (z := z) (ttl := ttl) (D := D) (by have := N1.out; omega) HDK.out (by first | exact Or.inl rfl | exact Or.inr rfl)) (by decide) HQS.out).mono ?_; rintro e w3 ⟨⟨v, rfl, hou⟩, hb⟩
          clear m0 m1 m2 m3 m4 m5 m6 m7 m8 m9 m10 m11
          replace HB := Lib.hid (HB.out.trans (hb.mono HB.out.size))
          replace HLR := Lib.hid (HLR.out.below hb)
          replace C3 := Lib.hid (C3.out.below hb)
          clear hb
          clear HMA
          rw [ttl_one_f (rc := 0) (kd := 5) (Or.inl ⟨rfl, rfl⟩) HMZ.out HMQ.out HDK.out HMN.out (by have := N3.out; omega) (by have := N4.out; omega)] at hou
          obtain ⟨ax1, cx1, rfl⟩ := out_zero hou
          clear hou
          dsimp only
          have hba := (Below.refl _ _ : Below w3.heap.size w3 w3).alloc (Nat.le_refl _) (.cells #[.int .i64 0, .int .i64 0, .slice ax1 0 cx1, .string ⟨#[]⟩] 85)
          have CO := Lib.hid (CN.new w3 #[.int .i64 0, .int .i64 0, .slice ax1 0 cx1, .string ⟨#[]⟩] 85)
          replace HB := Lib.hid (HB.out.trans (hba.mono HB.out.size))
          replace HLR := Lib.hid (HLR.out.below hba)
          replace C3 := Lib.hid (C3.out.below hba)
          obtain ⟨w4, hw⟩ : ∃ x, w3.alloc (.cells #[.int .i64 0, .int .i64 0, .slice ax1 0 cx1, .string ⟨#[]⟩] 85) = x := ⟨_, rfl⟩
          obtain ⟨q4, hq⟩ : ∃ x, w3.heap.size = x := ⟨_, rfl⟩
          rw [hw, hq] at CO
          rw [hw] at HB HLR C3
          have HW := Lib.hid hw
          have HQ_ := Lib.hid hq
          clear hba hw hq
          go_upto_region 13 with (fail)
          rw [HW.out, HQ_.out]
          clear HW HQ_
          skip
          have HNO := Lib.hid (cn_ne3 C3.out CO.out)
          obtain ⟨m0, m1, m2, m3, m4, m5, m6, m7, m8, m9, m10, m11, f0, f1, f2, f3, f4, f5, f6, f7, f8, f9, f10, f11⟩ := C3.out.u12f
          have hgz := grown_cell w4 qM 10 (.slice none 0 0)
          have KZ := Lib.hid (show CN (w4.setCell ⟨qM, 10, none⟩ (.slice none 0 0)) qM [.int .i64 0, .int .i64 0, .int .i64 0, .bool true, .bool false, .bool false, .bool false, .bool false, .slice none 0 0, .slice none 0 0, .slice none 0 0, .slice none 0 0] from C3.out.set 10 (by simp) (.slice none 0 0))
          have HBZ := Lib.hid (HB.out.grown hgz HB.out.size (fun k hk => by injection hk with hk; rw [← hk]; exact HWQ.out))
          have HLZ := Lib.hid (rowR_set HLR.out hgz HLQ.out)
          have HOZ := Lib.hid (CO.out.grown hgz (fun e => HNO.out (Option.some.inj e)))
          clear hgz
          go_upto_region 14 with (fail)
          clear m0 m1 m2 m3 m4 m5 m6 m7 m8 m9 m10 m11 f0 f1 f2 f3 f4 f5 f6 f7 f8 f9 f10 f11
          obtain ⟨w45, hw⟩ : ∃ x, w4.setCell ⟨qM, 10, none⟩ (.slice none 0 0) = x := ⟨_, rfl⟩
          rw [hw] at KZ HBZ HLZ HOZ ⊢
          clear hw
          replace C3 := KZ
          replace HB := HBZ
          replace HLR := HLZ
          clear KZ HBZ HLZ
          replace CO := HOZ
          clear HOZ
          obtain ⟨m0, m1, m2, m3, m4, m5, m6, m7, m8, m9, m10, m11, _⟩ := C3.out.u12
          have HMA := Lib.hid (show MsgAt w45 (.agg #[.int .i64 0, .int .i64 0, .int .i64 0, .bool true, .bool false, .bool false, .bool false, .bool false, .slice none 0 0, .slice none 0 0, .slice none 0 0, .slice none 0 0]) ⟨0, 0, 0, true, false, false, false, false, [], [], [], []⟩ from ⟨none, 0, none, 0, none, 0, none, 0, rfl, ⟨⟨rfl, rfl, Or.inl rfl⟩, fun _ => ⟨rfl, rfl⟩⟩, ⟨⟨rfl, rfl, Or.inl rfl⟩, fun _ => ⟨rfl, rfl⟩⟩, ⟨⟨rfl, rfl, Or.inl rfl⟩, fun _ => ⟨rfl, rfl⟩⟩, ⟨⟨rfl, rfl, Or.inl rfl⟩, fun _ => ⟨rfl, rfl⟩⟩⟩)
          go_wp2_with fail
          refine (sort_any rooC q 1 1 ⟨0, 0, 0, true, false, false, false, false, [], [], [], []⟩ _ w45 HMA.out (ttl_small (z := z) (ttl := ttl) (D := D) (by have := N1.out; omega) HDK.out (by first | exact Or.inl rfl | exact Or.inr rfl)) (by decide) HQS.out).mono ?_; rintro e w6 ⟨⟨v, rfl, hou⟩, hb⟩
          clear m0 m1 m2 m3 m4 m5 m6 m7 m8 m9 m10 m11
          replace HB := Lib.hid (HB.out.trans (hb.mono HB.out.size))
          replace HLR := Lib.hid (HLR.out.below hb)
          replace C3 := Lib.hid (C3.out.below hb)
          replace CO := Lib.hid (CO.out.below hb)
          clear hb
          clear HMA
          rw [ttl_none_f (rc := 0) (kd := 5) (Or.inl ⟨rfl, rfl⟩)] at hou
          obtain ⟨ax2, cx2, rfl⟩ := out_zero hou
          clear hou
          dsimp only
          have hba := (Below.refl _ _ : Below w6.heap.size w6 w6).alloc (Nat.le_refl _) (.cells #[.int .i64 0, .int .i64 0, .slice ax2 0 cx2, .string ⟨#[]⟩] 85)
          have CP := Lib.hid (CN.new w6 #[.int .i64 0, .int .i64 0, .slice ax2 0 cx2, .string ⟨#[]⟩] 85)
          replace HB := Lib.hid (HB.out.trans (hba.mono HB.out.size))
          replace HLR := Lib.hid (HLR.out.below hba)
          replace C3 := Lib.hid (C3.out.below hba)
          replace CO := Lib.hid (CO.out.below hba)
          obtain ⟨w7, hw⟩ : ∃ x, w6.alloc (.cells #[.int .i64 0, .int .i64 0, .slice ax2 0 cx2, .string ⟨#[]⟩] 85) = x := ⟨_, rfl⟩
          obtain ⟨q7, hq⟩ : ∃ x, w6.heap.size = x := ⟨_, rfl⟩
          rw [hw, hq] at CP
          rw [hw] at HB HLR C3 CO
          have HW := Lib.hid hw
          have HQ_ := Lib.hid hq
          clear hba hw hq
          go_upto_region 15 with (fail)
          rw [HW.out, HQ_.out]
          clear HW HQ_
          go_wp2_with fail
          refine (first19 _).mono ?_; rintro e w8 ⟨rfl, hb⟩
          replace HB := Lib.hid (HB.out.trans (hb.mono HB.out.size))
          replace HLR := Lib.hid (HLR.out.below hb)
          replace C3 := Lib.hid (C3.out.below hb)
          replace CO := Lib.hid (CO.out.below hb)
          replace CP := Lib.hid (CP.out.below hb)
          clear hb
          obtain ⟨y0, y1, y2, y3, _⟩ := CO.out.o4
          obtain ⟨z0, z1, z2, z3, _⟩ := CP.out.o4
          go_wp2
          go_ret
          exact ⟨rfl, HB.out⟩
        · have HLR := Lib.hid (row_litR w2 z 6 1 ttl D)
          have hba := (Below.refl _ _ : Below w2.heap.size w2 w2).alloc (Nat.le_refl _) (.cells #[.string z, .int .i64 6, .int .i64 1, .int .i64 ttl, .string D] 91)
          replace HB := Lib.hid (HB.out.trans (hba.mono HB.out.size))
          clear hba
          obtain ⟨wl, hwl⟩ : ∃ x, w2.alloc (.cells #[.string z, .int .i64 6, .int .i64 1, .int .i64 ttl, .string D] 91) = x := ⟨_, rfl⟩
          obtain ⟨ql, hql⟩ : ∃ x, w2.heap.size = x := ⟨_, rfl⟩
          have HSL := Lib.hid (show ql + 1 = wl.heap.size by rw [← hql, ← hwl, World.size_alloc])
          rw [hwl, hql] at HLR
          rw [hwl] at HB
          have hba := (Below.refl _ _ : Below wl.heap.size wl wl).alloc (Nat.le_refl _) (.cells #[.int .i64 0, .int .i64 0, .int .i64 0, .bool true, .bool false, .bool false, .bool false, .bool false, .slice none 0 0, .slice none 0 0, .slice (some ⟨ql, 0, none⟩) 1 1, .slice none 0 0] 81)
          have C3 := Lib.hid (CN.new wl #[.int .i64 0, .int .i64 0, .int .i64 0, .bool true, .bool false, .bool false, .bool false, .bool false, .slice none 0 0, .slice none 0 0, .slice (some ⟨ql, 0, none⟩) 1 1, .slice none 0 0] 81)
          have HWQ := Lib.hid (show w.heap.size ≤ wl.heap.size from HB.out.size)
          replace HB := Lib.hid (HB.out.trans (hba.mono HB.out.size))
          replace HLR := Lib.hid (HLR.out.below hba)
          clear hba
          obtain ⟨wM, hw5⟩ : ∃ x, wl.alloc (.cells #[.int .i64 0, .int .i64 0, .int .i64 0, .bool true, .bool false, .bool false, .bool false, .bool false, .slice none 0 0, .slice none 0 0, .slice (some ⟨ql, 0, none⟩) 1 1, .slice none 0 0] 81) = x := ⟨_, rfl⟩
          obtain ⟨qM, hq5⟩ : ∃ x, wl.heap.size = x := ⟨_, rfl⟩
          rw [hq5] at HSL HWQ
          rw [hw5, hq5] at C3
          rw [hw5] at HB HLR
          have HW1 := Lib.hid hwl
          have HW2 := Lib.hid hql
          have HW3 := Lib.hid hw5
          have HLQ := Lib.hid (show ql < qM by have := HSL.out; omega)
          clear hwl hql hw5 hq5
          go_upto_region 9 with (fail)
          rw [HW1.out, show (Value.slice (some { block := w2.heap.size, off := 0 }) 1 1) = Value.slice (some { block := ql, off := 0 }) 1 1 by rw [HW2.out], HW3.out]
          rw [show (Value.pointer (some { block := w2.heap.size + 1, off := 0 })) = Value.pointer (some { block := qM, off := 0 }) by rw [HW2.out, HSL.out]]
          clear HW1 HW2 HW3 HSL
          obtain ⟨m0, m1, m2, m3, m4, m5, m6, m7, m8, m9, m10, m11, f0, f1, f2, f3, f4, f5, f6, f7, f8, f9, f10, f11⟩ := C3.out.u12f
          have hgz := grown_cell wM qM 2 (.int .i64 3)
          have KZ := Lib.hid (show CN (wM.setCell ⟨qM, 2, none⟩ (.int .i64 3)) qM [.int .i64 0, .int .i64 0, .int .i64 3, .bool true, .bool false, .bool false, .bool false, .bool false, .slice none 0 0, .slice none 0 0, .slice (some ⟨ql, 0, none⟩) 1 1, .slice none 0 0] from C3.out.set 2 (by simp) (.int .i64 3))
          have HBZ := Lib.hid (HB.out.grown hgz HB.out.size (fun k hk => by injection hk with hk; rw [← hk]; exact HWQ.out))
          have HLZ := Lib.hid (rowR_set HLR.out hgz HLQ.out)
          clear hgz
          go_upto_region 12 with (fail)
          clear m0 m1 m2 m3 m4 m5 m6 m7 m8 m9 m10 m11 f0 f1 f2 f3 f4 f5 f6 f7 f8 f9 f10 f11
          obtain ⟨w43, hw⟩ : ∃ x, wM.setCell ⟨qM, 2, none⟩ (.int .i64 3) = x := ⟨_, rfl⟩
          rw [hw] at KZ HBZ HLZ ⊢
          clear hw
          replace C3 := KZ
          replace HB := HBZ
          replace HLR := HLZ
          clear KZ HBZ HLZ
          obtain ⟨m0, m1, m2, m3, m4, m5, m6, m7, m8, m9, m10, m11, _⟩ := C3.out.u12
          have HMA := Lib.hid (show MsgAt w43 (.agg #[.int .i64 0, .int .i64 0, .int .i64 3, .bool true, .bool false, .bool false, .bool false, .bool false, .slice none 0 0, .slice none 0 0, .slice (some ⟨ql, 0, none⟩) 1 1, .slice none 0 0]) ⟨0, 0, 3, true, false, false, false, false, [], [], [⟨⟨z, 6, 1⟩, ttl, D⟩], []⟩ from ⟨none, 0, none, 0, some ⟨ql, 0, none⟩, 1, none, 0, rfl, ⟨⟨rfl, rfl, Or.inl rfl⟩, fun _ => ⟨rfl, rfl⟩⟩, ⟨⟨rfl, rfl, Or.inl rfl⟩, fun _ => ⟨rfl, rfl⟩⟩, ⟨HLR.out, fun h => by cases h⟩, ⟨⟨rfl, rfl, Or.inl rfl⟩, fun _ => ⟨rfl, rfl⟩⟩⟩)
          go_wp2_with fail
          refine (sort_any rooC q 1 1 ⟨0, 0, 3, true, false, false, false, false, [], [], [⟨⟨z, 6, 1⟩, ttl, D⟩], []⟩ _ w43 HMA.out (ttl_small (z := z) (ttl := ttl) (D := D) (by have := N1.out; omega) HDK.out (by first | exact Or.inl rfl | exact Or.inr rfl)) (by decide) HQS.out).mono ?_; rintro e w4 ⟨⟨v, rfl, hou⟩, hb⟩
          clear m0 m1 m2 m3 m4 m5 m6 m7 m8 m9 m10 m11
          replace HB := Lib.hid (HB.out.trans (hb.mono HB.out.size))
          replace HLR := Lib.hid (HLR.out.below hb)
          replace C3 := Lib.hid (C3.out.below hb)
          clear hb
          clear HMA
          rw [ttl_one_f (rc := 3) (kd := 4) (Or.inr ⟨rfl, rfl⟩) HMZ.out HMQ.out HDK.out HMN.out (by have := N3.out; omega) (by have := N4.out; omega)] at hou
          obtain ⟨ax1, cx1, rfl⟩ := out_zero hou
          clear hou
          dsimp only
          have hba := (Below.refl _ _ : Below w4.heap.size w4 w4).alloc (Nat.le_refl _) (.cells #[.int .i64 0, .int .i64 0, .slice ax1 0 cx1, .string ⟨#[]⟩] 85)
          have CO := Lib.hid (CN.new w4 #[.int .i64 0, .int .i64 0, .slice ax1 0 cx1, .string ⟨#[]⟩] 85)
          replace HB := Lib.hid (HB.out.trans (hba.mono HB.out.size))
          replace HLR := Lib.hid (HLR.out.below hba)
          replace C3 := Lib.hid (C3.out.below hba)
          obtain ⟨w5, hw⟩ : ∃ x, w4.alloc (.cells #[.int .i64 0, .int .i64 0, .slice ax1 0 cx1, .string ⟨#[]⟩] 85) = x := ⟨_, rfl⟩
          obtain ⟨q5, hq⟩ : ∃ x, w4.heap.size = x := ⟨_, rfl⟩
          rw [hw, hq] at CO
          rw [hw] at HB HLR C3
          have HW := Lib.hid hw
          have HQ_ := Lib.hid hq
          clear hba hw hq
          go_upto_region 13 with (fail)
          rw [HW.out, HQ_.out]
          clear HW HQ_
          skip
          have HNO := Lib.hid (cn_ne3 C3.out CO.out)
          obtain ⟨m0, m1, m2, m3, m4, m5, m6, m7, m8, m9, m10, m11, f0, f1, f2, f3, f4, f5, f6, f7, f8, f9, f10, f11⟩ := C3.out.u12f
          have hgz := grown_cell w5 qM 10 (.slice none 0 0)
          have KZ := Lib.hid (show CN (w5.setCell ⟨qM, 10, none⟩ (.slice none 0 0)) qM [.int .i64 0, .int .i64 0, .int .i64 3, .bool true, .bool false, .bool false, .bool false, .bool false, .slice none 0 0, .slice none 0 0, .slice none 0 0, .slice none 0 0] from C3.out.set 10 (by simp) (.slice none 0 0))
          have HBZ := Lib.hid (HB.out.grown hgz HB.out.size (fun k hk => by injection hk with hk; rw [← hk]; exact HWQ.out))
          have HLZ := Lib.hid (rowR_set HLR.out hgz HLQ.out)
          have HOZ := Lib.hid (CO.out.grown hgz (fun e => HNO.out (Option.some.inj e)))
          clear hgz
          go_upto_region 14 with (fail)
          clear m0 m1 m2 m3 m4 m5 m6 m7 m8 m9 m10 m11 f0 f1 f2 f3 f4 f5 f6 f7 f8 f9 f10 f11
          obtain ⟨w46, hw⟩ : ∃ x, w5.setCell ⟨qM, 10, none⟩ (.slice none 0 0) = x := ⟨_, rfl⟩
          rw [hw] at KZ HBZ HLZ HOZ ⊢
          clear hw
          replace C3 := KZ
          replace HB := HBZ
          replace HLR := HLZ
          clear KZ HBZ HLZ
          replace CO := HOZ
          clear HOZ
          obtain ⟨m0, m1, m2, m3, m4, m5, m6, m7, m8, m9, m10, m11, _⟩ := C3.out.u12
          have HMA := Lib.hid (show MsgAt w46 (.agg #[.int .i64 0, .int .i64 0, .int .i64 3, .bool true, .bool false, .bool false, .bool false, .bool false, .slice none 0 0, .slice none 0 0, .slice none 0 0, .slice none 0 0]) ⟨0, 0, 3, true, false, false, false, false, [], [], [], []⟩ from ⟨none, 0, none, 0, none, 0, none, 0, rfl, ⟨⟨rfl, rfl, Or.inl rfl⟩, fun _ => ⟨rfl, rfl⟩⟩, ⟨⟨rfl, rfl, Or.inl rfl⟩, fun _ => ⟨rfl, rfl⟩⟩, ⟨⟨rfl, rfl, Or.inl rfl⟩, fun _ => ⟨rfl, rfl⟩⟩, ⟨⟨rfl, rfl, Or.inl rfl⟩, fun _ => ⟨rfl, rfl⟩⟩⟩)
          go_wp2_with fail
          refine (sort_any rooC q 1 1 ⟨0, 0, 3, true, false, false, false, false, [], [], [], []⟩ _ w46 HMA.out (ttl_small (z := z) (ttl := ttl) (D := D) (by have := N1.out; omega) HDK.out (by first | exact Or.inl rfl | exact Or.inr rfl)) (by decide) HQS.out).mono ?_; rintro e w7 ⟨⟨v, rfl, hou⟩, hb⟩
          clear m0 m1 m2 m3 m4 m5 m6 m7 m8 m9 m10 m11
          replace HB := Lib.hid (HB.out.trans (hb.mono HB.out.size))
          replace HLR := Lib.hid (HLR.out.below hb)
          replace C3 := Lib.hid (C3.out.below hb)
          replace CO := Lib.hid (CO.out.below hb)
          clear hb
          clear HMA
          rw [ttl_none_f (rc := 3) (kd := 4) (Or.inr ⟨rfl, rfl⟩)] at hou
          obtain ⟨ax2, cx2, rfl⟩ := out_zero hou
          clear hou
          dsimp only
          have hba := (Below.refl _ _ : Below w7.heap.size w7 w7).alloc (Nat.le_refl _) (.cells #[.int .i64 0, .int .i64 0, .slice ax2 0 cx2, .string ⟨#[]⟩] 85)
          have CP := Lib.hid (CN.new w7 #[.int .i64 0, .int .i64 0, .slice ax2 0 cx2, .string ⟨#[]⟩] 85)
          replace HB := Lib.hid (HB.out.trans (hba.mono HB.out.size))
          replace HLR := Lib.hid (HLR.out.below hba)
          replace C3 := Lib.hid (C3.out.below hba)
          replace CO := Lib.hid (CO.out.below hba)
          obtain ⟨w8, hw⟩ : ∃ x, w7.alloc (.cells #[.int .i64 0, .int .i64 0, .slice ax2 0 cx2, .string ⟨#[]⟩] 85) = x := ⟨_, rfl⟩
          obtain ⟨q8, hq⟩ : ∃ x, w7.heap.size = x := ⟨_, rfl⟩
          rw [hw, hq] at CP
          rw [hw] at HB HLR C3 CO
          have HW := Lib.hid hw
          have HQ_ := Lib.hid hq
          clear hba hw hq
          go_upto_region 15 with (fail)
          rw [HW.out, HQ_.out]
          clear HW HQ_
          go_wp2_with fail
          refine (first19 _).mono ?_; rintro e w9 ⟨rfl, hb⟩
          replace HB := Lib.hid (HB.out.trans (hb.mono HB.out.size))
          replace HLR := Lib.hid (HLR.out.below hb)
          replace C3 := Lib.hid (C3.out.below hb)
          replace CO := Lib.hid (CO.out.below hb)
          replace CP := Lib.hid (CP.out.below hb)
          clear hb
          obtain ⟨y0, y1, y2, y3, _⟩ := CO.out.o4
          obtain ⟨z0, z1, z2, z3, _⟩ := CP.out.o4
          go_wp2
          go_ret
          exact ⟨rfl, HB.out⟩
      · cases gone
        · have HLR := Lib.hid (row_litR w2 z 6 1 ttl D)
          have hba := (Below.refl _ _ : Below w2.heap.size w2 w2).alloc (Nat.le_refl _) (.cells #[.string z, .int .i64 6, .int .i64 1, .int .i64 ttl, .string D] 91)
          replace HB := Lib.hid (HB.out.trans (hba.mono HB.out.size))
          clear hba
          obtain ⟨wl, hwl⟩ : ∃ x, w2.alloc (.cells #[.string z, .int .i64 6, .int .i64 1, .int .i64 ttl, .string D] 91) = x := ⟨_, rfl⟩
          obtain ⟨ql, hql⟩ : ∃ x, w2.heap.size = x := ⟨_, rfl⟩
          have HSL := Lib.hid (show ql + 1 = wl.heap.size by rw [← hql, ← hwl, World.size_alloc])
          rw [hwl, hql] at HLR
          rw [hwl] at HB
          have hba := (Below.refl _ _ : Below wl.heap.size wl wl).alloc (Nat.le_refl _) (.cells #[.int .i64 0, .int .i64 0, .int .i64 0, .bool true, .bool true, .bool false, .bool false, .bool false, .slice none 0 0, .slice none 0 0, .slice (some ⟨ql, 0, none⟩) 1 1, .slice none 0 0] 81)
          have C3 := Lib.hid (CN.new wl #[.int .i64 0, .int .i64 0, .int .i64 0, .bool true, .bool true, .bool false, .bool false, .bool false, .slice none 0 0, .slice none 0 0, .slice (some ⟨ql, 0, none⟩) 1 1, .slice none 0 0] 81)
          have HWQ := Lib.hid (show w.heap.size ≤ wl.heap.size from HB.out.size)
          replace HB := Lib.hid (HB.out.trans (hba.mono HB.out.size))
          replace HLR := Lib.hid (HLR.out.below hba)
          clear hba
          obtain ⟨wM, hw5⟩ : ∃ x, wl.alloc (.cells #[.int .i64 0, .int .i64 0, .int .i64 0, .bool true, .bool true, .bool false, .bool false, .bool false, .slice none 0 0, .slice none 0 0, .slice (some ⟨ql, 0, none⟩) 1 1, .slice none 0 0] 81) = x := ⟨_, rfl⟩
          obtain ⟨qM, hq5⟩ : ∃ x, wl.heap.size = x := ⟨_, rfl⟩
          rw [hq5] at HSL HWQ
          rw [hw5, hq5] at C3
          rw [hw5] at HB HLR
          have HW1 := Lib.hid hwl
          have HW2 := Lib.hid hql
          have HW3 := Lib.hid hw5
          have HLQ := Lib.hid (show ql < qM by have := HSL.out; omega)
          clear hwl hql hw5 hq5
          go_upto_region 9 with (fail)
          rw [HW1.out, show (Value.slice (some { block := w2.heap.size, off := 0 }) 1 1) = Value.slice (some { block := ql, off := 0 }) 1 1 by rw [HW2.out], HW3.out]
          rw [show (Value.pointer (some { block := w2.heap.size + 1, off := 0 })) = Value.pointer (some { block := qM, off := 0 }) by rw [HW2.out, HSL.out]]
          clear HW1 HW2 HW3 HSL
          obtain ⟨T, hT⟩ : ∃ x, (if undS q z = true then min ttl least else 0) = x := ⟨_, rfl⟩
          have HT := Lib.hid hT
          clear hT
          skip
          obtain ⟨m0, m1, m2, m3, m4, m5, m6, m7, m8, m9, m10, m11, _⟩ := C3.out.u12
          have HMA := Lib.hid (show MsgAt wM (.agg #[.int .i64 0, .int .i64 0, .int .i64 0, .bool true, .bool true, .bool false, .bool false, .bool false, .slice none 0 0, .slice none 0 0, .slice (some ⟨ql, 0, none⟩) 1 1, .slice none 0 0]) ⟨0, 0, 0, true, true, false, false, false, [], [], [⟨⟨z, 6, 1⟩, ttl, D⟩], []⟩ from ⟨none, 0, none, 0, some ⟨ql, 0, none⟩, 1, none, 0, rfl, ⟨⟨rfl, rfl, Or.inl rfl⟩, fun _ => ⟨rfl, rfl⟩⟩, ⟨⟨rfl, rfl, Or.inl rfl⟩, fun _ => ⟨rfl, rfl⟩⟩, ⟨HLR.out, fun h => by cases h⟩, ⟨⟨rfl, rfl, Or.inl rfl⟩, fun _ => ⟨rfl, rfl⟩⟩⟩)
          go_wp2_with fail
          refine (sort_any rooC q 1 1 ⟨0, 0, 0, true, true, false, false, false, [], [], [⟨⟨z, 6, 1⟩, ttl, D⟩], []⟩ _ wM HMA.out (ttl_small (z := z) (ttl := ttl) (D := D) (by have := N1.out; omega) HDK.out (by first | exact Or.inl rfl | exact Or.inr rfl)) (by decide) HQS.out).mono ?_; rintro e w3 ⟨⟨v, rfl, hou⟩, hb⟩
          clear m0 m1 m2 m3 m4 m5 m6 m7 m8 m9 m10 m11
          replace HB := Lib.hid (HB.out.trans (hb.mono HB.out.size))
          replace HLR := Lib.hid (HLR.out.below hb)
          replace C3 := Lib.hid (C3.out.below hb)
          clear hb
          clear HMA
          rw [ttl_one_t (rc := 0) (kd := 5) (Or.inl ⟨rfl, rfl⟩) HMZ.out HMQ.out HDK.out HMN.out (by have := N3.out; omega) (by have := N4.out; omega), HT.out] at hou
          obtain ⟨ax1, cx1, rfl⟩ := out_zero hou
          clear hou
          dsimp only
          have hba := (Below.refl _ _ : Below w3.heap.size w3 w3).alloc (Nat.le_refl _) (.cells #[.int .i64 5, .int .i64 T, .slice ax1 0 cx1, .string ⟨#[]⟩] 85)
          have CO := Lib.hid (CN.new w3 #[.int .i64 5, .int .i64 T, .slice ax1 0 cx1, .string ⟨#[]⟩] 85)
          replace HB := Lib.hid (HB.out.trans (hba.mono HB.out.size))
          replace HLR := Lib.hid (HLR.out.below hba)
          replace C3 := Lib.hid (C3.out.below hba)
          obtain ⟨w4, hw⟩ : ∃ x, w3.alloc (.cells #[.int .i64 5, .int .i64 T, .slice ax1 0 cx1, .string ⟨#[]⟩] 85) = x := ⟨_, rfl⟩
          obtain ⟨q4, hq⟩ : ∃ x, w3.heap.size = x := ⟨_, rfl⟩
          rw [hw, hq] at CO
          rw [hw] at HB HLR C3
          have HW := Lib.hid hw
          have HQ_ := Lib.hid hq
          clear hba hw hq
          go_upto_region 13 with (fail)
          rw [HW.out, HQ_.out]
          clear HW HQ_
          skip
          have HNO := Lib.hid (cn_ne3 C3.out CO.out)
          obtain ⟨m0, m1, m2, m3, m4, m5, m6, m7, m8, m9, m10, m11, f0, f1, f2, f3, f4, f5, f6, f7, f8, f9, f10, f11⟩ := C3.out.u12f
          have hgz := grown_cell w4 qM 10 (.slice none 0 0)
          have KZ := Lib.hid (show CN (w4.setCell ⟨qM, 10, none⟩ (.slice none 0 0)) qM [.int .i64 0, .int .i64 0, .int .i64 0, .bool true, .bool true, .bool false, .bool false, .bool false, .slice none 0 0, .slice none 0 0, .slice none 0 0, .slice none 0 0] from C3.out.set 10 (by simp) (.slice none 0 0))
          have HBZ := Lib.hid (HB.out.grown hgz HB.out.size (fun k hk => by injection hk with hk; rw [← hk]; exact HWQ.out))
          have HLZ := Lib.hid (rowR_set HLR.out hgz HLQ.out)
          have HOZ := Lib.hid (CO.out.grown hgz (fun e => HNO.out (Option.some.inj e)))
          clear hgz
          go_upto_region 14 with (fail)
          clear m0 m1 m2 m3 m4 m5 m6 m7 m8 m9 m10 m11 f0 f1 f2 f3 f4 f5 f6 f7 f8 f9 f10 f11
          obtain ⟨w45, hw⟩ : ∃ x, w4.setCell ⟨qM, 10, none⟩ (.slice none 0 0) = x := ⟨_, rfl⟩
          rw [hw] at KZ HBZ HLZ HOZ ⊢
          clear hw
          replace C3 := KZ
          replace HB := HBZ
          replace HLR := HLZ
          clear KZ HBZ HLZ
          replace CO := HOZ
          clear HOZ
          obtain ⟨m0, m1, m2, m3, m4, m5, m6, m7, m8, m9, m10, m11, _⟩ := C3.out.u12
          have HMA := Lib.hid (show MsgAt w45 (.agg #[.int .i64 0, .int .i64 0, .int .i64 0, .bool true, .bool true, .bool false, .bool false, .bool false, .slice none 0 0, .slice none 0 0, .slice none 0 0, .slice none 0 0]) ⟨0, 0, 0, true, true, false, false, false, [], [], [], []⟩ from ⟨none, 0, none, 0, none, 0, none, 0, rfl, ⟨⟨rfl, rfl, Or.inl rfl⟩, fun _ => ⟨rfl, rfl⟩⟩, ⟨⟨rfl, rfl, Or.inl rfl⟩, fun _ => ⟨rfl, rfl⟩⟩, ⟨⟨rfl, rfl, Or.inl rfl⟩, fun _ => ⟨rfl, rfl⟩⟩, ⟨⟨rfl, rfl, Or.inl rfl⟩, fun _ => ⟨rfl, rfl⟩⟩⟩)
          go_wp2_with fail
          refine (sort_any rooC q 1 1 ⟨0, 0, 0, true, true, false, false, false, [], [], [], []⟩ _ w45 HMA.out (ttl_small (z := z) (ttl := ttl) (D := D) (by have := N1.out; omega) HDK.out (by first | exact Or.inl rfl | exact Or.inr rfl)) (by decide) HQS.out).mono ?_; rintro e w6 ⟨⟨v, rfl, hou⟩, hb⟩
          clear m0 m1 m2 m3 m4 m5 m6 m7 m8 m9 m10 m11
          replace HB := Lib.hid (HB.out.trans (hb.mono HB.out.size))
          replace HLR := Lib.hid (HLR.out.below hb)
          replace C3 := Lib.hid (C3.out.below hb)
          replace CO := Lib.hid (CO.out.below hb)
          clear hb
          clear HMA
          rw [ttl_none_t (rc := 0) (kd := 5) (Or.inl ⟨rfl, rfl⟩)] at hou
          obtain ⟨ax2, cx2, rfl⟩ := out_zero hou
          clear hou
          dsimp only
          have hba := (Below.refl _ _ : Below w6.heap.size w6 w6).alloc (Nat.le_refl _) (.cells #[.int .i64 5, .int .i64 0, .slice ax2 0 cx2, .string ⟨#[]⟩] 85)
          have CP := Lib.hid (CN.new w6 #[.int .i64 5, .int .i64 0, .slice ax2 0 cx2, .string ⟨#[]⟩] 85)
          replace HB := Lib.hid (HB.out.trans (hba.mono HB.out.size))
          replace HLR := Lib.hid (HLR.out.below hba)
          replace C3 := Lib.hid (C3.out.below hba)
          replace CO := Lib.hid (CO.out.below hba)
          obtain ⟨w7, hw⟩ : ∃ x, w6.alloc (.cells #[.int .i64 5, .int .i64 0, .slice ax2 0 cx2, .string ⟨#[]⟩] 85) = x := ⟨_, rfl⟩
          obtain ⟨q7, hq⟩ : ∃ x, w6.heap.size = x := ⟨_, rfl⟩
          rw [hw, hq] at CP
          rw [hw] at HB HLR C3 CO
          have HW := Lib.hid hw
          have HQ_ := Lib.hid hq
          clear hba hw hq
          go_upto_region 15 with (fail)
          rw [HW.out, HQ_.out]
          clear HW HQ_
          go_wp2_with fail
          refine (runder_any q z _ HQS.out HZS.out).mono ?_; rintro e w88 ⟨rfl, hb⟩
          replace HB := Lib.hid (HB.out.trans (hb.mono HB.out.size))
          replace HLR := Lib.hid (HLR.out.below hb)
          replace C3 := Lib.hid (C3.out.below hb)
          replace CO := Lib.hid (CO.out.below hb)
          replace CP := Lib.hid (CP.out.below hb)
          clear hb
          cases hu : undS q z
          · have hT2 := HT.out
            rw [hu] at hT2
            obtain rfl : 0 = T := hT2
            clear hu
            go_wp2_with fail
            refine (first19 _).mono ?_; rintro e w8 ⟨rfl, hb⟩
            replace HB := Lib.hid (HB.out.trans (hb.mono HB.out.size))
            replace HLR := Lib.hid (HLR.out.below hb)
            replace C3 := Lib.hid (C3.out.below hb)
            replace CO := Lib.hid (CO.out.below hb)
            replace CP := Lib.hid (CP.out.below hb)
            clear hb
            obtain ⟨y0, y1, y2, y3, _⟩ := CO.out.o4
            obtain ⟨z0, z1, z2, z3, _⟩ := CP.out.o4
            go_wp2
            go_ret
            exact ⟨rfl, HB.out⟩
          · have hT2 := HT.out
            rw [hu] at hT2
            obtain rfl : min ttl least = T := hT2
            clear hu
            go_wp2_with fail
            refine (first19 _).mono ?_; rintro e w8 ⟨rfl, hb⟩
            replace HB := Lib.hid (HB.out.trans (hb.mono HB.out.size))
            replace HLR := Lib.hid (HLR.out.below hb)
            replace C3 := Lib.hid (C3.out.below hb)
            replace CO := Lib.hid (CO.out.below hb)
            replace CP := Lib.hid (CP.out.below hb)
            clear hb
            obtain ⟨y0, y1, y2, y3, _⟩ := CO.out.o4
            obtain ⟨z0, z1, z2, z3, _⟩ := CP.out.o4
            go_wp2
            go_ret
            exact ⟨rfl, HB.out⟩
        · have HLR := Lib.hid (row_litR w2 z 6 1 ttl D)
          have hba := (Below.refl _ _ : Below w2.heap.size w2 w2).alloc (Nat.le_refl _) (.cells #[.string z, .int .i64 6, .int .i64 1, .int .i64 ttl, .string D] 91)
          replace HB := Lib.hid (HB.out.trans (hba.mono HB.out.size))
          clear hba
          obtain ⟨wl, hwl⟩ : ∃ x, w2.alloc (.cells #[.string z, .int .i64 6, .int .i64 1, .int .i64 ttl, .string D] 91) = x := ⟨_, rfl⟩
          obtain ⟨ql, hql⟩ : ∃ x, w2.heap.size = x := ⟨_, rfl⟩
          have HSL := Lib.hid (show ql + 1 = wl.heap.size by rw [← hql, ← hwl, World.size_alloc])
          rw [hwl, hql] at HLR
          rw [hwl] at HB
          have hba := (Below.refl _ _ : Below wl.heap.size wl wl).alloc (Nat.le_refl _) (.cells #[.int .i64 0, .int .i64 0, .int .i64 0, .bool true, .bool true, .bool false, .bool false, .bool false, .slice none 0 0, .slice none 0 0, .slice (some ⟨ql, 0, none⟩) 1 1, .slice none 0 0] 81)
          have C3 := Lib.hid (CN.new wl #[.int .i64 0, .int .i64 0, .int .i64 0, .bool true, .bool true, .bool false, .bool false, .bool false, .slice none 0 0, .slice none 0 0, .slice (some ⟨ql, 0, none⟩) 1 1, .slice none 0 0] 81)
          have HWQ := Lib.hid (show w.heap.size ≤ wl.heap.size from HB.out.size)
          replace HB := Lib.hid (HB.out.trans (hba.mono HB.out.size))
          replace HLR := Lib.hid (HLR.out.below hba)
          clear hba
          obtain ⟨wM, hw5⟩ : ∃ x, wl.alloc (.cells #[.int .i64 0, .int .i64 0, .int .i64 0, .bool true, .bool true, .bool false, .bool false, .bool false, .slice none 0 0, .slice none 0 0, .slice (some ⟨ql, 0, none⟩) 1 1, .slice none 0 0] 81) = x := ⟨_, rfl⟩
          obtain ⟨qM, hq5⟩ : ∃ x, wl.heap.size = x := ⟨_, rfl⟩
          rw [hq5] at HSL HWQ
          rw [hw5, hq5] at C3
          rw [hw5] at HB HLR
          have HW1 := Lib.hid hwl
          have HW2 := Lib.hid hql
          have HW3 := Lib.hid hw5
          have HLQ := Lib.hid (show ql < qM by have := HSL.out; omega)
          clear hwl hql hw5 hq5
          go_upto_region 9 with (fail)
          rw [HW1.out, show (Value.slice (some { block := w2.heap.size, off := 0 }) 1 1) = Value.slice (some { block := ql, off := 0 }) 1 1 by rw [HW2.out], HW3.out]
          rw [show (Value.pointer (some { block := w2.heap.size + 1, off := 0 })) = Value.pointer (some { block := qM, off := 0 }) by rw [HW2.out, HSL.out]]
          clear HW1 HW2 HW3 HSL
          obtain ⟨m0, m1, m2, m3, m4, m5, m6, m7, m8, m9, m10, m11, f0, f1, f2, f3, f4, f5, f6, f7, f8, f9, f10, f11⟩ := C3.out.u12f
          have hgz := grown_cell wM qM 2 (.int .i64 3)
          have KZ := Lib.hid (show CN (wM.setCell ⟨qM, 2, none⟩ (.int .i64 3)) qM [.int .i64 0, .int .i64 0, .int .i64 3, .bool true, .bool true, .bool false, .bool false, .bool false, .slice none 0 0, .slice none 0 0, .slice (some ⟨ql, 0, none⟩) 1 1, .slice none 0 0] from C3.out.set 2 (by simp) (.int .i64 3))
          have HBZ := Lib.hid (HB.out.grown hgz HB.out.size (fun k hk => by injection hk with hk; rw [← hk]; exact HWQ.out))
          have HLZ := Lib.hid (rowR_set HLR.out hgz HLQ.out)
          clear hgz
          go_upto_region 12 with (fail)
          clear m0 m1 m2 m3 m4 m5 m6 m7 m8 m9 m10 m11 f0 f1 f2 f3 f4 f5 f6 f7 f8 f9 f10 f11
          obtain ⟨w43, hw⟩ : ∃ x, wM.setCell ⟨qM, 2, none⟩ (.int .i64 3) = x := ⟨_, rfl⟩
          rw [hw] at KZ HBZ HLZ ⊢
          clear hw
          replace C3 := KZ
          replace HB := HBZ
          replace HLR := HLZ
          clear KZ HBZ HLZ
          obtain ⟨T, hT⟩ : ∃ x, (if undS q z = true then min ttl least else 0) = x := ⟨_, rfl⟩
          have HT := Lib.hid hT
          clear hT
          obtain ⟨m0, m1, m2, m3, m4, m5, m6, m7, m8, m9, m10, m11, _⟩ := C3.out.u12
          have HMA := Lib.hid (show MsgAt w43 (.agg #[.int .i64 0, .int .i64 0, .int .i64 3, .bool true, .bool true, .bool false, .bool false, .bool false, .slice none 0 0, .slice none 0 0, .slice (some ⟨ql, 0, none⟩) 1 1, .slice none 0 0]) ⟨0, 0, 3, true, true, false, false, false, [], [], [⟨⟨z, 6, 1⟩, ttl, D⟩], []⟩ from ⟨none, 0, none, 0, some ⟨ql, 0, none⟩, 1, none, 0, rfl, ⟨⟨rfl, rfl, Or.inl rfl⟩, fun _ => ⟨rfl, rfl⟩⟩, ⟨⟨rfl, rfl, Or.inl rfl⟩, fun _ => ⟨rfl, rfl⟩⟩, ⟨HLR.out, fun h => by cases h⟩, ⟨⟨rfl, rfl, Or.inl rfl⟩, fun _ => ⟨rfl, rfl⟩⟩⟩)
          go_wp2_with fail
          refine (sort_any rooC q 1 1 ⟨0, 0, 3, true, true, false, false, false, [], [], [⟨⟨z, 6, 1⟩, ttl, D⟩], []⟩ _ w43 HMA.out (ttl_small (z := z) (ttl := ttl) (D := D) (by have := N1.out; omega) HDK.out (by first | exact Or.inl rfl | exact Or.inr rfl)) (by decide) HQS.out).mono ?_; rintro e w4 ⟨⟨v, rfl, hou⟩, hb⟩
          clear m0 m1 m2 m3 m4 m5 m6 m7 m8 m9 m10 m11
          replace HB := Lib.hid (HB.out.trans (hb.mono HB.out.size))
          replace HLR := Lib.hid (HLR.out.below hb)
          replace C3 := Lib.hid (C3.out.below hb)
          clear hb
          clear HMA
          rw [ttl_one_t (rc := 3) (kd := 4) (Or.inr ⟨rfl, rfl⟩) HMZ.out HMQ.out HDK.out HMN.out (by have := N3.out; omega) (by have := N4.out; omega), HT.out] at hou
          obtain ⟨ax1, cx1, rfl⟩ := out_zero hou
          clear hou
          dsimp only
          have hba := (Below.refl _ _ : Below w4.heap.size w4 w4).alloc (Nat.le_refl _) (.cells #[.int .i64 4, .int .i64 T, .slice ax1 0 cx1, .string ⟨#[]⟩] 85)
          have CO := Lib.hid (CN.new w4 #[.int .i64 4, .int .i64 T, .slice ax1 0 cx1, .string ⟨#[]⟩] 85)
          replace HB := Lib.hid (HB.out.trans (hba.mono HB.out.size))
          replace HLR := Lib.hid (HLR.out.below hba)
          replace C3 := Lib.hid (C3.out.below hba)
          obtain ⟨w5, hw⟩ : ∃ x, w4.alloc (.cells #[.int .i64 4, .int .i64 T, .slice ax1 0 cx1, .string ⟨#[]⟩] 85) = x := ⟨_, rfl⟩
          obtain ⟨q5, hq⟩ : ∃ x, w4.heap.size = x := ⟨_, rfl⟩
          rw [hw, hq] at CO
          rw [hw] at HB HLR C3
          have HW := Lib.hid hw
          have HQ_ := Lib.hid hq
          clear hba hw hq
          go_upto_region 13 with (fail)
          rw [HW.out, HQ_.out]
          clear HW HQ_
          skip
          have HNO := Lib.hid (cn_ne3 C3.out CO.out)
          obtain ⟨m0, m1, m2, m3, m4, m5, m6, m7, m8, m9, m10, m11, f0, f1, f2, f3, f4, f5, f6, f7, f8, f9, f10, f11⟩ := C3.out.u12f
          have hgz := grown_cell w5 qM 10 (.slice none 0 0)
          have KZ := Lib.hid (show CN (w5.setCell ⟨qM, 10, none⟩ (.slice none 0 0)) qM [.int .i64 0, .int .i64 0, .int .i64 3, .bool true, .bool true, .bool false, .bool false, .bool false, .slice none 0 0, .slice none 0 0, .slice none 0 0, .slice none 0 0] from C3.out.set 10 (by simp) (.slice none 0 0))
          have HBZ := Lib.hid (HB.out.grown hgz HB.out.size (fun k hk => by injection hk with hk; rw [← hk]; exact HWQ.out))
          have HLZ := Lib.hid (rowR_set HLR.out hgz HLQ.out)
          have HOZ := Lib.hid (CO.out.grown hgz (fun e => HNO.out (Option.some.inj e)))
          clear hgz
          go_upto_region 14 with (fail)
          clear m0 m1 m2 m3 m4 m5 m6 m7 m8 m9 m10 m11 f0 f1 f2 f3 f4 f5 f6 f7 f8 f9 f10 f11
          obtain ⟨w46, hw⟩ : ∃ x, w5.setCell ⟨qM, 10, none⟩ (.slice none 0 0) = x := ⟨_, rfl⟩
          rw [hw] at KZ HBZ HLZ HOZ ⊢
          clear hw
          replace C3 := KZ
          replace HB := HBZ
          replace HLR := HLZ
          clear KZ HBZ HLZ
          replace CO := HOZ
          clear HOZ
          obtain ⟨m0, m1, m2, m3, m4, m5, m6, m7, m8, m9, m10, m11, _⟩ := C3.out.u12
          have HMA := Lib.hid (show MsgAt w46 (.agg #[.int .i64 0, .int .i64 0, .int .i64 3, .bool true, .bool true, .bool false, .bool false, .bool false, .slice none 0 0, .slice none 0 0, .slice none 0 0, .slice none 0 0]) ⟨0, 0, 3, true, true, false, false, false, [], [], [], []⟩ from ⟨none, 0, none, 0, none, 0, none, 0, rfl, ⟨⟨rfl, rfl, Or.inl rfl⟩, fun _ => ⟨rfl, rfl⟩⟩, ⟨⟨rfl, rfl, Or.inl rfl⟩, fun _ => ⟨rfl, rfl⟩⟩, ⟨⟨rfl, rfl, Or.inl rfl⟩, fun _ => ⟨rfl, rfl⟩⟩, ⟨⟨rfl, rfl, Or.inl rfl⟩, fun _ => ⟨rfl, rfl⟩⟩⟩)
          go_wp2_with fail
          refine (sort_any rooC q 1 1 ⟨0, 0, 3, true, true, false, false, false, [], [], [], []⟩ _ w46 HMA.out (ttl_small (z := z) (ttl := ttl) (D := D) (by have := N1.out; omega) HDK.out (by first | exact Or.inl rfl | exact Or.inr rfl)) (by decide) HQS.out).mono ?_; rintro e w7 ⟨⟨v, rfl, hou⟩, hb⟩
          clear m0 m1 m2 m3 m4 m5 m6 m7 m8 m9 m10 m11
          replace HB := Lib.hid (HB.out.trans (hb.mono HB.out.size))
          replace HLR := Lib.hid (HLR.out.below hb)
          replace C3 := Lib.hid (C3.out.below hb)
          replace CO := Lib.hid (CO.out.below hb)
          clear hb
          clear HMA
          rw [ttl_none_t (rc := 3) (kd := 4) (Or.inr ⟨rfl, rfl⟩)] at hou
          obtain ⟨ax2, cx2, rfl⟩ := out_zero hou
          clear hou
          dsimp only
          have hba := (Below.refl _ _ : Below w7.heap.size w7 w7).alloc (Nat.le_refl _) (.cells #[.int .i64 4, .int .i64 0, .slice ax2 0 cx2, .string ⟨#[]⟩] 85)
          have CP := Lib.hid (CN.new w7 #[.int .i64 4, .int .i64 0, .slice ax2 0 cx2, .string ⟨#[]⟩] 85)
          replace HB := Lib.hid (HB.out.trans (hba.mono HB.out.size))
          replace HLR := Lib.hid (HLR.out.below hba)
          replace C3 := Lib.hid (C3.out.below hba)
          replace CO := Lib.hid (CO.out.below hba)
          obtain ⟨w8, hw⟩ : ∃ x, w7.alloc (.cells #[.int .i64 4, .int .i64 0, .slice ax2 0 cx2, .string ⟨#[]⟩] 85) = x := ⟨_, rfl⟩
          obtain ⟨q8, hq⟩ : ∃ x, w7.heap.size = x := ⟨_, rfl⟩
          rw [hw, hq] at CP
          rw [hw] at HB HLR C3 CO
          have HW := Lib.hid hw
          have HQ_ := Lib.hid hq
          clear hba hw hq
          go_upto_region 15 with (fail)
          rw [HW.out, HQ_.out]
          clear HW HQ_
          go_wp2_with fail
          refine (runder_any q z _ HQS.out HZS.out).mono ?_; rintro e w88 ⟨rfl, hb⟩
          replace HB := Lib.hid (HB.out.trans (hb.mono HB.out.size))
          replace HLR := Lib.hid (HLR.out.below hb)
          replace C3 := Lib.hid (C3.out.below hb)
          replace CO := Lib.hid (CO.out.below hb)
          replace CP := Lib.hid (CP.out.below hb)
          clear hb
          cases hu : undS q z
          · have hT2 := HT.out
            rw [hu] at hT2
            obtain rfl : 0 = T := hT2
            clear hu
            go_wp2_with fail
            refine (first19 _).mono ?_; rintro e w9 ⟨rfl, hb⟩
            replace HB := Lib.hid (HB.out.trans (hb.mono HB.out.size))
            replace HLR := Lib.hid (HLR.out.below hb)
            replace C3 := Lib.hid (C3.out.below hb)
            replace CO := Lib.hid (CO.out.below hb)
            replace CP := Lib.hid (CP.out.below hb)
            clear hb
            obtain ⟨y0, y1, y2, y3, _⟩ := CO.out.o4
            obtain ⟨z0, z1, z2, z3, _⟩ := CP.out.o4
            go_wp2
            go_ret
            exact ⟨rfl, HB.out⟩
          · have hT2 := HT.out
            rw [hu] at hT2
            obtain rfl : min ttl least = T := hT2
            clear hu
            go_wp2_with fail
            refine (first19 _).mono ?_; rintro e w9 ⟨rfl, hb⟩
            replace HB := Lib.hid (HB.out.trans (hb.mono HB.out.size))
            replace HLR := Lib.hid (HLR.out.below hb)
            replace C3 := Lib.hid (C3.out.below hb)
            replace CO := Lib.hid (CO.out.below hb)
            replace CP := Lib.hid (CP.out.below hb)
            clear hb
            obtain ⟨y0, y1, y2, y3, _⟩ := CO.out.o4
            obtain ⟨z0, z1, z2, z3, _⟩ := CP.out.o4
            go_wp2
            go_ret
            exact ⟨rfl, HB.out⟩
end Go.Proofs.Ytfopfplpfhncfaa
