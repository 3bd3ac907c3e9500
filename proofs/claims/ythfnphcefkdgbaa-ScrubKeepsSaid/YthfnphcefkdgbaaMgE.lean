/- Texts that others rest on, one behind the other: CpD, Key, SPl, GrC, Kor, Keq, Sm4, CeK, ClR, SkA, SkB, SkC, SkE, Fin. -/
import Derived.Test.YthfnphcefkdgbaaMgB
import Derived.Test.YthfnphcefkdgbaaMgA
import Derived.Deep.RegionHeld3
import Derived.Sort.Statements
import Derived.Laws.StructEq
import Derived.BigQuiet
import Derived.Deep.QuietTactic
import Derived.Lib.SliceRun
import Derived.Deep.DeepCutAuto
import Derived.Deep.AppendLies
import Derived.Deep.RegionLaw
section
namespace Go.Proofs.Ythfnphcefkdgbaa
open Go.RowKit

/-- As 'Below', and no draw is taken back. -/
structure BelD (B : Nat) (w w' : World) : Prop where
  b : Below B w w'
  d : w.drawn ≤ w'.drawn
theorem BelD.refl (B : Nat) (w : World) : BelD B w w := ⟨Below.refl B w, Nat.le_refl _⟩
theorem BelD.trans {B : Nat} {x y z : World} (h : BelD B x y) (k : BelD B y z) : BelD B x z := ⟨h.b.trans k.b, Nat.le_trans h.d k.d⟩
theorem BelD.mono {A B : Nat} {x y : World} (h : BelD B x y) (hA : A ≤ B) : BelD A x y := ⟨h.b.mono hA, h.d⟩
theorem BelD.alloc {B : Nat} {x y : World} (h : BelD B x y) (hB : B ≤ y.heap.size) (o : Obj) : BelD B x (y.alloc o) := ⟨h.b.alloc hB o, h.d⟩
theorem BelD.drew {B : Nat} {x y : World} (h : BelD B x y) : BelD B x y.drew := ⟨h.b.drew, Nat.le_trans h.d (Nat.le_succ _)⟩
theorem BelD.setCell {B : Nat} {x y : World} (h : BelD B x y) {p : Addr} (hp : B ≤ p.block) (v : Value) : BelD B x (y.setCell p v) := ⟨h.b.setCell hp v, h.d⟩
theorem BelD.size {B : Nat} {x y : World} (h : BelD B x y) : x.heap.size ≤ y.heap.size := h.b.size
theorem belD_drewN {B : Nat} {x y : World} (h : BelD B x y) (n : Nat) : BelD B x (y.drewN n) := by
  induction n with
  | zero => exact h
  | succ n ih => exact ih.drew
theorem belD_setCells {B : Nat} {w w' : World} (h : BelD B w w') {b : Nat} (hb : B ≤ b) (o : Nat) (vs : List Value) : BelD B w (w'.setCells b o vs) := by
  induction vs generalizing o w' with
  | nil => exact h
  | cons v vs ih => exact ih (h.setCell hb v) (o + 1)

/-- A whole array stored: a world. -/
theorem store_arrD {w : World} {q : Nat} {g : Nat → Int} (h : ArrAt w q g) (f : Nat → Int) {B : Nat} {w0 : World} (hb : BelD B w0 w) (hB : B ≤ q) :
    ∃ w2, (storeCells ⟨q, 0, none⟩ (arrL f)).run Try.prog w = .ok () w2 ∧ ArrAt w2 q f ∧ BelD B w0 w2 := by
  refine ⟨w.setCells q 0 (arrL f), ?_, arr_stored h, belD_setCells hb hB 0 (arrL f)⟩
  have h1 := run_storeCells_cells (P := Try.prog) q 0 (arrL f) 0 w ?_ ?_ ?_
  · simpa using h1
  · intro j hj
    rw [arrL_length] at hj
    simp only [Nat.zero_add, (h j hj).1]; rfl
  · intro j hj
    rw [arrL_length] at hj
    simp only [Nat.zero_add, (h j hj).2]
  · intro v hv
    simp only [arrL, List.mem_map] at hv
    obtain ⟨_, _, rfl⟩ := hv
    rfl

set_option maxRecDepth 100000 in
theorem startsD_any (L : List ByteArray) (w : World) (hL : OkL L) (hz : off L L.length ≤ 254) : Calls Try.prog 110 #[.string (nameB L)] w fun e w' => e = .returned (.tuple #[.agg (arrL (stF L L.length)).toArray, .int .i64 L.length]) ∧ BelD w.heap.size w w' := by
  have hsz := nameB_size L
  obtain ⟨n, hn⟩ : ∃ n, L.length = n := ⟨_, rfl⟩
  obtain ⟨s, hs1⟩ : ∃ s, nameB L = s := ⟨_, rfl⟩
  rw [hn, hs1] at hsz
  rw [hn] at hz
  have HN := Lib.hid hn
  have HS := Lib.hid hs1
  have HL := Lib.hid hL
  rw [hs1, hn]
  clear hn hs1 hL
  go_enter Try.func110, Try.ntmps110
  go_wp2
  go_loopw [5, 6] (fun c a wr => ∃ k : Nat, k ≤ n ∧ c = .int .i64 k ∧ a = .int .i64 (off L k : Nat) ∧ ArrAt wr w.heap.size (fun _ => 0) ∧ ArrAt wr (w.heap.size + 1) (stF L k) ∧ BelD w.heap.size w wr ∧ wr.heap.size = w.heap.size + 2) (fun c _ _ => n - (intOf c).toNat)
  case atStart =>
    refine ⟨0, Nat.zero_le _, rfl, rfl, ?_, ?_, ?_, by simp⟩
    · exact (arr_new w).below ((Below.refl _ _).alloc (Nat.le_refl _) _)
    · have h := arr_new (w.alloc (.cells Try.zeroCells165 165))
      rw [World.size_alloc] at h
      exact h
    · exact ((BelD.refl _ _).alloc (Nat.le_refl _) _).alloc (by simp) _
  case round =>
    obtain ⟨k, hk, rfl, rfl, ha0, ha1, hbel, hsize⟩ := hrel
    have HA0 := Lib.hid ha0
    have HA1 := Lib.hid ha1
    have HB := Lib.hid hbel
    have HZ := Lib.hid hsize
    have hm := off_mono L hk
    have hge := off_ge L HL.out k (by rw [HN.out]; exact hk)
    have hge2 := off_ge L HL.out n (by rw [HN.out]; exact Nat.le_refl _)
    clear ha0 ha1 hbel
    by_cases hlt : k < n
    · have hs := off_succ L k
      have hm2 := off_mono L (show k + 1 ≤ n by omega)
      obtain ⟨g1, g2, _⟩ := HL.out k (by rw [HN.out]; exact hlt)
      have hb := name_byte L k (by rw [HN.out]; exact hlt) (by omega)
      rw [HS.out] at hb
      obtain ⟨c1, f1⟩ := HA1.out k (by omega)
      obtain ⟨a, ha⟩ : ∃ a, off L k = a := ⟨_, rfl⟩
      obtain ⟨a2, ha2⟩ : ∃ a, off L (k + 1) = a := ⟨_, rfl⟩
      obtain ⟨t, ht⟩ : ∃ t, (tx L k).size = t := ⟨_, rfl⟩
      simp only [ha, ha2, ht] at hs hm2 hb g1 g2 hge ⊢
      have hlt2 : a < s.size := by omega
      have hg := (byte_get hlt2).trans hb
      have HA := Lib.hid ha
      have HA2 := Lib.hid ha2
      clear ha ha2 ht hb hsize hm
      go_wp2
      go_roundw
      case rel =>
        have h1 := HA1.out.set (k := k) (by omega) (a : Int)
        rw [show (fun j => if j = k then (a : Int) else stF L k j) = stF L (k + 1) by rw [← HA.out]; exact stF_next L k] at h1
        refine ⟨k + 1, by omega, by go_num, ?_, ?_, ?_, ?_, ?_⟩
        · rw [HA2.out, hs]; go_num
        · exact HA0.out.other (by simp) _
        · exact h1
        · exact HB.out.setCell (by simp) _
        · simpa using HZ.out
      case measure => simp [intOf]; omega
    · have hkn : k = n := by omega
      subst hkn
      go_wp2_with (first | (refine wpList_load_mid rfl 165 (.tmp 4) rfl _ _ rfl _ _ HA1.out.range Try.underlying165 rfl (by rw [arrL_length]; kernel_rfl) ?_) | (refine wpList_store_mid rfl 165 (.tmp 2) (.tmp 25) rfl _ _ _ rfl rfl HA0.out.there (by rw [List.size_toArray, arrL_length]; kernel_rfl) (arr_one _) ?_))
      refine bodyPost_ret (v := .tuple #[.agg (arrL (stF L k)).toArray, .int .i64 k]) ?_ rfl ⟨rfl, belD_setCells HB.out (Nat.le_refl _) _ _⟩
      rw [results_cell_tmp Try.results110]
      have hr := run_loadVar_mid (P := Try.prog) (wr.setCells w.heap.size 0 (arrL (stF L k))) w.heap.size 0 165 (arrL (stF L k)) _ (arr_stored HA0.out).range Try.underlying165 rfl (by rw [arrL_length]; kernel_rfl)
      simp [asAddr, hr]
set_option maxRecDepth 100000 in
set_option maxHeartbeats 800000 in
theorem compareD_yy (L M : List ByteArray) (w : World) (hL : OkL L) (hM : OkL M) (hz : off L L.length ≤ 254) (hy : off M M.length ≤ 254) : Calls Try.prog 79 #[.string (nameB L), .string (nameB M)] w fun e w' => e = .returned (.int .i64 (cmpN L M)) ∧ BelD w.heap.size w w' := by
  have hm1 := labels_may hL hz
  have hm2 := labels_may hM hy
  have hs1 := nameB_size L
  have hs2 := nameB_size M
  have hg1 := off_ge L hL L.length (Nat.le_refl _)
  have hg2 := off_ge M hM M.length (Nat.le_refl _)
  have HM1 := Lib.hid hm1
  have HM2 := Lib.hid hm2
  have HL := Lib.hid hL
  have HMM := Lib.hid hM
  obtain ⟨a, ha⟩ : ∃ s, nameB L = s := ⟨_, rfl⟩
  obtain ⟨b, hb⟩ : ∃ s, nameB M = s := ⟨_, rfl⟩
  obtain ⟨n, hn⟩ : ∃ n, L.length = n := ⟨_, rfl⟩
  obtain ⟨m, hm⟩ : ∃ n, M.length = n := ⟨_, rfl⟩
  have hcm := cmpN_all L M
  rw [hn, hm] at hcm
  have HCM := Lib.hid hcm
  have HA := Lib.hid ha
  have HB := Lib.hid hb
  have HN := Lib.hid hn
  have HMn := Lib.hid hm
  rw [ha] at HM1 hs1
  rw [hb] at HM2 hs2
  rw [ha, hb]
  rw [hn] at hz hg1 hs1
  rw [hm] at hy hg2 hs2
  clear hm1 hm2 hL hM ha hb hn hm hcm
  go_enter Try.func79, Try.ntmps79
  go_wp2_with fail
  refine (nmay_any _ _ (by omega)).mono ?_; rintro e w' ⟨rfl, rfl⟩
  rw [HM1.out]
  go_wp2_with fail
  refine (nmay_any _ _ (by omega)).mono ?_; rintro e w' ⟨rfl, rfl⟩
  rw [HM2.out]
  go_wp2_with fail
  have hst := startsD_any L w HL.out (by rw [HN.out]; exact hz)
  rw [HA.out, HN.out] at hst
  refine hst.mono ?_; rintro e w1 ⟨rfl, hb⟩
  obtain ⟨w2, hsto, ha2, hb2⟩ := store_arrD (arr_new w1) (stF L n) (hb.alloc hb.size (.cells Try.zeroCells165 165)) hb.size
  have HA2 := Lib.hid ha2
  have HB2 := Lib.hid hb2
  clear hb hst ha2 hb2
  go_wp2_with fail
  have hst := startsD_any M w2 HMM.out (by rw [HMn.out]; exact hy)
  rw [HB.out, HMn.out] at hst
  refine hst.mono ?_; rintro e w3 ⟨rfl, hb⟩
  have hb23 := HB2.out.trans (hb.mono HB2.out.size)
  clear hsto
  obtain ⟨w4, hsto, ha4, hb4⟩ := store_arrD (arr_new w3) (stF M m) (hb23.alloc hb23.size (.cells Try.zeroCells165 165)) hb23.size
  obtain ⟨w5, hsto5, _, hb5⟩ := store_arrD (arr_new w3) (stF M m) ((BelD.refl w3.heap.size w3).alloc (Nat.le_refl _) (.cells Try.zeroCells165 165)) (Nat.le_refl _)
  have e45 : w5 = w4 := by
    rw [hsto] at hsto5
    injection hsto5 with _ h
    exact h.symm
  subst e45
  have HA4 := Lib.hid ha4
  have HB4 := Lib.hid hb4
  have HA24 := Lib.hid ((HA2.out.below hb.b).below hb5.b)
  clear hst hb hb23 ha4 hb4 hb5 hsto5 HA2 HB2
  go_wp2_with fail
  obtain ⟨q1, hq⟩ : ∃ q, w1.heap.size = q := ⟨_, rfl⟩
  obtain ⟨q2, hq2⟩ : ∃ q, w3.heap.size = q := ⟨_, rfl⟩
  rw [hq] at HA24
  rw [hq2] at HA4
  rw [hq, hq2]
  clear hsto hq hq2
  go_loopw [8, 10] (fun x y wr => ∃ i j q : Nat, i ≤ n ∧ j ≤ m ∧ x = .int .i64 i ∧ y = .int .i64 j ∧ wr = w5.drewN q ∧ Hid (cmpN L M = cmpLab (L.take i).reverse (M.take j).reverse)) (fun x _ _ => (intOf x).toNat)
  case atStart => exact ⟨n, m, 0, Nat.le_refl _, Nat.le_refl _, rfl, rfl, rfl, HCM.out⟩
  case round =>
    obtain ⟨i, j, q, hi, hj, rfl, rfl, rfl, hc⟩ := hrel
    by_cases h0 : i = 0 ∨ j = 0
    · have hce := cmp_end L M i j (by rw [HN.out]; exact hi) (by rw [HMn.out]; exact hj) h0
      have HV := Lib.hid (hc.out.trans hce)
      have hd : decide (0 < i) = false ∨ decide (0 < i) = true ∧ decide (0 < j) = false := by
        simp only [decide_eq_true_eq, decide_eq_false_iff_not]; omega
      clear hc hce h0
      rcases hd with d1 | ⟨d1, d2⟩
      all_goals
        go_wp2_with (go_at_call 80; refine (icompare_any _ _ _).mono ?_; rintro e w' ⟨rfl, rfl⟩)
        go_returns
        exact ⟨ret_int HV.out.symm, belD_drewN HB4.out q⟩
    · obtain ⟨i', rfl⟩ : ∃ i', i = i' + 1 := ⟨i - 1, by omega⟩
      obtain ⟨j', rfl⟩ : ∃ j', j = j' + 1 := ⟨j - 1, by omega⟩
      have hce := cmp_step L M i' j' (by rw [HN.out]; exact hi) (by rw [HMn.out]; exact hj)
      have c1 := (HA24.out i' (by omega)).1
      have c2 := (HA4.out j' (by omega)).1
      rw [stF, if_pos (by omega)] at c1 c2
      have hl1 := label_quiet L i' w5 q HL.out (by rw [HN.out]; exact hi) (by rw [HN.out]; exact hz)
      have hl2 := label_quiet M j' w5 q HMM.out (by rw [HMn.out]; exact hj) (by rw [HMn.out]; exact hy)
      rw [HA.out] at hl1
      rw [HB.out] at hl2
      obtain ⟨x, hx⟩ : ∃ x, tx L i' = x := ⟨_, rfl⟩
      obtain ⟨y, hy⟩ : ∃ x, tx M j' = x := ⟨_, rfl⟩
      rw [hx, hy] at hce
      rw [hx] at hl1
      rw [hy] at hl2
      obtain ⟨p1, hp1⟩ : ∃ p, off L i' = p := ⟨_, rfl⟩
      obtain ⟨p2, hp2⟩ : ∃ p, off M j' = p := ⟨_, rfl⟩
      rw [hp1] at c1 hl1
      rw [hp2] at c2 hl2
      have HL1 := Lib.hid hl1
      have HL2 := Lib.hid hl2
      have i1 : (i' : Int) < 127 := by omega
      have i2 : (j' : Int) < 127 := by omega
      clear hx hy hp1 hp2 hl1 hl2 h0
      obtain ⟨v, hv⟩ : ∃ v, cmpB x y = v := ⟨_, rfl⟩
      have hsq := scompare_quiet x y w5 q
      rw [hv] at hsq hce
      have HSQ := Lib.hid hsq
      clear hsq hv
      by_cases hv0 : v = 0
      · subst hv0
        rw [if_pos rfl] at hce
        have HV := Lib.hid (hc.out.trans hce)
        clear hc hce
        go_wp2_with fail
        go_quiet (first | (go_at_call 111; first | (with_reducible exact HL1.out _) | (with_reducible exact HL2.out _)) | (go_at_call 109; exact HSQ.out _))
        go_wp2
        go_roundw
        case rel => exact ⟨i', j', _, by omega, by omega, by go_num, by go_num, rfl, HV.out⟩
        case measure => simp [intOf]
      · rw [if_neg hv0] at hce
        have HV := Lib.hid (hc.out.trans hce)
        have e0 : (v != 0) = true := nT hv0
        clear hc hce hv0
        go_wp2_with fail
        go_quiet (first | (go_at_call 111; first | (with_reducible exact HL1.out _) | (with_reducible exact HL2.out _)) | (go_at_call 109; exact HSQ.out _))
        go_wp2
        go_returns
        exact ⟨ret_int HV.out.symm, belD_drewN HB4.out _⟩

set_option maxRecDepth 100000 in
theorem compareD_any (a b : ByteArray) (w : World) (ha : a.size ≤ 1000000) (hb : b.size ≤ 1000000) : Calls Try.prog 79 #[.string a, .string b] w fun e w' => e = .returned (.int .i64 (cmpS a b)) ∧ BelD w.heap.size w w' := by
  cases h1 : mayN a
  · cases h2 : mayN b
    · have HV := Lib.hid (show cmpS a b = cmpB a b by rw [cmpS, h1, h2]; rfl)
      have H1 := Lib.hid h1
      have H2 := Lib.hid h2
      clear h1 h2
      go_enter Try.func79, Try.ntmps79
      go_wp2_with fail
      refine (nmay_any _ _ ha).mono ?_; rintro e w' ⟨rfl, rfl⟩
      rw [H1.out]
      go_wp2_with fail
      refine (nmay_any _ _ hb).mono ?_; rintro e w' ⟨rfl, rfl⟩
      rw [H2.out]
      go_wp2_with fail
      refine (scompare_any _ _ _).mono ?_; rintro e w' ⟨rfl, rfl⟩
      go_wp2
      go_ret
      exact ⟨ret_int HV.out.symm, BelD.refl _ _⟩
    · have HV := Lib.hid (show cmpS a b = 1 by rw [cmpS, h1, h2]; rfl)
      have H1 := Lib.hid h1
      have H2 := Lib.hid h2
      clear h1 h2
      go_enter Try.func79, Try.ntmps79
      go_wp2_with fail
      refine (nmay_any _ _ ha).mono ?_; rintro e w' ⟨rfl, rfl⟩
      rw [H1.out]
      go_wp2_with fail
      refine (nmay_any _ _ hb).mono ?_; rintro e w' ⟨rfl, rfl⟩
      rw [H2.out]
      go_wp2
      go_ret
      exact ⟨ret_int HV.out.symm, BelD.refl _ _⟩
  · cases h2 : mayN b
    · have HV := Lib.hid (show cmpS a b = -1 by rw [cmpS, h1, h2]; rfl)
      have H1 := Lib.hid h1
      have H2 := Lib.hid h2
      clear h1 h2
      go_enter Try.func79, Try.ntmps79
      go_wp2_with fail
      refine (nmay_any _ _ ha).mono ?_; rintro e w' ⟨rfl, rfl⟩
      rw [H1.out]
      go_wp2_with fail
      refine (nmay_any _ _ hb).mono ?_; rintro e w' ⟨rfl, rfl⟩
      rw [H2.out]
      go_wp2
      go_ret
      exact ⟨ret_int HV.out.symm, BelD.refl _ _⟩
    · obtain ⟨k1, k2, k3⟩ := labs_spec h1
      obtain ⟨g1, g2, g3⟩ := labs_spec h2
      have hc := compareD_yy (labs a) (labs b) w k1 g1 k2 g2
      rw [← k3, ← g3] at hc
      rw [show cmpS a b = cmpN (labs a) (labs b) by rw [cmpS, h1, h2]; rfl]
      exact hc
end Go.Proofs.Ythfnphcefkdgbaa
end

section
namespace Go.Proofs.Ythfnphcefkdgbaa
open Go.RowKit

/-- A key. -/
structure Ky where
  n : ByteArray
  t : Int
  c : Int
/-- A record. -/
structure R5 where
  k : Ky
  ttl : Int
  d : ByteArray
def encK (k : Ky) : List Value := [.string k.n, .int .i64 k.t, .int .i64 k.c]
def encR (r : R5) : List Value := [.string r.k.n, .int .i64 r.k.t, .int .i64 r.k.c, .int .i64 r.ttl, .string r.d]
/-- The first that is not 0. -/
def orI : List Int → Int
  | [] => 0
  | x :: l => if x = 0 then orI l else x
noncomputable def kcmp (a b : Ky) : Int := orI [cmpS a.n b.n, Lib.compareInt a.c b.c, Lib.compareInt a.t b.t]
noncomputable def rcmp (a b : R5) : Int := orI [kcmp a.k b.k, cmpB a.d b.d]

set_option maxRecDepth 100000 in
theorem or_any (a : Option Addr) (n c : Nat) (l : List Int) (w : World) (h : Row w a n l) (hn : n ≤ 1000) : Calls Try.prog 78 #[.slice a n c] w fun e w' => e = .returned (.int .i64 (orI l)) ∧ w = w' := by
  have HR := Lib.hid h
  have HL := Lib.hid h.1
  clear h
  go_enter Try.func78, Try.ntmps78
  go_wp2_with fail
  go_loopw [8] (fun i wr => ∃ k : Nat, k ≤ n ∧ i = .int .i64 k ∧ Hid (orI l = orI (l.drop k)) ∧ w = wr) (fun i _ => n - (intOf i).toNat)
  case atStart => exact ⟨0, Nat.zero_le _, rfl, rfl, rfl⟩
  case round =>
    obtain ⟨k, hk, rfl, ho, rfl⟩ := hrel
    by_cases hlt : k < n
    · rcases HR.out.2 with h0 | ⟨b, off, rfl, hb, hc⟩
      · omega
      have c0 := hc k hlt
      have hd : l.drop k = l.getD k 0 :: l.drop (k + 1) := by
        rw [List.drop_eq_getElem_cons (by have := HL.out; omega), List.getD_eq_getElem?_getD, List.getElem?_eq_getElem (by have := HL.out; omega)]
        rfl
      have ho2 := ho.out
      rw [hd, orI] at ho2
      obtain ⟨x, hx⟩ : ∃ x, l.getD k 0 = x := ⟨_, rfl⟩
      rw [hx] at c0 ho2
      clear hc hd hx
      by_cases hx0 : x = 0
      · subst hx0
        rw [if_pos rfl] at ho2
        have HO2 := Lib.hid ho2
        clear ho2 ho
        go_wp2
        go_roundw
        case rel => exact ⟨k + 1, by omega, by go_num, HO2.out, trivial⟩
        case measure => simp [intOf]; omega
      · rw [if_neg hx0] at ho2
        have HO2 := Lib.hid ho2
        have e0 : (x != 0) = true := nT hx0
        clear ho2 ho hx0
        go_wp2
        go_ret
        exact ⟨ret_int HO2.out.symm, rfl⟩
    · have hkn : k = n := by omega
      have HO := Lib.hid (show orI l = 0 by rw [ho.out, hkn, ← HL.out, List.drop_length]; rfl)
      subst hkn
      clear ho
      go_wp2
      go_ret
      exact ⟨ret_int HO.out.symm, rfl⟩

set_option maxRecDepth 100000 in
theorem keyOf_any (r : R5) (w : World) : Calls Try.prog 132 #[.agg #[.string r.k.n, .int .i64 r.k.t, .int .i64 r.k.c, .int .i64 r.ttl, .string r.d]] w fun e w' => e = .returned (.agg #[.string r.k.n, .int .i64 r.k.t, .int .i64 r.k.c]) ∧ BelD w.heap.size w w' := by
  obtain ⟨⟨n, t, c⟩, ttl, d⟩ := r
  go_enter Try.func132, Try.ntmps132
  go_wp2
  refine bodyPost_ret (v := .agg #[.string n, .int .i64 t, .int .i64 c]) (by simp [results, Try.results132, go_sem]) rfl ⟨rfl, ?_⟩
  repeat (first | exact BelD.refl _ _ | apply BelD.drew | refine BelD.alloc ?_ (by simp) _ | refine BelD.setCell ?_ (by simp) _)

def KyAt (w : World) (q : Nat) (k : Ky) : Prop := q < w.heap.size ∧ w.cell? ⟨q, 0, none⟩ = some (.string k.n) ∧ w.cell? ⟨q, 1, none⟩ = some (.int .i64 k.t) ∧ w.cell? ⟨q, 2, none⟩ = some (.int .i64 k.c)
theorem KyAt.below {w w' : World} {q : Nat} {k : Ky} (h : KyAt w q k) (hb : Below w.heap.size w w') : KyAt w' q k := by
  obtain ⟨h0, h1, h2, h3⟩ := h
  exact ⟨Nat.lt_of_lt_of_le h0 hb.size, (hb.cell h0).trans h1, (hb.cell h0).trans h2, (hb.cell h0).trans h3⟩
theorem row2_lit (w : World) (x y : Int) (T : TypeId) : Row (w.alloc (.cells #[.int .i64 x, .int .i64 y] T)) (some ⟨w.heap.size, 0, none⟩) 2 [x, y] := by
  refine ⟨rfl, Or.inr ⟨_, 0, rfl, by simp, fun j hj => ?_⟩⟩
  match j, hj with
  | 0, _ => simp [World.cell?_alloc_at]
  | 1, _ => simp [World.cell?_alloc_at]
theorem row3_lit (w : World) (x y z : Int) (T : TypeId) : Row (w.alloc (.cells #[.int .i64 x, .int .i64 y, .int .i64 z] T)) (some ⟨w.heap.size, 0, none⟩) 3 [x, y, z] := by
  refine ⟨rfl, Or.inr ⟨_, 0, rfl, by simp, fun j hj => ?_⟩⟩
  match j, hj with
  | 0, _ => simp [World.cell?_alloc_at]
  | 1, _ => simp [World.cell?_alloc_at]
  | 2, _ => simp [World.cell?_alloc_at]
def KP (w : World) (q1 q2 : Nat) (a b : Ky) (wx : World) : Prop := BelD w.heap.size w wx ∧ KyAt wx q1 a ∧ KyAt wx q2 b
theorem KP.shown {w wx : World} {q1 q2 : Nat} {a b : Ky} (h : KP w q1 q2 a b wx) : Hid (KP w q1 q2 a b wx) ∧ wx.cell? ⟨q1, 0, none⟩ = some (.string a.n) ∧ wx.cell? ⟨q1, 1, none⟩ = some (.int .i64 a.t) ∧ wx.cell? ⟨q1, 2, none⟩ = some (.int .i64 a.c) ∧ wx.cell? ⟨q2, 0, none⟩ = some (.string b.n) ∧ wx.cell? ⟨q2, 1, none⟩ = some (.int .i64 b.t) ∧ wx.cell? ⟨q2, 2, none⟩ = some (.int .i64 b.c) :=
  ⟨h, h.2.1.2.1, h.2.1.2.2.1, h.2.1.2.2.2, h.2.2.2.1, h.2.2.2.2.1, h.2.2.2.2.2⟩
theorem KP.next {w wx wy : World} {q1 q2 : Nat} {a b : Ky} (hb : BelD wx.heap.size wx wy) (h : Hid (KP w q1 q2 a b wx) ∧ wx.cell? ⟨q1, 0, none⟩ = some (.string a.n) ∧ wx.cell? ⟨q1, 1, none⟩ = some (.int .i64 a.t) ∧ wx.cell? ⟨q1, 2, none⟩ = some (.int .i64 a.c) ∧ wx.cell? ⟨q2, 0, none⟩ = some (.string b.n) ∧ wx.cell? ⟨q2, 1, none⟩ = some (.int .i64 b.t) ∧ wx.cell? ⟨q2, 2, none⟩ = some (.int .i64 b.c)) : Hid (KP w q1 q2 a b wy) ∧ wy.cell? ⟨q1, 0, none⟩ = some (.string a.n) ∧ wy.cell? ⟨q1, 1, none⟩ = some (.int .i64 a.t) ∧ wy.cell? ⟨q1, 2, none⟩ = some (.int .i64 a.c) ∧ wy.cell? ⟨q2, 0, none⟩ = some (.string b.n) ∧ wy.cell? ⟨q2, 1, none⟩ = some (.int .i64 b.t) ∧ wy.cell? ⟨q2, 2, none⟩ = some (.int .i64 b.c) :=
  have h0 := h.1.out
  KP.shown ⟨h0.1.trans (hb.mono h0.1.size), h0.2.1.below hb.b, h0.2.2.below hb.b⟩

theorem KP.get {w wx : World} {q1 q2 : Nat} {a b : Ky} (h : Hid (KP w q1 q2 a b wx) ∧ wx.cell? ⟨q1, 0, none⟩ = some (.string a.n) ∧ wx.cell? ⟨q1, 1, none⟩ = some (.int .i64 a.t) ∧ wx.cell? ⟨q1, 2, none⟩ = some (.int .i64 a.c) ∧ wx.cell? ⟨q2, 0, none⟩ = some (.string b.n) ∧ wx.cell? ⟨q2, 1, none⟩ = some (.int .i64 b.t) ∧ wx.cell? ⟨q2, 2, none⟩ = some (.int .i64 b.c)) : BelD w.heap.size w wx := h.1.out.1
theorem kyAt_new (w : World) (k : Ky) (T : TypeId) : KyAt (w.alloc (.cells #[.string k.n, .int .i64 k.t, .int .i64 k.c] T)) w.heap.size k := ⟨by simp, by simp [World.cell?_alloc_at], by simp [World.cell?_alloc_at], by simp [World.cell?_alloc_at]⟩

set_option maxRecDepth 100000 in
set_option maxHeartbeats 4000000 in
theorem kcompare_any (a b : Ky) (w : World) (ha : a.n.size ≤ 1000000) (hb : b.n.size ≤ 1000000) : Calls Try.prog 47 #[.agg #[.string a.n, .int .i64 a.t, .int .i64 a.c], .agg #[.string b.n, .int .i64 b.t, .int .i64 b.c]] w fun e w' => e = .returned (.int .i64 (kcmp a b)) ∧ BelD w.heap.size w w' := by
  obtain ⟨an, at', ac⟩ := a
  obtain ⟨bn, bt, bc'⟩ := b
  have HV := Lib.hid (show kcmp ⟨an, at', ac⟩ ⟨bn, bt, bc'⟩ = orI [cmpS an bn, Lib.compareInt ac bc', Lib.compareInt at' bt] from rfl)
  have HC := Lib.hid (fun wx => compareD_any an bn wx ha hb)
  obtain ⟨v1, hv1⟩ : ∃ x, cmpS an bn = x := ⟨_, rfl⟩
  have HI2 := Lib.hid (fun wx => icompare_any ac bc' wx)
  have HI3 := Lib.hid (fun wx => icompare_any at' bt wx)
  obtain ⟨v2, hv2⟩ : ∃ x, Lib.compareInt ac bc' = x := ⟨_, rfl⟩
  obtain ⟨v3, hv3⟩ : ∃ x, Lib.compareInt at' bt = x := ⟨_, rfl⟩
  rw [hv1, hv2, hv3] at HV
  rw [hv1] at HC
  rw [hv2] at HI2
  rw [hv3] at HI3
  clear hv1 hv2 hv3 ha hb
  go_enter Try.func47, Try.ntmps47
  go_wp2_with fail
  have hK0 : KP w w.heap.size (w.heap.size + 1) ⟨an, at', ac⟩ ⟨bn, bt, bc'⟩ ((w.alloc (.cells #[.string an, .int .i64 at', .int .i64 ac] 31)).alloc (.cells #[.string bn, .int .i64 bt, .int .i64 bc'] 31)) := by
    refine ⟨((BelD.refl _ _).alloc (Nat.le_refl _) _).alloc (by simp) _, (kyAt_new w ⟨an, at', ac⟩ _).below ((Below.refl _ _).alloc (Nat.le_refl _) _), ?_⟩
    have h := kyAt_new (w.alloc (.cells #[.string an, .int .i64 at', .int .i64 ac] 31)) ⟨bn, bt, bc'⟩ 31
    rw [World.size_alloc] at h
    exact h
  obtain ⟨w2, hw2⟩ : ∃ x, ((w.alloc (.cells #[.string an, .int .i64 at', .int .i64 ac] 31)).alloc (.cells #[.string bn, .int .i64 bt, .int .i64 bc'] 31)) = x := ⟨_, rfl⟩
  rw [hw2] at hK0 ⊢
  obtain ⟨q2, hq2⟩ : ∃ q, w.heap.size + 1 = q := ⟨_, rfl⟩
  obtain ⟨q1, hq1⟩ : ∃ q, w.heap.size = q := ⟨_, rfl⟩
  rw [hq2] at hK0 ⊢
  have hK1 : KP w q1 q2 ⟨an, at', ac⟩ ⟨bn, bt, bc'⟩ w2 := by rw [← hq1]; exact hK0
  have HK := Lib.hid (KP.next ((BelD.refl w2.heap.size w2).drew) (KP.shown hK1))
  have HE := Lib.hid hq1
  rw [show (Value.pointer (some { block := w.heap.size, off := 0 })) = Value.pointer (some { block := q1, off := 0 }) by rw [hq1]]
  clear hK0 hK1 hw2 hq2 hq1
  go_region_held3 (fun wx => Hid (KP w q1 q2 ⟨an, at', ac⟩ ⟨bn, bt, bc'⟩ wx) ∧ wx.cell? ⟨q1, 0, none⟩ = some (.string an) ∧ wx.cell? ⟨q1, 1, none⟩ = some (.int .i64 at') ∧ wx.cell? ⟨q1, 2, none⟩ = some (.int .i64 ac) ∧ wx.cell? ⟨q2, 0, none⟩ = some (.string bn) ∧ wx.cell? ⟨q2, 1, none⟩ = some (.int .i64 bt) ∧ wx.cell? ⟨q2, 2, none⟩ = some (.int .i64 bc')) (first | (exact HK.out) | assumption | (refine KP.next hb ?_; assumption) | (refine KP.next ((BelD.refl _ _).alloc (Nat.le_refl _) _) ?_; assumption))
    (first
      | (go_at_call 79; refine (HC.out _).mono ?_; rintro e wy ⟨rfl, hb⟩)
      | (go_at_call 80; first | (with_reducible refine (HI2.out _).mono ?_; rintro e wy ⟨rfl, rfl⟩) | (with_reducible refine (HI3.out _).mono ?_; rintro e wy ⟨rfl, rfl⟩))
      | (go_at_call 78; refine (or_any _ 3 3 [v1, v2, v3] _ (row3_lit _ _ _ _ _) (by omega)).mono ?_; rintro e wy ⟨rfl, rfl⟩))
  all_goals
    go_wp2
    go_ret
    refine ⟨ret_int HV.out.symm, KP.get (q1 := q1) (q2 := q2) (a := ⟨an, at', ac⟩) (b := ⟨bn, bt, bc'⟩) ?_⟩
    assumption
end Go.Proofs.Ythfnphcefkdgbaa
end

section
namespace Go.Proofs.Ythfnphcefkdgbaa
open Go.RowKit

/-- A set. -/
structure SetP where
  k : Ky
  ttl : Int
  data : List ByteArray
def encS (p : SetP × Value) : List Value := [.string p.1.k.n, .int .i64 p.1.k.t, .int .i64 p.1.k.c, .int .i64 p.1.ttl, p.2]
def flatS (L : List (SetP × Value)) : List Value := L.flatMap encS
theorem encS_len (p : SetP × Value) : (encS p).length = 5 := rfl
theorem flatS_len (L : List (SetP × Value)) : (flatS L).length = L.length * 5 := by
  induction L with
  | nil => rfl
  | cons x l ih => rw [flatS, List.flatMap_cons, List.length_append, encS_len]; show 5 + (flatS l).length = _; rw [ih, List.length_cons]; omega
theorem flatS_append (A B : List (SetP × Value)) : flatS (A ++ B) = flatS A ++ flatS B := List.flatMap_append
/-- The records of sets. -/
def recs (s : SetP) : List R5 := s.data.map fun d => ⟨s.k, s.ttl, d⟩
def flatP (S : List SetP) : List R5 := S.flatMap recs
def rr0 : R5 := ⟨⟨⟨#[]⟩, 0, 0⟩, 0, ⟨#[]⟩⟩
end Go.Proofs.Ythfnphcefkdgbaa
end

section
namespace Go.Proofs.Ythfnphcefkdgbaa
open Go.RowKit

def RRAt5 (w : World) (q : Nat) (r : R5) : Prop := q < w.heap.size ∧ w.cell? ⟨q, 0, none⟩ = some (.string r.k.n) ∧ w.cell? ⟨q, 1, none⟩ = some (.int .i64 r.k.t) ∧ w.cell? ⟨q, 2, none⟩ = some (.int .i64 r.k.c) ∧ w.cell? ⟨q, 3, none⟩ = some (.int .i64 r.ttl) ∧ w.cell? ⟨q, 4, none⟩ = some (.string r.d)
theorem RRAt5.below {w w' : World} {q : Nat} {r : R5} (h : RRAt5 w q r) (hb : Below w.heap.size w w') : RRAt5 w' q r := by
  obtain ⟨h0, h1, h2, h3, h4, h5⟩ := h
  exact ⟨Nat.lt_of_lt_of_le h0 hb.size, (hb.cell h0).trans h1, (hb.cell h0).trans h2, (hb.cell h0).trans h3, (hb.cell h0).trans h4, (hb.cell h0).trans h5⟩
theorem rrAt5_new (w : World) (r : R5) (T : TypeId) : RRAt5 (w.alloc (.cells #[.string r.k.n, .int .i64 r.k.t, .int .i64 r.k.c, .int .i64 r.ttl, .string r.d] T)) w.heap.size r := ⟨by simp, by simp [World.cell?_alloc_at], by simp [World.cell?_alloc_at], by simp [World.cell?_alloc_at], by simp [World.cell?_alloc_at], by simp [World.cell?_alloc_at]⟩
theorem keyOf' (n : ByteArray) (t c u : Int) (d : ByteArray) (w : World) : Calls Try.prog 132 #[.agg #[.string n, .int .i64 t, .int .i64 c, .int .i64 u, .string d]] w fun e w' => e = .returned (.agg #[.string n, .int .i64 t, .int .i64 c]) ∧ BelD w.heap.size w w' := keyOf_any ⟨⟨n, t, c⟩, u, d⟩ w
theorem kcompare' (an : ByteArray) (at1 ac : Int) (bn : ByteArray) (bt bk : Int) (w : World) (ha : an.size ≤ 1000000) (hb : bn.size ≤ 1000000) : Calls Try.prog 47 #[.agg #[.string an, .int .i64 at1, .int .i64 ac], .agg #[.string bn, .int .i64 bt, .int .i64 bk]] w fun e w' => e = .returned (.int .i64 (kcmp ⟨an, at1, ac⟩ ⟨bn, bt, bk⟩)) ∧ BelD w.heap.size w w' := kcompare_any ⟨an, at1, ac⟩ ⟨bn, bt, bk⟩ w ha hb
def RP (w : World) (q1 q2 : Nat) (a b : R5) (wx : World) : Prop := BelD w.heap.size w wx ∧ RRAt5 wx q1 a ∧ RRAt5 wx q2 b
theorem RP.shown {w wx : World} {q1 q2 : Nat} {a b : R5} (h : RP w q1 q2 a b wx) : Hid (RP w q1 q2 a b wx) ∧ wx.cell? ⟨q1, 0, none⟩ = some (.string a.k.n) ∧ wx.cell? ⟨q1, 1, none⟩ = some (.int .i64 a.k.t) ∧ wx.cell? ⟨q1, 2, none⟩ = some (.int .i64 a.k.c) ∧ wx.cell? ⟨q1, 3, none⟩ = some (.int .i64 a.ttl) ∧ wx.cell? ⟨q1, 4, none⟩ = some (.string a.d) ∧ wx.cell? ⟨q2, 0, none⟩ = some (.string b.k.n) ∧ wx.cell? ⟨q2, 1, none⟩ = some (.int .i64 b.k.t) ∧ wx.cell? ⟨q2, 2, none⟩ = some (.int .i64 b.k.c) ∧ wx.cell? ⟨q2, 3, none⟩ = some (.int .i64 b.ttl) ∧ wx.cell? ⟨q2, 4, none⟩ = some (.string b.d) := by
  have h' := Lib.hid h
  obtain ⟨_, ⟨_, h1, h2, h3, h4, h5⟩, ⟨_, g1, g2, g3, g4, g5⟩⟩ := h
  exact ⟨h', h1, h2, h3, h4, h5, g1, g2, g3, g4, g5⟩
theorem RP.next {w wx wy : World} {q1 q2 : Nat} {a b : R5} (hb : BelD wx.heap.size wx wy) (h : Hid (RP w q1 q2 a b wx) ∧ wx.cell? ⟨q1, 0, none⟩ = some (.string a.k.n) ∧ wx.cell? ⟨q1, 1, none⟩ = some (.int .i64 a.k.t) ∧ wx.cell? ⟨q1, 2, none⟩ = some (.int .i64 a.k.c) ∧ wx.cell? ⟨q1, 3, none⟩ = some (.int .i64 a.ttl) ∧ wx.cell? ⟨q1, 4, none⟩ = some (.string a.d) ∧ wx.cell? ⟨q2, 0, none⟩ = some (.string b.k.n) ∧ wx.cell? ⟨q2, 1, none⟩ = some (.int .i64 b.k.t) ∧ wx.cell? ⟨q2, 2, none⟩ = some (.int .i64 b.k.c) ∧ wx.cell? ⟨q2, 3, none⟩ = some (.int .i64 b.ttl) ∧ wx.cell? ⟨q2, 4, none⟩ = some (.string b.d)) : Hid (RP w q1 q2 a b wy) ∧ wy.cell? ⟨q1, 0, none⟩ = some (.string a.k.n) ∧ wy.cell? ⟨q1, 1, none⟩ = some (.int .i64 a.k.t) ∧ wy.cell? ⟨q1, 2, none⟩ = some (.int .i64 a.k.c) ∧ wy.cell? ⟨q1, 3, none⟩ = some (.int .i64 a.ttl) ∧ wy.cell? ⟨q1, 4, none⟩ = some (.string a.d) ∧ wy.cell? ⟨q2, 0, none⟩ = some (.string b.k.n) ∧ wy.cell? ⟨q2, 1, none⟩ = some (.int .i64 b.k.t) ∧ wy.cell? ⟨q2, 2, none⟩ = some (.int .i64 b.k.c) ∧ wy.cell? ⟨q2, 3, none⟩ = some (.int .i64 b.ttl) ∧ wy.cell? ⟨q2, 4, none⟩ = some (.string b.d) :=
  have h0 := h.1.out
  RP.shown ⟨h0.1.trans (hb.mono h0.1.size), h0.2.1.below hb.b, h0.2.2.below hb.b⟩
theorem RP.get {w wx : World} {q1 q2 : Nat} {a b : R5} (h : Hid (RP w q1 q2 a b wx) ∧ wx.cell? ⟨q1, 0, none⟩ = some (.string a.k.n) ∧ wx.cell? ⟨q1, 1, none⟩ = some (.int .i64 a.k.t) ∧ wx.cell? ⟨q1, 2, none⟩ = some (.int .i64 a.k.c) ∧ wx.cell? ⟨q1, 3, none⟩ = some (.int .i64 a.ttl) ∧ wx.cell? ⟨q1, 4, none⟩ = some (.string a.d) ∧ wx.cell? ⟨q2, 0, none⟩ = some (.string b.k.n) ∧ wx.cell? ⟨q2, 1, none⟩ = some (.int .i64 b.k.t) ∧ wx.cell? ⟨q2, 2, none⟩ = some (.int .i64 b.k.c) ∧ wx.cell? ⟨q2, 3, none⟩ = some (.int .i64 b.ttl) ∧ wx.cell? ⟨q2, 4, none⟩ = some (.string b.d)) : BelD w.heap.size w wx := h.1.out.1

set_option maxRecDepth 100000 in
set_option maxHeartbeats 4000000 in
theorem rcompare5 (a b : R5) (w : World) (ha : a.k.n.size ≤ 1000000) (hb : b.k.n.size ≤ 1000000) : Calls Try.prog 131 #[.agg #[.string a.k.n, .int .i64 a.k.t, .int .i64 a.k.c, .int .i64 a.ttl, .string a.d], .agg #[.string b.k.n, .int .i64 b.k.t, .int .i64 b.k.c, .int .i64 b.ttl, .string b.d]] w fun e w' => e = .returned (.int .i64 (rcmp a b)) ∧ BelD w.heap.size w w' := by
  obtain ⟨⟨an, at1, ac⟩, au, ad⟩ := a
  obtain ⟨⟨bn, bt, bk⟩, bu, bd⟩ := b
  have HV := Lib.hid (show rcmp ⟨⟨an, at1, ac⟩, au, ad⟩ ⟨⟨bn, bt, bk⟩, bu, bd⟩ = orI [kcmp ⟨an, at1, ac⟩ ⟨bn, bt, bk⟩, cmpB ad bd] from rfl)
  have HC := Lib.hid (fun wx => kcompare' an at1 ac bn bt bk wx ha hb)
  have HS := Lib.hid (show ∀ wx, Calls Try.prog 109 #[.string ad, .string bd] wx fun e w' => e = .returned (.int .i64 (cmpB ad bd)) ∧ w' = wx from fun wx => scompare_any ad bd wx)
  have HK1 := Lib.hid (fun wx => keyOf' an at1 ac au ad wx)
  have HK2 := Lib.hid (fun wx => keyOf' bn bt bk bu bd wx)
  obtain ⟨v1, hv1⟩ : ∃ x, kcmp ⟨an, at1, ac⟩ ⟨bn, bt, bk⟩ = x := ⟨_, rfl⟩
  obtain ⟨v2, hv2⟩ : ∃ x, cmpB ad bd = x := ⟨_, rfl⟩
  rw [hv1, hv2] at HV
  rw [hv1] at HC
  rw [hv2] at HS
  clear hv1 hv2 ha hb
  have hK0 : RP w w.heap.size (w.heap.size + 1) ⟨⟨an, at1, ac⟩, au, ad⟩ ⟨⟨bn, bt, bk⟩, bu, bd⟩ ((w.alloc (.cells #[.string an, .int .i64 at1, .int .i64 ac, .int .i64 au, .string ad] 87)).alloc (.cells #[.string bn, .int .i64 bt, .int .i64 bk, .int .i64 bu, .string bd] 87)) := by
    refine ⟨((BelD.refl _ _).alloc (Nat.le_refl _) _).alloc (by simp) _, (rrAt5_new w ⟨⟨an, at1, ac⟩, au, ad⟩ _).below ((Below.refl _ _).alloc (Nat.le_refl _) _), ?_⟩
    have h := rrAt5_new (w.alloc (.cells #[.string an, .int .i64 at1, .int .i64 ac, .int .i64 au, .string ad] 87)) ⟨⟨bn, bt, bk⟩, bu, bd⟩ 87
    rw [World.size_alloc] at h
    exact h
  go_enter Try.func131, Try.ntmps131
  go_wp2_with fail
  obtain ⟨w2, hw2⟩ : ∃ x, ((w.alloc (.cells #[.string an, .int .i64 at1, .int .i64 ac, .int .i64 au, .string ad] 87)).alloc (.cells #[.string bn, .int .i64 bt, .int .i64 bk, .int .i64 bu, .string bd] 87)) = x := ⟨_, rfl⟩
  rw [hw2] at hK0 ⊢
  obtain ⟨q2, hq2⟩ : ∃ q, w.heap.size + 1 = q := ⟨_, rfl⟩
  obtain ⟨q1, hq1⟩ : ∃ q, w.heap.size = q := ⟨_, rfl⟩
  rw [hq2] at hK0 ⊢
  have hK1 : RP w q1 q2 ⟨⟨an, at1, ac⟩, au, ad⟩ ⟨⟨bn, bt, bk⟩, bu, bd⟩ w2 := by rw [← hq1]; exact hK0
  have HK := Lib.hid (RP.next ((BelD.refl w2.heap.size w2).drew) (RP.shown hK1))
  rw [show (Value.pointer (some { block := w.heap.size, off := 0 })) = Value.pointer (some { block := q1, off := 0 }) by rw [hq1]]
  clear hK0 hK1 hw2 hq2 hq1
  go_region_held3 (fun wx => Hid (RP w q1 q2 ⟨⟨an, at1, ac⟩, au, ad⟩ ⟨⟨bn, bt, bk⟩, bu, bd⟩ wx) ∧ wx.cell? ⟨q1, 0, none⟩ = some (.string an) ∧ wx.cell? ⟨q1, 1, none⟩ = some (.int .i64 at1) ∧ wx.cell? ⟨q1, 2, none⟩ = some (.int .i64 ac) ∧ wx.cell? ⟨q1, 3, none⟩ = some (.int .i64 au) ∧ wx.cell? ⟨q1, 4, none⟩ = some (.string ad) ∧ wx.cell? ⟨q2, 0, none⟩ = some (.string bn) ∧ wx.cell? ⟨q2, 1, none⟩ = some (.int .i64 bt) ∧ wx.cell? ⟨q2, 2, none⟩ = some (.int .i64 bk) ∧ wx.cell? ⟨q2, 3, none⟩ = some (.int .i64 bu) ∧ wx.cell? ⟨q2, 4, none⟩ = some (.string bd)) (first | (exact HK.out) | assumption | (refine RP.next hb ?_; assumption) | (refine RP.next ((BelD.refl _ _).alloc (Nat.le_refl _) _) ?_; assumption))
    (first
      | (go_at_call 132; first | (with_reducible refine (HK1.out _).mono ?_; rintro e wy ⟨rfl, hb⟩) | (with_reducible refine (HK2.out _).mono ?_; rintro e wy ⟨rfl, hb⟩))
      | (go_at_call 47; refine (HC.out _).mono ?_; rintro e wy ⟨rfl, hb⟩)
      | (go_at_call 109; refine (HS.out _).mono ?_; rintro e wy ⟨rfl, rfl⟩)
      | (go_at_call 78; refine (or_any _ 2 2 [v1, v2] _ (row2_lit _ _ _ _) (by omega)).mono ?_; rintro e wy ⟨rfl, rfl⟩))
  all_goals
    go_wp2
    go_ret
    refine ⟨ret_int HV.out.symm, RP.get (q1 := q1) (q2 := q2) (a := ⟨⟨an, at1, ac⟩, au, ad⟩) (b := ⟨⟨bn, bt, bk⟩, bu, bd⟩) ?_⟩
    assumption
end Go.Proofs.Ythfnphcefkdgbaa
end

section
namespace Go.Proofs.Ythfnphcefkdgbaa
open Go.RowKit

structure IsPre {α : Type} (f : α → α → Int) : Prop where
  rng : ∀ a b, f a b = -1 ∨ f a b = 0 ∨ f a b = 1
  anti : ∀ a b, f b a = - f a b
  trans : ∀ a b c, f a b ≤ 0 → f b c ≤ 0 → f a c ≤ 0
theorem IsOrd.pre {α : Type} {f : α → α → Int} (h : IsOrd f) : IsPre f := ⟨h.rng, h.anti, h.trans⟩
theorem IsPre.comap {α β : Type} {f : α → α → Int} (h : IsPre f) (g : β → α) : IsPre (fun a b => f (g a) (g b)) := ⟨fun _ _ => h.rng _ _, fun _ _ => h.anti _ _, fun _ _ _ => h.trans _ _ _⟩
theorem IsPre.lex {α : Type} {f g : α → α → Int} (hf : IsPre f) (hg : IsPre g) : IsPre (fun a b => if f a b = 0 then g a b else f a b) where
  rng a b := by
    split
    · exact hg.rng a b
    · exact hf.rng a b
  anti a b := by
    have := hf.anti a b
    by_cases h : f a b = 0
    · rw [if_pos h, if_pos (by omega)]; exact hg.anti a b
    · rw [if_neg h, if_neg (by omega)]; exact this
  trans a b c := by
    intro h1 h2
    have a1 := hf.anti a b
    have a2 := hf.anti b c
    have a3 := hf.anti a c
    have t1 := hf.trans a b c
    have t2 := hf.trans c a b
    have t3 := hf.trans b c a
    have t4 := hf.trans c b a
    have g1 := hg.trans a b c
    by_cases k1 : f a b = 0
    · rw [if_pos k1] at h1
      by_cases k2 : f b c = 0
      · rw [if_pos k2] at h2
        rw [if_pos (by omega)]
        exact g1 h1 h2
      · rw [if_neg k2] at h2
        rw [if_neg (by omega)]
        omega
    · rw [if_neg k1] at h1
      by_cases k2 : f b c = 0
      · rw [if_neg (by omega)]
        omega
      · rw [if_neg k2] at h2
        rw [if_neg (by omega)]
        omega
theorem ord_int : IsOrd Lib.compareInt where
  rng a b := by unfold Lib.compareInt; (repeat' split) <;> simp
  anti a b := by unfold Lib.compareInt; (repeat' split) <;> omega
  zero a b := by unfold Lib.compareInt; (repeat' split) <;> omega
  trans a b c := by unfold Lib.compareInt; (repeat' split) <;> omega
theorem or2 (x y : Int) : orI [x, y] = if x = 0 then y else x := by
  simp only [orI]
  split
  · split <;> omega
  · rfl
theorem or3 (x y z : Int) : orI [x, y, z] = if x = 0 then (if y = 0 then z else y) else x := by
  rw [← or2 y z]; rfl
theorem ord_kcmp : IsOrd kcmp := by
  have h := (ord_cmpS.pre.comap Ky.n).lex ((ord_int.pre.comap Ky.c).lex (ord_int.pre.comap Ky.t))
  have e : kcmp = fun a b => if cmpS a.n b.n = 0 then (if Lib.compareInt a.c b.c = 0 then Lib.compareInt a.t b.t else Lib.compareInt a.c b.c) else cmpS a.n b.n := by
    funext a b; rw [kcmp, or3]
  refine ⟨by rw [e]; exact h.rng, by rw [e]; exact h.anti, fun a b => ?_, by rw [e]; exact h.trans⟩
  rw [e]
  show (if cmpS a.n b.n = 0 then (if Lib.compareInt a.c b.c = 0 then Lib.compareInt a.t b.t else Lib.compareInt a.c b.c) else cmpS a.n b.n) = 0 ↔ a = b
  obtain ⟨an, at1, ac⟩ := a
  obtain ⟨bn, bt, bk⟩ := b
  have h1 := ord_cmpS.zero an bn
  have h2 := ord_int.zero ac bk
  have h3 := ord_int.zero at1 bt
  simp only [Ky.mk.injEq]
  constructor
  · intro h
    by_cases k1 : cmpS an bn = 0
    · rw [if_pos k1] at h
      by_cases k2 : Lib.compareInt ac bk = 0
      · rw [if_pos k2] at h
        exact ⟨h1.1 k1, h3.1 h, h2.1 k2⟩
      · rw [if_neg k2] at h; exact absurd h k2
    · rw [if_neg k1] at h; exact absurd h k1
  · rintro ⟨rfl, rfl, rfl⟩
    rw [if_pos (h1.2 rfl), if_pos (h2.2 rfl)]
    exact h3.2 rfl
theorem pre_rcmp : IsPre rcmp := by
  have h := (ord_kcmp.pre.comap R5.k).lex (ord_cmpB.pre.comap R5.d)
  have e : rcmp = fun a b => if kcmp a.k b.k = 0 then cmpB a.d b.d else kcmp a.k b.k := by
    funext a b; rw [rcmp, or2]
  rw [e]; exact h
theorem IsPre.swo {α : Type} {f : α → α → Int} (h : IsPre f) : Sort.SWO (fun a b => decide (f a b < 0)) where
  irrefl x := by
    have := h.anti x x
    exact decide_eq_false (by omega)
  trans x y z h1 h2 := by
    have h1 := of_decide_eq_true h1
    have h2 := of_decide_eq_true h2
    have t1 := h.trans x y z
    have t2 := h.trans z x y
    have a1 := h.anti x z
    have a2 := h.anti y z
    exact decide_eq_true (by omega)
  ntrans x y z h1 h2 := by
    have h1 := of_decide_eq_false h1
    have h2 := of_decide_eq_false h2
    have t1 := h.trans z y x
    have a1 := h.anti x y
    have a2 := h.anti y z
    have a3 := h.anti x z
    exact decide_eq_false (by omega)
end Go.Proofs.Ythfnphcefkdgbaa
end

section
namespace Go.Proofs.Ythfnphcefkdgbaa
open Go.RowKit

theorem key_equal (an bn : ByteArray) (at1 ac bt bk : Int) (W : World) : (Op.equalIn 10000 31 (.agg #[.string an, .int .i64 at1, .int .i64 ac]) (.agg #[.string bn, .int .i64 bt, .int .i64 bk])).run Try.prog W = .ok (an.toList == bn.toList && (at1 == bt && ac == bk)) W := by
  have u3 := Try.underlying3
  have a3 := Try.isAgg3
  have z3 := Try.sizeOf3
  have u9 := Try.underlying9
  have a9 := Try.isAgg9
  have z9 := Try.sizeOf9
  have hS : Try.prog.underlying 31 = some (.struct (Try.prog.fieldsOf 31)) := by
    simp [Program.fieldsOf, Try.underlying31]
  rw [show (10000 : Nat) = 9999 + 1 from rfl, run_equalIn_agg W 9999 31 _ _ hS (by kernel_rfl)]
  simp only [Program.fieldsOf, Try.underlying31]
  go_simp
  by_cases h1 : an.toList = bn.toList <;> by_cases h2 : at1 = bt <;> by_cases h3 : ac = bk <;> simp [h1, h2, h3]
theorem key_neq (an bn : ByteArray) (at1 ac bt bk : Int) (W : World) : (binOp .neq 31 (.agg #[.string an, .int .i64 at1, .int .i64 ac]) (.agg #[.string bn, .int .i64 bt, .int .i64 bk])).run Try.prog W = .ok (.bool (!(an.toList == bn.toList && (at1 == bt && ac == bk)))) W := by
  rw [run_neq_struct, key_equal]; rfl
theorem key_eql (an bn : ByteArray) (at1 ac bt bk : Int) (W : World) : (binOp .eql 31 (.agg #[.string an, .int .i64 at1, .int .i64 ac]) (.agg #[.string bn, .int .i64 bt, .int .i64 bk])).run Try.prog W = .ok (.bool (an.toList == bn.toList && (at1 == bt && ac == bk))) W := by
  rw [run_eql_struct, key_equal]; rfl
theorem key_same (a b : Ky) : (a.n.toList == b.n.toList && (a.t == b.t && a.c == b.c)) = true ↔ a = b := by
  obtain ⟨an, at1, ac⟩ := a
  obtain ⟨bn, bt, bk⟩ := b
  have h0 : an.toList = bn.toList ↔ an = bn := by
    rw [Lib.toList_data, Lib.toList_data]
    exact ⟨ba_eq, fun h => by rw [h]⟩
  simp [h0]
end Go.Proofs.Ythfnphcefkdgbaa
end

section
namespace Go.Proofs.Ythfnphcefkdgbaa
open Go.RowKit

theorem row_next4 {l r : List ByteArray} {k : Nat} (h : ∀ j, j < k → l.getD j ByteArray.empty = r.getD j ByteArray.empty) (h1 : l.getD k ByteArray.empty = r.getD k ByteArray.empty) : ∀ j, j < k + 1 → l.getD j ByteArray.empty = r.getD j ByteArray.empty := by
  intro j hj
  by_cases e : j = k
  · subst e; exact h1
  · exact h j (by omega)

theorem toList_inj4 {s t : ByteArray} (h : s.toList = t.toList) : s = t := by
  have h2 : s.data.toList = t.data.toList := (bs_toList s.data.toList).symm.trans (Eq.trans h (bs_toList t.data.toList))
  exact ByteArray.ext (Array.toList_inj.1 h2)

/-- Two rows of texts. -/
theorem sameS4 (a b : Option Addr) (n m ca cb : Nat) (l r : List ByteArray) (w : World) (ha : RowS w a n l) (hb : RowS w b m r) (hn : n ≤ 1000000) :
    Calls Try.prog 90 #[.slice a n ca, .slice b m cb] w fun e w' => e = .returned (.bool (decide (l = r))) ∧ ∃ k, w' = w.drewN k := by
  have HA := Lib.hid ha
  have HB := Lib.hid hb
  have hla := ha.1
  have hlb := hb.1
  clear ha hb
  by_cases hnm : n = m
  · subst hnm
    have e0 : ((n : Int) != (n : Int)) = false := nF rfl
    have HLA := Lib.hid hla
    have HLB := Lib.hid hlb
    clear hla hlb
    go_enter Try.func90, Try.ntmps90
    go_wp2
    go_loopw [5] (fun i wr => ∃ k q : Nat, k ≤ n ∧ i = .int .i64 k ∧ (∀ j, j < k → l.getD j ByteArray.empty = r.getD j ByteArray.empty) ∧ wr = w.drewN q) (fun i _ => n - (intOf i).toNat)
    case atStart => exact ⟨0, 0, Nat.zero_le _, rfl, fun j hj => absurd hj (by omega), rfl⟩
    case round =>
      obtain ⟨k, q, hk, rfl, hal, rfl⟩ := hrel
      have HAL := Lib.hid hal
      clear hal
      by_cases hlt : k < n
      · rcases HA.out.2 with h0 | ⟨b1, o1, rfl, _, hc1⟩
        · omega
        rcases HB.out.2 with h0 | ⟨b2, o2, rfl, _, hc2⟩
        · omega
        obtain ⟨s, hs⟩ : ∃ s, l.getD k ByteArray.empty = s := ⟨_, rfl⟩
        obtain ⟨t, ht⟩ : ∃ t, r.getD k ByteArray.empty = t := ⟨_, rfl⟩
        have g1 := hc1 k hlt
        have g2 := hc2 k hlt
        rw [hs] at g1
        rw [ht] at g2
        have HS := Lib.hid hs
        have HT := Lib.hid ht
        clear hc1 hc2 hs ht
        have i1 : (k : Int) < (n : Int) := by omega
        by_cases e : s = t
        · subst e
          go_wp2_with fail
          go_quiet (fail)
          go_wp2
          rename_i nq
          go_roundw
          case rel => exact ⟨k + 1, q + nq, by omega, by go_num, row_next4 HAL.out (HS.out.trans HT.out.symm), rfl⟩
          case measure => simp [intOf]; omega
        · have eb : (s.toList == t.toList) = false := by
            rw [beq_eq_false_iff_ne]
            intro h
            exact e (toList_inj4 h)
          have HV := Lib.hid (show decide (l = r) = false by
            apply dF
            intro h
            subst h
            exact e (HS.out.symm.trans HT.out))
          clear e
          go_wp2_with fail
          go_quiet (fail)
          go_wp2
          rename_i nq
          go_returns
          exact ⟨ret_bool HV.out.symm, _, by first | rfl | exact drewN_add _ _ _⟩
      · have hkn : k = n := by omega
        subst hkn
        have HV := Lib.hid (show decide (l = r) = true by
          apply dT
          refine List.ext_getElem (by rw [HLA.out, HLB.out]) ?_
          intro i h1 h2
          have := HAL.out i (by rw [← HLA.out]; exact h1)
          rw [List.getD_eq_getElem?_getD, List.getD_eq_getElem?_getD, List.getElem?_eq_getElem h1, List.getElem?_eq_getElem h2] at this
          exact this)
        go_wp2
        go_returns
        exact ⟨ret_bool HV.out.symm, q, rfl⟩
  · have e0 : ((n : Int) != (m : Int)) = true := nT (by omega)
    have hne : l ≠ r := by intro e; rw [e] at hla; omega
    have HV := Lib.hid (dF hne)
    clear hne hla hlb
    go_enter Try.func90, Try.ntmps90
    go_wp2
    go_returns
    exact ⟨ret_bool HV.out.symm, 0, rfl⟩

theorem sameS4_self (a b : Option Addr) (n ca cb : Nat) (l : List ByteArray) (w : World) (ha : RowS w a n l) (hb : RowS w b n l) (hn : n ≤ 1000000) :
    Calls Try.prog 90 #[.slice a n ca, .slice b n cb] w fun e w' => e = .returned (.bool true) ∧ Below w.heap.size w w' :=
  (sameS4 a b n n ca cb l l w ha hb hn).mono fun e w' ⟨h1, k, h2⟩ => ⟨by rw [h1]; exact ret_bool (dT rfl), by rw [h2]; exact below_drewN (Below.refl _ _) k⟩

set_option maxRecDepth 100000 in
theorem indexI (a : Option Addr) (n c : Nat) (l : List Int) (x : Int) (w : World) (h : Row w a n l) (hn : n ≤ 1000000) : Calls Try.prog 91 #[.slice a n c, .int .i64 x] w fun e w' => (∃ i : Int, e = .returned (.int .i64 i) ∧ (0 ≤ i ↔ x ∈ l)) ∧ w = w' := by
  have HR := Lib.hid h
  have HL := Lib.hid h.1
  clear h
  go_enter Try.func91, Try.ntmps91
  go_wp2_with fail
  go_loopw [8] (fun i wr => ∃ k : Nat, k ≤ n ∧ i = .int .i64 k ∧ Hid (∀ j, j < k → l.getD j 0 ≠ x) ∧ w = wr) (fun i _ => n - (intOf i).toNat)
  case atStart => exact ⟨0, Nat.zero_le _, rfl, (fun j hj => absurd hj (Nat.not_lt_zero j)), rfl⟩
  case round =>
    obtain ⟨k, hk, rfl, ho, rfl⟩ := hrel
    by_cases hlt : k < n
    · rcases HR.out.2 with h0 | ⟨b, off, rfl, hb, hc⟩
      · omega
      have c0 := hc k hlt
      obtain ⟨y, hy⟩ : ∃ y, l.getD k 0 = y := ⟨_, rfl⟩
      rw [hy] at c0
      have HY := Lib.hid hy
      clear hc hy
      by_cases hxy : x = y
      · have e0 : (x == y) = true := eT hxy
        have HM := Lib.hid (show x ∈ l by
          rw [hxy, ← HY.out, List.getD_eq_getElem?_getD, List.getElem?_eq_getElem (by have := HL.out; omega)]
          exact List.getElem_mem _)
        clear hxy
        go_wp2
        go_ret
        exact ⟨⟨k, rfl, ⟨fun _ => HM.out, fun _ => by omega⟩⟩, rfl⟩
      · have e0 : (x == y) = false := eF hxy
        have HN := Lib.hid (show ∀ j, j < k + 1 → l.getD j 0 ≠ x from fun j hj => by
          by_cases e : j = k
          · subst e; rw [HY.out]; exact fun h => hxy h.symm
          · exact ho.out j (by omega))
        clear hxy
        go_wp2
        go_roundw
        case rel => exact ⟨k + 1, by omega, by go_num, HN.out, trivial⟩
        case measure => simp [intOf]; omega
    · have hkn : k = n := by omega
      have HN := Lib.hid (show ¬ x ∈ l from fun h => by
        obtain ⟨j, hj, e⟩ := List.mem_iff_getElem.1 h
        refine ho.out j (by have := HL.out; omega) ?_
        rw [List.getD_eq_getElem?_getD, List.getElem?_eq_getElem hj]; exact e)
      subst hkn
      go_wp2
      go_ret
      exact ⟨⟨-1, rfl, ⟨fun h => absurd h (by omega), fun h => absurd h HN.out⟩⟩, rfl⟩
set_option maxRecDepth 100000 in
theorem containsI (a : Option Addr) (n c : Nat) (l : List Int) (x : Int) (w : World) (h : Row w a n l) (hn : n ≤ 1000000) : Calls Try.prog 67 #[.slice a n c, .int .i64 x] w fun e w' => e = .returned (.bool (decide (x ∈ l))) ∧ w = w' := by
  have HI := Lib.hid (indexI a n c l x w h hn)
  clear h
  go_enter Try.func67, Try.ntmps67
  go_wp2_with fail
  refine HI.out.mono ?_; rintro e w' ⟨⟨i, rfl, hi⟩, rfl⟩
  by_cases h0 : 0 ≤ i
  · have d := dT h0
    have HV := Lib.hid (show decide (x ∈ l) = true from dT (hi.1 h0))
    go_wp2
    go_ret
    exact ⟨by first | rfl | exact ret_bool HV.out.symm, rfl⟩
  · have d := dF h0
    have HV := Lib.hid (show decide (x ∈ l) = false from dF (fun h => h0 (hi.2 h)))
    go_wp2
    go_ret
    exact ⟨by first | rfl | exact ret_bool HV.out.symm, rfl⟩
set_option maxRecDepth 100000 in
theorem isK (k : Ky) (a : Option Addr) (n c : Nat) (l : List Int) (w : World) (h : Row w a n l) (hn : n ≤ 1000000) : Calls Try.prog 28 #[.agg #[.string k.n, .int .i64 k.t, .int .i64 k.c], .slice a n c] w fun e w' => e = .returned (.bool (decide (k.t ∈ l))) ∧ Below w.heap.size w w' := by
  obtain ⟨kn, kt, kc⟩ := k
  have HC := Lib.hid (fun wx (hb : Below w.heap.size w wx) => containsI a n c l kt wx (h.below hb) hn)
  obtain ⟨bb, hbb⟩ : ∃ x, decide (kt ∈ l) = x := ⟨_, rfl⟩
  rw [hbb] at HC
  show Calls Try.prog _ _ w fun e w' => e = .returned (.bool (decide (kt ∈ l))) ∧ Below w.heap.size w w'
  rw [hbb]
  have HB := Lib.hid ((Below.refl w.heap.size w).alloc (Nat.le_refl _) (.cells #[.string kn, .int .i64 kt, .int .i64 kc] 31))
  clear h hbb
  go_enter Try.func28, Try.ntmps28
  go_wp2_with fail
  refine (HC.out _ HB.out).mono ?_; rintro e w' ⟨rfl, rfl⟩
  go_wp2
  go_ret
  exact ⟨rfl, HB.out⟩
end Go.Proofs.Ythfnphcefkdgbaa
end

section
namespace Go.Proofs.Ythfnphcefkdgbaa
open Go.RowKit

theorem cellsK_own {w : World} {B n : Nat} {e : TypeId} {size : Nat} {v : Value} {xs : List Value} (h : w.ownsRow B e size v n xs) : ∃ a c, v = .slice a n c ∧ CellsAt w a (n * size) xs ∧ (a = none → n = 0 ∧ c = 0) := by
  rcases h.2 with ⟨rfl, rfl⟩ | ⟨g, cap, cur, rfl, hb, hg, rest⟩
  · exact ⟨none, 0, rfl, ⟨h.1, Or.inl (Nat.zero_mul _)⟩, fun _ => ⟨rfl, rfl⟩⟩
  · refine ⟨_, _, rfl, ⟨h.1, Or.inr ⟨g, 0, rfl, (Array.getElem?_eq_some_iff.1 hg).1, fun j u hj => ?_⟩⟩, fun h => by cases h⟩
    have := h.cells (g := g) rfl j u hj
    rwa [Addr.add_mid] at this
/-- append of a slice, wherever it lies, onto a row of the call's own. -/
theorem append_cellsK {w : World} {ops : Array Oper} {rest : List Oper} {o : Oper} {act : Act} {Q : Exit → Act → World → Prop} (hgd : o.guard = none) (s x : Operand) (t e : TypeId)
    (ho : o.op = .call { callee := .builtin .append, args := #[s, x], argTypes := #[t, t] })
    (i : TypeInfo) (z : Value) (size bytes : Nat) (ht : Try.prog.underlying t = some (.slice e)) (hi : Try.prog.info? e = some i) (hz : i.zero = some z) (hsize : i.size = size) (hby : i.bytes = bytes) (hzs : z.cells.size = size) (h0 : 0 < size)
    (B : Nat) (v : Value) (n : Nat) (xs : List Value) (hs : act.eval s = v) (hown : w.ownsRow B e size v n xs)
    (a : Option Addr) (len cap : Nat) (cs : List Value) (hx : act.eval x = .slice a len cap) (hn : a = none → len = 0 ∧ cap = 0) (hr : CellsAt w a (len * size) cs) (h1 : ∀ u ∈ cs, u.oneCell' = true)
    (hb : n + len ≤ 1000000) (hb2 : bytes ≤ 64) (hbase : B ≤ w.heap.size)
    (h : ∀ v' w', w'.ownsRow B e size v' (n + len) (xs ++ cs) → w.grownBy w' v.ownBlock → wpList Try.prog ops Q rest (act.put o.dst v') w') : wpList Try.prog ops Q (o :: rest) act w := by
  cases a with
  | none =>
    obtain ⟨rfl, rfl⟩ := hn rfl
    have hl : cs = [] := List.eq_nil_of_length_eq_zero (by rw [hr.1]; exact Nat.zero_mul _)
    subst hl
    refine wpList_append_own_none hgd s x t ho B e i size ht hi v n xs hs hown hx ?_
    refine h v w ?_ (World.grownBy.refl _ _)
    simpa using hown
  | some ad =>
    have hm : (n + len) * bytes ≤ 1000000 * 64 := Nat.mul_le_mul hb hb2
    refine wpList_append_own w hgd s x t ho B e i z size bytes ht hi hz hsize hby hzs h0 v n xs hs hown ad len cap cs hx hr.1 ?_ h1 (by unfold maxLen; omega) (by omega) hbase (fun v' w' h1 h2 _ => h v' w' h1 h2)
    intro j u hj
    rcases hr.2 with h0' | ⟨b, off, hab, _, hc⟩
    · have h3 := hr.1
      have h4 := (List.getElem?_eq_some_iff.1 hj).1
      omega
    · simp only [Option.some.injEq] at hab
      subst hab
      rw [Addr.add_mid]
      exact hc j u hj
theorem ownsRow_at {w : World} {B g n c size : Nat} {e : TypeId} {xs : List Value} (h : w.ownsRow B e size (.slice (some ⟨g, 0, none⟩) n c) n xs) (j : Nat) (u : Value) (hj : xs[j]? = some u) : w.cell? ⟨g, j, none⟩ = some u := by
  have := h.cells (g := g) rfl j u hj
  rw [Addr.add_mid, Nat.zero_add] at this
  exact this
/-- append of a slice, wherever it lies, in a region that draws. -/
theorem step_append_cellsK {w : World} {ops : Array Oper} {o : Oper} {act : Act} {K : Act → World → Prop} {Q : Exit → Act → World → Prop} {E : Prop} (hgd : o.guard = none) (s x : Operand) (t e : TypeId)
    (ho : o.op = .call { callee := .builtin .append, args := #[s, x], argTypes := #[t, t] })
    (i : TypeInfo) (z : Value) (size bytes : Nat) (ht : Try.prog.underlying t = some (.slice e)) (hi : Try.prog.info? e = some i) (hz : i.zero = some z) (hsize : i.size = size) (hby : i.bytes = bytes) (hzs : z.cells.size = size) (h0 : 0 < size)
    (B : Nat) (v : Value) (n : Nat) (xs : List Value) (hs : act.eval s = v) (hown : w.ownsRow B e size v n xs)
    (a : Option Addr) (len cap : Nat) (cs : List Value) (hx : act.eval x = .slice a len cap) (hn : a = none → len = 0 ∧ cap = 0) (hr : CellsAt w a (len * size) cs) (h1 : ∀ u ∈ cs, u.oneCell' = true)
    (hb : n + len ≤ 1000000) (hb2 : bytes ≤ 64) (hbase : B ≤ w.heap.size)
    (h : ∀ v' w', w'.ownsRow B e size v' (n + len) (xs ++ cs) → w.grownBy w' v.ownBlock → K (act.put o.dst v') w') : if Region.wanted o (yielded ops act.tmps) = true then Oper.wp Try.prog o act w K Q else E := by
  have hw : Region.wanted o (yielded ops act.tmps) = true := by simp [Region.wanted, hgd]
  rw [if_pos hw]
  cases a with
  | none =>
    obtain ⟨rfl, rfl⟩ := hn rfl
    have hl : cs = [] := List.eq_nil_of_length_eq_zero (by rw [hr.1]; exact Nat.zero_mul _)
    subst hl
    have hrun := run_append_owned_none (P := Try.prog) (w := w) B t o.type e i size ht hi v n xs hown
    unfold Oper.wp
    simp [execOp, ho, resolve, invoke, builtin, hs, hx, hrun, Result.andThen]
    exact h v w (by simpa using hown) (World.grownBy.refl _ _)
  | some ad =>
    have hm : (n + len) * bytes ≤ 1000000 * 64 := Nat.mul_le_mul hb hb2
    refine wp_append_own w s x t ho B e i z size bytes ht hi hz hsize hby hzs h0 v n xs hs hown ad len cap cs hx hr.1 ?_ h1 (by unfold maxLen; omega) (by omega) hbase (fun v' w' h1 h2 _ => h v' w' h1 h2)
    · intro j u hj
      rcases hr.2 with h0' | ⟨b, off, hab, _, hc⟩
      · have h3 := hr.1
        have h4 := (List.getElem?_eq_some_iff.1 hj).1
        omega
      · simp only [Option.some.injEq] at hab
        subst hab
        rw [Addr.add_mid]
        exact hc j u hj
theorem cells_lit (w : World) (cs : Array Value) (T : TypeId) : CellsAt (w.alloc (.cells cs T)) (some ⟨w.heap.size, 0, none⟩) cs.size cs.toList :=
  ⟨by simp, Or.inr ⟨w.heap.size, 0, rfl, by simp, fun j u hj => by
    rw [Nat.zero_add, World.cell?_alloc_new]
    rw [Array.getElem?_toList] at hj
    exact hj⟩⟩
end Go.Proofs.Ythfnphcefkdgbaa
end

section
namespace Go.Proofs.Ythfnphcefkdgbaa
open Go.RowKit

def flatR (l : List R5) : List Value := l.flatMap encR
theorem encR_len (r : R5) : (encR r).length = 5 := rfl
theorem flatR_len (l : List R5) : (flatR l).length = l.length * 5 := by
  induction l with
  | nil => rfl
  | cons x l ih => rw [flatR, List.flatMap_cons, List.length_append, encR_len]; show 5 + (flatR l).length = _; rw [ih, List.length_cons]; omega
theorem flatMap_get {α : Type} (enc : α → List Value) (k : Nat) (hk : ∀ x, (enc x).length = k) (k0 : 0 < k) : ∀ (l : List α) (t : Nat), (l.flatMap enc)[t]? = (l[t / k]?).bind (fun x => (enc x)[t % k]?) := by
  intro l
  induction l with
  | nil => intro t; simp
  | cons x l ih =>
    intro t
    rw [List.flatMap_cons]
    by_cases h : t < k
    · rw [List.getElem?_append_left (by rw [hk]; exact h), Nat.div_eq_of_lt h, Nat.mod_eq_of_lt h]
      simp
    · rw [List.getElem?_append_right (by rw [hk]; omega), hk, ih]
      obtain ⟨s, rfl⟩ : ∃ s, t = s + k := ⟨t - k, by omega⟩
      rw [Nat.add_sub_cancel, Nat.add_div_right _ k0, Nat.add_mod_right]
      simp
/-- The records of a slice. -/
def RowR (w : World) (a : Option Addr) (n : Nat) (l : List R5) : Prop := l.length = n ∧ CellsAt w a (n * 5) (flatR l)
theorem RowR.below {w w' : World} {a : Option Addr} {n : Nat} {l : List R5} (h : RowR w a n l) (hb : Below w.heap.size w w') : RowR w' a n l := ⟨h.1, h.2.below hb⟩
theorem RowR.at {w : World} {a : Option Addr} {n : Nat} {l : List R5} (h : RowR w a n l) (j : Nat) (hj : j < n) : ∃ b off r, a = some ⟨b, off, none⟩ ∧ b < w.heap.size ∧ l[j]? = some r ∧ w.cell? ⟨b, off + j * 5, none⟩ = some (.string r.k.n) ∧ w.cell? ⟨b, off + j * 5 + 1, none⟩ = some (.int .i64 r.k.t) ∧ w.cell? ⟨b, off + j * 5 + 2, none⟩ = some (.int .i64 r.k.c) ∧ w.cell? ⟨b, off + j * 5 + 3, none⟩ = some (.int .i64 r.ttl) ∧ w.cell? ⟨b, off + j * 5 + 4, none⟩ = some (.string r.d) := by
  obtain ⟨h1, h2, h3⟩ := h
  rcases h3 with h0 | ⟨b, off, rfl, hlt, hc⟩
  · omega
  obtain ⟨r, hr⟩ : ∃ r, l[j]? = some r := ⟨l[j]'(by omega), List.getElem?_eq_getElem (by omega)⟩
  have hg : ∀ i, i < 5 → ∀ u, (encR r)[i]? = some u → w.cell? ⟨b, off + j * 5 + i, none⟩ = some u := fun i hi u hu => by
    have h4 := hc (j * 5 + i) u (by
      rw [flatR, flatMap_get encR 5 encR_len (by omega), show (j * 5 + i) / 5 = j by omega, show (j * 5 + i) % 5 = i by omega, hr]
      exact hu)
    rw [Nat.add_assoc]; exact h4
  exact ⟨b, off, r, rfl, hlt, hr, hg 0 (by omega) _ rfl, hg 1 (by omega) _ rfl, hg 2 (by omega) _ rfl, hg 3 (by omega) _ rfl, hg 4 (by omega) _ rfl⟩
theorem flatR_one (l : List R5) : ∀ u ∈ flatR l, u.oneCell' = true := by
  intro u hu
  obtain ⟨r, _, hr⟩ := List.mem_flatMap.1 hu
  simp only [encR, List.mem_cons, List.not_mem_nil, or_false] at hr
  rcases hr with rfl | rfl | rfl | rfl | rfl <;> rfl
theorem rowR_own {w : World} {B n : Nat} {v : Value} {l : List R5} (h : w.ownsRow B 87 5 v n (flatR l)) : ∃ a c, v = .slice a n c ∧ RowR w a n l ∧ (a = none → n = 0 ∧ c = 0) := by
  obtain ⟨a, c, e, h1, h2⟩ := cellsK_own h
  exact ⟨a, c, e, ⟨by have := h.1; rw [flatR_len] at this; omega, h1⟩, h2⟩
theorem infoRR : (Try.prog.info? 87).map (fun i => (i.zero, i.size, i.bytes)) = some (some (.agg #[.string ⟨#[]⟩, .int .i64 0, .int .i64 0, .int .i64 0, .string ⟨#[]⟩]), 5, 56) := by kernel_rfl

set_option maxRecDepth 100000 in
theorem cloneRR (a : Option Addr) (n c : Nat) (l : List R5) (w : World) (h : RowR w a n l) (hn : a = none → n = 0 ∧ c = 0) (hlen : n ≤ 100000) :
    Calls Try.prog 129 #[.slice a n c] w fun e w' => ∃ v, e = .returned v ∧ w'.ownsRow w.heap.size 87 5 v n (flatR l) ∧ Below w.heap.size w w' := by
  obtain ⟨i0, hi, hz0, hz1, hz2⟩ := info_parts infoRR
  have HR := Lib.hid h
  have HN := Lib.hid hn
  cases a with
  | none =>
    obtain ⟨rfl, rfl⟩ := hn rfl
    have hl0 : l = [] := List.eq_nil_of_length_eq_zero h.1
    subst hl0
    clear h hn
    have he : (binOp .eql 75 (.slice none 0 0) (.slice none 0 0)).run Try.prog w = .ok (.bool true) w := Lib.run_eql_slice_nil w 75 87 none 0 0 0 0 Try.underlying75
    go_enter Try.func129, Try.ntmps129
    go_wp2
    go_ret
    exact ⟨_, rfl, World.ownsRow_nil _ _ _ _, Below.refl _ _⟩
  | some ad =>
    have HH := Lib.hid (show RowR (w.alloc (.cells #[] 87)) (some ad) n l from h.below ((Below.refl _ _).alloc (Nat.le_refl _) _))
    have HO := Lib.hid (show (w.alloc (.cells #[] 87)).ownsRow w.heap.size 87 5 (.slice (some ⟨w.heap.size, 0, none⟩) 0 0) 0 [] from World.ownsRow_made w #[] 0 (Nat.le_refl _) (Nat.zero_le _) rfl)
    have HB := Lib.hid ((Below.refl w.heap.size w).alloc (Nat.le_refl _) (.cells #[] 87))
    clear h hn
    have he : (binOp .eql 75 (.slice (some ad) n c) (.slice none 0 0)).run Try.prog w = .ok (.bool false) w := Lib.run_eql_slice_nil w 75 87 (some ad) n c 0 0 Try.underlying75
    go_enter Try.func129, Try.ntmps129
    go_wp2_with (first | (at_builtin; refine append_cellsK rfl _ _ 75 87 rfl i0 _ 5 56 Try.underlying75 hi hz0 hz1 hz2 rfl (by decide) w.heap.size _ 0 _ rfl HO.out (some ad) n c (flatR l) rfl HN.out HH.out.2 (flatR_one l) (by omega) (by decide) (by simp) ?_))
    intro v' w' ho hg
    go_wp2
    go_ret
    exact ⟨v', rfl, ho, HB.out.grown hg (by simp) (fun k hk => (HO.out.lt k hk).1)⟩
end Go.Proofs.Ythfnphcefkdgbaa
end

section
namespace Go.Proofs.Ythfnphcefkdgbaa
open Go.RowKit

set_option maxRecDepth 100000 in
theorem keyConv (n : ByteArray) (t c : Int) (w : World) : Calls Try.prog 69 #[.agg #[.string n, .int .i64 t, .int .i64 c]] w fun e w' => e = .returned (.agg #[.string n, .int .i64 t, .int .i64 c]) ∧ Below w.heap.size w w' := by
  go_enter Try.func69, Try.ntmps69
  go_wp2
  refine bodyPost_ret (v := .agg #[.string n, .int .i64 t, .int .i64 c]) (by simp [results, Try.results69, go_sem]) rfl ⟨rfl, ?_⟩
  repeat (first | exact Below.refl _ _ | apply Below.drew | refine Below.alloc ?_ (by simp) _ | refine Below.setCell ?_ (by simp) _)
def r16 (x : Int) : Bool := decide (0 ≤ x) && decide (x ≤ 65535)
def mayK (k : Ky) : Bool := mayN k.n && (r16 k.c && r16 k.t)
theorem has16_any (x : Int) (w : World) : Calls Try.prog 88 #[.int .i64 x] w fun e w' => e = .returned (.bool (r16 x)) ∧ w = w' := by
  cases h1 : decide (0 ≤ x) <;> cases h2 : decide (x ≤ 65535)
  all_goals
    have HV := Lib.hid (show r16 x = (decide (0 ≤ x) && decide (x ≤ 65535)) from rfl)
    rw [h1, h2] at HV
    go_enter Try.func88, Try.ntmps88
    go_wp2
    go_ret
    exact ⟨ret_bool HV.out.symm, rfl⟩
set_option maxRecDepth 100000 in
set_option maxHeartbeats 1600000 in
theorem kmay_any (k : Ky) (w : World) (hk : k.n.size ≤ 1000000) : Calls Try.prog 59 #[.agg #[.string k.n, .int .i64 k.t, .int .i64 k.c]] w fun e w' => e = .returned (.bool (mayK k)) ∧ Below w.heap.size w w' := by
  obtain ⟨n, t, c⟩ := k
  have HB := Lib.hid ((Below.refl w.heap.size w).alloc (Nat.le_refl _) (.cells #[.string n, .int .i64 t, .int .i64 c] 31))
  have HM := Lib.hid (fun wx => nmay_any n wx hk)
  have H1 := Lib.hid (fun wx => has16_any c wx)
  have H2 := Lib.hid (fun wx => has16_any t wx)
  have hv : mayK ⟨n, t, c⟩ = (mayN n && (r16 c && r16 t)) := rfl
  cases h1 : mayN n <;> cases h2 : r16 c <;> cases h3 : r16 t
  all_goals
    rw [h1, h2, h3] at hv
    rw [h1] at HM
    rw [h2] at H1
    rw [h3] at H2
    have HV := Lib.hid hv
    go_enter Try.func59, Try.ntmps59
    go_wp2_with (first | (go_at_call 61; refine (HM.out _).mono ?_; rintro e w' ⟨rfl, rfl⟩) | (go_at_call 88; first | (with_reducible refine (H1.out _).mono ?_; rintro e w' ⟨rfl, rfl⟩) | (with_reducible refine (H2.out _).mono ?_; rintro e w' ⟨rfl, rfl⟩)))
    go_ret
    exact ⟨ret_bool HV.out.symm, HB.out⟩
end Go.Proofs.Ythfnphcefkdgbaa
end

section
namespace Go.Proofs.Ythfnphcefkdgbaa
open Go.RowKit

noncomputable def memS (x : ByteArray) (l : List ByteArray) : Bool := open Classical in if x ∈ l then true else false
theorem memS_t {x : ByteArray} {l : List ByteArray} (h : x ∈ l) : memS x l = true := if_pos h
theorem memS_f {x : ByteArray} {l : List ByteArray} (h : ¬ x ∈ l) : memS x l = false := if_neg h
set_option maxRecDepth 100000 in
theorem indexS (a : Option Addr) (n c : Nat) (l : List ByteArray) (x : ByteArray) (w : World) (h : RowS w a n l) (hn : n ≤ 1000000) : Calls Try.prog 87 #[.slice a n c, .string x] w fun e w' => (∃ i : Int, e = .returned (.int .i64 i) ∧ (0 ≤ i ↔ x ∈ l)) ∧ w = w' := by
  have HR := Lib.hid h
  have HL := Lib.hid h.1
  clear h
  go_enter Try.func87, Try.ntmps87
  go_wp2_with fail
  go_loopw [8] (fun i wr => ∃ k : Nat, k ≤ n ∧ i = .int .i64 k ∧ Hid (∀ j, j < k → l.getD j ByteArray.empty ≠ x) ∧ w = wr) (fun i _ => n - (intOf i).toNat)
  case atStart => exact ⟨0, Nat.zero_le _, rfl, (fun j hj => absurd hj (Nat.not_lt_zero j)), rfl⟩
  case round =>
    obtain ⟨k, hk, rfl, ho, rfl⟩ := hrel
    by_cases hlt : k < n
    · rcases HR.out.2 with h0 | ⟨b, off, rfl, hb, hc⟩
      · omega
      have c0 := hc k hlt
      obtain ⟨y, hy⟩ : ∃ y, l.getD k ByteArray.empty = y := ⟨_, rfl⟩
      rw [hy] at c0
      have HY := Lib.hid hy
      clear hc hy
      by_cases hxy : x = y
      · have e0 : (x.toList == y.toList) = true := by rw [hxy]; simp
        have HM := Lib.hid (show x ∈ l by
          rw [hxy, ← HY.out, List.getD_eq_getElem?_getD, List.getElem?_eq_getElem (by have := HL.out; omega)]
          exact List.getElem_mem _)
        clear hxy
        go_wp2
        go_ret
        exact ⟨⟨k, rfl, ⟨fun _ => HM.out, fun _ => by omega⟩⟩, rfl⟩
      · have e0 : (x.toList == y.toList) = false := by
          rw [beq_eq_false_iff_ne]
          exact fun h => hxy (toList_inj4 h)
        have HN := Lib.hid (show ∀ j, j < k + 1 → l.getD j ByteArray.empty ≠ x from fun j hj => by
          by_cases e : j = k
          · subst e; rw [HY.out]; exact fun h => hxy h.symm
          · exact ho.out j (by omega))
        clear hxy
        go_wp2
        go_roundw
        case rel => exact ⟨k + 1, by omega, by go_num, HN.out, trivial⟩
        case measure => simp [intOf]; omega
    · have hkn : k = n := by omega
      have HN := Lib.hid (show ¬ x ∈ l from fun h => by
        obtain ⟨j, hj, e⟩ := List.mem_iff_getElem.1 h
        refine ho.out j (by have := HL.out; omega) ?_
        rw [List.getD_eq_getElem?_getD, List.getElem?_eq_getElem hj]; exact e)
      subst hkn
      go_wp2
      go_ret
      exact ⟨⟨-1, rfl, ⟨fun h => absurd h (by omega), fun h => absurd h HN.out⟩⟩, rfl⟩
set_option maxRecDepth 100000 in
theorem containsS (a : Option Addr) (n c : Nat) (l : List ByteArray) (x : ByteArray) (w : World) (h : RowS w a n l) (hn : n ≤ 1000000) : Calls Try.prog 58 #[.slice a n c, .string x] w fun e w' => e = .returned (.bool (memS x l)) ∧ w = w' := by
  have HI := Lib.hid (indexS a n c l x w h hn)
  clear h
  go_enter Try.func58, Try.ntmps58
  go_wp2_with fail
  refine HI.out.mono ?_; rintro e w' ⟨⟨i, rfl, hi⟩, rfl⟩
  by_cases h0 : 0 ≤ i
  · have d := dT h0
    have HV := Lib.hid (show memS x l = true from memS_t (hi.1 h0))
    go_wp2
    go_ret
    exact ⟨by first | rfl | exact ret_bool HV.out.symm, rfl⟩
  · have d := dF h0
    have HV := Lib.hid (show memS x l = false from memS_f (fun h => h0 (hi.2 h)))
    go_wp2
    go_ret
    exact ⟨by first | rfl | exact ret_bool HV.out.symm, rfl⟩

theorem cells_rowS {w : World} {a : Option Addr} {n : Nat} {l : List ByteArray} (h : RowS w a n l) : CellsAt w a n (sc l) := by
  refine ⟨by rw [sc, List.length_map]; exact h.1, ?_⟩
  rcases h.2 with h0 | ⟨b, off, rfl, hlt, hc⟩
  · exact Or.inl h0
  · refine Or.inr ⟨b, off, rfl, hlt, fun j u hj => ?_⟩
    rw [sc, List.getElem?_map] at hj
    have hjl : j < l.length := by
      cases e : l[j]? with
      | none => rw [e] at hj; cases hj
      | some x => exact (List.getElem?_eq_some_iff.1 e).1
    have h1 := hc j (by rw [← h.1]; exact hjl)
    rw [List.getElem?_eq_getElem hjl] at hj
    rw [h1, List.getD_eq_getElem?_getD, List.getElem?_eq_getElem hjl]
    exact hj
set_option maxRecDepth 100000 in
theorem cloneS4 (a : Option Addr) (n c : Nat) (l : List ByteArray) (w : World) (h : RowS w a n l) (hn : a = none → n = 0 ∧ c = 0) (hlen : n ≤ 100000) :
    Calls Try.prog 86 #[.slice a n c] w fun e w' => ∃ v, e = .returned v ∧ w'.ownsRow w.heap.size 9 1 v n (sc l) ∧ Below w.heap.size w w' := by
  obtain ⟨i0, hi, hz0, hz1, hz2⟩ := info_parts infoStr
  have HN := Lib.hid hn
  cases a with
  | none =>
    obtain ⟨rfl, rfl⟩ := hn rfl
    have hl0 : l = [] := List.eq_nil_of_length_eq_zero h.1
    subst hl0
    clear h hn
    have he : (binOp .eql 37 (.slice none 0 0) (.slice none 0 0)).run Try.prog w = .ok (.bool true) w := Lib.run_eql_slice_nil w 37 9 none 0 0 0 0 Try.underlying37
    go_enter Try.func86, Try.ntmps86
    go_wp2
    go_ret
    exact ⟨_, rfl, World.ownsRow_nil _ _ _ _, Below.refl _ _⟩
  | some ad =>
    have HH := Lib.hid (show CellsAt (w.alloc (.cells #[] 9)) (some ad) n (sc l) from (cells_rowS h).below ((Below.refl _ _).alloc (Nat.le_refl _) _))
    have HO := Lib.hid (show (w.alloc (.cells #[] 9)).ownsRow w.heap.size 9 1 (.slice (some ⟨w.heap.size, 0, none⟩) 0 0) 0 [] from World.ownsRow_made w #[] 0 (Nat.le_refl _) (Nat.zero_le _) rfl)
    have HB := Lib.hid ((Below.refl w.heap.size w).alloc (Nat.le_refl _) (.cells #[] 9))
    clear h hn
    have he : (binOp .eql 37 (.slice (some ad) n c) (.slice none 0 0)).run Try.prog w = .ok (.bool false) w := Lib.run_eql_slice_nil w 37 9 (some ad) n c 0 0 Try.underlying37
    go_enter Try.func86, Try.ntmps86
    go_wp2_with (first | (at_builtin; refine append_cells rfl _ _ 37 9 rfl i0 _ 16 Try.underlying37 hi hz0 hz1 hz2 rfl w.heap.size _ 0 _ rfl HO.out (some ad) n c (sc l) rfl HN.out HH.out (sc_oneCell l) (by omega) (by decide) (by simp) ?_))
    intro v' w' ho hg
    go_wp2
    go_ret
    exact ⟨v', rfl, by simpa using ho, HB.out.grown hg (by simp) (fun k hk => (HO.out.lt k hk).1)⟩

-- EQ
/-- Two rows of texts. -/
theorem equalS4 (a b : Option Addr) (n m ca cb : Nat) (l r : List ByteArray) (w : World) (ha : RowS w a n l) (hb : RowS w b m r) (hn : n ≤ 1000000) :
    Calls Try.prog 65 #[.slice a n ca, .slice b m cb] w fun e w' => e = .returned (.bool (decide (l = r))) ∧ ∃ k, w' = w.drewN k := by
  have HA := Lib.hid ha
  have HB := Lib.hid hb
  have hla := ha.1
  have hlb := hb.1
  clear ha hb
  by_cases hnm : n = m
  · subst hnm
    have e0 : ((n : Int) != (n : Int)) = false := nF rfl
    have HLA := Lib.hid hla
    have HLB := Lib.hid hlb
    clear hla hlb
    go_enter Try.func65, Try.ntmps65
    go_wp2
    go_loopw [13] (fun i wr => ∃ k q : Nat, k ≤ n ∧ i = .int .i64 k ∧ (∀ j, j < k → l.getD j ByteArray.empty = r.getD j ByteArray.empty) ∧ wr = w.drewN q) (fun i _ => n - (intOf i).toNat)
    case atStart => exact ⟨0, 0, Nat.zero_le _, rfl, fun j hj => absurd hj (by omega), rfl⟩
    case round =>
      obtain ⟨k, q, hk, rfl, hal, rfl⟩ := hrel
      have HAL := Lib.hid hal
      clear hal
      by_cases hlt : k < n
      · rcases HA.out.2 with h0 | ⟨b1, o1, rfl, _, hc1⟩
        · omega
        rcases HB.out.2 with h0 | ⟨b2, o2, rfl, _, hc2⟩
        · omega
        obtain ⟨s, hs⟩ : ∃ s, l.getD k ByteArray.empty = s := ⟨_, rfl⟩
        obtain ⟨t, ht⟩ : ∃ t, r.getD k ByteArray.empty = t := ⟨_, rfl⟩
        have g1 := hc1 k hlt
        have g2 := hc2 k hlt
        rw [hs] at g1
        rw [ht] at g2
        have HS := Lib.hid hs
        have HT := Lib.hid ht
        clear hc1 hc2 hs ht
        have i1 : (k : Int) < (n : Int) := by omega
        by_cases e : s = t
        · subst e
          go_wp2_with fail
          go_quiet (fail)
          go_wp2
          rename_i nq
          go_roundw
          case rel => exact ⟨k + 1, q + nq, by omega, by go_num, row_next4 HAL.out (HS.out.trans HT.out.symm), rfl⟩
          case measure => simp [intOf]; omega
        · have eb : (s.toList == t.toList) = false := by
            rw [beq_eq_false_iff_ne]
            intro h
            exact e (toList_inj4 h)
          have HV := Lib.hid (show decide (l = r) = false by
            apply dF
            intro h
            subst h
            exact e (HS.out.symm.trans HT.out))
          clear e
          go_wp2_with fail
          go_quiet (fail)
          go_wp2
          rename_i nq
          go_returns
          exact ⟨ret_bool HV.out.symm, _, by first | rfl | exact drewN_add _ _ _⟩
      · have hkn : k = n := by omega
        subst hkn
        have HV := Lib.hid (show decide (l = r) = true by
          apply dT
          refine List.ext_getElem (by rw [HLA.out, HLB.out]) ?_
          intro i h1 h2
          have := HAL.out i (by rw [← HLA.out]; exact h1)
          rw [List.getD_eq_getElem?_getD, List.getD_eq_getElem?_getD, List.getElem?_eq_getElem h1, List.getElem?_eq_getElem h2] at this
          exact this)
        go_wp2
        go_returns
        exact ⟨ret_bool HV.out.symm, q, rfl⟩
  · have e0 : ((n : Int) != (m : Int)) = true := nT (by omega)
    have hne : l ≠ r := by intro e; rw [e] at hla; omega
    have HV := Lib.hid (dF hne)
    clear hne hla hlb
    go_enter Try.func65, Try.ntmps65
    go_wp2
    go_returns
    exact ⟨ret_bool HV.out.symm, 0, rfl⟩


theorem equalS4b (a b : Option Addr) (n m ca cb : Nat) (l r : List ByteArray) (w : World) (ha : RowS w a n l) (hb : RowS w b m r) (hn : n ≤ 1000000) : Calls Try.prog 65 #[.slice a n ca, .slice b m cb] w fun e w' => e = .returned (.bool (decide (l = r))) ∧ Below w.heap.size w w' :=
  (equalS4 a b n m ca cb l r w ha hb hn).mono fun _ _ ⟨h1, k, h2⟩ => ⟨h1, by rw [h2]; exact below_drewN (Below.refl _ _) k⟩
theorem sameS4b (a b : Option Addr) (n m ca cb : Nat) (l r : List ByteArray) (w : World) (ha : RowS w a n l) (hb : RowS w b m r) (hn : n ≤ 1000000) : Calls Try.prog 90 #[.slice a n ca, .slice b m cb] w fun e w' => e = .returned (.bool (decide (l = r))) ∧ Below w.heap.size w w' :=
  (sameS4 a b n m ca cb l r w ha hb hn).mono fun _ _ ⟨h1, k, h2⟩ => ⟨h1, by rw [h2]; exact below_drewN (Below.refl _ _) k⟩
theorem rkey_equal (an bn : ByteArray) (at1 ac bt bk : Int) (W : World) : (Op.equalIn 10000 50 (.agg #[.string an, .int .i64 at1, .int .i64 ac]) (.agg #[.string bn, .int .i64 bt, .int .i64 bk])).run Try.prog W = .ok (an.toList == bn.toList && (at1 == bt && ac == bk)) W := by
  have u3 := Try.underlying3
  have a3 := Try.isAgg3
  have z3 := Try.sizeOf3
  have u9 := Try.underlying9
  have a9 := Try.isAgg9
  have z9 := Try.sizeOf9
  have hS : Try.prog.underlying 50 = some (.struct (Try.prog.fieldsOf 50)) := by
    simp [Program.fieldsOf, Try.underlying50]
  rw [show (10000 : Nat) = 9999 + 1 from rfl, run_equalIn_agg W 9999 50 _ _ hS (by kernel_rfl)]
  simp only [Program.fieldsOf, Try.underlying50]
  go_simp
  by_cases h1 : an.toList = bn.toList <;> by_cases h2 : at1 = bt <;> by_cases h3 : ac = bk <;> simp [h1, h2, h3]
theorem rkey_neq (an bn : ByteArray) (at1 ac bt bk : Int) (W : World) : (binOp .neq 50 (.agg #[.string an, .int .i64 at1, .int .i64 ac]) (.agg #[.string bn, .int .i64 bt, .int .i64 bk])).run Try.prog W = .ok (.bool (!(an.toList == bn.toList && (at1 == bt && ac == bk)))) W := by
  rw [run_neq_struct, rkey_equal]; rfl
theorem rkey_eql (an bn : ByteArray) (at1 ac bt bk : Int) (W : World) : (binOp .eql 50 (.agg #[.string an, .int .i64 at1, .int .i64 ac]) (.agg #[.string bn, .int .i64 bt, .int .i64 bk])).run Try.prog W = .ok (.bool (an.toList == bn.toList && (at1 == bt && ac == bk))) W := by
  rw [run_eql_struct, rkey_equal]; rfl

def sameP (a b : SetP) : Bool := (a.k.n.toList == b.k.n.toList && (a.k.t == b.k.t && a.k.c == b.k.c)) && ((a.ttl == b.ttl) && decide (a.data = b.data))

set_option maxRecDepth 100000 in
set_option maxHeartbeats 1600000 in
theorem same_any (a b : SetP) (pa pb : Option Addr) (ca cb : Nat) (w : World) (ha : RowS w pa a.data.length a.data) (hb : RowS w pb b.data.length b.data) (hl : a.data.length ≤ 1000000) : Calls Try.prog 26 #[.agg #[.string a.k.n, .int .i64 a.k.t, .int .i64 a.k.c, .int .i64 a.ttl, .slice pa a.data.length ca], .agg #[.string b.k.n, .int .i64 b.k.t, .int .i64 b.k.c, .int .i64 b.ttl, .slice pb b.data.length cb]] w fun e w' => e = .returned (.bool (sameP a b)) ∧ Below w.heap.size w w' := by
  obtain ⟨⟨an, at1, ac⟩, au, ad⟩ := a
  obtain ⟨⟨bn, bt, bk⟩, bu, bd⟩ := b
  have hv : sameP ⟨⟨an, at1, ac⟩, au, ad⟩ ⟨⟨bn, bt, bk⟩, bu, bd⟩ = ((an.toList == bn.toList && (at1 == bt && ac == bk)) && ((au == bu) && decide (ad = bd))) := rfl
  have hke := key_eql an bn at1 ac bt bk
  obtain ⟨la, hla⟩ : ∃ x, ad.length = x := ⟨_, rfl⟩
  obtain ⟨lb, hlb⟩ : ∃ x, bd.length = x := ⟨_, rfl⟩
  have ha : RowS w pa la ad := by rw [← hla]; exact ha
  have hb : RowS w pb lb bd := by rw [← hlb]; exact hb
  have hl : la ≤ 1000000 := by rw [← hla]; exact hl
  show Calls Try.prog _ #[.agg #[.string an, .int .i64 at1, .int .i64 ac, .int .i64 au, .slice pa ad.length ca], .agg #[.string bn, .int .i64 bt, .int .i64 bk, .int .i64 bu, .slice pb bd.length cb]] w _
  rw [hla, hlb]
  have h1 := (Below.refl w.heap.size w).alloc (Nat.le_refl _) (.cells #[.string an, .int .i64 at1, .int .i64 ac, .int .i64 au, .slice pa la ca] 39)
  have h2 := h1.alloc h1.size (.cells #[.string bn, .int .i64 bt, .int .i64 bk, .int .i64 bu, .slice pb lb cb] 39)
  have HB := Lib.hid h2
  have HE := Lib.hid (fun wx (hx : Below w.heap.size w wx) => equalS4b pa pb la lb ca cb ad bd wx (ha.below hx) (hb.below hx) hl)
  obtain ⟨e3, he3⟩ : ∃ x, decide (ad = bd) = x := ⟨_, rfl⟩
  obtain ⟨e1, he1⟩ : ∃ x, (an.toList == bn.toList && (at1 == bt && ac == bk)) = x := ⟨_, rfl⟩
  rw [he3, he1] at hv
  rw [he3] at HE
  rw [he1] at hke
  have HKE := Lib.hid hke
  clear he1 he3 ha hb h1 h2 hla hlb hke
  cases e1 with
  | false =>
    have HV := Lib.hid (hv.trans (by rfl : _ = false))
    have hke := HKE.out
    clear hv
    go_enter Try.func26, Try.ntmps26
    go_wp2
    go_ret
    exact ⟨ret_bool HV.out.symm, HB.out⟩
  | true =>
    have hke := HKE.out
    by_cases e2 : au = bu
    · have e4 : (au == bu) = true := eT e2
      rw [e4] at hv
      have HV := Lib.hid (hv.trans (by simp : _ = e3))
      clear hv e2
      go_enter Try.func26, Try.ntmps26
      go_wp2_with fail
      refine (HE.out _ HB.out).mono ?_; rintro e w' ⟨rfl, hq⟩
      have HB2 := Lib.hid (HB.out.trans (hq.mono HB.out.size))
      clear hq
      go_wp2
      go_ret
      exact ⟨ret_bool HV.out.symm, HB2.out⟩
    · have e4 : (au == bu) = false := eF e2
      rw [e4] at hv
      have HV := Lib.hid (hv.trans (by rfl : _ = false))
      clear hv e2
      go_enter Try.func26, Try.ntmps26
      go_wp2
      go_ret
      exact ⟨ret_bool HV.out.symm, HB.out⟩

set_option maxRecDepth 100000 in
set_option maxHeartbeats 1600000 in
theorem rsame_any (a b : SetP) (pa pb : Option Addr) (ca cb : Nat) (w : World) (ha : RowS w pa a.data.length a.data) (hb : RowS w pb b.data.length b.data) (hl : a.data.length ≤ 1000000) : Calls Try.prog 63 #[.agg #[.string a.k.n, .int .i64 a.k.t, .int .i64 a.k.c, .int .i64 a.ttl, .slice pa a.data.length ca], .agg #[.string b.k.n, .int .i64 b.k.t, .int .i64 b.k.c, .int .i64 b.ttl, .slice pb b.data.length cb]] w fun e w' => e = .returned (.bool (sameP a b)) ∧ Below w.heap.size w w' := by
  obtain ⟨⟨an, at1, ac⟩, au, ad⟩ := a
  obtain ⟨⟨bn, bt, bk⟩, bu, bd⟩ := b
  have hv : sameP ⟨⟨an, at1, ac⟩, au, ad⟩ ⟨⟨bn, bt, bk⟩, bu, bd⟩ = ((an.toList == bn.toList && (at1 == bt && ac == bk)) && ((au == bu) && decide (ad = bd))) := rfl
  have hke := rkey_eql an bn at1 ac bt bk
  obtain ⟨la, hla⟩ : ∃ x, ad.length = x := ⟨_, rfl⟩
  obtain ⟨lb, hlb⟩ : ∃ x, bd.length = x := ⟨_, rfl⟩
  have ha : RowS w pa la ad := by rw [← hla]; exact ha
  have hb : RowS w pb lb bd := by rw [← hlb]; exact hb
  have hl : la ≤ 1000000 := by rw [← hla]; exact hl
  show Calls Try.prog _ #[.agg #[.string an, .int .i64 at1, .int .i64 ac, .int .i64 au, .slice pa ad.length ca], .agg #[.string bn, .int .i64 bt, .int .i64 bk, .int .i64 bu, .slice pb bd.length cb]] w _
  rw [hla, hlb]
  have h1 := (Below.refl w.heap.size w).alloc (Nat.le_refl _) (.cells #[.string an, .int .i64 at1, .int .i64 ac, .int .i64 au, .slice pa la ca] 52)
  have h2 := h1.alloc h1.size (.cells #[.string bn, .int .i64 bt, .int .i64 bk, .int .i64 bu, .slice pb lb cb] 52)
  have HB := Lib.hid h2
  have HE := Lib.hid (fun wx (hx : Below w.heap.size w wx) => sameS4b pa pb la lb ca cb ad bd wx (ha.below hx) (hb.below hx) hl)
  obtain ⟨e3, he3⟩ : ∃ x, decide (ad = bd) = x := ⟨_, rfl⟩
  obtain ⟨e1, he1⟩ : ∃ x, (an.toList == bn.toList && (at1 == bt && ac == bk)) = x := ⟨_, rfl⟩
  rw [he3, he1] at hv
  rw [he3] at HE
  rw [he1] at hke
  have HKE := Lib.hid hke
  clear he1 he3 ha hb h1 h2 hla hlb hke
  cases e1 with
  | false =>
    have HV := Lib.hid (hv.trans (by rfl : _ = false))
    have hke := HKE.out
    clear hv
    go_enter Try.func63, Try.ntmps63
    go_wp2
    go_ret
    exact ⟨ret_bool HV.out.symm, HB.out⟩
  | true =>
    have hke := HKE.out
    by_cases e2 : au = bu
    · have e4 : (au == bu) = true := eT e2
      rw [e4] at hv
      have HV := Lib.hid (hv.trans (by simp : _ = e3))
      clear hv e2
      go_enter Try.func63, Try.ntmps63
      go_wp2_with fail
      refine (HE.out _ HB.out).mono ?_; rintro e w' ⟨rfl, hq⟩
      have HB2 := Lib.hid (HB.out.trans (hq.mono HB.out.size))
      clear hq
      go_wp2
      go_ret
      exact ⟨ret_bool HV.out.symm, HB2.out⟩
    · have e4 : (au == bu) = false := eF e2
      rw [e4] at hv
      have HV := Lib.hid (hv.trans (by rfl : _ = false))
      clear hv e2
      go_enter Try.func63, Try.ntmps63
      go_wp2
      go_ret
      exact ⟨ret_bool HV.out.symm, HB.out⟩
end Go.Proofs.Ythfnphcefkdgbaa
end

section
namespace Go.Proofs.Ythfnphcefkdgbaa
open Go.RowKit

/-- Five cells of a block. -/
def C5 (w : World) (q : Nat) (c0 c1 c2 c3 c4 : Value) : Prop := q < w.heap.size ∧ w.cell? ⟨q, 0, none⟩ = some c0 ∧ w.cell? ⟨q, 1, none⟩ = some c1 ∧ w.cell? ⟨q, 2, none⟩ = some c2 ∧ w.cell? ⟨q, 3, none⟩ = some c3 ∧ w.cell? ⟨q, 4, none⟩ = some c4 ∧ w.frozen? ⟨q, 0, none⟩ = false ∧ w.frozen? ⟨q, 1, none⟩ = false ∧ w.frozen? ⟨q, 2, none⟩ = false ∧ w.frozen? ⟨q, 3, none⟩ = false ∧ w.frozen? ⟨q, 4, none⟩ = false
theorem C5.below {w w' : World} {q : Nat} {c0 c1 c2 c3 c4 : Value} (h : C5 w q c0 c1 c2 c3 c4) (hb : Below w.heap.size w w') : C5 w' q c0 c1 c2 c3 c4 := by
  obtain ⟨h0, h1, h2, h3, h4, h5, f0, f1, f2, f3, f4⟩ := h
  exact ⟨Nat.lt_of_lt_of_le h0 hb.size, (hb.cell h0).trans h1, (hb.cell h0).trans h2, (hb.cell h0).trans h3, (hb.cell h0).trans h4, (hb.cell h0).trans h5, (hb.frozen h0).trans f0, (hb.frozen h0).trans f1, (hb.frozen h0).trans f2, (hb.frozen h0).trans f3, (hb.frozen h0).trans f4⟩
theorem c5_new (w : World) (c0 c1 c2 c3 c4 : Value) (T : TypeId) : C5 (w.alloc (.cells #[c0, c1, c2, c3, c4] T)) w.heap.size c0 c1 c2 c3 c4 := by
  refine ⟨by simp, ?_, ?_, ?_, ?_, ?_, ?_, ?_, ?_, ?_, ?_⟩ <;> simp [World.cell?_alloc_at, World.frozen?_alloc_new]

theorem own_mono4 {w : World} {base base' : Nat} {e : TypeId} {size n : Nat} {v : Value} {xs : List Value} (h : w.ownsRow base e size v n xs) (hb : base' ≤ base) : w.ownsRow base' e size v n xs := by
  refine ⟨h.1, ?_⟩
  rcases h.2 with hn | ⟨g, cap, cur, h1, h2, rest⟩
  · exact .inl hn
  · exact .inr ⟨g, cap, cur, h1, Nat.le_trans hb h2, rest⟩
theorem own_set4 {w : World} {base : Nat} {e : TypeId} {size n : Nat} {v : Value} {xs : List Value} (h : w.ownsRow base e size v n xs) {p : Addr} (hp : p.block < base) (u : Value) : (w.setCell p u).ownsRow base e size v n xs := by
  have hb := (Below.refl 0 w).setCell (Nat.zero_le p.block) u
  exact h.kept (row := some p.block) ⟨hb.os, hb.tape, hb.output, hb.size, fun k _ hne => heap_setCell_other w p k u (fun e => hne (by rw [e]))⟩ (Or.inr (fun e => by have := (h.lt _ e).1; omega))
theorem C5.far {w : World} {q : Nat} {c0 c1 c2 c3 c4 : Value} (h : C5 w q c0 c1 c2 c3 c4) (p : Addr) (hp : p.block ≠ q) (v : Value) : C5 (w.setCell p v) q c0 c1 c2 c3 c4 := by
  obtain ⟨h0, h1, h2, h3, h4, h5, f0, f1, f2, f3, f4⟩ := h
  exact ⟨by simpa using h0, (World.cell?_setCell_far _ _ _ _ hp).trans h1, (World.cell?_setCell_far _ _ _ _ hp).trans h2, (World.cell?_setCell_far _ _ _ _ hp).trans h3, (World.cell?_setCell_far _ _ _ _ hp).trans h4, (World.cell?_setCell_far _ _ _ _ hp).trans h5, by simpa using f0, by simpa using f1, by simpa using f2, by simpa using f3, by simpa using f4⟩
theorem C5.set {w : World} {q : Nat} {c0 c1 c2 c3 c4 : Value} (h : C5 w q c0 c1 c2 c3 c4) (v0 v1 v2 v3 v4 : Value) : C5 (((((w.setCell ⟨q, 0, none⟩ v0).setCell ⟨q, 1, none⟩ v1).setCell ⟨q, 2, none⟩ v2).setCell ⟨q, 3, none⟩ v3).setCell ⟨q, 4, none⟩ v4) q v0 v1 v2 v3 v4 := by
  obtain ⟨h0, h1, h2, h3, h4, h5, f0, f1, f2, f3, f4⟩ := h
  refine ⟨by simpa using h0, ?_, ?_, ?_, ?_, ?_, ?_, ?_, ?_, ?_, ?_⟩ <;> go_simp
theorem own_set5 {w : World} {base : Nat} {e : TypeId} {size n : Nat} {v : Value} {xs : List Value} (h : w.ownsRow base e size v n xs) {q : Nat} (hp : q < base) (v0 v1 v2 v3 v4 : Value) : (((((w.setCell ⟨q, 0, none⟩ v0).setCell ⟨q, 1, none⟩ v1).setCell ⟨q, 2, none⟩ v2).setCell ⟨q, 3, none⟩ v3).setCell ⟨q, 4, none⟩ v4).ownsRow base e size v n xs :=
  own_set4 (own_set4 (own_set4 (own_set4 (own_set4 h hp _) hp _) hp _) hp _) hp _
theorem below_set5 {B : Nat} {w w1 : World} (h : Below B w w1) {q : Nat} (hp : B ≤ q) (v0 v1 v2 v3 v4 : Value) : Below B w (((((w1.setCell ⟨q, 0, none⟩ v0).setCell ⟨q, 1, none⟩ v1).setCell ⟨q, 2, none⟩ v2).setCell ⟨q, 3, none⟩ v3).setCell ⟨q, 4, none⟩ v4) :=
  ((((h.setCell hp _).setCell hp _).setCell hp _).setCell hp _).setCell hp _

set_option maxRecDepth 100000 in
set_option maxHeartbeats 1600000 in
theorem copy_any (n : ByteArray) (t c u : Int) (d : List ByteArray) (a : Option Addr) (dn dc : Nat) (w : World) (h : RowS w a dn d) (hn : a = none → dn = 0 ∧ dc = 0) (hl : dn ≤ 100000) : Calls Try.prog 54 #[.agg #[.string n, .int .i64 t, .int .i64 c, .int .i64 u, .slice a dn dc]] w fun e w' => ∃ dv, e = .returned (.agg #[.string n, .int .i64 t, .int .i64 c, .int .i64 u, dv]) ∧ w'.ownsRow w.heap.size 9 1 dv dn (sc d) ∧ Below w.heap.size w w' := by
  have h1 := (Below.refl w.heap.size w).alloc (Nat.le_refl _) (.cells #[.string n, .int .i64 t, .int .i64 c, .int .i64 u, .slice a dn dc] 39)
  have h2 := (Below.refl _ (w.alloc (.cells #[.string n, .int .i64 t, .int .i64 c, .int .i64 u, .slice a dn dc] 39))).alloc (Nat.le_refl _) (.cells #[.string ⟨#[]⟩, .int .i64 0, .int .i64 0, .int .i64 0, .slice none 0 0] 39)
  have C1 := Lib.hid ((c5_new w (.string n) (.int .i64 t) (.int .i64 c) (.int .i64 u) (.slice a dn dc) 39).below h2)
  have c2 := c5_new (w.alloc (.cells #[.string n, .int .i64 t, .int .i64 c, .int .i64 u, .slice a dn dc] 39)) (.string ⟨#[]⟩) (.int .i64 0) (.int .i64 0) (.int .i64 0) (.slice none 0 0) 39
  rw [World.size_alloc] at c2
  have C2 := Lib.hid c2
  have HB := Lib.hid (h1.trans (h2.mono h1.size))
  have HC := Lib.hid (fun wx (hx : Below w.heap.size w wx) => cloneS4 a dn dc d wx (h.below hx) hn hl)
  clear c2 h1 h2 h hn
  go_enter Try.func54, Try.ntmps54
  go_wp2_with fail
  have hsz := HB.out.size
  have hsz2 : w.heap.size + 2 ≤ ((w.alloc (.cells #[.string n, .int .i64 t, .int .i64 c, .int .i64 u, .slice a dn dc] 39)).alloc (.cells #[.string ⟨#[]⟩, .int .i64 0, .int .i64 0, .int .i64 0, .slice none 0 0] 39)).heap.size := by simp [World.size_alloc]
  refine (HC.out _ HB.out).mono ?_; rintro e w1 ⟨dv, rfl, hown, hb⟩
  have K1 := Lib.hid (C1.out.below hb)
  have K2 := Lib.hid (C2.out.below hb)
  have HB1 := Lib.hid (HB.out.trans (hb.mono HB.out.size))
  obtain ⟨a', c', rfl, _⟩ := cells_own hown
  have HO := Lib.hid hown
  clear hb hown C1 C2
  obtain ⟨q2, hq2⟩ : ∃ q, w.heap.size + 1 = q := ⟨_, rfl⟩
  rw [hq2] at K2 ⊢
  obtain ⟨q1, hq1⟩ : ∃ q, w.heap.size = q := ⟨_, rfl⟩
  have hqne : q1 ≠ q2 := by omega
  have hqne' : q2 ≠ q1 := by omega
  have K1' : C5 w1 q1 (.string n) (.int .i64 t) (.int .i64 c) (.int .i64 u) (.slice a dn dc) := by rw [← hq1]; exact K1.out
  have HQ := Lib.hid (show q2 = w.heap.size + 1 from hq2.symm)
  obtain ⟨hq1s, p0, p1, p2, p3, p4, f0, f1, f2, f3, f4⟩ := K1'
  obtain ⟨hq2s, r0, r1, r2, r3, r4, g0, g1, g2, g3, g4⟩ := K2.out
  rw [show (Value.pointer (some { block := w.heap.size, off := 0 })) = Value.pointer (some { block := q1, off := 0 }) by rw [hq1]]
  have HN1 := Lib.hid (show w.heap.size = q1 from hq1)
  have HS := Lib.hid (show w.heap.size + 2 ≤ _ from hsz2)
  have K3 := Lib.hid ((K2.out.far ⟨q1, 4, none⟩ hqne (.slice a' dn c')).set (.string n) (.int .i64 t) (.int .i64 c) (.int .i64 u) (.slice a' dn c'))
  have HO3 := Lib.hid (own_set5 (own_set4 HO.out (p := ⟨q1, 4, none⟩) (by have := HS.out; have := HN1.out; simp; omega) (.slice a' dn c')) (q := q2) (by have := HS.out; have := HQ.out; omega) (.string n) (.int .i64 t) (.int .i64 c) (.int .i64 u) (.slice a' dn c'))
  have HB3 := Lib.hid (below_set5 (HB1.out.setCell (p := ⟨q1, 4, none⟩) (by have := HN1.out; simp; omega) (.slice a' dn c')) (q := q2) (by have := HQ.out; omega) (.string n) (.int .i64 t) (.int .i64 c) (.int .i64 u) (.slice a' dn c'))
  have HL := Lib.hid (show w.heap.size ≤ _ from hsz)
  clear f0 f1 f2 f3 hq1 hq2 K1 K2 hsz
  go_wp2
  obtain ⟨wz, hwz⟩ : ∃ x, ((((((w1.setCell { block := q1, off := 4 } (Value.slice a' dn c')).setCell { block := q2, off := 0 } (Value.string n)).setCell { block := q2, off := 1 } (Value.int IntKind.i64 t)).setCell { block := q2, off := 2 } (Value.int IntKind.i64 c)).setCell { block := q2, off := 3 } (Value.int IntKind.i64 u)).setCell { block := q2, off := 4 } (Value.slice a' dn c')) = x := ⟨_, rfl⟩
  rw [hwz] at K3 HO3 HB3 ⊢
  clear hwz p0 p1 p2 p3 p4 r0 r1 r2 r3 r4 g0 g1 g2 g3 g4 f4
  obtain ⟨_, z0, z1, z2, z3, z4, _⟩ := K3.out
  refine bodyPost_ret (v := .agg #[.string n, .int .i64 t, .int .i64 c, .int .i64 u, .slice a' dn c']) (by simp [results, Try.results54, go_sem, z0, z1, z2, z3, z4]) rfl ⟨_, rfl, own_mono4 HO3.out HL.out, HB3.out⟩
set_option maxRecDepth 100000 in
theorem has_any (n : ByteArray) (t c u : Int) (d : List ByteArray) (a : Option Addr) (dn dc : Nat) (x : ByteArray) (w : World) (h : RowS w a dn d) (hl : dn ≤ 100000) : Calls Try.prog 16 #[.agg #[.string n, .int .i64 t, .int .i64 c, .int .i64 u, .slice a dn dc], .string x] w fun e w' => e = .returned (.bool (memS x d)) ∧ Below w.heap.size w w' := by
  have HB := Lib.hid ((Below.refl w.heap.size w).alloc (Nat.le_refl _) (.cells #[.string n, .int .i64 t, .int .i64 c, .int .i64 u, .slice a dn dc] 39))
  have HC := Lib.hid (fun wx (hx : Below w.heap.size w wx) => containsS a dn dc d x wx (h.below hx) (by omega))
  clear h
  obtain ⟨mb, hmb⟩ : ∃ y, memS x d = y := ⟨_, rfl⟩
  rw [hmb] at HC
  rw [hmb]
  clear hmb
  go_enter Try.func16, Try.ntmps16
  go_wp2_with fail
  refine (HC.out _ HB.out).mono ?_; rintro e w' ⟨rfl, rfl⟩
  go_wp2
  go_ret
  exact ⟨rfl, HB.out⟩
end Go.Proofs.Ythfnphcefkdgbaa
end

section
namespace Go.Proofs.Ythfnphcefkdgbaa
open Go.RowKit

def ssD : SetP := ⟨⟨ByteArray.empty, 0, 0⟩, 0, []⟩
/-- A set at five cells. -/
def SetAt (w : World) (b o : Nat) (s : SetP) (p : Option Addr) (c : Nat) : Prop := w.cell? ⟨b, o, none⟩ = some (.string s.k.n) ∧ w.cell? ⟨b, o + 1, none⟩ = some (.int .i64 s.k.t) ∧ w.cell? ⟨b, o + 2, none⟩ = some (.int .i64 s.k.c) ∧ w.cell? ⟨b, o + 3, none⟩ = some (.int .i64 s.ttl) ∧ w.cell? ⟨b, o + 4, none⟩ = some (.slice p s.data.length c) ∧ RowS w p s.data.length s.data ∧ (p = none → s.data.length = 0 ∧ c = 0)
/-- A row of sets. -/
def SetsAt (w : World) (a : Option Addr) (n : Nat) (L : List SetP) : Prop := L.length = n ∧ (n = 0 ∨ ∃ b off, a = some ⟨b, off, none⟩ ∧ b < w.heap.size ∧ ∀ k, k < n → ∃ p c, SetAt w b (off + k * 5) (L.getD k ssD) p c)
theorem SetAt.below {w w' : World} {b o : Nat} {s : SetP} {p : Option Addr} {c : Nat} (h : SetAt w b o s p c) (hlt : b < w.heap.size) (hb : Below w.heap.size w w') : SetAt w' b o s p c := by
  obtain ⟨h0, h1, h2, h3, h4, h5, h6⟩ := h
  exact ⟨(hb.cell hlt).trans h0, (hb.cell hlt).trans h1, (hb.cell hlt).trans h2, (hb.cell hlt).trans h3, (hb.cell hlt).trans h4, h5.below hb, h6⟩
theorem SetsAt.below {w w' : World} {a : Option Addr} {n : Nat} {L : List SetP} (h : SetsAt w a n L) (hb : Below w.heap.size w w') : SetsAt w' a n L := by
  refine ⟨h.1, ?_⟩
  rcases h.2 with h0 | ⟨b, off, rfl, hlt, hc⟩
  · exact Or.inl h0
  · exact Or.inr ⟨b, off, rfl, Nat.lt_of_lt_of_le hlt hb.size, fun k hk => by
      obtain ⟨p, c, h⟩ := hc k hk
      exact ⟨p, c, h.below hlt hb⟩⟩
/-- Small. -/
def SmS (s : SetP) : Prop := s.k.n.size ≤ 60000 ∧ s.data.length ≤ 200 ∧ ∀ j, j < s.data.length → (s.data.getD j ByteArray.empty).size ≤ 60000
/-- Sizes that may be. -/
def SzS (s : SetP) : Prop := s.k.n.size ≤ 9223372036854775807 ∧ s.data.length ≤ 9223372036854775807 ∧ ∀ j, j < s.data.length → (s.data.getD j ByteArray.empty).size ≤ 9223372036854775807
theorem min60 (s : ByteArray) : ∃ v : Nat, min (s.size : Int) 60001 = (v : Int) ∧ v ≤ 60001 ∧ (v ≤ 60000 → s.size ≤ 60000) := by
  by_cases h : 60001 < s.size
  · exact ⟨60001, by omega, Nat.le_refl _, fun h => by omega⟩
  · exact ⟨s.size, by omega, by omega, fun h => h⟩

set_option maxRecDepth 100000 in
set_option maxHeartbeats 1600000 in
theorem fewSets_any (a : Option Addr) (len cap : Nat) (L : List SetP) (w : World) (h : SetsAt w a len L) (hlen : len ≤ 9223372036854775807) (hsz : ∀ k, k < len → SzS (L.getD k ssD)) :
    Calls Try.prog 30 #[.slice a len cap] w fun e w' => (e = .returned (.bool false) ∨ e = .returned (.bool true) ∧ len ≤ 100 ∧ ∀ j, j < len → SmS (L.getD j ssD)) ∧ w = w' := by
  have HR := Lib.hid h
  have HSZ := Lib.hid hsz
  clear h hsz
  go_enter Try.func30, Try.ntmps30
  go_wp2
  go_loop [3, 4] (fun n i => ∃ k S : Nat, k ≤ len ∧ k ≤ 100 ∧ S ≤ 60000 ∧ n = .int .i64 S ∧ i = .int .i64 k ∧ Hid (∀ j, j < k → SmS (L.getD j ssD))) (fun _ i => len - (intOf i).toNat)
  case atStart => exact ⟨0, 0, Nat.zero_le _, Nat.zero_le _, Nat.zero_le _, rfl, rfl, fun j hj => absurd hj (by omega)⟩
  case round =>
    obtain ⟨k, S, hk, hk60, hS, rfl, rfl, hall⟩ := hrel
    by_cases hlt : k < len ∧ k < 100
    · obtain ⟨l1, l2⟩ := hlt
      rcases HR.out.2 with h9 | ⟨b, o, rfl, hbl, hc⟩
      · omega
      obtain ⟨p, c, hs⟩ := hc k l1
      have hz := HSZ.out k l1
      obtain ⟨s, hss⟩ : ∃ s, L.getD k ssD = s := ⟨_, rfl⟩
      rw [hss] at hs hz
      have HS := Lib.hid hss
      clear hc hss
      obtain ⟨⟨sn, st, sc1⟩, su, sd⟩ := s
      obtain ⟨dl, hdl⟩ : ∃ x, sd.length = x := ⟨_, rfl⟩
      obtain ⟨c0, -, -, -, c4, hrow, -⟩ := hs
      replace c0 : w.cell? ⟨b, o + k * 5, none⟩ = some (.string sn) := c0
      replace c4 : w.cell? ⟨b, o + k * 5 + 4, none⟩ = some (.slice p sd.length c) := c4
      replace hrow : RowS w p sd.length sd := hrow
      obtain ⟨z1, z2, z3⟩ := hz
      replace z1 : sn.size ≤ 9223372036854775807 := z1
      replace z2 : sd.length ≤ 9223372036854775807 := z2
      replace z3 : ∀ j, j < sd.length → (sd.getD j ByteArray.empty).size ≤ 9223372036854775807 := z3
      rw [hdl] at c4 hrow z2 z3
      have HDL := Lib.hid hdl
      have HROW := Lib.hid hrow
      have HZ3 := Lib.hid z3
      obtain ⟨v, hv, hv1, hv2⟩ := min60 sn
      have HV2 := Lib.hid hv2
      clear hdl hrow z3 hv2
      go_wp2
      go_loop [3, 5] (fun n j => ∃ q S2 : Nat, q ≤ dl ∧ q ≤ 200 ∧ S2 ≤ 120001 + q * 60002 ∧ n = .int .i64 S2 ∧ j = .int .i64 q ∧ Hid (S2 ≤ 60000 → sn.size ≤ 60000 ∧ ∀ i, i < q → (sd.getD i ByteArray.empty).size ≤ 60000)) (fun _ j => dl - (intOf j).toNat)
      case atStart => exact ⟨0, S + v, Nat.zero_le _, Nat.zero_le _, by omega, by first | rfl | go_num, rfl, fun h => ⟨HV2.out (by omega), fun i hi => absurd hi (by omega)⟩⟩
      case round =>
        obtain ⟨q, S2, hq, hq2, hS2, rfl, rfl, hin⟩ := hrel
        by_cases hlt : q < dl ∧ q < 200
        · obtain ⟨m1, m2⟩ := hlt
          rcases HROW.out.2 with h9 | ⟨b2, o2, rfl, hbl2, hc⟩
          · omega
          have e0 := hc q m1
          have y0 := HZ3.out q m1
          obtain ⟨d, hd⟩ : ∃ d, sd.getD q ByteArray.empty = d := ⟨_, rfl⟩
          rw [hd] at e0 y0
          have HD := Lib.hid hd
          obtain ⟨u, hu, hu1, hu2⟩ := min60 d
          have HU2 := Lib.hid hu2
          clear hc hd hu2 hv
          go_wp2
          go_round
          case rel => exact ⟨q + 1, S2 + u + 1, by omega, by omega, by omega, by go_num, by go_num, fun h => ⟨(hin.out (by omega)).1, fun i hi => by
            by_cases e : i = q
            · subst e; rw [HD.out]; exact HU2.out (by omega)
            · exact (hin.out (by omega)).2 i (by omega)⟩⟩
          case measure => simp [intOf]; omega
        · have hd : decide (q < dl) = false ∨ decide (q < dl) = true ∧ decide ((q : Int) < 200) = false := by
            simp only [decide_eq_true_eq, decide_eq_false_iff_not]; omega
          clear hv
          by_cases hov : 60000 < S2
          · have d5 := dT (p := (60000 : Int) < (S2 : Int)) (by omega)
            rcases hd with d1 | ⟨d1, d2⟩
            all_goals
              go_wp2
              go_ret
              exact ⟨by first | exact Or.inl rfl | rfl, rfl⟩
          · have d5 := dF (p := (60000 : Int) < (S2 : Int)) (by omega)
            by_cases hdl2 : 200 < dl
            · have d6 := dT (p := (200 : Int) < (dl : Int)) (by omega)
              rcases hd with d1 | ⟨d1, d2⟩
              all_goals
                go_wp2
                go_ret
                exact ⟨by first | exact Or.inl rfl | rfl, rfl⟩
            · have d6 := dF (p := (200 : Int) < (dl : Int)) (by omega)
              have hqd : q = dl := by omega
              have HN := Lib.hid (show ∀ j, j < k + 1 → SmS (L.getD j ssD) from fun j hj => by
                by_cases e : j = k
                · subst e
                  rw [HS.out]
                  have h2 := hin.out (by omega)
                  refine ⟨h2.1, ?_, fun i hi => h2.2 i ?_⟩
                  · show sd.length ≤ 200
                    rw [HDL.out]; omega
                  · have hi : i < sd.length := hi
                    rw [HDL.out] at hi; omega
                · exact hall.out j (by omega))
              rcases hd with d1 | ⟨d1, d2⟩
              all_goals
                go_wp2
                go_round
                case rel => exact ⟨k + 1, S2, by omega, by omega, by omega, by first | rfl | go_num, by go_num, HN.out⟩
                case measure => simp [intOf]; omega
    · have hd : decide (k < len) = false ∨ decide (k < len) = true ∧ decide ((k : Int) < 100) = false := by
        simp only [decide_eq_true_eq, decide_eq_false_iff_not]; omega
      by_cases h6 : len ≤ 100
      · have e6 := dT (p := (len : Int) ≤ 100) (by omega)
        have hk9 : k = len := by omega
        rcases hd with d1 | ⟨d1, d2⟩
        all_goals
          go_wp2
          go_ret
          exact ⟨by first | exact Or.inr ⟨rfl, h6, fun j hj => hall.out j (by omega)⟩ | exact Or.inr ⟨rfl, fun j hj => hall.out j (by omega)⟩, rfl⟩
      · have e6 := dF (p := (len : Int) ≤ 100) (by omega)
        rcases hd with d1 | ⟨d1, d2⟩
        all_goals
          go_wp2
          go_ret
          exact ⟨by first | exact Or.inl rfl | rfl, rfl⟩
end Go.Proofs.Ythfnphcefkdgbaa
end

section
namespace Go.Proofs.Ythfnphcefkdgbaa
open Go.RowKit

/-- The first set of a key. -/
noncomputable def findK (L : List SetP) (k : Ky) : Option SetP := open Classical in L.find? (fun s => decide (s.k = k))
/-- What Find answers. -/
def Found (L : List SetP) (k : Ky) (B : Nat) (e : Ending) (w' : World) : Prop :=
  (∃ s dv, findK L k = some s ∧ e = .returned (.tuple #[.agg #[.string s.k.n, .int .i64 s.k.t, .int .i64 s.k.c, .int .i64 s.ttl, dv], .bool true]) ∧ w'.ownsRow B 9 1 dv s.data.length (sc s.data)) ∨ (findK L k = none ∧ e = .returned (.tuple #[.agg #[.string ⟨#[]⟩, .int .i64 0, .int .i64 0, .int .i64 0, .slice none 0 0], .bool false]))
theorem findK_none {L : List SetP} {k : Ky} {j : Nat} (h : ∀ s ∈ L.take j, s.k ≠ k) (hj : L.length ≤ j) : findK L k = none := by
  rw [List.take_of_length_le hj] at h
  exact List.find?_eq_none.2 fun s hs => by simpa using h s hs
theorem findK_some {L : List SetP} {k : Ky} {j : Nat} {s : SetP} (h : ∀ s ∈ L.take j, s.k ≠ k) (hs : L[j]? = some s) (hk : s.k = k) : findK L k = some s := by
  obtain ⟨hlt, he⟩ := List.getElem?_eq_some_iff.1 hs
  have h1 : L = L.take j ++ s :: L.drop (j + 1) := by
    rw [← he, ← List.drop_eq_getElem_cons hlt, List.take_append_drop]
  have h2 : (L.take j).find? (fun s => open Classical in decide (s.k = k)) = none := List.find?_eq_none.2 fun s hs => by simpa using h s hs
  rw [h1, findK, List.find?_append, h2]
  simp [hk]

set_option maxRecDepth 100000 in
set_option maxHeartbeats 1600000 in
theorem find_any (a : Option Addr) (len cap : Nat) (L : List SetP) (kn : ByteArray) (kt kc : Int) (w : World) (h : SetsAt w a len L) (hlen : len ≤ 100000) (hd : ∀ s ∈ L, s.data.length ≤ 100000) :
    Calls Try.prog 93 #[.slice a len cap, .agg #[.string kn, .int .i64 kt, .int .i64 kc]] w fun e w' => Found L ⟨kn, kt, kc⟩ w.heap.size e w' ∧ Below w.heap.size w w' := by
  have HR := Lib.hid h
  have HD := Lib.hid hd
  have HL := Lib.hid h.1
  have hq1 := (Below.refl w.heap.size w).alloc (Nat.le_refl _) (.cells #[.string kn, .int .i64 kt, .int .i64 kc] 31)
  have hq2 := (Below.refl _ (w.alloc (.cells #[.string kn, .int .i64 kt, .int .i64 kc] 31))).alloc (Nat.le_refl _) (.cells #[.string ⟨#[]⟩, .int .i64 0, .int .i64 0, .int .i64 0, .slice none 0 0] 39)
  have HK := Lib.hid ((kyAt_new w ⟨kn, kt, kc⟩ 31).below hq2)
  have hc := c5_new (w.alloc (.cells #[.string kn, .int .i64 kt, .int .i64 kc] 31)) (.string ⟨#[]⟩) (.int .i64 0) (.int .i64 0) (.int .i64 0) (.slice none 0 0) 39
  rw [World.size_alloc] at hc
  have HC := Lib.hid hc
  have HB := Lib.hid (hq1.trans (hq2.mono hq1.size))
  have HZ := Lib.hid (show w.heap.size + 2 ≤ ((w.alloc (.cells #[.string kn, .int .i64 kt, .int .i64 kc] 31)).alloc (.cells #[.string ⟨#[]⟩, .int .i64 0, .int .i64 0, .int .i64 0, .slice none 0 0] 39)).heap.size by simp [World.size_alloc])
  clear h hd hq1 hq2 hc
  go_enter Try.func93, Try.ntmps93
  go_wp2_with fail
  obtain ⟨w1, hw1⟩ : ∃ x, ((w.alloc (.cells #[.string kn, .int .i64 kt, .int .i64 kc] 31)).alloc (.cells #[.string ⟨#[]⟩, .int .i64 0, .int .i64 0, .int .i64 0, .slice none 0 0] 39)) = x := ⟨_, rfl⟩
  rw [hw1] at HK HC HB HZ ⊢
  clear hw1
  obtain ⟨q2, hq2⟩ : ∃ q, w.heap.size + 1 = q := ⟨_, rfl⟩
  rw [hq2] at HC ⊢
  have HQ2 := Lib.hid hq2
  obtain ⟨q, hq⟩ : ∃ q, w.heap.size = q := ⟨_, rfl⟩
  have HQ := Lib.hid hq
  rw [show (Value.pointer (some { block := w.heap.size, off := 0 })) = Value.pointer (some { block := q, off := 0 }) by rw [hq]]
  replace HK : Hid (KyAt w1 q ⟨kn, kt, kc⟩) := by rw [← hq]; exact HK
  clear hq hq2
  go_loopw [10] (fun i wr => ∃ k : Nat, k ≤ len ∧ i = .int .i64 k ∧ Hid (∀ s ∈ L.take k, s.k ≠ ⟨kn, kt, kc⟩) ∧ Hid (KyAt wr q ⟨kn, kt, kc⟩) ∧ Hid (C5 wr q2 (.string ⟨#[]⟩) (.int .i64 0) (.int .i64 0) (.int .i64 0) (.slice none 0 0)) ∧ Hid (Below w.heap.size w wr) ∧ w.heap.size + 2 ≤ wr.heap.size) (fun i _ => len - (intOf i).toNat)
  case atStart => exact ⟨0, Nat.zero_le _, rfl, (fun s hs => by simp at hs), HK, HC, HB.out, HZ.out⟩
  case round =>
    obtain ⟨k, hk, rfl, hno, hky, hc5, hbw, hsz⟩ := hrel
    clear HK HC HB HZ
    by_cases hlt : k < len
    · rcases (HR.out.below hbw.out).2 with h9 | ⟨b, o, rfl, hbl, hc⟩
      · omega
      obtain ⟨p, c, hs⟩ := hc k hlt
      have hLk : L[k]? = some (L.getD k ssD) := by
        rw [List.getD_eq_getElem?_getD, List.getElem?_eq_getElem (by have := HL.out; omega)]; rfl
      have hdl := HD.out _ (List.mem_of_getElem? hLk)
      obtain ⟨s, hss⟩ : ∃ s, L.getD k ssD = s := ⟨_, rfl⟩
      rw [hss] at hs hLk hdl
      obtain ⟨⟨sn, st, sc1⟩, su, sd⟩ := s
      obtain ⟨dl, hdl2⟩ : ∃ x, sd.length = x := ⟨_, rfl⟩
      obtain ⟨c0, c1, c2, c3, c4, hrow, hnil⟩ := hs
      replace c0 : wr.cell? ⟨b, o + k * 5, none⟩ = some (.string sn) := c0
      replace c1 : wr.cell? ⟨b, o + k * 5 + 1, none⟩ = some (.int .i64 st) := c1
      replace c2 : wr.cell? ⟨b, o + k * 5 + 2, none⟩ = some (.int .i64 sc1) := c2
      replace c3 : wr.cell? ⟨b, o + k * 5 + 3, none⟩ = some (.int .i64 su) := c3
      replace c4 : wr.cell? ⟨b, o + k * 5 + 4, none⟩ = some (.slice p sd.length c) := c4
      replace hrow : RowS wr p sd.length sd := hrow
      replace hnil : p = none → sd.length = 0 ∧ c = 0 := hnil
      replace hdl : sd.length ≤ 100000 := hdl
      rw [hdl2] at c4 hrow hnil hdl
      have HDL := Lib.hid hdl2
      have HROW := Lib.hid hrow
      have HNIL := Lib.hid hnil
      have HLK := Lib.hid hLk
      have hb1 := (Below.refl wr.heap.size wr).alloc (Nat.le_refl _) (.cells #[.string sn, .int .i64 st, .int .i64 sc1, .int .i64 su, .slice p dl c] 39)
      have HB1 := Lib.hid hb1
      have HBX := Lib.hid (hbw.out.trans (hb1.mono hbw.out.size))
      obtain ⟨hqs, p0, p1, p2⟩ := hky.out
      clear hc hss hdl2 hrow hnil hLk hb1
      by_cases hkey : (⟨sn, st, sc1⟩ : Ky) = ⟨kn, kt, kc⟩
      · have hke : ∀ W, (binOp .eql 31 (.agg #[.string sn, .int .i64 st, .int .i64 sc1]) (.agg #[.string kn, .int .i64 kt, .int .i64 kc])).run Try.prog W = .ok (.bool true) W := fun W => by
          rw [key_eql, (key_same ⟨sn, st, sc1⟩ ⟨kn, kt, kc⟩).2 hkey]
        have HF := Lib.hid (findK_some hno.out HLK.out hkey)
        clear hkey
        go_wp2_with fail
        refine (copy_any sn st sc1 su sd p dl c _ (HROW.out.below HB1.out) HNIL.out (by omega)).mono ?_; rintro e w2 ⟨dv, rfl, hown, hb⟩
        have HC2 := Lib.hid ((hc5.out.below HB1.out).below hb)
        have HB2 := Lib.hid (HBX.out.trans (hb.mono HBX.out.size))
        have HO2 := Lib.hid (own_mono4 (base' := w.heap.size + 2) hown (by have := HB1.out.size; omega))
        obtain ⟨a', c', rfl, _⟩ := cells_own hown
        clear hb hown p0 p1 p2 c0 c1 c2 c3 c4 hc5 hky
        have HC3 := Lib.hid (HC2.out.set (.string sn) (.int .i64 st) (.int .i64 sc1) (.int .i64 su) (.slice a' dl c'))
        have HO3 := Lib.hid (own_set5 HO2.out (q := q2) (by have := HQ2.out; omega) (.string sn) (.int .i64 st) (.int .i64 sc1) (.int .i64 su) (.slice a' dl c'))
        have HB3 := Lib.hid (below_set5 HB2.out (q := q2) (by have := HQ2.out; omega) (.string sn) (.int .i64 st) (.int .i64 sc1) (.int .i64 su) (.slice a' dl c'))
        obtain ⟨_, r0, r1, r2, r3, r4, f0, f1, f2, f3, f4⟩ := HC2.out
        go_wp2
        obtain ⟨wz, hwz⟩ : ∃ x, (((((w2.setCell { block := q2, off := 0 } (Value.string sn)).setCell { block := q2, off := 1 } (Value.int IntKind.i64 st)).setCell { block := q2, off := 2 } (Value.int IntKind.i64 sc1)).setCell { block := q2, off := 3 } (Value.int IntKind.i64 su)).setCell { block := q2, off := 4 } (Value.slice a' dl c')) = x := ⟨_, rfl⟩
        rw [hwz] at HC3 HO3 HB3 ⊢
        clear hwz r0 r1 r2 r3 r4 f0 f1 f2 f3 f4 HC2
        obtain ⟨_, z0, z1, z2, z3, z4, _⟩ := HC3.out
        refine bodyPost_ret (v := .tuple #[.agg #[.string sn, .int .i64 st, .int .i64 sc1, .int .i64 su, .slice a' dl c'], .bool true]) (by simp [results, Try.results93, go_sem, z0, z1, z2, z3, z4]) rfl ⟨Or.inl ⟨_, _, HF.out, rfl, ?_⟩, HB3.out⟩
        show wz.ownsRow w.heap.size 9 1 (.slice a' dl c') sd.length (sc sd)
        rw [HDL.out]
        exact own_mono4 HO3.out (by omega)
      · have hke : ∀ W, (binOp .eql 31 (.agg #[.string sn, .int .i64 st, .int .i64 sc1]) (.agg #[.string kn, .int .i64 kt, .int .i64 kc])).run Try.prog W = .ok (.bool false) W := fun W => by
          rw [key_eql, show (sn.toList == kn.toList && (st == kt && sc1 == kc)) = false from Bool.eq_false_iff.2 (fun h => hkey ((key_same ⟨sn, st, sc1⟩ ⟨kn, kt, kc⟩).1 h))]
        have HN := Lib.hid (show ∀ s ∈ L.take (k + 1), s.k ≠ ⟨kn, kt, kc⟩ from fun s hs => by
          rw [List.take_add_one, HLK.out] at hs
          rcases List.mem_append.1 hs with h1 | h1
          · exact hno.out s h1
          · have h2 : s = ⟨⟨sn, st, sc1⟩, su, sd⟩ := by simpa using h1
            rw [h2]; exact hkey)
        have HKY := Lib.hid (hky.out.below HB1.out)
        have HC5 := Lib.hid (hc5.out.below HB1.out)
        have hsz1 := HB1.out.size
        have HS1 := Lib.hid (Nat.le_trans hsz hsz1)
        clear hkey hsz1
        go_wp2
        go_roundw
        case rel => exact ⟨k + 1, by omega, by go_num, HN.out, HKY.out, HC5.out, HBX.out, HS1.out⟩
        case measure => simp [intOf]; omega
    · have HF := Lib.hid (findK_none hno.out (show L.length ≤ k by rw [HL.out]; omega))
      have HC3 := Lib.hid (hc5.out.set (.string ⟨#[]⟩) (.int .i64 0) (.int .i64 0) (.int .i64 0) (.slice none 0 0))
      have HB3 := Lib.hid (below_set5 hbw.out (q := q2) (by have := HQ2.out; omega) (.string ⟨#[]⟩) (.int .i64 0) (.int .i64 0) (.int .i64 0) (.slice none 0 0))
      obtain ⟨_, r0, r1, r2, r3, r4, f0, f1, f2, f3, f4⟩ := hc5.out
      go_wp2
      obtain ⟨wz, hwz⟩ : ∃ x, (((((wr.setCell { block := q2, off := 0 } (Value.string ⟨#[]⟩)).setCell { block := q2, off := 1 } (Value.int IntKind.i64 0)).setCell { block := q2, off := 2 } (Value.int IntKind.i64 0)).setCell { block := q2, off := 3 } (Value.int IntKind.i64 0)).setCell { block := q2, off := 4 } (Value.slice none 0 0)) = x := ⟨_, rfl⟩
      rw [hwz] at HC3 HB3 ⊢
      clear hwz r0 r1 r2 r3 r4 f0 f1 f2 f3 f4
      obtain ⟨_, z0, z1, z2, z3, z4, _⟩ := HC3.out
      refine bodyPost_ret (v := .tuple #[.agg #[.string ⟨#[]⟩, .int .i64 0, .int .i64 0, .int .i64 0, .slice none 0 0], .bool false]) (by simp [results, Try.results93, go_sem, z0, z1, z2, z3, z4]) rfl ⟨Or.inr ⟨HF.out, rfl⟩, HB3.out⟩
end Go.Proofs.Ythfnphcefkdgbaa
end
