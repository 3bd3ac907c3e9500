/- ShaPieces: the walk. -/
import Derived.Test.YtocfphijheidbaaShL
namespace Go.Proofs.Ytocfphijheidbaa
open Go.RowKit

theorem RowBC.val {w : World} {a : Option Addr} {n : Nat} {M : List (List UInt8)} (h : RowBC w a n M) (j : Nat) (hj : j < n) : ∃ b off ai ci, a = some ⟨b, off, none⟩ ∧ b < w.heap.size ∧ w.cell? ⟨b, off + j, none⟩ = some (.slice ai (M.getD j []).length ci) ∧ ValC w (.slice ai (M.getD j []).length ci) (M.getD j []) := by
  obtain ⟨b, off, ai, ci, h1, h2, h3, h4, h5, h6⟩ := h.at j hj
  exact ⟨b, off, ai, ci, h1, h2, h3, ai, ci, rfl, h4, h5, h6⟩
/-- Numbers of 8 bits, whatever they are. -/
def Some8 (w : World) (g : Nat) : Prop := ∃ f, ArA .u8 48 w g 0 f
theorem Some8.below {w w' : World} {g : Nat} (h : Some8 w g) (hb : Below w.heap.size w w') : Some8 w' g := by
  obtain ⟨f, h⟩ := h
  exact ⟨f, h.below hb⟩
theorem Some8.oth {w w' : World} {g q : Nat} (h : Some8 w g) (ho : Oth w w' q) (hne : g ≠ q) : Some8 w' g := by
  obtain ⟨f, h⟩ := h
  exact ⟨f, h.oth ho hne⟩
theorem own_some8 {w : World} {B : Nat} {v : Value} {l : List UInt8} (h : w.ownsRow B 5 1 v 48 (bc l)) : ∃ g c, v = .slice (some ⟨g, 0, none⟩) 48 c ∧ B ≤ g ∧ g < w.heap.size ∧ Some8 w g := by
  rcases h.2 with ⟨_, h1⟩ | ⟨g, cap, cur, rfl, hb, hg, _⟩
  · omega
  · exact ⟨g, cap, rfl, hb, (Array.getElem?_eq_some_iff.1 hg).1, _, fun j hj => by rw [Nat.zero_add]; exact ⟨own_at h j hj, h.frozenAt j⟩⟩
theorem both_valC {w0 w' : World} {B n m : Nat} {v : Value} {A K : List (List UInt8)} {cs ds : List Value} (hA : ∀ j u, cs[j]? = some u → ValC w0 u (A.getD j [])) (hK : ∀ j u, ds[j]? = some u → ValC w0 u (K.getD j [])) (lA : A.length = n) (lK : K.length = m) (lc : cs.length = n) (hb : Below w0.heap.size w0 w') (ho : w'.ownsRow B 25 1 v (n + m) (cs ++ ds)) : ∃ a c, v = .slice a (n + m) c ∧ RowBC w' a (n + m) (A ++ K) := by
  obtain ⟨a, c, rfl, h1, _⟩ := cells_own ho
  refine ⟨a, c, rfl, cs ++ ds, h1, by rw [List.length_append, lA, lK], fun j u hj => ?_⟩
  by_cases h : j < n
  · rw [List.getElem?_append_left (by omega)] at hj
    have := (hA j u hj).below hb
    rwa [List.getD_eq_getElem?_getD, List.getElem?_append_left (by omega), ← List.getD_eq_getElem?_getD]
  · rw [List.getElem?_append_right (by omega), lc] at hj
    have := (hK _ u hj).below hb
    rwa [List.getD_eq_getElem?_getD, List.getElem?_append_right (by omega), lA, ← List.getD_eq_getElem?_getD]
theorem flat_app_len (A K : List (List UInt8)) : (A ++ K).flatten = A.flatten ++ K.flatten := List.flatten_append

set_option maxRecDepth 100000 in
set_option maxHeartbeats 8000000 in
theorem walkPieces (pa : Option Addr) (la ca : Nat) (A : List (List UInt8)) (pb : Option Addr) (lb cb : Nat) (K : List (List UInt8)) (w : World) (hA : RowBC w pa la A) (hK : RowBC w pb lb K) (nA : pa = none → la = 0 ∧ ca = 0) (nK : pb = none → lb = 0 ∧ cb = 0) (lA : la ≤ 9223372036854775807) (lK : lb ≤ 9223372036854775807) (sA : ∀ k, k < la → (A.getD k []).length ≤ 9223372036854775807) (sK : ∀ k, k < lb → (K.getD k []).length ≤ 9223372036854775807) :
    Calls Try.prog 4 #[.slice pa la ca, .slice pb lb cb] w fun e w' => e = .returned (.bool true) ∧ Below w.heap.size w w' := by
  have HA := Lib.hid hA
  have HK := Lib.hid hK
  have NA := Lib.hid nA
  have NK := Lib.hid nK
  have SA := Lib.hid sA
  have SK := Lib.hid sK
  obtain ⟨ii, hi, hz0, hz1, hz2⟩ := info_parts infoBs
  have HI := Lib.hid hi
  have HZ0 := Lib.hid hz0
  have HZ1 := Lib.hid hz1
  have HZ2 := Lib.hid hz2
  clear hA hK nA nK sA sK hi hz0 hz1 hz2
  go_enter Try.func4, Try.ntmps4
  go_wp2_with fail
  refine (first8 _).mono ?_; rintro e w1 ⟨rfl, hb⟩
  have HB := Lib.hid hb; clear hb
  go_wp2_with fail
  refine (few8_any _ _ _ A _ (HA.out.below HB.out).bb lA SA.out).mono ?_; rintro e w' ⟨rfl | ⟨rfl, hl, hs⟩, rfl⟩
  · go_wp2_with fail
    refine (first8 _).mono ?_; rintro e w2 ⟨rfl, hb⟩
    have HB2 := Lib.hid (HB.out.trans (hb.mono HB.out.size)); clear hb
    go_wp2
    go_ret
    exact ⟨rfl, HB2.out⟩
  go_wp2_with fail
  refine (few8_any _ _ _ K _ (HK.out.below HB.out).bb lK SK.out).mono ?_; rintro e w' ⟨rfl | ⟨rfl, hl2, hs2⟩, rfl⟩
  · go_wp2_with fail
    refine (first8 _).mono ?_; rintro e w2 ⟨rfl, hb⟩
    have HB2 := Lib.hid (HB.out.trans (hb.mono HB.out.size)); clear hb
    go_wp2
    go_ret
    exact ⟨rfl, HB2.out⟩
  have CA := Lib.hid (show A.flatten.length ≤ 3000 from hs)
  have CK := Lib.hid (show K.flatten.length ≤ 3000 from hs2)
  have LA := Lib.hid HA.out.len
  have LK := Lib.hid HK.out.len
  clear hs hs2 SA SK
  go_wp2_with fail
  refine (new_any _).mono ?_; rintro e w2 ⟨q, rfl, hq, hs, hb⟩
  have HQ := Lib.hid (show w.heap.size ≤ q by have := HB.out.size; omega)
  have HS := Lib.hid hs
  replace HB := Lib.hid (HB.out.trans (hb.mono HB.out.size))
  clear hb
  clear hs hq
  go_wp2_with fail
  refine (new_any _).mono ?_; rintro e w3 ⟨p, rfl, hp, ht, hb⟩
  have HQP := Lib.hid (show w.heap.size ≤ p ∧ q < p by have := HB.out.size; have := HS.out.lt; omega)
  have HT := Lib.hid ht
  replace HB := Lib.hid (HB.out.trans (hb.mono HB.out.size))
  replace HS := Lib.hid (HS.out.below hb)
  clear hb
  clear ht hp
  go_wp2_with fail
  refine (writes_any q [] _ la ca A _ HS.out (FarC.of HA.out HB.out HQ.out) (by omega) (by have := CA.out; simpa using Nat.le_trans this (by decide))).mono ?_; rintro e w4 ⟨rfl, hs, ho⟩
  replace HB := Lib.hid (ho.under HB.out HQ.out HB.out.size)
  replace HT := Lib.hid (HT.out.oth ho (by have := HQP.out; omega))
  replace HS := Lib.hid (show ShL w4 q A.flatten by simpa using hs)
  clear hs ho
  go_wp2_with fail
  go_loopw [7] (fun i wr => ∃ k : Nat, k ≤ la ∧ i = .int .i64 k ∧ Hid (ShL wr q A.flatten) ∧ Hid (ShL wr p (A.take k).flatten) ∧ Hid (Below w.heap.size w wr)) (fun i _ => la - (intOf i).toNat)
  case atStart => exact ⟨0, Nat.zero_le _, rfl, HS, Lib.hid (by rw [List.take_zero, List.flatten_nil]; exact HT.out), HB⟩
  case round =>
    clear HS HT HB
    obtain ⟨k, hk, rfl, HS, HT, HB⟩ := hrel
    by_cases hlt : k < la
    rotate_left
    · have hkn : k = la := by omega
      replace HT := Lib.hid (show ShL wr p A.flatten from by have h1 := HT.out; rwa [List.take_of_length_le (by rw [LA.out, hkn]; exact Nat.le_refl _)] at h1)
      have d0 : decide (k < la) = false := dF hlt
      clear hlt hkn hk
      go_wp2_with fail
      refine (sum_any q _ _ HS.out (by have := CA.out; omega)).mono ?_; rintro e w5 ⟨vx, rfl, hx, hb⟩
      obtain ⟨g, cx, rfl, hg1, hg2, h8⟩ := own_some8 hx
      have HX := Lib.hid (ValC.own hx)
      have HE := Lib.hid h8
      have HG := Lib.hid (show w.heap.size ≤ g ∧ q < g ∧ p < g by have := HB.out.size; have := HS.out.lt; have := HT.out.lt; omega)
      replace HB := Lib.hid (HB.out.trans (hb.mono HB.out.size))
      replace HS := Lib.hid (HS.out.below hb)
      replace HT := Lib.hid (HT.out.below hb)
      clear hb
      clear hx h8 hg1
      go_wp2_with fail
      refine (copy_any q _ _ HS.out).mono ?_; rintro e w6 ⟨r, rfl, hr, hc, hb⟩
      have HRR := Lib.hid (show w.heap.size ≤ r ∧ q < r ∧ p < r ∧ g < r by have := HB.out.size; have := HS.out.lt; have := HT.out.lt; omega)
      have HC := Lib.hid hc
      replace HB := Lib.hid (HB.out.trans (hb.mono HB.out.size))
      replace HS := Lib.hid (HS.out.below hb)
      replace HT := Lib.hid (HT.out.below hb)
      replace HX := Lib.hid (HX.out.below hb)
      replace HE := Lib.hid (HE.out.below hb)
      clear hb
      clear hc hr hg2
      go_wp2_with fail
      refine (sum_any p _ _ HT.out (by have := CA.out; omega)).mono ?_; rintro e w7 ⟨vy1, rfl, hy1, hb⟩
      have Hy1 := Lib.hid (ValC.own hy1)
      replace HB := Lib.hid (HB.out.trans (hb.mono HB.out.size))
      replace HS := Lib.hid (HS.out.below hb)
      replace HT := Lib.hid (HT.out.below hb)
      replace HX := Lib.hid (HX.out.below hb)
      replace HE := Lib.hid (HE.out.below hb)
      replace HC := Lib.hid (HC.out.below hb)
      clear hb
      obtain ⟨ay1, cy1, rfl⟩ := own_shape48 hy1
      clear hy1
      go_wp2_with fail
      refine (shaL_bytes HX.out Hy1.out).mono ?_; rintro e wz ⟨rfl, rfl⟩
      clear Hy1
      go_wp2_with fail
      refine (sums_any _ la ca A _ (HA.out.below HB.out) (by omega) (by have := CA.out; omega)).mono ?_; rintro e w8 ⟨vy2, rfl, hy2, hb⟩
      have Hy2 := Lib.hid (ValC.own hy2)
      replace HB := Lib.hid (HB.out.trans (hb.mono HB.out.size))
      replace HS := Lib.hid (HS.out.below hb)
      replace HT := Lib.hid (HT.out.below hb)
      replace HX := Lib.hid (HX.out.below hb)
      replace HE := Lib.hid (HE.out.below hb)
      replace HC := Lib.hid (HC.out.below hb)
      clear hb
      obtain ⟨ay2, cy2, rfl⟩ := own_shape48 hy2
      clear hy2
      go_wp2_with fail
      refine (shaL_bytes HX.out Hy2.out).mono ?_; rintro e wz ⟨rfl, rfl⟩
      clear Hy2 HX
      obtain ⟨NL, hNL⟩ : ∃ x, A.flatten.length = x := ⟨_, rfl⟩
      have HNL := Lib.hid hNL
      clear hNL
      go_wp2_with fail
      refine (len_any q _ _ HS.out).mono ?_; rintro e wz ⟨rfl, rfl⟩
      rw [HNL.out]
      go_wp2_with fail
      refine (all_any8 _ la ca A _ (HA.out.below HB.out).bb (by omega) (by have := CA.out; omega)).mono ?_; rintro e w9 ⟨vy3, rfl, hy3, hb⟩
      replace HB := Lib.hid (HB.out.trans (hb.mono HB.out.size))
      replace HS := Lib.hid (HS.out.below hb)
      replace HT := Lib.hid (HT.out.below hb)
      replace HE := Lib.hid (HE.out.below hb)
      replace HC := Lib.hid (HC.out.below hb)
      clear hb
      obtain ⟨ay3, cy3, rfl⟩ := own_shape hy3
      rw [HNL.out]
      clear hy3
      go_wp2_with fail
      refine (len_any p _ _ HT.out).mono ?_; rintro e wz ⟨rfl, rfl⟩
      rw [HNL.out]
      go_wp2_with fail
      refine (len_any q _ _ HS.out).mono ?_; rintro e wz ⟨rfl, rfl⟩
      rw [HNL.out]
      go_wp2_with fail
      refine (writes_any r _ _ lb cb K _ HC.out (FarC.of HK.out HB.out HRR.out.1) (by omega) (by have := CA.out; have := CK.out; omega)).mono ?_; rintro e w10 ⟨rfl, hc, ho⟩
      replace HB := Lib.hid (ho.under HB.out HRR.out.1 HB.out.size)
      replace HS := Lib.hid (HS.out.oth ho (by have := HRR.out; omega))
      replace HT := Lib.hid (HT.out.oth ho (by have := HRR.out; omega))
      replace HE := Lib.hid (HE.out.oth ho (by have := HRR.out; omega))
      replace HC := Lib.hid hc
      clear hc ho
      go_wp2_with fail
      go_loopw [10] (fun i wy => ∃ k : Nat, k ≤ 48 ∧ i = .int .i64 k ∧ Hid (Some8 wy g) ∧ Hid (ShL wy q A.flatten) ∧ Hid (ShL wy p A.flatten) ∧ Hid (ShL wy r (A.flatten ++ K.flatten)) ∧ Hid (Below w.heap.size w wy)) (fun i _ => 48 - (intOf i).toNat)
      case atStart => exact ⟨0, Nat.zero_le _, rfl, HE, HS, HT, HC, HB⟩
      case round =>
        clear HE HS HT HC HB
        obtain ⟨kx, hkx, rfl, HE, HS, HT, HC, HB⟩ := hrel
        by_cases hlx : kx < 48
        · obtain ⟨f, hf⟩ := HE.out
          obtain ⟨c0, f0⟩ := hf kx hlx
          rw [Nat.zero_add] at c0 f0
          obtain ⟨x, hx⟩ : ∃ y, f kx = y := ⟨_, rfl⟩
          rw [hx] at c0
          have HF := Lib.hid hf
          have HKK := Lib.hid hlx
          clear hf hx
          go_upto_region 21 with (fail)
          have ho := (Oth.refl wr g).set kx (.int .u8 (IntKind.u8.wrap (x + 1)))
          have HE2 := Lib.hid (show Some8 (wr.setCell ⟨g, kx, none⟩ (.int .u8 (IntKind.u8.wrap (x + 1)))) g from ⟨_, by have h := HF.out.set (i := kx) (IntKind.u8.wrap (x + 1)); rw [Nat.zero_add] at h; exact h⟩)
          have HS2 := Lib.hid (HS.out.oth ho (by have := HG.out; omega))
          have HT2 := Lib.hid (HT.out.oth ho (by have := HG.out; omega))
          have HC2 := Lib.hid (HC.out.oth ho (by have := HRR.out; omega))
          have HB2 := Lib.hid (ho.under HB.out HG.out.1 HB.out.size)
          clear ho HF HE HS HT HC HB c0 f0
          go_wp2
          go_roundw
          case rel => exact ⟨kx + 1, HKK.out, by go_num, HE2, HS2, HT2, HC2, HB2⟩
          case measure =>
            simp only [intOf]
            have := HKK.out
            omega
        have dx : decide ((kx : Int) < 48) = false := dF (by omega)
        clear hlx hkx HE
        obtain ⟨cs, hcs, lcs, vcs⟩ := HA.out
        obtain ⟨ds, hds, lds, vds⟩ := HK.out
        have HCS := Lib.hid hcs
        have HDS := Lib.hid hds
        have VCS := Lib.hid vcs
        have VDS := Lib.hid vds
        have OCS := Lib.hid (show ∀ u ∈ cs, u.oneCell' = true from fun u hu => by
          obtain ⟨j, hj, e⟩ := List.mem_iff_getElem.1 hu
          obtain ⟨a, c, h, _⟩ := vcs j u (by rw [List.getElem?_eq_getElem hj, e])
          rw [h]; rfl)
        have ODS := Lib.hid (show ∀ u ∈ ds, u.oneCell' = true from fun u hu => by
          obtain ⟨j, hj, e⟩ := List.mem_iff_getElem.1 hu
          obtain ⟨a, c, h, _⟩ := vds j u (by rw [List.getElem?_eq_getElem hj, e])
          rw [h]; rfl)
        clear hcs lcs vcs hds lds vds
        go_wp2_with (first | (at_builtin; refine append_cells rfl _ _ 22 25 rfl ii (.slice none 0 0) 24 Try.underlying22 HI.out HZ0.out HZ1.out HZ2.out rfl wr.heap.size _ 0 [] rfl (World.ownsRow_made wr #[] 0 (Nat.le_refl _) (by decide) rfl) pa la ca cs rfl NA.out (HCS.out.below (HB.out.alloc HB.out.size _)) OCS.out (by omega) (by decide) (by simp) ?_))
        intro v4 w94 hown4 hgrow4
        have HD4 := Lib.hid (((Below.refl wr.heap.size wr).alloc (Nat.le_refl _) (.cells #[] 25)).grown hgrow4 (by simp) (fun k hk => by simp [Value.ownBlock] at hk; omega))
        have HB4 := Lib.hid (HB.out.trans (HD4.out.mono HB.out.size))
        have HO4 := Lib.hid hown4
        clear hown4 hgrow4
        go_wp2_with (first | (at_builtin; refine append_cells rfl _ _ 22 25 rfl ii (.slice none 0 0) 24 Try.underlying22 HI.out HZ0.out HZ1.out HZ2.out rfl wr.heap.size _ la cs rfl HO4.out pb lb cb ds rfl NK.out (HDS.out.below HB4.out) ODS.out (by omega) (by decide) HD4.out.size ?_))
        intro v5 w95 hown5 hgrow5
        have hb := HD4.out.grown hgrow5 HD4.out.size (fun k hk => (HO4.out.lt k hk).1)
        replace HB := Lib.hid (HB.out.trans (hb.mono HB.out.size))
        replace HS := Lib.hid (HS.out.below hb)
        replace HT := Lib.hid (HT.out.below hb)
        replace HC := Lib.hid (HC.out.below hb)
        clear hb
        obtain ⟨a5, c5, rfl, hr5⟩ := both_valC VCS.out VDS.out LA.out LK.out (by have := HCS.out.1; exact this) HB.out hown5
        have HR := Lib.hid hr5
        clear hown5 hgrow5 hr5 HO4 HD4 HB4
        have HFL := Lib.hid (flat_app_len A K)
        have HFN := Lib.hid (show (A.flatten ++ K.flatten).length ≤ 6000 by have := CA.out; have := CK.out; rw [List.length_append]; omega)
        go_wp2_with fail
        refine (first8 _).mono ?_; rintro e w96 ⟨rfl, hb⟩
        replace HB := Lib.hid (HB.out.trans (hb.mono HB.out.size))
        replace HS := Lib.hid (HS.out.below hb)
        replace HT := Lib.hid (HT.out.below hb)
        replace HC := Lib.hid (HC.out.below hb)
        replace HR := Lib.hid (HR.out.below hb)
        clear hb
        go_wp2_with fail
        refine (sum_any r _ _ HC.out (by have := HFN.out; omega)).mono ?_; rintro e w97 ⟨vz1, rfl, hz1, hb⟩
        have Hz1 := Lib.hid (ValC.own hz1)
        replace HB := Lib.hid (HB.out.trans (hb.mono HB.out.size))
        replace HS := Lib.hid (HS.out.below hb)
        replace HT := Lib.hid (HT.out.below hb)
        replace HC := Lib.hid (HC.out.below hb)
        replace HR := Lib.hid (HR.out.below hb)
        clear hb
        obtain ⟨az1, cz1, rfl⟩ := own_shape48 hz1
        clear hz1
        go_wp2_with fail
        refine (sums_any _ (la + lb) c5 (A ++ K) _ HR.out (by omega) (by rw [HFL.out]; have := HFN.out; omega)).mono ?_; rintro e w98 ⟨vz2, rfl, hz2, hb⟩
        rw [HFL.out] at hz2
        have Hz2 := Lib.hid (ValC.own hz2)
        replace HB := Lib.hid (HB.out.trans (hb.mono HB.out.size))
        replace HS := Lib.hid (HS.out.below hb)
        replace HT := Lib.hid (HT.out.below hb)
        replace HC := Lib.hid (HC.out.below hb)
        replace HR := Lib.hid (HR.out.below hb)
        replace Hz1 := Lib.hid (Hz1.out.below hb)
        clear hb
        obtain ⟨az2, cz2, rfl⟩ := own_shape48 hz2
        clear hz2
        go_wp2_with fail
        refine (shaL_bytes Hz1.out Hz2.out).mono ?_; rintro e wz ⟨rfl, rfl⟩
        clear Hz1 Hz2
        go_wp2_with fail
        refine (sum_any q _ _ HS.out (by have := CA.out; omega)).mono ?_; rintro e w99 ⟨vz3, rfl, hz3, hb⟩
        have Hz3 := Lib.hid (ValC.own hz3)
        replace HB := Lib.hid (HB.out.trans (hb.mono HB.out.size))
        replace HS := Lib.hid (HS.out.below hb)
        replace HT := Lib.hid (HT.out.below hb)
        replace HC := Lib.hid (HC.out.below hb)
        replace HR := Lib.hid (HR.out.below hb)
        clear hb
        obtain ⟨az3, cz3, rfl⟩ := own_shape48 hz3
        clear hz3
        go_wp2_with fail
        refine (sum_any p _ _ HT.out (by have := CA.out; omega)).mono ?_; rintro e w100 ⟨vz4, rfl, hz4, hb⟩
        have Hz4 := Lib.hid (ValC.own hz4)
        replace HB := Lib.hid (HB.out.trans (hb.mono HB.out.size))
        replace HS := Lib.hid (HS.out.below hb)
        replace HT := Lib.hid (HT.out.below hb)
        replace HC := Lib.hid (HC.out.below hb)
        replace HR := Lib.hid (HR.out.below hb)
        replace Hz3 := Lib.hid (Hz3.out.below hb)
        clear hb
        obtain ⟨az4, cz4, rfl⟩ := own_shape48 hz4
        clear hz4
        go_wp2_with fail
        refine (shaL_bytes Hz3.out Hz4.out).mono ?_; rintro e wz ⟨rfl, rfl⟩
        clear Hz3 Hz4
        obtain ⟨NB, hNB⟩ : ∃ x, (A.flatten ++ K.flatten).length = x := ⟨_, rfl⟩
        have HNB := Lib.hid hNB
        clear hNB
        go_wp2_with fail
        refine (len_any r _ _ HC.out).mono ?_; rintro e wz ⟨rfl, rfl⟩
        rw [HNB.out]
        go_wp2_with fail
        refine (all_any8 _ (la + lb) c5 (A ++ K) _ HR.out.bb (by omega) (by rw [HFL.out]; have := HFN.out; omega)).mono ?_; rintro e w101 ⟨vz5, rfl, hz5, hb⟩
        replace HB := Lib.hid (HB.out.trans (hb.mono HB.out.size))
        replace HS := Lib.hid (HS.out.below hb)
        replace HT := Lib.hid (HT.out.below hb)
        replace HC := Lib.hid (HC.out.below hb)
        replace HR := Lib.hid (HR.out.below hb)
        clear hb
        rw [HFL.out, HNB.out] at hz5
        obtain ⟨az5, cz5, rfl⟩ := own_shape hz5
        clear hz5
        go_wp2_with fail
        refine (sum_any q _ _ HS.out (by have := CA.out; omega)).mono ?_; rintro e w102 ⟨vz6, rfl, hz6, hb⟩
        have Hz6 := Lib.hid (ValC.own hz6)
        replace HB := Lib.hid (HB.out.trans (hb.mono HB.out.size))
        replace HS := Lib.hid (HS.out.below hb)
        replace HT := Lib.hid (HT.out.below hb)
        replace HC := Lib.hid (HC.out.below hb)
        replace HR := Lib.hid (HR.out.below hb)
        clear hb
        obtain ⟨az6, cz6, rfl⟩ := own_shape48 hz6
        clear hz6
        go_wp2
        go_ret
        exact ⟨rfl, HB.out⟩
    · obtain ⟨b1, o1, ai, ci, rfl, hbl1, c0, v1⟩ := HA.out.val k hlt
      have c1 := (HB.out.cell (p := ⟨b1, o1 + k, none⟩) hbl1).trans c0
      have hnx := flat_next (M := A) (k := k) (by rw [LA.out]; exact hlt)
      have hle := flat_le A (k + 1)
      obtain ⟨m, hm⟩ : ∃ m, A.getD k [] = m := ⟨_, rfl⟩
      rw [hm] at c1 v1 hnx
      obtain ⟨s, hs2⟩ : ∃ s, m.length = s := ⟨_, rfl⟩
      rw [hs2] at c1 v1
      have HV := Lib.hid (ValF.old v1 HB.out HQP.out.1)
      have HX := Lib.hid (show (A.take k).flatten ++ [m].flatten = (A.take (k + 1)).flatten by rw [hnx]; simp)
      have HSM := Lib.hid (show (A.take k).flatten.length + [m].flatten.length ≤ 1000000000 by have h1 := CA.out; rw [hnx, List.length_append] at hle; simp only [List.flatten_cons, List.flatten_nil, List.append_nil]; omega)
      have HKK := Lib.hid hlt
      clear c0 v1 hm hnx hle hs2 hlt
      have HF := Lib.hid (FarC.lit HV.out HT.out.lt _ rfl)
      have hba := (Below.refl wr.heap.size wr).alloc (Nat.le_refl _) (.cells #[.slice ai s ci] 25)
      replace HB := Lib.hid (HB.out.trans (hba.mono HB.out.size))
      replace HS := Lib.hid (HS.out.below hba)
      replace HT := Lib.hid (HT.out.below hba)
      clear hba
      go_wp2_with fail
      refine (writes_any p _ _ 1 1 [m] _ HT.out HF.out (by decide) HSM.out).mono ?_; rintro e w25 ⟨rfl, ht, ho⟩
      replace HB := Lib.hid (ho.under HB.out HQP.out.1 HB.out.size)
      replace HS := Lib.hid (HS.out.oth ho (by have := HQP.out; omega))
      replace HT := Lib.hid (show ShL w25 p (A.take (k + 1)).flatten by rw [← HX.out]; exact ht)
      clear ht ho HF HV c1
      go_wp2_with fail
      refine (sum_any p _ _ HT.out (by have h1 := CA.out; have h2 := flat_le A (k + 1); omega)).mono ?_; rintro e w26 ⟨v9, rfl, h9, hb⟩
      clear h9
      replace HB := Lib.hid (HB.out.trans (hb.mono HB.out.size))
      replace HS := Lib.hid (HS.out.below hb)
      replace HT := Lib.hid (HT.out.below hb)
      clear hb
      go_wp2
      go_roundw
      case rel => exact ⟨k + 1, HKK.out, by go_num, HS, HT, HB⟩
      case measure =>
        simp only [intOf]
        have := HKK.out
        omega
end Go.Proofs.Ytocfphijheidbaa
