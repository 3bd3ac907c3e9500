/- FrameReads: the walk. -/
import Derived.Test.YtngncdmmlkcekaaFJo
import Derived.Test.YtngncdmmlkcekaaRow
namespace Go.Proofs.Ytngncdmmlkcekaa
open Go.RowKit

theorem rowB_own {w : World} {B n c : Nat} {a : Option Addr} {l : List UInt8} (h : w.ownsRow B 5 1 (.slice a n c) n (bc l)) : RowB w a n l ∧ (a = none → n = 0 ∧ c = 0) := by
  obtain ⟨a', c', e, h1, h2⟩ := cells_own h
  injection e with e1 e2 e3
  subst e1 e3
  exact ⟨h1, h2⟩
/-- Slices of bytes that a call may write to. -/
def PMut (w : World) (B b off N : Nat) (A : Nat → Option Addr) (L C : Nat → Nat) : Prop :=
  ∀ j, j < N → w.cell? ⟨b, off + j, none⟩ = some (.slice (A j) (L j) (C j)) ∧ ∀ i, i < L j → ∃ g o, A j = some ⟨g, o, none⟩ ∧ B ≤ g ∧ ∃ z : Int, w.cell? ⟨g, o + i, none⟩ = some (.int .u8 z) ∧ 0 ≤ z ∧ z < 256 ∧ w.frozen? ⟨g, o + i, none⟩ = false
theorem PMut.set {w : World} {B b off N : Nat} {A : Nat → Option Addr} {L C : Nat → Nat} (h : PMut w B b off N A L C) {p : Addr} {z0 z : Int} (hp : w.cell? p = some (.int .u8 z0)) (h0 : 0 ≤ z) (h1 : z < 256) : PMut (w.setCell p (.int .u8 z)) B b off N A L C := by
  intro j hj
  obtain ⟨q1, q2⟩ := h j hj
  refine ⟨?_, fun i hi => ?_⟩
  · rw [World.cell?_setCell_other _ _ _ _ (by intro e; rw [e, q1] at hp; cases hp)]
    exact q1
  · obtain ⟨g, o, e1, e2, zz, e3, e4, e5, e6⟩ := q2 i hi
    by_cases e : p = ⟨g, o + i, none⟩
    · subst e
      exact ⟨g, o, e1, e2, z, World.cell?_setCell_same _ _ _ e3, h0, h1, by simpa using e6⟩
    · exact ⟨g, o, e1, e2, zz, by rw [World.cell?_setCell_other _ _ _ _ e]; exact e3, e4, e5, by simpa using e6⟩
theorem PMut.below {w w' : World} {B b off N : Nat} {A : Nat → Option Addr} {L C : Nat → Nat} (h : PMut w B b off N A L C) (hb : Below w.heap.size w w') : PMut w' B b off N A L C := by
  intro j hj
  obtain ⟨q1, q2⟩ := h j hj
  refine ⟨by rw [hb.cell (block_lt_of_cell q1)]; exact q1, fun i hi => ?_⟩
  obtain ⟨g, o, e1, e2, zz, e3, e4, e5, e6⟩ := q2 i hi
  have hlt := block_lt_of_cell e3
  exact ⟨g, o, e1, e2, zz, by rw [hb.cell hlt]; exact e3, e4, e5, by rw [hb.frozen hlt]; exact e6⟩
/-- What a call made it may write to. -/
theorem OwnF.mut {w : World} {B : Nat} {v : Value} {M : List (List UInt8)} (h : OwnF w B v M) : ∃ a c A L C, v = .slice a M.length c ∧ (M.length = 0 ∨ ∃ b off, a = some ⟨b, off, none⟩ ∧ PMut w B b off M.length A L C) ∧ ∀ j, L j ≤ 9223372036854775807 := by
  obtain ⟨xs, h1, h2⟩ := h
  have hl : xs.length = M.length := by have := h1.1; omega
  obtain ⟨a, c, rfl, h3, h4⟩ := cells_own h1
  have hx : ∀ j, ∃ y : Option Addr × Nat × Nat, y.2.1 ≤ 9223372036854775807 ∧ (j < M.length → xs[j]? = some (.slice y.1 y.2.1 y.2.2) ∧ w.ownsRow B 5 1 (.slice y.1 y.2.1 y.2.2) y.2.1 (bc (M.getD j []))) := by
    intro j
    by_cases hj : j < M.length
    · have hu : xs[j]? = some (xs[j]'(by omega)) := List.getElem?_eq_getElem (by omega)
      have ho := h2 j _ hu
      obtain ⟨aj, cj, e⟩ := own_shape ho
      rw [e] at ho hu
      have hc := own_cap' ho
      refine ⟨(aj, _, cj), ?_, fun _ => ⟨hu, ho⟩⟩
      have h5 := hc.1
      unfold maxLen at h5
      have h6 := hc.2
      show (M.getD j []).length ≤ _
      omega
    · exact ⟨(none, 0, 0), Nat.zero_le _, fun h => absurd h hj⟩
  obtain ⟨f, hf⟩ := Classical.axiomOfChoice hx
  refine ⟨a, c, fun j => (f j).1, fun j => (f j).2.1, fun j => (f j).2.2, rfl, ?_, fun j => (hf j).1⟩
  rcases h3.2 with h0 | ⟨b, off, rfl, hlt, hc⟩
  · exact Or.inl h0
  · refine Or.inr ⟨b, off, rfl, fun j hj => ?_⟩
    obtain ⟨q1, q2⟩ := (hf j).2 hj
    refine ⟨hc j _ q1, fun i hi0 => ?_⟩
    have hi : i < (f j).2.1 := hi0
    show ∃ g o, (f j).1 = some ⟨g, o, none⟩ ∧ _
    rcases q2.2 with ⟨e1, e2⟩ | ⟨g, cap, cur, e1, hB, hg, hnc, hcm, hcs, htk⟩
    · rw [e2] at hi; exact absurd hi (by omega)
    · injection e1 with e1 e3 e4
      refine ⟨g, 0, e1, hB, (((M.getD j []).getD i 0).toNat : Int), ?_, by omega, by have := ((M.getD j []).getD i 0).toNat_lt; omega, ?_⟩
      · have hl2 : (bc (M.getD j [])).length = (f j).2.1 := by have := q2.1; omega
        rw [bc_length] at hl2
        have h5 := q2.cells (g := g) (by simp [Value.ownBlock, e1]) i (.int .u8 (((M.getD j []).getD i 0).toNat : Int)) (by simp [bc, List.getD_eq_getElem?_getD, List.getElem?_eq_getElem (show i < (M[j]?.getD []).length by rw [List.getD_eq_getElem?_getD] at hl2; omega)])
        rw [show (⟨g, 0, none⟩ : Addr).add i = ⟨g, 0 + i, none⟩ by simp only [Addr.add]; split <;> simp_all] at h5
        exact h5
      · simp only [World.frozen?, hg]
        simp
theorem rowB_of_is {w : World} {a : Option Addr} {len cap : Nat} {zs : List Int} (h : IsRow .u8 w a len cap zs) : RowB w a len ((zs.take len).map by8) ∧ (a = none → len = 0 ∧ cap = 0) ∧ len ≤ cap ∧ cap ≤ maxLen := by
  rcases h with ⟨rfl, rfl, rfl, rfl⟩ | ⟨x, rfl, hl, hm, hz, hcell, hwf⟩
  · exact ⟨⟨rfl, Or.inl rfl⟩, fun _ => ⟨rfl, rfl⟩, Nat.le_refl _, Nat.zero_le _⟩
  · refine ⟨⟨by rw [bc_length, List.length_map, List.length_take]; omega, ?_⟩, (fun h => by cases h), hl, hm⟩
    by_cases h0 : len = 0
    · exact Or.inl h0
    right
    obtain ⟨b, off, spot⟩ := x
    have hc := hcell 0 (by omega)
    have hspot : spot = none := by simpa [Addr.add] using World.cell?_spot hc
    subst hspot
    refine ⟨b, off, rfl, ?_, fun i x hi => ?_⟩
    · have := block_lt_of_cell hc
      simpa [Addr.add] using this
    · have hi2 : i < len := by
        have := (List.getElem?_eq_some_iff.1 hi).1
        rw [bc_length, List.length_map, List.length_take] at this; omega
      have := hcell i (by omega)
      rw [show (⟨b, off, none⟩ : Addr).add i = ⟨b, off + i, none⟩ by simp only [Addr.add]; split <;> simp_all] at this
      rw [this]
      have hz2 : i < zs.length := by omega
      have hwf2 := hwf zs[i] (List.getElem_mem hz2)
      have hb := by8_toNat zs[i]
      have hr : 0 ≤ zs[i] ∧ zs[i] < 256 := by
        have := hwf2
        simp [Lit.wf, IntKind.min, IntKind.max, IntKind.signed, IntKind.bits] at this
        omega
      rw [bc, List.getElem?_map, List.getElem?_map, List.getElem?_take, if_pos hi2, List.getElem?_eq_getElem hz2] at hi
      simp only [Option.map_some, Option.some.injEq] at hi
      rw [← hi, hb, List.getD_eq_getElem?_getD, List.getElem?_eq_getElem hz2]
      simp; omega

set_option maxRecDepth 100000 in
set_option maxHeartbeats 3200000 in
theorem walkFReads (pa : Option Addr) (la ca : Nat) (A : List (List UInt8)) (pb : Option Addr) (n c : Nat) (l : List UInt8) (w : World) (hA : RowBB w pa la A) (hK : RowB w pb n l) (nK : pb = none → n = 0 ∧ c = 0) (lA : la ≤ 9223372036854775807) (lK : c ≤ maxLen) (lc : n ≤ c) (sA : ∀ k, k < la → (A.getD k []).length ≤ 9223372036854775807) :
    Calls Try.prog 10 #[.slice pa la ca, .slice pb n c] w fun e w' => e = .returned (.bool true) ∧ Below w.heap.size w w' := by
  have HA := Lib.hid hA
  have HK := Lib.hid hK
  have NK := Lib.hid nK
  have SA := Lib.hid sA
  have LC := Lib.hid lK
  have lK' := lK
  unfold maxLen at lK'
  clear hA hK nK sA lK
  go_enter Try.func10, Try.ntmps10
  go_wp2_with fail
  refine (first7 _).mono ?_; rintro e w1 ⟨rfl, hb⟩
  have HB1 := Lib.hid hb; clear hb
  go_wp2_with fail
  refine (few7_any _ _ _ A _ (HA.out.below HB1.out) lA SA.out).mono ?_; rintro e w' ⟨rfl | ⟨rfl, hl, hs⟩, rfl⟩
  · go_wp2_with fail
    refine (first7 _).mono ?_; rintro e w2 ⟨rfl, hb⟩
    have HB2 := Lib.hid (HB1.out.trans (hb.mono HB1.out.size)); clear hb
    go_wp2
    go_ret
    exact ⟨rfl, HB2.out⟩
  by_cases hbig : 20000 < n
  · have d1 := dT (p := (20000 : Int) < (n : Int)) (by omega)
    go_wp2_with fail
    refine (first7 _).mono ?_; rintro e w2 ⟨rfl, hb⟩
    have HB2 := Lib.hid (HB1.out.trans (hb.mono HB1.out.size)); clear hb
    go_wp2
    go_ret
    exact ⟨rfl, HB2.out⟩
  have d1 := dF (p := (20000 : Int) < (n : Int)) (by omega)
  have CA := Lib.hid hs
  clear hs
  go_wp2_with fail
  refine (copyBytes_any _ _ _ l _ (CellsAt.below HK.out HB1.out) NK.out (by omega)).mono ?_; rintro e w2 ⟨v2, rfl, hown, hb⟩
  have HB2 := Lib.hid (HB1.out.trans (hb.mono HB1.out.size))
  have HI2 := Lib.hid hown
  obtain ⟨a2, c2, rfl, hr2, hn2⟩ := cells_own hown
  have HN2 := Lib.hid hn2
  have HC2 := Lib.hid (own_cap' hown)
  clear hb hown hr2 hn2
  go_wp2_with fail
  refine (nput7 _ _ _ A _ (HA.out.below HB2.out) (by omega) (by have := CA.out; omega) SA.out).mono ?_; rintro e w3 ⟨v3, rfl, hox, hb⟩
  have HB3 := Lib.hid (HB2.out.trans (hb.mono HB2.out.size))
  have HX3 := Lib.hid hox
  obtain ⟨a3, c3, rfl, _, hn3⟩ := cells_own hox
  have HN3 := Lib.hid hn3
  have HI3 := Lib.hid (own_below' HI2.out hb)
  clear hb hox HI2 hn3
  go_wp2_with fail
  refine (rframes _ _ _ A _ (HA.out.below HB3.out) (by omega) (by have := CA.out; omega) SA.out).mono ?_; rintro e w4 ⟨v4, rfl, hoy, hb⟩
  have HB4 := Lib.hid (HB3.out.trans (hb.mono HB3.out.size))
  have HY4 := Lib.hid hoy
  obtain ⟨a4, c4, rfl, _, hn4⟩ := cells_own hoy
  have HN4 := Lib.hid hn4
  have HX4 := Lib.hid (own_below' HX3.out hb)
  have HI4 := Lib.hid (own_below' HI3.out hb)
  clear hb hoy HI3 HX3 hn4
  obtain ⟨fs, hfs⟩ : ∃ x, frS A = x := ⟨_, rfl⟩
  obtain ⟨fe, hfe⟩ : ∃ x, frE A = x := ⟨_, rfl⟩
  rw [hfs] at HX4 HY4 HN3 HN4 ⊢
  rw [hfe]
  obtain ⟨nf, hnf⟩ : ∃ x, fs.length = x := ⟨_, rfl⟩
  rw [hnf] at HX4 HY4 HN3 HN4 ⊢
  clear hfs hfe hnf
  have hri : RowB w4 a2 n l := by
    obtain ⟨q1, q2, q3, q4, _⟩ := cells_own HI4.out
    injection q3 with e1 e2 e3
    subst e1
    exact q4
  have HT := Lib.hid (take7 a2 n c2 l w4 hri (by omega) HC2.out.1 HC2.out.2)
  have HU := Lib.hid (fun w5 (hb : Below w.heap.size w w5) => rtake7 pb n c l w5 (CellsAt.below HK.out hb) (by omega) LC.out lc)
  clear hri
  obtain ⟨tm, htm⟩ : ∃ x, (TK l).1 = x := ⟨_, rfl⟩
  obtain ⟨te, hte⟩ : ∃ x, (TK l).2 = x := ⟨_, rfl⟩
  have hte2 : te ≤ n := by rw [← hte, ← HK.out.len]; exact TK_le l
  have htc : tm.length ≤ 20000 := by
    have h1 := TK_count l
    rw [htm, HK.out.len] at h1
    omega
  rw [htm, hte] at HT HU
  clear htm hte
  go_wp2_with fail
  refine HT.out.mono ?_; rintro e w5 ⟨v5, rfl, hof, hb⟩
  have HE5 := Lib.hid hb
  have HB5 := Lib.hid (HB4.out.trans (hb.mono HB4.out.size))
  have hs45 := hb.size
  have HF5 := Lib.hid hof
  clear hb hof
  have hmut := HF5.out.mut
  have hrow5 := HF5.out.bb.row
  obtain ⟨N, hN⟩ : ∃ x, tm.length = x := ⟨_, rfl⟩
  have HN := Lib.hid hN
  rw [hN] at hmut hrow5
  obtain ⟨a5, c5, fA, fL, fC, hv5, hpm, hfl⟩ := hmut
  obtain ⟨a5', c5', hv5', hrow5, _⟩ := hrow5
  rw [hv5] at hv5'
  injection hv5' with e1 e2 e3
  subst e1
  subst hv5
  have HR5 := Lib.hid hrow5
  have HPM5 := Lib.hid hpm
  have HFL := Lib.hid hfl
  rw [hN] at htc
  clear hrow5 hpm hfl e2 e3 hN
  go_wp2_with fail
  refine (HU.out _ HB5.out).mono ?_; rintro e w6 ⟨v6, rfl, hof, hb⟩
  have HE6 := Lib.hid (HE5.out.trans (hb.mono hs45))
  have HB6 := Lib.hid (HB5.out.trans (hb.mono HB5.out.size))
  have hs46 := HE6.out.size
  have HR6 := Lib.hid (HR5.out.below hb)
  have HPM6 := Lib.hid (show N = 0 ∨ ∃ b off, a5 = some ⟨b, off, none⟩ ∧ PMut w6 w4.heap.size b off N fA fL fC by
    rcases HPM5.out with h | ⟨b, off, h1, h2⟩
    · exact Or.inl h
    · exact Or.inr ⟨b, off, h1, h2.below hb⟩)
  obtain ⟨a6, c6, hv6, hrow6, _⟩ := hof.bb.row
  rw [HN.out] at hv6 hrow6
  subst hv6
  have HQ6 := Lib.hid hrow6
  clear hb hof hrow6 HR5 HPM5 HF5 HE5
  go_wp2_with fail
  refine (lists_same _ _ _ _ _ tm _ HR6.out HQ6.out (by omega)).mono ?_; rintro e w7 ⟨rfl, hb⟩
  have HE7 := Lib.hid (HE6.out.trans (hb.mono hs46))
  have HB7 := Lib.hid (HB6.out.trans (hb.mono HB6.out.size))
  have HPM7 := Lib.hid (show N = 0 ∨ ∃ b off, a5 = some ⟨b, off, none⟩ ∧ PMut w7 w4.heap.size b off N fA fL fC by
    rcases HPM6.out with h | ⟨b, off, h1, h2⟩
    · exact Or.inl h
    · exact Or.inr ⟨b, off, h1, h2.below hb⟩)
  have hw4 : w.heap.size ≤ w4.heap.size := HB4.out.size
  obtain ⟨B, hB⟩ : ∃ B, w4.heap.size = B := ⟨_, rfl⟩
  rw [hB] at HPM7 HE7 hw4
  have HBe := Lib.hid hB
  clear hb HR6 HQ6 HPM6 HE6 HB6 HB5 hs45 hs46 HT HU hB
  go_wp2_with fail
  go_loopw [15] (fun i wr => ∃ j : Nat, j ≤ N ∧ i = .int .i64 j ∧ (N = 0 ∨ ∃ b off, a5 = some ⟨b, off, none⟩ ∧ PMut wr B b off N fA fL fC) ∧ Below B w4 wr) (fun i _ => N - (intOf i).toNat)
  case atStart => exact ⟨0, Nat.zero_le _, rfl, HPM7.out, HE7.out⟩
  case round =>
    obtain ⟨j, hj, rfl, hpm, hbel⟩ := hrel
    have HP := Lib.hid hpm
    have HB := Lib.hid hbel
    clear hpm hbel HPM7 HE7
    by_cases hlt : j < N
    · rcases HP.out with h0 | ⟨b, off, rfl, hpm⟩
      · omega
      have hcell := (hpm j hlt).1
      have hlj := HFL.out j
      have HPP := Lib.hid hpm
      obtain ⟨lj, hlje⟩ : ∃ x, fL j = x := ⟨_, rfl⟩
      obtain ⟨aj, haje⟩ : ∃ x, fA j = x := ⟨_, rfl⟩
      obtain ⟨cj, hcje⟩ : ∃ x, fC j = x := ⟨_, rfl⟩
      have HLJ := Lib.hid hlje
      have HAJ := Lib.hid haje
      have HCJ := Lib.hid hcje
      rw [hlje, haje, hcje] at hcell
      rw [hlje] at hlj
      clear hpm hlje haje hcje HP
      go_wp2_with fail
      obtain ⟨wo, rfl⟩ : ∃ wo : World, wo = wr := ⟨_, rfl⟩
      go_loopw [16] (fun i wr => ∃ k : Nat, k ≤ lj ∧ i = .int .i64 k ∧ PMut wr B b off N fA fL fC ∧ Below B w4 wr) (fun i _ => lj - (intOf i).toNat)
      case atStart => exact ⟨0, Nat.zero_le _, rfl, HPP.out, HB.out⟩
      case round =>
        obtain ⟨k, hk, rfl, hpm, hbel⟩ := hrel
        have HP := Lib.hid hpm
        have HB9 := Lib.hid hbel
        clear HPP HB
        have hcell2 := (hpm j hlt).1
        have hin := (hpm j hlt).2
        rw [HLJ.out, HAJ.out, HCJ.out] at hcell2
        rw [HLJ.out, HAJ.out] at hin
        clear hpm hbel
        by_cases hlt2 : k < lj
        · obtain ⟨g, o, hae, hBg, z, hz, z0, z1, hf⟩ := hin k hlt2
          rw [hae] at hcell2
          clear hin hae
          have HS := Lib.hid (fun x (h0 : 0 ≤ x) (h1 : x < 256) => HP.out.set hz (z := x) h0 h1)
          go_wp2
          go_roundw
          case rel => exact ⟨k + 1, by omega, by go_num, HS.out _ (by omega) (by omega), HB9.out.setCell hBg _⟩
          case measure => simp [intOf]; omega
        · have hkl : k = lj := by omega
          subst hkl
          clear hin
          go_wp2
          go_roundw
          case rel => exact ⟨j + 1, by omega, by go_num, Or.inr ⟨b, off, rfl, HP.out⟩, HB9.out⟩
          case measure => simp [intOf]; omega
    · have hjn : j = N := by omega
      subst hjn
      go_wp2_with fail
      refine (first7 _).mono ?_; rintro e w8 ⟨rfl, hb⟩
      have HE8 := Lib.hid (HB.out.trans (hb.mono (by have := HB.out.size; rw [HBe.out] at this; exact this)))
      have HE9 := Lib.hid (show Below w4.heap.size w4 w8 by rw [HBe.out]; exact HE8.out)
      have HB8 := Lib.hid (HB4.out.trans (HE9.out.mono HB4.out.size))
      clear hb
      go_wp2_with fail
      refine (bytes_same _ _ _ _ _ fs _ (rowB_own (own_below' HX4.out HE9.out)).1 (rowB_own (own_below' HY4.out HE9.out)).1 HN3.out HN4.out).mono ?_; rintro e w' ⟨rfl, rfl⟩
      go_wp2_with fail
      refine (bytes_same _ _ _ _ _ l _ (rowB_own (own_below' HI4.out HE9.out)).1 (CellsAt.below HK.out HB8.out) HN2.out NK.out).mono ?_; rintro e w' ⟨rfl, rfl⟩
      go_wp2
      go_ret
      exact ⟨rfl, HB8.out⟩
end Go.Proofs.Ytngncdmmlkcekaa
