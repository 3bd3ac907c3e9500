/- The examples of chapter 7; FrameJoins: the walk. -/
import Derived.Test.YtngncdmmlkcekaaFrE
import Derived.Lib.SlBytesConst
namespace Go.Proofs.Ytngncdmmlkcekaa
open Go.RowKit

theorem own_cap {w : World} {B n c : Nat} {e : TypeId} {a : Option Addr} {xs : List Value} (h : w.ownsRow B e 1 (.slice a n c) n xs) (hn : 0 < n) : c ≤ maxLen ∧ n ≤ c := by
  rcases h.2 with ⟨h1, h2⟩ | ⟨g, cap, cur, h1, _, _, h2, h3, _⟩
  · omega
  · injection h1 with e1 e2 e3
    subst e3
    exact ⟨h3, h2⟩
theorem own_cap' {w : World} {B n c : Nat} {e : TypeId} {a : Option Addr} {xs : List Value} (h : w.ownsRow B e 1 (.slice a n c) n xs) : c ≤ maxLen ∧ n ≤ c := by
  rcases h.2 with ⟨h1, h2⟩ | ⟨g, cap, cur, h1, _, _, h2, h3, _⟩
  · injection h1 with e1 e2 e3
    subst e3 e2
    exact ⟨Nat.zero_le _, Nat.le_refl _⟩
  · injection h1 with e1 e2 e3
    subst e3
    exact ⟨h3, h2⟩
theorem TK_all {M : List (List UInt8)} (h : allFit M = true) : TK (frameL M) = (M, (frameL M).length) := by
  have := TK_frame M [] h
  rw [List.append_nil] at this
  rw [this]
  show (M ++ [], (frameL M).length + 0) = _
  rw [List.append_nil]; rfl
theorem rowB_lit2 (w : World) (x y : UInt8) : RowB (w.alloc (.cells #[.int .u8 (x.toNat : Int), .int .u8 (y.toNat : Int)] 5)) (some ⟨w.heap.size, 0, none⟩) 2 [x, y] := by
  refine ⟨rfl, Or.inr ⟨w.heap.size, 0, rfl, by simp, fun j u hj => ?_⟩⟩
  rw [Nat.zero_add]
  have hj2 : j < 2 := (List.getElem?_eq_some_iff.1 hj).1
  rcases (by omega : j = 0 ∨ j = 1) with rfl | rfl
  · simp [bc] at hj; subst hj; simp [World.cell?_alloc_at]
  · simp [bc] at hj; subst hj; simp [World.cell?_alloc_at]
theorem rowB_mark2 (w : World) (x y : UInt8) : RowB (w.alloc (.cells #[.int .u8 (x.toNat : Int), .int .u8 (y.toNat : Int)] 5 (2, 3))) (some ⟨w.heap.size, 0, none⟩) 2 [x, y] := by
  refine ⟨rfl, Or.inr ⟨w.heap.size, 0, rfl, by simp, fun j u hj => ?_⟩⟩
  rw [Nat.zero_add, World.cell?_alloc_mark]
  have hj2 : j < 2 := (List.getElem?_eq_some_iff.1 hj).1
  rcases (by omega : j = 0 ∨ j = 1) with rfl | rfl
  · simp [bc] at hj; subst hj; rfl
  · simp [bc] at hj; subst hj; rfl
theorem rowBB_lit1 (w : World) (v : Value) (m : List UInt8) (H : Nat) (hH : H = w.heap.size) (h : ValB w v m) : RowBB (w.alloc (.cells #[v] 43)) (some ⟨H, 0, none⟩) 1 [m] := by
  subst hH
  refine ⟨[v], ⟨rfl, Or.inr ⟨w.heap.size, 0, rfl, by simp, fun j u hj => ?_⟩⟩, rfl, fun j u hj => ?_⟩
  · have hj2 : j < 1 := (List.getElem?_eq_some_iff.1 hj).1
    have : j = 0 := by omega
    subst this
    simp at hj; subst hj
    simp [World.cell?_alloc_at]
  · have hj2 : j < 1 := (List.getElem?_eq_some_iff.1 hj).1
    have : j = 0 := by omega
    subst this
    simp at hj; subst hj
    exact h.below ((Below.refl _ _).alloc (Nat.le_refl _) _)

theorem lit_szB : ∀ k, k < 1 → (([[97, 98]] : List (List UInt8)).getD k []).length ≤ 9223372036854775807 := by
  intro k hk
  have : k = 0 := by omega
  subst this
  decide

set_option maxRecDepth 100000 in
theorem first7 (w : World) : Calls Try.prog 39 #[] w fun e w' => e = .returned (.bool true) ∧ Below w.heap.size w w' := by
  obtain ⟨i0, hi, hz0, hz1, hz2⟩ := info_parts infoU8
  have HI := Lib.hid hi
  have HZ0 := Lib.hid hz0
  have HZ1 := Lib.hid hz1
  have HZ2 := Lib.hid hz2
  have hl1 := rowB_mark2 w 97 98
  have HL1 := Lib.hid hl1
  have HL2 := Lib.hid (rowBB_lit1 (w.alloc (.cells #[.int .u8 97, .int .u8 98] 5 (2, 3))) (.slice (some ⟨w.heap.size, 0, none⟩) 2 2) [97, 98] (w.heap.size + 1) (by simp) ⟨_, _, rfl, hl1, fun h => by cases h⟩)
  have HBa := Lib.hid (((Below.refl w.heap.size w).alloc (Nat.le_refl _) (.cells #[.int .u8 97, .int .u8 98] 5 (2, 3))).alloc (by simp) (.cells #[.slice (some ⟨w.heap.size, 0, none⟩) 2 2] 43))
  have hp := fun w2 h => nput7 (some ⟨w.heap.size + 1, 0, none⟩) 1 1 [[97, 98]] w2 h (by omega) (by decide) lit_szB
  rw [show frE [[97, 98]] = 0 by decide, show frS [[97, 98]] = [0, 2, 97, 98] by decide] at hp
  have HP := Lib.hid hp
  have kc := fun (w : World) (C : Array Value) (n c : Nat) => Lib.run_convert_bytes_const (P := Try.prog) w 43 5 C n c Try.underlying43 Try.underlying5
  clear hi hz0 hz1 hz2 hl1 hp
  go_enter Try.func39, Try.ntmps39
  go_wp2_with fail
  refine (HP.out _ HL2.out).mono ?_; rintro e w2 ⟨v2, rfl, hown2, hb⟩
  have HB2 := Lib.hid (HBa.out.trans (hb.mono HBa.out.size))
  have HO2 := Lib.hid hown2
  obtain ⟨a2, c2, rfl, hr2, hn2⟩ := cells_own hown2
  have HR2 := Lib.hid hr2
  have HN2 := Lib.hid hn2
  clear hb hown2 hr2 hn2
  go_wp2_with fail
  refine (copyBytes_any _ _ _ [0, 2, 97, 98] _ HR2.out HN2.out (by decide)).mono ?_; rintro e w3 ⟨v3, rfl, hown3, hb⟩
  have HC3 := Lib.hid hb
  have hs23 := hb.size
  have HO3 := Lib.hid hown3
  clear hown3 hb HR2 HN2
  go_wp2_with (first | (at_builtin; refine wpList_append_own _ rfl _ _ 43 rfl w2.heap.size 5 i0 (.int .u8 0) 1 1 Try.underlying43 HI.out HZ0.out HZ1.out HZ2.out rfl (by decide) _ 4 _ rfl (HO3.out.alloc _) ⟨w3.heap.size, 0, none⟩ 1 1 [.int .u8 0] rfl rfl ?c1 ?c2 ?c3 ?c4 ?c5 ?_))
  case c1 => exact cell_one_new _ _ _
  case c2 => exact one_int _ _
  case c3 => decide
  case c4 => decide
  case c5 => simp; omega
  intro v4 w4 hown4 hgrow4 _
  have HC4 := Lib.hid (below_append HC3.out hs23 HO3.out hgrow4)
  have hown5 : w4.ownsRow w2.heap.size 5 1 v4 5 (bc [0, 2, 97, 98, 0]) := hown4
  obtain ⟨a4, c4, rfl, hr4, hn4⟩ := cells_own hown5
  have hcc : c4 ≤ maxLen ∧ 5 ≤ c4 := own_cap hown5 (by decide)
  have HR4 := Lib.hid hr4
  obtain ⟨hcc1, hcc2⟩ := hcc
  clear hown4 hown5 hgrow4 hr4 hn4 HC3 HO3
  have ht := take7 a4 5 c4 [0, 2, 97, 98, 0] w4 HR4.out (by decide) hcc1 hcc2
  rw [show (TK [0, 2, 97, 98, 0]) = ([[97, 98]], 4) by decide] at ht
  have HT := Lib.hid ht
  clear ht hcc1 hcc2
  go_wp2_with fail
  refine HT.out.mono ?_; rintro e w5 ⟨v5, rfl, hbb, hb⟩
  have HC5 := Lib.hid (HC4.out.trans (hb.mono HC4.out.size))
  obtain ⟨a5, c5, rfl, _, _⟩ := hbb.bb.row
  have hconv : (convert 43 9 (.slice a2 4 c2)).run Try.prog w5 = .ok (.string (bs [0, 2, 97, 98])) w5 := conv_own (own_below' HO2.out HC5.out)
  have hbs : (bs [0, 2, 97, 98]).toList = [0, 2, 97, 98] := bs_toList _
  clear hbb hb
  go_wp2
  go_ret
  exact ⟨rfl, HB2.out.trans (HC5.out.mono HB2.out.size)⟩

/-- Two lists in one, as it is asked for. -/
theorem caps_both {A B : List (List UInt8)} (h1 : capL A ≤ 140000) (h2 : capL B ≤ 140000) : capL (A ++ B) ≤ 300000 := by rw [capL_append]; omega
theorem fr_both {A B : List (List UInt8)} : frE (A ++ B) = if frE A = 0 ∧ frE B = 0 then 0 else 3 := by
  unfold frE
  rw [allFit_append]
  cases allFit A <;> cases allFit B <;> rfl
theorem fr_rng (A : List (List UInt8)) : frE A = 0 ∨ frE A = 3 := by
  unfold frE
  cases allFit A
  · exact Or.inr rfl
  · exact Or.inl rfl
theorem fr_ok {A : List (List UInt8)} (h : frE A = 0) : allFit A = true ∧ frS A = frameL A := by
  unfold frE at h
  cases hA : allFit A
  · rw [hA] at h; cases h
  · exact ⟨rfl, by rw [frS, if_pos hA]⟩
theorem getD_both (A B : List (List UInt8)) (S : Nat) (hA : ∀ k, k < A.length → (A.getD k []).length ≤ S) (hB : ∀ k, k < B.length → (B.getD k []).length ≤ S) : ∀ k, k < (A ++ B).length → ((A ++ B).getD k []).length ≤ S := by
  intro k hk
  rw [List.length_append] at hk
  rw [List.getD_eq_getElem?_getD]
  by_cases h : k < A.length
  · rw [List.getElem?_append_left h, ← List.getD_eq_getElem?_getD]; exact hA k h
  · rw [List.getElem?_append_right (by omega), ← List.getD_eq_getElem?_getD]; exact hB _ (by omega)
/-- Two appends onto an empty row of slices. -/
theorem both_rows {w0 w1 w2 w3 : World} {B n m : Nat} {v1 v2 : Value} {g : Option Addr} {A K : List (List UInt8)} {cs ds : List Value} (hA : ∀ j u, cs[j]? = some u → ValB w0 u (A.getD j [])) (hK : ∀ j u, ds[j]? = some u → ValB w0 u (K.getD j [])) (lA : A.length = n) (lK : K.length = m) (hB : w0.heap.size ≤ B)
    (b1 : Below w0.heap.size w0 w1) (o1 : w1.ownsRow B 43 1 (.slice g 0 0) 0 []) (o2 : w2.ownsRow B 43 1 v1 n cs) (g2 : w1.grownBy w2 (Value.slice g 0 0).ownBlock) (b2 : Below w0.heap.size w0 w2) (o3 : w3.ownsRow B 43 1 v2 (n + m) (cs ++ ds)) (g3 : w2.grownBy w3 v1.ownBlock) : OwnBB w3 B v2 (A ++ K) := by
  have h1 : OwnBB w2 B v1 ([] ++ A) := OwnBB.many (M := []) (xs := []) o1 (fun j u h => by simp at h) lA hA b1 hB (by simpa using o2) g2
  rw [List.nil_append] at h1
  obtain ⟨xs, q1, q2⟩ := h1
  have e : xs = cs := by
    have hl1 := q1.1
    have hl2 := o2.1
    rcases q1.2 with ⟨hv, hn⟩ | ⟨g', cap, cur, hv, _, hg', _, _, _, ht⟩
    · have e1 : xs = [] := List.eq_nil_of_length_eq_zero (by omega)
      have e2 : cs = [] := List.eq_nil_of_length_eq_zero (by omega)
      rw [e1, e2]
    · rcases o2.2 with ⟨hv2, hn2⟩ | ⟨g'', cap2, cur2, hv2, _, hg'', _, _, _, ht2⟩
      · rw [hv2] at hv; cases hv
      · rw [hv] at hv2
        injection hv2 with f1 f2 f3
        injection f1 with f1
        injection f1 with f1
        subst f1
        rw [hg'] at hg''
        simp only [Option.some.injEq, Obj.cells.injEq] at hg''
        rw [← ht, ← ht2, hg''.1, lA]
  subst e
  exact OwnBB.many q1 q2 lK hK b2 hB (by rw [lA]; exact o3) g3

set_option maxRecDepth 100000 in
set_option maxHeartbeats 3200000 in
theorem walkFJoins (pa : Option Addr) (la ca : Nat) (A : List (List UInt8)) (pb : Option Addr) (lb cb : Nat) (K : List (List UInt8)) (w : World) (hA : RowBB w pa la A) (hK : RowBB w pb lb K) (nA : pa = none → la = 0 ∧ ca = 0) (nK : pb = none → lb = 0 ∧ cb = 0) (lA : la ≤ 9223372036854775807) (lK : lb ≤ 9223372036854775807) (sA : ∀ k, k < la → (A.getD k []).length ≤ 9223372036854775807) (sK : ∀ k, k < lb → (K.getD k []).length ≤ 9223372036854775807) :
    Calls Try.prog 13 #[.slice pa la ca, .slice pb lb cb] w fun e w' => e = .returned (.bool true) ∧ Below w.heap.size w w' := by
  have HA := Lib.hid hA
  have HK := Lib.hid hK
  have NA := Lib.hid nA
  have NK := Lib.hid nK
  have SA := Lib.hid sA
  have SK := Lib.hid sK
  obtain ⟨ii, hi, hz0, hz1, hz2⟩ := info_parts infoBs
  have HI := Lib.hid hi
  have HZ0 := Lib.hid hz0
  have HZ1 := Lib.hid hz1
  have HZ2 := Lib.hid hz2
  clear hA hK nA nK sA sK hi hz0 hz1 hz2
  go_enter Try.func13, Try.ntmps13
  go_wp2_with fail
  refine (first7 _).mono ?_; rintro e w1 ⟨rfl, hb⟩
  have HB1 := Lib.hid hb; clear hb
  go_wp2_with fail
  refine (few7_any _ _ _ A _ (HA.out.below HB1.out) lA SA.out).mono ?_; rintro e w' ⟨rfl | ⟨rfl, hl, hs⟩, rfl⟩
  · go_wp2_with fail
    refine (first7 _).mono ?_; rintro e w2 ⟨rfl, hb⟩
    have HB2 := Lib.hid (HB1.out.trans (hb.mono HB1.out.size)); clear hb
    go_wp2
    go_ret
    exact ⟨rfl, HB2.out⟩
  go_wp2_with fail
  refine (few7_any _ _ _ K _ (HK.out.below HB1.out) lK SK.out).mono ?_; rintro e w' ⟨rfl | ⟨rfl, hl2, hs2⟩, rfl⟩
  · go_wp2_with fail
    refine (first7 _).mono ?_; rintro e w2 ⟨rfl, hb⟩
    have HB2 := Lib.hid (HB1.out.trans (hb.mono HB1.out.size)); clear hb
    go_wp2
    go_ret
    exact ⟨rfl, HB2.out⟩
  have CAB := Lib.hid (caps_both hs hs2)
  have CA := Lib.hid hs
  have CK := Lib.hid hs2
  obtain ⟨cs, hcs, lcs, vcs⟩ := HA.out
  obtain ⟨ds, hds, lds, vds⟩ := HK.out
  have HCS := Lib.hid hcs
  have HDS := Lib.hid hds
  have LCS := Lib.hid lcs
  have LDS := Lib.hid lds
  have VCS := Lib.hid vcs
  have VDS := Lib.hid vds
  have SAB := Lib.hid (show ∀ k, k < (A ++ K).length → ((A ++ K).getD k []).length ≤ 9223372036854775807 from getD_both A K _ (fun k hk => SA.out k (by rw [← lcs]; exact hk)) (fun k hk => SK.out k (by rw [← lds]; exact hk)))
  have LAB := Lib.hid (show (A ++ K).length = la + lb by rw [List.length_append, lcs, lds])
  have OCS := Lib.hid (show ∀ u ∈ cs, u.oneCell' = true from fun u hu => by
    obtain ⟨j, hj, e⟩ := List.mem_iff_getElem.1 hu
    obtain ⟨a, c, h, _⟩ := vcs j u (by rw [List.getElem?_eq_getElem hj, e])
    rw [h]; rfl)
  have ODS := Lib.hid (show ∀ u ∈ ds, u.oneCell' = true from fun u hu => by
    obtain ⟨j, hj, e⟩ := List.mem_iff_getElem.1 hu
    obtain ⟨a, c, h, _⟩ := vds j u (by rw [List.getElem?_eq_getElem hj, e])
    rw [h]; rfl)
  clear hs hs2 hcs lcs vcs hds lds vds
  go_wp2_with fail
  refine (nput7 _ _ _ A _ (HA.out.below HB1.out) (by omega) (by have := CA.out; omega) SA.out).mono ?_; rintro e w2 ⟨v2, rfl, hox, hb⟩
  have HB2 := Lib.hid (HB1.out.trans (hb.mono HB1.out.size))
  have HX := Lib.hid hox
  obtain ⟨ax, cx, rfl⟩ := own_shape hox
  clear hb hox
  go_wp2_with fail
  refine (nput7 _ _ _ K _ (HK.out.below HB2.out) (by omega) (by have := CK.out; omega) SK.out).mono ?_; rintro e w3 ⟨v3, rfl, hoy, hb⟩
  have HC3 := Lib.hid hb
  have HB3 := Lib.hid (HB2.out.trans (hb.mono HB2.out.size))
  have HY := Lib.hid hoy
  obtain ⟨ay, cy, rfl⟩ := own_shape hoy
  clear hb hoy
  go_wp2_with (first | (at_builtin; refine append_cells rfl _ _ 44 43 rfl ii (.slice none 0 0) 24 Try.underlying44 HI.out HZ0.out HZ1.out HZ2.out rfl w3.heap.size _ 0 [] rfl (World.ownsRow_made w3 #[] 0 (Nat.le_refl _) (by decide) rfl) pa la ca cs rfl NA.out (HCS.out.below (HB3.out.alloc HB3.out.size _)) OCS.out (by omega) (by decide) (by simp) ?_))
  intro v4 w4 hown4 hgrow4
  have HD4 := Lib.hid (((Below.refl w3.heap.size w3).alloc (Nat.le_refl _) (.cells #[] 43)).grown hgrow4 (by simp) (fun k hk => by simp [Value.ownBlock] at hk; omega))
  have HB4 := Lib.hid (HB3.out.trans (HD4.out.mono HB3.out.size))
  have HO4 := Lib.hid hown4
  have HG4 := Lib.hid hgrow4
  clear hown4 hgrow4
  go_wp2_with (first | (at_builtin; refine append_cells rfl _ _ 44 43 rfl ii (.slice none 0 0) 24 Try.underlying44 HI.out HZ0.out HZ1.out HZ2.out rfl w3.heap.size _ la cs rfl HO4.out pb lb cb ds rfl NK.out (HDS.out.below HB4.out) ODS.out (by omega) (by decide) HD4.out.size ?_))
  intro v5 w5 hown5 hgrow5
  have HD5 := Lib.hid (HD4.out.grown hgrow5 HD4.out.size (fun k hk => (HO4.out.lt k hk).1))
  have HB5 := Lib.hid (HB3.out.trans (HD5.out.mono HB3.out.size))
  have hobb := both_rows VCS.out VDS.out LCS.out LDS.out HB3.out.size (HB3.out.alloc HB3.out.size (.cells #[] 43)) (World.ownsRow_made w3 #[] 0 (Nat.le_refl _) (by decide) rfl) HO4.out HG4.out HB4.out hown5 hgrow5
  obtain ⟨a5, c5, hv5, hr5, _⟩ := hobb.row
  obtain ⟨lab, hlab⟩ : ∃ n, la + lb = n := ⟨_, rfl⟩
  have hlab2 : lab ≤ 200 := by omega
  rw [LAB.out, hlab] at hv5 hr5
  subst hv5
  rw [hlab] at LAB
  have HLAB := Lib.hid hlab
  clear hlab
  have HR5 := Lib.hid hr5
  clear hown5 hgrow5 hobb hr5 HG4 HO4 HD4 HB4
  go_wp2_with fail
  refine (nput7 _ _ _ (A ++ K) _ HR5.out (by omega) CAB.out (by have := SAB.out; rw [LAB.out] at this; exact this)).mono ?_; rintro e w6 ⟨v6, rfl, hoz, hb⟩
  have HB6 := Lib.hid (HB5.out.trans (hb.mono HB5.out.size))
  have HZ := Lib.hid hoz
  have HY6 := Lib.hid (own_below' (own_below' HY.out HD5.out) hb)
  have HX6 := Lib.hid (own_below' (own_below' (own_below' HX.out HC3.out) HD5.out) hb)
  obtain ⟨az, cz, rfl⟩ := own_shape hoz
  have HCZ := Lib.hid (own_cap' hoz)
  clear hb hoz HX HY HC3 HD5 HR5 HB5
  have hfr := fr_both (A := A) (B := K)
  have hra := fr_rng A
  have hrk := fr_rng K
  have hoa := fun h => fr_ok (A := A) h
  have hok := fun h => fr_ok (A := K) h
  have hoz := fun h => fr_ok (A := A ++ K) h
  obtain ⟨ea, hea⟩ : ∃ x, frE A = x := ⟨_, rfl⟩
  obtain ⟨ek, hek⟩ : ∃ x, frE K = x := ⟨_, rfl⟩
  obtain ⟨ez, hez⟩ : ∃ x, frE (A ++ K) = x := ⟨_, rfl⟩
  rw [hea] at hfr hra hoa ⊢
  rw [hek] at hfr hrk hok ⊢
  rw [hez] at hfr hoz ⊢
  clear hea hek hez
  by_cases h0 : ea = 0 ∧ ek = 0
  · rw [if_pos h0] at hfr
    obtain ⟨rfl, rfl⟩ := h0
    subst hfr
    obtain ⟨f1, f2⟩ := hoa rfl
    obtain ⟨f3, f4⟩ := hok rfl
    obtain ⟨f5, f6⟩ := hoz rfl
    have hlz := frameL_len (A ++ K)
    have hcz := cap_fit f5
    have hlx := frameL_len A
    have hcx := cap_fit f1
    have hly := frameL_len K
    have hcy := cap_fit f3
    rw [LCS.out, ← hcx] at hlx
    rw [LDS.out, ← hcy] at hly
    rw [LAB.out, ← hcz] at hlz
    have hz3 := TK_all f5
    have hcc := frameL_append A K
    obtain ⟨sx, hsx⟩ : ∃ x, frameL A = x := ⟨_, rfl⟩
    obtain ⟨sy, hsy⟩ : ∃ x, frameL K = x := ⟨_, rfl⟩
    obtain ⟨sz, hsz⟩ : ∃ x, frameL (A ++ K) = x := ⟨_, rfl⟩
    have cab := CAB.out
    have ca := CA.out
    have ck := CK.out
    rw [f2] at HX6
    rw [f4] at HY6
    rw [f6] at HZ HCZ
    rw [f2, f4, f6]
    rw [hsx] at HX6 hlx hcc ⊢
    rw [hsy] at HY6 hly hcc ⊢
    rw [hsz] at HZ HCZ hlz hz3 hcc ⊢
    obtain ⟨nx, hnx⟩ : ∃ x, sx.length = x := ⟨_, rfl⟩
    obtain ⟨ny, hny⟩ : ∃ x, sy.length = x := ⟨_, rfl⟩
    obtain ⟨nz, hnz⟩ : ∃ x, sz.length = x := ⟨_, rfl⟩
    rw [hnx] at HX6 hlx ⊢
    rw [hny] at HY6 hly ⊢
    rw [hnz] at HZ HCZ hlz hz3 ⊢
    have lz : nz ≤ 300500 := by omega
    have lx : nx ≤ 300500 := by omega
    have ly : ny ≤ 300500 := by omega
    have HT := Lib.hid (fun a h => take7 a nz cz sz w6 h (by omega) HCZ.out.1 HCZ.out.2)
    rw [hz3] at HT
    have f9 : ((bs sz).toList == (bs sx ++ bs sy).toList) = true := beq_iff_eq.2 (congrArg ByteArray.toList (by rw [hcc, bs_append]))
    have bx : (bs sx).size ≤ 300500 := by rw [bs_size]; omega
    have by' : (bs sy).size ≤ 300500 := by rw [bs_size]; omega
    have HF9 := Lib.hid f9
    clear f1 f2 f3 f4 f5 f6 hoa hok hoz hlz hcz hlx hcx hly hcy hz3 hcc cab ca ck hra hrk hsx hsy hsz hnx hny hnz f9 HCZ
    obtain ⟨azz, czz, hve, hrz, _⟩ := cells_own HZ.out
    injection hve with e1 e2 e3
    subst e1 e3
    have HRZ := Lib.hid hrz
    clear hrz e2
    go_wp2_with fail
    refine (HT.out _ HRZ.out).mono ?_; rintro e w7 ⟨v7, rfl, hbb, hb⟩
    have HE7 := Lib.hid hb
    have hs67 := hb.size
    obtain ⟨a7, c7, hv7, hr7, _⟩ := hbb.bb.row
    rw [LAB.out] at hv7 hr7
    subst hv7
    have HL7 := Lib.hid hr7
    clear hb hbb hr7
    have ht2 := take7 (some ⟨w7.heap.size, 0, none⟩) 2 2 [0, 0] _ (rowB_lit2 w7 0 0) (by decide) (by decide) (by decide)
    rw [show TK [0, 0] = ([[]], 2) by decide] at ht2
    have HT2 := Lib.hid ht2
    clear ht2
    go_wp2_with fail
    refine HT2.out.mono ?_; rintro e w8 ⟨v8, rfl, hbb, hb⟩
    have HE8 := Lib.hid ((HE7.out.alloc hs67 (.cells #[.int .u8 0, .int .u8 0] 5)).trans (hb.mono (by simp; omega)))
    have HL8 := Lib.hid (HL7.out.below ((((Below.refl w7.heap.size w7).alloc (Nat.le_refl _) (.cells #[.int .u8 0, .int .u8 0] 5))).trans (hb.mono (by simp))))
    obtain ⟨a8, c8, hv8, hr8, _⟩ := hbb.bb.row
    have hv8' : v8 = .slice a8 1 c8 := hv8
    have HN8 := Lib.hid (show RowBB w8 a8 1 [[]] from hr8)
    clear hv8 hr8
    subst hv8'
    clear hb hbb HL7 HE7
    go_wp2_with fail
    refine (first7 _).mono ?_; rintro e w9 ⟨rfl, hb⟩
    have HE9 := Lib.hid (HE8.out.trans (hb.mono HE8.out.size))
    have HL9 := Lib.hid (HL8.out.below hb)
    have HN9 := Lib.hid (HN8.out.below hb)
    have HB9 := Lib.hid (HB6.out.trans (HE9.out.mono HB6.out.size))
    clear hb HL8 HN8 HE8
    have hvx := conv_own (own_below' HX6.out HE9.out)
    have hvy := conv_own (own_below' HY6.out HE9.out)
    have hvz := conv_own (own_below' HZ.out HE9.out)
    have hf9 := HF9.out
    go_wp2_with (first | (at_builtin; refine append_cells_g (by rfl) _ _ 44 43 rfl ii (.slice none 0 0) 24 Try.underlying44 HI.out HZ0.out HZ1.out HZ2.out rfl w9.heap.size _ 0 [] rfl (World.ownsRow_made w9 #[] 0 (Nat.le_refl _) (by decide) rfl) pa la ca cs rfl NA.out (HCS.out.below (HB9.out.alloc HB9.out.size _)) OCS.out (by omega) (by decide) (by simp) ?_))
    intro v10 w10 hown10 hgrow10
    have HD10 := Lib.hid (((Below.refl w9.heap.size w9).alloc (Nat.le_refl _) (.cells #[] 43)).grown hgrow10 (by simp) (fun k hk => by simp [Value.ownBlock] at hk; omega))
    have HB10 := Lib.hid (HB9.out.trans (HD10.out.mono HB9.out.size))
    have HO10 := Lib.hid hown10
    have HG10 := Lib.hid hgrow10
    clear hown10 hgrow10 hvx hvy hvz hf9
    go_wp2_with (first | (at_builtin; refine append_cells_g (by rfl) _ _ 44 43 rfl ii (.slice none 0 0) 24 Try.underlying44 HI.out HZ0.out HZ1.out HZ2.out rfl w9.heap.size _ la cs rfl HO10.out pb lb cb ds rfl NK.out (HDS.out.below HB10.out) ODS.out (by omega) (by decide) HD10.out.size ?_))
    intro v11 w11 hown11 hgrow11
    have HD11 := Lib.hid (HD10.out.grown hgrow11 HD10.out.size (fun k hk => (HO10.out.lt k hk).1))
    have HB11 := Lib.hid (HB9.out.trans (HD11.out.mono HB9.out.size))
    have hobb := both_rows VCS.out VDS.out LCS.out LDS.out HB9.out.size (HB9.out.alloc HB9.out.size (.cells #[] 43)) (World.ownsRow_made w9 #[] 0 (Nat.le_refl _) (by decide) rfl) HO10.out HG10.out HB10.out hown11 hgrow11
    obtain ⟨a11, c11, hv11, hr11, _⟩ := hobb.row
    rw [LAB.out] at hv11 hr11
    subst hv11
    have HR11 := Lib.hid hr11
    have HL11 := Lib.hid (HL9.out.below HD11.out)
    have HN11 := Lib.hid (HN9.out.below HD11.out)
    clear hown11 hgrow11 hobb hr11 HG10 HO10 HD10 HB10 HL9 HN9
    go_wp2_with fail
    refine (lists_same _ _ _ _ _ (A ++ K) _ HL11.out HR11.out (by omega)).mono ?_; rintro e w12 ⟨rfl, hb⟩
    have HB12 := Lib.hid (HB11.out.trans (hb.mono HB11.out.size))
    obtain ⟨b9, off, ai, ci, hae, hlt, hcell, _, _⟩ := (HN11.out.below hb).at 0 (by decide)
    have hcell2 : w12.cell? ⟨b9, off, none⟩ = some (.slice ai 0 ci) := hcell
    clear hb hcell HL11 HR11 HN11
    subst hae
    go_wp2
    go_ret
    exact ⟨rfl, HB12.out⟩
  · rw [if_neg h0] at hfr
    subst hfr
    have hd : (ea != 0) = true ∨ (ea != 0) = false ∧ (ek != 0) = true := by
      simp only [bne_iff_ne, ne_eq, bne_eq_false_iff_eq]; omega
    clear hra hrk hoa hok hoz h0
    rcases hd with d1 | ⟨d1, d2⟩
    all_goals
      go_wp2_with fail
      refine (first7 _).mono ?_; rintro e w7 ⟨rfl, hb⟩
      have HB7 := Lib.hid (HB6.out.trans (hb.mono HB6.out.size)); clear hb
      go_wp2
      go_ret
      exact ⟨rfl, HB7.out⟩
theorem getD_bound {w : World} {a : Option Addr} {n : Nat} {M : List (List UInt8)} (h : RowBB w a n M) (hs : ∀ m ∈ M, m.length ≤ maxLen) : ∀ k, k < n → (M.getD k []).length ≤ 9223372036854775807 := by
  intro k hk
  obtain ⟨_, _, h2, _⟩ := h
  have hkl : k < M.length := by omega
  have := hs M[k] (List.getElem_mem hkl)
  unfold maxLen at this
  rw [List.getD_eq_getElem?_getD, List.getElem?_eq_getElem hkl]
  simp only [Option.getD_some]
  omega
end Go.Proofs.Ytngncdmmlkcekaa
