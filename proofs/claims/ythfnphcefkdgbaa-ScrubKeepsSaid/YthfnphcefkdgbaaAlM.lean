/- AlM -/
import Derived.Test.YthfnphcefkdgbaaScR
import Derived.Test.YthfnphcefkdgbaaFrM
import Derived.Lib.AppendZerosOnto
namespace Go.Proofs.Ythfnphcefkdgbaa
open Go.RowKit

/-- A slice's value reads as records. -/
def SlR (w : World) (u : Value) (m : List R5) : Prop := ∃ a c, u = .slice a m.length c ∧ RowR w a m.length m ∧ (a = none → m.length = 0 ∧ c = 0)
theorem SlR.below {w w' : World} {u : Value} {m : List R5} (h : SlR w u m) (hb : Below w.heap.size w w') : SlR w' u m := by
  obtain ⟨a, c, h1, h2, h3⟩ := h
  exact ⟨a, c, h1, h2.below hb, h3⟩
theorem SlR.own {w : World} {B n : Nat} {v : Value} {m : List R5} (h : w.ownsRow B 87 5 v n (flatR m)) : SlR w v m := by
  obtain ⟨a, c, h1, h2, h3⟩ := rowR_own h
  have hl := h2.1
  subst hl
  exact ⟨a, c, h1, h2, h3⟩
/-- The slices of a slice. -/
def RowRR (w : World) (a : Option Addr) (n : Nat) (M : List (List R5)) : Prop :=
  ∃ cs, CellsAt w a n cs ∧ M.length = n ∧ ∀ (j : Nat) (u : Value), cs[j]? = some u → ∃ m : List R5, M[j]? = some m ∧ SlR w u m
theorem RowRR.below {w w' : World} {a : Option Addr} {n : Nat} {M : List (List R5)} (h : RowRR w a n M) (hb : Below w.heap.size w w') : RowRR w' a n M := by
  obtain ⟨cs, h1, h2, h3⟩ := h
  exact ⟨cs, h1.below hb, h2, fun j u hj => by obtain ⟨m, h4, h5⟩ := h3 j u hj; exact ⟨m, h4, h5.below hb⟩⟩
theorem RowRR.at {w : World} {a : Option Addr} {n : Nat} {M : List (List R5)} (h : RowRR w a n M) (j : Nat) (hj : j < n) : ∃ b off ai ci m ml, a = some ⟨b, off, none⟩ ∧ b < w.heap.size ∧ M[j]? = some m ∧ m.length = ml ∧ w.cell? ⟨b, off + j, none⟩ = some (.slice ai ml ci) ∧ RowR w ai ml m ∧ (ai = none → ml = 0 ∧ ci = 0) := by
  obtain ⟨cs, h1, h2, h3⟩ := h
  have hl := h1.1
  rcases h1.2 with h0 | ⟨b, off, rfl, hlt, hc⟩
  · omega
  · obtain ⟨u, hu⟩ : ∃ u, cs[j]? = some u := ⟨cs[j]'(by omega), List.getElem?_eq_getElem (by omega)⟩
    obtain ⟨m, hm, ai, ci, rfl, hr, hn⟩ := h3 j u hu
    exact ⟨b, off, ai, ci, m, m.length, rfl, hlt, hm, rfl, hc j _ hu, hr, hn⟩
def catR (M : List (List R5)) (k : Nat) : List R5 := (M.take k).flatten
theorem catR_next {M : List (List R5)} {k : Nat} {m : List R5} (h : M[k]? = some m) : catR M (k + 1) = catR M k ++ m := by
  rw [catR, List.take_add_one, h, List.flatten_append]
  simp [catR]
theorem catR_all {M : List (List R5)} {n : Nat} (h : M.length = n) : catR M n = M.flatten := by
  rw [catR, List.take_of_length_le (by omega)]
theorem catR_le (M : List (List R5)) (k : Nat) : (catR M k).length ≤ M.flatten.length := by
  have h : M.flatten = catR M k ++ (M.drop k).flatten := by rw [catR, ← List.flatten_append, List.take_append_drop]
  rw [h, List.length_append]; omega
theorem flatR_app (A B : List R5) : flatR (A ++ B) = flatR A ++ flatR B := List.flatMap_append
set_option maxRecDepth 100000 in
set_option maxHeartbeats 1600000 in
theorem growRR0 (n : Nat) (w : World) (hn : n ≤ 100000) : Calls Try.prog 97 #[.slice none 0 0, .int .i64 (n : Int)] w fun e w' => ∃ v, e = .returned v ∧ w'.ownsRow w.heap.size 87 5 v 0 [] ∧ Below w.heap.size w w' := by
  obtain ⟨i0, hi, hz0, hz1, hz2⟩ := info_parts infoRR
  rcases Nat.eq_zero_or_pos n with rfl | hp
  · go_enter Try.func97, Try.ntmps97
    go_wp2
    go_ret
    exact ⟨_, rfl, World.ownsRow_nil _ _ _ _, Below.refl _ _⟩
  · have hrz : ∀ ty, (Builtin.append_ #[75, 3] ty #[.slice none 0 0, .int .i64 (n : Int)]).run Try.prog w =
        .ok (.slice (some ⟨w.heap.size, 0, none⟩) n (grownCap w n 0 87)) (w.drew.alloc (.cells ((([] : List Value).toArray) ++ Builtin.zeroCells (Value.agg #[.string ⟨#[]⟩, .int .i64 0, .int .i64 0, .int .i64 0, .string ⟨#[]⟩]).cells n ++ Builtin.zeroCells (Value.agg #[.string ⟨#[]⟩, .int .i64 0, .int .i64 0, .int .i64 0, .string ⟨#[]⟩]).cells (grownCap w n 0 87 - n)) 87)) := fun ty => by
      have h := Lib.run_append_grow_zeros w 75 3 ty 87 i0 _ .i64 .i64 Try.underlying75 Try.underlying3 hi hz0 none 0 0 [] (run_firstCells_none w.drew i0.size 0 0 0) n hp (by omega) (by omega) (by omega) (by rw [hz2]; omega) (by rw [hz2]; simp only [Builtin.nextslicecap, Nat.zero_add, Nat.mul_zero, if_pos hp]; omega)
      rw [Nat.zero_add] at h
      exact h
    have hGn : n ≤ grownCap w n 0 87 := grownCap_ge w _ _ _
    have hG63 := grownCap_le_maxLen w n 0 87 (by unfold maxLen; omega)
    obtain ⟨G, hG⟩ : ∃ G, G = grownCap w n 0 87 := ⟨_, rfl⟩
    rw [← hG] at hrz hGn hG63
    have HMX := Lib.hid hG63
    unfold maxLen at hG63
    obtain ⟨cs, hcs⟩ : ∃ cs, cs = ((([] : List Value).toArray) ++ Builtin.zeroCells (Value.agg #[.string ⟨#[]⟩, .int .i64 0, .int .i64 0, .int .i64 0, .string ⟨#[]⟩]).cells n ++ Builtin.zeroCells (Value.agg #[.string ⟨#[]⟩, .int .i64 0, .int .i64 0, .int .i64 0, .string ⟨#[]⟩]).cells (G - n)) := ⟨_, rfl⟩
    have hsz : cs.size = G * 5 := by
      rw [hcs]
      simp only [Builtin.zeroCells, Value.cells, Array.size_append, Array.size_map, Array.size_range]
      simp
      omega
    rw [← hcs] at hrz
    have HB := Lib.hid (((Below.refl w.heap.size w).drew).alloc (Nat.le_refl _) (.cells cs 87))
    have HO := Lib.hid (show (w.drew.alloc (.cells cs 87)).ownsRow w.heap.size 87 5 (.slice (some ⟨w.heap.size, 0, none⟩) 0 G) 0 [] from World.ownsRow_made w.drew cs G (Nat.le_refl _) HMX.out hsz)
    clear hcs hG hsz hi hz0 hz1 hz2
    go_enter Try.func97, Try.ntmps97
    go_wp2_with (at_builtin; refine Lib.wpList_append_run _ rfl _ _ _ _ rfl _ _ rfl rfl _ _ (hrz _) ?_)
    go_wp2
    go_ret
    exact ⟨_, rfl, HO.out, HB.out⟩
set_option maxRecDepth 100000 in
set_option maxHeartbeats 3200000 in
theorem concatRR (a : Option Addr) (n c : Nat) (M : List (List R5)) (w : World) (h : RowRR w a n M) (hn : n ≤ 1000) (hsum : M.flatten.length ≤ 100000) :
    Calls Try.prog 74 #[.slice a n c] w fun e w' => ∃ v, e = .returned v ∧ w'.ownsRow w.heap.size 87 5 v M.flatten.length (flatR M.flatten) ∧ Below w.heap.size w w' := by
  obtain ⟨i0, hi, hz0, hz1, hz2⟩ := info_parts infoRR
  have HR := Lib.hid h
  have HL := Lib.hid h.choose_spec.2.1
  clear h
  go_enter Try.func74, Try.ntmps74
  go_wp2_with fail
  go_loopw [3, 11] (fun t i wr => ∃ k s : Nat, k ≤ n ∧ s ≤ 100000 ∧ i = .int .i64 k ∧ t = .int .i64 s ∧ Hid ((catR M k).length = s) ∧ w = wr) (fun _ i _ => n - (intOf i).toNat)
  case atStart => exact ⟨0, 0, Nat.zero_le _, Nat.zero_le _, rfl, rfl, rfl, rfl⟩
  case round =>
    obtain ⟨k, s, hk, hs, rfl, rfl, hc, rfl⟩ := hrel
    by_cases hlt : k < n
    · obtain ⟨b, o, ai, ci, m, ml, rfl, hbl, hm, hml, c0, hrow, hnil⟩ := HR.out.at k hlt
      have hnx := catR_next hm
      have hle := catR_le M (k + 1)
      have hsl := hc.out
      rw [hnx, List.length_append, hsl, hml] at hle
      have HNX := Lib.hid (show (catR M (k + 1)).length = s + ml by rw [hnx, List.length_append, hsl, hml])
      have d1 := dF (p := (s : Int) + (ml : Int) < 0) (by omega)
      have hs2 : s + ml ≤ 100000 := by omega
      clear hm hml hrow hnil hnx hle hsl hc
      go_wp2
      go_roundw
      case rel => exact ⟨k + 1, s + ml, by omega, hs2, by go_num, by go_num, HNX, trivial⟩
      case measure => simp [intOf]; omega
    · have hkn : k = n := by omega
      subst hkn
      go_wp2_with fail
      refine (growRR0 s _ hs).mono ?_; rintro e w1 ⟨v, rfl, ho, hb⟩
      have HO := Lib.hid ho
      have HB := Lib.hid hb
      clear ho hb
      go_wp2_with fail
      go_loopw [6, 27] (fun v i wr => ∃ j m : Nat, j ≤ k ∧ i = .int .i64 j ∧ Hid ((catR M j).length = m) ∧ Hid (wr.ownsRow w.heap.size 87 5 v m (flatR (catR M j))) ∧ Hid (Below w.heap.size w wr)) (fun _ i _ => k - (intOf i).toNat)
      case atStart => exact ⟨0, 0, Nat.zero_le _, rfl, rfl, HO, HB⟩
      case round =>
        obtain ⟨j, q, hj, rfl, hm, ho, hbw⟩ := hrel
        by_cases hlt : j < k
        · obtain ⟨b, o, ai, ci, m, ml, rfl, hbl, hmj, hml, c0, hrow, hnil⟩ := (HR.out.below hbw.out).at j hlt
          have hnx := catR_next hmj
          have hle := catR_le M (j + 1)
          have hsl := hm.out
          rw [hnx, List.length_append, hsl, hml] at hle
          have HNX := Lib.hid hnx
          have HML := Lib.hid hml
          have HROW := Lib.hid hrow
          have HNIL := Lib.hid hnil
          have hqb : q + ml ≤ 1000000 := by omega
          clear hmj hml hrow hnil hnx hle hsl
          go_wp2_with (at_builtin; refine append_cellsK rfl _ _ 75 87 rfl i0 _ 5 56 Try.underlying75 hi hz0 hz1 hz2 rfl (by decide) w.heap.size _ q _ rfl ho.out ai ml ci (flatR m) rfl HNIL.out HROW.out.2 (flatR_one m) hqb (by decide) hbw.out.size ?_)
          intro v' w3 hown' hgrow'
          have HO3 := Lib.hid hown'
          have HB3 := Lib.hid (hbw.out.grown hgrow' hbw.out.size (fun k hk => (ho.out.lt k hk).1))
          clear hown' hgrow'
          go_wp2
          go_roundw
          case rel => exact ⟨j + 1, q + ml, by omega, by go_num, Lib.hid (by rw [HNX.out, List.length_append, hm.out, HML.out]), Lib.hid (by rw [HNX.out, flatR_app]; exact HO3.out), HB3⟩
          case measure => simp [intOf]; omega
        · have hkj : j = k := by omega
          subst hkj
          have HF := Lib.hid (show wr.ownsRow w.heap.size 87 5 u6 M.flatten.length (flatR M.flatten) by
            have h1 := ho.out
            have h2 := hm.out
            rw [catR_all HL.out] at h1 h2
            rw [h2]; exact h1)
          clear ho hm
          go_wp2
          go_ret
          exact ⟨_, rfl, HF.out, hbw.out⟩
theorem rowRR3 (w : World) {na sa xa : Option Addr} {nl nc sl sc xl xc : Nat} {A N X : List R5} (ha : RowR w na nl A) (han : na = none → nl = 0 ∧ nc = 0) (hn : RowR w sa sl N) (hnn : sa = none → sl = 0 ∧ sc = 0) (hx : RowR w xa xl X) (hxn : xa = none → xl = 0 ∧ xc = 0) : RowRR (w.alloc (.cells #[.slice na nl nc, .slice sa sl sc, .slice xa xl xc] 75)) (some ⟨w.heap.size, 0, none⟩) 3 [A, N, X] := by
  have hba := (Below.refl w.heap.size w).alloc (Nat.le_refl _) (.cells #[.slice na nl nc, .slice sa sl sc, .slice xa xl xc] 75)
  refine ⟨_, cells_lit w #[.slice na nl nc, .slice sa sl sc, .slice xa xl xc] 75, rfl, fun j u hj => ?_⟩
  match j, hj with
  | 0, hj =>
    obtain rfl : Value.slice na nl nc = u := by simpa using hj
    exact ⟨A, rfl, na, nc, by rw [ha.1], by rw [ha.1]; exact ha.below hba, by rw [ha.1]; exact han⟩
  | 1, hj =>
    obtain rfl : Value.slice sa sl sc = u := by simpa using hj
    exact ⟨N, rfl, sa, sc, by rw [hn.1], by rw [hn.1]; exact hn.below hba, by rw [hn.1]; exact hnn⟩
  | 2, hj =>
    obtain rfl : Value.slice xa xl xc = u := by simpa using hj
    exact ⟨X, rfl, xa, xc, by rw [hx.1], by rw [hx.1]; exact hx.below hba, by rw [hx.1]; exact hxn⟩
  | j + 3, hj => simp at hj
set_option maxRecDepth 100000 in
set_option maxHeartbeats 4000000 in
theorem all_ex (mi mo mr : Int) (b1 b2 b3 b4 b5 : Bool) (qa na sa xa : Option Addr) (ql qc nl nc sl sc xl xc : Nat) (A N X : List R5) (w : World) (ha : RowR w na nl A) (han : na = none → nl = 0 ∧ nc = 0) (hn : RowR w sa sl N) (hnn : sa = none → sl = 0 ∧ sc = 0) (hx : RowR w xa xl X) (hxn : xa = none → xl = 0 ∧ xc = 0) (hs : nl + sl + xl ≤ 100000) :
    Calls Try.prog 38 #[.agg #[.int .i64 mi, .int .i64 mo, .int .i64 mr, .bool b1, .bool b2, .bool b3, .bool b4, .bool b5, .slice qa ql qc, .slice na nl nc, .slice sa sl sc, .slice xa xl xc]] w fun e w' => ∃ v, e = .returned v ∧ w'.ownsRow w.heap.size 87 5 v (nl + sl + xl) (flatR (A ++ (N ++ X))) ∧ Below w.heap.size w w' := by
  have hb1 := (Below.refl w.heap.size w).alloc (Nat.le_refl _) (.cells #[.int .i64 mi, .int .i64 mo, .int .i64 mr, .bool b1, .bool b2, .bool b3, .bool b4, .bool b5, .slice qa ql qc, .slice na nl nc, .slice sa sl sc, .slice xa xl xc] 77)
  obtain ⟨w1, hw1⟩ : ∃ x, w.alloc (.cells #[.int .i64 mi, .int .i64 mo, .int .i64 mr, .bool b1, .bool b2, .bool b3, .bool b4, .bool b5, .slice qa ql qc, .slice na nl nc, .slice sa sl sc, .slice xa xl xc] 77) = x := ⟨_, rfl⟩
  rw [hw1] at hb1
  have HRR := Lib.hid (rowRR3 w1 (ha.below hb1) han (hn.below hb1) hnn (hx.below hb1) hxn)
  have hb2 := (Below.refl _ w1).alloc (Nat.le_refl _) (.cells #[.slice na nl nc, .slice sa sl sc, .slice xa xl xc] 75)
  obtain ⟨w2, hw2⟩ : ∃ x, w1.alloc (.cells #[.slice na nl nc, .slice sa sl sc, .slice xa xl xc] 75) = x := ⟨_, rfl⟩
  rw [hw2] at hb2 HRR
  have HB := Lib.hid (hb1.trans (hb2.mono hb1.size))
  obtain ⟨M, hM⟩ : ∃ x, [A, N, X] = x := ⟨_, rfl⟩
  rw [hM] at HRR
  have HS := Lib.hid (show M.flatten.length = nl + sl + xl by rw [← hM]; simp [ha.1, hn.1, hx.1]; omega)
  have HF := Lib.hid (show M.flatten = A ++ (N ++ X) by rw [← hM]; simp)
  obtain ⟨g, hg⟩ : ∃ x, w1.heap.size = x := ⟨_, rfl⟩
  rw [hg] at HRR
  have HG := Lib.hid (show w.heap.size + 1 = g by rw [← hg, ← hw1, World.size_alloc])
  have HW1 := Lib.hid hw1
  have HW2 := Lib.hid hw2
  clear ha han hn hnn hx hxn hb1 hb2 hM hg hw1 hw2
  go_enter Try.func38, Try.ntmps38
  go_wp2_with fail
  rw [HW1.out, HW2.out, HG.out]
  refine (concatRR (some ⟨g, 0, none⟩) 3 3 M w2 HRR.out (by omega) (by rw [HS.out]; exact hs)).mono ?_; rintro e w3 ⟨v, rfl, ho, hb⟩
  rw [HF.out] at ho
  have hl : (A ++ (N ++ X)).length = nl + sl + xl := by rw [← HF.out, HS.out]
  rw [hl] at ho
  have HO := Lib.hid (own_mono4 ho HB.out.size)
  have HB2 := Lib.hid (HB.out.trans (hb.mono HB.out.size))
  obtain ⟨a2, c2, rfl, -⟩ := rowR_own ho
  clear ho hb hl
  go_wp2
  go_ret
  exact ⟨_, rfl, HO.out, HB2.out⟩
end Go.Proofs.Ythfnphcefkdgbaa
