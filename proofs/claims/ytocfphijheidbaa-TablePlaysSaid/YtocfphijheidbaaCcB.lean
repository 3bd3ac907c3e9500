/- slices.Grow, slices.Concat of bytes. -/
import Derived.Test.YtocfphijheidbaaBRx
import Derived.Lib.AppendZerosOnto
namespace Go.Proofs.Ytocfphijheidbaa
open Go.RowKit

def catB (M : List (List UInt8)) (k : Nat) : List UInt8 := (M.take k).flatten
theorem catB_next {M : List (List UInt8)} {k : Nat} (hk : k < M.length) : catB M (k + 1) = catB M k ++ M.getD k [] := by
  rw [catB, catB, List.take_succ_eq_append_getElem hk, List.flatten_append, List.getD_eq_getElem?_getD, List.getElem?_eq_getElem hk]
  simp
theorem catB_all {M : List (List UInt8)} {n : Nat} (h : M.length = n) : catB M n = M.flatten := by
  rw [catB, List.take_of_length_le (by omega)]
theorem catB_le (M : List (List UInt8)) (k : Nat) : (catB M k).length ≤ M.flatten.length := by
  have h : M.flatten = catB M k ++ (M.drop k).flatten := by rw [catB, ← List.flatten_append, List.take_append_drop]
  rw [h, List.length_append]; omega

set_option maxRecDepth 100000 in
set_option maxHeartbeats 1600000 in
theorem growB0 (n : Nat) (w : World) (hn : n ≤ 100000) : Calls Try.prog 96 #[.slice none 0 0, .int .i64 (n : Int)] w fun e w' => ∃ v, e = .returned v ∧ w'.ownsRow w.heap.size 5 1 v 0 [] ∧ Below w.heap.size w w' := by
  obtain ⟨i0, hi, hz0, hz1, hz2⟩ := info_parts infoU8
  rcases Nat.eq_zero_or_pos n with rfl | hp
  · go_enter Try.func96, Try.ntmps96
    go_wp2
    go_ret
    exact ⟨_, rfl, World.ownsRow_nil _ _ _ _, Below.refl _ _⟩
  · have hrz : ∀ ty, (Builtin.append_ #[25, 3] ty #[.slice none 0 0, .int .i64 (n : Int)]).run Try.prog w =
        .ok (.slice (some ⟨w.heap.size, 0, none⟩) n (grownCap w n 0 5)) (w.drew.alloc (.cells ((([] : List Value).toArray) ++ Builtin.zeroCells (Value.int .u8 0).cells n ++ Builtin.zeroCells (Value.int .u8 0).cells (grownCap w n 0 5 - n)) 5)) := fun ty => by
      have h := Lib.run_append_grow_zeros w 25 3 ty 5 i0 _ .i64 .i64 Try.underlying25 Try.underlying3 hi hz0 none 0 0 [] (run_firstCells_none w.drew i0.size 0 0 0) n hp (by omega) (by omega) (by omega) (by rw [hz2]; omega) (by rw [hz2]; simp only [Builtin.nextslicecap, Nat.zero_add, Nat.mul_zero, if_pos hp]; omega)
      rw [Nat.zero_add] at h
      exact h
    have hGn : n ≤ grownCap w n 0 5 := grownCap_ge w _ _ _
    have hG63 := grownCap_le_maxLen w n 0 5 (by unfold maxLen; omega)
    obtain ⟨G, hG⟩ : ∃ G, G = grownCap w n 0 5 := ⟨_, rfl⟩
    rw [← hG] at hrz hGn hG63
    have HMX := Lib.hid hG63
    unfold maxLen at hG63
    obtain ⟨cs, hcs⟩ : ∃ cs, cs = ((([] : List Value).toArray) ++ Builtin.zeroCells (Value.int .u8 0).cells n ++ Builtin.zeroCells (Value.int .u8 0).cells (G - n)) := ⟨_, rfl⟩
    have hsz : cs.size = G := by
      rw [hcs]
      simp only [Builtin.zeroCells, Value.cells, Array.size_append, Array.size_map, Array.size_range]
      simp
      omega
    rw [← hcs] at hrz
    have HB := Lib.hid (((Below.refl w.heap.size w).drew).alloc (Nat.le_refl _) (.cells cs 5))
    have HO := Lib.hid (show (w.drew.alloc (.cells cs 5)).ownsRow w.heap.size 5 1 (.slice (some ⟨w.heap.size, 0, none⟩) 0 G) 0 [] from World.ownsRow_made w.drew cs G (Nat.le_refl _) HMX.out (by omega))
    clear hcs hG hsz hi hz0 hz1 hz2
    go_enter Try.func96, Try.ntmps96
    go_wp2_with (at_builtin; refine Lib.wpList_append_run _ rfl _ _ _ _ rfl _ _ rfl rfl _ _ (hrz _) ?_)
    go_wp2
    go_ret
    exact ⟨_, rfl, HO.out, HB.out⟩

set_option maxRecDepth 100000 in
set_option maxHeartbeats 3200000 in
theorem concatB (a : Option Addr) (n c : Nat) (M : List (List UInt8)) (w : World) (h : RowBB w a n M) (hn : n ≤ 1000) (hsum : M.flatten.length ≤ 100000) :
    Calls Try.prog 72 #[.slice a n c] w fun e w' => ∃ v, e = .returned v ∧ w'.ownsRow w.heap.size 5 1 v M.flatten.length (bc M.flatten) ∧ Below w.heap.size w w' := by
  obtain ⟨i0, hi, hz0, hz1, hz2⟩ := info_parts infoU8
  have HR := Lib.hid h
  have HL := Lib.hid h.choose_spec.2.1
  clear h
  go_enter Try.func72, Try.ntmps72
  go_wp2_with fail
  go_loopw [3, 11] (fun t i wr => ∃ k s : Nat, k ≤ n ∧ s ≤ 100000 ∧ i = .int .i64 k ∧ t = .int .i64 s ∧ Hid ((catB M k).length = s) ∧ w = wr) (fun _ i _ => n - (intOf i).toNat)
  case atStart => exact ⟨0, 0, Nat.zero_le _, Nat.zero_le _, rfl, rfl, rfl, rfl⟩
  case round =>
    obtain ⟨k, s, hk, hs, rfl, rfl, hc, rfl⟩ := hrel
    by_cases hlt : k < n
    · obtain ⟨b, o, ai, ci, rfl, hbl, c0, hrow, hnil⟩ := HR.out.at k hlt
      obtain ⟨m, hm⟩ : ∃ m, M.getD k [] = m := ⟨_, rfl⟩
      have hm9 := catB_next (M := M) (k := k) (by rw [HL.out]; exact hlt)
      rw [hm] at c0 hrow hnil hm9
      obtain ⟨ml, hml⟩ : ∃ x, m.length = x := ⟨_, rfl⟩
      rw [hml] at c0 hrow hnil
      have hnx := hm9
      have hle := catB_le M (k + 1)
      have hsl := hc.out
      rw [hnx, List.length_append, hsl, hml] at hle
      have HNX := Lib.hid (show (catB M (k + 1)).length = s + ml by rw [hnx, List.length_append, hsl, hml])
      have d1 := dF (p := (s : Int) + (ml : Int) < 0) (by omega)
      have hs2 : s + ml ≤ 100000 := by omega
      clear hm hml hrow hnil hnx hle hsl hc hm9
      go_wp2
      go_roundw
      case rel => exact ⟨k + 1, s + ml, by omega, hs2, by go_num, by go_num, HNX, trivial⟩
      case measure => simp [intOf]; omega
    · have hkn : k = n := by omega
      subst hkn
      go_wp2_with fail
      refine (growB0 s _ hs).mono ?_; rintro e w1 ⟨v, rfl, ho, hb⟩
      have HO := Lib.hid ho
      have HB := Lib.hid hb
      clear ho hb
      go_wp2_with fail
      go_loopw [6, 27] (fun v i wr => ∃ j m : Nat, j ≤ k ∧ i = .int .i64 j ∧ Hid ((catB M j).length = m) ∧ Hid (wr.ownsRow w.heap.size 5 1 v m (bc (catB M j))) ∧ Hid (Below w.heap.size w wr)) (fun _ i _ => k - (intOf i).toNat)
      case atStart => exact ⟨0, 0, Nat.zero_le _, rfl, rfl, HO, HB⟩
      case round =>
        obtain ⟨j, q, hj, rfl, hm, ho, hbw⟩ := hrel
        by_cases hlt : j < k
        · obtain ⟨b, o, ai, ci, rfl, hbl, c0, hrow, hnil⟩ := (HR.out.below hbw.out).at j hlt
          obtain ⟨m, hmj⟩ : ∃ m, M.getD j [] = m := ⟨_, rfl⟩
          have hm9 := catB_next (M := M) (k := j) (by rw [HL.out]; exact hlt)
          rw [hmj] at c0 hrow hnil hm9
          obtain ⟨ml, hml⟩ : ∃ x, m.length = x := ⟨_, rfl⟩
          rw [hml] at c0 hrow hnil
          have hnx := hm9
          have hle := catB_le M (j + 1)
          have hsl := hm.out
          rw [hnx, List.length_append, hsl, hml] at hle
          have HNX := Lib.hid hnx
          have HML := Lib.hid hml
          have HROW := Lib.hid hrow
          have HNIL := Lib.hid hnil
          have hqb : q + ml ≤ 1000000 := by omega
          clear hmj hml hrow hnil hnx hle hsl hm9
          go_wp2_with (at_builtin; refine append_cells rfl _ _ 25 5 rfl i0 (.int .u8 0) 1 Try.underlying25 hi hz0 hz1 hz2 rfl w.heap.size _ q _ rfl ho.out ai ml ci (bc m) rfl HNIL.out HROW.out (bc_oneCell m) hqb (by decide) hbw.out.size ?_)
          intro v' w3 hown' hgrow'
          have HO3 := Lib.hid hown'
          have HB3 := Lib.hid (hbw.out.grown hgrow' hbw.out.size (fun k hk => (ho.out.lt k hk).1))
          clear hown' hgrow'
          go_wp2
          go_roundw
          case rel => exact ⟨j + 1, q + ml, by omega, by go_num, Lib.hid (by rw [HNX.out, List.length_append, hm.out, HML.out]), Lib.hid (by rw [HNX.out, bc_append]; exact HO3.out), HB3⟩
          case measure => simp [intOf]; omega
        · have hkj : j = k := by omega
          subst hkj
          have HF := Lib.hid (show wr.ownsRow w.heap.size 5 1 u6 M.flatten.length (bc M.flatten) by
            have h1 := ho.out
            have h2 := hm.out
            rw [catB_all HL.out] at h1 h2
            rw [h2]; exact h1)
          clear ho hm
          go_wp2
          go_ret
          exact ⟨_, rfl, HF.out, hbw.out⟩
end Go.Proofs.Ytocfphijheidbaa
