/- The law's few; the document's All: contracts. -/
import Derived.Test.YtocfphijheidbaaShJ
namespace Go.Proofs.Ytocfphijheidbaa
open Go.RowKit

def flatN (M : List (List UInt8)) : Nat := M.flatten.length
theorem flat_len_next {M : List (List UInt8)} {k : Nat} (hk : k < M.length) : (M.take (k + 1)).flatten.length = (M.take k).flatten.length + (M.getD k []).length := by
  rw [flat_next hk, List.length_append]
set_option maxRecDepth 100000 in
theorem few8_any (a : Option Addr) (n c : Nat) (M : List (List UInt8)) (w : World) (h : RowBB w a n M) (hlen : n ≤ 9223372036854775807) (hsz : ∀ k, k < n → (M.getD k []).length ≤ 9223372036854775807) :
    Calls Try.prog 13 #[.slice a n c] w fun e w' => (e = .returned (.bool false) ∨ e = .returned (.bool true) ∧ n ≤ 50 ∧ flatN M ≤ 3000) ∧ w = w' := by
  have HR := Lib.hid h
  have hML : M.length = n := by obtain ⟨_, _, h2, _⟩ := h; exact h2
  have HML := Lib.hid hML
  have HSZ := Lib.hid hsz
  clear h hsz hML
  go_enter Try.func13, Try.ntmps13
  go_wp2
  go_loop [3, 4] (fun n' i => ∃ k S : Nat, k ≤ n ∧ k ≤ 50 ∧ S ≤ 3000 ∧ n' = .int .i64 S ∧ i = .int .i64 k ∧ Hid (S = (M.take k).flatten.length)) (fun _ i => n - (intOf i).toNat)
  case atStart => exact ⟨0, 0, Nat.zero_le _, Nat.zero_le _, Nat.zero_le _, rfl, rfl, rfl⟩
  case round =>
    obtain ⟨k, S, hk, hk60, hS, rfl, rfl, hall⟩ := hrel
    by_cases hlt : k < n ∧ k < 50
    · obtain ⟨l1, l2⟩ := hlt
      obtain ⟨b1, o1, ai, ci, rfl, hbl1, c1, r1, n1⟩ := HR.out.at k l1
      have hst := flat_len_next (M := M) (k := k) (by rw [HML.out]; exact l1)
      have hs6 := HSZ.out k l1
      obtain ⟨s, hs⟩ : ∃ s, (M.getD k []).length = s := ⟨_, rfl⟩
      rw [hs] at c1 hs6 hst
      rw [← hall.out] at hst
      have HST := Lib.hid hst
      have d2 := dT (p := (k : Int) < 50) (by omega)
      clear r1 n1 hs hst
      by_cases c2 : 3001 < s
      · have d4 := dT (p := (3001 : Int) < (s : Int)) (by omega)
        have d3 := dT (p := (3000 : Int) < (S : Int) + 3001) (by omega)
        go_wp2
        go_ret
        exact ⟨by first | exact Or.inl rfl | rfl, rfl⟩
      · have d4 := dF (p := (3001 : Int) < (s : Int)) (by omega)
        by_cases c : S + s ≤ 3000
        · have d3 := dF (p := (3000 : Int) < (S : Int) + (s : Int)) (by omega)
          go_wp2
          go_round
          case rel => exact ⟨k + 1, S + s, by omega, by omega, c, by go_num, by go_num, HST.out.symm⟩
          case measure => simp [intOf]; omega
        · have d3 := dT (p := (3000 : Int) < (S : Int) + (s : Int)) (by omega)
          go_wp2
          go_ret
          exact ⟨by first | exact Or.inl rfl | rfl, rfl⟩
    · have hd : decide (k < n) = false ∨ decide (k < n) = true ∧ decide ((k : Int) < 50) = false := by
        simp only [decide_eq_true_eq, decide_eq_false_iff_not]; omega
      by_cases h6 : n ≤ 50
      · have e6 := dT (p := (n : Int) ≤ 50) (by omega)
        have hk9 : k = n := by omega
        have HC := Lib.hid (show flatN M ≤ 3000 by
          unfold flatN
          have h1 := hall.out
          rw [hk9, ← HML.out, List.take_length] at h1
          omega)
        rcases hd with d1 | ⟨d1, d2⟩
        all_goals
          go_wp2
          go_ret
          exact ⟨by first | exact Or.inr ⟨rfl, h6, HC.out⟩ | exact Or.inr ⟨rfl, HC.out⟩, rfl⟩
      · have e6 := dF (p := (n : Int) ≤ 50) (by omega)
        rcases hd with d1 | ⟨d1, d2⟩
        all_goals
          go_wp2
          go_ret
          exact ⟨by first | exact Or.inl rfl | rfl, rfl⟩

set_option maxRecDepth 100000 in
set_option maxHeartbeats 1600000 in
theorem all_any8 (a : Option Addr) (n c : Nat) (M : List (List UInt8)) (w : World) (h : RowBB w a n M) (hn : n ≤ 1000) (hsum : M.flatten.length ≤ 100000) :
    Calls Try.prog 14 #[.slice a n c] w fun e w' => ∃ v, e = .returned v ∧ w'.ownsRow w.heap.size 5 1 v M.flatten.length (bc M.flatten) ∧ Below w.heap.size w w' := by
  obtain ⟨i0, hi, hz0, hz1, hz2⟩ := info_parts infoU8
  have HR := Lib.hid h
  have HL := Lib.hid h.choose_spec.2.1
  have HI := Lib.hid hi
  have HZ0 := Lib.hid hz0
  have HZ1 := Lib.hid hz1
  have HZ2 := Lib.hid hz2
  clear h hi hz0 hz1 hz2
  go_enter Try.func14, Try.ntmps14
  go_wp2_with fail
  go_loopw [3, 4] (fun v i wr => ∃ j m : Nat, j ≤ n ∧ i = .int .i64 j ∧ Hid ((catB M j).length = m) ∧ Hid (wr.ownsRow w.heap.size 5 1 v m (bc (catB M j))) ∧ Hid (Below w.heap.size w wr)) (fun _ i _ => n - (intOf i).toNat)
  case atStart => exact ⟨0, 0, Nat.zero_le _, rfl, rfl, World.ownsRow_nil _ _ _ _, Below.refl _ _⟩
  case round =>
    obtain ⟨j, q, hj, rfl, hm, ho, hbw⟩ := hrel
    obtain ⟨va, vc, rfl⟩ := own_shape ho.out
    by_cases hlt : j < n
    · obtain ⟨b, o, ai, ci, rfl, hbl, c0, hrow, hnil⟩ := (HR.out.below hbw.out).at j hlt
      obtain ⟨m, hmj⟩ : ∃ m, M.getD j [] = m := ⟨_, rfl⟩
      have hm9 := catB_next (M := M) (k := j) (by rw [HL.out]; exact hlt)
      rw [hmj] at c0 hrow hnil hm9
      obtain ⟨ml, hml⟩ : ∃ x, m.length = x := ⟨_, rfl⟩
      rw [hml] at c0 hrow hnil
      have hnx := hm9
      have hle := catB_le M (j + 1)
      have hsl := hm.out
      rw [hnx, List.length_append, hsl, hml] at hle
      have HNX := Lib.hid hnx
      have HML := Lib.hid hml
      have HROW := Lib.hid hrow
      have HNIL := Lib.hid hnil
      have hqb : q + ml ≤ 1000000 := by omega
      clear hmj hml hrow hnil hnx hle hsl hm9
      go_wp2_with (at_builtin; refine append_cells rfl _ _ 25 5 rfl i0 (.int .u8 0) 1 Try.underlying25 HI.out HZ0.out HZ1.out HZ2.out rfl w.heap.size _ q _ rfl ho.out ai ml ci (bc m) rfl HNIL.out HROW.out (bc_oneCell m) hqb (by decide) hbw.out.size ?_)
      intro v' w3 hown' hgrow'
      have HO3 := Lib.hid hown'
      have HB3 := Lib.hid (hbw.out.grown hgrow' hbw.out.size (fun k hk => (ho.out.lt k hk).1))
      clear hown' hgrow'
      go_wp2
      go_roundw
      case rel => exact ⟨j + 1, q + ml, by omega, by go_num, Lib.hid (by rw [HNX.out, List.length_append, hm.out, HML.out]), Lib.hid (by rw [HNX.out, bc_append]; exact HO3.out), HB3⟩
      case measure => simp [intOf]; omega
    · have hkj : j = n := by omega
      subst hkj
      have HF := Lib.hid (show wr.ownsRow w.heap.size 5 1 (.slice va q vc) M.flatten.length (bc M.flatten) by
        have h1 := ho.out
        have h2 := hm.out
        rw [catB_all HL.out] at h1 h2
        rw [h2]; exact h1)
      clear ho hm
      go_wp2
      go_ret
      exact ⟨_, rfl, HF.out, hbw.out⟩
end Go.Proofs.Ytocfphijheidbaa
