/- The contract of few (chapter 2's statements), over this seat's translation. -/
import Derived.Test.YtngncdmmlkcekaaTx
import Derived.WalkLawsBesides
namespace Go.Proofs.Ytngncdmmlkcekaa
open Go.RowKit

set_option maxRecDepth 100000 in
theorem few_any (a : Option Addr) (len cap : Nat) (l : List ByteArray) (w : World) (h : RowS w a len l) (hlen : len ≤ 9223372036854775807) (hsz : ∀ k, k < len → (tx l k).size ≤ 9223372036854775807) :
    Calls Try.prog 16 #[.slice a len cap] w fun e w' => (e = .returned (.bool false) ∨ e = .returned (.bool true) ∧ len ≤ 60 ∧ ∀ j, j < len → (tx l j).size ≤ 2000) ∧ w = w' := by
  have HR := Lib.hid h
  have HSZ := Lib.hid hsz
  clear h hsz
  go_enter Try.func16, Try.ntmps16
  go_wp2
  go_loop [3, 4] (fun n i => ∃ k S : Nat, k ≤ len ∧ k ≤ 60 ∧ S ≤ 2000 ∧ n = .int .i64 S ∧ i = .int .i64 k ∧ Hid (∀ j, j < k → (tx l j).size ≤ 2000)) (fun _ i => len - (intOf i).toNat)
  case atStart => exact ⟨0, 0, Nat.zero_le _, Nat.zero_le _, Nat.zero_le _, rfl, rfl, fun j hj => absurd hj (by omega)⟩
  case round =>
    obtain ⟨k, S, hk, hk60, hS, rfl, rfl, hall⟩ := hrel
    by_cases hlt : k < len ∧ k < 60
    · obtain ⟨l1, l2⟩ := hlt
      rcases HR.out.2 with h9 | ⟨b, o, rfl, hbl, hc⟩
      · omega
      obtain ⟨s, hs⟩ : ∃ s, tx l k = s := ⟨_, rfl⟩
      have hcell : w.cell? ⟨b, o + k, none⟩ = some (.string s) := by rw [← hs]; exact hc k l1
      have hs6 := HSZ.out k l1
      rw [hs] at hs6
      have HS := Lib.hid hs
      have d2 := dT (p := (k : Int) < 60) (by omega)
      clear hc hs
      by_cases c : s.size ≤ 2000
      · have HA := Lib.hid (show ∀ j, j < k + 1 → (tx l j).size ≤ 2000 by
          intro j hj
          by_cases e : j = k
          · subst e; rw [HS.out]; exact c
          · exact hall.out j (by omega))
        by_cases c2 : S + s.size ≤ 2000
        · have d3 := dF (p := (2000 : Int) < (S : Int) + (s.size : Int)) (by omega)
          go_wp2
          go_round
          case rel => exact ⟨k + 1, S + s.size, by omega, by omega, c2, by go_num, by go_num, HA.out⟩
          case measure => simp [intOf]; omega
        · have d3 := dT (p := (2000 : Int) < (S : Int) + (s.size : Int)) (by omega)
          go_wp2
          go_ret
          exact ⟨by first | exact Or.inl rfl | rfl, rfl⟩
      · have d3 := dT (p := (2000 : Int) < (S : Int) + (if (2001 : Int) < (s.size : Int) then 2001 else (s.size : Int))) (by split <;> omega)
        go_wp2
        all_goals
          go_ret
          exact ⟨by first | exact Or.inl rfl | rfl, rfl⟩
    · have hd : decide (k < len) = false ∨ decide (k < len) = true ∧ decide ((k : Int) < 60) = false := by
        simp only [decide_eq_true_eq, decide_eq_false_iff_not]; omega
      by_cases h6 : len ≤ 60
      · have e6 := dT (p := (len : Int) ≤ 60) (by omega)
        have hk9 : k = len := by omega
        rcases hd with d1 | ⟨d1, d2⟩
        all_goals
          go_wp2
          go_ret
          exact ⟨by first | exact Or.inr ⟨rfl, h6, fun j hj => hall.out j (by omega)⟩ | exact Or.inr ⟨rfl, fun j hj => hall.out j (by omega)⟩, rfl⟩
      · have e6 := dF (p := (len : Int) ≤ 60) (by omega)
        rcases hd with d1 | ⟨d1, d2⟩
        all_goals
          go_wp2
          go_ret
          exact ⟨by first | exact Or.inl rfl | rfl, rfl⟩
end Go.Proofs.Ytngncdmmlkcekaa
