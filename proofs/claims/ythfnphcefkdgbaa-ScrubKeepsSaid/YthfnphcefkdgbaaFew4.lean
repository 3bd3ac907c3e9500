/- Few: are records few and small? -/
import Derived.Test.YthfnphcefkdgbaaMgE
namespace Go.Proofs.Ythfnphcefkdgbaa
open Go.RowKit

/-- Small records. -/
def SmR (r : R5) : Prop := r.k.n.size ≤ 60000 ∧ r.d.size ≤ 60000
def SzR (r : R5) : Prop := r.k.n.size ≤ 9223372036854775807 ∧ r.d.size ≤ 9223372036854775807

set_option maxRecDepth 100000 in
set_option maxHeartbeats 1600000 in
theorem few4 (a : Option Addr) (len cap : Nat) (l : List R5) (w : World) (h : RowR w a len l) (hlen : len ≤ 9223372036854775807) (hsz : ∀ r ∈ l, SzR r) :
    Calls Try.prog 39 #[.slice a len cap] w fun e w' => (e = .returned (.bool false) ∨ e = .returned (.bool true) ∧ len ≤ 400 ∧ ∀ r ∈ l, SmR r) ∧ ∃ m, w' = w.drewN m := by
  have HR := Lib.hid h
  have HSZ := Lib.hid hsz
  have HL := Lib.hid h.1
  clear h hsz
  go_enter Try.func39, Try.ntmps39
  go_wp2
  go_loopw [3, 4] (fun n i wr => ∃ k S m : Nat, k ≤ len ∧ k ≤ 400 ∧ S ≤ 60000 ∧ n = .int .i64 S ∧ i = .int .i64 k ∧ Hid (∀ r ∈ l.take k, SmR r) ∧ wr = w.drewN m) (fun _ i _ => len - (intOf i).toNat)
  case atStart => exact ⟨0, 0, 0, Nat.zero_le _, Nat.zero_le _, Nat.zero_le _, rfl, rfl, (fun r hr => by simp at hr), rfl⟩
  case round =>
    obtain ⟨k, S, m, hk, hk60, hS, rfl, rfl, hall, rfl⟩ := hrel
    by_cases hlt : k < len ∧ k < 400
    · obtain ⟨l1, l2⟩ := hlt
      obtain ⟨b, o, r, rfl, hbl, hr, c0, c1, c2, c3, c4⟩ := HR.out.at k l1
      have hz := HSZ.out r (List.mem_of_getElem? hr)
      obtain ⟨⟨rn, rt, rc⟩, ru, rd⟩ := r
      replace c0 : w.cell? ⟨b, o + k * 5, none⟩ = some (.string rn) := c0
      replace c4 : w.cell? ⟨b, o + k * 5 + 4, none⟩ = some (.string rd) := c4
      have z1 : rn.size ≤ 9223372036854775807 := hz.1
      have z2 : rd.size ≤ 9223372036854775807 := hz.2
      obtain ⟨v, hv, hv1, hv2⟩ := min60 rn
      obtain ⟨u, hu, hu1, hu2⟩ := min60 rd
      have HV2 := Lib.hid hv2
      have HU2 := Lib.hid hu2
      have HN := Lib.hid (show S + v + u ≤ 60000 → ∀ r ∈ l.take (k + 1), SmR r from fun h r hr2 => by
        rw [List.take_succ_eq_append_getElem (by have := HL.out; omega)] at hr2
        rcases List.mem_append.1 hr2 with h1 | h1
        · exact hall.out r h1
        · obtain rfl := List.mem_singleton.1 h1
          have hkl : k < l.length := by have := HL.out; omega
          have h2 : l[k]? = some (l[k]'hkl) := List.getElem?_eq_getElem hkl
          rw [hr] at h2
          rw [← Option.some.inj h2]
          exact ⟨HV2.out (by omega), HU2.out (by omega)⟩)
      clear c1 c2 c3 hr hz hv2 hu2
      have i1 : (0 : Int) ≤ (k : Int) := by omega
      have i2 : (k : Int) < (len : Int) := by omega
      by_cases hov : 60000 < S + v + u
      · have d5 := dT (p := (60000 : Int) < (S : Int) + (v : Int) + (u : Int)) (by omega)
        go_wp2_with fail
        go_quiet (fail)
        go_wp2
        go_ret
        rename_i nq
        exact ⟨Or.inl rfl, ⟨m + nq, by first | rfl | exact drewN_add _ _ _⟩⟩
      · have d5 := dF (p := (60000 : Int) < (S : Int) + (v : Int) + (u : Int)) (by omega)
        go_wp2_with fail
        go_quiet (fail)
        go_wp2
        rename_i nq
        go_roundw
        case rel => exact ⟨k + 1, S + v + u, m + nq, by omega, by omega, by omega, by go_num, by go_num, HN.out (by omega), by first | rfl | exact drewN_add _ _ _⟩
        case measure => simp [intOf]; omega
    · have hd : decide (k < len) = false ∨ decide (k < len) = true ∧ decide ((k : Int) < 400) = false := by
        simp only [decide_eq_true_eq, decide_eq_false_iff_not]; omega
      by_cases h6 : len ≤ 400
      · have e6 := dT (p := (len : Int) ≤ 400) (by omega)
        have HF := Lib.hid (show ∀ r ∈ l, SmR r from fun r hr => by
          have h1 := hall.out r
          rw [show k = len by omega, ← HL.out, List.take_length] at h1
          exact h1 hr)
        rcases hd with d1 | ⟨d1, d2⟩
        all_goals
          go_wp2
          go_ret
          exact ⟨by first | exact Or.inr ⟨rfl, h6, HF.out⟩ | exact Or.inr ⟨rfl, HF.out⟩, ⟨m, rfl⟩⟩
      · have e6 := dF (p := (len : Int) ≤ 400) (by omega)
        rcases hd with d1 | ⟨d1, d2⟩
        all_goals
          go_wp2
          go_ret
          exact ⟨by first | exact Or.inl rfl | rfl, ⟨m, rfl⟩⟩
end Go.Proofs.Ythfnphcefkdgbaa
