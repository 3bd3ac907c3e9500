/- FewSets: rows of sets that are few and small. -/
import Derived.Test.YtgdbbdbfaglkdaaSkC
namespace Go.Proofs.Ytgdbbdbfaglkdaa
open Go.RowKit

def ssD : SetP := ⟨⟨ByteArray.empty, 0, 0⟩, 0, []⟩
/-- A set at five cells. -/
def SetAt (w : World) (b o : Nat) (s : SetP) (p : Option Addr) (c : Nat) : Prop := w.cell? ⟨b, o, none⟩ = some (.string s.k.n) ∧ w.cell? ⟨b, o + 1, none⟩ = some (.int .i64 s.k.t) ∧ w.cell? ⟨b, o + 2, none⟩ = some (.int .i64 s.k.c) ∧ w.cell? ⟨b, o + 3, none⟩ = some (.int .i64 s.ttl) ∧ w.cell? ⟨b, o + 4, none⟩ = some (.slice p s.data.length c) ∧ RowS w p s.data.length s.data ∧ (p = none → s.data.length = 0 ∧ c = 0)
/-- A row of sets. -/
def SetsAt (w : World) (a : Option Addr) (n : Nat) (L : List SetP) : Prop := L.length = n ∧ (n = 0 ∨ ∃ b off, a = some ⟨b, off, none⟩ ∧ b < w.heap.size ∧ ∀ k, k < n → ∃ p c, SetAt w b (off + k * 5) (L.getD k ssD) p c)
theorem SetAt.below {w w' : World} {b o : Nat} {s : SetP} {p : Option Addr} {c : Nat} (h : SetAt w b o s p c) (hlt : b < w.heap.size) (hb : Below w.heap.size w w') : SetAt w' b o s p c := by
  obtain ⟨h0, h1, h2, h3, h4, h5, h6⟩ := h
  exact ⟨(hb.cell hlt).trans h0, (hb.cell hlt).trans h1, (hb.cell hlt).trans h2, (hb.cell hlt).trans h3, (hb.cell hlt).trans h4, h5.below hb, h6⟩
theorem SetsAt.below {w w' : World} {a : Option Addr} {n : Nat} {L : List SetP} (h : SetsAt w a n L) (hb : Below w.heap.size w w') : SetsAt w' a n L := by
  refine ⟨h.1, ?_⟩
  rcases h.2 with h0 | ⟨b, off, rfl, hlt, hc⟩
  · exact Or.inl h0
  · exact Or.inr ⟨b, off, rfl, Nat.lt_of_lt_of_le hlt hb.size, fun k hk => by
      obtain ⟨p, c, h⟩ := hc k hk
      exact ⟨p, c, h.below hlt hb⟩⟩
/-- Small. -/
def SmS (s : SetP) : Prop := s.k.n.size ≤ 60000 ∧ s.data.length ≤ 200 ∧ ∀ j, j < s.data.length → (s.data.getD j ByteArray.empty).size ≤ 60000
/-- Sizes that may be. -/
def SzS (s : SetP) : Prop := s.k.n.size ≤ 9223372036854775807 ∧ s.data.length ≤ 9223372036854775807 ∧ ∀ j, j < s.data.length → (s.data.getD j ByteArray.empty).size ≤ 9223372036854775807
theorem min60 (s : ByteArray) : ∃ v : Nat, min (s.size : Int) 60001 = (v : Int) ∧ v ≤ 60001 ∧ (v ≤ 60000 → s.size ≤ 60000) := by
  by_cases h : 60001 < s.size
  · exact ⟨60001, by omega, Nat.le_refl _, fun h => by omega⟩
  · exact ⟨s.size, by omega, by omega, fun h => h⟩

set_option maxRecDepth 100000 in
set_option maxHeartbeats 1600000 in
theorem fewSets_any (a : Option Addr) (len cap : Nat) (L : List SetP) (w : World) (h : SetsAt w a len L) (hlen : len ≤ 9223372036854775807) (hsz : ∀ k, k < len → SzS (L.getD k ssD)) :
    Calls Try.prog 40 #[.slice a len cap] w fun e w' => (e = .returned (.bool false) ∨ e = .returned (.bool true) ∧ len ≤ 100 ∧ ∀ j, j < len → SmS (L.getD j ssD)) ∧ w = w' := by
  have HR := Lib.hid h
  have HSZ := Lib.hid hsz
  clear h hsz
  go_enter Try.func40, Try.ntmps40
  go_wp2
  go_loop [3, 4] (fun n i => ∃ k S : Nat, k ≤ len ∧ k ≤ 100 ∧ S ≤ 60000 ∧ n = .int .i64 S ∧ i = .int .i64 k ∧ Hid (∀ j, j < k → SmS (L.getD j ssD))) (fun _ i => len - (intOf i).toNat)
  case atStart => exact ⟨0, 0, Nat.zero_le _, Nat.zero_le _, Nat.zero_le _, rfl, rfl, fun j hj => absurd hj (by omega)⟩
  case round =>
    obtain ⟨k, S, hk, hk60, hS, rfl, rfl, hall⟩ := hrel
    by_cases hlt : k < len ∧ k < 100
    · obtain ⟨l1, l2⟩ := hlt
      rcases HR.out.2 with h9 | ⟨b, o, rfl, hbl, hc⟩
      · omega
      obtain ⟨p, c, hs⟩ := hc k l1
      have hz := HSZ.out k l1
      obtain ⟨s, hss⟩ : ∃ s, L.getD k ssD = s := ⟨_, rfl⟩
      rw [hss] at hs hz
      have HS := Lib.hid hss
      clear hc hss
      obtain ⟨⟨sn, st, sc1⟩, su, sd⟩ := s
      obtain ⟨dl, hdl⟩ : ∃ x, sd.length = x := ⟨_, rfl⟩
      obtain ⟨c0, -, -, -, c4, hrow, -⟩ := hs
      replace c0 : w.cell? ⟨b, o + k * 5, none⟩ = some (.string sn) := c0
      replace c4 : w.cell? ⟨b, o + k * 5 + 4, none⟩ = some (.slice p sd.length c) := c4
      replace hrow : RowS w p sd.length sd := hrow
      obtain ⟨z1, z2, z3⟩ := hz
      replace z1 : sn.size ≤ 9223372036854775807 := z1
      replace z2 : sd.length ≤ 9223372036854775807 := z2
      replace z3 : ∀ j, j < sd.length → (sd.getD j ByteArray.empty).size ≤ 9223372036854775807 := z3
      rw [hdl] at c4 hrow z2 z3
      have HDL := Lib.hid hdl
      have HROW := Lib.hid hrow
      have HZ3 := Lib.hid z3
      obtain ⟨v, hv, hv1, hv2⟩ := min60 sn
      have HV2 := Lib.hid hv2
      clear hdl hrow z3 hv2
      go_wp2
      go_loop [3, 5] (fun n j => ∃ q S2 : Nat, q ≤ dl ∧ q ≤ 200 ∧ S2 ≤ 120001 + q * 60002 ∧ n = .int .i64 S2 ∧ j = .int .i64 q ∧ Hid (S2 ≤ 60000 → sn.size ≤ 60000 ∧ ∀ i, i < q → (sd.getD i ByteArray.empty).size ≤ 60000)) (fun _ j => dl - (intOf j).toNat)
      case atStart => exact ⟨0, S + v, Nat.zero_le _, Nat.zero_le _, by omega, by first | rfl | go_num, rfl, fun h => ⟨HV2.out (by omega), fun i hi => absurd hi (by omega)⟩⟩
      case round =>
        obtain ⟨q, S2, hq, hq2, hS2, rfl, rfl, hin⟩ := hrel
        by_cases hlt : q < dl ∧ q < 200
        · obtain ⟨m1, m2⟩ := hlt
          rcases HROW.out.2 with h9 | ⟨b2, o2, rfl, hbl2, hc⟩
          · omega
          have e0 := hc q m1
          have y0 := HZ3.out q m1
          obtain ⟨d, hd⟩ : ∃ d, sd.getD q ByteArray.empty = d := ⟨_, rfl⟩
          rw [hd] at e0 y0
          have HD := Lib.hid hd
          obtain ⟨u, hu, hu1, hu2⟩ := min60 d
          have HU2 := Lib.hid hu2
          clear hc hd hu2 hv
          go_wp2
          go_round
          case rel => exact ⟨q + 1, S2 + u + 1, by omega, by omega, by omega, by go_num, by go_num, fun h => ⟨(hin.out (by omega)).1, fun i hi => by
            by_cases e : i = q
            · subst e; rw [HD.out]; exact HU2.out (by omega)
            · exact (hin.out (by omega)).2 i (by omega)⟩⟩
          case measure => simp [intOf]; omega
        · have hd : decide (q < dl) = false ∨ decide (q < dl) = true ∧ decide ((q : Int) < 200) = false := by
            simp only [decide_eq_true_eq, decide_eq_false_iff_not]; omega
          clear hv
          by_cases hov : 60000 < S2
          · have d5 := dT (p := (60000 : Int) < (S2 : Int)) (by omega)
            rcases hd with d1 | ⟨d1, d2⟩
            all_goals
              go_wp2
              go_ret
              exact ⟨by first | exact Or.inl rfl | rfl, rfl⟩
          · have d5 := dF (p := (60000 : Int) < (S2 : Int)) (by omega)
            by_cases hdl2 : 200 < dl
            · have d6 := dT (p := (200 : Int) < (dl : Int)) (by omega)
              rcases hd with d1 | ⟨d1, d2⟩
              all_goals
                go_wp2
                go_ret
                exact ⟨by first | exact Or.inl rfl | rfl, rfl⟩
            · have d6 := dF (p := (200 : Int) < (dl : Int)) (by omega)
              have hqd : q = dl := by omega
              have HN := Lib.hid (show ∀ j, j < k + 1 → SmS (L.getD j ssD) from fun j hj => by
                by_cases e : j = k
                · subst e
                  rw [HS.out]
                  have h2 := hin.out (by omega)
                  refine ⟨h2.1, ?_, fun i hi => h2.2 i ?_⟩
                  · show sd.length ≤ 200
                    rw [HDL.out]; omega
                  · have hi : i < sd.length := hi
                    rw [HDL.out] at hi; omega
                · exact hall.out j (by omega))
              rcases hd with d1 | ⟨d1, d2⟩
              all_goals
                go_wp2
                go_round
                case rel => exact ⟨k + 1, S2, by omega, by omega, by omega, by first | rfl | go_num, by go_num, HN.out⟩
                case measure => simp [intOf]; omega
    · have hd : decide (k < len) = false ∨ decide (k < len) = true ∧ decide ((k : Int) < 100) = false := by
        simp only [decide_eq_true_eq, decide_eq_false_iff_not]; omega
      by_cases h6 : len ≤ 100
      · have e6 := dT (p := (len : Int) ≤ 100) (by omega)
        have hk9 : k = len := by omega
        rcases hd with d1 | ⟨d1, d2⟩
        all_goals
          go_wp2
          go_ret
          exact ⟨by first | exact Or.inr ⟨rfl, h6, fun j hj => hall.out j (by omega)⟩ | exact Or.inr ⟨rfl, fun j hj => hall.out j (by omega)⟩, rfl⟩
      · have e6 := dF (p := (len : Int) ≤ 100) (by omega)
        rcases hd with d1 | ⟨d1, d2⟩
        all_goals
          go_wp2
          go_ret
          exact ⟨by first | exact Or.inl rfl | rfl, rfl⟩
end Go.Proofs.Ytgdbbdbfaglkdaa
