/- Rows of the statement's operations; bytes compared; Few. -/
import Derived.Test.YtocfphijheidbaaDkR
namespace Go.Proofs.Ytocfphijheidbaa
open Go.RowKit

theorem bytes_any (a b : Option Addr) (n m c d : Nat) (l k : List UInt8) (w : World) (ha : RowB w a n l) (hb : RowB w b m k) (na : a = none → n = 0 ∧ c = 0) (nb : b = none → m = 0 ∧ d = 0) :
    Calls Try.prog 16 #[.slice a n c, .slice b m d] w fun e w' => e = .returned (.bool (l == k)) ∧ w = w' := by
  have h1 := conv_row (cap := c) ha na
  have h2 := conv_row (cap := d) hb nb
  have h3 : ((bs l).toList == (bs k).toList) = (l == k) := by rw [bs_toList, bs_toList]
  obtain ⟨s, hs⟩ : ∃ s, bs l = s := ⟨_, rfl⟩
  obtain ⟨t, ht⟩ : ∃ s, bs k = s := ⟨_, rfl⟩
  obtain ⟨x, hx⟩ : ∃ x, (l == k) = x := ⟨_, rfl⟩
  rw [hs] at h1 h3
  rw [ht] at h2 h3
  rw [hx] at h3 ⊢
  clear ha hb na nb hs ht hx
  cases x
  all_goals
    go_enter Try.func16, Try.ntmps16
    go_wp2
    go_ret
    exact ⟨rfl, rfl⟩
structure OpP where
  kind : Int
  k : Int
  n : Int
  b : List UInt8
def opD : OpP := ⟨0, 0, 0, []⟩
def OpAt (w : World) (b off j : Nat) (o : OpP) : Prop := ∃ ai ci, w.cell? ⟨b, off + j * 4, none⟩ = some (.int .i64 o.kind) ∧ w.cell? ⟨b, off + j * 4 + 1, none⟩ = some (.int .i64 o.k) ∧ w.cell? ⟨b, off + j * 4 + 2, none⟩ = some (.int .i64 o.n) ∧ w.cell? ⟨b, off + j * 4 + 3, none⟩ = some (.slice ai o.b.length ci) ∧ ValC w (.slice ai o.b.length ci) o.b ∧ (o.b.length ≤ 9223372036854775807 ∧ o.k ≤ 9223372036854775807)
def RowOp (w : World) (a : Option Addr) (n : Nat) (L : List OpP) : Prop := L.length = n ∧ (n = 0 ∨ ∃ b off, a = some ⟨b, off, none⟩ ∧ b < w.heap.size ∧ ∀ j, j < n → OpAt w b off j (L.getD j opD))
theorem OpAt.below {w w' : World} {b off j : Nat} {o : OpP} (h : OpAt w b off j o) (hb : Below w.heap.size w w') : OpAt w' b off j o := by
  obtain ⟨ai, ci, h0, h1, h2, h3, h4, h5⟩ := h
  exact ⟨ai, ci, cell_later hb h0, cell_later hb h1, cell_later hb h2, cell_later hb h3, h4.below hb, h5⟩
theorem RowOp.below {w w' : World} {a : Option Addr} {n : Nat} {L : List OpP} (h : RowOp w a n L) (hb : Below w.heap.size w w') : RowOp w' a n L := by
  refine ⟨h.1, h.2.imp id ?_⟩
  rintro ⟨b, off, e, hlt, hc⟩
  exact ⟨b, off, e, Nat.lt_of_lt_of_le hlt hb.size, fun j hj => (hc j hj).below hb⟩
theorem RowOp.at {w : World} {a : Option Addr} {n : Nat} {L : List OpP} (h : RowOp w a n L) (j : Nat) (hj : j < n) : ∃ b off, a = some ⟨b, off, none⟩ ∧ OpAt w b off j (L.getD j opD) := by
  rcases h.2 with h0 | ⟨b, off, e, _, hc⟩
  · omega
  · exact ⟨b, off, e, hc j hj⟩
def sumB (L : List OpP) : Nat → Nat
  | 0 => 0
  | i + 1 => sumB L i + (L.getD i opD).b.length
theorem sumB_le (L : List OpP) : ∀ (i j : Nat), i < j → (L.getD i opD).b.length + sumB L i ≤ sumB L j
  | i, 0, h => by omega
  | i, j + 1, h => by
    rw [sumB]
    by_cases e : i = j
    · subst e; omega
    · have := sumB_le L i j (by omega); omega
set_option maxRecDepth 100000 in
theorem few13 (a : Option Addr) (n c : Nat) (L : List OpP) (w : World) (h : RowOp w a n L) (hn : n ≤ 9223372036854775807) :
    Calls Try.prog 24 #[.slice a n c] w fun e w' => (e = .returned (.bool false) ∨ e = .returned (.bool true) ∧ n ≤ 150 ∧ sumB L n ≤ 30000) ∧ w = w' := by
  have HR := Lib.hid h
  clear h
  go_enter Try.func24, Try.ntmps24
  go_wp2_with fail
  go_loopw [3, 4] (fun v i wr => ∃ k S : Nat, k ≤ n ∧ k ≤ 150 ∧ S ≤ 30000 ∧ v = .int .i64 S ∧ i = .int .i64 k ∧ Hid (S = sumB L k) ∧ wr = w) (fun _ i _ => n - (intOf i).toNat)
  case atStart => exact ⟨0, 0, Nat.zero_le _, Nat.zero_le _, Nat.zero_le _, rfl, rfl, Lib.hid rfl, rfl⟩
  case round =>
    obtain ⟨k, S, hk, hk60, hS, rfl, rfl, HS, rfl⟩ := hrel
    by_cases hlt : k < n ∧ k < 150
    · obtain ⟨l1, l2⟩ := hlt
      obtain ⟨b, off, rfl, ai, ci, -, -, -, c3, -, z3, -⟩ := HR.out.at k l1
      obtain ⟨m, hm⟩ : ∃ z, (L.getD k opD).b.length = z := ⟨_, rfl⟩
      rw [hm] at c3 z3
      have HM := Lib.hid hm
      obtain ⟨v, hv⟩ : ∃ v : Nat, (if 30001 < m then 30001 else m) = v := ⟨_, rfl⟩
      have hv2 : (if (30001 : Int) < (m : Int) then (30001 : Int) else (m : Int)) = (v : Int) := by rw [← hv]; split <;> split <;> omega
      have hv3 : v ≤ 30001 ∧ (v ≤ 30000 → v = m) := by rw [← hv]; split <;> omega
      have HV := Lib.hid hv3
      have hvl := hv3.1
      clear hv hv3 hm
      have i1 : (0 : Int) ≤ (k : Int) := by omega
      have i2 : (k : Int) < (n : Int) := by omega
      have d1 : decide (k < n) = true := dT l1
      have d2 : decide ((k : Int) < 150) = true := dT (by omega)
      obtain ⟨S1, hS1⟩ : ∃ z, S + v = z := ⟨_, rfl⟩
      have wa : IntKind.i64.wrap ((S : Int) + (v : Int)) = (S1 : Int) := by rw [IntKind.wrap_i64]; omega
      have HS1 := Lib.hid hS1
      clear hS1
      by_cases hov : 30000 < S1
      · have d5 : decide ((30000 : Int) < (S1 : Int)) = true := dT (by omega)
        go_wp2
        go_ret
        exact ⟨Or.inl rfl, rfl⟩
      · have d5 : decide ((30000 : Int) < (S1 : Int)) = false := dF (by omega)
        go_wp2
        go_roundw
        case rel => exact ⟨k + 1, S1, by omega, by omega, by omega, rfl, by go_num, Lib.hid (by rw [sumB, HM.out, ← HS.out]; have := HV.out; have := HS1.out; omega), trivial⟩
        case measure => simp [intOf]; omega
    · have hd : decide (k < n) = false ∨ decide (k < n) = true ∧ decide ((k : Int) < 150) = false := by
        simp only [decide_eq_true_eq, decide_eq_false_iff_not]; omega
      by_cases h6 : n ≤ 150
      · have e6 : decide ((n : Int) ≤ 150) = true := dT (by omega)
        have HF := Lib.hid (show sumB L n ≤ 30000 from by rw [show n = k by omega, ← HS.out]; exact hS)
        rcases hd with d1 | ⟨d1, d2⟩
        all_goals
          go_wp2
          go_ret
          exact ⟨Or.inr ⟨rfl, h6, HF.out⟩, rfl⟩
      · have e6 : decide ((n : Int) ≤ 150) = false := dF (by omega)
        rcases hd with d1 | ⟨d1, d2⟩
        all_goals
          go_wp2
          go_ret
          exact ⟨Or.inl rfl, rfl⟩
end Go.Proofs.Ytocfphijheidbaa
