/- Two rows of texts; slices of numbers that hold a number. -/
import Derived.Test.YtgdhbelcellabaaKey
import Derived.Test.YtgdhbelcellabaaKeq
import Derived.BigQuiet
import Derived.Deep.QuietTactic
namespace Go.Proofs.Ytgdhbelcellabaa
open Go.RowKit

theorem row_next4 {l r : List ByteArray} {k : Nat} (h : ∀ j, j < k → l.getD j ByteArray.empty = r.getD j ByteArray.empty) (h1 : l.getD k ByteArray.empty = r.getD k ByteArray.empty) : ∀ j, j < k + 1 → l.getD j ByteArray.empty = r.getD j ByteArray.empty := by
  intro j hj
  by_cases e : j = k
  · subst e; exact h1
  · exact h j (by omega)

theorem toList_inj4 {s t : ByteArray} (h : s.toList = t.toList) : s = t := by
  have h2 : s.data.toList = t.data.toList := (bs_toList s.data.toList).symm.trans (Eq.trans h (bs_toList t.data.toList))
  exact ByteArray.ext (Array.toList_inj.1 h2)

/-- Two rows of texts. -/
theorem sameS4 (a b : Option Addr) (n m ca cb : Nat) (l r : List ByteArray) (w : World) (ha : RowS w a n l) (hb : RowS w b m r) (hn : n ≤ 1000000) :
    Calls Try.prog 74 #[.slice a n ca, .slice b m cb] w fun e w' => e = .returned (.bool (decide (l = r))) ∧ ∃ k, w' = w.drewN k := by
  have HA := Lib.hid ha
  have HB := Lib.hid hb
  have hla := ha.1
  have hlb := hb.1
  clear ha hb
  by_cases hnm : n = m
  · subst hnm
    have e0 : ((n : Int) != (n : Int)) = false := nF rfl
    have HLA := Lib.hid hla
    have HLB := Lib.hid hlb
    clear hla hlb
    go_enter Try.func74, Try.ntmps74
    go_wp2
    go_loopw [5] (fun i wr => ∃ k q : Nat, k ≤ n ∧ i = .int .i64 k ∧ (∀ j, j < k → l.getD j ByteArray.empty = r.getD j ByteArray.empty) ∧ wr = w.drewN q) (fun i _ => n - (intOf i).toNat)
    case atStart => exact ⟨0, 0, Nat.zero_le _, rfl, fun j hj => absurd hj (by omega), rfl⟩
    case round =>
      obtain ⟨k, q, hk, rfl, hal, rfl⟩ := hrel
      have HAL := Lib.hid hal
      clear hal
      by_cases hlt : k < n
      · rcases HA.out.2 with h0 | ⟨b1, o1, rfl, _, hc1⟩
        · omega
        rcases HB.out.2 with h0 | ⟨b2, o2, rfl, _, hc2⟩
        · omega
        obtain ⟨s, hs⟩ : ∃ s, l.getD k ByteArray.empty = s := ⟨_, rfl⟩
        obtain ⟨t, ht⟩ : ∃ t, r.getD k ByteArray.empty = t := ⟨_, rfl⟩
        have g1 := hc1 k hlt
        have g2 := hc2 k hlt
        rw [hs] at g1
        rw [ht] at g2
        have HS := Lib.hid hs
        have HT := Lib.hid ht
        clear hc1 hc2 hs ht
        have i1 : (k : Int) < (n : Int) := by omega
        by_cases e : s = t
        · subst e
          go_wp2_with fail
          go_quiet (fail)
          go_wp2
          rename_i nq
          go_roundw
          case rel => exact ⟨k + 1, q + nq, by omega, by go_num, row_next4 HAL.out (HS.out.trans HT.out.symm), rfl⟩
          case measure => simp [intOf]; omega
        · have eb : (s.toList == t.toList) = false := by
            rw [beq_eq_false_iff_ne]
            intro h
            exact e (toList_inj4 h)
          have HV := Lib.hid (show decide (l = r) = false by
            apply dF
            intro h
            subst h
            exact e (HS.out.symm.trans HT.out))
          clear e
          go_wp2_with fail
          go_quiet (fail)
          go_wp2
          rename_i nq
          go_returns
          exact ⟨ret_bool HV.out.symm, _, by first | rfl | exact drewN_add _ _ _⟩
      · have hkn : k = n := by omega
        subst hkn
        have HV := Lib.hid (show decide (l = r) = true by
          apply dT
          refine List.ext_getElem (by rw [HLA.out, HLB.out]) ?_
          intro i h1 h2
          have := HAL.out i (by rw [← HLA.out]; exact h1)
          rw [List.getD_eq_getElem?_getD, List.getD_eq_getElem?_getD, List.getElem?_eq_getElem h1, List.getElem?_eq_getElem h2] at this
          exact this)
        go_wp2
        go_returns
        exact ⟨ret_bool HV.out.symm, q, rfl⟩
  · have e0 : ((n : Int) != (m : Int)) = true := nT (by omega)
    have hne : l ≠ r := by intro e; rw [e] at hla; omega
    have HV := Lib.hid (dF hne)
    clear hne hla hlb
    go_enter Try.func74, Try.ntmps74
    go_wp2
    go_returns
    exact ⟨ret_bool HV.out.symm, 0, rfl⟩

theorem sameS4_self (a b : Option Addr) (n ca cb : Nat) (l : List ByteArray) (w : World) (ha : RowS w a n l) (hb : RowS w b n l) (hn : n ≤ 1000000) :
    Calls Try.prog 74 #[.slice a n ca, .slice b n cb] w fun e w' => e = .returned (.bool true) ∧ Below w.heap.size w w' :=
  (sameS4 a b n n ca cb l l w ha hb hn).mono fun e w' ⟨h1, k, h2⟩ => ⟨by rw [h1]; exact ret_bool (dT rfl), by rw [h2]; exact below_drewN (Below.refl _ _) k⟩

set_option maxRecDepth 100000 in
theorem indexI (a : Option Addr) (n c : Nat) (l : List Int) (x : Int) (w : World) (h : Row w a n l) (hn : n ≤ 1000000) : Calls Try.prog 82 #[.slice a n c, .int .i64 x] w fun e w' => (∃ i : Int, e = .returned (.int .i64 i) ∧ (0 ≤ i ↔ x ∈ l)) ∧ w = w' := by
  have HR := Lib.hid h
  have HL := Lib.hid h.1
  clear h
  go_enter Try.func82, Try.ntmps82
  go_wp2_with fail
  go_loopw [8] (fun i wr => ∃ k : Nat, k ≤ n ∧ i = .int .i64 k ∧ Hid (∀ j, j < k → l.getD j 0 ≠ x) ∧ w = wr) (fun i _ => n - (intOf i).toNat)
  case atStart => exact ⟨0, Nat.zero_le _, rfl, (fun j hj => absurd hj (Nat.not_lt_zero j)), rfl⟩
  case round =>
    obtain ⟨k, hk, rfl, ho, rfl⟩ := hrel
    by_cases hlt : k < n
    · rcases HR.out.2 with h0 | ⟨b, off, rfl, hb, hc⟩
      · omega
      have c0 := hc k hlt
      obtain ⟨y, hy⟩ : ∃ y, l.getD k 0 = y := ⟨_, rfl⟩
      rw [hy] at c0
      have HY := Lib.hid hy
      clear hc hy
      by_cases hxy : x = y
      · have e0 : (x == y) = true := eT hxy
        have HM := Lib.hid (show x ∈ l by
          rw [hxy, ← HY.out, List.getD_eq_getElem?_getD, List.getElem?_eq_getElem (by have := HL.out; omega)]
          exact List.getElem_mem _)
        clear hxy
        go_wp2
        go_ret
        exact ⟨⟨k, rfl, ⟨fun _ => HM.out, fun _ => by omega⟩⟩, rfl⟩
      · have e0 : (x == y) = false := eF hxy
        have HN := Lib.hid (show ∀ j, j < k + 1 → l.getD j 0 ≠ x from fun j hj => by
          by_cases e : j = k
          · subst e; rw [HY.out]; exact fun h => hxy h.symm
          · exact ho.out j (by omega))
        clear hxy
        go_wp2
        go_roundw
        case rel => exact ⟨k + 1, by omega, by go_num, HN.out, trivial⟩
        case measure => simp [intOf]; omega
    · have hkn : k = n := by omega
      have HN := Lib.hid (show ¬ x ∈ l from fun h => by
        obtain ⟨j, hj, e⟩ := List.mem_iff_getElem.1 h
        refine ho.out j (by have := HL.out; omega) ?_
        rw [List.getD_eq_getElem?_getD, List.getElem?_eq_getElem hj]; exact e)
      subst hkn
      go_wp2
      go_ret
      exact ⟨⟨-1, rfl, ⟨fun h => absurd h (by omega), fun h => absurd h HN.out⟩⟩, rfl⟩
set_option maxRecDepth 100000 in
theorem containsI (a : Option Addr) (n c : Nat) (l : List Int) (x : Int) (w : World) (h : Row w a n l) (hn : n ≤ 1000000) : Calls Try.prog 57 #[.slice a n c, .int .i64 x] w fun e w' => e = .returned (.bool (decide (x ∈ l))) ∧ w = w' := by
  have HI := Lib.hid (indexI a n c l x w h hn)
  clear h
  go_enter Try.func57, Try.ntmps57
  go_wp2_with fail
  refine HI.out.mono ?_; rintro e w' ⟨⟨i, rfl, hi⟩, rfl⟩
  by_cases h0 : 0 ≤ i
  · have d := dT h0
    have HV := Lib.hid (show decide (x ∈ l) = true from dT (hi.1 h0))
    go_wp2
    go_ret
    exact ⟨by first | rfl | exact ret_bool HV.out.symm, rfl⟩
  · have d := dF h0
    have HV := Lib.hid (show decide (x ∈ l) = false from dF (fun h => h0 (hi.2 h)))
    go_wp2
    go_ret
    exact ⟨by first | rfl | exact ret_bool HV.out.symm, rfl⟩
set_option maxRecDepth 100000 in
theorem isK (k : Ky) (a : Option Addr) (n c : Nat) (l : List Int) (w : World) (h : Row w a n l) (hn : n ≤ 1000000) : Calls Try.prog 28 #[.agg #[.string k.n, .int .i64 k.t, .int .i64 k.c], .slice a n c] w fun e w' => e = .returned (.bool (decide (k.t ∈ l))) ∧ Below w.heap.size w w' := by
  obtain ⟨kn, kt, kc⟩ := k
  have HC := Lib.hid (fun wx (hb : Below w.heap.size w wx) => containsI a n c l kt wx (h.below hb) hn)
  obtain ⟨bb, hbb⟩ : ∃ x, decide (kt ∈ l) = x := ⟨_, rfl⟩
  rw [hbb] at HC
  show Calls Try.prog _ _ w fun e w' => e = .returned (.bool (decide (kt ∈ l))) ∧ Below w.heap.size w w'
  rw [hbb]
  have HB := Lib.hid ((Below.refl w.heap.size w).alloc (Nat.le_refl _) (.cells #[.string kn, .int .i64 kt, .int .i64 kc] 36))
  clear h hbb
  go_enter Try.func28, Try.ntmps28
  go_wp2_with fail
  refine (HC.out _ HB.out).mono ?_; rintro e w' ⟨rfl, rfl⟩
  go_wp2
  go_ret
  exact ⟨rfl, HB.out⟩
end Go.Proofs.Ytgdhbelcellabaa
