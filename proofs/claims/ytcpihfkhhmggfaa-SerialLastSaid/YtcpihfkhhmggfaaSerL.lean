/- The contract of serial.Last over this seat's translation. -/
import Derived.Test.YtcpihfkhhmggfaaSerM
namespace Go.Proofs.Ytcpihfkhhmggfaa
open Go.RowKit

def AllMay (l : List Int) (k : Nat) : Prop := ∀ j, j < k → mayB (l[j]?.getD 0) = true
def TopTo (x : Int) (l : List Int) (k : Nat) : Prop := ∀ j, j < k → l[j]?.getD 0 = x ∨ newerB x (l[j]?.getD 0) = true

theorem get_at {l : List Int} {k : Nat} (hk : k < l.length) : l[k]?.getD 0 = l[k] := by rw [List.getElem?_eq_getElem hk]; rfl

theorem allMay_iff {l : List Int} : AllMay l l.length ↔ ∀ n ∈ l, mayB n = true := by
  constructor
  · intro h n hn
    obtain ⟨j, hj, rfl⟩ := List.getElem_of_mem hn
    have := h j hj
    rwa [get_at hj] at this
  · intro h j hj
    rw [get_at hj]
    exact h _ (List.getElem_mem hj)
theorem topTo_iff {x : Int} {l : List Int} : TopTo x l l.length ↔ topB x l = true := by
  rw [topB_of]
  constructor
  · intro h n hn
    obtain ⟨j, hj, rfl⟩ := List.getElem_of_mem hn
    have := h j hj
    rwa [get_at hj] at this
  · intro h j hj
    rw [get_at hj]
    exact h _ (List.getElem_mem hj)

theorem may_no' {l : List Int} {k : Nat} (hk : k < l.length) (h : (!mayB (l[k]?.getD 0)) = true) : lastOk l = false := by
  cases hl : lastOk l with
  | false => rfl
  | true =>
    have h1 := (lastOk_iff.1 hl).1 (l[k]) (List.getElem_mem hk)
    rw [get_at hk, h1] at h
    simp at h

theorem cand_next (l : List Int) (c : Int) (k : Nat) (hk : k < l.length) : cand c (l.take (k + 1)) = if newerB (l[k]?.getD 0) (cand c (l.take k)) = true then l[k]?.getD 0 else cand c (l.take k) := by
  rw [List.take_succ_eq_append_getElem hk, cand_snoc, get_at hk]

theorem allMay_next {l : List Int} {k : Nat} (h : AllMay l k) (h1 : (!mayB (l[k]?.getD 0)) = false) : AllMay l (k + 1) := by
  intro j hj
  by_cases e : j = k
  · subst e; simpa using h1
  · exact h j (by omega)
theorem topTo_next {x : Int} {l : List Int} {k : Nat} (h : TopTo x l k) (h1 : l[k]?.getD 0 = x ∨ newerB x (l[k]?.getD 0) = true) : TopTo x l (k + 1) := by
  intro j hj
  by_cases e : j = k
  · subst e; exact h1
  · exact h j (by omega)

theorem last_yes {l : List Int} (h0 : 0 < l.length) (hm : AllMay l l.length) (ht : TopTo (cand (l.getD 0 0) (l.take l.length)) l l.length) : lastN l = cand (l.getD 0 0) (l.take l.length) ∧ lastOk l = true := by
  rw [List.take_length] at *
  have hne : l ≠ [] := by intro e; subst e; simp at h0
  exact lastN_of (allMay_iff.1 hm) (lastC_mem hne) (topTo_iff.1 ht)

theorem last_no {l : List Int} {k : Nat} (hk : k < l.length) (h1 : (l[k]?.getD 0 != cand (l.getD 0 0) (l.take l.length)) = true) (h2 : newerB (cand (l.getD 0 0) (l.take l.length)) (l[k]?.getD 0) = false) : lastOk l = false := by
  rw [List.take_length] at *
  cases hl : lastOk l with
  | false => rfl
  | true =>
    have h3 : topB (lastC l) l = true := by
      obtain ⟨_, x, hx, hx2⟩ := lastOk_iff.1 hl
      rw [lastC_top hx hx2]; exact hx2
    have h := topB_of.1 h3 (l[k]) (List.getElem_mem hk)
    rw [get_at hk] at h1 h2
    unfold lastC at h
    rw [h2] at h
    simp at h h1
    exact absurd h h1

set_option maxHeartbeats 1000000 in
theorem last_some (b off len cap : Nat) (l : List Int) (w : World) (hz : l.length = len) (h0 : 0 < len) (hbig : len ≤ 9223372036854775807) (hc : ∀ j, j < len → w.cell? ⟨b, off + j, none⟩ = some (.int .i64 (l.getD j 0))) :
    Calls Try.prog 30 #[.slice (some ⟨b, off, none⟩) len cap] w fun e w' => e = .returned (.tuple #[.int .i64 (lastN l), .bool (lastOk l)]) ∧ w = w' := by
  obtain ⟨c0, hc0⟩ : ∃ c0, l.getD 0 0 = c0 := ⟨_, rfl⟩
  have HC := Lib.hid hc
  have HZ := Lib.hid hz
  have H0 := Lib.hid hc0
  have hcell0 : w.cell? ⟨b, off, none⟩ = some (.int .i64 c0) := by rw [← hc0]; exact hc 0 h0
  clear hc hz hc0
  have g0 : ((len : Int) == 0) = false := by simp; omega
  have g1 : (0 : Int) < (len : Int) := by omega
  go_enter Try.func30, Try.ntmps30
  go_wp2
  go_loop [4, 17] (fun t i => ∃ k : Nat, k ≤ len ∧ AllMay l k ∧ i = .int .i64 k ∧ t = .int .i64 (cand c0 (l.take k))) (fun _ i => len - (intOf i).toNat)
  case atStart => exact ⟨0, Nat.zero_le _, fun j hj => absurd hj (by omega), rfl, rfl⟩
  case round =>
    obtain ⟨k, hk, hm, rfl, rfl⟩ := hrel
    have HM := Lib.hid hm
    clear hm
    by_cases hlt : k < len
    · have hcell : w.cell? ⟨b, off + k, none⟩ = some (.int .i64 (l.getD k 0)) := HC.out k hlt
      go_wp2_with (first | (go_at_call 41; refine (may_any _ _).mono ?_; rintro e w' ⟨rfl, rfl⟩) | (go_at_call 32; refine (newer_any _ _ _).mono ?_; rintro e w' ⟨rfl, rfl⟩))
      · have h1 : (!mayB (l[k]?.getD 0)) = true := by assumption
        go_ret2
        have := may_no' (by rw [HZ.out]; exact hlt) h1
        exact ⟨ret_ib (lastN_no this).symm this.symm, rfl⟩
      · have h1 : (!mayB (l[k]?.getD 0)) = false := by assumption
        have h2 : newerB (l[k]?.getD 0) (cand c0 (List.take k l)) = true := by assumption
        go_round
        case rel => exact ⟨k + 1, by omega, allMay_next HM.out h1, by go_num, by rw [cand_next _ _ _ (by rw [HZ.out]; exact hlt), if_pos h2]⟩
        case measure => simp [intOf]; omega
      · have h1 : (!mayB (l[k]?.getD 0)) = false := by assumption
        have h2 : newerB (l[k]?.getD 0) (cand c0 (List.take k l)) = false := by assumption
        go_round
        case rel => exact ⟨k + 1, by omega, allMay_next HM.out h1, by go_num, by rw [cand_next _ _ _ (by rw [HZ.out]; exact hlt), if_neg (by rw [h2]; simp)]⟩
        case measure => simp [intOf]; omega
    · have hkl : k = len := by omega
      subst hkl
      obtain ⟨x, hx⟩ : ∃ x, cand c0 (l.take k) = x := ⟨_, rfl⟩
      rw [hx]
      have HX := Lib.hid hx
      clear hx
      go_wp2
      go_loop [31] (fun i => ∃ j : Nat, j ≤ k ∧ TopTo x l j ∧ i = .int .i64 j) (fun i => k - (intOf i).toNat)
      case atStart => exact ⟨0, Nat.zero_le _, fun j hj => absurd hj (by omega), rfl⟩
      case round =>
        obtain ⟨j, hj, ht, rfl⟩ := hrel
        have HT := Lib.hid ht
        clear ht
        by_cases hlt2 : j < k
        · obtain ⟨y, hy⟩ : ∃ y, l[j]?.getD 0 = y := ⟨_, rfl⟩
          have hcell : w.cell? ⟨b, off + j, none⟩ = some (.int .i64 y) := by rw [← hy]; exact HC.out j hlt2
          have hno : (y != x) = true → newerB x y = false → lastOk l = false := by
            have hl2 : j < l.length := by rw [HZ.out]; exact hlt2
            intro h1 h2
            rw [← HX.out, ← H0.out, ← HZ.out, ← hy] at h1 h2
            exact last_no hl2 h1 h2
          have hup : (y = x ∨ newerB x y = true) → TopTo x l (j + 1) := by
            intro h
            rw [← hy] at h
            exact topTo_next HT.out h
          have HNO := Lib.hid hno
          have HUP := Lib.hid hup
          clear hno hup hy
          by_cases e1 : y = x
          · have e2 := nF e1
            clear e1
            go_wp2_with (first | (go_at_call 32; refine (newer_any _ _ _).mono ?_; rintro e w' ⟨rfl, rfl⟩))
            go_round
            case rel => exact ⟨j + 1, by omega, HUP.out (Or.inl (by simpa using e2)), by go_num⟩
            case measure => simp [intOf]; omega
          · have e2 := nT e1
            clear e1
            cases e3 : newerB x y
            · go_wp2_with (first | (go_at_call 32; refine (newer_any _ _ _).mono ?_; rintro e w' ⟨rfl, rfl⟩))
              go_ret2
              have := HNO.out e2 e3
              exact ⟨ret_ib (lastN_no this).symm this.symm, rfl⟩
            · go_wp2_with (first | (go_at_call 32; refine (newer_any _ _ _).mono ?_; rintro e w' ⟨rfl, rfl⟩))
              go_round
              case rel => exact ⟨j + 1, by omega, HUP.out (Or.inr e3), by go_num⟩
              case measure => simp [intOf]; omega
        · have hjk : j = k := by omega
          subst hjk
          go_wp2
          go_ret2
          have hl : l.length = j := HZ.out
          have hm := HM.out
          have ht := HT.out
          rw [← HX.out, ← H0.out, ← hl] at ht
          rw [← hl] at hm
          have := last_yes (by omega) hm ht
          rw [hl, H0.out, HX.out] at this
          exact ⟨ret_ib this.1.symm this.2.symm, rfl⟩

theorem last_none (a : Option Addr) (cap : Nat) (w : World) :
    Calls Try.prog 30 #[.slice a 0 cap] w fun e w' => e = .returned (.tuple #[.int .i64 (lastN []), .bool (lastOk [])]) ∧ w = w' := by
  go_enter Try.func30, Try.ntmps30
  go_wp2
  go_ret2
  exact ⟨rfl, rfl⟩
end Go.Proofs.Ytcpihfkhhmggfaa
