/- The contract of the document's Last over this seat's translation. -/
import Derived.Test.YtcpihfkhhmggfaaSerR
namespace Go.Proofs.Ytcpihfkhhmggfaa
open Go.RowKit

theorem topB_next (x : Int) (l : List Int) (k : Nat) (hk : k < l.length) : topB x (l.take (k + 1)) = (topB x (l.take k) && (l[k]?.getD 0 == x || newerB x (l[k]?.getD 0))) := by
  unfold topB
  rw [List.take_succ_eq_append_getElem hk, get_at hk, List.all_append]
  simp

def NoTop (l : List Int) (k : Nat) : Prop := ∀ j, j < k → topB (l[j]?.getD 0) l = false
theorem noTop_next {l : List Int} {k : Nat} (h : NoTop l k) (h1 : topB (l[k]?.getD 0) l = false) : NoTop l (k + 1) := by
  intro j hj
  by_cases e : j = k
  · subst e; exact h1
  · exact h j (by omega)
theorem noTop_all {l : List Int} (h : NoTop l l.length) : lastOk l = false := by
  cases hl : lastOk l with
  | false => rfl
  | true =>
    obtain ⟨_, x, hx, hx2⟩ := lastOk_iff.1 hl
    obtain ⟨j, hj, rfl⟩ := List.getElem_of_mem hx
    have := h j hj
    rw [get_at hj, hx2] at this
    exact absurd this (by simp)

set_option maxRecDepth 100000 in
set_option maxHeartbeats 1000000 in
theorem rlast_some (b off len cap : Nat) (l : List Int) (w : World) (hb : b < w.heap.size) (hz : l.length = len) (hbig : len ≤ 9223372036854775807) (hc : ∀ j, j < len → w.cell? ⟨b, off + j, none⟩ = some (.int .i64 (l.getD j 0))) :
    Calls Try.prog 31 #[.slice (some ⟨b, off, none⟩) len cap] w fun e w' => e = .returned (.tuple #[.int .i64 (lastN l), .bool (lastOk l)]) ∧ Below w.heap.size w w' := by
  have HC := Lib.hid hc
  have HZ := Lib.hid hz
  clear hc hz
  go_enter Try.func31, Try.ntmps31
  go_wp2
  go_loop [4] (fun i => ∃ k : Nat, k ≤ len ∧ AllMay l k ∧ i = .int .i64 k) (fun i => len - (intOf i).toNat)
  case atStart => exact ⟨0, Nat.zero_le _, fun j hj => absurd hj (by omega), rfl⟩
  case round =>
    obtain ⟨k, hk, hm, rfl⟩ := hrel
    have HM := Lib.hid hm
    clear hm
    by_cases hlt : k < len
    · obtain ⟨y, hy⟩ : ∃ y, l[k]?.getD 0 = y := ⟨_, rfl⟩
      have hcell : w.cell? ⟨b, off + k, none⟩ = some (.int .i64 y) := by rw [← hy]; exact HC.out k hlt
      have HY := Lib.hid hy
      clear hy
      cases hmy : mayB y
      · go_wp2_with (first | (go_at_call 42; refine (rmay_any _ _).mono ?_; rintro e w' ⟨rfl, rfl⟩))
        go_ret2
        have h1 : (!mayB (l[k]?.getD 0)) = true := by rw [HY.out, hmy]; rfl
        have := may_no' (by rw [HZ.out]; exact hlt) h1
        exact ⟨ret_ib (lastN_no this).symm this.symm, Below.refl _ _⟩
      · have h1 : AllMay l (k + 1) := allMay_next HM.out (by rw [HY.out, hmy]; rfl)
        have H1 := Lib.hid h1
        clear h1
        go_wp2_with (first | (go_at_call 42; refine (rmay_any _ _).mono ?_; rintro e w' ⟨rfl, rfl⟩))
        go_round
        case rel => exact ⟨k + 1, by omega, H1.out, by go_num⟩
        case measure => simp [intOf]; omega
    · have hkl : k = len := by omega
      subst hkl
      go_wp2
      go_loopw [5] (fun i wr => ∃ k1 : Nat, k1 ≤ k ∧ NoTop l k1 ∧ i = .int .i64 k1 ∧ Below w.heap.size w wr) (fun i _ => k - (intOf i).toNat)
      case atStart => exact ⟨0, Nat.zero_le _, fun j hj => absurd hj (by omega), rfl, Below.refl _ _⟩
      case round =>
        obtain ⟨k1, hk1, ht, rfl, hbel⟩ := hrel
        have HT := Lib.hid ht
        have HB := Lib.hid hbel
        clear ht hbel
        by_cases hlt1 : k1 < k
        · obtain ⟨x, hx⟩ : ∃ y, l[k1]?.getD 0 = y := ⟨_, rfl⟩
          have HX := Lib.hid hx
          clear hx
          go_wp2
          obtain ⟨wo, rfl⟩ : ∃ wo : World, wo = wr := ⟨_, rfl⟩
          go_loopw [6, 7] (fun a i wr => ∃ k2 : Nat, k2 ≤ k ∧ a = .bool (topB x (l.take k2)) ∧ i = .int .i64 k2 ∧ Below w.heap.size w wr) (fun _ i _ => k - (intOf i).toNat)
          case atStart => exact ⟨0, Nat.zero_le _, rfl, rfl, HB.out⟩
          case round =>
            obtain ⟨k2, hk2, rfl, rfl, hbel⟩ := hrel
            by_cases hlt2 : k2 < k
            · obtain ⟨y, hy⟩ : ∃ y, l[k2]?.getD 0 = y := ⟨_, rfl⟩
              obtain ⟨t, ht⟩ : ∃ t, topB x (l.take k2) = t := ⟨_, rfl⟩
              have hcx : wr.cell? ⟨b, off + k1, none⟩ = some (.int .i64 x) := by rw [hbel.cell hb, ← HX.out]; exact HC.out k1 hlt1
              have hcy : wr.cell? ⟨b, off + k2, none⟩ = some (.int .i64 y) := by rw [hbel.cell hb, ← hy]; exact HC.out k2 hlt2
              have hn : topB x (l.take (k2 + 1)) = (t && (y == x || newerB x y)) := by rw [topB_next _ _ _ (by rw [HZ.out]; exact hlt2), ht, hy]
              have HN := Lib.hid hn
              have HB2 := Lib.hid hbel
              clear hn hbel hy
              rw [ht]
              clear ht
              have i1 : (k1 : Int) < (k : Int) := by omega
              have i2 : (k2 : Int) < (k : Int) := by omega
              cases t
              · go_wp2_with fail
                go_quiet (fail)
                go_wp2
                go_roundw
                case rel => exact ⟨k2 + 1, by omega, by rw [HN.out]; rfl, by go_num, below_drewN HB2.out _⟩
                case measure => simp [intOf]; omega
              · cases e1 : (y == x)
                · cases e2 : newerB x y
                  all_goals
                    rw [e1, e2] at HN
                    go_wp2_with fail
                    go_quiet ((go_at_call 33; exact quiet_same (rnewer_any _ _ _)))
                    go_wp2
                    go_roundw
                    case rel => exact ⟨k2 + 1, by omega, by rw [HN.out]; rfl, by go_num, below_drewN HB2.out _⟩
                    case measure => simp [intOf]; omega
                · rw [e1] at HN
                  go_wp2_with fail
                  go_quiet (fail)
                  go_wp2
                  go_roundw
                  case rel => exact ⟨k2 + 1, by omega, by rw [HN.out]; rfl, by go_num, below_drewN HB2.out _⟩
                  case measure => simp [intOf]; omega
            · have hk2k : k2 = k := by omega
              subst hk2k
              have HB2 := Lib.hid hbel
              have hcx : wr.cell? ⟨b, off + k1, none⟩ = some (.int .i64 x) := by rw [hbel.cell hb, ← HX.out]; exact HC.out k1 hlt1
              clear hbel
              have i1 : (k1 : Int) < (k2 : Int) := by omega
              have hend : ∀ t, topB x (l.take k2) = t → topB (l[k1]?.getD 0) l = t := by
                intro t h
                rw [List.take_of_length_le (by rw [HZ.out]; omega)] at h
                rw [HX.out]; exact h
              have HE := Lib.hid hend
              clear hend
              obtain ⟨t, ht⟩ : ∃ t, topB x (l.take k2) = t := ⟨_, rfl⟩
              rw [ht]
              have HT2 := Lib.hid (HE.out _ ht)
              clear ht
              cases t
              · go_wp2
                go_roundw
                case rel => exact ⟨k1 + 1, by omega, noTop_next HT.out HT2.out, by go_num, HB2.out⟩
                case measure => simp [intOf]; omega
              · go_wp2
                go_ret2
                have hl : l.length = k2 := HZ.out
                have hx := HX.out
                have ht := HT2.out
                rw [get_at (by omega)] at hx
                rw [get_at (by omega), hx] at ht
                have hm : ∀ n ∈ l, mayB n = true := allMay_iff.1 (by rw [hl]; exact HM.out)
                have := lastN_of hm (by rw [← hx]; exact List.getElem_mem _) ht
                exact ⟨ret_ib this.1.symm this.2.symm, HB2.out⟩
        · have hk1k : k1 = k := by omega
          subst hk1k
          go_wp2
          go_ret2
          have := noTop_all (by rw [HZ.out]; exact HT.out)
          exact ⟨ret_ib (lastN_no this).symm this.symm, HB.out⟩

theorem rlast_none (a : Option Addr) (cap : Nat) (w : World) :
    Calls Try.prog 31 #[.slice a 0 cap] w fun e w' => e = .returned (.tuple #[.int .i64 (lastN []), .bool (lastOk [])]) ∧ w = w' := by
  go_enter Try.func31, Try.ntmps31
  go_wp2
  go_rounds 1
  go_rounds 1
  go_ret2
  exact ⟨rfl, rfl⟩
end Go.Proofs.Ytcpihfkhhmggfaa
