/- NameOrders: the walk. -/
import Derived.Test.YtngncdmmlkcekaaFst2
import Derived.Test.YtngncdmmlkcekaaRCom
import Derived.Test.YtngncdmmlkcekaaFew
namespace Go.Proofs.Ytngncdmmlkcekaa
open Go.RowKit

set_option maxRecDepth 100000 in
set_option maxHeartbeats 1600000 in
theorem walkNOrders (a b : ByteArray) (p : Option Addr) (len cap : Nat) (ms : List ByteArray) (w : World) (h : RowS w p len ms) (hlen : len ≤ 9223372036854775807) (hsz : ∀ k, k < len → (tx ms k).size ≤ 9223372036854775807) :
    Calls Try.prog 4 #[.string a, .string b, .slice p len cap] w fun e w' => e = .returned (.bool true) ∧ Below w.heap.size w w' := by
  have HR := Lib.hid h
  have HSZ := Lib.hid hsz
  clear h hsz
  by_cases hz : a.size ≤ 2000 ∧ b.size ≤ 2000
  · obtain ⟨z1, z2⟩ := hz
    have d1 := dF (p := (2000 : Int) < (a.size : Int)) (by omega)
    have d2 := dF (p := (2000 : Int) < (b.size : Int)) (by omega)
    go_enter Try.func4, Try.ntmps4
    go_wp2_with fail
    refine (first2 _).mono ?_; rintro e w1 ⟨rfl, hb⟩
    have HB1 := Lib.hid hb; clear hb
    go_wp2_with fail
    refine (few_any _ _ _ ms _ (HR.out.below HB1.out) hlen HSZ.out).mono ?_; rintro e w' ⟨rfl | ⟨rfl, hl, hs⟩, rfl⟩
    · go_wp2_with fail
      refine (first2 _).mono ?_; rintro e w2 ⟨rfl, hb⟩
      have HB2 := Lib.hid (HB1.out.trans (hb.mono HB1.out.size)); clear hb
      go_wp2
      go_ret
      exact ⟨rfl, HB2.out⟩
    · have HS := Lib.hid (show ∀ k, k < len → (tx ms k).size ≤ 1000000 from fun k hk => Nat.le_trans (hs k hk) (by omega))
      clear hs
      go_wp2_with fail
      refine (first2 _).mono ?_; rintro e w2 ⟨rfl, hb⟩
      have HB2 := Lib.hid (HB1.out.trans (hb.mono HB1.out.size)); clear hb
      go_wp2_with fail
      refine (compare_any _ _ _ (by omega) (by omega)).mono ?_; rintro e w3 ⟨rfl, hb⟩
      have HB3 := Lib.hid (HB2.out.trans (hb.mono HB2.out.size)); clear hb
      go_wp2_with fail
      refine (rcompare_any _ _ _ (by omega) (by omega)).mono ?_; rintro e w4 ⟨rfl, hb⟩
      have HB4 := Lib.hid (HB3.out.trans (hb.mono HB3.out.size)); clear hb
      go_wp2_with fail
      refine (under_any _ _ _ (by omega) (by omega)).mono ?_; rintro e w' ⟨rfl, rfl⟩
      go_wp2_with fail
      refine (runder_any _ _ _ (by omega) (by omega)).mono ?_; rintro e w5 ⟨rfl, hb⟩
      have HB5 := Lib.hid (HB4.out.trans (hb.mono HB4.out.size)); clear hb
      go_wp2_with fail
      refine (common_any _ _ _ _ ms _ (HR.out.below HB5.out) (by omega) (by omega) HS.out).mono ?_; rintro e w' ⟨rfl, rfl⟩
      go_wp2_with fail
      refine (rcommon_any _ _ _ _ ms _ (HR.out.below HB5.out) (by omega) (by omega) HS.out).mono ?_; rintro e w6 ⟨rfl, hb⟩
      have HB6 := Lib.hid (HB5.out.trans (hb.mono HB5.out.size)); clear hb
      go_wp2
      go_ret
      exact ⟨rfl, HB6.out⟩
  · have hd : decide ((2000 : Int) < (a.size : Int)) = true ∨ decide ((2000 : Int) < (a.size : Int)) = false ∧ decide ((2000 : Int) < (b.size : Int)) = true := by
      simp only [decide_eq_true_eq, decide_eq_false_iff_not]; omega
    clear hz
    rcases hd with d1 | ⟨d1, d2⟩
    all_goals
      go_enter Try.func4, Try.ntmps4
      go_wp2_with fail
      refine (first2 _).mono ?_; rintro e w1 ⟨rfl, hb⟩
      have HB1 := Lib.hid hb; clear hb
      go_wp2_with fail
      refine (first2 _).mono ?_; rintro e w2 ⟨rfl, hb⟩
      have HB2 := Lib.hid (HB1.out.trans (hb.mono HB1.out.size)); clear hb
      go_wp2
      go_ret
      exact ⟨rfl, HB2.out⟩
theorem tx_bound2 {l : List ByteArray} {len : Nat} (hl : l.length = len) (hsz : ∀ s ∈ l, s.size ≤ maxLen) (k : Nat) (hk : k < len) : (tx l k).size ≤ 9223372036854775807 := by
  have hkl : k < l.length := by omega
  have := hsz l[k] (List.getElem_mem hkl)
  unfold maxLen at this
  rw [tx, List.getD_eq_getElem?_getD, List.getElem?_eq_getElem hkl]
  simp only [Option.getD_some]
  omega
end Go.Proofs.Ytngncdmmlkcekaa
