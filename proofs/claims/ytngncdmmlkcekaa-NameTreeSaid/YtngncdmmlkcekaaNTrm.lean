/- NameTree: the walk, whole. -/
import Derived.Test.YtngncdmmlkcekaaNTrf
namespace Go.Proofs.Ytngncdmmlkcekaa
open Go.RowKit

set_option maxRecDepth 100000 in
theorem walkNTree (a b c : ByteArray) (w : World) : Calls Try.prog 6 #[.string a, .string b, .string c] w fun e w' => e = .returned (.bool true) ∧ Below w.heap.size w w' := by
  by_cases hz : a.size ≤ 2000 ∧ b.size ≤ 2000 ∧ c.size ≤ 2000
  · obtain ⟨z1, z2, z3⟩ := hz
    cases h1 : mayN a
    · exact ntree_no a b c w z1 z2 z3 (Or.inl h1)
    · cases h2 : mayN b
      · exact ntree_no a b c w z1 z2 z3 (Or.inr ⟨h1, h2⟩)
      · obtain ⟨k1, k2, k3⟩ := labs_spec h1
        obtain ⟨g1, g2, g3⟩ := labs_spec h2
        exact ntree_yes (labs a) (labs b) a b c w z1 z2 z3 k1 g1 k2 g2 k3 g3
  · have hd : decide ((2000 : Int) < (a.size : Int)) = true ∨ decide ((2000 : Int) < (a.size : Int)) = false ∧ (decide ((2000 : Int) < (b.size : Int)) = true ∨ decide ((2000 : Int) < (b.size : Int)) = false ∧ decide ((2000 : Int) < (c.size : Int)) = true) := by
      simp only [decide_eq_true_eq, decide_eq_false_iff_not]; omega
    clear hz
    rcases hd with d1 | ⟨d1, d2 | ⟨d2, d3⟩⟩
    all_goals
      go_enter Try.func6, Try.ntmps6
      go_wp2_with fail
      refine (first2 _).mono ?_; rintro e w1 ⟨rfl, hb⟩
      have HB1 := Lib.hid hb; clear hb
      go_wp2_with fail
      refine (first2 _).mono ?_; rintro e w2 ⟨rfl, hb⟩
      have HB2 := Lib.hid (HB1.out.trans (hb.mono HB1.out.size)); clear hb
      go_wp2
      go_ret
      exact ⟨rfl, HB2.out⟩
end Go.Proofs.Ytngncdmmlkcekaa
