/- The examples of chapter 2 hold; the contract of few, over this seat's translation. -/
import Derived.Test.YtngncdmmlkcekaaPa
import Derived.Test.YtngncdmmlkcekaaCpN
import Derived.Deep.RegionHeld3
namespace Go.Proofs.Ytngncdmmlkcekaa
open Go.RowKit

theorem p_one : parseE ⟨#[65, 98, 46, 99]⟩ = 0 ∧ parseS ⟨#[65, 98, 46, 99]⟩ = ⟨#[2, 97, 98, 1, 99, 0]⟩ := by decide +kernel
theorem p_two : parseE ⟨#[97, 46, 98, 46]⟩ = 0 ∧ parseS ⟨#[97, 46, 98, 46]⟩ = ⟨#[1, 97, 1, 98, 0]⟩ := by decide +kernel
theorem p_three : parseE ⟨#[122, 46, 97, 46]⟩ = 0 ∧ parseS ⟨#[122, 46, 97, 46]⟩ = ⟨#[1, 122, 1, 97, 0]⟩ := by decide +kernel
theorem c_first : cmpS ⟨#[1, 97, 1, 98, 0]⟩ ⟨#[1, 122, 1, 97, 0]⟩ = 1 := by
  have m1 : mayN ⟨#[1, 97, 1, 98, 0]⟩ = true := by decide +kernel
  have m2 : mayN ⟨#[1, 122, 1, 97, 0]⟩ = true := by decide +kernel
  have ok1 : OkL [⟨#[97]⟩, ⟨#[98]⟩] := by
    intro k hk
    have : k = 0 ∨ k = 1 := by simp at hk; omega
    rcases this with rfl | rfl <;> decide +kernel
  have ok2 : OkL [⟨#[122]⟩, ⟨#[97]⟩] := by
    intro k hk
    have : k = 0 ∨ k = 1 := by simp at hk; omega
    rcases this with rfl | rfl <;> decide +kernel
  rw [cmpS, if_pos m1, if_pos m2, labs_eq (L := [⟨#[97]⟩, ⟨#[98]⟩]) ok1 (by decide +kernel) (by decide +kernel), labs_eq (L := [⟨#[122]⟩, ⟨#[97]⟩]) ok2 (by decide +kernel) (by decide +kernel)]
  decide +kernel

set_option maxRecDepth 100000 in
theorem first2 (w : World) : Calls Try.prog 15 #[] w fun e w' => e = .returned (.bool true) ∧ Below w.heap.size w w' := by
  obtain ⟨e1, e2⟩ := p_one
  obtain ⟨e3, e4⟩ := p_two
  obtain ⟨e5, e6⟩ := p_three
  have e7 := c_first
  have h1 := fun w => parse_any ⟨#[65, 98, 46, 99]⟩ w (by decide)
  have h2 := fun w => parse_any ⟨#[97, 46, 98, 46]⟩ w (by decide)
  have h3 := fun w => parse_any ⟨#[122, 46, 97, 46]⟩ w (by decide)
  have h4 := fun w => compare_any ⟨#[1, 97, 1, 98, 0]⟩ ⟨#[1, 122, 1, 97, 0]⟩ w (by decide) (by decide)
  rw [e1, e2] at h1
  rw [e3, e4] at h2
  rw [e5, e6] at h3
  rw [e7] at h4
  have H1 := Lib.hid h1
  have H2 := Lib.hid h2
  have H3 := Lib.hid h3
  have H4 := Lib.hid h4
  clear e1 e2 e3 e4 e5 e6 e7 h1 h2 h3 h4
  go_enter Try.func15, Try.ntmps15
  go_wp2_with fail
  refine (H1.out _).mono ?_; rintro e w1 ⟨rfl, hb⟩
  have HB1 := Lib.hid hb; clear hb
  go_wp2_with fail
  refine (H2.out _).mono ?_; rintro e w2 ⟨rfl, hb⟩
  have HB2 := Lib.hid (HB1.out.trans (hb.mono HB1.out.size)); clear hb
  go_wp2_with fail
  refine (H3.out _).mono ?_; rintro e w3 ⟨rfl, hb⟩
  have HB3 := Lib.hid (HB2.out.trans (hb.mono HB2.out.size)); clear hb
  have hbs : ((⟨#[2, 97, 98, 1, 99, 0]⟩ : ByteArray).toList) = [2, 97, 98, 1, 99, 0] := bs_toList [2, 97, 98, 1, 99, 0]
  go_wp2_with fail
  refine (H4.out _).mono ?_; rintro e w4 ⟨rfl, hb⟩
  have HB4 := Lib.hid (HB3.out.trans (hb.mono HB3.out.size)); clear hb
  go_wp2
  go_ret
  exact ⟨rfl, HB4.out⟩
end Go.Proofs.Ytngncdmmlkcekaa
