/- What the chapter's example fixes: the parts of an encoding. -/
import Derived.Test.YtkoafkajmfodkaaFg5
import Derived.Test.YtkoafkajmfodkaaMgC
import Derived.Test.YtkoafkajmfodkaaMgA
namespace Go.Proofs.Ytkoafkajmfodkaa
open Go.RowKit

theorem may_root : mayN ⟨#[0]⟩ = true := by decide +kernel
set_option maxRecDepth 100000 in
set_option maxHeartbeats 2000000 in
theorem mayAsk0 (w : World) : Calls Try.prog 60 #[.agg #[.string ⟨#[0]⟩, .int .i64 2, .int .i64 1]] w fun e w' => e = .returned (.bool true) ∧ Below w.heap.size w w' := by
  have HB := Lib.hid ((Below.refl w.heap.size w).alloc (Nat.le_refl _) (.cells #[.string ⟨#[0]⟩, .int .i64 2, .int .i64 1] 70))
  go_enter Try.func60, Try.ntmps60
  go_wp2_with fail
  refine (nmay_any ⟨#[0]⟩ _ (by decide)).mono ?_; rintro e w1 ⟨rfl, rfl⟩
  rw [may_root]
  go_wp2_with fail
  refine (wfits_any _ _ _).mono ?_; rintro e w1 ⟨rfl, rfl⟩
  rw [show inR 2 65535 = true by decide]
  go_wp2_with fail
  refine (wfits_any _ _ _).mono ?_; rintro e w1 ⟨rfl, rfl⟩
  rw [show inR 1 65535 = true by decide]
  go_wp2
  go_ret
  exact ⟨rfl, HB.out⟩
set_option maxRecDepth 100000 in
set_option maxHeartbeats 2000000 in
theorem mayAll0 (w : World) : Calls Try.prog 63 #[.slice none 0 0] w fun e w' => e = .returned (.bool true) ∧ w = w' := by
  go_enter Try.func63, Try.ntmps63
  go_wp2_with fail
  go_loopw [7] (fun i wr => i = .int .i64 0 ∧ w = wr) (fun _ _ => 0)
  case atStart => exact ⟨rfl, rfl⟩
  case round =>
    obtain ⟨rfl, rfl⟩ := hrel
    go_wp2
    go_ret
    exact ⟨rfl, rfl⟩
set_option maxRecDepth 100000 in
set_option maxHeartbeats 4000000 in
theorem may0 (qa : Option Addr) (qc : Nat) (w : World) (hq : RowQ w qa 1 [⟨⟨#[0]⟩, 2, 1⟩]) :
    Calls Try.prog 23 #[.agg #[.int .i64 1, .int .i64 0, .int .i64 0, .bool false, .bool false, .bool false, .bool false, .bool false, .slice qa 1 qc, .slice none 0 0, .slice none 0 0, .slice none 0 0]] w fun e w' => e = .returned (.bool true) ∧ Below w.heap.size w w' := by
  have hb1 := (Below.refl w.heap.size w).alloc (Nat.le_refl _) (.cells #[.int .i64 1, .int .i64 0, .int .i64 0, .bool false, .bool false, .bool false, .bool false, .bool false, .slice qa 1 qc, .slice none 0 0, .slice none 0 0, .slice none 0 0] 27)
  have HC := Lib.hid (CN.new w #[.int .i64 1, .int .i64 0, .int .i64 0, .bool false, .bool false, .bool false, .bool false, .bool false, .slice qa 1 qc, .slice none 0 0, .slice none 0 0, .slice none 0 0] 27)
  have HQ := Lib.hid (hq.below hb1)
  have HB := Lib.hid hb1
  clear hb1 hq
  go_enter Try.func23, Try.ntmps23
  go_wp2_with fail
  refine (wfits_any _ _ _).mono ?_; rintro e w1 ⟨rfl, rfl⟩
  rw [show inR 1 65535 = true by decide]
  go_wp2_with fail
  refine (wfits_any _ _ _).mono ?_; rintro e w1 ⟨rfl, rfl⟩
  rw [show inR 0 15 = true by decide]
  go_wp2_with fail
  refine (wfits_any _ _ _).mono ?_; rintro e w1 ⟨rfl, rfl⟩
  rw [show inR 0 15 = true by decide]
  go_wp2_with fail
  obtain ⟨w1, hw1⟩ : ∃ x, w.alloc (.cells #[.int .i64 1, .int .i64 0, .int .i64 0, .bool false, .bool false, .bool false, .bool false, .bool false, .slice qa 1 qc, .slice none 0 0, .slice none 0 0, .slice none 0 0] 27) = x := ⟨_, rfl⟩
  obtain ⟨q, hq⟩ : ∃ x, w.heap.size = x := ⟨_, rfl⟩
  rw [hw1] at HC HQ HB ⊢
  rw [hq] at HC
  rw [show (Value.pointer (some { block := w.heap.size, off := 0 })) = Value.pointer (some { block := q, off := 0 }) by rw [hq]]
  clear hw1 hq
  go_loopw [45] (fun i wr => ∃ k : Nat, k ≤ 1 ∧ i = .int .i64 k ∧ Hid (Below w1.heap.size w1 wr)) (fun i _ => 1 - (intOf i).toNat)
  case atStart => exact ⟨0, by omega, rfl, Lib.hid (Below.refl _ _)⟩
  case round =>
    obtain ⟨k, hk, rfl, HW⟩ := hrel
    by_cases hlt : k < 1
    · obtain rfl : k = 0 := by omega
      obtain ⟨b, o, r, rfl, hbl, hr, c0, c1, c2⟩ := (HQ.out.below HW.out).at 0 (by omega)
      obtain rfl : (⟨⟨#[0]⟩, 2, 1⟩ : Ky) = r := by simpa using hr
      simp only [Nat.zero_mul, Nat.add_zero] at c0 c1 c2
      have hba := (Below.refl _ _ : Below wr.heap.size wr wr).alloc (Nat.le_refl _) (.cells #[.string ⟨#[0]⟩, .int .i64 2, .int .i64 1] 70)
      have HW2 := Lib.hid (HW.out.trans (hba.mono HW.out.size))
      clear hr hba hlt hk hbl
      go_wp2_with fail
      refine (mayAsk0 _).mono ?_; rintro e w3 ⟨rfl, hb⟩
      have HW3 := Lib.hid (HW2.out.trans (hb.mono HW2.out.size))
      clear hb c0 c1 c2
      go_wp2
      go_roundw
      case rel => exact ⟨1, by omega, by go_num, HW3⟩
      case measure => simp [intOf]
    · obtain rfl : k = 1 := by omega
      have HC2 := Lib.hid (HC.out.below HW.out)
      have HB2 := Lib.hid (HB.out.trans (HW.out.mono HB.out.size))
      clear hlt hk
      obtain ⟨y0, y1, y2, y3, y4, y5, y6, y7, y8, y9, y10, y11, -⟩ := HC2.out.u12
      go_wp2_with fail
      go_loopw [56] (fun i wx => i = .int .i64 0 ∧ wr = wx) (fun _ _ => 0)
      case atStart => exact ⟨rfl, rfl⟩
      case round =>
        obtain ⟨rfl, rfl⟩ := hrel
        go_wp2_with fail
        refine (mayAll0 _).mono ?_; rintro e w4 ⟨rfl, rfl⟩
        go_wp2_with fail
        refine (mayAll0 _).mono ?_; rintro e w4 ⟨rfl, rfl⟩
        go_wp2
        go_ret
        exact ⟨rfl, HB2.out⟩
end Go.Proofs.Ytkoafkajmfodkaa
