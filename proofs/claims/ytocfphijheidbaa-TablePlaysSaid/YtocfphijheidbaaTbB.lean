/- Where the first Wait of a mark stands. -/
import Derived.Test.YtocfphijheidbaaTbA
namespace Go.Proofs.Ytocfphijheidbaa
open Go.RowKit

set_option maxRecDepth 100000 in
theorem same_mark (i p : Int) (x : ByteArray) (t : Bool) (j r : Int) (y : ByteArray) (u : Bool) (w : World) :
    Calls Try.prog 56 #[.agg #[.int .i64 i, .int .i64 p, .string x, .bool t], .agg #[.int .i64 j, .int .i64 r, .string y, .bool u]] w fun e w' => e = .returned (.bool (sameM ⟨i, p, x, t⟩ ⟨j, r, y, u⟩)) ∧ Below w.heap.size w w' := by
  have he := fun W => mk_eql ⟨i, p, x, t⟩ ⟨j, r, y, u⟩ W
  obtain ⟨z, hz⟩ : ∃ z, sameM ⟨i, p, x, t⟩ ⟨j, r, y, u⟩ = z := ⟨_, rfl⟩
  rw [hz] at he ⊢
  clear hz
  have hb := ((Below.refl w.heap.size w).alloc (Nat.le_refl _) (.cells #[.int .i64 i, .int .i64 p, .string x, .bool t] 69)).alloc (by simp) (.cells #[.int .i64 j, .int .i64 r, .string y, .bool u] 69)
  have HB := Lib.hid hb
  clear hb
  go_enter Try.func56, Try.ntmps56
  go_wp2
  go_ret
  exact ⟨rfl, HB.out⟩
set_option maxRecDepth 100000 in
theorem find1_any (i p : Int) (x : ByteArray) (t : Bool) (nm : ByteArray) (ty cl jb un : Int) (j r : Int) (y : ByteArray) (u : Bool) (g : Nat) (w : World) (hk : w.cell? ⟨g, 0, none⟩ = some (.int .i64 j) ∧ w.cell? ⟨g, 1, none⟩ = some (.int .i64 r) ∧ w.cell? ⟨g, 2, none⟩ = some (.string y) ∧ w.cell? ⟨g, 3, none⟩ = some (.bool u)) :
    Calls Try.prog 99 #[.agg #[.int .i64 i, .int .i64 p, .string x, .bool t, .string nm, .int .i64 ty, .int .i64 cl, .int .i64 jb, .int .i64 un], .pointer (some ⟨g, 0, none⟩)] w fun e w' => e = .returned (.bool (sameM ⟨i, p, x, t⟩ ⟨j, r, y, u⟩)) ∧ Below w.heap.size w w' := by
  obtain ⟨k0, k1, k2, k3⟩ := hk
  have hba := (Below.refl w.heap.size w).alloc (Nat.le_refl _) (.cells #[.int .i64 i, .int .i64 p, .string x, .bool t, .string nm, .int .i64 ty, .int .i64 cl, .int .i64 jb, .int .i64 un] 79)
  have HB := Lib.hid hba
  have m0 := cell_later hba k0
  have m1 := cell_later hba k1
  have m2 := cell_later hba k2
  have m3 := cell_later hba k3
  clear hba k0 k1 k2 k3
  go_enter Try.func99, Try.ntmps99
  go_wp2_with fail
  refine (same_mark i p x t j r y u _).mono ?_; rintro e w2 ⟨rfl, hb2⟩
  have HB2 := Lib.hid (HB.out.trans (hb2.mono HB.out.size))
  clear hb2 m0 m1 m2 m3
  go_wp2
  go_ret
  exact ⟨rfl, HB2.out⟩
end Go.Proofs.Ytocfphijheidbaa
