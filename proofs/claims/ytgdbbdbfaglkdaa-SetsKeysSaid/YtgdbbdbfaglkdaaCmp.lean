/- Contracts of strings.Compare, cmp.Compare, strings.HasSuffix and of the document's order, over this seat's translation. -/
import Derived.Test.YtgdbbdbfaglkdaaByt
import Derived.Lib.Strings
import Derived.Lib.Small
import Derived.Lib.Bytealg
namespace Go.Proofs.Ytgdbbdbfaglkdaa
open Go.RowKit

set_option maxHeartbeats 1000000 in
set_option maxRecDepth 100000 in
theorem cmpStr_any (a b : ByteArray) (w : World) :
    Calls Try.prog 101 #[.string a, .string b] w fun e w' => e = .returned (.int .i64 (Lib.compareBytes a.data.toList b.data.toList)) ∧ w' = w := by
  go_enter Try.func101, Try.ntmps101
  go_wp2
  rw [run_callFunc_extern Try.func120 (by kernel_rfl) (by kernel_rfl) (by kernel_rfl) (e := Extern.BytealgCompare.compare) (by kernel_rfl), Lib.run_compareString]
  simp only [Result.andThen]
  rw [Oper.upon_value]
  go_wp2
  go_ret
  exact ⟨rfl, rfl⟩

theorem scompare_any (a b : ByteArray) (w : World) :
    Calls Try.prog 86 #[.string a, .string b] w fun e w' => e = .returned (.int .i64 (Lib.compareBytes a.data.toList b.data.toList)) ∧ w' = w := by
  go_enter Try.func86, Try.ntmps86
  go_wp2_with (go_at_call 101; refine (cmpStr_any _ _ _).mono ?_; rintro e w' ⟨rfl, rfl⟩)
  go_ret
  exact ⟨rfl, rfl⟩

theorem icompare_any (x y : Int) (w : World) :
    Calls Try.prog 91 #[.int .i64 x, .int .i64 y] w fun e w' => e = .returned (.int .i64 (Lib.compareInt x y)) ∧ w' = w := by
  go_enter Try.func91, Try.ntmps91
  go_wp2
  all_goals (go_ret; refine ⟨?_, rfl⟩; unfold Lib.compareInt; (repeat' split) <;> first | rfl | (exfalso; omega))

theorem cmpB_ways : ∀ (x y : List UInt8), (Op.bytesLess x y = true ∧ Lib.compareBytes x y = -1) ∨ (Op.bytesLess x y = false ∧ (!x == y) = true ∧ Lib.compareBytes x y = 1) ∨ (Op.bytesLess x y = false ∧ (!x == y) = false ∧ Lib.compareBytes x y = 0)
  | [], [] => by simp [Op.bytesLess, Lib.compareBytes]
  | [], _ :: _ => by simp [Op.bytesLess, Lib.compareBytes]
  | _ :: _, [] => by simp [Op.bytesLess, Lib.compareBytes]
  | a :: x, b :: y => by
    have ih := cmpB_ways x y
    by_cases h1 : a < b
    · left; simp [Op.bytesLess, Lib.compareBytes, h1]
    · by_cases h2 : b < a
      · right; left
        have hne : ¬ a = b := fun h => by subst h; exact h1 h2
        simp [Op.bytesLess, Lib.compareBytes, h1, h2, hne]
      · have e : a = b := by
          have k1 : ¬ a.toNat < b.toNat := fun h => h1 (UInt8.lt_iff_toNat_lt.2 h)
          have k2 : ¬ b.toNat < a.toNat := fun h => h2 (UInt8.lt_iff_toNat_lt.2 h)
          exact UInt8.toNat_inj.1 (by omega)
        subst e
        simpa [Op.bytesLess, Lib.compareBytes] using ih
theorem rorder_any (a b : ByteArray) (w : World) :
    Calls Try.prog 105 #[.string a, .string b] w fun e w' => e = .returned (.int .i64 (Lib.compareBytes a.data.toList b.data.toList)) ∧ w' = w := by
  go_enter Try.func105, Try.ntmps105
  rcases cmpB_ways a.data.toList b.data.toList with ⟨h1, h2⟩ | ⟨h1, h2, h3⟩ | ⟨h1, h2, h3⟩
  · rw [h2]
    rw [← Lib.toList_data] at h1
    rw [← Lib.toList_data] at h1
    clear h2
    go_wp2
    go_ret
    exact ⟨rfl, rfl⟩
  · rw [h3]
    rw [← Lib.toList_data, ← Lib.toList_data] at h1 h2
    clear h3
    go_wp2
    go_ret
    exact ⟨rfl, rfl⟩
  · rw [h3]
    rw [← Lib.toList_data, ← Lib.toList_data] at h1 h2
    clear h3
    go_wp2
    go_ret
    exact ⟨rfl, rfl⟩
end Go.Proofs.Ytgdbbdbfaglkdaa
