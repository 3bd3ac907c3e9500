/- Zones: key, Apex, Records, Len, There. -/
import Derived.Test.YthfnphcefkdgbaaZnA
import Derived.Test.YthfnphcefkdgbaaMgK
import Derived.Test.YthfnphcefkdgbaaCan
namespace Go.Proofs.Ythfnphcefkdgbaa
open Go.RowKit

theorem cell_later4 {w wx : World} {a : Addr} {v : Value} (hb : Below w.heap.size w wx) (h : w.cell? a = some v) : wx.cell? a = some v := (hb.cell (World.block_lt_of_cell? _ _ h)).trans h
theorem sumD_le_z {S : List SetP} {m k : Nat} (hm : S.length ≤ m) (hk : ∀ s ∈ S, s.data.length ≤ k) : sumD S ≤ m * k := by
  have h1 : sumD S ≤ S.length * k := by
    clear hm
    induction S with
    | nil => simp [sumD]
    | cons s S ih =>
      rw [sumD, List.length_cons, Nat.succ_mul]
      have := ih (fun t ht => hk t (List.mem_cons_of_mem _ ht))
      have := hk s (List.mem_cons_self ..)
      omega
  exact Nat.le_trans h1 (Nat.mul_le_mul_right _ hm)
theorem lenN_sum (S : List SetP) : lenN S = sumD S := by
  induction S with
  | nil => rfl
  | cons s S ih => rw [lenN, sumD, ih]
theorem sum_take (S : List SetP) (k : Nat) (s : SetP) (h : S[k]? = some s) : sumD (S.take (k + 1)) = sumD (S.take k) + s.data.length := by
  rw [List.take_add_one, h, sumD_append]
  rfl
theorem sum_take_le (S : List SetP) (k : Nat) : sumD (S.take k) ≤ sumD S := by
  have h := sumD_append (S.take k) (S.drop k)
  rw [List.take_append_drop] at h
  omega
/-- Is there a set at a name, or under it? -/
noncomputable def thereP (S : List SetP) (n : ByteArray) : Bool := S.any (fun s => undS s.k.n n)
end Go.Proofs.Ythfnphcefkdgbaa
