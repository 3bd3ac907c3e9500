/- Contracts of package num's Hex (chapter 1), and of its document's answer, over this seat's translation. -/
import Derived.Test.YtocfphijheidbaaNumB
import Derived.Deep.AppendLies
import Derived.Deep.RegionLaw
import Derived.BigRegion
namespace Go.Proofs.Ytocfphijheidbaa
open Go.RowKit

def hexB (q : Nat) : UInt8 := [48, 49, 50, 51, 52, 53, 54, 55, 56, 57, 97, 98, 99, 100, 101, 102].getD q 0
def hexN (q : Nat) : Nat := (hexB q).toNat
theorem hex_at {q : Nat} (_h : q < 16) (hp : q < (ByteArray.mk #[48, 49, 50, 51, 52, 53, 54, 55, 56, 57, 97, 98, 99, 100, 101, 102]).size) :
    ((ByteArray.mk #[48, 49, 50, 51, 52, 53, 54, 55, 56, 57, 97, 98, 99, 100, 101, 102])[q]'hp).toNat = hexN q := byte_get hp
theorem and15 {b : Nat} (h : b < 256) : bits .and .u8 (b : Int) 15 = ((b % 16 : Nat) : Int) := by
  have := u8_and_nat b 15 h (by decide)
  rw [nat_mask4] at this
  exact this

/-- The digits of the first k bytes. -/
def hexTo (s : ByteArray) : Nat → List UInt8
  | 0 => []
  | k + 1 => hexTo s k ++ [hexB (byteAt s k / 16), hexB (byteAt s k % 16)]
theorem hexTo_length (s : ByteArray) (k : Nat) : (hexTo s k).length = 2 * k := by
  induction k with
  | zero => rfl
  | succ k ih => simp [hexTo, ih]; omega
theorem hexTo_bc (s : ByteArray) (k Q R : Nat) (hQ : byteAt s k / 16 = Q) (hR : byteAt s k % 16 = R) : bc (hexTo s k) ++ [Value.int .u8 (hexN Q : Int), Value.int .u8 (hexN R : Int)] = bc (hexTo s (k + 1)) := by
  subst hQ hR
  rw [hexTo, bc_append]
  rfl

theorem below_append' {w wr w' : World} {v : Value} {B n : Nat} {xs : List Value} {o : Obj} (hb : Below B w wr) (hB : B ≤ wr.heap.size) (hown : wr.ownsRow B 5 1 v n xs) (hg : (wr.alloc o).drew.grownBy w' v.ownBlock) : Below B w w' :=
  (hb.alloc hB o).drew.grown hg (by simp; omega) (fun k hk => (hown.lt k hk).1)

set_option maxRecDepth 100000 in
set_option maxHeartbeats 800000 in
theorem hex_any (s : ByteArray) (w : World) (h4 : s.size ≤ 1000000) : Calls Try.prog 59 #[.string s] w fun e w' => e = .returned (.string (bs (hexTo s s.size))) ∧ Below w.heap.size w w' := by
  obtain ⟨i0, hi, hz0, hz1, hz2⟩ := info_parts infoU8
  have HI := Lib.hid hi
  have HZ0 := Lib.hid hz0
  have HZ1 := Lib.hid hz1
  have HZ2 := Lib.hid hz2
  clear hi hz0 hz1 hz2
  go_enter Try.func59, Try.ntmps59
  go_wp2_with (at_make; refine wpList_make_own _ rfl _ _ 25 rfl w.heap.size 5 i0 (.int .u8 0) 1 Try.underlying25 HI.out HZ0.out HZ1.out .i64 .i64 _ (2 * s.size) rfl rfl ?b1 ?b2 ?b3 (Nat.le_refl _) ?_)
  case b1 => first | rfl | omega
  case b2 => rw [HZ2.out]; omega
  case b3 => unfold maxLen; omega
  intro w1 hown hgrow
  have HO1 := Lib.hid hown
  have HG1 := Lib.hid hgrow
  clear hown hgrow
  go_wp2
  go_loopw [3, 11] (fun v i wr => ∃ k : Nat, k ≤ s.size ∧ i = .int .i64 k ∧ wr.ownsRow w.heap.size 5 1 v (2 * k) (bc (hexTo s k)) ∧ Below w.heap.size w wr) (fun _ i _ => s.size - (intOf i).toNat)
  case atStart => exact ⟨0, Nat.zero_le _, rfl, HO1.out, (Below.refl _ _).grown HG1.out (Nat.le_refl _) (by simp)⟩
  case round =>
    obtain ⟨k, hk, rfl, hown1, hbel⟩ := hrel
    by_cases hlt : k < s.size
    · have hb := byte_get hlt
      have hb2 := byteAt_lt s k
      have i1 : (k : Int) < (s.size : Int) := by omega
      have HO := Lib.hid hown1
      have HBL := Lib.hid hbel
      clear hown1 hbel
      go_wp2
      obtain ⟨Q, hQ⟩ : ∃ Q : Nat, byteAt s k / 16 = Q := ⟨_, rfl⟩
      obtain ⟨R, hR⟩ : ∃ R : Nat, byteAt s k % 16 = R := ⟨_, rfl⟩
      have q16 : Q < 16 := by omega
      have r16 : R < 16 := by omega
      have hq : (byteAt s k : Int) / 16 = (Q : Int) := by omega
      have hr : bits .and .u8 (byteAt s k : Int) 15 = (R : Int) := by rw [and15 hb2, hR]
      have eq := hex_at q16
      have er := hex_at r16
      have HS := Lib.hid (hexTo_bc s k Q R hQ hR)
      clear hQ hR
      have q16i : (Q : Int) < 16 := by omega
      have r16i : (R : Int) < 16 := by omega
      have hsz := HBL.out.size
      go_region_law (refine step_append_lies _ (by rfl) _ _ _ (by rfl) w.heap.size 5 i0 (.int .u8 0) 1 1 Try.underlying25 HI.out HZ0.out HZ1.out HZ2.out rfl (by decide) _ (2 * k) _ (by rfl) ((HO.out.alloc _).drew) _ 2 _ _ (by rfl) (by rfl) (cell_two_new _ _ _ _) (by intro u hu; simp only [List.mem_cons, List.not_mem_nil, or_false] at hu; rcases hu with rfl | rfl <;> rfl) (by decide) (by unfold maxLen; omega) (by omega) (by simp; omega) _ rfl ?_; intro g cap w2 hown2 hgrow2 _ _; rw [HS.out] at hown2; have HO2 := Lib.hid hown2; have HG2 := Lib.hid hgrow2; clear hown2 hgrow2)
      all_goals
        go_wp2
        go_roundw
        case rel => exact ⟨k + 1, by omega, by go_num, HO2.out, below_append' HBL.out hsz HO.out HG2.out⟩
        case measure => simp [intOf]; omega
    · have hkl : k = s.size := by omega
      subst hkl
      have hconv := conv_own hown1
      have HBL := Lib.hid hbel
      clear hown1 hbel
      go_wp2
      go_ret
      exact ⟨rfl, HBL.out⟩

end Go.Proofs.Ytocfphijheidbaa
