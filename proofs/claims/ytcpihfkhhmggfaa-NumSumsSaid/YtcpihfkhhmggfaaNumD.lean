/- Contracts of package num's Unhex (chapter 1), and of its document's answer, over this seat's translation. -/
import Derived.Test.YtcpihfkhhmggfaaNumC
namespace Go.Proofs.Ytcpihfkhhmggfaa
open Go.RowKit

def digN (b : Nat) : Int := if 48 ≤ b ∧ b ≤ 57 then (b : Int) - 48 else if 97 ≤ b ∧ b ≤ 102 then (b : Int) - 87 else -1
theorem digN_rng (b : Nat) : -1 ≤ digN b ∧ digN b < 16 := by unfold digN; split <;> (try split) <;> omega

theorem digit_any (b : Nat) (w : World) (h : b < 256) : Calls Try.prog 39 #[.int .u8 b] w fun e w' => e = .returned (.int .i64 (digN b)) ∧ w = w' := by
  go_enter Try.func39, Try.ntmps39
  go_wp2
  all_goals (go_ret; refine ⟨ret_int ?_, rfl⟩; unfold digN; split <;> (try split) <;> omega)
theorem rdigit_any (b : Nat) (w : World) (h : b < 256) : Calls Try.prog 40 #[.int .u8 b] w fun e w' => e = .returned (.int .i64 (digN b)) ∧ w = w' := by
  go_enter Try.func40, Try.ntmps40
  go_wp2
  all_goals (go_ret; refine ⟨ret_int ?_, rfl⟩; unfold digN; split <;> (try split) <;> omega)

theorem or16 (n c : Int) (h0 : 0 ≤ n) (h1 : n < 16) (h2 : 0 ≤ c) (h3 : c < 16) : bits .or .i64 (n * 16) c = n * 16 + c :=
  bits_join .i64 62 (by decide) wraps_i64 4 _ _ (by omega) (by omega) (by omega) h2 (by omega) (by omega)

/-- Are the first k pairs digits? -/
def okTo (s : ByteArray) : Nat → Bool
  | 0 => true
  | k + 1 => okTo s k && decide (0 ≤ digN (byteAt s (2 * k))) && decide (0 ≤ digN (byteAt s (2 * k + 1)))
def unTo (s : ByteArray) : Nat → List UInt8
  | 0 => []
  | k + 1 => unTo s k ++ [by8 (digN (byteAt s (2 * k)) * 16 + digN (byteAt s (2 * k + 1)))]
theorem unTo_length (s : ByteArray) (k : Nat) : (unTo s k).length = k := by
  induction k with
  | zero => rfl
  | succ k ih => simp [unTo, ih]
theorem okTo_no {s : ByteArray} {k n : Nat} (hk : k < n) (h : okTo s (k + 1) = false) : okTo s n = false := by
  induction n with
  | zero => omega
  | succ n ih =>
    by_cases e : k = n
    · subst e; exact h
    · have := ih (by omega)
      simp [okTo, this]
def unOk (s : ByteArray) : Bool := decide (s.size % 2 = 0) && okTo s (s.size / 2)
def unL (s : ByteArray) : List UInt8 := if unOk s = true then unTo s (s.size / 2) else []

theorem un_odd {s : ByteArray} (h : s.size % 2 ≠ 0) : unOk s = false ∧ unL s = [] := by
  have : unOk s = false := by simp [unOk, h]
  exact ⟨this, by simp [unL, this]⟩
theorem un_no {s : ByteArray} {k : Nat} (hk : 2 * k < s.size) (he : s.size % 2 = 0) (h : okTo s (k + 1) = false) : unOk s = false ∧ unL s = [] := by
  have : unOk s = false := by simp [unOk, okTo_no (n := s.size / 2) (by omega) h]
  exact ⟨this, by simp [unL, this]⟩
theorem un_yes {s : ByteArray} {k : Nat} (hk : s.size = 2 * k) (h : okTo s k = true) : unOk s = true ∧ unL s = unTo s k := by
  have e : s.size / 2 = k := by omega
  have : unOk s = true := by simp [unOk, e, h]; omega
  exact ⟨this, by simp [unL, this, e]⟩
theorem unTo_bc (s : ByteArray) (k : Nat) (h l : Int) (hh : digN (byteAt s (2 * k)) = h) (hl : digN (byteAt s (2 * k + 1)) = l) : bc (unTo s k) ++ [Value.int .u8 ((h * 16 + l) % 256)] = bc (unTo s (k + 1)) := by
  subst hh hl
  rw [unTo, bc_append, bc_one]

set_option maxHeartbeats 800000 in
theorem unhex_any (s : ByteArray) (w : World) (h4 : s.size ≤ 1000000) : Calls Try.prog 21 #[.string s] w fun e w' => e = .returned (.tuple #[.string (bs (unL s)), .bool (unOk s)]) ∧ Below w.heap.size w w' := by
  obtain ⟨i0, hi, hz0, hz1, hz2⟩ := info_parts infoU8
  have HI := Lib.hid hi
  have HZ0 := Lib.hid hz0
  have HZ1 := Lib.hid hz1
  have HZ2 := Lib.hid hz2
  clear hi hz0 hz1 hz2
  by_cases he : s.size % 2 = 0
  · have de : (((s.size : Int) % 2) != 0) = false := nF (by omega)
    have HE := Lib.hid he
    clear he
    go_enter Try.func21, Try.ntmps21
    go_wp2_with (at_make; refine wpList_make_own _ rfl _ _ 42 rfl w.heap.size 5 i0 (.int .u8 0) 1 Try.underlying42 HI.out HZ0.out HZ1.out .i64 .i64 _ (s.size / 2) rfl rfl ?b1 ?b2 ?b3 (Nat.le_refl _) ?_)
    case b1 => first | rfl | omega
    case b2 => rw [HZ2.out]; omega
    case b3 => unfold maxLen; omega
    intro w1 hown hgrow
    have HO1 := Lib.hid hown
    have HG1 := Lib.hid hgrow
    clear hown hgrow
    go_wp2
    go_loopw [4, 5] (fun v i wr => ∃ k j : Nat, j ≤ s.size ∧ i = .int .i64 (j : Int) ∧ Hid (j = 2 * k) ∧ okTo s k = true ∧ wr.ownsRow w.heap.size 5 1 v k (bc (unTo s k)) ∧ Below w.heap.size w wr) (fun _ i _ => s.size - (intOf i).toNat)
    case atStart => exact ⟨0, 0, Nat.zero_le _, rfl, rfl, rfl, HO1.out, (Below.refl _ _).grown HG1.out (Nat.le_refl _) (by simp)⟩
    case round =>
      obtain ⟨k, j, hk, rfl, hj, hok, hown1, hbel⟩ := hrel
      have HOK := Lib.hid hok
      have HO := Lib.hid hown1
      have HBL := Lib.hid hbel
      have hsz := hbel.size
      clear hown1 hbel hok
      by_cases hlt : j < s.size
      · have hlt1 : j + 1 < s.size := by have := HE.out; have := hj.out; omega
        obtain ⟨b1, hb1⟩ : ∃ b, byteAt s j = b := ⟨_, rfl⟩
        obtain ⟨b2, hb2⟩ : ∃ b, byteAt s (j + 1) = b := ⟨_, rfl⟩
        have g1 := byte_get hlt
        have g2 := byte_get hlt1
        have l1 := byteAt_lt s j
        have l2 := byteAt_lt s (j + 1)
        rw [hb1] at g1 l1
        rw [hb2] at g2 l2
        have hst : okTo s (k + 1) = (decide (0 ≤ digN b1) && decide (0 ≤ digN b2)) := by simp only [okTo]; rw [HOK.out, ← hj.out, hb1, hb2]; rfl
        have hbc := unTo_bc s k (digN b1) (digN b2) (by rw [← hj.out, hb1]) (by rw [← hj.out, hb2])
        have hend : okTo s (k + 1) = false → unOk s = false ∧ unL s = [] := fun h => un_no (by rw [← hj.out]; exact hlt) HE.out h
        have HST := Lib.hid hst
        have HBC := Lib.hid hbc
        have HEND := Lib.hid hend
        clear hst hbc hb1 hb2 hend
        have r1 := digN_rng b1
        have r2 := digN_rng b2
        have kk : k ≤ s.size := by have := hj.out; omega
        have i1 : (j : Int) < (s.size : Int) := by omega
        have i2 : (j : Int) + 1 < (s.size : Int) := by omega
        have p1 : IntKind.i64.wrap ((j : Int) + 1) = (j : Int) + 1 := IntWalk.i64_in _ (by omega)
        have p2 : (0 : Int) ≤ (j : Int) + 1 := by omega
        have p3 : ((j : Int) + 1).toNat = j + 1 := by omega
        go_wp2
        go_quiet ((go_at_call 39; exact quiet_same (digit_any _ _ (by omega))))
        rename_i nq
        have HO3 := Lib.hid (own_drewN HO.out nq)
        have HBL3 := Lib.hid (below_drewN HBL.out nq)
        obtain ⟨w3, hw3⟩ : ∃ x, wr.drewN nq = x := ⟨_, rfl⟩
        rw [hw3] at HO3 HBL3 ⊢
        have hsz3 := HBL3.out.size
        clear p1 p2 p3 hw3
        by_cases d1 : 0 ≤ digN b1
        · by_cases d2 : 0 ≤ digN b2
          · have e1 := dF (p := digN b1 < 0) (by omega)
            have e2 := dF (p := digN b2 < 0) (by omega)
            have ho := or16 (digN b1) (digN b2) d1 (by omega) d2 (by omega)
            have HOW := Lib.hid (show okTo s (k + 1) = true by rw [HST.out]; simp [d1, d2])
            go_wp2_with (first | (at_builtin; refine wpList_append_own _ rfl _ _ 42 rfl w.heap.size 5 i0 (.int .u8 0) 1 1 Try.underlying42 HI.out HZ0.out HZ1.out HZ2.out rfl (by decide) _ k _ rfl (HO3.out.alloc _) ⟨w3.heap.size, 0, none⟩ 1 1 [.int .u8 (digN b1 * 16 + digN b2)] rfl rfl ?c1 ?c2 ?c3 ?c4 ?c5 ?_))
            case c1 => exact cell_one_new _ _ _
            case c2 => exact one_int _ _
            case c3 => unfold maxLen; omega
            case c4 => omega
            case c5 => simp; omega
            intro v' w' hown' hgrow _
            have hbel' := below_append HBL3.out hsz3 HO3.out hgrow
            rw [show digN b1 * 16 + digN b2 = (digN b1 * 16 + digN b2) % 256 by omega, HBC.out] at hown'
            have HO2 := Lib.hid hown'
            have HBL2 := Lib.hid hbel'
            clear hown' hgrow hbel'
            go_wp2
            go_roundw
            case rel => exact ⟨k + 1, j + 2, by omega, by go_num, (show j + 2 = 2 * (k + 1) by have := hj.out; omega), HOW.out, HO2.out, HBL2.out⟩
            case measure => simp [intOf]; omega
          · have e1 := dF (p := digN b1 < 0) (by omega)
            have e2 := dT (p := digN b2 < 0) (by omega)
            have HN := Lib.hid (HEND.out (by rw [HST.out]; simp [d2]))
            go_wp2
            go_ret2
            rw [HN.out.1, HN.out.2]
            exact ⟨rfl, HBL3.out⟩
        · have e1 := dT (p := digN b1 < 0) (by omega)
          have HN := Lib.hid (HEND.out (by rw [HST.out]; simp [d1]))
          go_wp2
          go_ret2
          rw [HN.out.1, HN.out.2]
          exact ⟨rfl, HBL3.out⟩
      · have hjn : j = s.size := by omega
        have HJN := Lib.hid hjn
        have hconv := conv_own HO.out
        have HY := Lib.hid (un_yes (by rw [← hjn]; exact hj.out) HOK.out)
        clear hjn
        go_wp2
        go_ret2
        rw [HY.out.1, HY.out.2]
        exact ⟨rfl, HBL.out⟩
  · have de : (((s.size : Int) % 2) != 0) = true := nT (by omega)
    obtain ⟨u1, u2⟩ := un_odd he
    rw [u1, u2]
    clear he
    go_enter Try.func21, Try.ntmps21
    go_wp2
    go_ret2
    exact ⟨rfl, Below.refl _ _⟩
set_option maxHeartbeats 800000 in
theorem runhex_any (s : ByteArray) (w : World) (h4 : s.size ≤ 1000000) : Calls Try.prog 22 #[.string s] w fun e w' => e = .returned (.tuple #[.string (bs (unL s)), .bool (unOk s)]) ∧ Below w.heap.size w w' := by
  obtain ⟨i0, hi, hz0, hz1, hz2⟩ := info_parts infoU8
  have HI := Lib.hid hi
  have HZ0 := Lib.hid hz0
  have HZ1 := Lib.hid hz1
  have HZ2 := Lib.hid hz2
  clear hi hz0 hz1 hz2
  by_cases he : s.size % 2 = 0
  · have de : (((s.size : Int) % 2) != 0) = false := nF (by omega)
    have HE := Lib.hid he
    clear he
    go_enter Try.func22, Try.ntmps22
    go_wp2
    go_loopw [4, 5] (fun v i wr => ∃ k j : Nat, j ≤ s.size ∧ i = .int .i64 (j : Int) ∧ Hid (j = 2 * k) ∧ okTo s k = true ∧ wr.ownsRow w.heap.size 5 1 v k (bc (unTo s k)) ∧ Below w.heap.size w wr) (fun _ i _ => s.size - (intOf i).toNat)
    case atStart => exact ⟨0, 0, Nat.zero_le _, rfl, rfl, rfl, World.ownsRow_nil _ _ _ _, Below.refl _ _⟩
    case round =>
      obtain ⟨k, j, hk, rfl, hj, hok, hown1, hbel⟩ := hrel
      have HOK := Lib.hid hok
      have HO := Lib.hid hown1
      have HBL := Lib.hid hbel
      have hsz := hbel.size
      clear hown1 hbel hok
      by_cases hlt : j < s.size
      · have hlt1 : j + 1 < s.size := by have := HE.out; have := hj.out; omega
        obtain ⟨b1, hb1⟩ : ∃ b, byteAt s j = b := ⟨_, rfl⟩
        obtain ⟨b2, hb2⟩ : ∃ b, byteAt s (j + 1) = b := ⟨_, rfl⟩
        have g1 := byte_get hlt
        have g2 := byte_get hlt1
        have l1 := byteAt_lt s j
        have l2 := byteAt_lt s (j + 1)
        rw [hb1] at g1 l1
        rw [hb2] at g2 l2
        have hst : okTo s (k + 1) = (decide (0 ≤ digN b1) && decide (0 ≤ digN b2)) := by simp only [okTo]; rw [HOK.out, ← hj.out, hb1, hb2]; rfl
        have hbc := unTo_bc s k (digN b1) (digN b2) (by rw [← hj.out, hb1]) (by rw [← hj.out, hb2])
        have hend : okTo s (k + 1) = false → unOk s = false ∧ unL s = [] := fun h => un_no (by rw [← hj.out]; exact hlt) HE.out h
        have HST := Lib.hid hst
        have HBC := Lib.hid hbc
        have HEND := Lib.hid hend
        clear hst hbc hb1 hb2 hend
        have r1 := digN_rng b1
        have r2 := digN_rng b2
        have kk : k ≤ s.size := by have := hj.out; omega
        have i1 : (j : Int) < (s.size : Int) := by omega
        have i2 : (j : Int) + 1 < (s.size : Int) := by omega
        have p1 : IntKind.i64.wrap ((j : Int) + 1) = (j : Int) + 1 := IntWalk.i64_in _ (by omega)
        have p2 : (0 : Int) ≤ (j : Int) + 1 := by omega
        have p3 : ((j : Int) + 1).toNat = j + 1 := by omega
        go_wp2
        go_quiet ((go_at_call 40; exact quiet_same (rdigit_any _ _ (by omega))))
        rename_i nq
        have HO3 := Lib.hid (own_drewN HO.out nq)
        have HBL3 := Lib.hid (below_drewN HBL.out nq)
        obtain ⟨w3, hw3⟩ : ∃ x, wr.drewN nq = x := ⟨_, rfl⟩
        rw [hw3] at HO3 HBL3 ⊢
        have hsz3 := HBL3.out.size
        clear p1 p2 p3 hw3
        by_cases d1 : 0 ≤ digN b1
        · by_cases d2 : 0 ≤ digN b2
          · have e1 := dF (p := digN b1 < 0) (by omega)
            have e2 := dF (p := digN b2 < 0) (by omega)
            have ho := or16 (digN b1) (digN b2) d1 (by omega) d2 (by omega)
            have HOW := Lib.hid (show okTo s (k + 1) = true by rw [HST.out]; simp [d1, d2])
            go_wp2_with (first | (at_builtin; refine wpList_append_own _ rfl _ _ 42 rfl w.heap.size 5 i0 (.int .u8 0) 1 1 Try.underlying42 HI.out HZ0.out HZ1.out HZ2.out rfl (by decide) _ k _ rfl (HO3.out.alloc _) ⟨w3.heap.size, 0, none⟩ 1 1 [.int .u8 (digN b1 * 16 + digN b2)] rfl rfl ?c1 ?c2 ?c3 ?c4 ?c5 ?_))
            case c1 => exact cell_one_new _ _ _
            case c2 => exact one_int _ _
            case c3 => unfold maxLen; omega
            case c4 => omega
            case c5 => simp; omega
            intro v' w' hown' hgrow _
            have hbel' := below_append HBL3.out hsz3 HO3.out hgrow
            rw [show digN b1 * 16 + digN b2 = (digN b1 * 16 + digN b2) % 256 by omega, HBC.out] at hown'
            have HO2 := Lib.hid hown'
            have HBL2 := Lib.hid hbel'
            clear hown' hgrow hbel'
            go_wp2
            go_roundw
            case rel => exact ⟨k + 1, j + 2, by omega, by go_num, (show j + 2 = 2 * (k + 1) by have := hj.out; omega), HOW.out, HO2.out, HBL2.out⟩
            case measure => simp [intOf]; omega
          · have e1 := dF (p := digN b1 < 0) (by omega)
            have e2 := dT (p := digN b2 < 0) (by omega)
            have HN := Lib.hid (HEND.out (by rw [HST.out]; simp [d2]))
            go_wp2
            go_ret2
            rw [HN.out.1, HN.out.2]
            exact ⟨rfl, HBL3.out⟩
        · have e1 := dT (p := digN b1 < 0) (by omega)
          have HN := Lib.hid (HEND.out (by rw [HST.out]; simp [d1]))
          go_wp2
          go_ret2
          rw [HN.out.1, HN.out.2]
          exact ⟨rfl, HBL3.out⟩
      · have hjn : j = s.size := by omega
        have HJN := Lib.hid hjn
        have hconv := conv_own HO.out
        have HY := Lib.hid (un_yes (by rw [← hjn]; exact hj.out) HOK.out)
        clear hjn
        go_wp2
        go_ret2
        rw [HY.out.1, HY.out.2]
        exact ⟨rfl, HBL.out⟩
  · have de : (((s.size : Int) % 2) != 0) = true := nT (by omega)
    obtain ⟨u1, u2⟩ := un_odd he
    rw [u1, u2]
    clear he
    go_enter Try.func22, Try.ntmps22
    go_wp2
    go_ret2
    exact ⟨rfl, Below.refl _ _⟩
end Go.Proofs.Ytcpihfkhhmggfaa
