/- Contracts of name.isPlain, name.read (chapter 2), over this seat's translation. -/
import Derived.Test.YtngncdmmlkcekaaByt
import Derived.LoopN
namespace Go.Proofs.Ytngncdmmlkcekaa
open Go.RowKit

def plainN (b : Nat) : Bool := decide (33 ≤ b ∧ b ≤ 126 ∧ b ≠ 46 ∧ b ≠ 92)
theorem isPlain_any (b : Nat) (w : World) (h : b < 256) : Calls Try.prog 68 #[.int .u8 b] w fun e w' => e = .returned (.bool (plainN b)) ∧ w = w' := by
  go_enter Try.func68, Try.ntmps68
  go_wp2
  all_goals (go_ret; refine ⟨ret_bool ?_, rfl⟩; rw [Bool.eq_iff_iff]; simp [plainN]; try omega)

def digOk (b : Nat) : Bool := decide (48 ≤ b ∧ b ≤ 57)
/-- The byte that stands ahead, and in how many it is told. -/
def readV (s : ByteArray) : Nat × Nat :=
  if byteAt s 0 ≠ 92 then (if plainN (byteAt s 0) = true then (byteAt s 0, 1) else (0, 0))
  else if 1 < s.size ∧ (byteAt s 1 = 46 ∨ byteAt s 1 = 92) then (byteAt s 1, 2)
  else if s.size < 4 then (0, 0)
  else if (digOk (byteAt s 1) && digOk (byteAt s 2) && digOk (byteAt s 3)) = true then
    (if 100 * (byteAt s 1 - 48) + 10 * (byteAt s 2 - 48) + (byteAt s 3 - 48) ≤ 255 then (100 * (byteAt s 1 - 48) + 10 * (byteAt s 2 - 48) + (byteAt s 3 - 48), 4) else (0, 0))
  else (0, 0)
theorem ret_ui {a b c d : Int} (h : a = b) (g : c = d) : Ending.returned (.tuple #[.int .u8 a, .int .i64 c]) = Ending.returned (.tuple #[.int .u8 b, .int .i64 d]) := by rw [h, g]

set_option maxRecDepth 100000 in
set_option maxHeartbeats 1600000 in
theorem read_any (s : ByteArray) (w : World) (h0 : 0 < s.size) (hs : s.size ≤ 1000000) : Calls Try.prog 54 #[.string s] w fun e w' => e = .returned (.tuple #[.int .u8 (readV s).1, .int .i64 (readV s).2]) ∧ w = w' := by
  have b0 := byte_get h0
  have l0 := byteAt_lt s 0
  obtain ⟨x0, hx0⟩ : ∃ x, byteAt s 0 = x := ⟨_, rfl⟩
  rw [hx0] at b0 l0
  by_cases c0 : x0 = 92
  · have e0 : ((x0 : Int) != 92) = false := nF (by omega)
    by_cases c1 : 1 < s.size ∧ (byteAt s 1 = 46 ∨ byteAt s 1 = 92)
    · obtain ⟨s1, c2⟩ := c1
      have hv : readV s = (byteAt s 1, 2) := by rw [readV, hx0, if_neg (by omega), if_pos ⟨s1, c2⟩]
      have b1 := byte_get s1
      have l1 := byteAt_lt s 1
      obtain ⟨x1, hx1⟩ : ∃ x, byteAt s 1 = x := ⟨_, rfl⟩
      rw [hx1] at b1 l1 c2 hv
      rw [hv]
      have i1 : (1 : Int) < (s.size : Int) := by omega
      clear hx0 hx1 hv
      by_cases c3 : x1 = 46
      · clear c2
        subst c3
        go_enter Try.func54, Try.ntmps54
        go_wp2
        go_ret2
        exact ⟨rfl, rfl⟩
      · have e1 : ((x1 : Int) == 46) = false := eF (by omega)
        have c5 : x1 = 92 := by omega
        clear c2 e1 c3
        subst c5
        go_enter Try.func54, Try.ntmps54
        go_wp2
        go_ret2
        exact ⟨rfl, rfl⟩
    · by_cases c4 : s.size < 4
      · have hv : readV s = (0, 0) := by rw [readV, hx0, if_neg (by omega), if_neg c1, if_pos c4]
        rw [hv]
        have d4 := dT (p := (s.size : Int) < 4) (by omega)
        by_cases s1 : 1 < s.size
        · have b1 := byte_get s1
          have l1 := byteAt_lt s 1
          obtain ⟨x1, hx1⟩ : ∃ x, byteAt s 1 = x := ⟨_, rfl⟩
          rw [hx1] at b1 l1 c1
          have i1 : (1 : Int) < (s.size : Int) := by omega
          have e1 : ((x1 : Int) == 46) = false := eF (by omega)
          have e2 : ((x1 : Int) == 92) = false := eF (by omega)
          clear hx0 hx1 hv c1 c4
          go_enter Try.func54, Try.ntmps54
          go_wp2
          go_ret2
          exact ⟨rfl, rfl⟩
        · have d1 := dF (p := (1 : Int) < (s.size : Int)) (by omega)
          clear hx0 hv c1 c4 s1
          go_enter Try.func54, Try.ntmps54
          go_wp2
          go_ret2
          exact ⟨rfl, rfl⟩
      · have s1 : 1 < s.size := by omega
        have s2 : 2 < s.size := by omega
        have s3 : 3 < s.size := by omega
        have hv : readV s = if (digOk (byteAt s 1) && digOk (byteAt s 2) && digOk (byteAt s 3)) = true then
    (if 100 * (byteAt s 1 - 48) + 10 * (byteAt s 2 - 48) + (byteAt s 3 - 48) ≤ 255 then (100 * (byteAt s 1 - 48) + 10 * (byteAt s 2 - 48) + (byteAt s 3 - 48), 4) else (0, 0))
  else (0, 0) := by rw [readV, hx0, if_neg (by omega), if_neg c1, if_neg c4]
        have b1 := byte_get s1
        have l1 := byteAt_lt s 1
        have b2 := byte_get s2
        have l2 := byteAt_lt s 2
        have b3 := byte_get s3
        have l3 := byteAt_lt s 3
        obtain ⟨x1, hx1⟩ : ∃ x, byteAt s 1 = x := ⟨_, rfl⟩
        obtain ⟨x2, hx2⟩ : ∃ x, byteAt s 2 = x := ⟨_, rfl⟩
        obtain ⟨x3, hx3⟩ : ∃ x, byteAt s 3 = x := ⟨_, rfl⟩
        rw [hx1] at b1 l1 c1 hv
        rw [hx2] at b2 l2 hv
        rw [hx3] at b3 l3 hv
        have i1 : (1 : Int) < (s.size : Int) := by omega
        have i2 : (2 : Int) < (s.size : Int) := by omega
        have i3 : (3 : Int) < (s.size : Int) := by omega
        have d4 := dF (p := (s.size : Int) < 4) (by omega)
        have e1 : ((x1 : Int) == 46) = false := eF (by omega)
        have e2 : ((x1 : Int) == 92) = false := eF (by omega)
        by_cases g : (48 ≤ x1 ∧ x1 ≤ 57) ∧ (48 ≤ x2 ∧ x2 ≤ 57) ∧ (48 ≤ x3 ∧ x3 ≤ 57)
        · obtain ⟨⟨g1, g2⟩, ⟨g3, g4⟩, ⟨g5, g6⟩⟩ := g
          have hdig : (digOk x1 && digOk x2 && digOk x3) = true := by simp [digOk, g1, g2, g3, g4, g5, g6]
          rw [if_pos hdig] at hv
          have t1 := dF (p := (x1 : Int) < 48) (by omega)
          have t2 := dF (p := (57 : Int) < (x1 : Int)) (by omega)
          have t3 := dF (p := (x2 : Int) < 48) (by omega)
          have t4 := dF (p := (57 : Int) < (x2 : Int)) (by omega)
          have t5 := dF (p := (x3 : Int) < 48) (by omega)
          have t6 := dF (p := (57 : Int) < (x3 : Int)) (by omega)
          by_cases hb : 100 * (x1 - 48) + 10 * (x2 - 48) + (x3 - 48) ≤ 255
          · rw [if_pos hb] at hv
            rw [hv]
            have t7 := dF (p := (255 : Int) < 10 * (10 * ((x1 : Int) - 48) + ((x2 : Int) - 48)) + ((x3 : Int) - 48)) (by omega)
            have HQ := Lib.hid (show (10 * (10 * ((x1 : Int) - 48) + ((x2 : Int) - 48)) + ((x3 : Int) - 48)) = ((100 * (x1 - 48) + 10 * (x2 - 48) + (x3 - 48) : Nat) : Int) by omega)
            clear hdig hv c1 c4 hx0 hx1 hx2 hx3
            go_enter Try.func54, Try.ntmps54
            go_wp2
            refine wp_loop_rounds 4 ?_
            iterate 4 (rw [rounds_succ]; go_wp2)
            go_ret2
            exact ⟨ret_ui HQ.out rfl, rfl⟩
          · rw [if_neg hb] at hv
            rw [hv]
            have t7 := dT (p := (255 : Int) < 10 * (10 * ((x1 : Int) - 48) + ((x2 : Int) - 48)) + ((x3 : Int) - 48)) (by omega)
            clear hdig hv c1 c4 hx0 hx1 hx2 hx3 hb
            go_enter Try.func54, Try.ntmps54
            go_wp2
            refine wp_loop_rounds 4 ?_
            iterate 4 (rw [rounds_succ]; go_wp2)
            go_ret2
            exact ⟨rfl, rfl⟩
        · have hdig : (digOk x1 && digOk x2 && digOk x3) = false := by
            cases h1 : digOk x1 <;> cases h2 : digOk x2 <;> cases h3 : digOk x3 <;> first | rfl | skip
            simp only [digOk, decide_eq_true_eq] at h1 h2 h3
            exact absurd ⟨h1, h2, h3⟩ g
          rw [hdig] at hv
          have hv' : readV s = (0, 0) := hv
          rw [hv']
          have hd : (decide ((x1 : Int) < 48) = true ∨ decide ((x1 : Int) < 48) = false ∧ decide ((57 : Int) < (x1 : Int)) = true) ∨ (48 ≤ x1 ∧ decide ((x1 : Int) < 48) = false ∧ decide ((57 : Int) < (x1 : Int)) = false ∧ ((decide ((x2 : Int) < 48) = true ∨ decide ((x2 : Int) < 48) = false ∧ decide ((57 : Int) < (x2 : Int)) = true) ∨ (48 ≤ x2 ∧ decide ((x2 : Int) < 48) = false ∧ decide ((57 : Int) < (x2 : Int)) = false ∧ (decide ((x3 : Int) < 48) = true ∨ decide ((x3 : Int) < 48) = false ∧ decide ((57 : Int) < (x3 : Int)) = true)))) := by
            simp only [decide_eq_true_eq, decide_eq_false_iff_not]; omega
          clear hdig hv hv' c1 c4 hx0 hx1 hx2 hx3 g
          rcases hd with (t1 | ⟨t1, t2⟩) | ⟨g1, t1, t2, (t3 | ⟨t3, t4⟩) | ⟨g2, t3, t4, t5 | ⟨t5, t6⟩⟩⟩
          · go_enter Try.func54, Try.ntmps54
            go_wp2
            refine wp_loop_rounds 4 ?_
            rw [rounds_succ]; go_wp2
            go_ret2
            exact ⟨rfl, rfl⟩
          · go_enter Try.func54, Try.ntmps54
            go_wp2
            refine wp_loop_rounds 4 ?_
            rw [rounds_succ]; go_wp2
            go_ret2
            exact ⟨rfl, rfl⟩
          · go_enter Try.func54, Try.ntmps54
            go_wp2
            refine wp_loop_rounds 4 ?_
            iterate 2 (rw [rounds_succ]; go_wp2)
            go_ret2
            exact ⟨rfl, rfl⟩
          · go_enter Try.func54, Try.ntmps54
            go_wp2
            refine wp_loop_rounds 4 ?_
            iterate 2 (rw [rounds_succ]; go_wp2)
            go_ret2
            exact ⟨rfl, rfl⟩
          · go_enter Try.func54, Try.ntmps54
            go_wp2
            refine wp_loop_rounds 4 ?_
            iterate 3 (rw [rounds_succ]; go_wp2)
            go_ret2
            exact ⟨rfl, rfl⟩
          · go_enter Try.func54, Try.ntmps54
            go_wp2
            refine wp_loop_rounds 4 ?_
            iterate 3 (rw [rounds_succ]; go_wp2)
            go_ret2
            exact ⟨rfl, rfl⟩
  · have e0 : ((x0 : Int) != 92) = true := nT (by omega)
    have hv : readV s = if plainN x0 = true then (x0, 1) else (0, 0) := by rw [readV, hx0, if_pos c0]
    clear hx0
    cases hp : plainN x0
    · rw [hp] at hv
      have hv' : readV s = (0, 0) := hv
      rw [hv']
      have HP := Lib.hid hp
      clear hp hv hv' c0
      go_enter Try.func54, Try.ntmps54
      go_wp2_with (first | (go_at_call 68; refine (isPlain_any _ _ (by omega)).mono ?_; rintro e w' ⟨rfl, rfl⟩; rw [HP.out]))
      go_ret2
      exact ⟨rfl, rfl⟩
    · rw [hp] at hv
      have hv' : readV s = (x0, 1) := hv
      rw [hv']
      have HP := Lib.hid hp
      clear hp hv hv' c0
      go_enter Try.func54, Try.ntmps54
      go_wp2_with (first | (go_at_call 68; refine (isPlain_any _ _ (by omega)).mono ?_; rintro e w' ⟨rfl, rfl⟩; rw [HP.out]))
      go_ret2
      exact ⟨rfl, rfl⟩
end Go.Proofs.Ytngncdmmlkcekaa
