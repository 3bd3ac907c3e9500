/- Contracts of PutMd, of the program and of the document (chapter 3), over this seat's translation. -/
import Derived.Test.YtgdbbdbfaglkdaaRdM
namespace Go.Proofs.Ytgdbbdbfaglkdaa
open Go.RowKit

theorem row_lit2' (w : World) (x y : Int) (t : TypeId) (b : Nat) (hb : b = w.heap.size) : Row (w.alloc (.cells #[.int .i64 x, .int .i64 y] t)) (some ⟨b, 0, none⟩) 2 [x, y] := by
  subst hb
  exact row_lit2 w x y t

def mdData (a b c : Int) (D : ByteArray) : ByteArray := bs (putL a 4) ++ bs (joinL 1 [b, c]) ++ D
def putMdS (a b c : Int) (D : ByteArray) : ByteArray := if (fits a 4 && joinOk 1 [b, c]) = true then (if mayD 63 (mdData a b c D) = true then mdData a b c D else ⟨#[]⟩) else ⟨#[]⟩
def putMdE (a b c : Int) (D : ByteArray) : Int := if (fits a 4 && joinOk 1 [b, c]) = true then (if mayD 63 (mdData a b c D) = true then 0 else 4) else 1

set_option maxRecDepth 100000 in
set_option maxHeartbeats 1600000 in
theorem putMd_any (a b c : Int) (D : ByteArray) (w : World) (hD : D.size ≤ 100000) : Calls Try.prog 31 #[.agg #[.int .i64 a, .int .i64 b, .int .i64 c, .string D]] w fun e w' => e = .returned (.tuple #[.string (putMdS a b c D), .int .i64 (putMdE a b c D)]) ∧ Below w.heap.size w w' := by
  cases f1 : fits a 4
  · have h1 : putMdS a b c D = ⟨#[]⟩ := by rw [putMdS, f1]; rfl
    have h2 : putMdE a b c D = 1 := by rw [putMdE, f1]; rfl
    have E1 := Lib.hid (show putE a 4 = 1 by rw [putE, f1]; rfl)
    rw [h1, h2]
    clear f1 h1 h2
    go_enter Try.func31, Try.ntmps31
    go_wp2_with fail
    refine (put_any _ _ _).mono ?_; rintro e w1 ⟨rfl, hb⟩
    have HB1 := Lib.hid (((Below.refl w.heap.size w).alloc (Nat.le_refl _) _).trans (hb.mono (by simp))); clear hb
    rw [E1.out]
    go_wp2
    go_ret2
    exact ⟨rfl, HB1.out⟩
  · have E1 := Lib.hid (show putE a 4 = 0 by rw [putE, f1]; rfl)
    have hz1 : (bs (putL a 4)).size = 4 := by rw [bs_size, putL, if_pos f1, putTo_length]; rfl
    cases f2 : joinOk 1 [b, c]
    · have h1 : putMdS a b c D = ⟨#[]⟩ := by rw [putMdS, f1, f2]; rfl
      have h2 : putMdE a b c D = 1 := by rw [putMdE, f1, f2]; rfl
      have E2 := Lib.hid (show joinE 1 [b, c] = 1 by rw [joinE, f2]; rfl)
      rw [h1, h2]
      clear f1 f2 h1 h2 hz1
      go_enter Try.func31, Try.ntmps31
      go_wp2_with fail
      refine (put_any _ _ _).mono ?_; rintro e w1 ⟨rfl, hb⟩
      have HB1 := Lib.hid (((Below.refl w.heap.size w).alloc (Nat.le_refl _) _).trans (hb.mono (by simp)))
      have c1 : w1.cell? ⟨w.heap.size, 1, none⟩ = some (.int .i64 b) := by
        rw [hb.cell (by simp)]
        simp
      have c2 : w1.cell? ⟨w.heap.size, 2, none⟩ = some (.int .i64 c) := by
        rw [hb.cell (by simp)]
        simp
      clear hb
      rw [E1.out]
      go_wp2_with fail
      refine (join_any 1 _ _ _ _ _ (row_lit2' _ _ _ _ _ rfl) (by omega)).mono ?_; rintro e w2 ⟨rfl, hb⟩
      have HB2 := Lib.hid ((HB1.out.alloc HB1.out.size _).trans (hb.mono (by have := HB1.out.size; simp; omega))); clear hb
      rw [E2.out]
      go_wp2
      go_ret2
      exact ⟨rfl, HB2.out⟩
    · have E2 := Lib.hid (show joinE 1 [b, c] = 0 by rw [joinE, f2]; rfl)
      have hz2 : (bs (joinL 1 [b, c])).size = 2 := by rw [bs_size, joinL, if_pos f2, joinTo_length]; rfl
      have h1 : putMdS a b c D = if mayD 63 (mdData a b c D) = true then mdData a b c D else ⟨#[]⟩ := by rw [putMdS, f1, f2]; rfl
      have h2 : putMdE a b c D = if mayD 63 (mdData a b c D) = true then 0 else 4 := by rw [putMdE, f1, f2]; rfl
      rw [h1, h2]
      have hd : mdData a b c D = bs (putL a 4) ++ bs (joinL 1 [b, c]) ++ D := rfl
      obtain ⟨P, hP⟩ : ∃ P, bs (putL a 4) = P := ⟨_, rfl⟩
      obtain ⟨J, hJ⟩ : ∃ J, bs (joinL 1 [b, c]) = J := ⟨_, rfl⟩
      have HP := Lib.hid hP
      have HJ := Lib.hid hJ
      rw [hP] at hz1 hd
      rw [hJ] at hz2 hd
      have hz3 : (P ++ J ++ D).size ≤ 1000000 := by rw [ByteArray.size_append, ByteArray.size_append]; omega
      rw [hd]
      cases hm : mayD 63 (P ++ J ++ D)
      all_goals
        have HM := Lib.hid hm
        clear f1 f2 h1 h2 hd hP hJ hm
        go_enter Try.func31, Try.ntmps31
        go_wp2_with fail
        refine (put_any _ _ _).mono ?_; rintro e w1 ⟨rfl, hb⟩
        have HB1 := Lib.hid (((Below.refl w.heap.size w).alloc (Nat.le_refl _) _).trans (hb.mono (by simp)))
        have c1 : w1.cell? ⟨w.heap.size, 1, none⟩ = some (.int .i64 b) := by
          rw [hb.cell (by simp)]
          simp
        have c2 : w1.cell? ⟨w.heap.size, 2, none⟩ = some (.int .i64 c) := by
          rw [hb.cell (by simp)]
          simp
        have c3 : w1.cell? ⟨w.heap.size, 3, none⟩ = some (.string D) := by
          rw [hb.cell (by simp)]
          simp
        have hlt : w.heap.size < w1.heap.size := by have := hb.size; simp at this; omega
        clear hb
        rw [E1.out, HP.out]
        go_wp2_with fail
        refine (join_any 1 _ _ _ _ _ (row_lit2' _ _ _ _ _ rfl) (by omega)).mono ?_; rintro e w2 ⟨rfl, hb⟩
        have HB2 := Lib.hid ((HB1.out.alloc HB1.out.size _).trans (hb.mono (by have := HB1.out.size; simp; omega)))
        have c4 : w2.cell? ⟨w.heap.size, 3, none⟩ = some (.string D) := by
          rw [hb.cell (by simp; omega), World.cell?_alloc_lt _ _ _ hlt]
          exact c3
        clear hb c1 c2 c3
        rw [E2.out, HJ.out]
        go_wp2_with fail
        refine (may_any _ _ _ hz3).mono ?_; rintro e w3 ⟨rfl, hb⟩
        have HB3 := Lib.hid (HB2.out.trans (hb.mono HB2.out.size)); clear hb
        rw [HM.out]
        go_wp2
        go_ret2
        exact ⟨rfl, HB3.out⟩

set_option maxRecDepth 100000 in
set_option maxHeartbeats 1600000 in
theorem rputMd_any (a b c : Int) (D : ByteArray) (w : World) (hD : D.size ≤ 100000) : Calls Try.prog 32 #[.agg #[.int .i64 a, .int .i64 b, .int .i64 c, .string D]] w fun e w' => e = .returned (.tuple #[.string (putMdS a b c D), .int .i64 (putMdE a b c D)]) ∧ Below w.heap.size w w' := by
  have hE1 : putE a 4 = if fits a 4 = true then 0 else 1 := rfl
  have hE2 : joinE 1 [b, c] = if joinOk 1 [b, c] = true then 0 else 1 := rfl
  by_cases hf : (fits a 4 && joinOk 1 [b, c]) = true
  · have hf2 := hf
    simp only [Bool.and_eq_true] at hf2
    have hz1 : (bs (putL a 4)).size = 4 := by rw [bs_size, putL, if_pos hf2.1, putTo_length]; rfl
    have hz2 : (bs (joinL 1 [b, c])).size = 2 := by rw [bs_size, joinL, if_pos hf2.2, joinTo_length]; rfl
    rw [if_pos hf2.1] at hE1
    rw [if_pos hf2.2] at hE2
    have h1 : putMdS a b c D = if mayD 63 (mdData a b c D) = true then mdData a b c D else ⟨#[]⟩ := by rw [putMdS, if_pos hf]
    have h2 : putMdE a b c D = if mayD 63 (mdData a b c D) = true then 0 else 4 := by rw [putMdE, if_pos hf]
    rw [h1, h2]
    have hd : mdData a b c D = bs (putL a 4) ++ bs (joinL 1 [b, c]) ++ D := rfl
    obtain ⟨P, hP⟩ : ∃ P, bs (putL a 4) = P := ⟨_, rfl⟩
    obtain ⟨J, hJ⟩ : ∃ J, bs (joinL 1 [b, c]) = J := ⟨_, rfl⟩
    have HP := Lib.hid hP
    have HJ := Lib.hid hJ
    have E1 := Lib.hid hE1
    have E2 := Lib.hid hE2
    rw [hP] at hz1 hd
    rw [hJ] at hz2 hd
    have hz3 : (P ++ J ++ D).size ≤ 1000000 := by rw [ByteArray.size_append, ByteArray.size_append]; omega
    rw [hd]
    cases hm : mayD 63 (P ++ J ++ D)
    all_goals
      have HM := Lib.hid hm
      clear hf hf2 h1 h2 hd hP hJ hm hE1 hE2
      go_enter Try.func32, Try.ntmps32
      go_wp2_with fail
      refine (rput_any _ _ _).mono ?_; rintro e w1 ⟨rfl, hb⟩
      have HB1 := Lib.hid (((Below.refl w.heap.size w).alloc (Nat.le_refl _) _).trans (hb.mono (by simp)))
      have c1 : w1.cell? ⟨w.heap.size, 1, none⟩ = some (.int .i64 b) := by
        rw [hb.cell (by simp)]
        simp
      have c2 : w1.cell? ⟨w.heap.size, 2, none⟩ = some (.int .i64 c) := by
        rw [hb.cell (by simp)]
        simp
      have c3 : w1.cell? ⟨w.heap.size, 3, none⟩ = some (.string D) := by
        rw [hb.cell (by simp)]
        simp
      have hlt : w.heap.size < w1.heap.size := by have := hb.size; simp at this; omega
      clear hb
      rw [E1.out, HP.out]
      go_wp2_with fail
      refine (rjoin_any 1 _ _ _ _ _ (row_lit2' _ _ _ _ _ rfl) (by omega)).mono ?_; rintro e w2 ⟨rfl, hb⟩
      have HB2 := Lib.hid ((HB1.out.alloc HB1.out.size _).trans (hb.mono (by have := HB1.out.size; simp; omega)))
      have c4 : w2.cell? ⟨w.heap.size, 3, none⟩ = some (.string D) := by
        rw [hb.cell (by simp; omega), World.cell?_alloc_lt _ _ _ hlt]
        exact c3
      clear hb c1 c2 c3
      rw [E2.out, HJ.out]
      go_wp2_with fail
      refine (rmayD_any _ _ _ hz3).mono ?_; rintro e w3 ⟨rfl, rfl⟩
      rw [HM.out]
      go_wp2
      go_ret2
      exact ⟨rfl, HB2.out⟩
  · have h1 : putMdS a b c D = ⟨#[]⟩ := by rw [putMdS, if_neg hf]
    have h2 : putMdE a b c D = 1 := by rw [putMdE, if_neg hf]
    have hd : (∃ z, putE a 4 = z ∧ ((z : Int) != 0) = true) ∨ putE a 4 = 0 ∧ joinE 1 [b, c] = 1 := by
      simp only [Bool.and_eq_true, not_and, Bool.not_eq_true] at hf
      cases hf1 : fits a 4
      · left; exact ⟨1, by rw [hE1, hf1]; rfl, rfl⟩
      · right; exact ⟨by rw [hE1, hf1]; rfl, by rw [hE2, hf hf1]; rfl⟩
    rw [h1, h2]
    have HD := Lib.hid hd
    clear hf h1 h2 hd hE1 hE2
    go_enter Try.func32, Try.ntmps32
    go_wp2_with fail
    refine (rput_any _ _ _).mono ?_; rintro e w1 ⟨rfl, hb⟩
    have HB1 := Lib.hid (((Below.refl w.heap.size w).alloc (Nat.le_refl _) _).trans (hb.mono (by simp)))
    have c1 : w1.cell? ⟨w.heap.size, 1, none⟩ = some (.int .i64 b) := by
      rw [hb.cell (by simp)]
      simp
    have c2 : w1.cell? ⟨w.heap.size, 2, none⟩ = some (.int .i64 c) := by
      rw [hb.cell (by simp)]
      simp
    clear hb
    rcases HD.out with ⟨z, g1, g2⟩ | ⟨g1, g2⟩
    · rw [g1]
      clear HD g1
      go_wp2_with fail
      refine (rjoin_any 1 _ _ _ _ _ (row_lit2' _ _ _ _ _ rfl) (by omega)).mono ?_; rintro e w2 ⟨rfl, hb⟩
      have HB2 := Lib.hid ((HB1.out.alloc HB1.out.size _).trans (hb.mono (by have := HB1.out.size; simp; omega)))
      clear hb c1 c2
      go_wp2
      go_ret2
      exact ⟨rfl, HB2.out⟩
    · have G2 := Lib.hid g2
      rw [g1]
      clear HD g1 g2
      go_wp2_with fail
      refine (rjoin_any 1 _ _ _ _ _ (row_lit2' _ _ _ _ _ rfl) (by omega)).mono ?_; rintro e w2 ⟨rfl, hb⟩
      have HB2 := Lib.hid ((HB1.out.alloc HB1.out.size _).trans (hb.mono (by have := HB1.out.size; simp; omega)))
      clear hb c1 c2
      rw [G2.out]
      go_wp2
      go_ret2
      exact ⟨rfl, HB2.out⟩
end Go.Proofs.Ytgdbbdbfaglkdaa
