/- Contracts of PutSoa, of the program and of the document (chapter 3), over this seat's translation. -/
import Derived.Test.YtgdbbdbfaglkdaaRdL
namespace Go.Proofs.Ytgdbbdbfaglkdaa
open Go.RowKit

theorem row_lit5 (w : World) (x y z v u : Int) (t : TypeId) (b : Nat) (hb : b = w.heap.size) : Row (w.alloc (.cells #[.int .i64 x, .int .i64 y, .int .i64 z, .int .i64 v, .int .i64 u] t)) (some ⟨b, 0, none⟩) 5 [x, y, z, v, u] := by
  subst hb
  refine ⟨rfl, Or.inr ⟨w.heap.size, 0, rfl, by simp, ?_⟩⟩
  intro j hj
  rcases (by omega : j = 0 ∨ j = 1 ∨ j = 2 ∨ j = 3 ∨ j = 4) with rfl | rfl | rfl | rfl | rfl <;> simp [World.cell?_alloc_at]

def putSoaS (M R : ByteArray) (l : List Int) : ByteArray := if (mayN M && mayN R) = true then (if joinOk 4 l = true then M ++ R ++ bs (joinL 4 l) else ⟨#[]⟩) else ⟨#[]⟩
def putSoaE (M R : ByteArray) (l : List Int) : Int := if (mayN M && mayN R) = true then joinE 4 l else 10

set_option maxRecDepth 100000 in
set_option maxHeartbeats 1600000 in
theorem putSoa_any (M R : ByteArray) (a b c d f : Int) (w : World) (hM : M.size ≤ 1000000) (hR : R.size ≤ 1000000) : Calls Try.prog 29 #[.agg #[.string M, .string R, .int .i64 a, .int .i64 b, .int .i64 c, .int .i64 d, .int .i64 f]] w fun e w' => e = .returned (.tuple #[.string (putSoaS M R [a, b, c, d, f]), .int .i64 (putSoaE M R [a, b, c, d, f])]) ∧ Below w.heap.size w w' := by
  cases m1 : mayN M
  · have h1 : putSoaS M R [a, b, c, d, f] = ⟨#[]⟩ := by rw [putSoaS, m1]; rfl
    have h2 : putSoaE M R [a, b, c, d, f] = 10 := by rw [putSoaE, m1]; rfl
    rw [h1, h2]
    have M1 := Lib.hid m1
    clear m1 h1 h2
    go_enter Try.func29, Try.ntmps29
    go_wp2_with fail
    refine (nmay_any _ _ hM).mono ?_; rintro e w' ⟨rfl, rfl⟩
    rw [M1.out]
    go_wp2
    go_ret2
    exact ⟨rfl, (Below.refl _ _).alloc (Nat.le_refl _) _⟩
  · cases m2 : mayN R
    · have h1 : putSoaS M R [a, b, c, d, f] = ⟨#[]⟩ := by rw [putSoaS, m1, m2]; rfl
      have h2 : putSoaE M R [a, b, c, d, f] = 10 := by rw [putSoaE, m1, m2]; rfl
      rw [h1, h2]
      have M1 := Lib.hid m1
      have M2 := Lib.hid m2
      clear m1 m2 h1 h2
      go_enter Try.func29, Try.ntmps29
      go_wp2_with fail
      refine (nmay_any _ _ hM).mono ?_; rintro e w' ⟨rfl, rfl⟩
      rw [M1.out]
      go_wp2_with fail
      refine (nmay_any _ _ hR).mono ?_; rintro e w' ⟨rfl, rfl⟩
      rw [M2.out]
      go_wp2
      go_ret2
      exact ⟨rfl, (Below.refl _ _).alloc (Nat.le_refl _) _⟩
    · have h2 : putSoaE M R [a, b, c, d, f] = joinE 4 [a, b, c, d, f] := by rw [putSoaE, m1, m2]; rfl
      rw [h2]
      have M1 := Lib.hid m1
      have M2 := Lib.hid m2
      cases hj : joinOk 4 [a, b, c, d, f]
      · have h1 : putSoaS M R [a, b, c, d, f] = ⟨#[]⟩ := by rw [putSoaS, m1, m2, hj]; rfl
        have h3 : joinE 4 [a, b, c, d, f] = 1 := by rw [joinE, hj]; rfl
        rw [h1, h3]
        have H3 := Lib.hid h3
        clear m1 m2 h1 h2 h3 hj
        go_enter Try.func29, Try.ntmps29
        go_wp2_with fail
        refine (nmay_any _ _ hM).mono ?_; rintro e w' ⟨rfl, rfl⟩
        rw [M1.out]
        go_wp2_with fail
        refine (nmay_any _ _ hR).mono ?_; rintro e w' ⟨rfl, rfl⟩
        rw [M2.out]
        go_wp2_with fail
        refine (join_any 4 _ _ _ _ _ (row_lit5 _ _ _ _ _ _ _ _ (by simp)) (by omega)).mono ?_; rintro e w2 ⟨rfl, hb⟩
        have HB := Lib.hid ((((Below.refl w.heap.size w).alloc (Nat.le_refl _) _).alloc (by simp) _).trans (hb.mono (by simp; omega))); clear hb
        rw [H3.out]
        go_wp2
        go_ret2
        exact ⟨rfl, HB.out⟩
      · have h1 : putSoaS M R [a, b, c, d, f] = M ++ R ++ bs (joinL 4 [a, b, c, d, f]) := by rw [putSoaS, m1, m2, hj]; rfl
        have h3 : joinE 4 [a, b, c, d, f] = 0 := by rw [joinE, hj]; rfl
        rw [h1, h3]
        have H3 := Lib.hid h3
        obtain ⟨J, hJ⟩ : ∃ J, bs (joinL 4 [a, b, c, d, f]) = J := ⟨_, rfl⟩
        have HJ := Lib.hid hJ
        have hJz : J.size = 20 := by rw [← hJ, bs_size, joinL, if_pos hj, joinTo_length]; rfl
        rw [hJ]
        clear m1 m2 h1 h2 h3 hj hJ
        go_enter Try.func29, Try.ntmps29
        go_wp2_with fail
        refine (nmay_any _ _ hM).mono ?_; rintro e w' ⟨rfl, rfl⟩
        rw [M1.out]
        go_wp2_with fail
        refine (nmay_any _ _ hR).mono ?_; rintro e w' ⟨rfl, rfl⟩
        rw [M2.out]
        go_wp2_with fail
        refine (join_any 4 _ _ _ _ _ (row_lit5 _ _ _ _ _ _ _ _ (by simp)) (by omega)).mono ?_; rintro e w2 ⟨rfl, hb⟩
        have HB := Lib.hid ((((Below.refl w.heap.size w).alloc (Nat.le_refl _) _).alloc (by simp) _).trans (hb.mono (by simp; omega)))
        have c0 : w2.cell? ⟨w.heap.size, 0, none⟩ = some (.string M) := by
          rw [hb.cell (by simp; omega)]
          simp
        have c1 : w2.cell? ⟨w.heap.size, 1, none⟩ = some (.string R) := by
          rw [hb.cell (by simp; omega)]
          simp
        clear hb
        rw [H3.out, HJ.out]
        go_wp2
        go_ret2
        exact ⟨rfl, HB.out⟩
set_option maxRecDepth 100000 in
set_option maxHeartbeats 1600000 in
theorem rputSoa_any (M R : ByteArray) (a b c d f : Int) (w : World) (hM : M.size ≤ 1000000) (hR : R.size ≤ 1000000) : Calls Try.prog 30 #[.agg #[.string M, .string R, .int .i64 a, .int .i64 b, .int .i64 c, .int .i64 d, .int .i64 f]] w fun e w' => e = .returned (.tuple #[.string (putSoaS M R [a, b, c, d, f]), .int .i64 (putSoaE M R [a, b, c, d, f])]) ∧ Below w.heap.size w w' := by
  cases m1 : mayN M
  · have h1 : putSoaS M R [a, b, c, d, f] = ⟨#[]⟩ := by rw [putSoaS, m1]; rfl
    have h2 : putSoaE M R [a, b, c, d, f] = 10 := by rw [putSoaE, m1]; rfl
    rw [h1, h2]
    have M1 := Lib.hid m1
    clear m1 h1 h2
    go_enter Try.func30, Try.ntmps30
    go_wp2_with fail
    refine (rmay_any _ _ hM).mono ?_; rintro e w' ⟨rfl, rfl⟩
    rw [M1.out]
    go_wp2
    go_ret2
    exact ⟨rfl, (Below.refl _ _).alloc (Nat.le_refl _) _⟩
  · cases m2 : mayN R
    · have h1 : putSoaS M R [a, b, c, d, f] = ⟨#[]⟩ := by rw [putSoaS, m1, m2]; rfl
      have h2 : putSoaE M R [a, b, c, d, f] = 10 := by rw [putSoaE, m1, m2]; rfl
      rw [h1, h2]
      have M1 := Lib.hid m1
      have M2 := Lib.hid m2
      clear m1 m2 h1 h2
      go_enter Try.func30, Try.ntmps30
      go_wp2_with fail
      refine (rmay_any _ _ hM).mono ?_; rintro e w' ⟨rfl, rfl⟩
      rw [M1.out]
      go_wp2_with fail
      refine (rmay_any _ _ hR).mono ?_; rintro e w' ⟨rfl, rfl⟩
      rw [M2.out]
      go_wp2
      go_ret2
      exact ⟨rfl, (Below.refl _ _).alloc (Nat.le_refl _) _⟩
    · have h2 : putSoaE M R [a, b, c, d, f] = joinE 4 [a, b, c, d, f] := by rw [putSoaE, m1, m2]; rfl
      rw [h2]
      have M1 := Lib.hid m1
      have M2 := Lib.hid m2
      cases hj : joinOk 4 [a, b, c, d, f]
      · have h1 : putSoaS M R [a, b, c, d, f] = ⟨#[]⟩ := by rw [putSoaS, m1, m2, hj]; rfl
        have h3 : joinE 4 [a, b, c, d, f] = 1 := by rw [joinE, hj]; rfl
        rw [h1, h3]
        have H3 := Lib.hid h3
        clear m1 m2 h1 h2 h3 hj
        go_enter Try.func30, Try.ntmps30
        go_wp2_with fail
        refine (rmay_any _ _ hM).mono ?_; rintro e w' ⟨rfl, rfl⟩
        rw [M1.out]
        go_wp2_with fail
        refine (rmay_any _ _ hR).mono ?_; rintro e w' ⟨rfl, rfl⟩
        rw [M2.out]
        go_wp2_with fail
        refine (rjoin_any 4 _ _ _ _ _ (row_lit5 _ _ _ _ _ _ _ _ (by simp)) (by omega)).mono ?_; rintro e w2 ⟨rfl, hb⟩
        have HB := Lib.hid ((((Below.refl w.heap.size w).alloc (Nat.le_refl _) _).alloc (by simp) _).trans (hb.mono (by simp; omega))); clear hb
        rw [H3.out]
        go_wp2
        go_ret2
        exact ⟨rfl, HB.out⟩
      · have h1 : putSoaS M R [a, b, c, d, f] = M ++ R ++ bs (joinL 4 [a, b, c, d, f]) := by rw [putSoaS, m1, m2, hj]; rfl
        have h3 : joinE 4 [a, b, c, d, f] = 0 := by rw [joinE, hj]; rfl
        rw [h1, h3]
        have H3 := Lib.hid h3
        obtain ⟨J, hJ⟩ : ∃ J, bs (joinL 4 [a, b, c, d, f]) = J := ⟨_, rfl⟩
        have HJ := Lib.hid hJ
        have hJz : J.size = 20 := by rw [← hJ, bs_size, joinL, if_pos hj, joinTo_length]; rfl
        rw [hJ]
        clear m1 m2 h1 h2 h3 hj hJ
        go_enter Try.func30, Try.ntmps30
        go_wp2_with fail
        refine (rmay_any _ _ hM).mono ?_; rintro e w' ⟨rfl, rfl⟩
        rw [M1.out]
        go_wp2_with fail
        refine (rmay_any _ _ hR).mono ?_; rintro e w' ⟨rfl, rfl⟩
        rw [M2.out]
        go_wp2_with fail
        refine (rjoin_any 4 _ _ _ _ _ (row_lit5 _ _ _ _ _ _ _ _ (by simp)) (by omega)).mono ?_; rintro e w2 ⟨rfl, hb⟩
        have HB := Lib.hid ((((Below.refl w.heap.size w).alloc (Nat.le_refl _) _).alloc (by simp) _).trans (hb.mono (by simp; omega)))
        have c0 : w2.cell? ⟨w.heap.size, 0, none⟩ = some (.string M) := by
          rw [hb.cell (by simp; omega)]
          simp
        have c1 : w2.cell? ⟨w.heap.size, 1, none⟩ = some (.string R) := by
          rw [hb.cell (by simp; omega)]
          simp
        clear hb
        rw [H3.out, HJ.out]
        go_wp2
        go_ret2
        exact ⟨rfl, HB.out⟩
end Go.Proofs.Ytgdbbdbfaglkdaa
