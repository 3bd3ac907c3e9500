/- Contracts of GetMd, of the program and of the document, and of the document's GetSoa (chapter 3). -/
import Derived.Test.YtgdbbdbfaglkdaaRdQ
namespace Go.Proofs.Ytgdbbdbfaglkdaa
open Go.RowKit

set_option maxRecDepth 100000 in
set_option maxHeartbeats 1600000 in
theorem getMd_any (s : ByteArray) (w : World) (hs : s.size ≤ 1000000) : Calls Try.prog 16 #[.string s] w fun e w' => e = .returned (getMdV s) ∧ Below w.heap.size w w' := by
  cases hm : mayD 63 s
  · have HV := Lib.hid (show getMdV s = .tuple #[.agg #[.int .i64 0, .int .i64 0, .int .i64 0, .string ⟨#[]⟩], .bool false] by rw [getMdV, hm]; rfl)
    have HM := Lib.hid hm
    clear hm
    go_enter Try.func16, Try.ntmps16
    go_wp2_with fail
    refine (may_any _ _ _ hs).mono ?_; rintro e w1 ⟨rfl, hb⟩
    have c0 : w1.cell? ⟨w.heap.size, 0, none⟩ = some (.int .i64 0) := by
      rw [hb.cell (by simp)]
      simp
    have f0 : w1.frozen? ⟨w.heap.size, 0, none⟩ = false := by
      rw [hb.frozen (by simp)]
      simp
    have c1 : w1.cell? ⟨w.heap.size, 1, none⟩ = some (.int .i64 0) := by
      rw [hb.cell (by simp)]
      simp
    have f1 : w1.frozen? ⟨w.heap.size, 1, none⟩ = false := by
      rw [hb.frozen (by simp)]
      simp
    have c2 : w1.cell? ⟨w.heap.size, 2, none⟩ = some (.int .i64 0) := by
      rw [hb.cell (by simp)]
      simp
    have f2 : w1.frozen? ⟨w.heap.size, 2, none⟩ = false := by
      rw [hb.frozen (by simp)]
      simp
    have c3 : w1.cell? ⟨w.heap.size, 3, none⟩ = some (.string ⟨#[]⟩) := by
      rw [hb.cell (by simp)]
      simp
    have f3 : w1.frozen? ⟨w.heap.size, 3, none⟩ = false := by
      rw [hb.frozen (by simp)]
      simp
    have HB := Lib.hid (((Below.refl w.heap.size w).alloc (Nat.le_refl _) _).trans (hb.mono (by simp)))
    clear hb
    rw [HM.out]
    go_wp2
    refine bodyPost_ret (v := .tuple #[.agg #[.int .i64 0, .int .i64 0, .int .i64 0, .string ⟨#[]⟩], .bool false]) (by simp [results, Try.results16, go_sem, c0, c1, c2, c3]) rfl ⟨by rw [HV.out], ?_⟩
    exact (((HB.out.setCell (Nat.le_refl _) _).setCell (Nat.le_refl _) _).setCell (Nat.le_refl _) _).setCell (Nat.le_refl _) _
  · have HV := Lib.hid (show getMdV s = .tuple #[.agg #[.int .i64 (getN s 0 4), .int .i64 (byteAt s 4 : Int), .int .i64 (byteAt s 5 : Int), .string (s.extract 6 s.size)], .bool true] by rw [getMdV, hm]; rfl)
    have HM := Lib.hid hm
    have hz := mayD_63 hm
    have i4 : 4 < s.size := by omega
    have i5 : 5 < s.size := by omega
    have b4 := byte_get i4
    have b5 := byte_get i5
    have l4 := byteAt_lt s 4
    have l5 := byteAt_lt s 5
    obtain ⟨x, hx⟩ : ∃ x, byteAt s 4 = x := ⟨_, rfl⟩
    obtain ⟨y, hy⟩ : ∃ y, byteAt s 5 = y := ⟨_, rfl⟩
    rw [hx] at b4 l4 HV
    rw [hy] at b5 l5 HV
    clear hm hx hy
    go_enter Try.func16, Try.ntmps16
    go_wp2_with fail
    refine (may_any _ _ _ hs).mono ?_; rintro e w1 ⟨rfl, hb⟩
    have c0 : w1.cell? ⟨w.heap.size, 0, none⟩ = some (.int .i64 0) := by
      rw [hb.cell (by simp)]
      simp
    have f0 : w1.frozen? ⟨w.heap.size, 0, none⟩ = false := by
      rw [hb.frozen (by simp)]
      simp
    have c1 : w1.cell? ⟨w.heap.size, 1, none⟩ = some (.int .i64 0) := by
      rw [hb.cell (by simp)]
      simp
    have f1 : w1.frozen? ⟨w.heap.size, 1, none⟩ = false := by
      rw [hb.frozen (by simp)]
      simp
    have c2 : w1.cell? ⟨w.heap.size, 2, none⟩ = some (.int .i64 0) := by
      rw [hb.cell (by simp)]
      simp
    have f2 : w1.frozen? ⟨w.heap.size, 2, none⟩ = false := by
      rw [hb.frozen (by simp)]
      simp
    have c3 : w1.cell? ⟨w.heap.size, 3, none⟩ = some (.string ⟨#[]⟩) := by
      rw [hb.cell (by simp)]
      simp
    have f3 : w1.frozen? ⟨w.heap.size, 3, none⟩ = false := by
      rw [hb.frozen (by simp)]
      simp
    have HB := Lib.hid (((Below.refl w.heap.size w).alloc (Nat.le_refl _) _).trans (hb.mono (by simp)))
    clear hb
    rw [HM.out]
    go_wp2_with fail
    refine (get_any s _ _ _ (by omega)).mono ?_; rintro e w' ⟨rfl, rfl⟩
    go_wp2
    go_region
    go_wp2
    refine bodyPost_ret (v := .tuple #[.agg #[.int .i64 (getN s 0 4), .int .i64 (x : Int), .int .i64 (y : Int), .string (s.extract 6 s.size)], .bool true]) (by simp [results, Try.results16, go_sem, c0, c1, c2, c3]) rfl ⟨by rw [HV.out], ?_⟩
    exact ((((HB.out.setCell (Nat.le_refl _) _).setCell (Nat.le_refl _) _).setCell (Nat.le_refl _) _).setCell (Nat.le_refl _) _).drew
end Go.Proofs.Ytgdbbdbfaglkdaa
