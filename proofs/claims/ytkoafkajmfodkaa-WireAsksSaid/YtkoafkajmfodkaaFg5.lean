/- Flags, Unflag: walks. -/
import Derived.Test.YtkoafkajmfodkaaSaM
namespace Go.Proofs.Ytkoafkajmfodkaa
open Go.RowKit

set_option maxRecDepth 100000 in
theorem wfits_any (x m : Int) (w : World) : Calls Try.prog 58 #[.int .i64 x, .int .i64 m] w fun e w' => e = .returned (.bool (inR x m)) ∧ w = w' := by
  by_cases h1 : 0 ≤ x
  · have d1 := dT (p := 0 ≤ x) h1
    go_enter Try.func58, Try.ntmps58
    go_wp2
    go_ret
    exact ⟨ret_bool (by rw [inR, d1]; simp), rfl⟩
  · have d1 := dF (p := 0 ≤ x) h1
    go_enter Try.func58, Try.ntmps58
    go_wp2
    go_ret
    exact ⟨ret_bool (by rw [inR, d1]; rfl), rfl⟩
def FL (b1 b2 b3 b4 b5 : Bool) : List (Bool × Int) := [(b1, 32768), (b2, 1024), (b3, 512), (b4, 256), (b5, 128)]
def stepF (n : Int) (f : Bool × Int) : Int := if f.1 then bits .or .i64 n f.2 else n
/-- The flags of a header. -/
def flagV (o r : Int) (b1 b2 b3 b4 b5 : Bool) : Int := (FL b1 b2 b3 b4 b5).foldl stepF (bits .or .i64 (o * 2048) r)
def okF (o r : Int) : Bool := inR o 15 && inR r 15
theorem foldl_next {l : List (Bool × Int)} {k : Nat} {f : Bool × Int} (z : Int) (h : l[k]? = some f) : (l.take (k + 1)).foldl stepF z = stepF ((l.take k).foldl stepF z) f := by
  rw [List.take_add_one, h, List.foldl_append]; rfl
set_option maxRecDepth 100000 in
set_option maxHeartbeats 4000000 in
theorem flags_any (i o r : Int) (b1 b2 b3 b4 b5 : Bool) (w : World) :
    Calls Try.prog 19 #[.agg #[.int .i64 i, .int .i64 o, .int .i64 r, .bool b1, .bool b2, .bool b3, .bool b4, .bool b5]] w fun e w' => e = .returned (.tuple #[.int .i64 (if okF o r then flagV o r b1 b2 b3 b4 b5 else 0), .int .i64 (if okF o r then 0 else 1)]) ∧ Below w.heap.size w w' := by
  have hb1 := (Below.refl w.heap.size w).alloc (Nat.le_refl _) (.cells #[.int .i64 i, .int .i64 o, .int .i64 r, .bool b1, .bool b2, .bool b3, .bool b4, .bool b5] 23)
  cases h1 : inR o 15 with
  | false =>
    rw [show okF o r = false by rw [okF, h1]; rfl]
    simp only [Bool.false_eq_true, if_false]
    have HB := Lib.hid hb1
    clear hb1
    go_enter Try.func19, Try.ntmps19
    go_wp2_with fail
    refine (wfits_any _ _ _).mono ?_; rintro e w1 ⟨rfl, rfl⟩
    rw [h1]
    go_wp2
    go_ret2
    exact ⟨rfl, HB.out⟩
  | true =>
  cases h2 : inR r 15 with
  | false =>
    rw [show okF o r = false by rw [okF, h2]; simp]
    simp only [Bool.false_eq_true, if_false]
    have HB := Lib.hid hb1
    clear hb1
    go_enter Try.func19, Try.ntmps19
    go_wp2_with fail
    refine (wfits_any _ _ _).mono ?_; rintro e w1 ⟨rfl, rfl⟩
    rw [h1]
    go_wp2_with fail
    refine (wfits_any _ _ _).mono ?_; rintro e w1 ⟨rfl, rfl⟩
    rw [h2]
    go_wp2
    go_ret2
    exact ⟨rfl, HB.out⟩
  | true =>
  rw [show okF o r = true by rw [okF, h1, h2]; rfl]
  simp only [if_true]
  obtain ⟨o1, o2⟩ := inR_t h1
  obtain ⟨V, hV⟩ : ∃ x, flagV o r b1 b2 b3 b4 b5 = x := ⟨_, rfl⟩
  rw [hV]
  have HV := Lib.hid hV
  clear hV
  have hb2 := (Below.refl _ (w.alloc (.cells #[.int .i64 i, .int .i64 o, .int .i64 r, .bool b1, .bool b2, .bool b3, .bool b4, .bool b5] 23))).alloc (Nat.le_refl _) (.cells #[.bool b1, .int .i64 32768, .bool b2, .int .i64 1024, .bool b3, .int .i64 512, .bool b4, .int .i64 256, .bool b5, .int .i64 128] 112)
  have hbw := hb1.trans (hb2.mono hb1.size)
  have c2 := CN.new (w.alloc (.cells #[.int .i64 i, .int .i64 o, .int .i64 r, .bool b1, .bool b2, .bool b3, .bool b4, .bool b5] 23)) #[.bool b1, .int .i64 32768, .bool b2, .int .i64 1024, .bool b3, .int .i64 512, .bool b4, .int .i64 256, .bool b5, .int .i64 128] 112
  rw [World.size_alloc] at c2
  have HB2 := Lib.hid hbw
  have C2 := Lib.hid c2
  clear hb1 hb2 hbw c2
  obtain ⟨r1, r2⟩ := inR_t h2
  go_enter Try.func19, Try.ntmps19
  go_wp2_with fail
  refine (wfits_any _ _ _).mono ?_; rintro e w1 ⟨rfl, rfl⟩
  rw [h1]
  go_wp2_with fail
  refine (wfits_any _ _ _).mono ?_; rintro e w1 ⟨rfl, rfl⟩
  rw [h2]
  go_wp2_with fail
  clear h1 h2
  obtain ⟨w2, hw2⟩ : ∃ x, (w.alloc (.cells #[.int .i64 i, .int .i64 o, .int .i64 r, .bool b1, .bool b2, .bool b3, .bool b4, .bool b5] 23)).alloc (.cells #[.bool b1, .int .i64 32768, .bool b2, .int .i64 1024, .bool b3, .int .i64 512, .bool b4, .int .i64 256, .bool b5, .int .i64 128] 112) = x := ⟨_, rfl⟩
  obtain ⟨g, hg⟩ : ∃ x, w.heap.size + 1 = x := ⟨_, rfl⟩
  rw [hw2] at HB2 C2 ⊢
  rw [hg] at C2 ⊢
  clear hw2 hg
  go_loopw [4, 40] (fun n i wr => ∃ (k : Nat) (x : Int), k ≤ 5 ∧ i = .int .i64 k ∧ n = .int .i64 x ∧ Hid (((FL b1 b2 b3 b4 b5).take k).foldl stepF (bits .or .i64 (o * 2048) r) = x) ∧ Hid (Below w2.heap.size w2 wr)) (fun _ i _ => 5 - (intOf i).toNat)
  case atStart => exact ⟨0, _, by omega, rfl, rfl, Lib.hid rfl, Lib.hid (Below.refl _ _)⟩
  case round =>
    obtain ⟨k, x, hk, rfl, rfl, HX, HW⟩ := hrel
    by_cases hlt : k < 5
    · obtain ⟨b, z, hf, c0, c1⟩ : ∃ b z, (FL b1 b2 b3 b4 b5)[k]? = some (b, z) ∧ wr.cell? ⟨g, k * 2, none⟩ = some (.bool b) ∧ wr.cell? ⟨g, k * 2 + 1, none⟩ = some (.int .i64 z) := by
        obtain ⟨-, hc⟩ := C2.out.below HW.out
        have : k = 0 ∨ k = 1 ∨ k = 2 ∨ k = 3 ∨ k = 4 := by omega
        rcases this with rfl | rfl | rfl | rfl | rfl
        · exact ⟨_, _, rfl, (hc 0 _ rfl).1, (hc 1 _ rfl).1⟩
        · exact ⟨_, _, rfl, (hc 2 _ rfl).1, (hc 3 _ rfl).1⟩
        · exact ⟨_, _, rfl, (hc 4 _ rfl).1, (hc 5 _ rfl).1⟩
        · exact ⟨_, _, rfl, (hc 6 _ rfl).1, (hc 7 _ rfl).1⟩
        · exact ⟨_, _, rfl, (hc 8 _ rfl).1, (hc 9 _ rfl).1⟩
      have HN := Lib.hid (foldl_next (bits .or .i64 (o * 2048) r) hf)
      have HAL := Lib.hid (HW.out.alloc HW.out.size (.cells #[.bool b, .int .i64 z] 112))
      have i1 : (0 : Int) ≤ (k : Int) := by omega
      have i2 : (k : Int) < 5 := by omega
      clear hf
      cases b with
      | true =>
        go_wp2
        go_roundw
        case rel => exact ⟨k + 1, _, by omega, by go_num, rfl, Lib.hid (by rw [HN.out, HX.out]; rfl), HAL⟩
        case measure => simp [intOf]; omega
      | false =>
        go_wp2
        go_roundw
        case rel => exact ⟨k + 1, _, by omega, by go_num, rfl, Lib.hid (by rw [HN.out, HX.out]; rfl), HAL⟩
        case measure => simp [intOf]; omega
    · obtain rfl : k = 5 := by omega
      have HF := Lib.hid (show x = V by rw [← HX.out, ← HV.out]; rfl)
      have HBZ := Lib.hid (HB2.out.trans (HW.out.mono HB2.out.size))
      clear hlt hk
      go_wp2
      go_ret2
      exact ⟨by rw [HF.out]; rfl, HBZ.out⟩
set_option maxRecDepth 100000 in
set_option maxHeartbeats 4000000 in
theorem unflag_no (i f : Int) (w : World) (h : (inR i 65535 && inR f 65535) = false) :
    Calls Try.prog 21 #[.int .i64 i, .int .i64 f] w fun e w' => e = .returned (.tuple #[.agg #[.int .i64 0, .int .i64 0, .int .i64 0, .bool false, .bool false, .bool false, .bool false, .bool false], .int .i64 1]) ∧ Below w.heap.size w w' := by
  cases h1 : inR i 65535 with
  | false =>
    clear h
    go_enter Try.func21, Try.ntmps21
    go_wp2_with fail
    refine (wfits_any _ _ _).mono ?_; rintro e w1 ⟨rfl, rfl⟩
    rw [h1]
    go_wp2
    refine bodyPost_ret (v := .tuple #[.agg #[.int .i64 0, .int .i64 0, .int .i64 0, .bool false, .bool false, .bool false, .bool false, .bool false], .int .i64 1]) (by simp [results, Try.results21, go_sem]) rfl ⟨rfl, ?_⟩
    repeat (first | exact Below.refl _ _ | refine Below.alloc ?_ (by simp) _ | refine Below.setCell ?_ (by simp) _)
  | true =>
    have h2 : inR f 65535 = false := by rw [h1] at h; simpa using h
    clear h
    go_enter Try.func21, Try.ntmps21
    go_wp2_with fail
    refine (wfits_any _ _ _).mono ?_; rintro e w1 ⟨rfl, rfl⟩
    rw [h1]
    go_wp2_with fail
    refine (wfits_any _ _ _).mono ?_; rintro e w1 ⟨rfl, rfl⟩
    rw [h2]
    go_wp2
    refine bodyPost_ret (v := .tuple #[.agg #[.int .i64 0, .int .i64 0, .int .i64 0, .bool false, .bool false, .bool false, .bool false, .bool false], .int .i64 1]) (by simp [results, Try.results21, go_sem]) rfl ⟨rfl, ?_⟩
    repeat (first | exact Below.refl _ _ | refine Below.alloc ?_ (by simp) _ | refine Below.setCell ?_ (by simp) _)
set_option maxRecDepth 100000 in
set_option maxHeartbeats 4000000 in
theorem unflag_yes (i f : Int) (w : World) (h1 : inR i 65535 = true) (h2 : inR f 65535 = true) :
    Calls Try.prog 21 #[.int .i64 i, .int .i64 f] w fun e w' => e = .returned (.tuple #[.agg #[.int .i64 i, .int .i64 (bits .and .i64 (f / 2048) 15), .int .i64 (bits .and .i64 f 15), .bool (bits .and .i64 f 32768 != 0), .bool (bits .and .i64 f 1024 != 0), .bool (bits .and .i64 f 512 != 0), .bool (bits .and .i64 f 256 != 0), .bool (bits .and .i64 f 128 != 0)], .int .i64 0]) ∧ Below w.heap.size w w' := by
  go_enter Try.func21, Try.ntmps21
  go_wp2_with fail
  refine (wfits_any _ _ _).mono ?_; rintro e w1 ⟨rfl, rfl⟩
  rw [h1]
  go_wp2_with fail
  refine (wfits_any _ _ _).mono ?_; rintro e w1 ⟨rfl, rfl⟩
  rw [h2]
  clear h1 h2
  go_wp2
  refine bodyPost_ret (v := .tuple #[.agg #[.int .i64 i, .int .i64 (bits .and .i64 (f / 2048) 15), .int .i64 (bits .and .i64 f 15), .bool (bits .and .i64 f 32768 != 0), .bool (bits .and .i64 f 1024 != 0), .bool (bits .and .i64 f 512 != 0), .bool (bits .and .i64 f 256 != 0), .bool (bits .and .i64 f 128 != 0)], .int .i64 0]) (by simp [results, Try.results21, go_sem]) rfl ⟨rfl, ?_⟩
  repeat (first | exact Below.refl _ _ | refine Below.alloc ?_ (by simp) _ | refine Below.setCell ?_ (by simp) _)
end Go.Proofs.Ytkoafkajmfodkaa
