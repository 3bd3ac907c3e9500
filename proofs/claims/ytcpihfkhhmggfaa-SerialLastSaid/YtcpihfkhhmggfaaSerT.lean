/- SerialReads: the walk. -/
import Derived.Test.YtcpihfkhhmggfaaSerS
import Derived.Test.YtcpihfkhhmggfaaRow
namespace Go.Proofs.Ytcpihfkhhmggfaa
open Go.RowKit

theorem last_row (a : Option Addr) (len cap : Nat) (l : List Int) (w : World) (h : Row w a len l) (hbig : len ≤ 9223372036854775807) :
    Calls Try.prog 30 #[.slice a len cap] w fun e w' => e = .returned (.tuple #[.int .i64 (lastN l), .bool (lastOk l)]) ∧ w = w' := by
  obtain ⟨h1, h2⟩ := h
  by_cases h0 : len = 0
  · subst h0
    have : l = [] := by cases l with
      | nil => rfl
      | cons x l => simp at h1
    subst this
    exact last_none a cap w
  · rcases h2 with h2 | ⟨b, off, rfl, hlt, hc⟩
    · exact absurd h2 h0
    · exact last_some b off len cap l w h1 (by omega) hbig hc

theorem rlast_row (a : Option Addr) (len cap : Nat) (l : List Int) (w : World) (h : Row w a len l) (hbig : len ≤ 9223372036854775807) :
    Calls Try.prog 31 #[.slice a len cap] w fun e w' => e = .returned (.tuple #[.int .i64 (lastN l), .bool (lastOk l)]) ∧ Below w.heap.size w w' := by
  obtain ⟨h1, h2⟩ := h
  by_cases h0 : len = 0
  · subst h0
    have : l = [] := by cases l with
      | nil => rfl
      | cons x l => simp at h1
    subst this
    exact (rlast_none a cap w).mono fun e w' ⟨h, g⟩ => ⟨h, g ▸ Below.refl _ _⟩
  · rcases h2 with h2 | ⟨b, off, rfl, hlt, hc⟩
    · exact absurd h2 h0
    · exact rlast_some b off len cap l w hlt h1 hbig hc

set_option maxRecDepth 100000 in
set_option maxHeartbeats 1000000 in
theorem walkReads (a0 a1 a2 : Int) (a : Option Addr) (len cap : Nat) (l : List Int) (w : World) (h : Row w a len l) :
    Calls Try.prog 9 #[.int .i64 a0, .int .i64 a1, .int .i64 a2, .slice a len cap] w fun e w' => e = .returned (.bool true) ∧ Below w.heap.size w w' := by
  by_cases hl : len ≤ 500
  · have HR := Lib.hid h
    clear h
    have d := dF (p := (500 : Int) < (len : Int)) (by omega)
    go_enter Try.func9, Try.ntmps9
    go_wp2_with fail
    refine (sfirst _).mono ?_; rintro e w' ⟨rfl, rfl⟩
    go_wp2_with fail
    refine (add_any _ _ _).mono ?_; rintro e w' ⟨rfl, rfl⟩
    go_wp2_with fail
    refine (radd_any _ _ _).mono ?_; rintro e w' ⟨rfl, rfl⟩
    go_wp2_with fail
    refine (last_row _ _ _ _ _ HR.out (by omega)).mono ?_; rintro e w' ⟨rfl, rfl⟩
    go_wp2_with fail
    refine (rlast_row _ _ _ _ _ HR.out (by omega)).mono ?_; rintro e w' ⟨rfl, hb⟩
    have HB := Lib.hid hb
    clear hb
    go_wp2_with (first | (go_at_call 27; refine (sfirst _).mono ?_; rintro e w' ⟨rfl, rfl⟩) | (go_at_call 32; refine (newer_any _ _ _).mono ?_; rintro e w' ⟨rfl, rfl⟩) | (go_at_call 33; refine (rnewer_any _ _ _).mono ?_; rintro e w' ⟨rfl, rfl⟩) | (go_at_call 34; refine (clip_any _ _ _ _).mono ?_; rintro e w' ⟨rfl, rfl⟩) | (go_at_call 35; refine (rclip_any _ _ _ _).mono ?_; rintro e w' ⟨rfl, rfl⟩) | (go_at_call 36; refine (fresh_any _ _ _ _).mono ?_; rintro e w' ⟨rfl, rfl⟩) | (go_at_call 37; refine (rfresh_any _ _ _ _).mono ?_; rintro e w' ⟨rfl, rfl⟩))
    go_ret
    exact ⟨rfl, HB.out⟩
  · have d := dT (p := (500 : Int) < (len : Int)) (by omega)
    clear h
    go_enter Try.func9, Try.ntmps9
    go_wp2_with (first | (go_at_call 27; refine (sfirst _).mono ?_; rintro e w' ⟨rfl, rfl⟩))
    go_ret
    exact ⟨rfl, Below.refl _ _⟩
end Go.Proofs.Ytcpihfkhhmggfaa
