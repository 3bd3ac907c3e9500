/- The document's copies; a message, plain. -/
import Derived.Test.YtkoafkajmfodkaaFm5
import Derived.Test.YtkoafkajmfodkaaMgA
import Derived.Deep.RegionHeld3
namespace Go.Proofs.Ytkoafkajmfodkaa
open Go.RowKit

theorem copyRR5 (a : Option Addr) (n c : Nat) (l : List R5) (w : World) (h : RowR w a n l) (hn : a = none → n = 0 ∧ c = 0) (hlen : n ≤ 100000) :
    Calls Try.prog 16 #[.slice a n c] w fun e w' => ∃ v, e = .returned v ∧ w'.ownsRow w.heap.size 75 5 v n (flatR l) ∧ Below w.heap.size w w' := by
  obtain ⟨i0, hi, hz0, hz1, hz2⟩ := info_parts infoRR
  have HR := Lib.hid h
  have HN := Lib.hid hn
  clear h hn
  go_enter Try.func16, Try.ntmps16
  go_wp2_with (at_builtin; refine append_cellsK rfl _ _ 25 75 rfl i0 _ 5 56 Try.underlying25 hi hz0 hz1 hz2 rfl (by decide) w.heap.size _ 0 [] rfl (World.ownsRow_made w #[] 0 (Nat.le_refl _) (by decide) rfl) a n c (flatR l) rfl HN.out (HR.out.below ((Below.refl _ _).alloc (Nat.le_refl _) _)).2 (flatR_one l) (by omega) (by decide) (by simp) ?_)
  intro v' w' hown hgrow
  have HB := Lib.hid (((Below.refl w.heap.size w).alloc (Nat.le_refl _) _).grown hgrow (by simp) (fun k hk => by simp [Value.ownBlock] at hk; omega))
  have HO := Lib.hid hown
  clear hown hgrow
  go_wp2
  go_ret
  exact ⟨_, rfl, HO.out, HB.out⟩

set_option maxRecDepth 100000 in
set_option maxHeartbeats 4000000 in
theorem head_any (mi mo mr : Int) (b1 b2 b3 b4 b5 : Bool) (w : World) :
    Calls Try.prog 26 #[.agg #[.int .i64 mi, .int .i64 mo, .int .i64 mr, .bool b1, .bool b2, .bool b3, .bool b4, .bool b5]] w fun e w' => e = .returned (.agg #[.int .i64 mi, .int .i64 mo, .int .i64 mr, .bool b1, .bool b2, .bool b3, .bool b4, .bool b5]) ∧ Below w.heap.size w w' := by
  go_enter Try.func26, Try.ntmps26
  go_wp2
  refine bodyPost_ret (v := .agg #[.int .i64 mi, .int .i64 mo, .int .i64 mr, .bool b1, .bool b2, .bool b3, .bool b4, .bool b5]) (by simp [results, Try.results26, go_sem]) rfl ⟨rfl, ?_⟩
  repeat (first | exact Below.refl _ _ | refine Below.alloc ?_ (by simp) _ | refine Below.setCell ?_ (by simp) _)
set_option maxRecDepth 100000 in
set_option maxHeartbeats 4000000 in
theorem optD_any (s v r : Int) (d : Bool) (t : ByteArray) (w : World) :
    Calls Try.prog 41 #[.agg #[.int .i64 s, .int .i64 v, .int .i64 r, .bool d, .string t]] w fun e w' => e = .returned (.agg #[.int .i64 s, .int .i64 v, .int .i64 r, .bool d, .string t]) ∧ Below w.heap.size w w' := by
  go_enter Try.func41, Try.ntmps41
  go_wp2
  refine bodyPost_ret (v := .agg #[.int .i64 s, .int .i64 v, .int .i64 r, .bool d, .string t]) (by simp [results, Try.results41, go_sem]) rfl ⟨rfl, ?_⟩
  repeat (first | exact Below.refl _ _ | refine Below.alloc ?_ (by simp) _ | refine Below.setCell ?_ (by simp) _)
end Go.Proofs.Ytkoafkajmfodkaa
