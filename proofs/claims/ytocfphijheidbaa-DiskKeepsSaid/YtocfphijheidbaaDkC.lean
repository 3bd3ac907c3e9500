/- A disk made: contract of New. -/
import Derived.Test.YtocfphijheidbaaMgV
import Derived.Laws.MakeOwn
namespace Go.Proofs.Ytocfphijheidbaa
open Go.RowKit

def zeroS : List UInt8 := List.replicate 256 0
theorem zeroS_at (j : Nat) (hj : j < 256) : zeroS.getD j 0 = 0 := by
  unfold zeroS
  rw [List.getD_eq_getElem?_getD, List.getElem?_eq_getElem (by rw [List.length_replicate]; exact hj), List.getElem_replicate]
  rfl
theorem secF_zero (i : Nat) : secF (fun _ => zeroS) i = 0 := by
  show ((zeroS.getD (i % 256) 0).toNat : Int) = 0
  rw [zeroS_at _ (Nat.mod_lt _ (by decide))]
  rfl
set_option maxRecDepth 100000 in
theorem infoSec : (Try.prog.info? 131).map (fun i => (i.zero, i.size, i.bytes)) = some (some (.agg (arL .u8 256 (fun _ => 0)).toArray), 256, 256) := by kernel_rfl
theorem made_gen (m N M : Nat) (hm : 0 < m) (hN : N = M) (f : Nat → Int) (hf : ∀ i, f i = 0) : madeCells (Value.agg (arL .u8 m (fun _ => 0)).toArray).cells N = (arL .u8 M f).toArray := by
  subst hN
  have h1 : ∀ i, i < N → ((Value.agg (arL .u8 m (fun _ => 0)).toArray).cells.getD (i % m) undef) = .int .u8 0 := fun i _ => by
    have := Nat.mod_lt i hm
    simp [Value.cells, arL, this]
  apply Array.ext
  · rw [size_madeCells, List.size_toArray, arL_length]
  · intro i h1 h2
    rw [size_madeCells] at h1
    have := Nat.mod_lt i hm
    simp [madeCells, Value.cells, arL, hf, this]
theorem made_sec (n : Nat) : madeCells (Value.agg (arL .u8 256 (fun _ => 0)).toArray).cells (n * 256) = (arL .u8 (256 * n) (secF (fun _ => zeroS))).toArray :=
  made_gen 256 _ _ (by decide) (by omega) _ secF_zero
theorem make_run (n : Nat) (hn : n ≤ 2048) (w : World) : (Instr.makeSlice 125 (.int .i64 (n : Int)) (.int .i64 (n : Int))).run Try.prog w = .ok (.slice (some ⟨w.heap.size, 0, none⟩) n n) (w.alloc (.cells (arL .u8 (256 * n) (secF (fun _ => zeroS))).toArray 131)) := by
  obtain ⟨i0, hi, hz0, hz1, hz2⟩ := info_parts infoSec
  have h := run_make (P := Try.prog) w 125 131 i0 _ Try.underlying125 hi hz0 .i64 .i64 (n : Int) (n : Int) (by omega) (by omega) (by rw [hz2]; omega) (by omega)
  rw [hz1, Int.toNat_natCast, made_sec] at h
  exact h
theorem valC_nilD (w : World) : ValC w (.slice none 0 0) [] := ⟨none, 0, rfl, Nat.le_refl _, ⟨rfl, Or.inl rfl⟩, fun _ => ⟨rfl, rfl⟩⟩
theorem new_dk (w : World) (n qd qr : Nat) (h3 : 3 ≤ n) (hn : n ≤ 2048) (C : Array Value) (hC : (arL .u8 (256 * n) (secF (fun _ => zeroS))).toArray = C) (hq : (qd = w.heap.size ∧ qr = w.heap.size + 1) ∨ (qd = w.heap.size + 1 ∧ qr = w.heap.size)) :
    DkS (((w.alloc (.cells C 131)).alloc (.cells C 131)).alloc (.cells #[.slice (some ⟨qd, 0, none⟩) n n, .slice (some ⟨qr, 0, none⟩) n n, .slice none 0 0, .bool false, .int .i64 0, .int .i64 0, .slice none 0 0] 128)).drew [w.heap.size, w.heap.size + 1, w.heap.size + 1 + 1] (w.heap.size + 1 + 1) ⟨n, fun _ => zeroS, fun _ => zeroS, [], false, 0, 0, [], n, n⟩ ∧
    Below w.heap.size w (((w.alloc (.cells C 131)).alloc (.cells C 131)).alloc (.cells #[.slice (some ⟨qd, 0, none⟩) n n, .slice (some ⟨qr, 0, none⟩) n n, .slice none 0 0, .bool false, .int .i64 0, .int .i64 0, .slice none 0 0] 128)).drew := by
  subst hC
  have a1 := arA_new (k := .u8) (n := 256 * n) (f := secF (fun _ => zeroS)) w 131
  have b1 := (Below.refl w.heap.size w).alloc (Nat.le_refl _) (.cells (arL .u8 (256 * n) (secF (fun _ => zeroS))).toArray 131)
  obtain ⟨w1, hw1⟩ : ∃ z, w.alloc (.cells (arL .u8 (256 * n) (secF (fun _ => zeroS))).toArray 131) = z := ⟨_, rfl⟩
  have s1 : w1.heap.size = w.heap.size + 1 := by rw [← hw1, World.size_alloc]
  rw [hw1] at a1 b1 ⊢
  have a2 := arA_new (k := .u8) (n := 256 * n) (f := secF (fun _ => zeroS)) w1 131
  have b2 := (Below.refl w1.heap.size w1).alloc (Nat.le_refl _) (.cells (arL .u8 (256 * n) (secF (fun _ => zeroS))).toArray 131)
  obtain ⟨w2, hw2⟩ : ∃ z, w1.alloc (.cells (arL .u8 (256 * n) (secF (fun _ => zeroS))).toArray 131) = z := ⟨_, rfl⟩
  have s2 : w2.heap.size = w.heap.size + 1 + 1 := by rw [← hw2, World.size_alloc, s1]
  rw [hw2] at a2 b2 ⊢
  rw [s1] at a2
  replace a1 := a1.below b2
  obtain ⟨L, hL⟩ : ∃ z, #[Value.slice (some ⟨qd, 0, none⟩) n n, .slice (some ⟨qr, 0, none⟩) n n, .slice none 0 0, .bool false, .int .i64 0, .int .i64 0, .slice none 0 0] = z := ⟨_, rfl⟩
  have b3 := ((Below.refl w2.heap.size w2).alloc (Nat.le_refl _) (.cells L 128)).drew
  have hd : ArA .u8 (256 * n) w2 qd 0 (secF (fun _ => zeroS)) := by rcases hq with ⟨h, _⟩ | ⟨h, _⟩ <;> rw [h] <;> assumption
  have hr : ArA .u8 (256 * n) w2 qr 0 (secF (fun _ => zeroS)) := by rcases hq with ⟨_, h⟩ | ⟨_, h⟩ <;> rw [h] <;> assumption
  have hc : DC (w2.alloc (.cells L 128)).drew (w.heap.size + 1 + 1) L.toList := by
    intro j c hj
    rw [← s2]
    show (w2.alloc _).cell? _ = _ ∧ (w2.alloc _).frozen? _ = _
    rw [World.cell?_alloc_new, World.frozen?_alloc_new, ← hj]
    exact ⟨by simp, rfl⟩
  have hsz : (w2.alloc (.cells L 128)).drew.heap.size = w.heap.size + 1 + 1 + 1 := by
    show (w2.alloc _).heap.size = _
    rw [World.size_alloc, s2]
  refine ⟨⟨qd, qr, .slice none 0 0, .slice none 0 0, ⟨by rw [hL]; rw [← hL] at hc; rw [← hL]; exact hc, by rw [hL]; exact hd.below b3, by rw [hL]; exact hr.below b3, World.ownsRow_nil _ _ _ _, valC_nilD _⟩, ⟨⟨by simp, by rcases hq with ⟨h, _⟩ | ⟨h, _⟩ <;> simp [h], by rcases hq with ⟨_, h⟩ | ⟨_, h⟩ <;> simp [h], (fun g hg => by cases hg), (fun b off l c e => by cases e)⟩, (fun b hb => by rw [hL, hsz]; simp at hb; omega), ⟨by omega, by omega, by omega, (fun g hg => by cases hg)⟩, (fun b off l c e => by cases e)⟩, ⟨⟨h3, hn⟩, (fun k _ => List.length_replicate), (fun k _ => List.length_replicate), (fun x hx => by cases hx)⟩⟩, ?_⟩
  rw [hL]
  exact (b1.trans (b2.mono b1.size)).trans (b3.mono (by omega))
set_option maxRecDepth 100000 in
set_option maxHeartbeats 1600000 in
theorem newD_yes (n : Nat) (w : World) (h3 : 3 ≤ n) (hn : n ≤ 2048) : Calls Try.prog 25 #[.int .i64 (n : Int)] w fun e w' => ∃ q bs, e = .returned (.tuple #[.pointer (some ⟨q, 0, none⟩), .int .i64 0]) ∧ DkS w' bs q ⟨n, fun _ => zeroS, fun _ => zeroS, [], false, 0, 0, [], n, n⟩ ∧ (∀ b ∈ bs, w.heap.size ≤ b) ∧ Below w.heap.size w w' := by
  have hmk := make_run n hn
  have d1 : decide ((n : Int) < 3) = false := dF (by omega)
  have d2 : decide ((2048 : Int) < (n : Int)) = false := dF (by omega)
  obtain ⟨C, hC⟩ : ∃ C, (arL .u8 (256 * n) (secF (fun _ => zeroS))).toArray = C := ⟨_, rfl⟩
  rw [hC] at hmk
  have HC := Lib.hid hC
  clear hC
  go_enter Try.func25, Try.ntmps25
  go_upto_region 3 with (fail)
  go_region
  all_goals go_wp2
  all_goals go_ret2
  · obtain ⟨h1, h2⟩ := new_dk w n w.heap.size (w.heap.size + 1) h3 hn C HC.out (Or.inl ⟨rfl, rfl⟩)
    exact ⟨_, _, rfl, h1, fun b hb => by simp at hb; omega, h2⟩
  · obtain ⟨h1, h2⟩ := new_dk w n (w.heap.size + 1) w.heap.size h3 hn C HC.out (Or.inr ⟨rfl, rfl⟩)
    exact ⟨_, _, rfl, h1, fun b hb => by simp at hb; omega, h2⟩
set_option maxRecDepth 100000 in
theorem newD_no (n : Int) (w : World) (h : n < 3 ∨ 2048 < n) : Calls Try.prog 25 #[.int .i64 n] w fun e w' => e = .returned (.tuple #[.pointer none, .int .i64 1]) ∧ w = w' := by
  have hd : decide (n < 3) = true ∨ decide (n < 3) = false ∧ decide (2048 < n) = true := by
    simp only [decide_eq_true_eq, decide_eq_false_iff_not]; omega
  clear h
  rcases hd with d1 | ⟨d1, d2⟩
  all_goals
    go_enter Try.func25, Try.ntmps25
    go_wp2
    go_ret2
    exact ⟨rfl, rfl⟩
end Go.Proofs.Ytocfphijheidbaa
