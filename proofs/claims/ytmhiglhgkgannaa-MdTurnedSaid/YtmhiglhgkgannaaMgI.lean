/- Texts that others rest on, one behind the other: ShA, ShB, ShC, ShP, ShD. -/
import Derived.Test.YtmhiglhgkgannaaMgA
import Derived.Deep.MidRow
import Derived.Laws.ResultCell
import Derived.Deep.DeepCutAuto
import Derived.StillTailTactics
import Derived.BigQuiet
import Derived.Deep.QuietTactic
import Derived.Laws.Tables
section
namespace Go.Proofs.Ytmhiglhgkgannaa
open Go.RowKit

/-- A word turned right. -/
def rotr (x : Int) (k : Nat) : Int := bits .or .u64 (IntKind.u64.wrap (x * 2 ^ (64 - k))) (x / 2 ^ k)
theorem or_comm64 (a b : Int) : bits .or .u64 a b = bits .or .u64 b a := by
  simp only [bits, BitVec.or_comm]
theorem rot1 (x : Int) (w : World) : Calls Try.prog 99 #[.int .u64 x, .int .i64 (-1)] w fun e w' => e = .returned (.int .u64 (rotr x 1)) ∧ w = w' := by
  have h1 : IntKind.u64.wrap (-1) = 18446744073709551615 := by decide +kernel
  have h2 : bits .and .u64 18446744073709551615 63 = 63 := by decide +kernel
  go_enter Try.func99, Try.ntmps99
  go_wp2
  go_ret
  exact ⟨rfl, rfl⟩
theorem rot8 (x : Int) (w : World) : Calls Try.prog 99 #[.int .u64 x, .int .i64 (-8)] w fun e w' => e = .returned (.int .u64 (rotr x 8)) ∧ w = w' := by
  have h1 : IntKind.u64.wrap (-8) = 18446744073709551608 := by decide +kernel
  have h2 : bits .and .u64 18446744073709551608 63 = 56 := by decide +kernel
  go_enter Try.func99, Try.ntmps99
  go_wp2
  go_ret
  exact ⟨rfl, rfl⟩
theorem rot14 (x : Int) (w : World) : Calls Try.prog 99 #[.int .u64 x, .int .i64 (-14)] w fun e w' => e = .returned (.int .u64 (rotr x 14)) ∧ w = w' := by
  have h1 : IntKind.u64.wrap (-14) = 18446744073709551602 := by decide +kernel
  have h2 : bits .and .u64 18446744073709551602 63 = 50 := by decide +kernel
  go_enter Try.func99, Try.ntmps99
  go_wp2
  go_ret
  exact ⟨rfl, rfl⟩
theorem rot18 (x : Int) (w : World) : Calls Try.prog 99 #[.int .u64 x, .int .i64 (-18)] w fun e w' => e = .returned (.int .u64 (rotr x 18)) ∧ w = w' := by
  have h1 : IntKind.u64.wrap (-18) = 18446744073709551598 := by decide +kernel
  have h2 : bits .and .u64 18446744073709551598 63 = 46 := by decide +kernel
  go_enter Try.func99, Try.ntmps99
  go_wp2
  go_ret
  exact ⟨rfl, rfl⟩
theorem rot19 (x : Int) (w : World) : Calls Try.prog 99 #[.int .u64 x, .int .i64 (-19)] w fun e w' => e = .returned (.int .u64 (rotr x 19)) ∧ w = w' := by
  have h1 : IntKind.u64.wrap (-19) = 18446744073709551597 := by decide +kernel
  have h2 : bits .and .u64 18446744073709551597 63 = 45 := by decide +kernel
  go_enter Try.func99, Try.ntmps99
  go_wp2
  go_ret
  exact ⟨rfl, rfl⟩
theorem rot28 (x : Int) (w : World) : Calls Try.prog 99 #[.int .u64 x, .int .i64 (-28)] w fun e w' => e = .returned (.int .u64 (rotr x 28)) ∧ w = w' := by
  have h1 : IntKind.u64.wrap (-28) = 18446744073709551588 := by decide +kernel
  have h2 : bits .and .u64 18446744073709551588 63 = 36 := by decide +kernel
  go_enter Try.func99, Try.ntmps99
  go_wp2
  go_ret
  exact ⟨rfl, rfl⟩
theorem rot34 (x : Int) (w : World) : Calls Try.prog 99 #[.int .u64 x, .int .i64 (-34)] w fun e w' => e = .returned (.int .u64 (rotr x 34)) ∧ w = w' := by
  have h1 : IntKind.u64.wrap (-34) = 18446744073709551582 := by decide +kernel
  have h2 : bits .and .u64 18446744073709551582 63 = 30 := by decide +kernel
  go_enter Try.func99, Try.ntmps99
  go_wp2
  go_ret
  exact ⟨rfl, rfl⟩
theorem rot39 (x : Int) (w : World) : Calls Try.prog 99 #[.int .u64 x, .int .i64 (-39)] w fun e w' => e = .returned (.int .u64 (rotr x 39)) ∧ w = w' := by
  have h1 : IntKind.u64.wrap (-39) = 18446744073709551577 := by decide +kernel
  have h2 : bits .and .u64 18446744073709551577 63 = 25 := by decide +kernel
  go_enter Try.func99, Try.ntmps99
  go_wp2
  go_ret
  exact ⟨rfl, rfl⟩
theorem rot41 (x : Int) (w : World) : Calls Try.prog 99 #[.int .u64 x, .int .i64 (-41)] w fun e w' => e = .returned (.int .u64 (rotr x 41)) ∧ w = w' := by
  have h1 : IntKind.u64.wrap (-41) = 18446744073709551575 := by decide +kernel
  have h2 : bits .and .u64 18446744073709551575 63 = 23 := by decide +kernel
  go_enter Try.func99, Try.ntmps99
  go_wp2
  go_ret
  exact ⟨rfl, rfl⟩
theorem rot61 (x : Int) (w : World) : Calls Try.prog 99 #[.int .u64 x, .int .i64 (-61)] w fun e w' => e = .returned (.int .u64 (rotr x 61)) ∧ w = w' := by
  have h1 : IntKind.u64.wrap (-61) = 18446744073709551555 := by decide +kernel
  have h2 : bits .and .u64 18446744073709551555 63 = 3 := by decide +kernel
  go_enter Try.func99, Try.ntmps99
  go_wp2
  go_ret
  exact ⟨rfl, rfl⟩
/-- A word turned in three ways, each laid over the others. -/
def turn3 (x : Int) (a b c : Nat) : Int := bits .xor .u64 (bits .xor .u64 (rotr x a) (rotr x b)) (rotr x c)
theorem turn14 (x : Int) (w : World) : Calls Try.prog 89 #[.int .u64 x, .int .i64 14, .int .i64 18, .int .i64 41] w fun e w' => e = .returned (.int .u64 (turn3 x 14 18 41)) ∧ w = w' := by
  go_enter Try.func89, Try.ntmps89
  go_wp2_with fail
  refine (rot14 _ _).mono ?_; rintro e w1 ⟨rfl, rfl⟩
  go_wp2_with fail
  refine (rot18 _ _).mono ?_; rintro e w1 ⟨rfl, rfl⟩
  go_wp2_with fail
  refine (rot41 _ _).mono ?_; rintro e w1 ⟨rfl, rfl⟩
  go_wp2
  go_ret
  exact ⟨rfl, rfl⟩
theorem turn28 (x : Int) (w : World) : Calls Try.prog 89 #[.int .u64 x, .int .i64 28, .int .i64 34, .int .i64 39] w fun e w' => e = .returned (.int .u64 (turn3 x 28 34 39)) ∧ w = w' := by
  go_enter Try.func89, Try.ntmps89
  go_wp2_with fail
  refine (rot28 _ _).mono ?_; rintro e w1 ⟨rfl, rfl⟩
  go_wp2_with fail
  refine (rot34 _ _).mono ?_; rintro e w1 ⟨rfl, rfl⟩
  go_wp2_with fail
  refine (rot39 _ _).mono ?_; rintro e w1 ⟨rfl, rfl⟩
  go_wp2
  go_ret
  exact ⟨rfl, rfl⟩
end Go.Proofs.Ytmhiglhgkgannaa
end

section
namespace Go.Proofs.Ytmhiglhgkgannaa
open Go.RowKit

/-- An array of numbers in a block. -/
def ArA (k : IntKind) (n : Nat) (w : World) (q o : Nat) (f : Nat → Int) : Prop := ∀ j, j < n → w.cell? ⟨q, o + j, none⟩ = some (.int k (f j)) ∧ w.frozen? ⟨q, o + j, none⟩ = false
def arL (k : IntKind) (n : Nat) (f : Nat → Int) : List Value := (List.range n).map fun j => Value.int k (f j)
section
variable {k : IntKind} {n : Nat} {w w' : World} {q o : Nat} {f g : Nat → Int}
theorem arL_length : (arL k n f).length = n := by simp [arL]
theorem arL_at {j : Nat} {v : Value} (h : (arL k n f)[j]? = some v) : j < n ∧ v = .int k (f j) := by
  have hj : j < n := by
    have := (List.getElem?_eq_some_iff.1 h).1
    rwa [arL_length] at this
  refine ⟨hj, ?_⟩
  simp [arL, hj] at h
  exact h.symm
theorem arL_get {j : Nat} (h : j < n) : (arL k n f)[j]? = some (.int k (f j)) := by simp [arL, h]
theorem ArA.range (h : ArA k n w q o f) : w.rangeAt q o (arL k n f) := by
  intro j v hv
  obtain ⟨h1, rfl⟩ := arL_at hv
  exact (h j h1).1
theorem ArA.there (h : ArA k n w q o f) : w.there q o n := by
  intro j hj
  rw [(h j hj).1, (h j hj).2]
  exact ⟨rfl, rfl⟩
theorem arL_one : (arL k n f).toArray.all (·.oneCell') = true := by
  refine all_oneCell_toArray ?_
  intro v hv
  simp only [arL, List.mem_map] at hv
  obtain ⟨_, _, rfl⟩ := hv
  rfl
theorem arA_stored (h : ArA k n w q o g) : ArA k n (w.setCells q o (arL k n f)) q o f := by
  have ht := h.there
  have h1 := World.rangeAt_setCells_same w q o (arL k n f) (by rw [arL_length]; exact ht)
  have h2 := World.there_setCells ht q o (arL k n f)
  intro j hj
  exact ⟨h1 j _ (arL_get hj), (h2 j hj).2⟩
theorem ArA.below (h : ArA k n w q o f) (hb : Below w.heap.size w w') : ArA k n w' q o f := by
  intro j hj
  obtain ⟨h1, h2⟩ := h j hj
  have hlt : q < w.heap.size := block_lt_of_cell h1
  exact ⟨by rw [hb.cell hlt]; exact h1, by rw [hb.frozen hlt]; exact h2⟩
theorem ArA.set (h : ArA k n w q o f) {i : Nat} (v : Int) : ArA k n (w.setCell ⟨q, o + i, none⟩ (.int k v)) q o (fun j => if j = i then v else f j) := by
  intro j hj
  obtain ⟨h1, h2⟩ := h j hj
  refine ⟨?_, by simpa using h2⟩
  show _ = some (Value.int k (if j = i then v else f j))
  by_cases e : j = i
  · subst e
    rw [if_pos rfl]
    exact World.cell?_setCell_same _ _ _ h1
  · rw [if_neg e, World.cell?_setCell_other _ _ _ _ (by intro h; injection h with _ h _; omega)]
    exact h1
theorem ArA.other (h : ArA k n w q o f) {p : Addr} (hk : p.block ≠ q) (v : Value) : ArA k n (w.setCell p v) q o f := by
  intro j hj
  obtain ⟨h1, h2⟩ := h j hj
  refine ⟨?_, by simpa using h2⟩
  rw [World.cell?_setCell_other _ _ _ _ (by rintro rfl; exact hk rfl)]
  exact h1
theorem shb_setCells {B : Nat} {w0 : World} (h : Below B w0 w) {b : Nat} (hb : B ≤ b) (o : Nat) (vs : List Value) : Below B w0 (w.setCells b o vs) := by
  induction vs generalizing o w with
  | nil => exact h
  | cons v vs ih => exact ih (h.setCell hb v) (o + 1)
theorem arA_new (w : World) (T : TypeId) : ArA k n (w.alloc (.cells (arL k n f).toArray T)) w.heap.size 0 f := by
  intro j hj
  rw [World.cell?_alloc_new, World.frozen?_alloc_new, Nat.zero_add]
  refine ⟨?_, rfl⟩
  rw [List.getElem?_toArray]
  exact arL_get hj
end
theorem zero80 : Try.zeroCells111 = (arL .u64 80 (fun _ => 0)).toArray := by kernel_rfl

/-- The words of a block: behind so many of its bytes. -/
def sch1 (b : Nat → Int) : Nat → Nat → Int
  | 0 => fun _ => 0
  | k + 1 => fun j => if j = k / 8 then bits .or .u64 (IntKind.u64.wrap (sch1 b k (k / 8) * 256)) (b k) else sch1 b k j
def sg0 (x : Int) : Int := bits .xor .u64 (bits .xor .u64 (rotr x 1) (rotr x 8)) (x / 128)
def sg1 (x : Int) : Int := bits .xor .u64 (bits .xor .u64 (rotr x 19) (rotr x 61)) (x / 64)
/-- .. behind so many of the words that follow. -/
def sch2 (b : Nat → Int) : Nat → Nat → Int
  | 0 => sch1 b 128
  | m + 1 => fun j => if j = m + 16 then IntKind.u64.wrap (IntKind.u64.wrap (IntKind.u64.wrap (sg1 (sch2 b m (m + 14)) + sch2 b m (m + 9)) + sg0 (sch2 b m (m + 1))) + sch2 b m m) else sch2 b m j

theorem results_cell1 {fn : Func} {p : Tmp} {ty : TypeId} (h : fn.results = #[.cell p ty]) (tmps : Array Value) (P : Program) (w : World) :
    (results fn tmps).run P w = ((asAddr (tmps.getD p undef)).run P w).andThen fun a w1 => (loadVar ty a).run P w1 := by
  simp only [results, h]
  simp [Sem.run_bind, Result.andThen]
theorem ix8 (cs : Array Value) (k : Nat) (v : Int) (hk : k < 128) (hc : cs[k]? = some (.int .u8 v)) (W : World) : (Instr.index 82 (.agg cs) (.int .i64 (k : Int))).run Try.prog W = .ok (.int .u8 v) W := by
  have h1 : (0 : Int) ≤ (k : Int) ∧ (k : Int) < ((128 : Nat) : Int) := by omega
  have z := Try.sizeOf5
  have a := Try.isAgg5
  simp [Instr.index, go_sem, h1, part, z, a, hc]
  intro h
  omega
set_option maxRecDepth 100000 in
set_option maxHeartbeats 4000000 in
theorem schedule_any (b : Nat → Int) (hb : ∀ j, 0 ≤ b j ∧ b j < 256) (w : World) : Calls Try.prog 87 #[.agg (arL .u8 128 b).toArray] w fun e w' => e = .returned (.agg (arL .u64 80 (sch2 b 64)).toArray) ∧ Below w.heap.size w w' := by
  have HZ := Lib.hid zero80
  have HB := Lib.hid hb
  clear hb
  have hA := (Below.refl w.heap.size w).alloc (Nat.le_refl _) (.cells (arL .u8 128 b).toArray 82)
  have hB2 := hA.alloc hA.size (.cells Try.zeroCells111 111)
  have hB3 := hB2.alloc hB2.size (.cells Try.zeroCells111 111)
  have a1 := arA_new (k := .u8) (n := 128) (f := b) w 82
  obtain ⟨w1, hw1⟩ : ∃ x, w.alloc (.cells (arL .u8 128 b).toArray 82) = x := ⟨_, rfl⟩
  have hs1 : w1.heap.size = w.heap.size + 1 := by rw [← hw1, World.size_alloc]
  rw [hw1] at a1 hA hB2 hB3
  have a2 := arA_new (k := .u64) (n := 80) (f := fun _ => 0) w1 111
  rw [← zero80] at a2
  have g2 := (Below.refl w1.heap.size w1).alloc (Nat.le_refl _) (.cells Try.zeroCells111 111)
  obtain ⟨w2, hw2⟩ : ∃ x, w1.alloc (.cells Try.zeroCells111 111) = x := ⟨_, rfl⟩
  have hs2 : w2.heap.size = w.heap.size + 1 + 1 := by rw [← hw2, World.size_alloc, hs1]
  rw [hw2] at a2 g2 hB2 hB3
  replace a1 := a1.below g2
  have a3 := arA_new (k := .u64) (n := 80) (f := fun _ => 0) w2 111
  rw [← zero80] at a3
  have g3 := (Below.refl w2.heap.size w2).alloc (Nat.le_refl _) (.cells Try.zeroCells111 111)
  obtain ⟨w3, hw3⟩ : ∃ x, w2.alloc (.cells Try.zeroCells111 111) = x := ⟨_, rfl⟩
  rw [hw3] at a3 g3 hB3
  replace a1 := a1.below g3
  replace a2 := a2.below g3
  rw [hs1] at a2
  rw [hs2] at a3
  obtain ⟨q1, hq1⟩ : ∃ x, w.heap.size = x := ⟨_, rfl⟩
  obtain ⟨q2, hq2⟩ : ∃ x, w.heap.size + 1 = x := ⟨_, rfl⟩
  obtain ⟨q3, hq3⟩ : ∃ x, w.heap.size + 1 + 1 = x := ⟨_, rfl⟩
  have HQ := Lib.hid (show w.heap.size ≤ q2 ∧ w.heap.size ≤ q3 ∧ q2 ≠ q3 by omega)
  have HQ1 := Lib.hid hq1
  have HQ2 := Lib.hid hq2
  have HQ3 := Lib.hid hq3
  have HA1 := Lib.hid (show ArA .u8 128 w3 q1 0 b by rw [← hq1]; exact a1)
  have HA2 := Lib.hid (show ArA .u64 80 w3 q2 0 (fun _ => 0) by rw [← hq2]; exact a2)
  have HA3 := Lib.hid (show ArA .u64 80 w3 q3 0 (fun _ => 0) by rw [← hq3]; exact a3)
  have HBW := Lib.hid hB3
  have HW1 := Lib.hid hw1
  have HW2 := Lib.hid hw2
  have HW3 := Lib.hid hw3
  clear hA hB2 hB3 a1 a2 a3 g2 g3 hw1 hw2 hw3 hs1 hs2 hq1 hq2 hq3
  go_enter Try.func87, Try.ntmps87
  go_upto_region 2 with (fail)
  rw [HW1.out, HW2.out, HW3.out, HQ3.out, HQ2.out, HQ1.out]
  clear HW1 HW2 HW3 HQ1 HQ2 HQ3
  go_wp2_with (refine wpList_load_mid rfl 82 (.tmp 1) rfl _ _ rfl _ _ HA1.out.range Try.underlying82 rfl (by rw [arL_length]; kernel_rfl) ?_)
  go_loopw [12] (fun i wr => ∃ k : Nat, k ≤ 128 ∧ i = .int .i64 k ∧ Hid (ArA .u64 80 wr q3 0 (sch1 b k)) ∧ Hid (ArA .u64 80 wr q2 0 (fun _ => 0)) ∧ Hid (Below w.heap.size w wr)) (fun i _ => 128 - (intOf i).toNat)
  case atStart => exact ⟨0, Nat.zero_le _, rfl, HA3, HA2, HBW⟩
  case round =>
    clear HA3 HA2 HBW
    obtain ⟨k, hk, rfl, HA3, HA2, HBW⟩ := hrel
    by_cases hlt : k < 128
    · obtain ⟨d, hd⟩ : ∃ x, k / 8 = x := ⟨_, rfl⟩
      have HD := Lib.hid hd
      have htd : (k : Int).tdiv 8 = (d : Int) := by rw [← hd]; exact (Int.ofNat_tdiv k 8).symm
      have hwd : IntKind.i64.wrap (d : Int) = (d : Int) := by rw [IntKind.wrap_i64]; omega
      have hdl : d < 80 := by omega
      obtain ⟨c1, f1⟩ := HA3.out d hdl
      rw [Nat.zero_add] at c1 f1
      obtain ⟨x, hx⟩ : ∃ z, sch1 b k d = z := ⟨_, rfl⟩
      obtain ⟨v, hv⟩ : ∃ z, b k = z := ⟨_, rfl⟩
      have hix := ix8 (arL .u8 128 b).toArray k v hlt (by rw [List.getElem?_toArray, arL_get hlt, hv])
      have hwv : IntKind.u64.wrap v = v := by have := HB.out k; rw [hv] at this; rw [IntKind.wrap_u64]; omega
      rw [hx] at c1
      have HS := Lib.hid (show ∀ wz, Hid (ArA .u64 80 wz q3 0 (sch1 b k)) → ArA .u64 80 (wz.setCell ⟨q3, d, none⟩ (.int .u64 (bits .or .u64 (IntKind.u64.wrap (x * 256)) v))) q3 0 (sch1 b (k + 1)) from fun wz hz => by
        have h := hz.out.set (i := d) (bits .or .u64 (IntKind.u64.wrap (x * 256)) v)
        rw [Nat.zero_add] at h
        have e : sch1 b (k + 1) = fun j => if j = d then bits .or .u64 (IntKind.u64.wrap (x * 256)) v else sch1 b k j := by rw [sch1, HD.out, hx, hv]
        rw [e]
        exact h)
      have HK := Lib.hid hlt
      have HN := Lib.hid HQ.out.2.2
      clear hd hx hv
      go_wp2
      go_roundw
      case rel => exact ⟨k + 1, HK.out, by go_num, Lib.hid (HS.out _ HA3), Lib.hid (HA2.out.other (fun e => HN.out e.symm) _), Lib.hid (HBW.out.setCell HQ.out.2.1 _)⟩
      case measure =>
        simp only [intOf]
        have := HK.out
        omega
    · have hk128 : k = 128 := by omega
      replace HA3 := Lib.hid (show ArA .u64 80 wr q3 0 (sch2 b 0) from by have h := HA3.out; rw [hk128] at h; exact h)
      have d0 := dF (p := k < 128) hlt
      have d0i : decide ((k : Int) < 128) = false := dF (by omega)
      clear hlt hk hk128
      go_wp2_with fail
      go_loopw [6] (fun i wx => ∃ m t : Nat, m ≤ 64 ∧ i = .int .i64 t ∧ Hid (t = m + 16) ∧ Hid (ArA .u64 80 wx q3 0 (sch2 b m)) ∧ Hid (ArA .u64 80 wx q2 0 (fun _ => 0)) ∧ Hid (Below w.heap.size w wx)) (fun i _ => 80 - (intOf i).toNat)
      case atStart => exact ⟨0, 16, Nat.zero_le _, rfl, Lib.hid rfl, HA3, HA2, HBW⟩
      case round =>
        clear HA3 HA2 HBW
        obtain ⟨m, t, hm, rfl, HT, HA3, HA2, HBW⟩ := hrel
        by_cases hlt : m < 64
        rotate_left
        · have hm64 : m = 64 := by omega
          subst hm64
          have d1 : decide ((t : Int) < 80) = false := dF (by have := HT.out; omega)
          clear hlt hm
          have HQ2 := Lib.hid HQ.out.1
          go_wp2_with (first | (refine wpList_load_mid rfl 111 (.tmp 3) rfl _ _ rfl _ _ HA3.out.range Try.underlying111 rfl (by rw [arL_length]; kernel_rfl) ?_) | (refine wpList_store_mid rfl 111 (.tmp 2) (.tmp 71) rfl _ _ _ rfl rfl HA2.out.there (by rw [List.size_toArray, arL_length]; kernel_rfl) arL_one ?_))
          refine bodyPost_ret (v := .agg (arL .u64 80 (sch2 b 64)).toArray) ?_ rfl ⟨rfl, shb_setCells HBW.out HQ2.out _ _⟩
          rw [results_cell1 Try.results87]
          have hr := run_loadVar_mid (P := Try.prog) (wr.setCells q2 0 (arL .u64 80 (sch2 b 64))) q2 0 111 (arL .u64 80 (sch2 b 64)) _ (arA_stored HA2.out).range Try.underlying111 rfl (by rw [arL_length]; kernel_rfl)
          show ((asAddr (.pointer (some ⟨q2, 0, none⟩))).run Try.prog _).andThen _ = _
          simp [asAddr, hr]
        have ht := HT.out
        have d1 : decide ((t : Int) < 80) = true := dT (by omega)
        have htl : t < 80 := by omega
        obtain ⟨i15, hi15⟩ : ∃ z, m + 1 = z := ⟨_, rfl⟩
        have si15 : (t : Int) - 15 = (i15 : Int) := by omega
        have wi15 : IntKind.i64.wrap (i15 : Int) = (i15 : Int) := by rw [IntKind.wrap_i64]; omega
        have li15 : i15 < 80 := by omega
        obtain ⟨ci15, -⟩ := HA3.out i15 li15
        rw [Nat.zero_add] at ci15
        obtain ⟨xi15, hxi15⟩ : ∃ z, sch2 b m i15 = z := ⟨_, rfl⟩
        rw [hxi15] at ci15
        obtain ⟨i2, hi2⟩ : ∃ z, m + 14 = z := ⟨_, rfl⟩
        have si2 : (t : Int) - 2 = (i2 : Int) := by omega
        have wi2 : IntKind.i64.wrap (i2 : Int) = (i2 : Int) := by rw [IntKind.wrap_i64]; omega
        have li2 : i2 < 80 := by omega
        obtain ⟨ci2, -⟩ := HA3.out i2 li2
        rw [Nat.zero_add] at ci2
        obtain ⟨xi2, hxi2⟩ : ∃ z, sch2 b m i2 = z := ⟨_, rfl⟩
        rw [hxi2] at ci2
        obtain ⟨i7, hi7⟩ : ∃ z, m + 9 = z := ⟨_, rfl⟩
        have si7 : (t : Int) - 7 = (i7 : Int) := by omega
        have wi7 : IntKind.i64.wrap (i7 : Int) = (i7 : Int) := by rw [IntKind.wrap_i64]; omega
        have li7 : i7 < 80 := by omega
        obtain ⟨ci7, -⟩ := HA3.out i7 li7
        rw [Nat.zero_add] at ci7
        obtain ⟨xi7, hxi7⟩ : ∃ z, sch2 b m i7 = z := ⟨_, rfl⟩
        rw [hxi7] at ci7
        obtain ⟨i16, hi16⟩ : ∃ z, m + 0 = z := ⟨_, rfl⟩
        have si16 : (t : Int) - 16 = (i16 : Int) := by omega
        have wi16 : IntKind.i64.wrap (i16 : Int) = (i16 : Int) := by rw [IntKind.wrap_i64]; omega
        have li16 : i16 < 80 := by omega
        obtain ⟨ci16, -⟩ := HA3.out i16 li16
        rw [Nat.zero_add] at ci16
        obtain ⟨xi16, hxi16⟩ : ∃ z, sch2 b m i16 = z := ⟨_, rfl⟩
        rw [hxi16] at ci16
        have HM := Lib.hid (show m < 64 from hlt)
        clear hm hlt ht
        go_upto_region 10 with (fail)
        go_quiet (fail)
        rename_i nq
        have hbq := below_drewN (Below.refl wr.heap.size wr) nq
        replace HA3 := Lib.hid (HA3.out.below hbq)
        replace HA2 := Lib.hid (HA2.out.below hbq)
        replace HBW := Lib.hid (HBW.out.trans (hbq.mono HBW.out.size))
        obtain ⟨w5, hw5⟩ : ∃ z, wr.drewN nq = z := ⟨_, rfl⟩
        rw [hw5] at HA3 HA2 HBW ⊢
        clear hbq hw5 ci15 ci2 ci7 ci16
        go_wp2_with fail
        refine (rot1 xi15 _).mono ?_; rintro e wz ⟨rfl, rfl⟩
        go_wp2_with fail
        refine (rot8 xi15 _).mono ?_; rintro e wz ⟨rfl, rfl⟩
        go_wp2_with fail
        refine (rot19 xi2 _).mono ?_; rintro e wz ⟨rfl, rfl⟩
        go_wp2_with fail
        refine (rot61 xi2 _).mono ?_; rintro e wz ⟨rfl, rfl⟩
        obtain ⟨ci7, -⟩ := HA3.out i7 li7
        rw [Nat.zero_add, hxi7] at ci7
        obtain ⟨ci16, -⟩ := HA3.out i16 li16
        rw [Nat.zero_add, hxi16] at ci16
        obtain ⟨ct, ft⟩ := HA3.out t htl
        rw [Nat.zero_add] at ct ft
        obtain ⟨xt, hxt⟩ : ∃ z, sch2 b m t = z := ⟨_, rfl⟩
        rw [hxt] at ct
        have p7 : (0 : Int) ≤ (i7 : Int) := by omega
        have r7 : (i7 : Int) < 80 := by omega
        have p16 : (0 : Int) ≤ (i16 : Int) := by omega
        have r16 : (i16 : Int) < 80 := by omega
        have pt : (0 : Int) ≤ (t : Int) := by omega
        have rt : (t : Int) < 80 := by omega
        have e7 : ({ heap := w5.heap, tape := w5.tape, drawn := w5.drawn + 1, os := w5.os, output := w5.output } : World).cell? ⟨q3, i7, none⟩ = some (.int .u64 xi7) := ci7
        have e16 : ({ heap := w5.heap, tape := w5.tape, drawn := w5.drawn + 1, os := w5.os, output := w5.output } : World).cell? ⟨q3, i16, none⟩ = some (.int .u64 xi16) := ci16
        go_upto_region 13 with (fail)
        go_still_tail 15, (by kernel_rfl)
        change wpList _ _ _ _ _ w5.drew
        have hbd := (Below.refl w5.heap.size w5).drew
        replace HA3 := Lib.hid (HA3.out.below hbd)
        replace HA2 := Lib.hid (HA2.out.below hbd)
        replace HBW := Lib.hid (HBW.out.trans (hbd.mono HBW.out.size))
        obtain ⟨w6, hw6⟩ : ∃ z, w5.drew = z := ⟨_, rfl⟩
        rw [hw6] at HA3 HA2 HBW ⊢
        clear e7 e16 ci7 ci16 ct ft hbd hw6
        obtain ⟨ct, ft⟩ := HA3.out t htl
        rw [Nat.zero_add] at ct ft
        rw [hxt] at ct
        obtain ⟨y, hy⟩ : ∃ z, IntKind.u64.wrap (IntKind.u64.wrap (IntKind.u64.wrap (sg1 xi2 + xi7) + sg0 xi15) + xi16) = z := ⟨_, rfl⟩
        have HS := Lib.hid (show ArA .u64 80 (w6.setCell ⟨q3, t, none⟩ (.int .u64 y)) q3 0 (sch2 b (m + 1)) by
          have h := HA3.out.set (i := t) y
          rw [Nat.zero_add] at h
          have e : sch2 b (m + 1) = fun j => if j = t then y else sch2 b m j := by
            rw [sch2, ← HT.out]
            have z1 : sch2 b m (m + 14) = xi2 := by rw [hi2]; exact hxi2
            have z2 : sch2 b m (m + 9) = xi7 := by rw [hi7]; exact hxi7
            have z3 : sch2 b m (m + 1) = xi15 := by rw [hi15]; exact hxi15
            have z4 : sch2 b m m = xi16 := by have := hxi16; rw [← hi16] at this; exact this
            rw [z1, z2, z3, z4, hy]
          rw [e]
          exact h)
        subst hy
        have HN := Lib.hid HQ.out.2.2
        have HHT := Lib.hid HT.out
        go_wp2
        go_roundw
        case rel => exact ⟨m + 1, t + 1, HM.out, by go_num, Lib.hid (by have := HHT.out; omega), Lib.hid HS.out, Lib.hid (HA2.out.other (fun e => HN.out e.symm) _), Lib.hid (HBW.out.setCell HQ.out.2.1 _)⟩
        case measure =>
          simp only [intOf]
          have := HM.out
          have := HHT.out
          omega
end Go.Proofs.Ytmhiglhgkgannaa
end

section
namespace Go.Proofs.Ytmhiglhgkgannaa
open Go.RowKit

def iniL : List Int := [14680500436340154072, 7105036623409894663, 10473403895298186519, 1526699215303891257, 7436329637833083697, 10282925794625328401, 15784041429090275239, 5167115440072839076]
def kayL : List Int := [4794697086780616226, 8158064640168781261, 13096744586834688815, 16840607885511220156, 4131703408338449720, 6480981068601479193, 10538285296894168987, 12329834152419229976, 15566598209576043074, 1334009975649890238, 2608012711638119052, 6128411473006802146, 8268148722764581231, 9286055187155687089, 11230858885718282805, 13951009754708518548, 16472876342353939154, 17275323862435702243, 1135362057144423861, 2597628984639134821, 3308224258029322869, 5365058923640841347, 6679025012923562964, 8573033837759648693, 10970295158949994411, 12119686244451234320, 12683024718118986047, 13788192230050041572, 14330467153632333762, 15395433587784984357, 489312712824947311, 1452737877330783856, 2861767655752347644, 3322285676063803686, 5560940570517711597, 5996557281743188959, 7280758554555802590, 8532644243296465576, 9350256976987008742, 10552545826968843579, 11727347734174303076, 12113106623233404929, 14000437183269869457, 14369950271660146224, 15101387698204529176, 15463397548674623760, 17586052441742319658, 1182934255886127544, 1847814050463011016, 2177327727835720531, 2830643537854262169, 3796741975233480872, 4115178125766777443, 5681478168544905931, 6601373596472566643, 7507060721942968483, 8399075790359081724, 8693463985226723168, 9568029438360202098, 10144078919501101548, 10430055236837252648, 11840083180663258601, 13761210420658862357, 14299343276471374635, 14566680578165727644, 15097957966210449927, 16922976911328602910, 17689382322260857208, 500013540394364858, 748580250866718886, 1242879168328830382, 1977374033974150939, 2944078676154940804, 3659926193048069267, 4368137639120453308, 4836135668995329356, 5532061633213252278, 6448918945643986474, 6902733635092675308, 7801388544844847127]
def iniF (j : Nat) : Int := iniL.getD j 0
def kayF (j : Nat) : Int := kayL.getD j 0
theorem zero8 : #[Value.int .u64 0, Value.int .u64 0, Value.int .u64 0, Value.int .u64 0, Value.int .u64 0, Value.int .u64 0, Value.int .u64 0, Value.int .u64 0] = (arL .u64 8 (fun _ => 0)).toArray := by kernel_rfl
set_option maxRecDepth 100000 in
theorem ini_lit : #[Value.int .u64 14680500436340154072, Value.int .u64 7105036623409894663, Value.int .u64 10473403895298186519, Value.int .u64 1526699215303891257, Value.int .u64 7436329637833083697, Value.int .u64 10282925794625328401, Value.int .u64 15784041429090275239, Value.int .u64 5167115440072839076] = (arL .u64 8 iniF).toArray := by kernel_rfl
set_option maxRecDepth 100000 in
theorem kay_lit : #[Value.int .u64 4794697086780616226, Value.int .u64 8158064640168781261, Value.int .u64 13096744586834688815, Value.int .u64 16840607885511220156, Value.int .u64 4131703408338449720, Value.int .u64 6480981068601479193, Value.int .u64 10538285296894168987, Value.int .u64 12329834152419229976, Value.int .u64 15566598209576043074, Value.int .u64 1334009975649890238, Value.int .u64 2608012711638119052, Value.int .u64 6128411473006802146, Value.int .u64 8268148722764581231, Value.int .u64 9286055187155687089, Value.int .u64 11230858885718282805, Value.int .u64 13951009754708518548, Value.int .u64 16472876342353939154, Value.int .u64 17275323862435702243, Value.int .u64 1135362057144423861, Value.int .u64 2597628984639134821, Value.int .u64 3308224258029322869, Value.int .u64 5365058923640841347, Value.int .u64 6679025012923562964, Value.int .u64 8573033837759648693, Value.int .u64 10970295158949994411, Value.int .u64 12119686244451234320, Value.int .u64 12683024718118986047, Value.int .u64 13788192230050041572, Value.int .u64 14330467153632333762, Value.int .u64 15395433587784984357, Value.int .u64 489312712824947311, Value.int .u64 1452737877330783856, Value.int .u64 2861767655752347644, Value.int .u64 3322285676063803686, Value.int .u64 5560940570517711597, Value.int .u64 5996557281743188959, Value.int .u64 7280758554555802590, Value.int .u64 8532644243296465576, Value.int .u64 9350256976987008742, Value.int .u64 10552545826968843579, Value.int .u64 11727347734174303076, Value.int .u64 12113106623233404929, Value.int .u64 14000437183269869457, Value.int .u64 14369950271660146224, Value.int .u64 15101387698204529176, Value.int .u64 15463397548674623760, Value.int .u64 17586052441742319658, Value.int .u64 1182934255886127544, Value.int .u64 1847814050463011016, Value.int .u64 2177327727835720531, Value.int .u64 2830643537854262169, Value.int .u64 3796741975233480872, Value.int .u64 4115178125766777443, Value.int .u64 5681478168544905931, Value.int .u64 6601373596472566643, Value.int .u64 7507060721942968483, Value.int .u64 8399075790359081724, Value.int .u64 8693463985226723168, Value.int .u64 9568029438360202098, Value.int .u64 10144078919501101548, Value.int .u64 10430055236837252648, Value.int .u64 11840083180663258601, Value.int .u64 13761210420658862357, Value.int .u64 14299343276471374635, Value.int .u64 14566680578165727644, Value.int .u64 15097957966210449927, Value.int .u64 16922976911328602910, Value.int .u64 17689382322260857208, Value.int .u64 500013540394364858, Value.int .u64 748580250866718886, Value.int .u64 1242879168328830382, Value.int .u64 1977374033974150939, Value.int .u64 2944078676154940804, Value.int .u64 3659926193048069267, Value.int .u64 4368137639120453308, Value.int .u64 4836135668995329356, Value.int .u64 5532061633213252278, Value.int .u64 6448918945643986474, Value.int .u64 6902733635092675308, Value.int .u64 7801388544844847127] = (arL .u64 80 kayF).toArray := by kernel_rfl
def kayB : Array (Nat × Operand) := #[(0, Operand.const (Value.int .u64 4794697086780616226)), (1, Operand.const (Value.int .u64 8158064640168781261)), (2, Operand.const (Value.int .u64 13096744586834688815)), (3, Operand.const (Value.int .u64 16840607885511220156)), (4, Operand.const (Value.int .u64 4131703408338449720)), (5, Operand.const (Value.int .u64 6480981068601479193)), (6, Operand.const (Value.int .u64 10538285296894168987)), (7, Operand.const (Value.int .u64 12329834152419229976)), (8, Operand.const (Value.int .u64 15566598209576043074)), (9, Operand.const (Value.int .u64 1334009975649890238)), (10, Operand.const (Value.int .u64 2608012711638119052)), (11, Operand.const (Value.int .u64 6128411473006802146)), (12, Operand.const (Value.int .u64 8268148722764581231)), (13, Operand.const (Value.int .u64 9286055187155687089)), (14, Operand.const (Value.int .u64 11230858885718282805)), (15, Operand.const (Value.int .u64 13951009754708518548)), (16, Operand.const (Value.int .u64 16472876342353939154)), (17, Operand.const (Value.int .u64 17275323862435702243)), (18, Operand.const (Value.int .u64 1135362057144423861)), (19, Operand.const (Value.int .u64 2597628984639134821)), (20, Operand.const (Value.int .u64 3308224258029322869)), (21, Operand.const (Value.int .u64 5365058923640841347)), (22, Operand.const (Value.int .u64 6679025012923562964)), (23, Operand.const (Value.int .u64 8573033837759648693)), (24, Operand.const (Value.int .u64 10970295158949994411)), (25, Operand.const (Value.int .u64 12119686244451234320)), (26, Operand.const (Value.int .u64 12683024718118986047)), (27, Operand.const (Value.int .u64 13788192230050041572)), (28, Operand.const (Value.int .u64 14330467153632333762)), (29, Operand.const (Value.int .u64 15395433587784984357)), (30, Operand.const (Value.int .u64 489312712824947311)), (31, Operand.const (Value.int .u64 1452737877330783856)), (32, Operand.const (Value.int .u64 2861767655752347644)), (33, Operand.const (Value.int .u64 3322285676063803686)), (34, Operand.const (Value.int .u64 5560940570517711597)), (35, Operand.const (Value.int .u64 5996557281743188959)), (36, Operand.const (Value.int .u64 7280758554555802590)), (37, Operand.const (Value.int .u64 8532644243296465576)), (38, Operand.const (Value.int .u64 9350256976987008742)), (39, Operand.const (Value.int .u64 10552545826968843579)), (40, Operand.const (Value.int .u64 11727347734174303076)), (41, Operand.const (Value.int .u64 12113106623233404929)), (42, Operand.const (Value.int .u64 14000437183269869457)), (43, Operand.const (Value.int .u64 14369950271660146224)), (44, Operand.const (Value.int .u64 15101387698204529176)), (45, Operand.const (Value.int .u64 15463397548674623760)), (46, Operand.const (Value.int .u64 17586052441742319658)), (47, Operand.const (Value.int .u64 1182934255886127544)), (48, Operand.const (Value.int .u64 1847814050463011016)), (49, Operand.const (Value.int .u64 2177327727835720531)), (50, Operand.const (Value.int .u64 2830643537854262169)), (51, Operand.const (Value.int .u64 3796741975233480872)), (52, Operand.const (Value.int .u64 4115178125766777443)), (53, Operand.const (Value.int .u64 5681478168544905931)), (54, Operand.const (Value.int .u64 6601373596472566643)), (55, Operand.const (Value.int .u64 7507060721942968483)), (56, Operand.const (Value.int .u64 8399075790359081724)), (57, Operand.const (Value.int .u64 8693463985226723168)), (58, Operand.const (Value.int .u64 9568029438360202098)), (59, Operand.const (Value.int .u64 10144078919501101548)), (60, Operand.const (Value.int .u64 10430055236837252648)), (61, Operand.const (Value.int .u64 11840083180663258601)), (62, Operand.const (Value.int .u64 13761210420658862357)), (63, Operand.const (Value.int .u64 14299343276471374635)), (64, Operand.const (Value.int .u64 14566680578165727644)), (65, Operand.const (Value.int .u64 15097957966210449927)), (66, Operand.const (Value.int .u64 16922976911328602910)), (67, Operand.const (Value.int .u64 17689382322260857208)), (68, Operand.const (Value.int .u64 500013540394364858)), (69, Operand.const (Value.int .u64 748580250866718886)), (70, Operand.const (Value.int .u64 1242879168328830382)), (71, Operand.const (Value.int .u64 1977374033974150939)), (72, Operand.const (Value.int .u64 2944078676154940804)), (73, Operand.const (Value.int .u64 3659926193048069267)), (74, Operand.const (Value.int .u64 4368137639120453308)), (75, Operand.const (Value.int .u64 4836135668995329356)), (76, Operand.const (Value.int .u64 5532061633213252278)), (77, Operand.const (Value.int .u64 6448918945643986474)), (78, Operand.const (Value.int .u64 6902733635092675308)), (79, Operand.const (Value.int .u64 7801388544844847127))]
set_option maxRecDepth 100000 in
theorem kay_built (a : Act) : Try.prog.built 111 (kayB.map fun (i, x) => (i, a.eval x)).toList = some (arL .u64 80 kayF).toArray := by kernel_rfl
set_option maxRecDepth 100000 in
set_option maxHeartbeats 4000000 in
theorem first_any (w : World) : Calls Try.prog 53 #[] w fun e w' => e = .returned (.agg (arL .u64 8 iniF).toArray) ∧ Below w.heap.size w w' := by
  have hB := (Below.refl w.heap.size w).alloc (Nat.le_refl _) (.cells #[Value.int .u64 0, Value.int .u64 0, Value.int .u64 0, Value.int .u64 0, Value.int .u64 0, Value.int .u64 0, Value.int .u64 0, Value.int .u64 0] 80)
  have a0 := arA_new (k := .u64) (n := 8) (f := fun _ => 0) w 80
  rw [← zero8] at a0
  obtain ⟨w1, hw1⟩ : ∃ x, w.alloc (.cells #[Value.int .u64 0, Value.int .u64 0, Value.int .u64 0, Value.int .u64 0, Value.int .u64 0, Value.int .u64 0, Value.int .u64 0, Value.int .u64 0] 80) = x := ⟨_, rfl⟩
  obtain ⟨q, hq⟩ : ∃ x, w.heap.size = x := ⟨_, rfl⟩
  rw [hw1] at a0 hB
  have HQ := Lib.hid (show w.heap.size ≤ q by omega)
  have HA := Lib.hid (show ArA .u64 8 w1 q 0 (fun _ => 0) by rw [← hq]; exact a0)
  have HB := Lib.hid hB
  have HW := Lib.hid hw1
  have HQE := Lib.hid hq
  have HL := Lib.hid ini_lit
  clear a0 hB hw1 hq
  go_enter Try.func53, Try.ntmps53
  go_upto_region 1 with (fail)
  rw [HW.out, HQE.out]
  clear HW HQE
  iterate 4 go_step
  rw [HL.out]
  refine wpList_store_mid rfl 80 (.tmp 0) (.tmp 1) rfl _ _ (arL .u64 8 iniF).toArray rfl rfl (by rw [List.size_toArray, arL_length]; exact HA.out.there) (by rw [List.size_toArray, arL_length]; kernel_rfl) arL_one ?_
  clear HL
  iterate 5 go_step
  refine bodyPost_ret (v := .agg (arL .u64 8 iniF).toArray) ?_ rfl ⟨rfl, shb_setCells HB.out HQ.out _ _⟩
  rw [results_cell1 Try.results53]
  have hr := run_loadVar_mid (P := Try.prog) (w1.setCells q 0 (arL .u64 8 iniF)) q 0 80 (arL .u64 8 iniF) _ (arA_stored HA.out).range Try.underlying80 rfl (by rw [arL_length]; kernel_rfl)
  show ((asAddr (.pointer (some ⟨q, 0, none⟩))).run Try.prog _).andThen _ = _
  simp [asAddr, hr]
set_option maxRecDepth 100000 in
set_option maxHeartbeats 4000000 in
theorem constants_any (w : World) : Calls Try.prog 88 #[] w fun e w' => e = .returned (.agg (arL .u64 80 kayF).toArray) ∧ Below w.heap.size w w' := by
  have hB := (Below.refl w.heap.size w).alloc (Nat.le_refl _) (.cells Try.zeroCells111 111)
  have a0 := arA_new (k := .u64) (n := 80) (f := fun _ => 0) w 111
  rw [← zero80] at a0
  obtain ⟨w1, hw1⟩ : ∃ x, w.alloc (.cells Try.zeroCells111 111) = x := ⟨_, rfl⟩
  obtain ⟨q, hq⟩ : ∃ x, w.heap.size = x := ⟨_, rfl⟩
  rw [hw1] at a0 hB
  have HQ := Lib.hid (show w.heap.size ≤ q by omega)
  have HA := Lib.hid (show ArA .u64 80 w1 q 0 (fun _ => 0) by rw [← hq]; exact a0)
  have HB := Lib.hid hB
  have HW := Lib.hid hw1
  have HQE := Lib.hid hq
  have HL := Lib.hid kay_lit
  clear a0 hB hw1 hq
  go_enter Try.func88, Try.ntmps88
  go_upto_region 1 with (fail)
  rw [HW.out, HQE.out]
  clear HW HQE
  iterate 2 go_step
  refine wp_build 111 kayB rfl (by rw [kay_built]; rfl) ?_
  rw [kay_built]
  simp only [Option.getD_some]
  go_step
  refine wpList_store_mid rfl 111 (.tmp 0) (.tmp 1) rfl _ _ (arL .u64 80 kayF).toArray rfl rfl (by rw [List.size_toArray, arL_length]; exact HA.out.there) (by rw [List.size_toArray, arL_length]; kernel_rfl) arL_one ?_
  clear HL
  iterate 5 go_step
  refine bodyPost_ret (v := .agg (arL .u64 80 kayF).toArray) ?_ rfl ⟨rfl, shb_setCells HB.out HQ.out _ _⟩
  rw [results_cell1 Try.results88]
  have hr := run_loadVar_mid (P := Try.prog) (w1.setCells q 0 (arL .u64 80 kayF)) q 0 111 (arL .u64 80 kayF) _ (arA_stored HA.out).range Try.underlying111 rfl (by rw [arL_length]; kernel_rfl)
  show ((asAddr (.pointer (some ⟨q, 0, none⟩))).run Try.prog _).andThen _ = _
  simp [asAddr, hr]
end Go.Proofs.Ytmhiglhgkgannaa
end

section
namespace Go.Proofs.Ytmhiglhgkgannaa
open Go.RowKit

def cmp64 (x : Int) : Int := bits .xor .u64 IntKind.u64.max x
def chS (a b c : Int) : Int := bits .xor .u64 (bits .and .u64 a b) (bits .and .u64 (cmp64 a) c)
def maS (a b c : Int) : Int := bits .xor .u64 (bits .xor .u64 (bits .and .u64 a b) (bits .and .u64 a c)) (bits .and .u64 b c)
def tA (v : Nat → Int) (k w : Int) : Int := IntKind.u64.wrap (IntKind.u64.wrap (IntKind.u64.wrap (IntKind.u64.wrap (v 7 + turn3 (v 4) 14 18 41) + chS (v 4) (v 5) (v 6)) + k) + w)
def stpF (v : Nat → Int) (k w : Int) : Nat → Int := fun j => if j = 0 then IntKind.u64.wrap (IntKind.u64.wrap (tA v k w + turn3 (v 0) 28 34 39) + maS (v 0) (v 1) (v 2)) else if j = 4 then IntKind.u64.wrap (v 3 + tA v k w) else v (j - 1)
/-- The words behind so many turns. -/
def rnd (h w : Nat → Int) : Nat → (Nat → Int)
  | 0 => h
  | t + 1 => stpF (rnd h w t) (kayF t) (w t)
/-- A block mixed in. -/
def mixF (h b : Nat → Int) : Nat → Int := fun j => IntKind.u64.wrap (h j + rnd h (sch2 b 64) 80 j)
/-- The bytes of the k-th block. -/
def blk (l : List UInt8) (k j : Nat) : Int := ((l.getD (128 * k + j) 0).toNat : Int)
/-- The words behind so many blocks. -/
def hsh (l : List UInt8) : Nat → (Nat → Int)
  | 0 => iniF
  | k + 1 => mixF (hsh l k) (blk l k)
theorem sch1_congr {b c : Nat → Int} (h : ∀ j, j < 128 → b j = c j) : ∀ k, k ≤ 128 → sch1 b k = sch1 c k
  | 0, _ => rfl
  | k + 1, hk => by
    have ih := sch1_congr h k (by omega)
    funext j
    simp only [sch1]
    rw [ih, h k (by omega)]
theorem sch2_congr {b c : Nat → Int} (h : ∀ j, j < 128 → b j = c j) : ∀ m, sch2 b m = sch2 c m
  | 0 => by simp only [sch2]; exact sch1_congr h 128 (Nat.le_refl _)
  | m + 1 => by
    have ih := sch2_congr h m
    funext j
    simp only [sch2]
    rw [ih]
theorem mixF_congr {g b c : Nat → Int} (h : ∀ j, j < 128 → b j = c j) : mixF g b = mixF g c := by
  funext j
  simp only [mixF, sch2_congr h]
theorem blk_app {l m : List UInt8} {k j : Nat} (h : 128 * k + j < l.length) : blk (l ++ m) k j = blk l k j := by
  simp only [blk, List.getD_eq_getElem?_getD, List.getElem?_append_left h]
theorem hsh_app (l m : List UInt8) : ∀ k, 128 * k ≤ l.length → hsh (l ++ m) k = hsh l k
  | 0, _ => rfl
  | k + 1, hk => by
    simp only [hsh]
    rw [hsh_app l m k (by omega)]
    exact mixF_congr fun j hj => blk_app (by omega)
theorem wrap_rng (x : Int) : 0 ≤ IntKind.u64.wrap x ∧ IntKind.u64.wrap x < 18446744073709551616 := by
  rw [IntKind.wrap_u64]; omega
/-- How many 0 follow the bit 1. -/
def padN (n : Nat) : Nat := (111 + 128 - n % 128) % 128
theorem pad_end (n k : Nat) (hk : k ≤ padN n) : (n + (1 + k) + 16) % 128 = 0 ↔ k = padN n := by
  unfold padN at *
  omega
/-- What ends a message of n bytes. -/
def endL (n : Nat) : List UInt8 := (0x80 : UInt8) :: (List.replicate (padN n + 10) 0 ++ (List.range 6).map fun i => by8 ((8 * (n : Int)) / 2 ^ (8 * (5 - i))))
theorem endL_length (n : Nat) : (endL n).length = padN n + 17 := by simp [endL]
/-- All the blocks of a message. -/
def whole (l : List UInt8) : List UInt8 := l ++ endL l.length
theorem whole_length (l : List UInt8) : (whole l).length % 128 = 0 := by
  simp only [whole, List.length_append, endL_length, padN]
  omega
def words (h : Nat → Int) (k : Nat) : List UInt8 := (List.range k).map fun i => by8 (h (i / 8) / 2 ^ (56 - 8 * (i % 8)))
/-- A list's digest. -/
def shaL (l : List UInt8) : List UInt8 := words (hsh (whole l) ((whole l).length / 128)) 48
theorem words_length (h : Nat → Int) (k : Nat) : (words h k).length = k := by simp [words]
theorem shaL_length (l : List UInt8) : (shaL l).length = 48 := words_length _ _
theorem words_succ (h : Nat → Int) (k : Nat) : words h (k + 1) = words h k ++ [by8 (h (k / 8) / 2 ^ (56 - 8 * (k % 8)))] := by simp [words, List.range_succ]
end Go.Proofs.Ytmhiglhgkgannaa
end

section
namespace Go.Proofs.Ytmhiglhgkgannaa
open Go.RowKit

/-- All is as it was, but for one block. -/
structure Oth (w w' : World) (q : Nat) : Prop where
  os : w'.os = w.os
  tape : w'.tape = w.tape
  output : w'.output = w.output
  size : w.heap.size ≤ w'.heap.size
  block : ∀ k, k < w.heap.size → k ≠ q → w'.heap[k]? = w.heap[k]?
theorem Oth.refl (w : World) (q : Nat) : Oth w w q := ⟨rfl, rfl, rfl, Nat.le_refl _, fun _ _ _ => rfl⟩
theorem Oth.trans {w w1 w2 : World} {q : Nat} (h : Oth w w1 q) (g : Oth w1 w2 q) : Oth w w2 q :=
  ⟨g.os.trans h.os, g.tape.trans h.tape, g.output.trans h.output, Nat.le_trans h.size g.size, fun k hk hq => by rw [g.block k (Nat.lt_of_lt_of_le hk h.size) hq]; exact h.block k hk hq⟩
theorem Oth.below {w w1 w2 : World} {q B : Nat} (h : Oth w w1 q) (g : Below B w1 w2) (hB : w.heap.size ≤ B) : Oth w w2 q :=
  ⟨g.os.trans h.os, g.tape.trans h.tape, g.output.trans h.output, Nat.le_trans h.size g.size, fun k hk hq => by rw [g.block k (by omega)]; exact h.block k hk hq⟩
theorem Oth.set {w w1 : World} {q : Nat} (h : Oth w w1 q) (i : Nat) (v : Value) : Oth w (w1.setCell ⟨q, i, none⟩ v) q :=
  have hb := (Below.refl 0 w1).setCell (p := ⟨q, i, none⟩) (Nat.zero_le _) v
  ⟨hb.os.trans h.os, hb.tape.trans h.tape, hb.output.trans h.output, Nat.le_trans h.size hb.size, fun k hk h1 => by rw [Below.heap_setCell _ _ _ _ h1]; exact h.block k hk h1⟩
theorem Oth.sets {w w1 : World} {q : Nat} (h : Oth w w1 q) (o : Nat) (vs : List Value) : Oth w (w1.setCells q o vs) q := by
  induction vs generalizing o w1 with
  | nil => exact h
  | cons v vs ih => exact ih (h.set o v) (o + 1)
/-- .. seen from below it. -/
theorem Oth.under {w0 w w1 : World} {q B : Nat} (h : Below B w0 w) (g : Oth w w1 q) (hq : B ≤ q) (hB : B ≤ w.heap.size) : Below B w0 w1 :=
  ⟨g.os.trans h.os, g.tape.trans h.tape, g.output.trans h.output, Nat.le_trans h.size g.size, fun k hk => by rw [g.block k (by omega) (by omega)]; exact h.block k hk⟩
theorem Oth.keeps {w w1 : World} {q : Nat} (g : Oth w w1 q) {a : Addr} {v : Value} (h : w.cell? a = some v) (hq : a.block ≠ q) : w1.cell? a = some v :=
  (World.cell?_of_block (w := w) (a := a) (g.block _ (block_lt_of_cell h) hq)).trans h
theorem ArA.oth {k : IntKind} {n : Nat} {w w' : World} {p o q : Nat} {f : Nat → Int} (h : ArA k n w p o f) (g : Oth w w' q) (hp : p ≠ q) : ArA k n w' p o f := by
  intro j hj
  obtain ⟨h1, h2⟩ := h j hj
  have hb := g.block p (block_lt_of_cell h1) hp
  exact ⟨(World.cell?_of_block (w := w) (a := ⟨p, o + j, none⟩) hb).trans h1, (World.frozen?_of_block (w := w) (a := ⟨p, o + j, none⟩) hb).trans h2⟩
theorem ArA.congr {k : IntKind} {n : Nat} {w : World} {p o : Nat} {f g : Nat → Int} (h : ArA k n w p o f) (e : ∀ j, j < n → f j = g j) : ArA k n w p o g := by
  intro j hj
  rw [← e j hj]
  exact h j hj
theorem oth_setCells {w : World} {p : Nat} (o : Nat) (vs : List Value) : Oth w (w.setCells p o vs) p := (Oth.refl w p).sets o vs
theorem setCells_size (w : World) (p o : Nat) (vs : List Value) : (w.setCells p o vs).heap.size = w.heap.size := by
  induction vs generalizing o w with
  | nil => rfl
  | cons v vs ih =>
    rw [World.setCells, ih]
    simp
/-- A State: what is mixed, what is not yet, how long it is. -/
def ShS (w : World) (q : Nat) (h r : Nat → Int) (n : Int) : Prop :=
  ArA .u64 8 w q 0 h ∧ ArA .u8 128 w q 8 r ∧ w.cell? ⟨q, 136, none⟩ = some (.int .i64 n) ∧ w.frozen? ⟨q, 136, none⟩ = false
theorem ShS.oth {w w' : World} {p q : Nat} {h r : Nat → Int} {n : Int} (s : ShS w p h r n) (g : Oth w w' q) (hp : p ≠ q) : ShS w' p h r n := by
  obtain ⟨h1, h2, h3, h4⟩ := s
  have hb := g.block p (block_lt_of_cell h3) hp
  exact ⟨h1.oth g hp, h2.oth g hp, g.keeps h3 hp, (World.frozen?_of_block (w := w) (a := ⟨p, 136, none⟩) hb).trans h4⟩
theorem ShS.lt {w : World} {q : Nat} {h r : Nat → Int} {n : Int} (s : ShS w q h r n) : q < w.heap.size := block_lt_of_cell s.2.2.1
theorem ShS.below {w w' : World} {q : Nat} {h r : Nat → Int} {n : Int} (s : ShS w q h r n) (g : Below w.heap.size w w') : ShS w' q h r n := by
  obtain ⟨h1, h2, h3, h4⟩ := s
  exact ⟨h1.below g, h2.below g, by rw [g.cell (block_lt_of_cell h3)]; exact h3, by rw [g.frozen (block_lt_of_cell h3)]; exact h4⟩
theorem ShS.word {w : World} {q : Nat} {h r : Nat → Int} {n : Int} (s : ShS w q h r n) {i : Nat} (hi : i < 8) (v : Int) : ShS (w.setCell ⟨q, i, none⟩ (.int .u64 v)) q (fun j => if j = i then v else h j) r n := by
  obtain ⟨h1, h2, h3, h4⟩ := s
  have h5 := h1.set (i := i) v
  rw [Nat.zero_add] at h5
  refine ⟨h5, fun j hj => ?_, ?_, by simpa using h4⟩
  · obtain ⟨a, b⟩ := h2 j hj
    refine ⟨?_, by simpa using b⟩
    rw [World.cell?_setCell_other _ _ _ _ (by intro e; injection e with _ e _; omega)]
    exact a
  · rw [World.cell?_setCell_other _ _ _ _ (by intro e; injection e with _ e _; omega)]
    exact h3
/-- Words that are added one by one. -/
def mixTo (h v : Nat → Int) (k : Nat) : Nat → Int := fun j => if j < k then IntKind.u64.wrap (h j + v j) else h j
theorem mixTo_next (h v : Nat → Int) (k : Nat) : mixTo h v (k + 1) = fun j => if j = k then IntKind.u64.wrap (mixTo h v k k + v k) else mixTo h v k j := by
  funext j
  simp only [mixTo]
  by_cases e : j = k
  · subst e; simp
  · rw [if_neg e]
    by_cases hl : j < k
    · rw [if_pos hl, if_pos (by omega)]
    · rw [if_neg hl, if_neg (by omega)]
theorem ix64_8 (cs : Array Value) (k : Nat) (v : Int) (hk : k < 8) (hc : cs[k]? = some (.int .u64 v)) (W : World) : (Instr.index 80 (.agg cs) (.int .i64 (k : Int))).run Try.prog W = .ok (.int .u64 v) W := by
  have h1 : (0 : Int) ≤ (k : Int) ∧ (k : Int) < ((8 : Nat) : Int) := by omega
  have z := Try.sizeOf79
  have a := Try.isAgg79
  simp [Instr.index, go_sem, h1, part, z, a, hc]
  intro h
  omega
theorem stp_lit (v : Nat → Int) (k w : Int) : #[Value.int .u64 (IntKind.u64.wrap (IntKind.u64.wrap (tA v k w + turn3 (v 0) 28 34 39) + maS (v 0) (v 1) (v 2))), .int .u64 (v 0), .int .u64 (v 1), .int .u64 (v 2), .int .u64 (IntKind.u64.wrap (v 3 + tA v k w)), .int .u64 (v 4), .int .u64 (v 5), .int .u64 (v 6)] = (arL .u64 8 (stpF v k w)).toArray := by
  rfl

set_option maxRecDepth 100000 in
set_option maxHeartbeats 4000000 in
theorem mix_any (q : Nat) (g0 r : Nat → Int) (n : Int) (w : World) (hs : ShS w q g0 r n) (hr : ∀ j, 0 ≤ r j ∧ r j < 256) : Calls Try.prog 70 #[.pointer (some ⟨q, 0, none⟩)] w fun e w' => e = .returned (.tuple #[]) ∧ ShS w' q (mixF g0 r) r n ∧ Oth w w' q := by
  have HS := Lib.hid hs
  have HR := Lib.hid hr
  have HZ := Lib.hid zero80
  have hql := hs.lt
  clear hs hr
  go_enter Try.func70, Try.ntmps70
  go_wp2_with (refine wpList_load_mid rfl 82 (.tmp 15) rfl q 8 rfl _ _ HS.out.2.1.range Try.underlying82 rfl (by rw [arL_length]; kernel_rfl) ?_)
  refine (schedule_any r HR.out _).mono ?_; rintro e w1 ⟨rfl, hb⟩
  have HS1 := Lib.hid (HS.out.below hb)
  have HO1 := Lib.hid ((Oth.refl w q).below hb (Nat.le_refl _))
  clear hb HS
  have ha := arA_new (k := .u64) (n := 80) (f := fun _ => 0) w1 111
  rw [← zero80] at ha
  have hba := (Below.refl w1.heap.size w1).alloc (Nat.le_refl _) (.cells Try.zeroCells111 111)
  have hsz1 := HO1.out.size
  obtain ⟨q2, hq2⟩ : ∃ x, w1.heap.size = x := ⟨_, rfl⟩
  obtain ⟨w2, hw2⟩ : ∃ x, w1.alloc (.cells Try.zeroCells111 111) = x := ⟨_, rfl⟩
  have hs2 : w2.heap.size = q2 + 1 := by rw [← hw2, World.size_alloc, hq2]
  have HS2 := Lib.hid (HS1.out.below (by rw [hw2] at hba; exact hba))
  have HO2 := Lib.hid (HO1.out.below hba hsz1)
  rw [hw2] at ha HO2
  rw [hq2] at ha
  have HA := Lib.hid ha
  have HQ2 := Lib.hid hq2
  have HW2 := Lib.hid hw2
  have hqq : q < q2 := by omega
  have hwq2 : w.heap.size ≤ q2 := by omega
  clear ha hba hq2 hw2 HS1 HO1 hsz1
  have hz3 := oth_setCells (w := w2) (p := q2) 0 (arL .u64 80 (sch2 r 64))
  have HA3 := Lib.hid (arA_stored (f := sch2 r 64) HA.out)
  have HS3 := Lib.hid (HS2.out.oth hz3 (by omega))
  have HO3 := Lib.hid (HO2.out.below ((shb_setCells (Below.refl w.heap.size w2) (show w.heap.size ≤ q2 by omega) 0 (arL .u64 80 (sch2 r 64)))) (Nat.le_refl _))
  have hs3 : (w2.setCells q2 0 (arL .u64 80 (sch2 r 64))).heap.size = q2 + 1 := by rw [setCells_size, hs2]
  obtain ⟨w3, hw3⟩ : ∃ x, w2.setCells q2 0 (arL .u64 80 (sch2 r 64)) = x := ⟨_, rfl⟩
  rw [hw3] at HA3 HS3 HO3 hs3
  have HW3 := Lib.hid (show w2.setCells q2 0 (arL .u64 80 (sch2 r 64)).toArray.toList = w3 from hw3)
  clear hw3 hz3 hs2
  go_wp2_with (refine wpList_store_mid rfl 111 (.tmp 2) (.tmp 17) rfl _ _ (arL .u64 80 (sch2 r 64)).toArray rfl rfl (by rw [HW2.out, HQ2.out, List.size_toArray, arL_length]; exact HA.out.there) (by rw [List.size_toArray, arL_length]; kernel_rfl) arL_one ?_; rw [HW2.out, HQ2.out, HW3.out])
  clear HA HW2 HQ2 HS2 HO2 HW3
  refine (constants_any _).mono ?_; rintro e w4 ⟨rfl, hb⟩
  have HA4 := Lib.hid (HA3.out.below hb)
  have HS4 := Lib.hid (HS3.out.below hb)
  have HO4 := Lib.hid (HO3.out.below hb HO3.out.size)
  have hs4 := hb.size
  clear HA3 HS3 HO3 hb
  have ha := arA_new (k := .u64) (n := 80) (f := fun _ => 0) w4 111
  rw [← zero80] at ha
  have hba := (Below.refl w4.heap.size w4).alloc (Nat.le_refl _) (.cells Try.zeroCells111 111)
  have hsz4 := HO4.out.size
  obtain ⟨q3, hq3⟩ : ∃ x, w4.heap.size = x := ⟨_, rfl⟩
  obtain ⟨w5, hw5⟩ : ∃ x, w4.alloc (.cells Try.zeroCells111 111) = x := ⟨_, rfl⟩
  have hs5 : w5.heap.size = q3 + 1 := by rw [← hw5, World.size_alloc, hq3]
  rw [hw5] at ha hba
  rw [hq3] at ha
  have HB5 := Lib.hid hba
  have HW5 := Lib.hid hw5
  have HQ3 := Lib.hid hq3
  have hq23 : q2 < q3 := by omega
  have hwq3 : w.heap.size ≤ q3 := by omega
  have HA := Lib.hid ha
  have HA5 := Lib.hid ((HA4.out.below hba).oth (oth_setCells (w := w5) (p := q3) 0 (arL .u64 80 kayF)) (by omega))
  have HS5 := Lib.hid ((HS4.out.below hba).oth (oth_setCells (w := w5) (p := q3) 0 (arL .u64 80 kayF)) (by omega))
  have HK5 := Lib.hid (arA_stored (f := kayF) ha)
  have HO5 := Lib.hid ((HO4.out.below hba hsz4).below (shb_setCells (Below.refl w.heap.size w5) hwq3 0 (arL .u64 80 kayF)) (Nat.le_refl _))
  have hs6 : (w5.setCells q3 0 (arL .u64 80 kayF)).heap.size = q3 + 1 := by rw [setCells_size, hs5]
  obtain ⟨w6, hw6⟩ : ∃ x, w5.setCells q3 0 (arL .u64 80 kayF) = x := ⟨_, rfl⟩
  rw [hw6] at HA5 HS5 HK5 HO5 hs6
  have HW6 := Lib.hid (show w5.setCells q3 0 (arL .u64 80 kayF).toArray.toList = w6 from hw6)
  clear ha hba hq3 hw5 hw6 hs5 HA4 HS4 HO4
  have hz := arA_new (k := .u64) (n := 8) (f := fun _ => 0) w6 80
  rw [← zero8] at hz
  have hbz := (Below.refl w6.heap.size w6).alloc (Nat.le_refl _) (.cells #[Value.int .u64 0, Value.int .u64 0, Value.int .u64 0, Value.int .u64 0, Value.int .u64 0, Value.int .u64 0, Value.int .u64 0, Value.int .u64 0] 80)
  have hsz6 := HO5.out.size
  obtain ⟨q4, hq4⟩ : ∃ x, w6.heap.size = x := ⟨_, rfl⟩
  obtain ⟨w7, hw7⟩ : ∃ x, w6.alloc (.cells #[Value.int .u64 0, Value.int .u64 0, Value.int .u64 0, Value.int .u64 0, Value.int .u64 0, Value.int .u64 0, Value.int .u64 0, Value.int .u64 0] 80) = x := ⟨_, rfl⟩
  have hs7 : w7.heap.size = q4 + 1 := by rw [← hw7, World.size_alloc, hq4]
  rw [hw7] at hz hbz
  rw [hq4] at hz
  have HW7 := Lib.hid hw7
  have HQ4 := Lib.hid hq4
  have hq34 : q3 < q4 := by omega
  have hwq4 : w.heap.size ≤ q4 := by omega
  have HZ7 := Lib.hid hz
  have HA8 := Lib.hid ((HA5.out.below hbz).oth (oth_setCells (w := w7) (p := q4) 0 (arL .u64 8 g0)) (by omega))
  have HS8 := Lib.hid ((HS5.out.below hbz).oth (oth_setCells (w := w7) (p := q4) 0 (arL .u64 8 g0)) (by omega))
  have HK8 := Lib.hid ((HK5.out.below hbz).oth (oth_setCells (w := w7) (p := q4) 0 (arL .u64 8 g0)) (by omega))
  have HV8 := Lib.hid (arA_stored (f := g0) hz)
  have HO8 := Lib.hid ((HO5.out.below hbz hsz6).below (shb_setCells (Below.refl w.heap.size w7) hwq4 0 (arL .u64 8 g0)) (Nat.le_refl _))
  have hs8 : (w7.setCells q4 0 (arL .u64 8 g0)).heap.size = q4 + 1 := by rw [setCells_size, hs7]
  obtain ⟨w8, hw8⟩ : ∃ x, w7.setCells q4 0 (arL .u64 8 g0) = x := ⟨_, rfl⟩
  rw [hw8] at HA8 HS8 HK8 HV8 HO8 hs8
  have HW8 := Lib.hid (show w7.setCells q4 0 (arL .u64 8 g0).toArray.toList = w8 from hw8)
  have HS6 := HS5
  clear hs3 hs4 hsz4 hs6 hsz6 hs8 hz hbz hq4 hw7 hw8 hs7 HA5 HS5 HK5 HO5
  go_wp2_with (first | (refine wpList_store_mid rfl 111 (.tmp 3) (.tmp 18) rfl _ _ (arL .u64 80 kayF).toArray rfl rfl (by rw [HW5.out, HQ3.out, List.size_toArray, arL_length]; exact HA.out.there) (by rw [List.size_toArray, arL_length]; kernel_rfl) arL_one ?_; rw [HW5.out, HQ3.out, HW6.out]) | (refine wpList_load_mid rfl 80 (.tmp 21) rfl q 0 rfl _ _ HS6.out.1.range Try.underlying80 rfl (by rw [arL_length]; kernel_rfl) ?_) | (refine wpList_store_mid rfl 80 (.tmp 4) (.tmp 22) rfl _ _ (arL .u64 8 g0).toArray rfl rfl (by rw [HW7.out, HQ4.out, List.size_toArray, arL_length]; exact HZ7.out.there) (by rw [List.size_toArray, arL_length]; kernel_rfl) arL_one ?_; rw [HW7.out, HQ4.out, HW8.out]))
  clear HA HW5 HQ3 HB5 HW6 HS6 HW7 HQ4 HZ7 HW8
  have HQN := Lib.hid (show q2 ≠ q4 ∧ q3 ≠ q4 ∧ q ≠ q4 by omega)
  go_loopw [23] (fun i wr => ∃ t : Nat, t ≤ 80 ∧ i = .int .i64 t ∧ Hid (ArA .u64 80 wr q2 0 (sch2 r 64)) ∧ Hid (ArA .u64 80 wr q3 0 kayF) ∧ Hid (ArA .u64 8 wr q4 0 (rnd g0 (sch2 r 64) t)) ∧ Hid (ShS wr q g0 r n) ∧ Hid (Oth w wr q)) (fun i _ => 80 - (intOf i).toNat)
  case atStart => exact ⟨0, Nat.zero_le _, rfl, HA8, HK8, HV8, HS8, HO8⟩
  case round =>
    clear HA8 HK8 HV8 HS8 HO8
    obtain ⟨t, ht, rfl, HA8, HK8, HV8, HS8, HO8⟩ := hrel
    by_cases hlt : t < 80
    · obtain ⟨v, hv⟩ : ∃ x, rnd g0 (sch2 r 64) t = x := ⟨_, rfl⟩
      have HV := Lib.hid (show rnd g0 (sch2 r 64) (t + 1) = stpF v (kayF t) (sch2 r 64 t) by rw [rnd, hv])
      rw [hv] at HV8
      obtain ⟨kt, hkt⟩ : ∃ x, kayF t = x := ⟨_, rfl⟩
      obtain ⟨wt, hwt⟩ : ∃ x, sch2 r 64 t = x := ⟨_, rfl⟩
      rw [hkt, hwt] at HV
      obtain ⟨c0, -⟩ := HV8.out 0 (by decide)
      obtain ⟨v0, hv0⟩ : ∃ x, v 0 = x := ⟨_, rfl⟩
      rw [hv0] at c0
      obtain ⟨c1, -⟩ := HV8.out 1 (by decide)
      obtain ⟨v1, hv1⟩ : ∃ x, v 1 = x := ⟨_, rfl⟩
      rw [hv1] at c1
      obtain ⟨c2, -⟩ := HV8.out 2 (by decide)
      obtain ⟨v2, hv2⟩ : ∃ x, v 2 = x := ⟨_, rfl⟩
      rw [hv2] at c2
      obtain ⟨c3, -⟩ := HV8.out 3 (by decide)
      obtain ⟨v3, hv3⟩ : ∃ x, v 3 = x := ⟨_, rfl⟩
      rw [hv3] at c3
      obtain ⟨c4, -⟩ := HV8.out 4 (by decide)
      obtain ⟨v4, hv4⟩ : ∃ x, v 4 = x := ⟨_, rfl⟩
      rw [hv4] at c4
      obtain ⟨c5, -⟩ := HV8.out 5 (by decide)
      obtain ⟨v5, hv5⟩ : ∃ x, v 5 = x := ⟨_, rfl⟩
      rw [hv5] at c5
      obtain ⟨c6, -⟩ := HV8.out 6 (by decide)
      obtain ⟨v6, hv6⟩ : ∃ x, v 6 = x := ⟨_, rfl⟩
      rw [hv6] at c6
      obtain ⟨c7, -⟩ := HV8.out 7 (by decide)
      obtain ⟨v7, hv7⟩ : ∃ x, v 7 = x := ⟨_, rfl⟩
      rw [hv7] at c7
      obtain ⟨ck, -⟩ := HK8.out t hlt
      rw [Nat.zero_add, hkt] at ck
      obtain ⟨cw, -⟩ := HA8.out t hlt
      rw [Nat.zero_add, hwt] at cw
      have HVV := Lib.hid (show #[Value.int .u64 (IntKind.u64.wrap (IntKind.u64.wrap (IntKind.u64.wrap (IntKind.u64.wrap (IntKind.u64.wrap (IntKind.u64.wrap (v7 + turn3 v4 14 18 41) + chS v4 v5 v6) + kt) + wt) + turn3 v0 28 34 39) + maS v0 v1 v2)), .int .u64 v0, .int .u64 v1, .int .u64 v2, .int .u64 (IntKind.u64.wrap (v3 + IntKind.u64.wrap (IntKind.u64.wrap (IntKind.u64.wrap (IntKind.u64.wrap (v7 + turn3 v4 14 18 41) + chS v4 v5 v6) + kt) + wt))), .int .u64 v4, .int .u64 v5, .int .u64 v6] = (arL .u64 8 (stpF v kt wt)).toArray by
        rw [← stp_lit]
        simp only [tA, hv0, hv1, hv2, hv3, hv4, hv5, hv6, hv7])
      have pt : (0 : Int) ≤ (t : Int) := by omega
      have rt : (t : Int) < 80 := by omega
      have HT := Lib.hid hlt
      have HVE := Lib.hid (show v 0 = v0 ∧ v 1 = v1 ∧ v 2 = v2 ∧ v 3 = v3 ∧ v 4 = v4 ∧ v 5 = v5 ∧ v 6 = v6 ∧ v 7 = v7 from ⟨hv0, hv1, hv2, hv3, hv4, hv5, hv6, hv7⟩)
      clear hv hkt hwt hv0 hv1 hv2 hv3 hv4 hv5 hv6 hv7
      go_wp2_with fail
      refine (turn14 v4 _).mono ?_; rintro e wz ⟨rfl, rfl⟩
      go_wp2_with fail
      go_quiet (fail)
      rename_i nq
      have hbq := below_drewN (Below.refl wr.heap.size wr) nq
      have HA9 := Lib.hid (HA8.out.below hbq)
      have HK9 := Lib.hid (HK8.out.below hbq)
      have HV9 := Lib.hid (HV8.out.below hbq)
      have HS9 := Lib.hid (HS8.out.below hbq)
      have HO9 := Lib.hid (HO8.out.below hbq HO8.out.size)
      obtain ⟨w9, hw9⟩ : ∃ z, wr.drewN nq = z := ⟨_, rfl⟩
      rw [hw9] at HA9 HK9 HV9 HS9 HO9 ⊢
      clear hbq hw9 c0 c1 c2 c3 c4 c5 c6 c7 ck cw HA8 HK8 HS8 HO8
      obtain ⟨c0, -⟩ := HV9.out 0 (by decide)
      rw [show v 0 = v0 from HVE.out.1] at c0
      obtain ⟨c1, -⟩ := HV9.out 1 (by decide)
      rw [show v 1 = v1 from HVE.out.2.1] at c1
      obtain ⟨c2, -⟩ := HV9.out 2 (by decide)
      rw [show v 2 = v2 from HVE.out.2.2.1] at c2
      obtain ⟨c3, -⟩ := HV9.out 3 (by decide)
      rw [show v 3 = v3 from HVE.out.2.2.2.1] at c3
      obtain ⟨c4, -⟩ := HV9.out 4 (by decide)
      rw [show v 4 = v4 from HVE.out.2.2.2.2.1] at c4
      obtain ⟨c5, -⟩ := HV9.out 5 (by decide)
      rw [show v 5 = v5 from HVE.out.2.2.2.2.2.1] at c5
      obtain ⟨c6, -⟩ := HV9.out 6 (by decide)
      rw [show v 6 = v6 from HVE.out.2.2.2.2.2.2.1] at c6
      obtain ⟨c7, -⟩ := HV9.out 7 (by decide)
      rw [show v 7 = v7 from HVE.out.2.2.2.2.2.2.2] at c7
      go_wp2_with fail
      refine (turn28 v0 _).mono ?_; rintro e wz ⟨rfl, rfl⟩
      have hz := oth_setCells (w := w9) (p := q4) 0 (arL .u64 8 (stpF v kt wt))
      have HA10 := Lib.hid (HA9.out.oth hz HQN.out.1)
      have HK10 := Lib.hid (HK9.out.oth hz HQN.out.2.1)
      have HS10 := Lib.hid (HS9.out.oth hz HQN.out.2.2)
      have HV10 := Lib.hid (show ArA .u64 8 (w9.setCells q4 0 (arL .u64 8 (stpF v kt wt))) q4 0 (rnd g0 (sch2 r 64) (t + 1)) by rw [HV.out]; exact arA_stored HV9.out)
      have HO10 := Lib.hid (HO9.out.below (shb_setCells (Below.refl w.heap.size w9) hwq4 0 (arL .u64 8 (stpF v kt wt))) (Nat.le_refl _))
      obtain ⟨w10, hw10⟩ : ∃ x, w9.setCells q4 0 (arL .u64 8 (stpF v kt wt)) = x := ⟨_, rfl⟩
      rw [hw10] at HA10 HK10 HS10 HV10 HO10
      have HW10 := Lib.hid (show w9.setCells q4 0 (arL .u64 8 (stpF v kt wt)).toArray.toList = w10 from hw10)
      clear hz hw10 HA9 HK9 HS9 HO9 HV HVE
      go_wp2_with (refine wpList_store_mid rfl 80 (.tmp 4) (.tmp 96) rfl q4 0 (arL .u64 8 (stpF v kt wt)).toArray rfl (congrArg Value.agg HVV.out) (by rw [List.size_toArray, arL_length]; exact HV9.out.there) (by rw [List.size_toArray, arL_length]; kernel_rfl) arL_one ?_; rw [HW10.out])
      go_roundw
      case rel => exact ⟨t + 1, HT.out, by go_num, HA10, HK10, HV10, HS10, HO10⟩
      case measure =>
        simp only [intOf]
        have := HT.out
        omega
    · have ht80 : t = 80 := by omega
      subst ht80
      have d0 : decide (((80 : Nat) : Int) < 80) = false := by decide
      clear hlt ht
      go_wp2_with (refine wpList_load_mid rfl 80 (.tmp 4) rfl q4 0 rfl _ _ HV8.out.range Try.underlying80 rfl (by rw [arL_length]; kernel_rfl) ?_)
      obtain ⟨v, hv⟩ : ∃ x, rnd g0 (sch2 r 64) 80 = x := ⟨_, rfl⟩
      have HM := Lib.hid (show mixF g0 r = mixTo g0 v 8 → True from fun _ => trivial)
      have HMF := Lib.hid (show ∀ j, j < 8 → mixTo g0 v 8 j = mixF g0 r j from fun j hj => by simp only [mixTo, mixF, hv, if_pos hj])
      have HS := Lib.hid (show ShS wr q (mixTo g0 v 0) r n from HS8.out)
      rw [hv]
      clear hv HA8 HK8 HV8 HS8 HM
      go_loopw [99] (fun i wx => ∃ k : Nat, k ≤ 8 ∧ i = .int .i64 k ∧ Hid (ShS wx q (mixTo g0 v k) r n) ∧ Hid (Oth w wx q)) (fun i _ => 8 - (intOf i).toNat)
      case atStart => exact ⟨0, Nat.zero_le _, rfl, HS, HO8⟩
      case round =>
        clear HS HO8
        obtain ⟨k, hk, rfl, HS, HO8⟩ := hrel
        by_cases hlt : k < 8
        · obtain ⟨c0, f0⟩ := HS.out.1 k hlt
          rw [Nat.zero_add] at c0 f0
          obtain ⟨x, hx⟩ : ∃ z, mixTo g0 v k k = z := ⟨_, rfl⟩
          rw [hx] at c0
          obtain ⟨vk, hvk⟩ : ∃ z, v k = z := ⟨_, rfl⟩
          have hix := ix64_8 (arL .u64 8 v).toArray k vk hlt (by rw [List.getElem?_toArray, arL_get hlt, hvk])
          have HX := Lib.hid (show mixTo g0 v (k + 1) = fun j => if j = k then IntKind.u64.wrap (x + vk) else mixTo g0 v k j by rw [mixTo_next, hx, hvk])
          have HK := Lib.hid hlt
          have pk : (0 : Int) ≤ (k : Int) := by omega
          have rk : (k : Int) < 8 := by omega
          clear hx hvk
          go_upto_region 16 with (fail)
          go_still_tail 11, (by kernel_rfl)
          change wpList _ _ _ _ _ wr.drew
          have hbd := (Below.refl wr.heap.size wr).drew
          have HS2 := Lib.hid (HS.out.below hbd)
          have HO9 := Lib.hid (HO8.out.below hbd HO8.out.size)
          obtain ⟨w6, hw6⟩ : ∃ z, wr.drew = z := ⟨_, rfl⟩
          rw [hw6] at HS2 HO9 ⊢
          have c0' : w6.cell? ⟨q, k, none⟩ = some (.int .u64 x) := by rw [← hw6]; exact c0
          have f0' : w6.frozen? ⟨q, k, none⟩ = false := by rw [← hw6]; exact f0
          clear hbd hw6 c0 f0 HS HO8
          go_wp2
          go_roundw
          case rel => exact ⟨k + 1, HK.out, by go_num, Lib.hid (by rw [HX.out]; exact HS2.out.word HK.out _), Lib.hid (HO9.out.set _ _)⟩
          case measure =>
            simp only [intOf]
            have := HK.out
            omega
        · have hk8 : k = 8 := by omega
          have HSF := Lib.hid (show ShS wr q (mixF g0 r) r n from by
            have h1 := HS.out
            rw [hk8] at h1
            obtain ⟨a1, a2, a3, a4⟩ := h1
            exact ⟨a1.congr HMF.out, a2, a3, a4⟩)
          have d0 := dF (p := k < 8) hlt
          have d0i : decide ((k : Int) < 8) = false := dF (by omega)
          clear hlt hk hk8 HS
          go_wp2
          refine bodyPost_end (v := .tuple #[]) (by simp [results, Try.results70, go_sem]) rfl ⟨rfl, HSF.out, HO8.out⟩
end Go.Proofs.Ytmhiglhgkgannaa
end
