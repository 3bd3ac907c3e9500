/- A block mixed in: contract. -/
import Derived.Test.YtocfphijheidbaaShP
namespace Go.Proofs.Ytocfphijheidbaa
open Go.RowKit

/-- All is as it was, but for one block. -/
structure Oth (w w' : World) (q : Nat) : Prop where
  os : w'.os = w.os
  tape : w'.tape = w.tape
  output : w'.output = w.output
  size : w.heap.size ≤ w'.heap.size
  block : ∀ k, k < w.heap.size → k ≠ q → w'.heap[k]? = w.heap[k]?
theorem Oth.refl (w : World) (q : Nat) : Oth w w q := ⟨rfl, rfl, rfl, Nat.le_refl _, fun _ _ _ => rfl⟩
theorem Oth.trans {w w1 w2 : World} {q : Nat} (h : Oth w w1 q) (g : Oth w1 w2 q) : Oth w w2 q :=
  ⟨g.os.trans h.os, g.tape.trans h.tape, g.output.trans h.output, Nat.le_trans h.size g.size, fun k hk hq => by rw [g.block k (Nat.lt_of_lt_of_le hk h.size) hq]; exact h.block k hk hq⟩
theorem Oth.below {w w1 w2 : World} {q B : Nat} (h : Oth w w1 q) (g : Below B w1 w2) (hB : w.heap.size ≤ B) : Oth w w2 q :=
  ⟨g.os.trans h.os, g.tape.trans h.tape, g.output.trans h.output, Nat.le_trans h.size g.size, fun k hk hq => by rw [g.block k (by omega)]; exact h.block k hk hq⟩
theorem Oth.set {w w1 : World} {q : Nat} (h : Oth w w1 q) (i : Nat) (v : Value) : Oth w (w1.setCell ⟨q, i, none⟩ v) q :=
  have hb := (Below.refl 0 w1).setCell (p := ⟨q, i, none⟩) (Nat.zero_le _) v
  ⟨hb.os.trans h.os, hb.tape.trans h.tape, hb.output.trans h.output, Nat.le_trans h.size hb.size, fun k hk h1 => by rw [Below.heap_setCell _ _ _ _ h1]; exact h.block k hk h1⟩
theorem Oth.sets {w w1 : World} {q : Nat} (h : Oth w w1 q) (o : Nat) (vs : List Value) : Oth w (w1.setCells q o vs) q := by
  induction vs generalizing o w1 with
  | nil => exact h
  | cons v vs ih => exact ih (h.set o v) (o + 1)
/-- .. seen from below it. -/
theorem Oth.under {w0 w w1 : World} {q B : Nat} (h : Below B w0 w) (g : Oth w w1 q) (hq : B ≤ q) (hB : B ≤ w.heap.size) : Below B w0 w1 :=
  ⟨g.os.trans h.os, g.tape.trans h.tape, g.output.trans h.output, Nat.le_trans h.size g.size, fun k hk => by rw [g.block k (by omega) (by omega)]; exact h.block k hk⟩
theorem Oth.keeps {w w1 : World} {q : Nat} (g : Oth w w1 q) {a : Addr} {v : Value} (h : w.cell? a = some v) (hq : a.block ≠ q) : w1.cell? a = some v :=
  (World.cell?_of_block (w := w) (a := a) (g.block _ (block_lt_of_cell h) hq)).trans h
theorem ArA.oth {k : IntKind} {n : Nat} {w w' : World} {p o q : Nat} {f : Nat → Int} (h : ArA k n w p o f) (g : Oth w w' q) (hp : p ≠ q) : ArA k n w' p o f := by
  intro j hj
  obtain ⟨h1, h2⟩ := h j hj
  have hb := g.block p (block_lt_of_cell h1) hp
  exact ⟨(World.cell?_of_block (w := w) (a := ⟨p, o + j, none⟩) hb).trans h1, (World.frozen?_of_block (w := w) (a := ⟨p, o + j, none⟩) hb).trans h2⟩
theorem ArA.congr {k : IntKind} {n : Nat} {w : World} {p o : Nat} {f g : Nat → Int} (h : ArA k n w p o f) (e : ∀ j, j < n → f j = g j) : ArA k n w p o g := by
  intro j hj
  rw [← e j hj]
  exact h j hj
theorem oth_setCells {w : World} {p : Nat} (o : Nat) (vs : List Value) : Oth w (w.setCells p o vs) p := (Oth.refl w p).sets o vs
theorem setCells_size (w : World) (p o : Nat) (vs : List Value) : (w.setCells p o vs).heap.size = w.heap.size := by
  induction vs generalizing o w with
  | nil => rfl
  | cons v vs ih =>
    rw [World.setCells, ih]
    simp
/-- A State: what is mixed, what is not yet, how long it is. -/
def ShS (w : World) (q : Nat) (h r : Nat → Int) (n : Int) : Prop :=
  ArA .u64 8 w q 0 h ∧ ArA .u8 128 w q 8 r ∧ w.cell? ⟨q, 136, none⟩ = some (.int .i64 n) ∧ w.frozen? ⟨q, 136, none⟩ = false
theorem ShS.oth {w w' : World} {p q : Nat} {h r : Nat → Int} {n : Int} (s : ShS w p h r n) (g : Oth w w' q) (hp : p ≠ q) : ShS w' p h r n := by
  obtain ⟨h1, h2, h3, h4⟩ := s
  have hb := g.block p (block_lt_of_cell h3) hp
  exact ⟨h1.oth g hp, h2.oth g hp, g.keeps h3 hp, (World.frozen?_of_block (w := w) (a := ⟨p, 136, none⟩) hb).trans h4⟩
theorem ShS.lt {w : World} {q : Nat} {h r : Nat → Int} {n : Int} (s : ShS w q h r n) : q < w.heap.size := block_lt_of_cell s.2.2.1
theorem ShS.below {w w' : World} {q : Nat} {h r : Nat → Int} {n : Int} (s : ShS w q h r n) (g : Below w.heap.size w w') : ShS w' q h r n := by
  obtain ⟨h1, h2, h3, h4⟩ := s
  exact ⟨h1.below g, h2.below g, by rw [g.cell (block_lt_of_cell h3)]; exact h3, by rw [g.frozen (block_lt_of_cell h3)]; exact h4⟩
theorem ShS.word {w : World} {q : Nat} {h r : Nat → Int} {n : Int} (s : ShS w q h r n) {i : Nat} (hi : i < 8) (v : Int) : ShS (w.setCell ⟨q, i, none⟩ (.int .u64 v)) q (fun j => if j = i then v else h j) r n := by
  obtain ⟨h1, h2, h3, h4⟩ := s
  have h5 := h1.set (i := i) v
  rw [Nat.zero_add] at h5
  refine ⟨h5, fun j hj => ?_, ?_, by simpa using h4⟩
  · obtain ⟨a, b⟩ := h2 j hj
    refine ⟨?_, by simpa using b⟩
    rw [World.cell?_setCell_other _ _ _ _ (by intro e; injection e with _ e _; omega)]
    exact a
  · rw [World.cell?_setCell_other _ _ _ _ (by intro e; injection e with _ e _; omega)]
    exact h3
/-- Words that are added one by one. -/
def mixTo (h v : Nat → Int) (k : Nat) : Nat → Int := fun j => if j < k then IntKind.u64.wrap (h j + v j) else h j
theorem mixTo_next (h v : Nat → Int) (k : Nat) : mixTo h v (k + 1) = fun j => if j = k then IntKind.u64.wrap (mixTo h v k k + v k) else mixTo h v k j := by
  funext j
  simp only [mixTo]
  by_cases e : j = k
  · subst e; simp
  · rw [if_neg e]
    by_cases hl : j < k
    · rw [if_pos hl, if_pos (by omega)]
    · rw [if_neg hl, if_neg (by omega)]
theorem ix64_8 (cs : Array Value) (k : Nat) (v : Int) (hk : k < 8) (hc : cs[k]? = some (.int .u64 v)) (W : World) : (Instr.index 118 (.agg cs) (.int .i64 (k : Int))).run Try.prog W = .ok (.int .u64 v) W := by
  have h1 : (0 : Int) ≤ (k : Int) ∧ (k : Int) < ((8 : Nat) : Int) := by omega
  have z := Try.sizeOf114
  have a := Try.isAgg114
  simp [Instr.index, go_sem, h1, part, z, a, hc]
  intro h
  omega
theorem stp_lit (v : Nat → Int) (k w : Int) : #[Value.int .u64 (IntKind.u64.wrap (IntKind.u64.wrap (tA v k w + turn3 (v 0) 28 34 39) + maS (v 0) (v 1) (v 2))), .int .u64 (v 0), .int .u64 (v 1), .int .u64 (v 2), .int .u64 (IntKind.u64.wrap (v 3 + tA v k w)), .int .u64 (v 4), .int .u64 (v 5), .int .u64 (v 6)] = (arL .u64 8 (stpF v k w)).toArray := by
  rfl

set_option maxRecDepth 100000 in
set_option maxHeartbeats 4000000 in
theorem mix_any (q : Nat) (g0 r : Nat → Int) (n : Int) (w : World) (hs : ShS w q g0 r n) (hr : ∀ j, 0 ≤ r j ∧ r j < 256) : Calls Try.prog 94 #[.pointer (some ⟨q, 0, none⟩)] w fun e w' => e = .returned (.tuple #[]) ∧ ShS w' q (mixF g0 r) r n ∧ Oth w w' q := by
  have HS := Lib.hid hs
  have HR := Lib.hid hr
  have HZ := Lib.hid zero80
  have hql := hs.lt
  clear hs hr
  go_enter Try.func94, Try.ntmps94
  go_wp2_with (refine wpList_load_mid rfl 120 (.tmp 15) rfl q 8 rfl _ _ HS.out.2.1.range Try.underlying120 rfl (by rw [arL_length]; kernel_rfl) ?_)
  refine (schedule_any r HR.out _).mono ?_; rintro e w1 ⟨rfl, hb⟩
  have HS1 := Lib.hid (HS.out.below hb)
  have HO1 := Lib.hid ((Oth.refl w q).below hb (Nat.le_refl _))
  clear hb HS
  have ha := arA_new (k := .u64) (n := 80) (f := fun _ => 0) w1 165
  rw [← zero80] at ha
  have hba := (Below.refl w1.heap.size w1).alloc (Nat.le_refl _) (.cells Try.zeroCells165 165)
  have hsz1 := HO1.out.size
  obtain ⟨q2, hq2⟩ : ∃ x, w1.heap.size = x := ⟨_, rfl⟩
  obtain ⟨w2, hw2⟩ : ∃ x, w1.alloc (.cells Try.zeroCells165 165) = x := ⟨_, rfl⟩
  have hs2 : w2.heap.size = q2 + 1 := by rw [← hw2, World.size_alloc, hq2]
  have HS2 := Lib.hid (HS1.out.below (by rw [hw2] at hba; exact hba))
  have HO2 := Lib.hid (HO1.out.below hba hsz1)
  rw [hw2] at ha HO2
  rw [hq2] at ha
  have HA := Lib.hid ha
  have HQ2 := Lib.hid hq2
  have HW2 := Lib.hid hw2
  have hqq : q < q2 := by omega
  have hwq2 : w.heap.size ≤ q2 := by omega
  clear ha hba hq2 hw2 HS1 HO1 hsz1
  have hz3 := oth_setCells (w := w2) (p := q2) 0 (arL .u64 80 (sch2 r 64))
  have HA3 := Lib.hid (arA_stored (f := sch2 r 64) HA.out)
  have HS3 := Lib.hid (HS2.out.oth hz3 (by omega))
  have HO3 := Lib.hid (HO2.out.below ((shb_setCells (Below.refl w.heap.size w2) (show w.heap.size ≤ q2 by omega) 0 (arL .u64 80 (sch2 r 64)))) (Nat.le_refl _))
  have hs3 : (w2.setCells q2 0 (arL .u64 80 (sch2 r 64))).heap.size = q2 + 1 := by rw [setCells_size, hs2]
  obtain ⟨w3, hw3⟩ : ∃ x, w2.setCells q2 0 (arL .u64 80 (sch2 r 64)) = x := ⟨_, rfl⟩
  rw [hw3] at HA3 HS3 HO3 hs3
  have HW3 := Lib.hid (show w2.setCells q2 0 (arL .u64 80 (sch2 r 64)).toArray.toList = w3 from hw3)
  clear hw3 hz3 hs2
  go_wp2_with (refine wpList_store_mid rfl 165 (.tmp 2) (.tmp 17) rfl _ _ (arL .u64 80 (sch2 r 64)).toArray rfl rfl (by rw [HW2.out, HQ2.out, List.size_toArray, arL_length]; exact HA.out.there) (by rw [List.size_toArray, arL_length]; kernel_rfl) arL_one ?_; rw [HW2.out, HQ2.out, HW3.out])
  clear HA HW2 HQ2 HS2 HO2 HW3
  refine (constants_any _).mono ?_; rintro e w4 ⟨rfl, hb⟩
  have HA4 := Lib.hid (HA3.out.below hb)
  have HS4 := Lib.hid (HS3.out.below hb)
  have HO4 := Lib.hid (HO3.out.below hb HO3.out.size)
  have hs4 := hb.size
  clear HA3 HS3 HO3 hb
  have ha := arA_new (k := .u64) (n := 80) (f := fun _ => 0) w4 165
  rw [← zero80] at ha
  have hba := (Below.refl w4.heap.size w4).alloc (Nat.le_refl _) (.cells Try.zeroCells165 165)
  have hsz4 := HO4.out.size
  obtain ⟨q3, hq3⟩ : ∃ x, w4.heap.size = x := ⟨_, rfl⟩
  obtain ⟨w5, hw5⟩ : ∃ x, w4.alloc (.cells Try.zeroCells165 165) = x := ⟨_, rfl⟩
  have hs5 : w5.heap.size = q3 + 1 := by rw [← hw5, World.size_alloc, hq3]
  rw [hw5] at ha hba
  rw [hq3] at ha
  have HB5 := Lib.hid hba
  have HW5 := Lib.hid hw5
  have HQ3 := Lib.hid hq3
  have hq23 : q2 < q3 := by omega
  have hwq3 : w.heap.size ≤ q3 := by omega
  have HA := Lib.hid ha
  have HA5 := Lib.hid ((HA4.out.below hba).oth (oth_setCells (w := w5) (p := q3) 0 (arL .u64 80 kayF)) (by omega))
  have HS5 := Lib.hid ((HS4.out.below hba).oth (oth_setCells (w := w5) (p := q3) 0 (arL .u64 80 kayF)) (by omega))
  have HK5 := Lib.hid (arA_stored (f := kayF) ha)
  have HO5 := Lib.hid ((HO4.out.below hba hsz4).below (shb_setCells (Below.refl w.heap.size w5) hwq3 0 (arL .u64 80 kayF)) (Nat.le_refl _))
  have hs6 : (w5.setCells q3 0 (arL .u64 80 kayF)).heap.size = q3 + 1 := by rw [setCells_size, hs5]
  obtain ⟨w6, hw6⟩ : ∃ x, w5.setCells q3 0 (arL .u64 80 kayF) = x := ⟨_, rfl⟩
  rw [hw6] at HA5 HS5 HK5 HO5 hs6
  have HW6 := Lib.hid (show w5.setCells q3 0 (arL .u64 80 kayF).toArray.toList = w6 from hw6)
  clear ha hba hq3 hw5 hw6 hs5 HA4 HS4 HO4
  have hz := arA_new (k := .u64) (n := 8) (f := fun _ => 0) w6 118
  rw [← zero8] at hz
  have hbz := (Below.refl w6.heap.size w6).alloc (Nat.le_refl _) (.cells #[Value.int .u64 0, Value.int .u64 0, Value.int .u64 0, Value.int .u64 0, Value.int .u64 0, Value.int .u64 0, Value.int .u64 0, Value.int .u64 0] 118)
  have hsz6 := HO5.out.size
  obtain ⟨q4, hq4⟩ : ∃ x, w6.heap.size = x := ⟨_, rfl⟩
  obtain ⟨w7, hw7⟩ : ∃ x, w6.alloc (.cells #[Value.int .u64 0, Value.int .u64 0, Value.int .u64 0, Value.int .u64 0, Value.int .u64 0, Value.int .u64 0, Value.int .u64 0, Value.int .u64 0] 118) = x := ⟨_, rfl⟩
  have hs7 : w7.heap.size = q4 + 1 := by rw [← hw7, World.size_alloc, hq4]
  rw [hw7] at hz hbz
  rw [hq4] at hz
  have HW7 := Lib.hid hw7
  have HQ4 := Lib.hid hq4
  have hq34 : q3 < q4 := by omega
  have hwq4 : w.heap.size ≤ q4 := by omega
  have HZ7 := Lib.hid hz
  have HA8 := Lib.hid ((HA5.out.below hbz).oth (oth_setCells (w := w7) (p := q4) 0 (arL .u64 8 g0)) (by omega))
  have HS8 := Lib.hid ((HS5.out.below hbz).oth (oth_setCells (w := w7) (p := q4) 0 (arL .u64 8 g0)) (by omega))
  have HK8 := Lib.hid ((HK5.out.below hbz).oth (oth_setCells (w := w7) (p := q4) 0 (arL .u64 8 g0)) (by omega))
  have HV8 := Lib.hid (arA_stored (f := g0) hz)
  have HO8 := Lib.hid ((HO5.out.below hbz hsz6).below (shb_setCells (Below.refl w.heap.size w7) hwq4 0 (arL .u64 8 g0)) (Nat.le_refl _))
  have hs8 : (w7.setCells q4 0 (arL .u64 8 g0)).heap.size = q4 + 1 := by rw [setCells_size, hs7]
  obtain ⟨w8, hw8⟩ : ∃ x, w7.setCells q4 0 (arL .u64 8 g0) = x := ⟨_, rfl⟩
  rw [hw8] at HA8 HS8 HK8 HV8 HO8 hs8
  have HW8 := Lib.hid (show w7.setCells q4 0 (arL .u64 8 g0).toArray.toList = w8 from hw8)
  have HS6 := HS5
  clear hs3 hs4 hsz4 hs6 hsz6 hs8 hz hbz hq4 hw7 hw8 hs7 HA5 HS5 HK5 HO5
  go_wp2_with (first | (refine wpList_store_mid rfl 165 (.tmp 3) (.tmp 18) rfl _ _ (arL .u64 80 kayF).toArray rfl rfl (by rw [HW5.out, HQ3.out, List.size_toArray, arL_length]; exact HA.out.there) (by rw [List.size_toArray, arL_length]; kernel_rfl) arL_one ?_; rw [HW5.out, HQ3.out, HW6.out]) | (refine wpList_load_mid rfl 118 (.tmp 21) rfl q 0 rfl _ _ HS6.out.1.range Try.underlying118 rfl (by rw [arL_length]; kernel_rfl) ?_) | (refine wpList_store_mid rfl 118 (.tmp 4) (.tmp 22) rfl _ _ (arL .u64 8 g0).toArray rfl rfl (by rw [HW7.out, HQ4.out, List.size_toArray, arL_length]; exact HZ7.out.there) (by rw [List.size_toArray, arL_length]; kernel_rfl) arL_one ?_; rw [HW7.out, HQ4.out, HW8.out]))
  clear HA HW5 HQ3 HB5 HW6 HS6 HW7 HQ4 HZ7 HW8
  have HQN := Lib.hid (show q2 ≠ q4 ∧ q3 ≠ q4 ∧ q ≠ q4 by omega)
  go_loopw [23] (fun i wr => ∃ t : Nat, t ≤ 80 ∧ i = .int .i64 t ∧ Hid (ArA .u64 80 wr q2 0 (sch2 r 64)) ∧ Hid (ArA .u64 80 wr q3 0 kayF) ∧ Hid (ArA .u64 8 wr q4 0 (rnd g0 (sch2 r 64) t)) ∧ Hid (ShS wr q g0 r n) ∧ Hid (Oth w wr q)) (fun i _ => 80 - (intOf i).toNat)
  case atStart => exact ⟨0, Nat.zero_le _, rfl, HA8, HK8, HV8, HS8, HO8⟩
  case round =>
    clear HA8 HK8 HV8 HS8 HO8
    obtain ⟨t, ht, rfl, HA8, HK8, HV8, HS8, HO8⟩ := hrel
    by_cases hlt : t < 80
    · obtain ⟨v, hv⟩ : ∃ x, rnd g0 (sch2 r 64) t = x := ⟨_, rfl⟩
      have HV := Lib.hid (show rnd g0 (sch2 r 64) (t + 1) = stpF v (kayF t) (sch2 r 64 t) by rw [rnd, hv])
      rw [hv] at HV8
      obtain ⟨kt, hkt⟩ : ∃ x, kayF t = x := ⟨_, rfl⟩
      obtain ⟨wt, hwt⟩ : ∃ x, sch2 r 64 t = x := ⟨_, rfl⟩
      rw [hkt, hwt] at HV
      obtain ⟨c0, -⟩ := HV8.out 0 (by decide)
      obtain ⟨v0, hv0⟩ : ∃ x, v 0 = x := ⟨_, rfl⟩
      rw [hv0] at c0
      obtain ⟨c1, -⟩ := HV8.out 1 (by decide)
      obtain ⟨v1, hv1⟩ : ∃ x, v 1 = x := ⟨_, rfl⟩
      rw [hv1] at c1
      obtain ⟨c2, -⟩ := HV8.out 2 (by decide)
      obtain ⟨v2, hv2⟩ : ∃ x, v 2 = x := ⟨_, rfl⟩
      rw [hv2] at c2
      obtain ⟨c3, -⟩ := HV8.out 3 (by decide)
      obtain ⟨v3, hv3⟩ : ∃ x, v 3 = x := ⟨_, rfl⟩
      rw [hv3] at c3
      obtain ⟨c4, -⟩ := HV8.out 4 (by decide)
      obtain ⟨v4, hv4⟩ : ∃ x, v 4 = x := ⟨_, rfl⟩
      rw [hv4] at c4
      obtain ⟨c5, -⟩ := HV8.out 5 (by decide)
      obtain ⟨v5, hv5⟩ : ∃ x, v 5 = x := ⟨_, rfl⟩
      rw [hv5] at c5
      obtain ⟨c6, -⟩ := HV8.out 6 (by decide)
      obtain ⟨v6, hv6⟩ : ∃ x, v 6 = x := ⟨_, rfl⟩
      rw [hv6] at c6
      obtain ⟨c7, -⟩ := HV8.out 7 (by decide)
      obtain ⟨v7, hv7⟩ : ∃ x, v 7 = x := ⟨_, rfl⟩
      rw [hv7] at c7
      obtain ⟨ck, -⟩ := HK8.out t hlt
      rw [Nat.zero_add, hkt] at ck
      obtain ⟨cw, -⟩ := HA8.out t hlt
      rw [Nat.zero_add, hwt] at cw
      have HVV := Lib.hid (show #[Value.int .u64 (IntKind.u64.wrap (IntKind.u64.wrap (IntKind.u64.wrap (IntKind.u64.wrap (IntKind.u64.wrap (IntKind.u64.wrap (v7 + turn3 v4 14 18 41) + chS v4 v5 v6) + kt) + wt) + turn3 v0 28 34 39) + maS v0 v1 v2)), .int .u64 v0, .int .u64 v1, .int .u64 v2, .int .u64 (IntKind.u64.wrap (v3 + IntKind.u64.wrap (IntKind.u64.wrap (IntKind.u64.wrap (IntKind.u64.wrap (v7 + turn3 v4 14 18 41) + chS v4 v5 v6) + kt) + wt))), .int .u64 v4, .int .u64 v5, .int .u64 v6] = (arL .u64 8 (stpF v kt wt)).toArray by
        rw [← stp_lit]
        simp only [tA, hv0, hv1, hv2, hv3, hv4, hv5, hv6, hv7])
      have pt : (0 : Int) ≤ (t : Int) := by omega
      have rt : (t : Int) < 80 := by omega
      have HT := Lib.hid hlt
      have HVE := Lib.hid (show v 0 = v0 ∧ v 1 = v1 ∧ v 2 = v2 ∧ v 3 = v3 ∧ v 4 = v4 ∧ v 5 = v5 ∧ v 6 = v6 ∧ v 7 = v7 from ⟨hv0, hv1, hv2, hv3, hv4, hv5, hv6, hv7⟩)
      clear hv hkt hwt hv0 hv1 hv2 hv3 hv4 hv5 hv6 hv7
      go_wp2_with fail
      refine (turn14 v4 _).mono ?_; rintro e wz ⟨rfl, rfl⟩
      go_wp2_with fail
      go_quiet (fail)
      rename_i nq
      have hbq := below_drewN (Below.refl wr.heap.size wr) nq
      have HA9 := Lib.hid (HA8.out.below hbq)
      have HK9 := Lib.hid (HK8.out.below hbq)
      have HV9 := Lib.hid (HV8.out.below hbq)
      have HS9 := Lib.hid (HS8.out.below hbq)
      have HO9 := Lib.hid (HO8.out.below hbq HO8.out.size)
      obtain ⟨w9, hw9⟩ : ∃ z, wr.drewN nq = z := ⟨_, rfl⟩
      rw [hw9] at HA9 HK9 HV9 HS9 HO9 ⊢
      clear hbq hw9 c0 c1 c2 c3 c4 c5 c6 c7 ck cw HA8 HK8 HS8 HO8
      obtain ⟨c0, -⟩ := HV9.out 0 (by decide)
      rw [show v 0 = v0 from HVE.out.1] at c0
      obtain ⟨c1, -⟩ := HV9.out 1 (by decide)
      rw [show v 1 = v1 from HVE.out.2.1] at c1
      obtain ⟨c2, -⟩ := HV9.out 2 (by decide)
      rw [show v 2 = v2 from HVE.out.2.2.1] at c2
      obtain ⟨c3, -⟩ := HV9.out 3 (by decide)
      rw [show v 3 = v3 from HVE.out.2.2.2.1] at c3
      obtain ⟨c4, -⟩ := HV9.out 4 (by decide)
      rw [show v 4 = v4 from HVE.out.2.2.2.2.1] at c4
      obtain ⟨c5, -⟩ := HV9.out 5 (by decide)
      rw [show v 5 = v5 from HVE.out.2.2.2.2.2.1] at c5
      obtain ⟨c6, -⟩ := HV9.out 6 (by decide)
      rw [show v 6 = v6 from HVE.out.2.2.2.2.2.2.1] at c6
      obtain ⟨c7, -⟩ := HV9.out 7 (by decide)
      rw [show v 7 = v7 from HVE.out.2.2.2.2.2.2.2] at c7
      go_wp2_with fail
      refine (turn28 v0 _).mono ?_; rintro e wz ⟨rfl, rfl⟩
      have hz := oth_setCells (w := w9) (p := q4) 0 (arL .u64 8 (stpF v kt wt))
      have HA10 := Lib.hid (HA9.out.oth hz HQN.out.1)
      have HK10 := Lib.hid (HK9.out.oth hz HQN.out.2.1)
      have HS10 := Lib.hid (HS9.out.oth hz HQN.out.2.2)
      have HV10 := Lib.hid (show ArA .u64 8 (w9.setCells q4 0 (arL .u64 8 (stpF v kt wt))) q4 0 (rnd g0 (sch2 r 64) (t + 1)) by rw [HV.out]; exact arA_stored HV9.out)
      have HO10 := Lib.hid (HO9.out.below (shb_setCells (Below.refl w.heap.size w9) hwq4 0 (arL .u64 8 (stpF v kt wt))) (Nat.le_refl _))
      obtain ⟨w10, hw10⟩ : ∃ x, w9.setCells q4 0 (arL .u64 8 (stpF v kt wt)) = x := ⟨_, rfl⟩
      rw [hw10] at HA10 HK10 HS10 HV10 HO10
      have HW10 := Lib.hid (show w9.setCells q4 0 (arL .u64 8 (stpF v kt wt)).toArray.toList = w10 from hw10)
      clear hz hw10 HA9 HK9 HS9 HO9 HV HVE
      go_wp2_with (refine wpList_store_mid rfl 118 (.tmp 4) (.tmp 96) rfl q4 0 (arL .u64 8 (stpF v kt wt)).toArray rfl (congrArg Value.agg HVV.out) (by rw [List.size_toArray, arL_length]; exact HV9.out.there) (by rw [List.size_toArray, arL_length]; kernel_rfl) arL_one ?_; rw [HW10.out])
      go_roundw
      case rel => exact ⟨t + 1, HT.out, by go_num, HA10, HK10, HV10, HS10, HO10⟩
      case measure =>
        simp only [intOf]
        have := HT.out
        omega
    · have ht80 : t = 80 := by omega
      subst ht80
      have d0 : decide (((80 : Nat) : Int) < 80) = false := by decide
      clear hlt ht
      go_wp2_with (refine wpList_load_mid rfl 118 (.tmp 4) rfl q4 0 rfl _ _ HV8.out.range Try.underlying118 rfl (by rw [arL_length]; kernel_rfl) ?_)
      obtain ⟨v, hv⟩ : ∃ x, rnd g0 (sch2 r 64) 80 = x := ⟨_, rfl⟩
      have HM := Lib.hid (show mixF g0 r = mixTo g0 v 8 → True from fun _ => trivial)
      have HMF := Lib.hid (show ∀ j, j < 8 → mixTo g0 v 8 j = mixF g0 r j from fun j hj => by simp only [mixTo, mixF, hv, if_pos hj])
      have HS := Lib.hid (show ShS wr q (mixTo g0 v 0) r n from HS8.out)
      rw [hv]
      clear hv HA8 HK8 HV8 HS8 HM
      go_loopw [99] (fun i wx => ∃ k : Nat, k ≤ 8 ∧ i = .int .i64 k ∧ Hid (ShS wx q (mixTo g0 v k) r n) ∧ Hid (Oth w wx q)) (fun i _ => 8 - (intOf i).toNat)
      case atStart => exact ⟨0, Nat.zero_le _, rfl, HS, HO8⟩
      case round =>
        clear HS HO8
        obtain ⟨k, hk, rfl, HS, HO8⟩ := hrel
        by_cases hlt : k < 8
        · obtain ⟨c0, f0⟩ := HS.out.1 k hlt
          rw [Nat.zero_add] at c0 f0
          obtain ⟨x, hx⟩ : ∃ z, mixTo g0 v k k = z := ⟨_, rfl⟩
          rw [hx] at c0
          obtain ⟨vk, hvk⟩ : ∃ z, v k = z := ⟨_, rfl⟩
          have hix := ix64_8 (arL .u64 8 v).toArray k vk hlt (by rw [List.getElem?_toArray, arL_get hlt, hvk])
          have HX := Lib.hid (show mixTo g0 v (k + 1) = fun j => if j = k then IntKind.u64.wrap (x + vk) else mixTo g0 v k j by rw [mixTo_next, hx, hvk])
          have HK := Lib.hid hlt
          have pk : (0 : Int) ≤ (k : Int) := by omega
          have rk : (k : Int) < 8 := by omega
          clear hx hvk
          go_upto_region 16 with (fail)
          go_still_tail 11, (by kernel_rfl)
          change wpList _ _ _ _ _ wr.drew
          have hbd := (Below.refl wr.heap.size wr).drew
          have HS2 := Lib.hid (HS.out.below hbd)
          have HO9 := Lib.hid (HO8.out.below hbd HO8.out.size)
          obtain ⟨w6, hw6⟩ : ∃ z, wr.drew = z := ⟨_, rfl⟩
          rw [hw6] at HS2 HO9 ⊢
          have c0' : w6.cell? ⟨q, k, none⟩ = some (.int .u64 x) := by rw [← hw6]; exact c0
          have f0' : w6.frozen? ⟨q, k, none⟩ = false := by rw [← hw6]; exact f0
          clear hbd hw6 c0 f0 HS HO8
          go_wp2
          go_roundw
          case rel => exact ⟨k + 1, HK.out, by go_num, Lib.hid (by rw [HX.out]; exact HS2.out.word HK.out _), Lib.hid (HO9.out.set _ _)⟩
          case measure =>
            simp only [intOf]
            have := HK.out
            omega
        · have hk8 : k = 8 := by omega
          have HSF := Lib.hid (show ShS wr q (mixF g0 r) r n from by
            have h1 := HS.out
            rw [hk8] at h1
            obtain ⟨a1, a2, a3, a4⟩ := h1
            exact ⟨a1.congr HMF.out, a2, a3, a4⟩)
          have d0 := dF (p := k < 8) hlt
          have d0i : decide ((k : Int) < 8) = false := dF (by omega)
          clear hlt hk hk8 HS
          go_wp2
          refine bodyPost_end (v := .tuple #[]) (by simp [results, Try.results94, go_sem]) rfl ⟨rfl, HSF.out, HO8.out⟩
end Go.Proofs.Ytocfphijheidbaa
