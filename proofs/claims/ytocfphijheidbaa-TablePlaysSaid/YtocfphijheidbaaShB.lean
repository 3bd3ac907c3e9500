/- Arrays of numbers in a block, from a place on. -/
import Derived.Test.YtocfphijheidbaaShA
import Derived.Deep.MidRow
import Derived.Laws.ResultCell
import Derived.Deep.DeepCutAuto
import Derived.StillTailTactics
import Derived.BigQuiet
import Derived.Deep.QuietTactic
namespace Go.Proofs.Ytocfphijheidbaa
open Go.RowKit

/-- An array of numbers in a block. -/
def ArA (k : IntKind) (n : Nat) (w : World) (q o : Nat) (f : Nat → Int) : Prop := ∀ j, j < n → w.cell? ⟨q, o + j, none⟩ = some (.int k (f j)) ∧ w.frozen? ⟨q, o + j, none⟩ = false
def arL (k : IntKind) (n : Nat) (f : Nat → Int) : List Value := (List.range n).map fun j => Value.int k (f j)
section
variable {k : IntKind} {n : Nat} {w w' : World} {q o : Nat} {f g : Nat → Int}
theorem arL_length : (arL k n f).length = n := by simp [arL]
theorem arL_at {j : Nat} {v : Value} (h : (arL k n f)[j]? = some v) : j < n ∧ v = .int k (f j) := by
  have hj : j < n := by
    have := (List.getElem?_eq_some_iff.1 h).1
    rwa [arL_length] at this
  refine ⟨hj, ?_⟩
  simp [arL, hj] at h
  exact h.symm
theorem arL_get {j : Nat} (h : j < n) : (arL k n f)[j]? = some (.int k (f j)) := by simp [arL, h]
theorem ArA.range (h : ArA k n w q o f) : w.rangeAt q o (arL k n f) := by
  intro j v hv
  obtain ⟨h1, rfl⟩ := arL_at hv
  exact (h j h1).1
theorem ArA.there (h : ArA k n w q o f) : w.there q o n := by
  intro j hj
  rw [(h j hj).1, (h j hj).2]
  exact ⟨rfl, rfl⟩
theorem arL_one : (arL k n f).toArray.all (·.oneCell') = true := by
  refine all_oneCell_toArray ?_
  intro v hv
  simp only [arL, List.mem_map] at hv
  obtain ⟨_, _, rfl⟩ := hv
  rfl
theorem arA_stored (h : ArA k n w q o g) : ArA k n (w.setCells q o (arL k n f)) q o f := by
  have ht := h.there
  have h1 := World.rangeAt_setCells_same w q o (arL k n f) (by rw [arL_length]; exact ht)
  have h2 := World.there_setCells ht q o (arL k n f)
  intro j hj
  exact ⟨h1 j _ (arL_get hj), (h2 j hj).2⟩
theorem ArA.below (h : ArA k n w q o f) (hb : Below w.heap.size w w') : ArA k n w' q o f := by
  intro j hj
  obtain ⟨h1, h2⟩ := h j hj
  have hlt : q < w.heap.size := block_lt_of_cell h1
  exact ⟨by rw [hb.cell hlt]; exact h1, by rw [hb.frozen hlt]; exact h2⟩
theorem ArA.set (h : ArA k n w q o f) {i : Nat} (v : Int) : ArA k n (w.setCell ⟨q, o + i, none⟩ (.int k v)) q o (fun j => if j = i then v else f j) := by
  intro j hj
  obtain ⟨h1, h2⟩ := h j hj
  refine ⟨?_, by simpa using h2⟩
  show _ = some (Value.int k (if j = i then v else f j))
  by_cases e : j = i
  · subst e
    rw [if_pos rfl]
    exact World.cell?_setCell_same _ _ _ h1
  · rw [if_neg e, World.cell?_setCell_other _ _ _ _ (by intro h; injection h with _ h _; omega)]
    exact h1
theorem ArA.other (h : ArA k n w q o f) {p : Addr} (hk : p.block ≠ q) (v : Value) : ArA k n (w.setCell p v) q o f := by
  intro j hj
  obtain ⟨h1, h2⟩ := h j hj
  refine ⟨?_, by simpa using h2⟩
  rw [World.cell?_setCell_other _ _ _ _ (by rintro rfl; exact hk rfl)]
  exact h1
theorem shb_setCells {B : Nat} {w0 : World} (h : Below B w0 w) {b : Nat} (hb : B ≤ b) (o : Nat) (vs : List Value) : Below B w0 (w.setCells b o vs) := by
  induction vs generalizing o w with
  | nil => exact h
  | cons v vs ih => exact ih (h.setCell hb v) (o + 1)
theorem arA_new (w : World) (T : TypeId) : ArA k n (w.alloc (.cells (arL k n f).toArray T)) w.heap.size 0 f := by
  intro j hj
  rw [World.cell?_alloc_new, World.frozen?_alloc_new, Nat.zero_add]
  refine ⟨?_, rfl⟩
  rw [List.getElem?_toArray]
  exact arL_get hj
end
theorem zero80 : Try.zeroCells165 = (arL .u64 80 (fun _ => 0)).toArray := by kernel_rfl

/-- The words of a block: behind so many of its bytes. -/
def sch1 (b : Nat → Int) : Nat → Nat → Int
  | 0 => fun _ => 0
  | k + 1 => fun j => if j = k / 8 then bits .or .u64 (IntKind.u64.wrap (sch1 b k (k / 8) * 256)) (b k) else sch1 b k j
def sg0 (x : Int) : Int := bits .xor .u64 (bits .xor .u64 (rotr x 1) (rotr x 8)) (x / 128)
def sg1 (x : Int) : Int := bits .xor .u64 (bits .xor .u64 (rotr x 19) (rotr x 61)) (x / 64)
/-- .. behind so many of the words that follow. -/
def sch2 (b : Nat → Int) : Nat → Nat → Int
  | 0 => sch1 b 128
  | m + 1 => fun j => if j = m + 16 then IntKind.u64.wrap (IntKind.u64.wrap (IntKind.u64.wrap (sg1 (sch2 b m (m + 14)) + sch2 b m (m + 9)) + sg0 (sch2 b m (m + 1))) + sch2 b m m) else sch2 b m j

theorem results_cell1 {fn : Func} {p : Tmp} {ty : TypeId} (h : fn.results = #[.cell p ty]) (tmps : Array Value) (P : Program) (w : World) :
    (results fn tmps).run P w = ((asAddr (tmps.getD p undef)).run P w).andThen fun a w1 => (loadVar ty a).run P w1 := by
  simp only [results, h]
  simp [Sem.run_bind, Result.andThen]
theorem ix8 (cs : Array Value) (k : Nat) (v : Int) (hk : k < 128) (hc : cs[k]? = some (.int .u8 v)) (W : World) : (Instr.index 120 (.agg cs) (.int .i64 (k : Int))).run Try.prog W = .ok (.int .u8 v) W := by
  have h1 : (0 : Int) ≤ (k : Int) ∧ (k : Int) < ((128 : Nat) : Int) := by omega
  have z := Try.sizeOf5
  have a := Try.isAgg5
  simp [Instr.index, go_sem, h1, part, z, a, hc]
  intro h
  omega
set_option maxRecDepth 100000 in
set_option maxHeartbeats 4000000 in
theorem schedule_any (b : Nat → Int) (hb : ∀ j, 0 ≤ b j ∧ b j < 256) (w : World) : Calls Try.prog 102 #[.agg (arL .u8 128 b).toArray] w fun e w' => e = .returned (.agg (arL .u64 80 (sch2 b 64)).toArray) ∧ Below w.heap.size w w' := by
  have HZ := Lib.hid zero80
  have HB := Lib.hid hb
  clear hb
  have hA := (Below.refl w.heap.size w).alloc (Nat.le_refl _) (.cells (arL .u8 128 b).toArray 120)
  have hB2 := hA.alloc hA.size (.cells Try.zeroCells165 165)
  have hB3 := hB2.alloc hB2.size (.cells Try.zeroCells165 165)
  have a1 := arA_new (k := .u8) (n := 128) (f := b) w 120
  obtain ⟨w1, hw1⟩ : ∃ x, w.alloc (.cells (arL .u8 128 b).toArray 120) = x := ⟨_, rfl⟩
  have hs1 : w1.heap.size = w.heap.size + 1 := by rw [← hw1, World.size_alloc]
  rw [hw1] at a1 hA hB2 hB3
  have a2 := arA_new (k := .u64) (n := 80) (f := fun _ => 0) w1 165
  rw [← zero80] at a2
  have g2 := (Below.refl w1.heap.size w1).alloc (Nat.le_refl _) (.cells Try.zeroCells165 165)
  obtain ⟨w2, hw2⟩ : ∃ x, w1.alloc (.cells Try.zeroCells165 165) = x := ⟨_, rfl⟩
  have hs2 : w2.heap.size = w.heap.size + 1 + 1 := by rw [← hw2, World.size_alloc, hs1]
  rw [hw2] at a2 g2 hB2 hB3
  replace a1 := a1.below g2
  have a3 := arA_new (k := .u64) (n := 80) (f := fun _ => 0) w2 165
  rw [← zero80] at a3
  have g3 := (Below.refl w2.heap.size w2).alloc (Nat.le_refl _) (.cells Try.zeroCells165 165)
  obtain ⟨w3, hw3⟩ : ∃ x, w2.alloc (.cells Try.zeroCells165 165) = x := ⟨_, rfl⟩
  rw [hw3] at a3 g3 hB3
  replace a1 := a1.below g3
  replace a2 := a2.below g3
  rw [hs1] at a2
  rw [hs2] at a3
  obtain ⟨q1, hq1⟩ : ∃ x, w.heap.size = x := ⟨_, rfl⟩
  obtain ⟨q2, hq2⟩ : ∃ x, w.heap.size + 1 = x := ⟨_, rfl⟩
  obtain ⟨q3, hq3⟩ : ∃ x, w.heap.size + 1 + 1 = x := ⟨_, rfl⟩
  have HQ := Lib.hid (show w.heap.size ≤ q2 ∧ w.heap.size ≤ q3 ∧ q2 ≠ q3 by omega)
  have HQ1 := Lib.hid hq1
  have HQ2 := Lib.hid hq2
  have HQ3 := Lib.hid hq3
  have HA1 := Lib.hid (show ArA .u8 128 w3 q1 0 b by rw [← hq1]; exact a1)
  have HA2 := Lib.hid (show ArA .u64 80 w3 q2 0 (fun _ => 0) by rw [← hq2]; exact a2)
  have HA3 := Lib.hid (show ArA .u64 80 w3 q3 0 (fun _ => 0) by rw [← hq3]; exact a3)
  have HBW := Lib.hid hB3
  have HW1 := Lib.hid hw1
  have HW2 := Lib.hid hw2
  have HW3 := Lib.hid hw3
  clear hA hB2 hB3 a1 a2 a3 g2 g3 hw1 hw2 hw3 hs1 hs2 hq1 hq2 hq3
  go_enter Try.func102, Try.ntmps102
  go_upto_region 2 with (fail)
  rw [HW1.out, HW2.out, HW3.out, HQ3.out, HQ2.out, HQ1.out]
  clear HW1 HW2 HW3 HQ1 HQ2 HQ3
  go_wp2_with (refine wpList_load_mid rfl 120 (.tmp 1) rfl _ _ rfl _ _ HA1.out.range Try.underlying120 rfl (by rw [arL_length]; kernel_rfl) ?_)
  go_loopw [12] (fun i wr => ∃ k : Nat, k ≤ 128 ∧ i = .int .i64 k ∧ Hid (ArA .u64 80 wr q3 0 (sch1 b k)) ∧ Hid (ArA .u64 80 wr q2 0 (fun _ => 0)) ∧ Hid (Below w.heap.size w wr)) (fun i _ => 128 - (intOf i).toNat)
  case atStart => exact ⟨0, Nat.zero_le _, rfl, HA3, HA2, HBW⟩
  case round =>
    clear HA3 HA2 HBW
    obtain ⟨k, hk, rfl, HA3, HA2, HBW⟩ := hrel
    by_cases hlt : k < 128
    · obtain ⟨d, hd⟩ : ∃ x, k / 8 = x := ⟨_, rfl⟩
      have HD := Lib.hid hd
      have htd : (k : Int).tdiv 8 = (d : Int) := by rw [← hd]; exact (Int.ofNat_tdiv k 8).symm
      have hwd : IntKind.i64.wrap (d : Int) = (d : Int) := by rw [IntKind.wrap_i64]; omega
      have hdl : d < 80 := by omega
      obtain ⟨c1, f1⟩ := HA3.out d hdl
      rw [Nat.zero_add] at c1 f1
      obtain ⟨x, hx⟩ : ∃ z, sch1 b k d = z := ⟨_, rfl⟩
      obtain ⟨v, hv⟩ : ∃ z, b k = z := ⟨_, rfl⟩
      have hix := ix8 (arL .u8 128 b).toArray k v hlt (by rw [List.getElem?_toArray, arL_get hlt, hv])
      have hwv : IntKind.u64.wrap v = v := by have := HB.out k; rw [hv] at this; rw [IntKind.wrap_u64]; omega
      rw [hx] at c1
      have HS := Lib.hid (show ∀ wz, Hid (ArA .u64 80 wz q3 0 (sch1 b k)) → ArA .u64 80 (wz.setCell ⟨q3, d, none⟩ (.int .u64 (bits .or .u64 (IntKind.u64.wrap (x * 256)) v))) q3 0 (sch1 b (k + 1)) from fun wz hz => by
        have h := hz.out.set (i := d) (bits .or .u64 (IntKind.u64.wrap (x * 256)) v)
        rw [Nat.zero_add] at h
        have e : sch1 b (k + 1) = fun j => if j = d then bits .or .u64 (IntKind.u64.wrap (x * 256)) v else sch1 b k j := by rw [sch1, HD.out, hx, hv]
        rw [e]
        exact h)
      have HK := Lib.hid hlt
      have HN := Lib.hid HQ.out.2.2
      clear hd hx hv
      go_wp2
      go_roundw
      case rel => exact ⟨k + 1, HK.out, by go_num, Lib.hid (HS.out _ HA3), Lib.hid (HA2.out.other (fun e => HN.out e.symm) _), Lib.hid (HBW.out.setCell HQ.out.2.1 _)⟩
      case measure =>
        simp only [intOf]
        have := HK.out
        omega
    · have hk128 : k = 128 := by omega
      replace HA3 := Lib.hid (show ArA .u64 80 wr q3 0 (sch2 b 0) from by have h := HA3.out; rw [hk128] at h; exact h)
      have d0 := dF (p := k < 128) hlt
      have d0i : decide ((k : Int) < 128) = false := dF (by omega)
      clear hlt hk hk128
      go_wp2_with fail
      go_loopw [6] (fun i wx => ∃ m t : Nat, m ≤ 64 ∧ i = .int .i64 t ∧ Hid (t = m + 16) ∧ Hid (ArA .u64 80 wx q3 0 (sch2 b m)) ∧ Hid (ArA .u64 80 wx q2 0 (fun _ => 0)) ∧ Hid (Below w.heap.size w wx)) (fun i _ => 80 - (intOf i).toNat)
      case atStart => exact ⟨0, 16, Nat.zero_le _, rfl, Lib.hid rfl, HA3, HA2, HBW⟩
      case round =>
        clear HA3 HA2 HBW
        obtain ⟨m, t, hm, rfl, HT, HA3, HA2, HBW⟩ := hrel
        by_cases hlt : m < 64
        rotate_left
        · have hm64 : m = 64 := by omega
          subst hm64
          have d1 : decide ((t : Int) < 80) = false := dF (by have := HT.out; omega)
          clear hlt hm
          have HQ2 := Lib.hid HQ.out.1
          go_wp2_with (first | (refine wpList_load_mid rfl 165 (.tmp 3) rfl _ _ rfl _ _ HA3.out.range Try.underlying165 rfl (by rw [arL_length]; kernel_rfl) ?_) | (refine wpList_store_mid rfl 165 (.tmp 2) (.tmp 71) rfl _ _ _ rfl rfl HA2.out.there (by rw [List.size_toArray, arL_length]; kernel_rfl) arL_one ?_))
          refine bodyPost_ret (v := .agg (arL .u64 80 (sch2 b 64)).toArray) ?_ rfl ⟨rfl, shb_setCells HBW.out HQ2.out _ _⟩
          rw [results_cell1 Try.results102]
          have hr := run_loadVar_mid (P := Try.prog) (wr.setCells q2 0 (arL .u64 80 (sch2 b 64))) q2 0 165 (arL .u64 80 (sch2 b 64)) _ (arA_stored HA2.out).range Try.underlying165 rfl (by rw [arL_length]; kernel_rfl)
          show ((asAddr (.pointer (some ⟨q2, 0, none⟩))).run Try.prog _).andThen _ = _
          simp [asAddr, hr]
        have ht := HT.out
        have d1 : decide ((t : Int) < 80) = true := dT (by omega)
        have htl : t < 80 := by omega
        obtain ⟨i15, hi15⟩ : ∃ z, m + 1 = z := ⟨_, rfl⟩
        have si15 : (t : Int) - 15 = (i15 : Int) := by omega
        have wi15 : IntKind.i64.wrap (i15 : Int) = (i15 : Int) := by rw [IntKind.wrap_i64]; omega
        have li15 : i15 < 80 := by omega
        obtain ⟨ci15, -⟩ := HA3.out i15 li15
        rw [Nat.zero_add] at ci15
        obtain ⟨xi15, hxi15⟩ : ∃ z, sch2 b m i15 = z := ⟨_, rfl⟩
        rw [hxi15] at ci15
        obtain ⟨i2, hi2⟩ : ∃ z, m + 14 = z := ⟨_, rfl⟩
        have si2 : (t : Int) - 2 = (i2 : Int) := by omega
        have wi2 : IntKind.i64.wrap (i2 : Int) = (i2 : Int) := by rw [IntKind.wrap_i64]; omega
        have li2 : i2 < 80 := by omega
        obtain ⟨ci2, -⟩ := HA3.out i2 li2
        rw [Nat.zero_add] at ci2
        obtain ⟨xi2, hxi2⟩ : ∃ z, sch2 b m i2 = z := ⟨_, rfl⟩
        rw [hxi2] at ci2
        obtain ⟨i7, hi7⟩ : ∃ z, m + 9 = z := ⟨_, rfl⟩
        have si7 : (t : Int) - 7 = (i7 : Int) := by omega
        have wi7 : IntKind.i64.wrap (i7 : Int) = (i7 : Int) := by rw [IntKind.wrap_i64]; omega
        have li7 : i7 < 80 := by omega
        obtain ⟨ci7, -⟩ := HA3.out i7 li7
        rw [Nat.zero_add] at ci7
        obtain ⟨xi7, hxi7⟩ : ∃ z, sch2 b m i7 = z := ⟨_, rfl⟩
        rw [hxi7] at ci7
        obtain ⟨i16, hi16⟩ : ∃ z, m + 0 = z := ⟨_, rfl⟩
        have si16 : (t : Int) - 16 = (i16 : Int) := by omega
        have wi16 : IntKind.i64.wrap (i16 : Int) = (i16 : Int) := by rw [IntKind.wrap_i64]; omega
        have li16 : i16 < 80 := by omega
        obtain ⟨ci16, -⟩ := HA3.out i16 li16
        rw [Nat.zero_add] at ci16
        obtain ⟨xi16, hxi16⟩ : ∃ z, sch2 b m i16 = z := ⟨_, rfl⟩
        rw [hxi16] at ci16
        have HM := Lib.hid (show m < 64 from hlt)
        clear hm hlt ht
        go_upto_region 10 with (fail)
        go_quiet (fail)
        rename_i nq
        have hbq := below_drewN (Below.refl wr.heap.size wr) nq
        replace HA3 := Lib.hid (HA3.out.below hbq)
        replace HA2 := Lib.hid (HA2.out.below hbq)
        replace HBW := Lib.hid (HBW.out.trans (hbq.mono HBW.out.size))
        obtain ⟨w5, hw5⟩ : ∃ z, wr.drewN nq = z := ⟨_, rfl⟩
        rw [hw5] at HA3 HA2 HBW ⊢
        clear hbq hw5 ci15 ci2 ci7 ci16
        go_wp2_with fail
        refine (rot1 xi15 _).mono ?_; rintro e wz ⟨rfl, rfl⟩
        go_wp2_with fail
        refine (rot8 xi15 _).mono ?_; rintro e wz ⟨rfl, rfl⟩
        go_wp2_with fail
        refine (rot19 xi2 _).mono ?_; rintro e wz ⟨rfl, rfl⟩
        go_wp2_with fail
        refine (rot61 xi2 _).mono ?_; rintro e wz ⟨rfl, rfl⟩
        obtain ⟨ci7, -⟩ := HA3.out i7 li7
        rw [Nat.zero_add, hxi7] at ci7
        obtain ⟨ci16, -⟩ := HA3.out i16 li16
        rw [Nat.zero_add, hxi16] at ci16
        obtain ⟨ct, ft⟩ := HA3.out t htl
        rw [Nat.zero_add] at ct ft
        obtain ⟨xt, hxt⟩ : ∃ z, sch2 b m t = z := ⟨_, rfl⟩
        rw [hxt] at ct
        have p7 : (0 : Int) ≤ (i7 : Int) := by omega
        have r7 : (i7 : Int) < 80 := by omega
        have p16 : (0 : Int) ≤ (i16 : Int) := by omega
        have r16 : (i16 : Int) < 80 := by omega
        have pt : (0 : Int) ≤ (t : Int) := by omega
        have rt : (t : Int) < 80 := by omega
        have e7 : ({ heap := w5.heap, tape := w5.tape, drawn := w5.drawn + 1, os := w5.os, output := w5.output } : World).cell? ⟨q3, i7, none⟩ = some (.int .u64 xi7) := ci7
        have e16 : ({ heap := w5.heap, tape := w5.tape, drawn := w5.drawn + 1, os := w5.os, output := w5.output } : World).cell? ⟨q3, i16, none⟩ = some (.int .u64 xi16) := ci16
        go_upto_region 13 with (fail)
        go_still_tail 15, (by kernel_rfl)
        change wpList _ _ _ _ _ w5.drew
        have hbd := (Below.refl w5.heap.size w5).drew
        replace HA3 := Lib.hid (HA3.out.below hbd)
        replace HA2 := Lib.hid (HA2.out.below hbd)
        replace HBW := Lib.hid (HBW.out.trans (hbd.mono HBW.out.size))
        obtain ⟨w6, hw6⟩ : ∃ z, w5.drew = z := ⟨_, rfl⟩
        rw [hw6] at HA3 HA2 HBW ⊢
        clear e7 e16 ci7 ci16 ct ft hbd hw6
        obtain ⟨ct, ft⟩ := HA3.out t htl
        rw [Nat.zero_add] at ct ft
        rw [hxt] at ct
        obtain ⟨y, hy⟩ : ∃ z, IntKind.u64.wrap (IntKind.u64.wrap (IntKind.u64.wrap (sg1 xi2 + xi7) + sg0 xi15) + xi16) = z := ⟨_, rfl⟩
        have HS := Lib.hid (show ArA .u64 80 (w6.setCell ⟨q3, t, none⟩ (.int .u64 y)) q3 0 (sch2 b (m + 1)) by
          have h := HA3.out.set (i := t) y
          rw [Nat.zero_add] at h
          have e : sch2 b (m + 1) = fun j => if j = t then y else sch2 b m j := by
            rw [sch2, ← HT.out]
            have z1 : sch2 b m (m + 14) = xi2 := by rw [hi2]; exact hxi2
            have z2 : sch2 b m (m + 9) = xi7 := by rw [hi7]; exact hxi7
            have z3 : sch2 b m (m + 1) = xi15 := by rw [hi15]; exact hxi15
            have z4 : sch2 b m m = xi16 := by have := hxi16; rw [← hi16] at this; exact this
            rw [z1, z2, z3, z4, hy]
          rw [e]
          exact h)
        subst hy
        have HN := Lib.hid HQ.out.2.2
        have HHT := Lib.hid HT.out
        go_wp2
        go_roundw
        case rel => exact ⟨m + 1, t + 1, HM.out, by go_num, Lib.hid (by have := HHT.out; omega), Lib.hid HS.out, Lib.hid (HA2.out.other (fun e => HN.out e.symm) _), Lib.hid (HBW.out.setCell HQ.out.2.1 _)⟩
        case measure =>
          simp only [intOf]
          have := HM.out
          have := HHT.out
          omega
end Go.Proofs.Ytocfphijheidbaa
