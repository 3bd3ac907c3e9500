/- Bytes as sectors: contract of parts. -/
import Derived.Test.YtocfphijheidbaaDkH
namespace Go.Proofs.Ytocfphijheidbaa
open Go.RowKit

/-- A sector of bytes, the last one filled up. -/
def secP (b : List UInt8) (i : Nat) : List UInt8 := (b.drop (256 * i)).take 256 ++ List.replicate (256 - ((b.drop (256 * i)).take 256).length) 0
def rowP (b : List UInt8) (n : Nat) : List Value := (List.range n).flatMap fun i => bc (secP b i)
theorem secP_len (b : List UInt8) (i : Nat) : (secP b i).length = 256 := by
  have : ((b.drop (256 * i)).take 256).length ≤ 256 := by rw [List.length_take]; exact Nat.min_le_left _ _
  unfold secP
  rw [List.length_append, List.length_replicate]
  omega
theorem rowP_succ (b : List UInt8) (n : Nat) : rowP b (n + 1) = rowP b n ++ bc (secP b n) := by simp [rowP, List.range_succ]
theorem rowP_at (b : List UInt8) : ∀ (n i j : Nat), i < n → j < 256 → (rowP b n)[256 * i + j]? = (bc (secP b i))[j]?
  | 0, i, j, h, _ => by omega
  | n + 1, i, j, h, hj => by
    have hl : ∀ n, (rowP b n).length = 256 * n := by
      intro n
      induction n with
      | zero => rfl
      | succ n ih => rw [rowP_succ, List.length_append, ih, bc_length, secP_len]; omega
    rw [rowP_succ]
    by_cases h1 : i < n
    · rw [List.getElem?_append_left (by rw [hl]; omega)]
      exact rowP_at b n i j h1 hj
    · obtain rfl : i = n := by omega
      rw [List.getElem?_append_right (by rw [hl]; omega), hl, show 256 * i + j - 256 * i = j by omega]
set_option maxRecDepth 100000 in
theorem zeroSec : Try.zeroCells131 = (bc (List.replicate 256 0)).toArray := by kernel_rfl
def zSec : Value := .agg (bc (List.replicate 256 0)).toArray
theorem zSec_size : zSec.cells.size = 256 := by
  show (bc (List.replicate 256 0)).toArray.size = 256
  rw [List.size_toArray, bc_length, List.length_replicate]
set_option maxRecDepth 100000 in
theorem infoSec2 : (Try.prog.info? 131).map (fun i => (i.zero, i.size, i.bytes)) = some (some zSec, 256, 256) := by kernel_rfl
/-- A sector in a block of its own, bytes copied into it. -/
theorem box_sector (w : World) (x : List UInt8) (hx : x.length ≤ 256) (Z : Array Value) (hZ : Z = (bc (List.replicate 256 0)).toArray) (T : TypeId) :
    (∀ j, j < 256 → ((w.alloc (.cells Z T)).cell? ⟨w.heap.size, 0 + j, none⟩).isSome = true ∧ (w.alloc (.cells Z T)).frozen? ⟨w.heap.size, 0 + j, none⟩ = false) ∧ Below w.heap.size w ((w.alloc (.cells Z T)).setCells w.heap.size 0 (bc x)) ∧ ((w.alloc (.cells Z T)).setCells w.heap.size 0 (bc x)).rangeAt w.heap.size 0 (bc (x ++ List.replicate (256 - x.length) 0)) := by
  have hz : ∀ j, j < 256 → (w.alloc (.cells Z T)).cell? ⟨w.heap.size, 0 + j, none⟩ = some (.int .u8 0) := by
    intro j hj
    rw [Nat.zero_add, World.cell?_alloc_new, hZ, List.getElem?_toArray, bc, List.getElem?_map, List.getElem?_replicate, if_pos hj]
    rfl
  refine ⟨fun j hj => ⟨by rw [hz j hj]; rfl, by rw [World.frozen?_alloc_new]⟩, shb_setCells ((Below.refl _ _).alloc (Nat.le_refl _) _) (Nat.le_refl _) _ _, ?_⟩
  intro j v hj
  have hj2 : j < 256 := by
    have := (List.getElem?_eq_some_iff.1 hj).1
    rw [bc_length, List.length_append, List.length_replicate] at this
    omega
  by_cases h1 : j < x.length
  · have hin := World.cell?_setCells_in w.heap.size (bc x) 0 (w.alloc (.cells Z T)) (fun i hi => by
      rw [bc_length] at hi
      rw [hz i (by omega)]; rfl) j (by rw [bc_length]; exact h1)
    rw [hin]
    rw [bc, List.map_append, List.getElem?_append_left (by rw [List.length_map]; exact h1)] at hj
    exact (List.getElem?_eq_getElem (l := bc x) (by rw [bc_length]; exact h1)).symm.trans hj
  · rw [World.cell?_setCells_out _ _ _ _ _ (fun _ _ => by simp only [bc_length]; omega), hz j hj2, ← hj]
    rw [bc, List.map_append, List.getElem?_append_right (by rw [List.length_map]; omega), List.getElem?_map, List.getElem?_replicate, List.length_map, if_pos (by omega)]
    rfl
theorem wpList_one_sector {w : World} {ops : Array Oper} {rest : List Oper} {o : Oper} {act : Act} {Q : Exit → Act → World → Prop} (hgd : o.guard = none) (x : Operand) (ho : o.op = .buildSlice 125 1 #[(0, x)])
    (b : List UInt8) (hb : b.length = 256) (hx : act.eval x = .agg (bc b).toArray) (h : wpList Try.prog ops Q rest (act.put o.dst (.slice (some ⟨w.heap.size, 0, none⟩) 1 1)) (w.alloc (.cells (bc b).toArray 131))) : wpList Try.prog ops Q (o :: rest) act w := by
  obtain ⟨i0, hi, hz0, hz1, hz2⟩ := info_parts infoSec2
  have hl : (bc b).length = 256 := by rw [bc_length, hb]
  refine wpList_buildSlice hgd 125 131 1 #[(0, x)] ho _ i0 _ Try.underlying125 hi hz0 (by rw [hz1]; omega) (by rw [hz1]; omega) ?_ h
  rw [hz1]
  simp only [List.map_toArray, List.map_cons, List.map_nil, hx]
  refine (fill_cons (fun i => some (i * 256, 256)) _ 0 0 256 (.agg (bc b).toArray) (bc b) [] rfl rfl hl (by rw [zero_sl]; omega)).trans ?_
  rw [Instr.fill]
  refine congrArg some ?_
  rw [layC, List.drop_of_length_le (by rw [Array.length_toList, zero_sl, hl]; omega)]
  simp
def lenV (v : Value) : Nat := match v with | .slice _ m _ => m | _ => 0
theorem lenV_slice (a : Option Addr) (m c : Nat) : lenV (.slice a m c) = m := rfl
set_option maxRecDepth 100000 in
set_option maxHeartbeats 8000000 in
theorem parts_any (a : Option Addr) (n c : Nat) (b : List UInt8) (w : World) (h : ValC w (.slice a n c) b) (hn : n ≤ 600000) :
    Calls Try.prog 73 #[.slice a n c] w fun e w' => ∃ v, e = .returned v ∧ w'.ownsRow w.heap.size 131 256 v ((n + 255) / 256) (rowP b ((n + 255) / 256)) ∧ Below w.heap.size w w' := by
  have H0 := Lib.hid h
  have HN0 := Lib.hid h.open.1
  obtain ⟨i0, hi, hz0, hz1, hz2⟩ := info_parts infoSec2
  have HI := Lib.hid hi
  have HZ0 := Lib.hid hz0
  have HZ1 := Lib.hid hz1
  have HZ2 := Lib.hid hz2
  have HNN := Lib.hid hn
  clear hi hz0 hz1 hz2 h hn
  go_enter Try.func73, Try.ntmps73
  go_wp2_with fail
  go_loopw [0, 3] (fun s l wr => ∃ (k m cm : Nat) (am : Option Addr), s = .slice am m cm ∧ Hid (256 * k ≤ n + 255 ∧ m = n - 256 * k) ∧ Hid (ValC w (.slice am m cm) (b.drop (256 * k))) ∧ Hid (wr.ownsRow w.heap.size 131 256 l k (rowP b k)) ∧ Hid (Below w.heap.size w wr)) (fun s _ _ => lenV s)
  case atStart => exact ⟨0, n, c, a, rfl, Lib.hid ⟨by omega, by omega⟩, Lib.hid (by simpa using H0.out), Lib.hid (World.ownsRow_nil _ _ _ _), Lib.hid (Below.refl _ _)⟩
  case round =>
    obtain ⟨k, m, cm, am, rfl, HK, HV, HO, HB⟩ := hrel
    obtain ⟨la, lc, rfl, hln⟩ := cellsK_own HO.out
    by_cases hlt : 0 < m
    · obtain ⟨r, hr⟩ : ∃ r, Nat.min m 256 = r := ⟨_, rfl⟩
      have hr1 : r ≤ m := by rw [← hr]; exact Nat.min_le_left _ _
      have hr2 : r ≤ 256 := by rw [← hr]; exact Nat.min_le_right _ _
      have hr3 : r = m ∨ r = 256 := by rw [← hr]; simp only [Nat.min_def]; split <;> simp
      obtain ⟨ad, hsl, hvr, -⟩ := HV.out.rest r hr1
      obtain ⟨m2, hm2⟩ : ∃ z, m - r = z := ⟨_, rfl⟩
      obtain ⟨c2, hc2⟩ : ∃ z, cm - r = z := ⟨_, rfl⟩
      rw [hm2, hc2] at hsl hvr
      have hml := HV.out.open.1
      have hv2 := HV.out.below HB.out
      obtain ⟨x, hx⟩ : ∃ z, (b.drop (256 * k)).take 256 = z := ⟨_, rfl⟩
      have hxl : x.length = r := by rw [← hx, List.length_take, hml, Nat.min_comm]; exact hr
      have hxs : x ++ List.replicate (256 - x.length) 0 = secP b k := by rw [secP, hx]
      obtain ⟨hb1, hb2, hb3⟩ := box_sector wr x (by omega) _ zeroSec 131
      rw [hxs] at hb3
      have HCL := Lib.hid (show goInt (bc x).length = .int .i64 (r : Int) by rw [bc_length, hxl]; rfl)
      have HCN := Lib.hid (show (bc x).length = Nat.min m 256 by rw [bc_length, hxl, hr])
      have hba := (Below.refl wr.heap.size wr).alloc (Nat.le_refl _) (.cells Try.zeroCells131 131)
      have HVA := Lib.hid (hv2.below hba)
      have HPOS := Lib.hid (show 0 < (bc x).length → (some ⟨wr.heap.size, 0, none⟩ : Option Addr) = some ⟨wr.heap.size, 0, none⟩ ∧ ∃ ad', am = some ad' ∧ ∀ j v, (bc x)[j]? = some v → (wr.alloc (.cells Try.zeroCells131 131)).cell? (ad'.add j) = some v from fun _ => by
        refine ⟨rfl, ?_⟩
        rcases HVA.out.open.2.2.1.2 with h1 | ⟨b', o', rfl, _, hc⟩
        · omega
        · refine ⟨_, rfl, fun j v hv => ?_⟩
          rw [Addr.add_mid]
          refine hc j v ?_
          rw [← hx, bc, List.getElem?_map, List.getElem?_take] at hv
          split at hv
          · rw [bc, List.getElem?_map]; exact hv
          · simp at hv)
      have HC1 := Lib.hid (show ∀ j, j < (bc x).length → ((wr.alloc (.cells Try.zeroCells131 131)).cell? ⟨wr.heap.size, 0 + j, none⟩).isSome = true from fun j hj => (hb1 j (by rw [bc_length] at hj; omega)).1)
      have HC2 := Lib.hid (show ∀ j, j < (bc x).length → (wr.alloc (.cells Try.zeroCells131 131)).frozen? ⟨wr.heap.size, 0 + j, none⟩ = false from fun j hj => (hb1 j (by rw [bc_length] at hj; omega)).2)
      have HX1 := Lib.hid (bc_oneCell x)
      have HO2 := Lib.hid (own_kept HO.out (fun g hg => hb2.block g ((HO.out.lt g hg).2)))
      have HB2 := Lib.hid (HB.out.trans (hb2.mono HB.out.size))
      have HR2 := Lib.hid hb3
      obtain ⟨w2, hw2⟩ : ∃ z, (wr.alloc (.cells Try.zeroCells131 131)).setCells wr.heap.size 0 (bc x) = z := ⟨_, rfl⟩
      rw [hw2] at HO2 HB2 HR2
      have HW2 := Lib.hid hw2
      have HSB := Lib.hid (show (Try.prog.info? 131).map (·.size) = some (bc (secP b k)).length by rw [bc_length, secP_len]; exact sizeSec)
      have HV2 := Lib.hid (show ValC w (.slice ad m2 c2) (b.drop (256 * (k + 1))) from by
        have := hvr w HV.out
        rw [List.drop_drop] at this
        have e : 256 * k + r = 256 * (k + 1) ∨ m2 = 0 := by omega
        rcases e with e | e
        · rwa [e] at this
        · obtain ⟨y1, y2, y3, y4⟩ := this.open
          have z1 : b.drop (256 * k + r) = [] := List.eq_nil_of_length_eq_zero (by omega)
          have z2 : b.drop (256 * (k + 1)) = [] := List.drop_of_length_le (by rw [List.length_drop] at hml; omega)
          rw [z2, ← z1]
          exact this)
      have HK2 := Lib.hid (show 256 * (k + 1) ≤ n + 255 ∧ m2 = n - 256 * (k + 1) from by have := HK.out; omega)
      have HM2 := Lib.hid (show m2 < m by omega)
      have HKL := Lib.hid (show k + 1 ≤ 20000 by have := HK.out; have := HNN.out; omega)
      have dd : decide ((0 : Int) < (m : Int)) = true := dT (by omega)
      have d0 : decide (0 < m) = true := dT hlt
      clear hr hr1 hr2 hr3 hvr hm2 hc2 hml hv2 hx hxl hxs hb1 hb2 hb3 hba hw2 hlt
      go_upto_region 3 with (fail)
      go_upto_region 4 with (fail)
      go_upto_region 5 with (refine wpList_copy_mid rfl (.tmp 9) (.tmp 10) 25 25 rfl 5 Try.underlying25 (by kernel_rfl) _ _ 256 256 m cm rfl rfl wr.heap.size 0 (bc x) HCN.out HPOS.out HC1.out HC2.out HX1.out ?_; rw [HCL.out, HW2.out])
      clear HCN HPOS HC1 HC2 HX1 HCL HW2 HVA
      have hal := (Below.refl w2.heap.size w2).alloc (Nat.le_refl _) (.cells (bc (secP b k)).toArray 131)
      have HBA := Lib.hid (HB2.out.trans (hal.mono HB2.out.size))
      have HOA := Lib.hid (HO2.out.alloc (.cells (bc (secP b k)).toArray 131))
      have HCA := Lib.hid (show CellsAt (w2.alloc (.cells (bc (secP b k)).toArray 131)) (some ⟨w2.heap.size, 0, none⟩) (1 * 256) (bc (secP b k)) from by
        have hcl := cells_lit w2 (bc (secP b k)).toArray 131
        have hl : (bc (secP b k)).toArray.size = 1 * 256 := by rw [List.size_toArray, bc_length, secP_len]
        rw [hl] at hcl
        exact hcl)
      clear hal
      go_wp2_with (first
        | (refine wpList_load_mid rfl 131 (.tmp 4) rfl wr.heap.size 0 rfl _ _ HR2.out Try.underlying131 rfl HSB.out ?_)
        | (refine wpList_one_sector rfl (.tmp 14) rfl (secP b k) (secP_len b k) rfl ?_)
        | (refine append_cellsL rfl (.tmp 13) (.tmp 15) 125 131 rfl i0 zSec 256 256 Try.underlying125 HI.out HZ0.out HZ1.out HZ2.out zSec_size (by decide) w.heap.size (.slice la k lc) k (rowP b k) rfl HOA.out (some ⟨w2.heap.size, 0, none⟩) 1 1 (bc (secP b k)) rfl (fun h => by cases h) HCA.out (bc_oneCell _) HKL.out (by decide) HBA.out.size ?_; intro v' w3 h1 h2; have HO3 := Lib.hid h1; have HB3 := Lib.hid (HBA.out.grown h2 HBA.out.size (fun j hj => (HOA.out.lt j hj).1)); clear h1 h2))
      go_roundw
      case rel => exact ⟨k + 1, m2, c2, ad, rfl, HK2, HV2, Lib.hid (by rw [rowP_succ]; exact HO3.out), HB3⟩
      case measure =>
        simp only [lenV_slice]
        exact HM2.out
    · have dd : decide ((0 : Int) < (m : Int)) = false := dF (by omega)
      have d0 : decide (0 < m) = false := dF hlt
      have hk : k = (n + 255) / 256 := by have := HK.out; omega
      subst hk
      clear hlt
      go_wp2
      go_ret
      exact ⟨_, rfl, HO.out, HB.out⟩
end Go.Proofs.Ytocfphijheidbaa
