/- FrontCuts: the walk. -/
import Derived.Test.YtgppkpdjpcegbaaFtK
import Derived.Test.YtgppkpdjpcegbaaFtT
import Derived.Deep.CutBlock
namespace Go.Proofs.Ytgppkpdjpcegbaa
open Go.RowKit

theorem dec_empty22 : decP (bs []) = none := by
  cases h : decP (bs []) with
  | none => rfl
  | some M => exact absurd (decP_hd h).2 (by decide)
def datC (j : Nat) : ByteArray := bs [10, 0, UInt8.ofNat (j / 256), UInt8.ofNat j]
def datL (k : Nat) : List ByteArray := (List.range k).map datC
theorem datL_succ (k : Nat) : datL (k + 1) = datL k ++ [datC k] := by rw [datL, List.range_succ, List.map_append]; rfl
theorem datL_len (k : Nat) : (datL k).length = k := by rw [datL, List.length_map, List.length_range]
theorem datL_size (k : Nat) : ∀ d ∈ datL k, d.size = 4 := by
  intro d hd
  rw [datL, List.mem_map] at hd
  obtain ⟨j, -, rfl⟩ := hd
  rw [datC, bs_size]; rfl
theorem sc_app (a b : List ByteArray) : sc a ++ sc b = sc (a ++ b) := by rw [sc, sc, sc, List.map_append]
theorem setsAt_one {w : World} {k : Nat} {pa : Option Addr} {pc B : Nat} {n : ByteArray} {t c u : Int} {D : List ByteArray} (h : w.ownsRow B 9 1 (.slice pa k pc) k (sc D)) (e : D.length = k) : SetsAt (w.alloc (.cells #[.string n, .int .i64 t, .int .i64 c, .int .i64 u, .slice pa k pc] 58)) (some ⟨w.heap.size, 0, none⟩) 1 [⟨⟨n, t, c⟩, u, D⟩] := by
  subst e
  have hb := (Below.refl w.heap.size w).alloc (Nat.le_refl _) (.cells #[.string n, .int .i64 t, .int .i64 c, .int .i64 u, .slice pa D.length pc] 58)
  have hc := CN.new w #[.string n, .int .i64 t, .int .i64 c, .int .i64 u, .slice pa D.length pc] 58
  obtain ⟨c0, c1, c2, c3, c4, _⟩ := hc.u5
  obtain ⟨a, cc, e2, hr, hn⟩ := rowS_of_own (own_below' h hb)
  injection e2 with e3 _ e5
  subst e3 e5
  refine ⟨rfl, Or.inr ⟨w.heap.size, 0, rfl, by rw [World.size_alloc]; omega, fun k hk => ?_⟩⟩
  obtain rfl : k = 0 := by omega
  exact ⟨pa, pc, c0, c1, c2, c3, c4, hr, hn⟩
/-- The set under way. -/
def StS (wr : World) (q B k : Nat) (n : ByteArray) : Prop := ∃ (pa : Option Addr) (pc : Nat), CN wr q [.string n, .int .i64 1, .int .i64 1, .int .i64 5, .slice pa k pc] ∧ wr.ownsRow B 9 1 (.slice pa k pc) k (sc (datL k))
theorem rowB_dat (w : World) (k : Nat) : RowB (w.alloc (.cells #[.int .u8 10, .int .u8 0, .int .u8 ((k : Int) / 256 % 256), .int .u8 ((k : Int) % 256)] 5)) (some ⟨w.heap.size, 0, none⟩) 4 [10, 0, UInt8.ofNat (k / 256), UInt8.ofNat k] := by
  have h := cells_lit w #[.int .u8 10, .int .u8 0, .int .u8 ((k : Int) / 256 % 256), .int .u8 ((k : Int) % 256)] 5
  have h1 : (((UInt8.ofNat (k / 256)).toNat : Nat) : Int) = (k : Int) / 256 % 256 := by rw [UInt8.toNat_ofNat']; omega
  have h2 : (((UInt8.ofNat k).toNat : Nat) : Int) = (k : Int) % 256 := by rw [UInt8.toNat_ofNat']; omega
  have e : bc [10, 0, UInt8.ofNat (k / 256), UInt8.ofNat k] = [.int .u8 10, .int .u8 0, .int .u8 ((k : Int) / 256 % 256), .int .u8 ((k : Int) % 256)] := by
    rw [← h1, ← h2]; rfl
  show CellsAt _ _ 4 (bc _)
  rw [e]
  exact h
theorem root_ne {n : ByteArray} (h : n ≠ ⟨#[0]⟩) : (n.toList == [0]) = false := by
  cases hb : (n.toList == [0]) with
  | false => rfl
  | true => exact absurd (by apply ba_eq; have h7 := eq_of_beq hb; rw [ByteArray.toList_eq] at h7; exact h7) h
set_option maxRecDepth 100000 in
set_option maxHeartbeats 32000000 in
theorem walkCuts (qn : ByteArray) (qt qk : Int) (fr : ByteArray) (id sz : Int) (rd ed tc : Bool) (n : Int) (w : World) : Calls Try.prog 5 #[.agg #[.string qn, .int .i64 qt, .int .i64 qk, .string fr, .int .i64 id, .int .i64 sz, .bool rd, .bool ed, .bool tc], .int .i64 n] w fun e w' => e = .returned (.bool true) ∧ Below w.heap.size w w' := by
  have HB := Lib.hid (Below.refl w.heap.size w)
  go_enter Try.func5, Try.ntmps5
  have hba := (Below.refl _ _ : Below w.heap.size w w).alloc (Nat.le_refl _) (.cells #[.string qn, .int .i64 qt, .int .i64 qk, .string fr, .int .i64 id, .int .i64 sz, .bool rd, .bool ed, .bool tc] 29)
  have HC := Lib.hid (CN.new w #[.string qn, .int .i64 qt, .int .i64 qk, .string fr, .int .i64 id, .int .i64 sz, .bool rd, .bool ed, .bool tc] 29)
  replace HB := Lib.hid (HB.out.trans (hba.mono HB.out.size))
  obtain ⟨w2, hw⟩ : ∃ x, w.alloc (.cells #[.string qn, .int .i64 qt, .int .i64 qk, .string fr, .int .i64 id, .int .i64 sz, .bool rd, .bool ed, .bool tc] 29) = x := ⟨_, rfl⟩
  obtain ⟨q2, hq⟩ : ∃ x, w.heap.size = x := ⟨_, rfl⟩
  rw [hw, hq] at HC
  rw [hw] at HB
  have HW := Lib.hid hw
  have HQ_ := Lib.hid hq
  clear hba hw hq
  go_upto_region 1 with (fail)
  rw [HW.out, HQ_.out]
  clear HW HQ_
  go_wp2_with fail
  refine (first22 _).mono ?_; rintro e w3 ⟨rfl, hb⟩
  replace HB := Lib.hid (HB.out.trans (hb.mono HB.out.size))
  replace HC := Lib.hid (HC.out.below hb)
  clear hb
  by_cases g1 : 255 < qn.size
  · have d1 : decide ((255 : Int) < (qn.size : Int)) = true := dT (by omega)
    obtain ⟨p0, p1, p2, p3, p4, p5, p6, p7, p8, _⟩ := HC.out.v9
    go_wp2_with fail
    refine (first22 _).mono ?_; rintro e w4 ⟨rfl, hb⟩
    clear p0 p1 p2 p3 p4 p5 p6 p7 p8
    clear d1
    replace HB := Lib.hid (HB.out.trans (hb.mono HB.out.size))
    replace HC := Lib.hid (HC.out.below hb)
    clear hb
    go_wp2
    go_ret
    exact ⟨rfl, HB.out⟩
  have d1 : decide ((255 : Int) < (qn.size : Int)) = false := dF (by omega)
  by_cases g2 : n < 0
  · have d2 : decide (n < 0) = true := dT (by omega)
    obtain ⟨p0, p1, p2, p3, p4, p5, p6, p7, p8, _⟩ := HC.out.v9
    go_wp2_with fail
    refine (first22 _).mono ?_; rintro e w4 ⟨rfl, hb⟩
    clear p0 p1 p2 p3 p4 p5 p6 p7 p8
    clear d2
    replace HB := Lib.hid (HB.out.trans (hb.mono HB.out.size))
    replace HC := Lib.hid (HC.out.below hb)
    clear hb
    go_wp2
    go_ret
    exact ⟨rfl, HB.out⟩
  have d2 : decide (n < 0) = false := dF (by omega)
  by_cases g3 : 200 < n
  · have d3 : decide ((200 : Int) < n) = true := dT (by omega)
    obtain ⟨p0, p1, p2, p3, p4, p5, p6, p7, p8, _⟩ := HC.out.v9
    go_wp2_with fail
    refine (first22 _).mono ?_; rintro e w4 ⟨rfl, hb⟩
    clear p0 p1 p2 p3 p4 p5 p6 p7 p8
    clear d3
    replace HB := Lib.hid (HB.out.trans (hb.mono HB.out.size))
    replace HC := Lib.hid (HC.out.below hb)
    clear hb
    go_wp2
    go_ret
    exact ⟨rfl, HB.out⟩
  have d3 : decide ((200 : Int) < n) = false := dF (by omega)
  by_cases g4 : sz < 300
  · have d4 : decide (sz < 300) = true := dT (by omega)
    obtain ⟨p0, p1, p2, p3, p4, p5, p6, p7, p8, _⟩ := HC.out.v9
    go_wp2_with fail
    refine (first22 _).mono ?_; rintro e w4 ⟨rfl, hb⟩
    clear p0 p1 p2 p3 p4 p5 p6 p7 p8
    clear d4
    replace HB := Lib.hid (HB.out.trans (hb.mono HB.out.size))
    replace HC := Lib.hid (HC.out.below hb)
    clear hb
    go_wp2
    go_ret
    exact ⟨rfl, HB.out⟩
  have d4 : decide (sz < 300) = false := dF (by omega)
  by_cases g5 : 16000 < sz
  · have d5 : decide ((16000 : Int) < sz) = true := dT (by omega)
    obtain ⟨p0, p1, p2, p3, p4, p5, p6, p7, p8, _⟩ := HC.out.v9
    go_wp2_with fail
    refine (first22 _).mono ?_; rintro e w4 ⟨rfl, hb⟩
    clear p0 p1 p2 p3 p4 p5 p6 p7 p8
    clear d5
    replace HB := Lib.hid (HB.out.trans (hb.mono HB.out.size))
    replace HC := Lib.hid (HC.out.below hb)
    clear hb
    go_wp2
    go_ret
    exact ⟨rfl, HB.out⟩
  have d5 : decide ((16000 : Int) < sz) = false := dF (by omega)
  have HSZ := Lib.hid (show 300 ≤ sz ∧ sz ≤ 16000 from ⟨by omega, by omega⟩)
  have HQS := Lib.hid (show qn.size ≤ 255 by omega)
  obtain ⟨p0, p1, p2, p3, p4, p5, p6, p7, p8, _⟩ := HC.out.v9
  go_upto_region 5 with (fail)
  clear d1 d2 d3 d4 d5
  obtain ⟨nn, rfl⟩ : ∃ k : Nat, n = (k : Int) := ⟨n.toNat, by omega⟩
  have HNN := Lib.hid (show nn ≤ 200 by omega)
  clear g1 g2 g3 g4 g5
  have HSZ5 := Lib.hid HB.out.size
  have hba := (Below.refl _ _ : Below w3.heap.size w3 w3).alloc (Nat.le_refl _) (.cells #[.string qn, .int .i64 1, .int .i64 1, .int .i64 5, .slice none 0 0] 58)
  have HS := Lib.hid (CN.new w3 #[.string qn, .int .i64 1, .int .i64 1, .int .i64 5, .slice none 0 0] 58)
  replace HB := Lib.hid (HB.out.trans (hba.mono HB.out.size))
  replace HC := Lib.hid (HC.out.below hba)
  obtain ⟨w4, hw⟩ : ∃ x, w3.alloc (.cells #[.string qn, .int .i64 1, .int .i64 1, .int .i64 5, .slice none 0 0] 58) = x := ⟨_, rfl⟩
  obtain ⟨q4, hq⟩ : ∃ x, w3.heap.size = x := ⟨_, rfl⟩
  rw [hw, hq] at HS
  rw [hw] at HB HC
  have HW := Lib.hid hw
  have HQ_ := Lib.hid hq
  have HQL := Lib.hid (show w.heap.size ≤ q4 from by rw [← hq]; exact HSZ5.out)
  clear hba hw hq
  go_upto_region 6 with (fail)
  rw [HW.out, HQ_.out]
  clear HW HQ_
  clear p0 p1 p2 p3 p4 p5 p6 p7 p8
  have HST := Lib.hid (show StS w4 q4 w4.heap.size 0 qn from ⟨none, 0, HS.out, World.ownsRow_nil _ _ _ _⟩)
  have HQ5 := Lib.hid (show q4 < w4.heap.size from HS.out.1)
  have HB5 := Lib.hid HB.out.size
  have HQC := Lib.hid (show q2 < w4.heap.size from HC.out.1)
  have HNE := Lib.hid (show q2 ≠ q4 from fun e => by have h1 := HC.out; have h2 := HS.out; rw [e] at h1; have h3 := (h1.2 1 _ rfl).1; have h4 := (h1.2 3 _ rfl).1; rw [(h2.2 3 _ rfl).1] at h4; cases h4)
  have HBW := Lib.hid (Below.refl w4.heap.size w4)
  clear HS HBW
  go_wp2_with fail
  go_loopw [6] (fun i wr => ∃ k : Nat, k ≤ nn ∧ i = .int .i64 k ∧ Hid (StS wr q4 w4.heap.size k qn) ∧ Hid (CN wr q2 [.string qn, .int .i64 qt, .int .i64 qk, .string fr, .int .i64 id, .int .i64 sz, .bool rd, .bool ed, .bool tc]) ∧ Hid (Below w.heap.size w wr) ∧ Hid (w4.heap.size ≤ wr.heap.size)) (fun i _ => nn - (intOf i).toNat)
  case atStart => exact ⟨0, Nat.zero_le _, rfl, HST, HC, HB, Lib.hid (Nat.le_refl _)⟩
  case round =>
    clear HST HC HB
    obtain ⟨k, hk, rfl, HST, HC, HB, HW5⟩ := hrel
    by_cases hlt : k < nn
    · have d0 := dT (p := k < nn) hlt
      have HKL := Lib.hid hlt
      obtain ⟨pa, pc, hs, ho⟩ := HST.out
      have HS := Lib.hid hs
      have HO := Lib.hid ho
      obtain ⟨c0, c1, c2, c3, c4, _⟩ := HS.out.u5
      clear hs ho HST hlt hk
      have hba := (Below.refl wr.heap.size wr).alloc (Nat.le_refl _) (.cells #[.int .u8 10, .int .u8 0, .int .u8 ((k : Int) / 256 % 256), .int .u8 ((k : Int) % 256)] 5)
      have hcv : (convert 22 9 (.slice (some ⟨wr.heap.size, 0, none⟩) 4 4)).run Try.prog (wr.alloc (.cells #[.int .u8 10, .int .u8 0, .int .u8 ((k : Int) / 256 % 256), .int .u8 ((k : Int) % 256)] 5)) = .ok (.string (datC k)) (wr.alloc (.cells #[.int .u8 10, .int .u8 0, .int .u8 ((k : Int) / 256 % 256), .int .u8 ((k : Int) % 256)] 5)) := conv_row (cap := 4) (rowB_dat wr k) (fun h => by cases h)
      have HA := Lib.hid hba
      replace HO := Lib.hid (own_below' HO.out hba)
      replace HS := Lib.hid (HS.out.below hba)
      replace HC := Lib.hid (HC.out.below hba)
      replace HB := Lib.hid (HB.out.trans (hba.mono HB.out.size))
      have HW6 := Lib.hid (Nat.le_trans HW5.out hba.size)
      obtain ⟨wa, hw⟩ : ∃ x, wr.alloc (.cells #[.int .u8 10, .int .u8 0, .int .u8 ((k : Int) / 256 % 256), .int .u8 ((k : Int) % 256)] 5) = x := ⟨_, rfl⟩
      obtain ⟨qa, hq⟩ : ∃ x, wr.heap.size = x := ⟨_, rfl⟩
      rw [hw] at HO HS HC HB HW6
      have HW := Lib.hid hw
      have HQ_ := Lib.hid hq
      clear hba hw hq HA
      have hba := (Below.refl wa.heap.size wa).alloc (Nat.le_refl _) (.cells #[.string (datC k)] 9)
      have HR1 := Lib.hid (rowS_1 wa (datC k) 9)
      replace HO := Lib.hid (own_below' HO.out hba)
      replace HS := Lib.hid (HS.out.below hba)
      replace HC := Lib.hid (HC.out.below hba)
      replace HB := Lib.hid (HB.out.trans (hba.mono HB.out.size))
      replace HW6 := Lib.hid (Nat.le_trans HW6.out hba.size)
      obtain ⟨wb, hw⟩ : ∃ x, wa.alloc (.cells #[.string (datC k)] 9) = x := ⟨_, rfl⟩
      obtain ⟨qb, hq⟩ : ∃ x, wa.heap.size = x := ⟨_, rfl⟩
      rw [hw, hq] at HR1
      rw [hw] at HO HS HC HB HW6
      have HWB := Lib.hid hw
      have HQB := Lib.hid hq
      have hqab : qa + 1 = qb := by rw [← hq, ← HW.out, World.size_alloc, HQ_.out]
      have HQAB := Lib.hid hqab
      clear hba hw hq hqab
      go_wp2_with (at_builtin; go_must (rw [HW.out, HQ_.out, HWB.out, HQAB.out]; refine append_rowS rfl _ _ rfl w4.heap.size _ k _ rfl HO.out (some ⟨qb, 0, none⟩) 1 1 [datC k] rfl (fun h => by cases h) HR1.out (by have := HNN.out; have := HKL.out; omega) HW6.out ?_))
      intro v9 w9 hown hgrow
      have hlow : ∀ j, (Value.slice pa k pc).ownBlock = some j → w4.heap.size ≤ j := fun j hj => (HO.out.lt j hj).1
      replace HS := Lib.hid (HS.out.grown hgrow (fun e => by have h1 := hlow _ e.symm; have h2 := HQ5.out; omega))
      replace HC := Lib.hid (HC.out.grown hgrow (fun e => by have h1 := hlow _ e.symm; have h2 := HQC.out; omega))
      replace HB := Lib.hid (HB.out.grown hgrow HB.out.size (fun j hj => Nat.le_trans HB5.out (hlow j hj)))
      have HW9 := Lib.hid (Nat.le_trans HW6.out hgrow.size)
      rw [sc_app, ← datL_succ] at hown
      obtain ⟨pa2, pc2, rfl, -⟩ := cellsK_own hown
      have HO2 := Lib.hid hown
      clear hown hgrow hlow HO HR1 HW HQ_ HWB HQB HQAB hcv c0 c1 c2 c3 c4
      obtain ⟨c0, c1, c2, c3, c4, f0, f1, f2, f3, f4⟩ := HS.out.u5
      have K1 := Lib.hid (show CN (w9.setCell ⟨q4, 4, none⟩ (.slice pa2 (k + 1) pc2)) q4 [.string qn, .int .i64 1, .int .i64 1, .int .i64 5, .slice pa2 (k + 1) pc2] from HS.out.set 4 (by simp) _)
      have hg := grown_cell w9 q4 4 (.slice pa2 (k + 1) pc2)
      replace HO2 := Lib.hid (own_apart7 HO2.out hg (fun j hj e => by have h1 := (HO2.out.lt j hj).1; have h2 := HQ5.out; injection e with e; omega))
      replace HC := Lib.hid (HC.out.grown hg (fun e => HNE.out (Option.some.inj e)))
      replace HB := Lib.hid (HB.out.grown hg HB.out.size (fun j hj => by injection hj with hj; rw [← hj]; exact HQL.out))
      have HWZ := Lib.hid (show w4.heap.size ≤ (w9.setCell ⟨q4, 4, none⟩ (.slice pa2 (k + 1) pc2)).heap.size from Nat.le_trans HW9.out hg.size)
      have HN := Lib.hid (show StS (w9.setCell ⟨q4, 4, none⟩ (.slice pa2 (k + 1) pc2)) q4 w4.heap.size (k + 1) qn from ⟨pa2, pc2, K1.out, HO2.out⟩)
      clear hg K1 HO2
      have hkb : k ≤ 400 := by have h1 := HKL.out; have h2 := HNN.out; omega
      go_wp2
      go_roundw
      case rel => exact ⟨k + 1, HKL.out, by go_num, HN, HC, HB, HWZ⟩
      case measure =>
        simp only [intOf]
        have := HKL.out
        omega
    have d0 := dF (p := k < nn) hlt
    obtain rfl : nn = k := by omega
    clear hlt hk
    obtain ⟨pa, pc, hs, ho⟩ := HST.out
    have HS := Lib.hid hs
    have HO := Lib.hid ho
    clear hs ho HST
    obtain ⟨p0, p1, p2, p3, p4, p5, p6, p7, p8, _⟩ := HC.out.v9
    obtain ⟨c0, c1, c2, c3, c4, _⟩ := HS.out.u5
    have hba := (Below.refl wr.heap.size wr).alloc (Nat.le_refl _) (.cells #[.string qn, .int .i64 1, .int .i64 1, .int .i64 5, .slice pa nn pc] 58)
    have HSA := Lib.hid (setsAt_one (n := qn) (t := 1) (c := 1) (u := 5) HO.out (datL_len nn))
    replace HB := Lib.hid (HB.out.trans (hba.mono HB.out.size))
    replace HC := Lib.hid (HC.out.below hba)
    replace HS := Lib.hid (HS.out.below hba)
    replace HO := Lib.hid (own_below' HO.out hba)
    obtain ⟨wq, hwq⟩ : ∃ x, wr.alloc (.cells #[.string qn, .int .i64 1, .int .i64 1, .int .i64 5, .slice pa nn pc] 58) = x := ⟨_, rfl⟩
    obtain ⟨qq, hqq⟩ : ∃ x, wr.heap.size = x := ⟨_, rfl⟩
    rw [hwq, hqq] at HSA
    rw [hwq] at HB HC HS HO
    have HW := Lib.hid hwq
    have HQ_ := Lib.hid hqq
    clear hba hwq hqq
    go_wp2_with fail
    rw [HW.out, HQ_.out]
    clear HW HQ_
    have hA : (cutsA qn (datL nn)).length ≤ 200 := by rw [cutsA, List.length_map, datL_len]; exact HNN.out
    have hZ : SzN (cutsA qn (datL nn)) := fun r hr => by
        rw [cutsA, List.mem_map] at hr
        obtain ⟨d, hd, rfl⟩ := hr
        exact ⟨by show qn.size ≤ 1000000; have := HQS.out; omega, by show d.size ≤ 1000000; rw [datL_size nn d hd]; decide⟩
    have HA := Lib.hid hA
    have HZ := Lib.hid hZ
    clear hA hZ
    refine (reply_any qn qt qk fr id sz rd ed tc 0 _ 1 1 _ _ HSA.out (by decide) (by rw [flat_cuts]; have := HA.out; omega) (by rw [flat_cuts]; exact HZ.out) (by have := HQS.out; omega)).mono ?_; rintro e w41 ⟨u, rfl, ho, hb⟩
    replace HB := Lib.hid (HB.out.trans (hb.mono HB.out.size))
    replace HC := Lib.hid (HC.out.below hb)
    replace HS := Lib.hid (HS.out.below hb)
    replace HO := Lib.hid (own_below' HO.out hb)
    clear hb
    clear p0 p1 p2 p3 p4 p5 p6 p7 p8
    clear c0 c1 c2 c3 c4 HSA
    clear HS HO
    rw [flat_cuts] at ho
    cases hm : mayP (repM ⟨qn, qt, qk⟩ id 0 rd ed true [])
    · rw [cuts_no hm] at ho
      obtain ⟨ua, uc, rfl, -⟩ := cellsK_own ho
      have HU := Lib.hid ho
      clear ho hm
      go_wp2_with fail
      refine (decode_no [] ua 0 uc _ (rowB_own HU.out).1 (rowB_own HU.out).2 (by decide) dec_empty22).mono ?_; rintro e w42 ⟨er, rfl, he, hb⟩
      replace HB := Lib.hid (HB.out.trans (hb.mono HB.out.size))
      replace HC := Lib.hid (HC.out.below hb)
      replace HU := Lib.hid (own_below' HU.out hb)
      clear hb
      have e1 := nT he
      clear he
      have hba := (Below.refl _ _ : Below w42.heap.size w42 w42).alloc (Nat.le_refl _) (.cells #[.int .i64 0, .int .i64 0, .int .i64 0, .bool false, .bool false, .bool false, .bool false, .bool false, .slice none 0 0, .slice none 0 0, .slice none 0 0, .slice none 0 0] 37)
      have HM := Lib.hid (CN.new w42 #[.int .i64 0, .int .i64 0, .int .i64 0, .bool false, .bool false, .bool false, .bool false, .bool false, .slice none 0 0, .slice none 0 0, .slice none 0 0, .slice none 0 0] 37)
      replace HB := Lib.hid (HB.out.trans (hba.mono HB.out.size))
      replace HC := Lib.hid (HC.out.below hba)
      replace HU := Lib.hid (own_below' HU.out hba)
      obtain ⟨w43, hw⟩ : ∃ x, w42.alloc (.cells #[.int .i64 0, .int .i64 0, .int .i64 0, .bool false, .bool false, .bool false, .bool false, .bool false, .slice none 0 0, .slice none 0 0, .slice none 0 0, .slice none 0 0] 37) = x := ⟨_, rfl⟩
      obtain ⟨q43, hq⟩ : ∃ x, w42.heap.size = x := ⟨_, rfl⟩
      rw [hw, hq] at HM
      rw [hw] at HB HC HU
      have HW := Lib.hid hw
      have HQ_ := Lib.hid hq
      clear hba hw hq
      go_upto_region 12 with (fail)
      rw [HW.out, HQ_.out]
      clear HW HQ_
      go_wp2_with fail
      refine (first22 _).mono ?_; rintro e w44 ⟨rfl, hb⟩
      replace HB := Lib.hid (HB.out.trans (hb.mono HB.out.size))
      replace HC := Lib.hid (HC.out.below hb)
      replace HU := Lib.hid (own_below' HU.out hb)
      replace HM := Lib.hid (HM.out.below hb)
      clear hb
      go_wp2
      go_ret
      exact ⟨rfl, HB.out⟩
    have HMY := Lib.hid hm
    obtain ⟨LG, hLG⟩ : ∃ x, longN qn nn ed = x := ⟨_, rfl⟩
    by_cases hz : sz < (LG : Int)
    · have hx := cuts_long (q := ⟨qn, qt, qk⟩) (id := id) (sz := sz) (rd := rd) (ed := ed) (D := datL nn) (datL_size nn) (by rw [datL_len]; exact HNN.out) HMY.out HSZ.out.1 (by rw [datL_len, hLG]; exact hz)
      obtain ⟨nR, hnR⟩ : ∃ x, (replyL ⟨qn, qt, qk⟩ id 0 sz rd ed (cutsA qn (datL nn))).length = x := ⟨_, rfl⟩
      obtain ⟨LR, hLR⟩ : ∃ x, (replyL ⟨qn, qt, qk⟩ id 0 sz rd ed (cutsA qn (datL nn))) = x := ⟨_, rfl⟩
      rw [hnR, hLR] at ho
      rw [hnR, hLR] at hx
      obtain ⟨ua, uc, rfl, -⟩ := cellsK_own ho
      have HU := Lib.hid ho
      have HX := Lib.hid hx
      clear ho hx hm hnR hLR
      go_wp2_with fail
      refine (decode_ok LR (repM ⟨qn, qt, qk⟩ id 0 rd ed true []) ua nR uc _ (rowB_own HU.out).1 (rowB_own HU.out).2 (by have := HX.out; omega) HX.out.1).mono ?_; rintro e w42 ⟨v, rfl, ho, -, hb⟩
      replace HB := Lib.hid (HB.out.trans (hb.mono HB.out.size))
      replace HC := Lib.hid (HC.out.below hb)
      replace HU := Lib.hid (own_below' HU.out hb)
      clear hb
      obtain ⟨qa, ql, qc, na, nl, nc, sa, sl, sc, xa, xl, xc, rfl, hp⟩ := MsgAt.parts (mi := id) (mo := 0) (mr := 0) (b1 := true) (b2 := false) (b3 := true) (b4 := rd) (b5 := true) (Q := [⟨qn, qt, qk⟩]) (A := []) (N := []) (X := if ed then [putR (optW 0)] else []) ho.at
      obtain ⟨⟨l1, l2, -, -⟩, -⟩ := hp.lens
      replace l1 : ql = 1 := l1.symm
      subst l1
      replace l2 : nl = 0 := l2.symm
      subst l2
      clear ho hp
      have hba := (Below.refl _ _ : Below w42.heap.size w42 w42).alloc (Nat.le_refl _) (.cells #[.int .i64 id, .int .i64 0, .int .i64 0, .bool true, .bool false, .bool true, .bool rd, .bool true, .slice qa 1 qc, .slice na 0 nc, .slice sa sl sc, .slice xa xl xc] 37)
      have HM := Lib.hid (CN.new w42 #[.int .i64 id, .int .i64 0, .int .i64 0, .bool true, .bool false, .bool true, .bool rd, .bool true, .slice qa 1 qc, .slice na 0 nc, .slice sa sl sc, .slice xa xl xc] 37)
      replace HB := Lib.hid (HB.out.trans (hba.mono HB.out.size))
      replace HC := Lib.hid (HC.out.below hba)
      replace HU := Lib.hid (own_below' HU.out hba)
      obtain ⟨w43, hw⟩ : ∃ x, w42.alloc (.cells #[.int .i64 id, .int .i64 0, .int .i64 0, .bool true, .bool false, .bool true, .bool rd, .bool true, .slice qa 1 qc, .slice na 0 nc, .slice sa sl sc, .slice xa xl xc] 37) = x := ⟨_, rfl⟩
      obtain ⟨q43, hq⟩ : ∃ x, w42.heap.size = x := ⟨_, rfl⟩
      rw [hw, hq] at HM
      rw [hw] at HB HC HU
      have HW := Lib.hid hw
      have HQ_ := Lib.hid hq
      clear hba hw hq
      go_upto_region 12 with (fail)
      rw [HW.out, HQ_.out]
      clear HW HQ_
      have hlg : (LG : Int) = (if qn = ⟨#[0]⟩ then 17 + 15 * (nn : Int) else 16 + (qn.size : Int) + 16 * (nn : Int)) + (if ed then 11 else 0) := by rw [← hLG, longN]; split <;> split <;> omega
      have HLG := Lib.hid hlg
      have HZ2 := Lib.hid hz
      clear hlg hz hLG
      by_cases hr : qn = ⟨#[0]⟩
      · have r0 : (qn.toList == [0]) = true := by rw [hr]; decide +kernel
        have HR0 := Lib.hid hr
        clear hr
        cases ed
        · obtain ⟨p0, p1, p2, p3, p4, p5, p6, p7, p8, _⟩ := HC.out.v9
          have hv := HLG.out
          rw [if_pos HR0.out] at hv
          have hk2 := HNN.out
          have hqs := HQS.out
          replace hv : (LG : Int) = (17 + 15 * (nn : Int)) := by simpa using hv
          have HVV := Lib.hid hv
          have t1 : decide (sz < (17 + 15 * (nn : Int))) = true := dT (by have := HZ2.out; omega)
          clear hv
          go_wp2_with fail
          refine (first22 _).mono ?_; rintro e w44 ⟨rfl, hb⟩
          clear p0 p1 p2 p3 p4 p5 p6 p7 p8
          replace HB := Lib.hid (HB.out.trans (hb.mono HB.out.size))
          replace HC := Lib.hid (HC.out.below hb)
          replace HU := Lib.hid (own_below' HU.out hb)
          replace HM := Lib.hid (HM.out.below hb)
          clear hb
          obtain ⟨y0, y1, y2, y3, y4, y5, y6, y7, y8, y9, y10, y11, f0, f1, f2, f3, f4, f5, f6, f7, f8, f9, f10, f11⟩ := HM.out.u12
          obtain ⟨p0, p1, p2, p3, p4, p5, p6, p7, p8, _⟩ := HC.out.v9
          have t2 : decide ((nR : Int) ≤ sz) = true := dT (by have h1 := HX.out; omega)
          go_wp2
          go_ret
          exact ⟨rfl, HB.out⟩
        · obtain ⟨p0, p1, p2, p3, p4, p5, p6, p7, p8, _⟩ := HC.out.v9
          have hv := HLG.out
          rw [if_pos HR0.out] at hv
          have hk2 := HNN.out
          have hqs := HQS.out
          replace hv : (LG : Int) = ((17 + 15 * (nn : Int)) + 11) := by simpa using hv
          have HVV := Lib.hid hv
          have t1 : decide (sz < ((17 + 15 * (nn : Int)) + 11)) = true := dT (by have := HZ2.out; omega)
          clear hv
          go_wp2_with fail
          refine (first22 _).mono ?_; rintro e w44 ⟨rfl, hb⟩
          clear p0 p1 p2 p3 p4 p5 p6 p7 p8
          replace HB := Lib.hid (HB.out.trans (hb.mono HB.out.size))
          replace HC := Lib.hid (HC.out.below hb)
          replace HU := Lib.hid (own_below' HU.out hb)
          replace HM := Lib.hid (HM.out.below hb)
          clear hb
          obtain ⟨y0, y1, y2, y3, y4, y5, y6, y7, y8, y9, y10, y11, f0, f1, f2, f3, f4, f5, f6, f7, f8, f9, f10, f11⟩ := HM.out.u12
          obtain ⟨p0, p1, p2, p3, p4, p5, p6, p7, p8, _⟩ := HC.out.v9
          have t2 : decide ((nR : Int) ≤ sz) = true := dT (by have h1 := HX.out; omega)
          go_wp2
          go_ret
          exact ⟨rfl, HB.out⟩
      · have r0 : (qn.toList == [0]) = false := root_ne hr
        have HR0 := Lib.hid hr
        clear hr
        cases ed
        · obtain ⟨p0, p1, p2, p3, p4, p5, p6, p7, p8, _⟩ := HC.out.v9
          have hv := HLG.out
          rw [if_neg HR0.out] at hv
          have hk2 := HNN.out
          have hqs := HQS.out
          replace hv : (LG : Int) = (16 + (qn.size : Int) + 16 * (nn : Int)) := by simpa using hv
          have HVV := Lib.hid hv
          have t1 : decide (sz < (16 + (qn.size : Int) + 16 * (nn : Int))) = true := dT (by have := HZ2.out; omega)
          clear hv
          go_wp2_with fail
          refine (first22 _).mono ?_; rintro e w44 ⟨rfl, hb⟩
          clear p0 p1 p2 p3 p4 p5 p6 p7 p8
          replace HB := Lib.hid (HB.out.trans (hb.mono HB.out.size))
          replace HC := Lib.hid (HC.out.below hb)
          replace HU := Lib.hid (own_below' HU.out hb)
          replace HM := Lib.hid (HM.out.below hb)
          clear hb
          obtain ⟨y0, y1, y2, y3, y4, y5, y6, y7, y8, y9, y10, y11, f0, f1, f2, f3, f4, f5, f6, f7, f8, f9, f10, f11⟩ := HM.out.u12
          obtain ⟨p0, p1, p2, p3, p4, p5, p6, p7, p8, _⟩ := HC.out.v9
          have t2 : decide ((nR : Int) ≤ sz) = true := dT (by have h1 := HX.out; omega)
          go_wp2
          go_ret
          exact ⟨rfl, HB.out⟩
        · obtain ⟨p0, p1, p2, p3, p4, p5, p6, p7, p8, _⟩ := HC.out.v9
          have hv := HLG.out
          rw [if_neg HR0.out] at hv
          have hk2 := HNN.out
          have hqs := HQS.out
          replace hv : (LG : Int) = ((16 + (qn.size : Int) + 16 * (nn : Int)) + 11) := by simpa using hv
          have HVV := Lib.hid hv
          have t1 : decide (sz < ((16 + (qn.size : Int) + 16 * (nn : Int)) + 11)) = true := dT (by have := HZ2.out; omega)
          clear hv
          go_wp2_with fail
          refine (first22 _).mono ?_; rintro e w44 ⟨rfl, hb⟩
          clear p0 p1 p2 p3 p4 p5 p6 p7 p8
          replace HB := Lib.hid (HB.out.trans (hb.mono HB.out.size))
          replace HC := Lib.hid (HC.out.below hb)
          replace HU := Lib.hid (own_below' HU.out hb)
          replace HM := Lib.hid (HM.out.below hb)
          clear hb
          obtain ⟨y0, y1, y2, y3, y4, y5, y6, y7, y8, y9, y10, y11, f0, f1, f2, f3, f4, f5, f6, f7, f8, f9, f10, f11⟩ := HM.out.u12
          obtain ⟨p0, p1, p2, p3, p4, p5, p6, p7, p8, _⟩ := HC.out.v9
          have t2 : decide ((nR : Int) ≤ sz) = true := dT (by have h1 := HX.out; omega)
          go_wp2
          go_ret
          exact ⟨rfl, HB.out⟩
    have hx := cuts_fit (q := ⟨qn, qt, qk⟩) (id := id) (sz := sz) (rd := rd) (ed := ed) (D := datL nn) (datL_size nn) (by rw [datL_len]; exact HNN.out) HMY.out HSZ.out.2 (by rw [datL_len, hLG]; exact hz)
    rw [datL_len, hLG] at hx
    obtain ⟨nR, hnR⟩ : ∃ x, (replyL ⟨qn, qt, qk⟩ id 0 sz rd ed (cutsA qn (datL nn))).length = x := ⟨_, rfl⟩
    obtain ⟨LR, hLR⟩ : ∃ x, (replyL ⟨qn, qt, qk⟩ id 0 sz rd ed (cutsA qn (datL nn))) = x := ⟨_, rfl⟩
    rw [hnR, hLR] at ho
    rw [hnR, hLR] at hx
    obtain ⟨ua, uc, rfl, -⟩ := cellsK_own ho
    have HU := Lib.hid ho
    have HX := Lib.hid hx
    clear ho hx hm hnR hLR
    go_wp2_with fail
    refine (decode_ok LR (repM ⟨qn, qt, qk⟩ id 0 rd ed false (cutsA qn (datL nn))) ua nR uc _ (rowB_own HU.out).1 (rowB_own HU.out).2 (by have := HX.out; omega) HX.out.1).mono ?_; rintro e w42 ⟨v, rfl, ho, -, hb⟩
    replace HB := Lib.hid (HB.out.trans (hb.mono HB.out.size))
    replace HC := Lib.hid (HC.out.below hb)
    replace HU := Lib.hid (own_below' HU.out hb)
    clear hb
    obtain ⟨qa, ql, qc, na, nl, nc, sa, sl, sc, xa, xl, xc, rfl, hp⟩ := MsgAt.parts (mi := id) (mo := 0) (mr := 0) (b1 := true) (b2 := false) (b3 := false) (b4 := rd) (b5 := true) (Q := [⟨qn, qt, qk⟩]) (A := (cutsA qn (datL nn))) (N := []) (X := if ed then [putR (optW 0)] else []) ho.at
    obtain ⟨⟨l1, l2, -, -⟩, -⟩ := hp.lens
    replace l1 : ql = 1 := l1.symm
    subst l1
    replace l2 : nl = nn := by rw [← l2, cutsA, List.length_map, datL_len]
    rw [l2]
    clear ho hp l2
    have hba := (Below.refl _ _ : Below w42.heap.size w42 w42).alloc (Nat.le_refl _) (.cells #[.int .i64 id, .int .i64 0, .int .i64 0, .bool true, .bool false, .bool false, .bool rd, .bool true, .slice qa 1 qc, .slice na nn nc, .slice sa sl sc, .slice xa xl xc] 37)
    have HM := Lib.hid (CN.new w42 #[.int .i64 id, .int .i64 0, .int .i64 0, .bool true, .bool false, .bool false, .bool rd, .bool true, .slice qa 1 qc, .slice na nn nc, .slice sa sl sc, .slice xa xl xc] 37)
    replace HB := Lib.hid (HB.out.trans (hba.mono HB.out.size))
    replace HC := Lib.hid (HC.out.below hba)
    replace HU := Lib.hid (own_below' HU.out hba)
    obtain ⟨w43, hw⟩ : ∃ x, w42.alloc (.cells #[.int .i64 id, .int .i64 0, .int .i64 0, .bool true, .bool false, .bool false, .bool rd, .bool true, .slice qa 1 qc, .slice na nn nc, .slice sa sl sc, .slice xa xl xc] 37) = x := ⟨_, rfl⟩
    obtain ⟨q43, hq⟩ : ∃ x, w42.heap.size = x := ⟨_, rfl⟩
    rw [hw, hq] at HM
    rw [hw] at HB HC HU
    have HW := Lib.hid hw
    have HQ_ := Lib.hid hq
    clear hba hw hq
    go_upto_region 12 with (fail)
    rw [HW.out, HQ_.out]
    clear HW HQ_
    have hlg : (LG : Int) = (if qn = ⟨#[0]⟩ then 17 + 15 * (nn : Int) else 16 + (qn.size : Int) + 16 * (nn : Int)) + (if ed then 11 else 0) := by rw [← hLG, longN]; split <;> split <;> omega
    have HLG := Lib.hid hlg
    have HZ2 := Lib.hid hz
    clear hlg hz hLG
    by_cases hr : qn = ⟨#[0]⟩
    · have r0 : (qn.toList == [0]) = true := by rw [hr]; decide +kernel
      have HR0 := Lib.hid hr
      clear hr
      cases ed
      · obtain ⟨p0, p1, p2, p3, p4, p5, p6, p7, p8, _⟩ := HC.out.v9
        have hv := HLG.out
        rw [if_pos HR0.out] at hv
        have hk2 := HNN.out
        have hqs := HQS.out
        replace hv : (LG : Int) = (17 + 15 * (nn : Int)) := by simpa using hv
        have HVV := Lib.hid hv
        have t1 : decide (sz < (17 + 15 * (nn : Int))) = false := dF (by have := HZ2.out; omega)
        clear hv
        go_wp2_with fail
        refine (first22 _).mono ?_; rintro e w44 ⟨rfl, hb⟩
        clear p0 p1 p2 p3 p4 p5 p6 p7 p8
        replace HB := Lib.hid (HB.out.trans (hb.mono HB.out.size))
        replace HC := Lib.hid (HC.out.below hb)
        replace HU := Lib.hid (own_below' HU.out hb)
        replace HM := Lib.hid (HM.out.below hb)
        clear hb
        obtain ⟨y0, y1, y2, y3, y4, y5, y6, y7, y8, y9, y10, y11, f0, f1, f2, f3, f4, f5, f6, f7, f8, f9, f10, f11⟩ := HM.out.u12
        obtain ⟨p0, p1, p2, p3, p4, p5, p6, p7, p8, _⟩ := HC.out.v9
        have t2 : ((nR : Int) == (17 + 15 * (nn : Int))) = true := eT (by have h1 := HX.out; have h2 := HVV.out; omega)
        have t3 : ((nn : Int) == (nn : Int)) = true := beq_self_eq_true _
        go_wp2
        go_ret
        exact ⟨rfl, HB.out⟩
      · obtain ⟨p0, p1, p2, p3, p4, p5, p6, p7, p8, _⟩ := HC.out.v9
        have hv := HLG.out
        rw [if_pos HR0.out] at hv
        have hk2 := HNN.out
        have hqs := HQS.out
        replace hv : (LG : Int) = ((17 + 15 * (nn : Int)) + 11) := by simpa using hv
        have HVV := Lib.hid hv
        have t1 : decide (sz < ((17 + 15 * (nn : Int)) + 11)) = false := dF (by have := HZ2.out; omega)
        clear hv
        go_wp2_with fail
        refine (first22 _).mono ?_; rintro e w44 ⟨rfl, hb⟩
        clear p0 p1 p2 p3 p4 p5 p6 p7 p8
        replace HB := Lib.hid (HB.out.trans (hb.mono HB.out.size))
        replace HC := Lib.hid (HC.out.below hb)
        replace HU := Lib.hid (own_below' HU.out hb)
        replace HM := Lib.hid (HM.out.below hb)
        clear hb
        obtain ⟨y0, y1, y2, y3, y4, y5, y6, y7, y8, y9, y10, y11, f0, f1, f2, f3, f4, f5, f6, f7, f8, f9, f10, f11⟩ := HM.out.u12
        obtain ⟨p0, p1, p2, p3, p4, p5, p6, p7, p8, _⟩ := HC.out.v9
        have t2 : ((nR : Int) == ((17 + 15 * (nn : Int)) + 11)) = true := eT (by have h1 := HX.out; have h2 := HVV.out; omega)
        have t3 : ((nn : Int) == (nn : Int)) = true := beq_self_eq_true _
        go_wp2
        go_ret
        exact ⟨rfl, HB.out⟩
    · have r0 : (qn.toList == [0]) = false := root_ne hr
      have HR0 := Lib.hid hr
      clear hr
      cases ed
      · obtain ⟨p0, p1, p2, p3, p4, p5, p6, p7, p8, _⟩ := HC.out.v9
        have hv := HLG.out
        rw [if_neg HR0.out] at hv
        have hk2 := HNN.out
        have hqs := HQS.out
        replace hv : (LG : Int) = (16 + (qn.size : Int) + 16 * (nn : Int)) := by simpa using hv
        have HVV := Lib.hid hv
        have t1 : decide (sz < (16 + (qn.size : Int) + 16 * (nn : Int))) = false := dF (by have := HZ2.out; omega)
        clear hv
        go_wp2_with fail
        refine (first22 _).mono ?_; rintro e w44 ⟨rfl, hb⟩
        clear p0 p1 p2 p3 p4 p5 p6 p7 p8
        replace HB := Lib.hid (HB.out.trans (hb.mono HB.out.size))
        replace HC := Lib.hid (HC.out.below hb)
        replace HU := Lib.hid (own_below' HU.out hb)
        replace HM := Lib.hid (HM.out.below hb)
        clear hb
        obtain ⟨y0, y1, y2, y3, y4, y5, y6, y7, y8, y9, y10, y11, f0, f1, f2, f3, f4, f5, f6, f7, f8, f9, f10, f11⟩ := HM.out.u12
        obtain ⟨p0, p1, p2, p3, p4, p5, p6, p7, p8, _⟩ := HC.out.v9
        have t2 : ((nR : Int) == (16 + (qn.size : Int) + 16 * (nn : Int))) = true := eT (by have h1 := HX.out; have h2 := HVV.out; omega)
        have t3 : ((nn : Int) == (nn : Int)) = true := beq_self_eq_true _
        go_wp2
        go_ret
        exact ⟨rfl, HB.out⟩
      · obtain ⟨p0, p1, p2, p3, p4, p5, p6, p7, p8, _⟩ := HC.out.v9
        have hv := HLG.out
        rw [if_neg HR0.out] at hv
        have hk2 := HNN.out
        have hqs := HQS.out
        replace hv : (LG : Int) = ((16 + (qn.size : Int) + 16 * (nn : Int)) + 11) := by simpa using hv
        have HVV := Lib.hid hv
        have t1 : decide (sz < ((16 + (qn.size : Int) + 16 * (nn : Int)) + 11)) = false := dF (by have := HZ2.out; omega)
        clear hv
        go_wp2_with fail
        refine (first22 _).mono ?_; rintro e w44 ⟨rfl, hb⟩
        clear p0 p1 p2 p3 p4 p5 p6 p7 p8
        replace HB := Lib.hid (HB.out.trans (hb.mono HB.out.size))
        replace HC := Lib.hid (HC.out.below hb)
        replace HU := Lib.hid (own_below' HU.out hb)
        replace HM := Lib.hid (HM.out.below hb)
        clear hb
        obtain ⟨y0, y1, y2, y3, y4, y5, y6, y7, y8, y9, y10, y11, f0, f1, f2, f3, f4, f5, f6, f7, f8, f9, f10, f11⟩ := HM.out.u12
        obtain ⟨p0, p1, p2, p3, p4, p5, p6, p7, p8, _⟩ := HC.out.v9
        have t2 : ((nR : Int) == ((16 + (qn.size : Int) + 16 * (nn : Int)) + 11)) = true := eT (by have h1 := HX.out; have h2 := HVV.out; omega)
        have t3 : ((nn : Int) == (nn : Int)) = true := beq_self_eq_true _
        go_wp2
        go_ret
        exact ⟨rfl, HB.out⟩



end Go.Proofs.Ytgppkpdjpcegbaa
