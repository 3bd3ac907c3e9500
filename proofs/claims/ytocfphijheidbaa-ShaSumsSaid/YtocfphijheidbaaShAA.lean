/- The document's Sum: contract. -/
import Derived.Test.YtocfphijheidbaaShV
import Derived.Test.YtocfphijheidbaaShX
import Derived.Test.YtocfphijheidbaaMgT
import Derived.Test.YtocfphijheidbaaShZ
import Derived.Test.YtocfphijheidbaaShL
namespace Go.Proofs.Ytocfphijheidbaa
open Go.RowKit

def hRow (k : Nat) : List Int := (List.range k).map fun j => rootF (prF (8 + j)) 2
def kRow (k : Nat) : List Int := (List.range k).map fun j => rootF (prF j) 3
theorem hRow_next (k : Nat) : lc (hRow k) ++ [Value.int .u64 (rootF (prF (8 + k)) 2)] = lc (hRow (k + 1)) := by simp [lc, hRow, List.range_succ]
theorem kRow_next (k : Nat) : lc (kRow k) ++ [Value.int .u64 (rootF (prF k) 3)] = lc (kRow (k + 1)) := by simp [lc, kRow, List.range_succ]
theorem hRow_all : lc (hRow 8) = arL .u64 8 iniF := by
  rw [lc, hRow, List.map_map, arL]
  refine List.map_congr_left fun j hj => ?_
  have := List.mem_range.1 hj
  exact congrArg (Value.int .u64) (ini_root j this)
theorem kRow_all : lc (kRow 80) = arL .u64 80 kayF := by
  rw [lc, kRow, List.map_map, arL]
  refine List.map_congr_left fun j hj => ?_
  have := List.mem_range.1 hj
  exact congrArg (Value.int .u64) (kay_root j this)
/-- The message's tail, as the document lays it. -/
def lenB (n k : Nat) : List UInt8 := (List.range k).map fun i => by8 ((8 * (n : Int)) / 2 ^ (8 * (7 - i)))
theorem lenB_next (n k : Nat) : lenB n (k + 1) = lenB n k ++ [by8 ((8 * (n : Int)) / 2 ^ (8 * (7 - k)))] := by simp [lenB, List.range_succ]
theorem lenB_all (n : Nat) (hn : n ≤ 1000000) : lenB n 8 = List.replicate 2 0 ++ (List.range 6).map fun i => by8 ((8 * (n : Int)) / 2 ^ (8 * (5 - i))) := by
  have e : (List.range 8) = [0, 1] ++ (List.range 6).map (· + 2) := by decide
  rw [lenB, e, List.map_append, List.map_map]
  congr 1
  have h0 : (8 * (n : Int)) / 2 ^ (8 * (7 - 0)) = 0 := by
    rw [show (8 * (7 - 0)) = 56 from rfl]; omega
  have h1 : (8 * (n : Int)) / 2 ^ (8 * (7 - 1)) = 0 := by
    rw [show (8 * (7 - 1)) = 48 from rfl]; omega
  show [by8 ((8 * (n : Int)) / 2 ^ (8 * (7 - 0))), by8 ((8 * (n : Int)) / 2 ^ (8 * (7 - 1)))] = _
  rw [h0, h1]
  rfl
theorem whole_doc (l : List UInt8) (hl : l.length ≤ 1000000) : (l ++ (0x80 : UInt8) :: List.replicate (padN l.length) 0) ++ List.replicate 8 0 ++ lenB l.length 8 = whole l := by
  rw [whole, endL, lenB_all _ hl]
  have e : List.replicate (padN l.length + 10) (0 : UInt8) = List.replicate (padN l.length) 0 ++ (List.replicate 8 0 ++ List.replicate 2 0) := by
    rw [List.replicate_append_replicate, List.replicate_append_replicate]
  rw [e]
  simp only [List.append_assoc, List.cons_append]
theorem own_u64 {w : World} {B n : Nat} {e : TypeId} {f : Nat → Int} {v : Value} (h : w.ownsRow B e 1 v n (arL .u64 n f)) (hn : 0 < n) : ∃ g c, v = .slice (some ⟨g, 0, none⟩) n c ∧ B ≤ g ∧ g < w.heap.size ∧ ArA .u64 n w g 0 f := by
  rcases h.2 with ⟨_, h0⟩ | ⟨g, cap, cu, rfl, hb, hg, _⟩
  · omega
  · exact ⟨g, cap, rfl, hb, (Array.getElem?_eq_some_iff.1 hg).1, own_arA h⟩
theorem pad_row (l : List UInt8) (k : Nat) : bc (l ++ (0x80 : UInt8) :: List.replicate k 0) ++ [Value.int .u8 0] = bc (l ++ (0x80 : UInt8) :: List.replicate (k + 1) 0) := by
  rw [bc_append, List.append_assoc, pad_more, bc_append]
theorem slice_mid (g n cap lo hi : Nat) (h1 : lo ≤ hi) (h2 : hi ≤ cap) (h3 : lo < cap) (W : World) : (Instr.slice 25 (.slice (some ⟨g, 0, none⟩) n cap) (some (.int .i64 (lo : Int))) (some (.int .i64 (hi : Int))) none).run Try.prog W = .ok (.slice (some ⟨g, lo, none⟩) (hi - lo) (cap - lo)) W := by
  obtain ⟨i0, hi0, hz0, hz1, hz2⟩ := info_parts infoU8
  have he : Try.prog.elem 25 = 5 := by simp [Program.elem, Try.underlying25]
  have hu : Try.prog.underlying 25 = some (.slice (Try.prog.elem 25)) := by rw [he]; exact Try.underlying25
  rw [run_slice_lh (P := Try.prog) (w := W) 25 (some ⟨g, 0, none⟩) n cap hu .i64 .i64 _ _ (by omega) (by omega) (by omega), he]
  have h4 : ¬ cap = lo := by omega
  simp [sizeOf, typeInfo, hi0, hz1, Result.andThen, sliced, h4, Addr.add_mid]
theorem blk_rng (l : List UInt8) (k j : Nat) : 0 ≤ blk l k j ∧ blk l k j < 256 := by
  have := (l.getD (128 * k + j) 0).toNat_lt
  unfold blk
  omega
theorem words_at (h : Nat → Int) (k d s : Nat) (hd : k / 8 = d) (hs : 56 - 8 * (k % 8) = s) : words h (k + 1) = words h k ++ [by8 (h d / 2 ^ s)] := by
  rw [words_succ, hd, hs]
theorem end_row (n : Nat) (X : List UInt8) (k s : Nat) (hs : 8 * (7 - k) = s) : bc (X ++ lenB n k) ++ [Value.int .u8 (8 * (n : Int) / 2 ^ s % 256)] = bc (X ++ lenB n (k + 1)) := by
  rw [lenB_next, ← List.append_assoc, bc_append (X ++ lenB n k), bc_one, hs]

set_option maxRecDepth 100000 in
set_option maxHeartbeats 16000000 in
theorem rsum_any (a : Option Addr) (n c : Nat) (l : List UInt8) (w : World) (hr : RowB w a n l) (hnil : a = none → n = 0 ∧ c = 0) (hn : n ≤ 100000) : Calls Try.prog 17 #[.slice a n c] w fun e w' => ∃ v, e = .returned v ∧ w'.ownsRow w.heap.size 5 1 v 48 (bc (shaL l)) ∧ Below w.heap.size w w' := by
  obtain ⟨i0, hi, hz0, hz1, hz2⟩ := info_parts infoU64
  have HI := Lib.hid hi
  have HZ0 := Lib.hid hz0
  have HZ1 := Lib.hid hz1
  have HZ2 := Lib.hid hz2
  obtain ⟨i8, gi, gz0, gz1, gz2⟩ := info_parts infoU8
  have GI := Lib.hid gi
  have GZ0 := Lib.hid gz0
  have GZ1 := Lib.hid gz1
  have GZ2 := Lib.hid gz2
  have HR := Lib.hid hr
  have HN := Lib.hid hnil
  have HL := Lib.hid hr.len
  clear hi hz0 hz1 hz2 gi gz0 gz1 gz2 hr hnil
  go_enter Try.func17, Try.ntmps17
  go_wp2_with fail
  refine (primes_any _).mono ?_; rintro e w1 ⟨gp, cp, rfl, hgp, hp, hb⟩
  have HP := Lib.hid hp
  have HB := Lib.hid hb
  have HS1 := Lib.hid hb.size
  clear hp hb hgp
  go_wp2_with fail
  go_loopw [4, 6] (fun v x wx => ∃ (k i : Nat), k ≤ 8 ∧ x = .int .i64 i ∧ Hid (i = 8 + k) ∧ Hid (wx.ownsRow w1.heap.size 114 1 v k (lc (hRow k))) ∧ Hid (Below w1.heap.size w1 wx)) (fun _ x _ => 16 - (intOf x).toNat)
  case atStart => exact ⟨0, 8, Nat.zero_le _, rfl, rfl, World.ownsRow_nil _ _ _ _, Below.refl _ _⟩
  case round =>
    obtain ⟨k, i, hk, rfl, HIK, HO, HBx⟩ := hrel
    obtain ⟨va, vc, rfl⟩ := own_shape HO.out
    by_cases hlt : k < 8
    · have hi16 : i < 16 := by have := HIK.out; omega
      have di : decide ((i : Int) < 16) = true := dT (by omega)
      obtain ⟨c0, -⟩ := (HP.out.below HBx.out) i (by omega)
      rw [Nat.zero_add] at c0
      obtain ⟨p, hp⟩ : ∃ z, prF i = z := ⟨_, rfl⟩
      rw [hp] at c0
      have HNX := Lib.hid (show lc (hRow k) ++ [Value.int .u64 (rootF p 2)] = lc (hRow (k + 1)) by rw [← hp, HIK.out]; exact hRow_next k)
      have HK := Lib.hid hlt
      clear hp hk hlt
      go_wp2_with fail
      refine (root_any p 2 _ (by omega)).mono ?_; rintro e w2 ⟨rfl, hb⟩
      have HO2 := Lib.hid (own_below' HO.out hb)
      have HB2 := Lib.hid (HBx.out.trans (hb.mono HBx.out.size))
      obtain ⟨rv, hrv⟩ : ∃ z, rootF p 2 = z := ⟨_, rfl⟩
      rw [hrv] at HNX ⊢
      clear hb hrv HO HBx c0
      go_wp2_with (first | (at_builtin; refine wpList_append_own _ rfl _ _ 112 rfl _ 114 i0 (.int .u64 0) 1 8 Try.underlying112 HI.out HZ0.out HZ1.out HZ2.out rfl (by decide) _ k _ rfl (HO2.out.alloc _) ⟨w2.heap.size, 0, none⟩ 1 1 [.int .u64 rv] rfl rfl ?c1 ?c2 ?c3 ?c4 ?c5 ?_))
      case c1 => exact cell_one_new _ _ _
      case c2 => exact one_int _ _
      case c3 => have := HK.out; unfold maxLen; omega
      case c4 => have := HK.out; omega
      case c5 => have := HB2.out.size; simp; omega
      intro v5 w5 hown5 hgrow5 _
      rw [HNX.out] at hown5
      have HB5 := Lib.hid ((HB2.out.alloc HB2.out.size _).grown hgrow5 (by have := HB2.out.size; simp; omega) (fun k hk => (HO2.out.lt k hk).1))
      have HO5 := Lib.hid hown5
      clear hown5 hgrow5 HO2 HB2
      go_wp2
      go_roundw
      case rel => exact ⟨k + 1, i + 1, HK.out, by go_num, Lib.hid (by rw [HIK.out]; omega), HO5, HB5⟩
      case measure => first | (simp [intOf]; done) | (simp [intOf]; omega)
    · have hk8 : k = 8 := by omega
      subst hk8
      have di : decide ((i : Int) < 16) = false := dF (by have := HIK.out; omega)
      have hx := HO.out
      rw [hRow_all] at hx
      obtain ⟨gh, ch, hve, hgh1, hgh2, hah⟩ := own_u64 hx (by decide)
      injection hve with e1 _ e3
      subst e1 e3
      have HH := Lib.hid hah
      replace HP := Lib.hid (HP.out.below HBx.out)
      replace HB := Lib.hid (HB.out.trans (HBx.out.mono HB.out.size))
      have HGH := Lib.hid (show w.heap.size ≤ gh ∧ gh < wr.heap.size from ⟨Nat.le_trans HS1.out hgh1, hgh2⟩)
      clear hx hah HO HBx HIK hk hlt hgh1 hgh2
      go_wp2_with fail
      go_loopw [5, 7] (fun v x wx => ∃ (k i : Nat), k ≤ 80 ∧ x = .int .i64 i ∧ Hid (i = 0 + k) ∧ Hid (wx.ownsRow wr.heap.size 114 1 v k (lc (kRow k))) ∧ Hid (Below wr.heap.size wr wx)) (fun _ x _ => 80 - (intOf x).toNat)
      case atStart => exact ⟨0, 0, Nat.zero_le _, rfl, rfl, World.ownsRow_nil _ _ _ _, Below.refl _ _⟩
      case round =>
        obtain ⟨k, i, hk, rfl, HIK, HO, HBx⟩ := hrel
        obtain ⟨va, vc, rfl⟩ := own_shape HO.out
        by_cases hlt : k < 80
        · have hi16 : i < 80 := by have := HIK.out; omega
          have di : decide ((i : Int) < 80) = true := dT (by omega)
          obtain ⟨c0, -⟩ := (HP.out.below HBx.out) i (by omega)
          rw [Nat.zero_add] at c0
          obtain ⟨p, hp⟩ : ∃ z, prF i = z := ⟨_, rfl⟩
          rw [hp] at c0
          have HNX := Lib.hid (show lc (kRow k) ++ [Value.int .u64 (rootF p 3)] = lc (kRow (k + 1)) by rw [← hp, HIK.out]; rw [Nat.zero_add]; exact kRow_next k)
          have HK := Lib.hid hlt
          clear hp hk hlt
          go_wp2_with fail
          refine (root_any p 3 _ (by omega)).mono ?_; rintro e w2 ⟨rfl, hb⟩
          have HO2 := Lib.hid (own_below' HO.out hb)
          have HB2 := Lib.hid (HBx.out.trans (hb.mono HBx.out.size))
          obtain ⟨rv, hrv⟩ : ∃ z, rootF p 3 = z := ⟨_, rfl⟩
          rw [hrv] at HNX ⊢
          clear hb hrv HO HBx c0
          go_wp2_with (first | (at_builtin; refine wpList_append_own _ rfl _ _ 112 rfl _ 114 i0 (.int .u64 0) 1 8 Try.underlying112 HI.out HZ0.out HZ1.out HZ2.out rfl (by decide) _ k _ rfl (HO2.out.alloc _) ⟨w2.heap.size, 0, none⟩ 1 1 [.int .u64 rv] rfl rfl ?c1 ?c2 ?c3 ?c4 ?c5 ?_))
          case c1 => exact cell_one_new _ _ _
          case c2 => exact one_int _ _
          case c3 => have := HK.out; unfold maxLen; omega
          case c4 => have := HK.out; omega
          case c5 => have := HB2.out.size; simp; omega
          intro v5 w5 hown5 hgrow5 _
          rw [HNX.out] at hown5
          have HB5 := Lib.hid ((HB2.out.alloc HB2.out.size _).grown hgrow5 (by have := HB2.out.size; simp; omega) (fun k hk => (HO2.out.lt k hk).1))
          have HO5 := Lib.hid hown5
          clear hown5 hgrow5 HO2 HB2
          go_wp2
          go_roundw
          case rel => exact ⟨k + 1, i + 1, HK.out, by go_num, Lib.hid (by rw [HIK.out]; omega), HO5, HB5⟩
          case measure => first | (simp [intOf]; done) | (simp [intOf]; omega)
        · have hk8 : k = 80 := by omega
          subst hk8
          obtain ⟨W5, hW5⟩ : ∃ z, z = wr := ⟨_, rfl⟩
          subst hW5
          have di : decide ((i : Int) < 80) = false := dF (by have := HIK.out; omega)
          have hx := HO.out
          rw [kRow_all] at hx
          obtain ⟨gk, ck, hve, hgk1, hgk2, hak⟩ := own_u64 hx (by decide)
          injection hve with e1 _ e3
          subst e1 e3
          have HKY := Lib.hid hak
          have HGK := Lib.hid (show gk ≠ gh by have := HGH.out; omega)
          replace HH := Lib.hid (HH.out.below HBx.out)
          replace HB := Lib.hid (HB.out.trans (HBx.out.mono HB.out.size))
          have HGL := Lib.hid (show gh < W5.heap.size ∧ gk < W5.heap.size from ⟨by have := block_lt_of_cell (HH.out 0 (by decide)).1; simpa using this, hgk2⟩)
          clear hx hak HO HBx HIK hk hlt hgk1 hgk2 HP
          go_wp2_with fail
          refine (copyBytes_any a n c l _ (CellsAt.below HR.out HB.out) HN.out (by omega)).mono ?_; rintro e w6 ⟨vm, rfl, hm, hb⟩
          have HM := Lib.hid hm
          have HBm := Lib.hid hb
          have hs6 := hb.size
          clear hm hb
          go_wp2_with (first | (at_builtin; refine wpList_append_own _ rfl _ _ 25 rfl _ 5 i8 (.int .u8 0) 1 1 Try.underlying25 GI.out GZ0.out GZ1.out GZ2.out rfl (by decide) _ n _ rfl (HM.out.alloc _) ⟨w6.heap.size, 0, none⟩ 1 1 [.int .u8 128] rfl rfl ?c1 ?c2 ?c3 ?c4 ?c5 ?_))
          case c1 => exact cell_one_new _ _ _
          case c2 => exact one_int _ _
          case c3 => unfold maxLen; omega
          case c4 => omega
          case c5 => simp; omega
          intro v7 w7 hown7 hgrow7 _
          have HB7 := Lib.hid ((HBm.out.alloc HBm.out.size _).grown hgrow7 (by simp; omega) (fun k hk => (HM.out.lt k hk).1))
          have HM7 := Lib.hid (show w7.ownsRow W5.heap.size 5 1 v7 (n + 1) (bc (l ++ (0x80 : UInt8) :: List.replicate 0 0)) from by rw [bc_append]; exact hown7)
          clear hown7 hgrow7 HM HBm hs6
          go_wp2_with fail
          go_loopw [8] (fun v wx => ∃ k L : Nat, k ≤ padN n ∧ L ≤ 200000 ∧ Hid (L = n + 1 + k) ∧ Hid (wx.ownsRow W5.heap.size 5 1 v L (bc (l ++ (0x80 : UInt8) :: List.replicate k 0))) ∧ Hid (Below W5.heap.size W5 wx)) (fun v _ => padN n + n + 1 - sliceLen v)
          case atStart => exact ⟨0, n + 1, Nat.zero_le _, by omega, rfl, HM7, HB7⟩
          case round =>
            clear HM7 HB7
            obtain ⟨k, L, hk, hL, HLe, HO, HB8⟩ := hrel
            obtain ⟨va, vc, rfl⟩ := own_shape HO.out
            have hpe := pad_end n k hk
            have hpd : padN n < 128 := by unfold padN; omega
            by_cases hlt : k = padN n
            rotate_left
            · have d1 : ((L : Int) % 128 != 112) = true := nT (by have h1 := mt hpe.1 hlt; have := HLe.out; omega)
              have HK := Lib.hid (show k + 1 ≤ padN n by omega)
              have HK2 := Lib.hid (show L + 1 ≤ 200000 by have := HLe.out; omega)
              clear hpe hk hlt hpd
              go_wp2_with (first | (at_builtin; refine wpList_append_own _ rfl _ _ 25 rfl _ 5 i8 (.int .u8 0) 1 1 Try.underlying25 GI.out GZ0.out GZ1.out GZ2.out rfl (by decide) _ L _ rfl (HO.out.alloc _) ⟨wr.heap.size, 0, none⟩ 1 1 [.int .u8 0] rfl rfl ?c1 ?c2 ?c3 ?c4 ?c5 ?_))
              case c1 => exact cell_one_new _ _ _
              case c2 => exact one_int _ _
              case c3 => unfold maxLen; omega
              case c4 => omega
              case c5 => have := HB8.out.size; simp; omega
              intro v4 w4 hown4 hgrow4 _
              have HB4 := Lib.hid (below_append HB8.out HB8.out.size HO.out hgrow4)
              rw [pad_row] at hown4
              have HO4 := Lib.hid hown4
              obtain ⟨v4a, v4c, rfl⟩ := own_shape hown4
              clear hown4 hgrow4 HO HB8
              go_wp2
              go_roundw
              case rel => exact ⟨k + 1, L + 1, HK.out, HK2.out, Lib.hid (by rw [HLe.out]; omega), HO4, HB4⟩
              case measure =>
                simp only [sliceLen]
                have := HK.out
                have := HLe.out
                omega
            · have d1 : ((L : Int) % 128 != 112) = false := nF (by have := hpe.2 hlt; have := HLe.out; omega)
              obtain ⟨X, hX⟩ : ∃ z, l ++ (0x80 : UInt8) :: List.replicate k 0 = z := ⟨_, rfl⟩
              have HWH := Lib.hid (show (X ++ List.replicate 8 0) ++ lenB n 8 = whole l by rw [← hX, hlt, ← HL.out]; exact whole_doc l (by have := HL.out; omega))
              rw [hX] at HO
              have hL1 : 0 < L := by have := HLe.out; omega
              have HLN := Lib.hid (show L + 16 = (whole l).length by rw [← HWH.out, ← hX]; simp [lenB, HL.out]; have := HLe.out; omega)
              obtain ⟨Y, hY⟩ : ∃ z, X ++ List.replicate 8 0 = z := ⟨_, rfl⟩
              rw [hY] at HWH
              have HYE := Lib.hid hY
              clear hpe hk hlt hX hpd hY
              go_wp2_with (at_builtin; refine wpList_append_zeros8 rfl _ _ rfl _ L _ X rfl 8 rfl HO.out (by omega) hL1 (by omega) HB8.out.size ?_)
              intro v9 w9 hown9 hgrow9
              have HB9 := Lib.hid (HB8.out.grown hgrow9 HB8.out.size (fun k hk => (HO.out.lt k hk).1))
              have HO9 := Lib.hid (show w9.ownsRow _ 5 1 v9 (L + 8) (bc (Y ++ lenB n 0)) from by
                rw [← HYE.out, show lenB n 0 = [] from rfl, List.append_nil]; exact hown9)
              clear hown9 hgrow9 HO HB8 HYE
              go_wp2_with fail
              go_loopw [8, 9] (fun v x wx => ∃ (j L2 : Nat) (s : Int), j ≤ 8 ∧ L2 ≤ 300000 ∧ x = .int .i64 s ∧ Hid (s = 7 - (j : Int)) ∧ Hid (L2 = L + 8 + j) ∧ Hid (wx.ownsRow W5.heap.size 5 1 v L2 (bc (Y ++ lenB n j))) ∧ Hid (Below W5.heap.size W5 wx)) (fun _ x _ => (intOf x + 1).toNat)
              case atStart => exact ⟨0, L + 8, 7, Nat.zero_le _, by omega, rfl, rfl, rfl, HO9, HB9⟩
              case round =>
                clear HO9 HB9
                obtain ⟨j, L2, s, hj, hL2, rfl, HS, HL2, HO, HB9⟩ := hrel
                obtain ⟨va, vc, rfl⟩ := own_shape HO.out
                by_cases hjl : j < 8
                · obtain ⟨d, hd⟩ : ∃ z, 7 - j = z := ⟨_, rfl⟩
                  obtain rfl : s = (d : Int) := by have := HS.out; omega
                  obtain ⟨e8, he8⟩ : ∃ z, 8 * d = z := ⟨_, rfl⟩
                  have h8d : 8 * (d : Int) = (e8 : Int) := by omega
                  have he64 : e8 < 64 := by omega
                  obtain ⟨m8, hm8⟩ : ∃ z, (n : Int) * 8 = z := ⟨_, rfl⟩
                  have hm80 : 0 ≤ m8 := by omega
                  have hm81 : m8 ≤ 10000000 := by omega
                  have HER := Lib.hid (show bc (Y ++ lenB n j) ++ [Value.int .u8 (m8 / 2 ^ e8 % 256)] = bc (Y ++ lenB n (j + 1)) by
                    rw [← hm8, Int.mul_comm (n : Int) 8]
                    exact end_row n Y j e8 (by rw [hd]; exact he8))
                  have HJ := Lib.hid hjl
                  have hL3 : L2 + 1 ≤ 300000 := by have := HL2.out; omega
                  have HDE := Lib.hid he8
                  have HDD := Lib.hid hd
                  clear he8 hd hjl hj
                  go_upto_region 18 with (fail)
                  go_wp2_with (first | (at_builtin; refine wpList_append_own _ rfl _ _ 25 rfl _ 5 i8 (.int .u8 0) 1 1 Try.underlying25 GI.out GZ0.out GZ1.out GZ2.out rfl (by decide) _ L2 _ rfl (HO.out.alloc _) ⟨wr.heap.size, 0, none⟩ 1 1 [.int .u8 (m8 / 2 ^ e8 % 256)] rfl rfl ?c1 ?c2 ?c3 ?c4 ?c5 ?_))
                  case c1 => exact cell_one_new _ _ _
                  case c2 => exact one_int _ _
                  case c3 => unfold maxLen; omega
                  case c4 => omega
                  case c5 => have := HB9.out.size; simp; omega
                  intro v4 w4 hown4 hgrow4 _
                  have HB4 := Lib.hid (below_append HB9.out HB9.out.size HO.out hgrow4)
                  rw [HER.out] at hown4
                  have HO4 := Lib.hid hown4
                  obtain ⟨v4a, v4c, rfl⟩ := own_shape hown4
                  clear hown4 hgrow4 HO HB9 hm8
                  go_wp2
                  go_roundw
                  case rel => exact ⟨j + 1, L2 + 1, (d : Int) - 1, HJ.out, hL3, by go_num, Lib.hid (by have := HDD.out; have := HJ.out; omega), Lib.hid (by have := HL2.out; omega), HO4, HB4⟩
                  case measure => first | (simp [intOf]; done) | (simp [intOf]; omega)
                · have hj8 : j = 8 := by omega
                  subst hj8
                  have hsm : s < 0 := by have := HS.out; omega
                  obtain ⟨W6, hW6⟩ : ∃ z, z = wr := ⟨_, rfl⟩
                  subst hW6
                  rw [HWH.out] at HO
                  have hWm := whole_length l
                  have HX7 := Lib.hid (show words (hsh (whole l) ((whole l).length / 128)) 48 = shaL l from rfl)
                  have hLW : L2 = (whole l).length := by have := HL2.out; have := HLN.out; omega
                  obtain ⟨N, hN⟩ : ∃ z, (whole l).length / 128 = z := ⟨_, rfl⟩
                  obtain ⟨W, hW⟩ : ∃ z, whole l = z := ⟨_, rfl⟩
                  rw [hW] at HO hWm hN hLW HX7
                  rw [hN] at HX7
                  have hLN : L2 = 128 * N := by omega
                  have hL20 : 0 < L2 := by have := HL2.out; omega
                  have HLN2 := Lib.hid hLN
                  obtain ⟨gm, rfl, hgm⟩ : ∃ gm, va = some ⟨gm, 0, none⟩ ∧ W5.heap.size ≤ gm := by
                    rcases HO.out.2 with ⟨h1, h2⟩ | ⟨g, cap, cur, h1, h2, _⟩
                    · omega
                    · injection h1 with h1; exact ⟨g, h1, h2⟩
                  have hvc : L2 ≤ vc := by
                    rcases HO.out.2 with ⟨h1, h2⟩ | ⟨g, cap, cur, h1, h2, _, h4, _⟩
                    · omega
                    · injection h1 with _ _ h1; omega
                  have HMC := Lib.hid (show ∀ k, k < N → ∀ j, j < 128 → W6.cell? ⟨gm, 128 * k + j, none⟩ = some (.int .u8 (blk W k j)) from fun k hk j hj => own_at HO.out (128 * k + j) (by omega))
                  have HGM := Lib.hid (show gm ≠ gh by have := HGL.out; omega)
                  have HH6 := Lib.hid (show ArA .u64 8 W6 gh 0 (hsh W 0) from HH.out.below HB9.out)
                  have HK6 := Lib.hid (HKY.out.below HB9.out)
                  have HB6 := Lib.hid (HB.out.trans (HB9.out.mono HB.out.size))
                  clear hN hW hWm hLW hLN HO HB9 HS HL2 HWH hjl hj hgm HLN
                  go_wp2_with fail
                  go_loopw [10] (fun x wx => ∃ k i : Nat, k ≤ N ∧ x = .int .i64 i ∧ Hid (i = 128 * k) ∧ Hid (ArA .u64 8 wx gh 0 (hsh W k)) ∧ Hid (Oth W6 wx gh)) (fun x _ => L2 - (intOf x).toNat)
                  case atStart => exact ⟨0, 0, Nat.zero_le _, rfl, rfl, HH6, Oth.refl _ _⟩
                  case round =>
                    clear HH6
                    obtain ⟨k, i, hk, rfl, HIK, HH6, HO6⟩ := hrel
                    by_cases hlt : k < N
                    · have hiL : i < L2 := by have := HIK.out; have := HLN2.out; omega
                      have di : decide (i < L2) = true := dT hiL
                      obtain ⟨hi, hhi⟩ : ∃ z, i + 128 = z := ⟨_, rfl⟩
                      have hii : (i : Int) + 128 = (hi : Int) := by omega
                      have hiL2 : hi ≤ L2 := by have := HIK.out; have := HLN2.out; omega
                      have hhh : hi - i = 128 := by omega
                      have hsl := slice_mid gm L2 vc i hi (by omega) (by omega) (by omega)
                      rw [hhh] at hsl
                      have HC := Lib.hid (show ∀ j, j < 128 → wr.cell? ⟨gm, i + j, none⟩ = some (.int .u8 (blk W k j)) from fun j hj => by
                        have h1 := HMC.out k hlt j hj
                        rw [← HIK.out] at h1
                        exact HO6.out.keeps h1 HGM.out)
                      have HK := Lib.hid hlt
                      have HKW := Lib.hid (HK6.out.oth HO6.out HGK.out)
                      obtain ⟨vc2, hvc2⟩ : ∃ z, vc - i = z := ⟨_, rfl⟩
                      rw [hvc2] at hsl
                      have HII := Lib.hid hhi
                      clear hhi hhh hvc2 hk hlt
                      go_wp2_with fail
                      refine (block_any gh _ gk _ gm i vc2 (hsh W k) (blk W k) _ HH6.out HKW.out HC.out (blk_rng W k)).mono ?_; rintro e w9 ⟨rfl, hh9, ho9⟩
                      have HH9 := Lib.hid (show ArA .u64 8 w9 gh 0 (hsh W (k + 1)) from hh9)
                      have HO9 := Lib.hid (HO6.out.trans ho9)
                      clear hh9 ho9 HH6 HO6 HKW HC hsl
                      go_wp2
                      go_roundw
                      case rel => exact ⟨k + 1, hi, HK.out, by go_num, Lib.hid (by have := HII.out; have := HIK.out; omega), HH9, HO9⟩
                      case measure =>
                        simp only [intOf]
                        have := HII.out
                        omega
                    · have hkN : k = N := by omega
                      have di : decide (i < L2) = false := dF (by have := HIK.out; have := HLN2.out; omega)
                      obtain ⟨W7, hW7⟩ : ∃ z, z = wr := ⟨_, rfl⟩
                      subst hW7
                      obtain ⟨h, hh⟩ : ∃ z, hsh W N = z := ⟨_, rfl⟩
                      rw [hkN, hh] at HH6
                      rw [hh] at HX7
                      have HB7 := Lib.hid (Oth.under HB6.out HO6.out HGH.out.1 HB6.out.size)
                      clear hh hkN hk hlt HO6 HMC HK6
                      go_wp2_with fail
                      go_loopw [11, 12] (fun v x wx => ∃ k : Nat, k ≤ 48 ∧ x = .int .i64 k ∧ Hid (wx.ownsRow W7.heap.size 5 1 v k (bc (words h k))) ∧ Hid (Below W7.heap.size W7 wx)) (fun _ x _ => 48 - (intOf x).toNat)
                      case atStart => exact ⟨0, Nat.zero_le _, rfl, World.ownsRow_nil _ _ _ _, Below.refl _ _⟩
                      case round =>
                        obtain ⟨kk, hkk, rfl, HO, HBx⟩ := hrel
                        obtain ⟨va, vc, rfl⟩ := own_shape HO.out
                        by_cases hlt : kk < 48
                        · have dk : decide ((kk : Int) < 48) = true := dT (by omega)
                          obtain ⟨d, hd⟩ : ∃ z, kk / 8 = z := ⟨_, rfl⟩
                          obtain ⟨e, he⟩ : ∃ z, kk % 8 = z := ⟨_, rfl⟩
                          obtain ⟨s, hs⟩ : ∃ z, 56 - 8 * e = z := ⟨_, rfl⟩
                          have hdd : (kk : Int).tdiv 8 = (d : Int) := by rw [Int.tdiv_eq_ediv_of_nonneg (by omega)]; omega
                          have hde : (kk : Int).tmod 8 = (e : Int) := by rw [Int.tmod_eq_emod_of_nonneg (by omega)]; omega
                          have he8 : e < 8 := by omega
                          have hss : 56 - 8 * (e : Int) = (s : Int) := by omega
                          have hd6 : d < 8 := by omega
                          have hs64 : s < 64 := by omega
                          obtain ⟨c0, -⟩ := (HH6.out.below HBx.out) d hd6
                          rw [Nat.zero_add] at c0
                          obtain ⟨x, hx⟩ : ∃ z, h d = z := ⟨_, rfl⟩
                          rw [hx] at c0
                          have HNX := Lib.hid (show bc (words h kk) ++ [Value.int .u8 (x / 2 ^ s % 256)] = bc (words h (kk + 1)) by
                            rw [words_at h kk d s hd (by rw [he]; exact hs), bc_append, bc_one, hx])
                          have HK := Lib.hid hlt
                          have hk47 : kk ≤ 47 := by omega
                          clear hd he hs hx hkk hlt
                          go_wp2_with (first | (at_builtin; refine wpList_append_own _ rfl _ _ 25 rfl _ 5 i8 (.int .u8 0) 1 1 Try.underlying25 GI.out GZ0.out GZ1.out GZ2.out rfl (by decide) _ kk _ rfl (HO.out.alloc _) ⟨wr.heap.size, 0, none⟩ 1 1 [.int .u8 (x / 2 ^ s % 256)] rfl rfl ?c1 ?c2 ?c3 ?c4 ?c5 ?_))
                          case c1 => exact cell_one_new _ _ _
                          case c2 => exact one_int _ _
                          case c3 => have := HK.out; unfold maxLen; omega
                          case c4 => have := HK.out; omega
                          case c5 => have := HBx.out.size; simp; omega
                          intro v4 w4 hown4 hgrow4 _
                          have HB4 := Lib.hid (below_append HBx.out HBx.out.size HO.out hgrow4)
                          rw [HNX.out] at hown4
                          have HO4 := Lib.hid hown4
                          clear hown4 hgrow4 HO HBx
                          go_wp2
                          go_roundw
                          case rel => exact ⟨kk + 1, HK.out, by go_num, HO4, HB4⟩
                          case measure =>
                            simp only [intOf]
                            have := HK.out
                            omega
                        · have hk48 : kk = 48 := by omega
                          subst hk48
                          have dk : decide (((48 : Nat) : Int) < 48) = false := by decide
                          have HF := Lib.hid (own_lower HO.out HB7.out.size)
                          rw [HX7.out] at HF
                          have HBF := Lib.hid (HB7.out.trans (HBx.out.mono HB7.out.size))
                          clear hkk hlt HO HBx
                          go_wp2
                          go_ret
                          exact ⟨_, rfl, HF.out, HBF.out⟩
end Go.Proofs.Ytocfphijheidbaa
