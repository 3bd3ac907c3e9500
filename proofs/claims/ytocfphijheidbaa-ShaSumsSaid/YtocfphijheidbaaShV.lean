/- The document's block: contract. -/
import Derived.Test.YtocfphijheidbaaMgS
namespace Go.Proofs.Ytocfphijheidbaa
open Go.RowKit

theorem ArA.there64 {w : World} {g n : Nat} {f : Nat → Int} (h : ArA .u64 n w g 0 f) : CellsAt w (some ⟨g, 0, none⟩) n (arL .u64 n f) := by
  refine ⟨arL_length, ?_⟩
  by_cases h0 : n = 0
  · exact Or.inl h0
  · refine Or.inr ⟨g, 0, rfl, ?_, fun j u hj => ?_⟩
    · have := block_lt_of_cell (h 0 (by omega)).1
      simpa using this
    · exact h.range j u hj
theorem Oth.setBelow {w w1 : World} {q g : Nat} (h : Oth w w1 q) (i : Nat) (v : Value) (hg : w.heap.size ≤ g) : Oth w (w1.setCell ⟨g, i, none⟩ v) q :=
  h.below ((Below.refl w.heap.size w1).setCell (p := ⟨g, i, none⟩) hg v) (Nat.le_refl _)
theorem sch_same (a b c d : Int) : IntKind.u64.wrap (IntKind.u64.wrap (IntKind.u64.wrap (a + b) + c) + d) = IntKind.u64.wrap (IntKind.u64.wrap (IntKind.u64.wrap (d + c) + b) + a) := by
  simp only [IntKind.wrap_u64]
  omega
theorem sch1_next (b : Nat → Int) (k d : Nat) (hd : k / 8 = d) : sch1 b (k + 1) = fun j => if j = d then bits .or .u64 (IntKind.u64.wrap (sch1 b k d * 256)) (b k) else sch1 b k j := by
  rw [sch1, hd]
theorem sch2_next (b : Nat → Int) (m : Nat) : sch2 b (m + 1) = fun j => if j = m + 16 then IntKind.u64.wrap (IntKind.u64.wrap (IntKind.u64.wrap (sg1 (sch2 b m (m + 14)) + sch2 b m (m + 9)) + sg0 (sch2 b m (m + 1))) + sch2 b m m) else sch2 b m j := rfl
theorem oneU64 (n : Nat) (f : Nat → Int) : ∀ u ∈ arL .u64 n f, u.oneCell' = true := by
  intro v hv
  simp only [arL, List.mem_map] at hv
  obtain ⟨_, _, rfl⟩ := hv
  rfl

set_option maxRecDepth 100000 in
set_option maxHeartbeats 8000000 in
theorem block_any (q ch qk ck qm om cm : Nat) (h r : Nat → Int) (w : World) (hh : ArA .u64 8 w q 0 h) (hk : ArA .u64 80 w qk 0 kayF) (hm : ∀ j, j < 128 → w.cell? ⟨qm, om + j, none⟩ = some (.int .u8 (r j))) (hr : ∀ j, 0 ≤ r j ∧ r j < 256) :
    Calls Try.prog 63 #[.slice (some ⟨q, 0, none⟩) 8 ch, .slice (some ⟨qk, 0, none⟩) 80 ck, .slice (some ⟨qm, om, none⟩) 128 cm] w fun e w' => e = .returned (.tuple #[]) ∧ ArA .u64 8 w' q 0 (mixF h r) ∧ Oth w w' q := by
  obtain ⟨i0, hi, hz0, hz1, hz2⟩ := info_parts infoU64
  have HI := Lib.hid hi
  have HZ0 := Lib.hid hz0
  have HZ1 := Lib.hid hz1
  have HZ2 := Lib.hid hz2
  have hql := block_lt_of_cell (hh 0 (by decide)).1
  have hqkl := block_lt_of_cell (hk 0 (by decide)).1
  have hqml := block_lt_of_cell (hm 0 (by decide))
  simp only at hql hqkl hqml
  have HM := Lib.hid (fun (wx : World) (hb : Below w.heap.size w wx) (j : Nat) (hj : j < 128) => (hb.cell (p := ⟨qm, om + j, none⟩) hqml).trans (hm j hj))
  have HR := Lib.hid hr
  have HH := Lib.hid hh
  have HKY := Lib.hid hk
  clear hi hz0 hz1 hz2 hh hk hm hr
  go_enter Try.func63, Try.ntmps63
  go_wp2_with (at_make; refine wpList_make_full _ rfl _ _ 112 rfl w.heap.size 114 i0 (.int .u64 0) 1 Try.underlying112 HI.out HZ0.out HZ1.out .i64 .i64 _ _ 80 rfl rfl rfl rfl ?b2 ?b3 (Nat.le_refl _) ?_)
  case b2 => rw [HZ2.out]; omega
  case b3 => unfold maxLen; omega
  intro w1 hown hgrow
  rw [made64] at hown
  have HO := Lib.hid (own_arA hown)
  have HW := Lib.hid ((Below.refl w.heap.size w).grown hgrow (Nat.le_refl _) (by simp))
  obtain ⟨g, hg⟩ : ∃ x, w.heap.size = x := ⟨_, rfl⟩
  rw [hg] at HO
  have HG := Lib.hid hg
  clear hown hgrow hg
  rw [HG.out]
  have HGE := Lib.hid (show w.heap.size ≤ g by rw [HG.out]; exact Nat.le_refl _)
  clear HG
  go_wp2_with fail
  go_loopw [7] (fun i wr => ∃ k : Nat, k ≤ 16 ∧ i = .int .i64 k ∧ Hid (ArA .u64 80 wr g 0 (sch1 r (8 * k))) ∧ Hid (Below w.heap.size w wr)) (fun i _ => 16 - (intOf i).toNat)
  case atStart => exact ⟨0, Nat.zero_le _, rfl, HO, HW⟩
  case round =>
    clear HO HW
    obtain ⟨i, hi, rfl, HO, HW⟩ := hrel
    by_cases hlt : i < 16
    · have HIL := Lib.hid hlt
      have dI : decide ((i : Int) < 16) = true := dT (by omega)
      clear hi
      go_wp2_with fail
      go_loopw [8] (fun x wr => ∃ j : Nat, j ≤ 8 ∧ x = .int .i64 j ∧ Hid (ArA .u64 80 wr g 0 (sch1 r (8 * i + j))) ∧ Hid (Below w.heap.size w wr)) (fun x _ => 8 - (intOf x).toNat)
      case atStart => exact ⟨0, Nat.zero_le _, rfl, HO, HW⟩
      case round =>
        clear HO HW
        obtain ⟨j, hj, rfl, HO, HW⟩ := hrel
        by_cases hjl : j < 8
        · obtain ⟨m, hm⟩ : ∃ x, 8 * i + j = x := ⟨_, rfl⟩
          have hm128 : m < 128 := by omega
          have hms : 8 * (i : Int) + (j : Int) = (m : Int) := by omega
          have hmw : IntKind.i64.wrap (m : Int) = (m : Int) := by rw [IntKind.wrap_i64]; omega
          have hmw8 : IntKind.i64.wrap (8 * (i : Int)) = 8 * (i : Int) := by rw [IntKind.wrap_i64]; omega
          have HS := Lib.hid (sch1_next r m i (by omega))
          rw [hm] at HO
          have HMN := Lib.hid (show 8 * i + (j + 1) = m + 1 by omega)
          obtain ⟨co1, fo1⟩ := HO.out i (by omega)
          rw [Nat.zero_add] at co1 fo1
          have cm1 := HM.out _ HW.out m hm128
          obtain ⟨x, hx⟩ : ∃ z, sch1 r m i = z := ⟨_, rfl⟩
          obtain ⟨v, hv⟩ : ∃ z, r m = z := ⟨_, rfl⟩
          rw [hx] at co1
          rw [hv] at cm1
          rw [hx, hv] at HS
          have hwv : IntKind.u64.wrap v = v := by have := HR.out m; rw [hv] at this; rw [IntKind.wrap_u64]; omega
          have pi0 : (0 : Int) ≤ (i : Int) := by omega
          have ri : (i : Int) < 80 := by omega
          have pm0 : (0 : Int) ≤ (m : Int) := by omega
          have rm : (m : Int) < 128 := by omega
          have HJ := Lib.hid hjl
          clear hm hx hv hj
          go_upto_region 7 with (fail)
          go_still_tail 17, (by kernel_rfl)
          change wpList _ _ _ _ _ wr.drew
          have hbd := (Below.refl wr.heap.size wr).drew
          replace HO := Lib.hid (HO.out.below hbd)
          replace HW := Lib.hid (HW.out.trans (hbd.mono HW.out.size))
          obtain ⟨wq1, hw6⟩ : ∃ z, wr.drew = z := ⟨_, rfl⟩
          rw [hw6] at HO HW ⊢
          clear hbd hw6 co1 fo1 cm1
          obtain ⟨co1, fo1⟩ := HO.out i (by omega)
          rw [Nat.zero_add] at co1 fo1
          obtain ⟨y, hy⟩ : ∃ z, bits .or .u64 (IntKind.u64.wrap (x * 256)) v = z := ⟨_, rfl⟩
          rw [hy] at HS
          have HO10 := Lib.hid (show ArA .u64 80 (wq1.setCell ⟨g, i, none⟩ (.int .u64 y)) g 0 (sch1 r (8 * i + (j + 1))) from by
            rw [HMN.out, HS.out]
            have h := HO.out.set (i := i) y
            rw [Nat.zero_add] at h
            exact h)
          have HW10 := Lib.hid (HW.out.setCell (p := ⟨g, i, none⟩) HGE.out (.int .u64 y))
          subst hy
          clear HO HW HS
          go_wp2
          go_roundw
          case rel => exact ⟨j + 1, HJ.out, by go_num, HO10, HW10⟩
          case measure =>
            simp only [intOf]
            have := HJ.out
            omega
        · have hj8 : j = 8 := by omega
          have HO8 := Lib.hid (show ArA .u64 80 wr g 0 (sch1 r (8 * (i + 1))) from by have h := HO.out; rw [show 8 * i + j = 8 * (i + 1) by omega] at h; exact h)
          have d8 : decide ((j : Int) < 8) = false := dF (by omega)
          clear HO hj8 hjl hj
          go_wp2
          go_roundw
          case rel => exact ⟨i + 1, HIL.out, by go_num, HO8, HW⟩
          case measure =>
            simp only [intOf]
            have := HIL.out
            omega
    · have hi16 : i = 16 := by omega
      replace HO := Lib.hid (show ArA .u64 80 wr g 0 (sch2 r 0) from by have h := HO.out; rw [hi16] at h; exact h)
      have d0 : decide ((i : Int) < 16) = false := dF (by omega)
      clear hlt hi hi16
      go_wp2_with fail
      go_loopw [9] (fun x wr => ∃ m t : Nat, m ≤ 64 ∧ x = .int .i64 t ∧ Hid (t = m + 16) ∧ Hid (ArA .u64 80 wr g 0 (sch2 r m)) ∧ Hid (Below w.heap.size w wr)) (fun x _ => 80 - (intOf x).toNat)
      case atStart => exact ⟨0, 16, Nat.zero_le _, rfl, Lib.hid rfl, HO, HW⟩
      case round =>
        clear HO HW
        obtain ⟨m, t, hm, rfl, HT, HO, HW⟩ := hrel
        by_cases hlt : m < 64
        · have ht := HT.out
          have d1 : decide ((t : Int) < 80) = true := dT (by omega)
          have htl : t < 80 := by omega
          obtain ⟨i15, hi15⟩ : ∃ z, m + 1 = z := ⟨_, rfl⟩
          have si15 : (t : Int) - 15 = (i15 : Int) := by omega
          have wi15 : IntKind.i64.wrap (i15 : Int) = (i15 : Int) := by rw [IntKind.wrap_i64]; omega
          have pi15 : (0 : Int) ≤ (i15 : Int) := by omega
          have ri15 : (i15 : Int) < 80 := by omega
          have li15 : i15 < 80 := by omega
          obtain ⟨ci15, -⟩ := HO.out i15 li15
          rw [Nat.zero_add] at ci15
          obtain ⟨xi15, hxi15⟩ : ∃ z, sch2 r m i15 = z := ⟨_, rfl⟩
          rw [hxi15] at ci15
          obtain ⟨i2, hi2⟩ : ∃ z, m + 14 = z := ⟨_, rfl⟩
          have si2 : (t : Int) - 2 = (i2 : Int) := by omega
          have wi2 : IntKind.i64.wrap (i2 : Int) = (i2 : Int) := by rw [IntKind.wrap_i64]; omega
          have pi2 : (0 : Int) ≤ (i2 : Int) := by omega
          have ri2 : (i2 : Int) < 80 := by omega
          have li2 : i2 < 80 := by omega
          obtain ⟨ci2, -⟩ := HO.out i2 li2
          rw [Nat.zero_add] at ci2
          obtain ⟨xi2, hxi2⟩ : ∃ z, sch2 r m i2 = z := ⟨_, rfl⟩
          rw [hxi2] at ci2
          obtain ⟨i7, hi7⟩ : ∃ z, m + 9 = z := ⟨_, rfl⟩
          have si7 : (t : Int) - 7 = (i7 : Int) := by omega
          have wi7 : IntKind.i64.wrap (i7 : Int) = (i7 : Int) := by rw [IntKind.wrap_i64]; omega
          have pi7 : (0 : Int) ≤ (i7 : Int) := by omega
          have ri7 : (i7 : Int) < 80 := by omega
          have li7 : i7 < 80 := by omega
          obtain ⟨ci7, -⟩ := HO.out i7 li7
          rw [Nat.zero_add] at ci7
          obtain ⟨xi7, hxi7⟩ : ∃ z, sch2 r m i7 = z := ⟨_, rfl⟩
          rw [hxi7] at ci7
          obtain ⟨i16, hi16⟩ : ∃ z, m + 0 = z := ⟨_, rfl⟩
          have si16 : (t : Int) - 16 = (i16 : Int) := by omega
          have wi16 : IntKind.i64.wrap (i16 : Int) = (i16 : Int) := by rw [IntKind.wrap_i64]; omega
          have pi16 : (0 : Int) ≤ (i16 : Int) := by omega
          have ri16 : (i16 : Int) < 80 := by omega
          have li16 : i16 < 80 := by omega
          obtain ⟨ci16, -⟩ := HO.out i16 li16
          rw [Nat.zero_add] at ci16
          obtain ⟨xi16, hxi16⟩ : ∃ z, sch2 r m i16 = z := ⟨_, rfl⟩
          rw [hxi16] at ci16
          have HML := Lib.hid (show m < 64 from hlt)
          have pt : (0 : Int) ≤ (t : Int) := by omega
          have rt : (t : Int) < 80 := by omega
          obtain ⟨y, hy⟩ : ∃ z, IntKind.u64.wrap (IntKind.u64.wrap (IntKind.u64.wrap (xi16 + sg0 xi15) + xi7) + sg1 xi2) = z := ⟨_, rfl⟩
          have HS := Lib.hid (show sch2 r (m + 1) = fun j => if j = t then y else sch2 r m j by
            rw [sch2_next, ← ht]
            have z1 : sch2 r m (m + 14) = xi2 := by rw [hi2]; exact hxi2
            have z2 : sch2 r m (m + 9) = xi7 := by rw [hi7]; exact hxi7
            have z3 : sch2 r m (m + 1) = xi15 := by rw [hi15]; exact hxi15
            have z4 : sch2 r m m = xi16 := by have := hxi16; rw [← hi16] at this; exact this
            rw [z1, z2, z3, z4, ← hy, sch_same])
          have HV := Lib.hid (show sch2 r m i15 = xi15 ∧ sch2 r m i2 = xi2 ∧ sch2 r m i7 = xi7 ∧ sch2 r m i16 = xi16 from ⟨hxi15, hxi2, hxi7, hxi16⟩)
          have HY := Lib.hid hy
          clear hm hlt ht hi15 hi2 hi7 hi16 hxi15 hxi2 hxi7 hxi16 hy
          go_upto_region 11 with (fail)
          have RR0 := Lib.hid (fun n => quiet_same (rrot1 xi15 (wr.drewN n)))
          have RR1 := Lib.hid (fun n => quiet_same (rrot8 xi15 (wr.drewN n)))
          go_quiet ((go_at_call 93; first | (with_reducible exact RR0.out _) | (with_reducible exact RR1.out _)))
          rename_i nq
          have hbq := below_drewN (Below.refl wr.heap.size wr) nq
          replace HO := Lib.hid (HO.out.below hbq)
          replace HW := Lib.hid (HW.out.trans (hbq.mono HW.out.size))
          obtain ⟨wq2, hw9⟩ : ∃ z, wr.drewN nq = z := ⟨_, rfl⟩
          rw [hw9] at HO HW ⊢
          clear hbq hw9 ci15 ci2 ci7 ci16 RR0 RR1
          obtain ⟨ci2, -⟩ := HO.out i2 li2
          rw [Nat.zero_add, HV.out.2.1] at ci2
          go_upto_region 12 with (fail)
          have RR0 := Lib.hid (fun n => quiet_same (rrot19 xi2 (wq2.drewN n)))
          have RR1 := Lib.hid (fun n => quiet_same (rrot61 xi2 (wq2.drewN n)))
          go_quiet ((go_at_call 93; first | (with_reducible exact RR0.out _) | (with_reducible exact RR1.out _)))
          rename_i nq
          have hbq := below_drewN (Below.refl wq2.heap.size wq2) nq
          replace HO := Lib.hid (HO.out.below hbq)
          replace HW := Lib.hid (HW.out.trans (hbq.mono HW.out.size))
          obtain ⟨wq3, hw9⟩ : ∃ z, wq2.drewN nq = z := ⟨_, rfl⟩
          rw [hw9] at HO HW ⊢
          clear hbq hw9 ci2 RR0 RR1
          obtain ⟨ci7, -⟩ := HO.out i7 li7
          rw [Nat.zero_add, HV.out.2.2.1] at ci7
          obtain ⟨ci16, -⟩ := HO.out i16 li16
          rw [Nat.zero_add, HV.out.2.2.2] at ci16
          obtain ⟨ct, ft⟩ := HO.out t htl
          rw [Nat.zero_add] at ct ft
          go_upto_region 13 with (fail)
          go_still_tail 18, (by kernel_rfl)
          change wpList _ _ _ _ _ wq3.drew
          have hbd := (Below.refl wq3.heap.size wq3).drew
          replace HO := Lib.hid (HO.out.below hbd)
          replace HW := Lib.hid (HW.out.trans (hbd.mono HW.out.size))
          obtain ⟨wq4, hw6⟩ : ∃ z, wq3.drew = z := ⟨_, rfl⟩
          rw [hw6] at HO HW ⊢
          clear hbd hw6 ci7 ci16 ct ft
          obtain ⟨ct, ft⟩ := HO.out t htl
          rw [Nat.zero_add] at ct ft
          have hy2 := HY.out
          have HO10 := Lib.hid (show ArA .u64 80 (wq4.setCell ⟨g, t, none⟩ (.int .u64 y)) g 0 (sch2 r (m + 1)) from by
            rw [HS.out]
            have h := HO.out.set (i := t) y
            rw [Nat.zero_add] at h
            exact h)
          have HW10 := Lib.hid (HW.out.setCell (p := ⟨g, t, none⟩) HGE.out (.int .u64 y))
          have HHT := Lib.hid HT.out
          subst hy2
          clear HO HW HS HV HY
          go_wp2
          go_roundw
          case rel => exact ⟨m + 1, t + 1, HML.out, by go_num, Lib.hid (by have := HHT.out; omega), HO10, HW10⟩
          case measure =>
            simp only [intOf]
            have := HML.out
            have := HHT.out
            omega
        · have hm64 : m = 64 := by omega
          replace HO := Lib.hid (show ArA .u64 80 wr g 0 (sch2 r 64) from by have h := HO.out; rw [hm64] at h; exact h)
          have d1 : decide ((t : Int) < 80) = false := dF (by have := HT.out; omega)
          clear hlt hm hm64
          go_wp2_with (first | (at_builtin; refine append_cells rfl _ _ 112 114 rfl i0 (.int .u64 0) 8 Try.underlying112 HI.out HZ0.out HZ1.out HZ2.out rfl wr.heap.size _ 0 [] rfl (World.ownsRow_made wr #[] 0 (Nat.le_refl _) (by decide) rfl) (some ⟨q, 0, none⟩) 8 ch (arL .u64 8 h) rfl (fun hx => by cases hx) (((HH.out.below HW.out).below ((Below.refl wr.heap.size wr).alloc (Nat.le_refl _) _)).there64) (oneU64 8 h) (by omega) (by decide) (by simp) ?_))
          intro v4 w4 hown4 hgrow4
          have hb4 := ((Below.refl wr.heap.size wr).alloc (Nat.le_refl _) (.cells #[] 114)).grown hgrow4 (by simp) (fun k hk => by simp [Value.ownBlock] at hk; omega)
          replace HO := Lib.hid (HO.out.below hb4)
          have HWS := Lib.hid HW.out.size
          replace HW := Lib.hid (HW.out.trans (hb4.mono HW.out.size))
          obtain ⟨gv, cv, rfl, hgv, hav⟩ : ∃ gv cv, v4 = .slice (some ⟨gv, 0, none⟩) 8 cv ∧ wr.heap.size ≤ gv ∧ ArA .u64 8 w4 gv 0 h := by
            have hx : w4.ownsRow wr.heap.size 114 1 v4 8 (arL .u64 8 h) := hown4
            rcases hx.2 with ⟨_, h0⟩ | ⟨gv, cap, cu, rfl, hb, _⟩
            · omega
            · exact ⟨gv, cap, rfl, hb, own_arA hx⟩
          have HV := Lib.hid hav
          have HGV := Lib.hid (show w.heap.size ≤ gv by have := HWS.out; omega)
          clear hown4 hgrow4 hb4 hav hgv HWS
          go_wp2_with fail
          go_loopw [12, 13] (fun vv x wr => ∃ (t gv cv : Nat), t ≤ 80 ∧ x = .int .i64 t ∧ vv = .slice (some ⟨gv, 0, none⟩) 8 cv ∧ Hid (w.heap.size ≤ gv) ∧ Hid (ArA .u64 8 wr gv 0 (rnd h (sch2 r 64) t)) ∧ Hid (ArA .u64 80 wr g 0 (sch2 r 64)) ∧ Hid (Below w.heap.size w wr)) (fun _ x _ => 80 - (intOf x).toNat)
          case atStart => exact ⟨0, gv, cv, Nat.zero_le _, rfl, rfl, HGV, HV, HO, HW⟩
          case round =>
            clear HGV HV HO HW
            obtain ⟨t2, gv, cv, ht, rfl, rfl, HGV, HV, HO, HW⟩ := hrel
            by_cases hlt : t2 < 80
            · obtain ⟨v, hv⟩ : ∃ x, rnd h (sch2 r 64) t2 = x := ⟨_, rfl⟩
              have HN := Lib.hid (show rnd h (sch2 r 64) (t2 + 1) = stpF v (kayF t2) (sch2 r 64 t2) by rw [rnd, hv])
              rw [hv] at HV
              obtain ⟨kt, hkt⟩ : ∃ x, kayF t2 = x := ⟨_, rfl⟩
              obtain ⟨wt, hwt⟩ : ∃ x, sch2 r 64 t2 = x := ⟨_, rfl⟩
              rw [hkt, hwt] at HN
              obtain ⟨v0, hv0⟩ : ∃ x, v 0 = x := ⟨_, rfl⟩
              obtain ⟨v1, hv1⟩ : ∃ x, v 1 = x := ⟨_, rfl⟩
              obtain ⟨v2, hv2⟩ : ∃ x, v 2 = x := ⟨_, rfl⟩
              obtain ⟨v3, hv3⟩ : ∃ x, v 3 = x := ⟨_, rfl⟩
              obtain ⟨v4, hv4⟩ : ∃ x, v 4 = x := ⟨_, rfl⟩
              obtain ⟨v5, hv5⟩ : ∃ x, v 5 = x := ⟨_, rfl⟩
              obtain ⟨v6, hv6⟩ : ∃ x, v 6 = x := ⟨_, rfl⟩
              obtain ⟨v7, hv7⟩ : ∃ x, v 7 = x := ⟨_, rfl⟩
              have HVE := Lib.hid (show v 0 = v0 ∧ v 1 = v1 ∧ v 2 = v2 ∧ v 3 = v3 ∧ v 4 = v4 ∧ v 5 = v5 ∧ v 6 = v6 ∧ v 7 = v7 from ⟨hv0, hv1, hv2, hv3, hv4, hv5, hv6, hv7⟩)
              have HVV := Lib.hid (show #[Value.int .u64 (IntKind.u64.wrap (IntKind.u64.wrap (IntKind.u64.wrap (IntKind.u64.wrap (IntKind.u64.wrap (IntKind.u64.wrap (v7 + turn3 v4 14 18 41) + chS v4 v5 v6) + kt) + wt) + turn3 v0 28 34 39) + maS v0 v1 v2)), .int .u64 v0, .int .u64 v1, .int .u64 v2, .int .u64 (IntKind.u64.wrap (v3 + IntKind.u64.wrap (IntKind.u64.wrap (IntKind.u64.wrap (IntKind.u64.wrap (v7 + turn3 v4 14 18 41) + chS v4 v5 v6) + kt) + wt))), .int .u64 v4, .int .u64 v5, .int .u64 v6] = (arL .u64 8 (stpF v kt wt)).toArray by
                rw [← stp_lit]
                simp only [tA, hv0, hv1, hv2, hv3, hv4, hv5, hv6, hv7])
              have HKE := Lib.hid (show kayF t2 = kt ∧ sch2 r 64 t2 = wt from ⟨hkt, hwt⟩)
              have pt : (0 : Int) ≤ (t2 : Int) := by omega
              have rt : (t2 : Int) < 80 := by omega
              have dt : decide ((t2 : Int) < 80) = true := dT rt
              have HTL := Lib.hid hlt
              clear hv hkt hwt hv0 hv1 hv2 hv3 hv4 hv5 hv6 hv7 hlt ht
              obtain ⟨c4, -⟩ := HV.out 4 (by decide)
              rw [Nat.zero_add, HVE.out.2.2.2.2.1] at c4
              go_upto_region 18 with (fail)
              have RR0 := Lib.hid (fun n => quiet_same (rrot14 v4 (wr.drewN n)))
              have RR1 := Lib.hid (fun n => quiet_same (rrot18 v4 (wr.drewN n)))
              have RR2 := Lib.hid (fun n => quiet_same (rrot41 v4 (wr.drewN n)))
              go_quiet ((go_at_call 93; first | (with_reducible exact RR0.out _) | (with_reducible exact RR1.out _) | (with_reducible exact RR2.out _)))
              rename_i nq
              have hbq := below_drewN (Below.refl wr.heap.size wr) nq
              replace HV := Lib.hid (HV.out.below hbq)
              replace HO := Lib.hid (HO.out.below hbq)
              replace HW := Lib.hid (HW.out.trans (hbq.mono HW.out.size))
              obtain ⟨wq5, hw9⟩ : ∃ z, wr.drewN nq = z := ⟨_, rfl⟩
              rw [hw9] at HV HO HW ⊢
              clear hbq hw9 c4  RR0 RR1 RR2
              obtain ⟨c4, -⟩ := HV.out 4 (by decide)
              rw [Nat.zero_add, HVE.out.2.2.2.2.1] at c4
              obtain ⟨c5, -⟩ := HV.out 5 (by decide)
              rw [Nat.zero_add, HVE.out.2.2.2.2.2.1] at c5
              obtain ⟨c6, -⟩ := HV.out 6 (by decide)
              rw [Nat.zero_add, HVE.out.2.2.2.2.2.2.1] at c6
              go_upto_region 19 with (fail)
              go_quiet (fail)
              rename_i nq
              have hbq := below_drewN (Below.refl wq5.heap.size wq5) nq
              replace HV := Lib.hid (HV.out.below hbq)
              replace HO := Lib.hid (HO.out.below hbq)
              replace HW := Lib.hid (HW.out.trans (hbq.mono HW.out.size))
              obtain ⟨wq6, hw9⟩ : ∃ z, wq5.drewN nq = z := ⟨_, rfl⟩
              rw [hw9] at HV HO HW ⊢
              clear hbq hw9 c4 c5 c6 
              obtain ⟨c7, -⟩ := HV.out 7 (by decide)
              rw [Nat.zero_add, HVE.out.2.2.2.2.2.2.2] at c7
              obtain ⟨ck, -⟩ := (HKY.out.below HW.out) t2 HTL.out
              rw [Nat.zero_add, HKE.out.1] at ck
              obtain ⟨cw, -⟩ := HO.out t2 HTL.out
              rw [Nat.zero_add, HKE.out.2] at cw
              go_upto_region 20 with (fail)
              go_quiet (fail)
              rename_i nq
              have hbq := below_drewN (Below.refl wq6.heap.size wq6) nq
              replace HV := Lib.hid (HV.out.below hbq)
              replace HO := Lib.hid (HO.out.below hbq)
              replace HW := Lib.hid (HW.out.trans (hbq.mono HW.out.size))
              obtain ⟨wq7, hw9⟩ : ∃ z, wq6.drewN nq = z := ⟨_, rfl⟩
              rw [hw9] at HV HO HW ⊢
              clear hbq hw9 c7 ck cw
              obtain ⟨c0, -⟩ := HV.out 0 (by decide)
              rw [Nat.zero_add, HVE.out.1] at c0
              go_upto_region 21 with (fail)
              have RR0 := Lib.hid (fun n => quiet_same (rrot28 v0 (wq7.drewN n)))
              have RR1 := Lib.hid (fun n => quiet_same (rrot34 v0 (wq7.drewN n)))
              have RR2 := Lib.hid (fun n => quiet_same (rrot39 v0 (wq7.drewN n)))
              go_quiet ((go_at_call 93; first | (with_reducible exact RR0.out _) | (with_reducible exact RR1.out _) | (with_reducible exact RR2.out _)))
              rename_i nq
              have hbq := below_drewN (Below.refl wq7.heap.size wq7) nq
              replace HV := Lib.hid (HV.out.below hbq)
              replace HO := Lib.hid (HO.out.below hbq)
              replace HW := Lib.hid (HW.out.trans (hbq.mono HW.out.size))
              obtain ⟨wq8, hw9⟩ : ∃ z, wq7.drewN nq = z := ⟨_, rfl⟩
              rw [hw9] at HV HO HW ⊢
              clear hbq hw9 c0  RR0 RR1 RR2
              obtain ⟨c0, -⟩ := HV.out 0 (by decide)
              rw [Nat.zero_add, HVE.out.1] at c0
              obtain ⟨c1, -⟩ := HV.out 1 (by decide)
              rw [Nat.zero_add, HVE.out.2.1] at c1
              obtain ⟨c2, -⟩ := HV.out 2 (by decide)
              rw [Nat.zero_add, HVE.out.2.2.1] at c2
              go_upto_region 22 with (fail)
              go_quiet (fail)
              rename_i nq
              have hbq := below_drewN (Below.refl wq8.heap.size wq8) nq
              replace HV := Lib.hid (HV.out.below hbq)
              replace HO := Lib.hid (HO.out.below hbq)
              replace HW := Lib.hid (HW.out.trans (hbq.mono HW.out.size))
              obtain ⟨wq9, hw9⟩ : ∃ z, wq8.drewN nq = z := ⟨_, rfl⟩
              rw [hw9] at HV HO HW ⊢
              clear hbq hw9 c0 c1 c2 
              obtain ⟨c0, -⟩ := HV.out 0 (by decide)
              rw [Nat.zero_add, HVE.out.1] at c0
              obtain ⟨c1, -⟩ := HV.out 1 (by decide)
              rw [Nat.zero_add, HVE.out.2.1] at c1
              obtain ⟨c2, -⟩ := HV.out 2 (by decide)
              rw [Nat.zero_add, HVE.out.2.2.1] at c2
              obtain ⟨c3, -⟩ := HV.out 3 (by decide)
              rw [Nat.zero_add, HVE.out.2.2.2.1] at c3
              obtain ⟨c4, -⟩ := HV.out 4 (by decide)
              rw [Nat.zero_add, HVE.out.2.2.2.2.1] at c4
              obtain ⟨c5, -⟩ := HV.out 5 (by decide)
              rw [Nat.zero_add, HVE.out.2.2.2.2.2.1] at c5
              obtain ⟨c6, -⟩ := HV.out 6 (by decide)
              rw [Nat.zero_add, HVE.out.2.2.2.2.2.2.1] at c6
              go_upto_region 23 with (fail)
              go_still_tail 28, (by kernel_rfl)
              change wpList _ _ _ _ _ wq9.drew
              have hbd := (Below.refl wq9.heap.size wq9).drew
              replace HV := Lib.hid (HV.out.below hbd)
              replace HO := Lib.hid (HO.out.below hbd)
              replace HW := Lib.hid (HW.out.trans (hbd.mono HW.out.size))
              obtain ⟨wq10, hw6⟩ : ∃ z, wq9.drew = z := ⟨_, rfl⟩
              rw [hw6] at HV HO HW ⊢
              clear hbd hw6 c0 c1 c2 c3 c4 c5 c6 
              have hza := arA_new (k := .u64) (n := 8) (f := stpF v kt wt) wq10 114
              have hbz := (Below.refl wq10.heap.size wq10).alloc (Nat.le_refl _) (.cells (arL .u64 8 (stpF v kt wt)).toArray 114)
              have HSZ := Lib.hid HW.out.size
              have HO11 := Lib.hid (HO.out.below hbz)
              have HW11 := Lib.hid (HW.out.trans (hbz.mono HW.out.size))
              rw [← HVV.out] at hza HO11 HW11
              rw [← HN.out] at hza
              have HV11 := Lib.hid hza
              have HG11 := Lib.hid (show w.heap.size ≤ wq10.heap.size from HSZ.out)
              clear hza hbz HSZ HN HVE HKE HV HO HW HVV
              go_wp2
              go_roundw
              case rel => exact ⟨t2 + 1, wq10.heap.size, 8, HTL.out, by go_num, rfl, HG11, HV11, HO11, HW11⟩
              case measure =>
                simp only [intOf]
                have := HTL.out
                omega
            · have ht80 : t2 = 80 := by omega
              replace HV := Lib.hid (show ArA .u64 8 wr gv 0 (rnd h (sch2 r 64) 80) from by have h1 := HV.out; rw [ht80] at h1; exact h1)
              have d3 : decide ((t2 : Int) < 80) = false := dF (by omega)
              obtain ⟨v, hv⟩ : ∃ x, rnd h (sch2 r 64) 80 = x := ⟨_, rfl⟩
              have HMF := Lib.hid (show ∀ j, j < 8 → mixTo h v 8 j = mixF h r j from fun j hj => by simp only [mixTo, mixF, hv, if_pos hj])
              rw [hv] at HV
              have HO9 := Lib.hid (show Oth w wr q from (Oth.refl w q).below HW.out (Nat.le_refl _))
              have HS9 := Lib.hid (show ArA .u64 8 wr q 0 (mixTo h v 0) from HH.out.below HW.out)
              have HGQ := Lib.hid (show gv ≠ q by have := HGV.out; omega)
              clear hlt ht ht80 hv HO HW HGV
              go_wp2_with fail
              go_loopw [19] (fun x wr => ∃ k : Nat, k ≤ 8 ∧ x = .int .i64 k ∧ Hid (ArA .u64 8 wr q 0 (mixTo h v k)) ∧ Hid (ArA .u64 8 wr gv 0 v) ∧ Hid (Oth w wr q)) (fun x _ => 8 - (intOf x).toNat)
              case atStart => exact ⟨0, Nat.zero_le _, rfl, HS9, HV, HO9⟩
              case round =>
                clear HS9 HV HO9
                obtain ⟨k, hk, rfl, HS9, HV, HO9⟩ := hrel
                by_cases hlt : k < 8
                · obtain ⟨c0, f0⟩ := HS9.out k hlt
                  rw [Nat.zero_add] at c0 f0
                  obtain ⟨x, hx⟩ : ∃ z, mixTo h v k k = z := ⟨_, rfl⟩
                  rw [hx] at c0
                  obtain ⟨c1, -⟩ := HV.out k hlt
                  rw [Nat.zero_add] at c1
                  obtain ⟨vk, hvk⟩ : ∃ z, v k = z := ⟨_, rfl⟩
                  rw [hvk] at c1
                  have HX := Lib.hid (show mixTo h v (k + 1) = fun j => if j = k then IntKind.u64.wrap (x + vk) else mixTo h v k j by rw [mixTo_next, hx, hvk])
                  have HK := Lib.hid hlt
                  have pk : (0 : Int) ≤ (k : Int) := by omega
                  have rk : (k : Int) < 8 := by omega
                  clear hx hvk
                  go_upto_region 27 with (fail)
                  go_still_tail 10, (by kernel_rfl)
                  change wpList _ _ _ _ _ wr.drew
                  have hbd := (Below.refl wr.heap.size wr).drew
                  replace HS9 := Lib.hid (HS9.out.below hbd)
                  replace HV := Lib.hid (HV.out.below hbd)
                  replace HO9 := Lib.hid (HO9.out.below hbd HO9.out.size)
                  obtain ⟨wq11, hw6⟩ : ∃ z, wr.drew = z := ⟨_, rfl⟩
                  rw [hw6] at HS9 HV HO9 ⊢
                  clear hbd hw6 c0 f0 c1
                  obtain ⟨c0, f0⟩ := HS9.out k HK.out
                  rw [Nat.zero_add] at c0 f0
                  have HS10 := Lib.hid (show ArA .u64 8 (wq11.setCell ⟨q, k, none⟩ (.int .u64 (IntKind.u64.wrap (x + vk)))) q 0 (mixTo h v (k + 1)) from by
                    rw [HX.out]
                    have h1 := HS9.out.set (i := k) (IntKind.u64.wrap (x + vk))
                    rw [Nat.zero_add] at h1
                    exact h1)
                  have HV10 := Lib.hid (HV.out.other (p := ⟨q, k, none⟩) (fun e => HGQ.out e.symm) (.int .u64 (IntKind.u64.wrap (x + vk))))
                  have HO10 := Lib.hid (HO9.out.set k (.int .u64 (IntKind.u64.wrap (x + vk))))
                  clear HS9 HV HO9 HX
                  go_wp2
                  go_roundw
                  case rel => exact ⟨k + 1, HK.out, by go_num, HS10, HV10, HO10⟩
                  case measure =>
                    simp only [intOf]
                    have := HK.out
                    omega
                · have hk8 : k = 8 := by omega
                  have HSF := Lib.hid (show ArA .u64 8 wr q 0 (mixF h r) from by
                    have h1 := HS9.out
                    rw [hk8] at h1
                    exact h1.congr HMF.out)
                  have d0 := dF (p := k < 8) hlt
                  have d0i : decide ((k : Int) < 8) = false := dF (by omega)
                  clear hlt hk hk8 HS9 HV
                  go_wp2
                  refine bodyPost_end (v := .tuple #[]) (by simp [results, Try.results63, go_sem]) rfl ⟨rfl, HSF.out, HO9.out⟩
end Go.Proofs.Ytocfphijheidbaa
