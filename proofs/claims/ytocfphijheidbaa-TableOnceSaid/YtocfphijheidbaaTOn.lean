/- The walk of TableOnce (written by mkton.py). -/
import Derived.Test.YtocfphijheidbaaTbY
import Derived.Deep.CutBlock
namespace Go.Proofs.Ytocfphijheidbaa
open Go.RowKit

set_option maxRecDepth 100000 in
set_option maxHeartbeats 16000000 in
theorem walkOnce (seed most : Int) (a : Option Addr) (n cp : Nat) (L : List O20) (w : World) (hL : Row20 w a n L) (lL : n ≤ 9223372036854775807) :
    Calls Try.prog 10 #[.int .i64 seed, .int .i64 most, .slice a n cp] w fun e w' => e = .returned (.bool true) ∧ Below w.heap.size w w' := by
  have HL := Lib.hid hL
  have HLL := Lib.hid lL
  clear hL
  go_enter Try.func10, Try.ntmps10
  go_wp2_with fail
  refine (first20 w).mono ?_; rintro e w1 ⟨rfl, hb1⟩
  have HB1 := Lib.hid hb1
  clear hb1
  by_cases hs : seed < 0 ∨ most < 1 ∨ 1000 < most
  · go_wp2_with fail
    refine (newT_no seed most w1 hs).mono ?_; rintro e w2 ⟨rfl, rfl⟩
    clear hs
    go_wp2_with fail
    refine (first20 w1).mono ?_; rintro e wz ⟨rfl, hbz⟩
    have HBZ := Lib.hid (HB1.out.trans (hbz.mono HB1.out.size))
    clear hbz
    go_wp2
    go_ret
    exact ⟨rfl, HBZ.out⟩
  · go_wp2_with fail
    refine (newT_yes seed most w1 ⟨by omega, by omega, by omega⟩).mono ?_; rintro e w2 ⟨q, rfl, ht2, hq2, hb2⟩
    have HMO := Lib.hid (show 1 ≤ most ∧ most ≤ 1000 by omega)
    have HO2 := Lib.hid (show OneT w w2 q [q] ⟨most, seed % 4294967296, []⟩ from ⟨ht2, fun x hx => by simp at hx; have := HB1.out.size; omega, HB1.out.trans (hb2.mono HB1.out.size)⟩)
    clear ht2 hq2 hb2 hs
    go_wp2_with fail
    refine (few20 a n cp L w2 (HL.out.below HO2.out.bel) lL).mono ?_; rintro e w3 ⟨he, hb3⟩
    have HO3 := Lib.hid (HO2.out.below hb3)
    clear hb3 HO2
    rcases he with rfl | ⟨rfl, hn, hj⟩
    · skip
      go_wp2_with fail
      refine (first20 w3).mono ?_; rintro e wz ⟨rfl, hbz⟩
      have HBZ := Lib.hid (HO3.out.bel.trans (hbz.mono HO3.out.bel.size))
      clear hbz
      go_wp2
      go_ret
      exact ⟨rfl, HBZ.out⟩
      
    · have HN := Lib.hid hn
      have HJ := Lib.hid hj
      clear hj lL
      go_wp2_with fail
      go_loopw [9] (fun i wr => ∃ (k : Nat) (c : List Nat) (s : TbP), k ≤ n ∧ i = .int .i64 k ∧ Hid (St20 w wr q c most k s)) (fun i _ => n - (intOf i).toNat)
      case atStart => exact ⟨0, [q], _, Nat.zero_le _, rfl, Lib.hid ⟨HO3.out, rfl, WsOk.nil, by have := HMO.out; simp; omega, Nat.le_refl _⟩⟩
      case round =>
        obtain ⟨k, c, s, hk, rfl, HO⟩ := hrel
        clear HO3
        by_cases hlt : k < n
        · have dd : decide ((k : Int) < (n : Int)) = true := dT (by omega)
          have dn : decide (k < n) = true := dT hlt
          obtain ⟨b, off, rfl, ho⟩ := (HL.out.below HO.out.one.bel).at k hlt
          obtain ⟨o, hoe⟩ : ∃ z, L.getD k o20D = z := ⟨_, rfl⟩
          rw [hoe] at ho
          have HJN := Lib.hid (show o.J.length ≤ 100 from by rw [← hoe]; exact HJ.out k hlt)
          obtain ⟨ja, jc, qa, qc, na, nc, sa, sc, xa, xc, h0, h1, -, -⟩ := ho
          obtain ⟨OC, hOC⟩ : ∃ z, o20L o ja jc ++ msgL o.m qa qc na nc sa sc xa xc = z := ⟨_, rfl⟩
          rw [hOC] at h0
          have HRG := Lib.hid h0
          have HOL := Lib.hid (show OC.length = 27 from by rw [← hOC]; rfl)
          have HOO := Lib.hid (show ∀ u ∈ OC, u.oneCell' = true from by rw [← hOC]; simp [o20L, msgL, Value.oneCell'])
          obtain ⟨kd, hkd⟩ : ∃ z, o.kind = z := ⟨_, rfl⟩
          obtain ⟨nw, hnw⟩ : ∃ z, o.now = z := ⟨_, rfl⟩
          obtain ⟨jb, hjb⟩ : ∃ z, o.job = z := ⟨_, rfl⟩
          obtain ⟨wh, hwh⟩ : ∃ z, o.which = z := ⟨_, rfl⟩
          obtain ⟨tx, htx⟩ : ∃ z, o.tx = z := ⟨_, rfl⟩
          obtain ⟨tc, htc⟩ : ∃ z, o.tcp = z := ⟨_, rfl⟩
          obtain ⟨qn, hqn⟩ : ∃ z, o.q.name = z := ⟨_, rfl⟩
          obtain ⟨qt, hqt⟩ : ∃ z, o.q.ty = z := ⟨_, rfl⟩
          obtain ⟨qk, hqk⟩ : ∃ z, o.q.cl = z := ⟨_, rfl⟩
          obtain ⟨J, hJ0⟩ : ∃ z, o.J = z := ⟨_, rfl⟩
          have HF := Lib.hid (show OC[0]? = some (.int .i64 kd) ∧ OC[1]? = some (.int .i64 nw) ∧ OC[2]? = some (.int .i64 jb) ∧ OC[3]? = some (.int .i64 wh) ∧ OC[5]? = some (.string tx) ∧ OC[6]? = some (.bool tc) ∧ OC[7]? = some (.string qn) ∧ OC[8]? = some (.int .i64 qt) ∧ OC[9]? = some (.int .i64 qk) ∧ OC[10]? = some (.slice ja J.length jc) from by rw [← hOC, ← hkd, ← hnw, ← hjb, ← hwh, ← htx, ← htc, ← hqn, ← hqt, ← hqk, ← hJ0]; exact ⟨rfl, rfl, rfl, rfl, rfl, rfl, rfl, rfl, rfl, rfl⟩)
          rw [hJ0] at HJN h1
          obtain ⟨jn, hjn⟩ : ∃ z, J.length = z := ⟨_, rfl⟩
          rw [hjn] at HJN HF h1
          have HLT := Lib.hid hlt
          have hba := (Below.refl wr.heap.size wr).alloc (Nat.le_refl _) (.cells #[.int .i64 0, .int .i64 0, .int .i64 0, .int .i64 0, .int .i64 0, .string ⟨#[]⟩, .bool false, .string ⟨#[]⟩, .int .i64 0, .int .i64 0, .slice none 0 0, .int .i64 0, .int .i64 0, .string ⟨#[]⟩, .bool false, .int .i64 0, .int .i64 0, .int .i64 0, .bool false, .bool false, .bool false, .bool false, .bool false, .slice none 0 0, .slice none 0 0, .slice none 0 0, .slice none 0 0] 77)
          have y0 := HeldT.new wr #[.int .i64 0, .int .i64 0, .int .i64 0, .int .i64 0, .int .i64 0, .string ⟨#[]⟩, .bool false, .string ⟨#[]⟩, .int .i64 0, .int .i64 0, .slice none 0 0, .int .i64 0, .int .i64 0, .string ⟨#[]⟩, .bool false, .int .i64 0, .int .i64 0, .int .i64 0, .bool false, .bool false, .bool false, .bool false, .bool false, .slice none 0 0, .slice none 0 0, .slice none 0 0, .slice none 0 0] 77
          obtain ⟨u1, hu1⟩ : ∃ z, wr.alloc (.cells #[.int .i64 0, .int .i64 0, .int .i64 0, .int .i64 0, .int .i64 0, .string ⟨#[]⟩, .bool false, .string ⟨#[]⟩, .int .i64 0, .int .i64 0, .slice none 0 0, .int .i64 0, .int .i64 0, .string ⟨#[]⟩, .bool false, .int .i64 0, .int .i64 0, .int .i64 0, .bool false, .bool false, .bool false, .bool false, .bool false, .slice none 0 0, .slice none 0 0, .slice none 0 0, .slice none 0 0] 77) = z := ⟨_, rfl⟩
          rw [hu1] at hba y0
          have HTH5 := Lib.hid (show (wr.alloc (.cells #[.int .i64 0, .int .i64 0, .int .i64 0, .int .i64 0, .int .i64 0, .string ⟨#[]⟩, .bool false, .string ⟨#[]⟩, .int .i64 0, .int .i64 0, .slice none 0 0, .int .i64 0, .int .i64 0, .string ⟨#[]⟩, .bool false, .int .i64 0, .int .i64 0, .int .i64 0, .bool false, .bool false, .bool false, .bool false, .bool false, .slice none 0 0, .slice none 0 0, .slice none 0 0, .slice none 0 0] 77)).there wr.heap.size 0 (OC : List Value).toArray.size from by
            rw [hu1]
            intro j hj
            rw [Nat.zero_add]
            have hj9 : j < ([.int .i64 0, .int .i64 0, .int .i64 0, .int .i64 0, .int .i64 0, .string ⟨#[]⟩, .bool false, .string ⟨#[]⟩, .int .i64 0, .int .i64 0, .slice none 0 0, .int .i64 0, .int .i64 0, .string ⟨#[]⟩, .bool false, .int .i64 0, .int .i64 0, .int .i64 0, .bool false, .bool false, .bool false, .bool false, .bool false, .slice none 0 0, .slice none 0 0, .slice none 0 0, .slice none 0 0] : List Value).length := by have h9 : j < (OC : List Value).length := hj; rw [HOL.out] at h9; exact h9
            obtain ⟨u, hu⟩ : ∃ u, ([.int .i64 0, .int .i64 0, .int .i64 0, .int .i64 0, .int .i64 0, .string ⟨#[]⟩, .bool false, .string ⟨#[]⟩, .int .i64 0, .int .i64 0, .slice none 0 0, .int .i64 0, .int .i64 0, .string ⟨#[]⟩, .bool false, .int .i64 0, .int .i64 0, .int .i64 0, .bool false, .bool false, .bool false, .bool false, .bool false, .slice none 0 0, .slice none 0 0, .slice none 0 0, .slice none 0 0] : List Value)[j]? = some u := ⟨_, List.getElem?_eq_getElem hj9⟩
            obtain ⟨h1, h2⟩ := y0.1 j u hu
            exact ⟨by rw [h1]; rfl, h2⟩)
          have HOP := Lib.hid (show HeldT wr.heap.size OC (u1.setCells wr.heap.size 0 OC) from y0.into (by rw [HOL.out]; rfl))
          have hb5 := tb_sets hba (b := wr.heap.size) (Nat.le_refl _) 0 OC
          obtain ⟨w5, hw5⟩ : ∃ z, u1.setCells wr.heap.size 0 OC = z := ⟨_, rfl⟩
          rw [hw5] at HOP hb5
          have HW5 := Lib.hid (show (wr.alloc (.cells #[.int .i64 0, .int .i64 0, .int .i64 0, .int .i64 0, .int .i64 0, .string ⟨#[]⟩, .bool false, .string ⟨#[]⟩, .int .i64 0, .int .i64 0, .slice none 0 0, .int .i64 0, .int .i64 0, .string ⟨#[]⟩, .bool false, .int .i64 0, .int .i64 0, .int .i64 0, .bool false, .bool false, .bool false, .bool false, .bool false, .slice none 0 0, .slice none 0 0, .slice none 0 0, .slice none 0 0] 77)).setCells wr.heap.size 0 (OC : List Value).toArray.toList = w5 from by rw [hu1]; exact hw5)
          have hsz5 := hba.size
          obtain ⟨gO, hgO⟩ : ∃ z, wr.heap.size = z := ⟨_, rfl⟩
          have HG5 := Lib.hid hgO
          rw [hgO] at HOP
          clear hba y0 hu1 hw5 hgO hsz5
          have HO5 := Lib.hid (HO.out.below hb5)
          have HJR := Lib.hid (h1.below hb5)
          have HGO := Lib.hid (show gO ∉ c from fun e => by have := HO.out.one.tb.lt gO e; have := HG5.out; omega)
          have HBG := Lib.hid (show w.heap.size ≤ gO from by rw [← HG5.out]; exact HO.out.one.bel.size)
          have HLT := Lib.hid hlt
          have i1 : (0 : Int) ≤ (k : Int) := by omega
          have i2 : (k : Int) < (n : Int) := by omega
          clear hOC hoe h0 h1 hkd hnw hjb hwh htx htc hqn hqt hqk hJ0 hjn hb5 hlt hk HO
          go_upto_region 9 with (fail)
          go_upto_region 10 with (first | (refine wpList_load_mid rfl 77 (.tmp 61) rfl _ _ rfl _ _ HRG.out Try.underlying77 rfl (by rw [HOL.out]; kernel_rfl) ?_) | (refine wpList_store_mid rfl 77 (.tmp 10) (.tmp 62) rfl _ _ _ rfl rfl HTH5.out (by show _ = some OC.length; rw [HOL.out]; kernel_rfl) (all_oneCell_toArray HOO.out) ?_; rw [HW5.out, HG5.out]))
          clear HTH5 HW5 HG5 HRG HOO i1 i2
          have x0 := (HOP.out.1 0 _ HF.out.1).1
          go_upto_block 2 with (fail)
          go_cut [] (fun wx => ∃ (c' : List Nat) (s' : TbP), Hid (St20 w wx q c' most (k + 1) s') ∧ Hid (HeldT gO OC wx) ∧ Hid (gO ∉ c'))
          case rest =>
           as_aux_lemma =>
            obtain ⟨c2, s2, HO, HP, HGO2⟩ := hcut
            clear HO5 HOP HGO HJR
            have hl5 := HO.out.few5 HMO.out.2
            go_wp2_with fail
            refine (waits_any c2 q s2 wc HO.out.one.tb (by omega)).mono ?_; rintro e w6 ⟨vE, rfl, hvE, hbE⟩
            obtain ⟨va, vc, rfl, -, -⟩ := cellsK_own hvE
            have HO6 := Lib.hid (HO.out.below hbE)
            have HP6 := Lib.hid (HP.out.below hbE)
            obtain ⟨M, hM⟩ : ∃ z, s2.ws.length = z := ⟨_, rfl⟩
            obtain ⟨B6, hB6⟩ : ∃ z, wc.heap.size = z := ⟨_, rfl⟩
            rw [hM, hB6] at hvE
            rw [hM] at hl5 ⊢
            have HM := Lib.hid hM
            have HV := Lib.hid hvE
            have d1 : decide (most < (M : Int)) = false := dF (by have := HO.out.len; omega)
            clear hM hB6 hvE hbE HO HP
            go_wp2_with fail
            go_loopw [16] (fun i wr => ∃ t : Nat, t ≤ M ∧ i = .int .i64 t ∧ Hid (Below w6.heap.size w6 wr)) (fun i _ => M - (intOf i).toNat)
            case atStart => exact ⟨0, Nat.zero_le _, rfl, Lib.hid (Below.refl _ _)⟩
            case round =>
              obtain ⟨t, ht, rfl, HBK⟩ := hrel
              by_cases htx : t < M
              · have dd2 : decide ((t : Int) < (M : Int)) = true := dT (by omega)
                have dn2 : decide (t < M) = true := dT htx
                have HTX := Lib.hid htx
                clear htx ht
                go_wp2_with fail
                go_loopw [17] (fun i wr => ∃ u : Nat, u ≤ t ∧ i = .int .i64 u ∧ Hid (Below w6.heap.size w6 wr)) (fun i _ => t - (intOf i).toNat)
                case atStart => exact ⟨0, Nat.zero_le _, rfl, HBK⟩
                case round =>
                  obtain ⟨u, hu, rfl, HBU⟩ := hrel
                  clear HBK
                  by_cases hux : u < t
                  · have dd3 : decide ((u : Int) < (t : Int)) = true := dT (by omega)
                    have dn3 : decide (u < t) = true := dT hux
                    have HUX := Lib.hid hux
                    have HVU := Lib.hid (own_below' HV.out HBU.out)
                    obtain ⟨gv, c', e, -, hgv⟩ := own_shp' HVU.out (by have := HTX.out; omega)
                    injection e with e1 _ e3
                    subst e1
                    subst e3
                    obtain ⟨ra, hra⟩ : ∃ r, s2.ws[t]? = some r := ⟨_, List.getElem?_eq_getElem (by rw [HM.out]; exact HTX.out)⟩
                    obtain ⟨rb, hrb⟩ : ∃ r, s2.ws[u]? = some r := ⟨_, List.getElem?_eq_getElem (by rw [HM.out]; have := HTX.out; omega)⟩
                    have hne := sameM_no (HO6.out.ok.ne hra hrb (by omega))
                    have A0 := row_cellsW HVU.out hra
                    have B0 := row_cellsW HVU.out hrb
                    obtain ⟨⟨ai, ap, ax, at'⟩, _, _, _⟩ := ra
                    obtain ⟨⟨bi, bp, bx, bt⟩, _, _, _⟩ := rb
                    have HNE := Lib.hid (show sameM ⟨ai, ap, ax, at'⟩ ⟨bi, bp, bx, bt⟩ = false from hne)
                    have HAB := Lib.hid (show (wr.cell? ⟨gv, t * 9, none⟩ = some (.int .i64 ai) ∧ wr.cell? ⟨gv, t * 9 + 1, none⟩ = some (.int .i64 ap) ∧ wr.cell? ⟨gv, t * 9 + 2, none⟩ = some (.string ax) ∧ wr.cell? ⟨gv, t * 9 + 3, none⟩ = some (.bool at')) ∧ (wr.cell? ⟨gv, u * 9, none⟩ = some (.int .i64 bi) ∧ wr.cell? ⟨gv, u * 9 + 1, none⟩ = some (.int .i64 bp) ∧ wr.cell? ⟨gv, u * 9 + 2, none⟩ = some (.string bx) ∧ wr.cell? ⟨gv, u * 9 + 3, none⟩ = some (.bool bt)) from ⟨⟨A0.1, A0.2.1, A0.2.2.1, A0.2.2.2.1⟩, B0.1, B0.2.1, B0.2.2.1, B0.2.2.2.1⟩)
                    have i1 : (0 : Int) ≤ (t : Int) := by omega
                    have i2 : (t : Int) < (M : Int) := by have := HTX.out; omega
                    have i3 : (0 : Int) ≤ (u : Int) := by omega
                    have i4 : (u : Int) < (M : Int) := by omega
                    have j1 : IntKind.i64.wrap ((u : Int) + 1) = ((u + 1 : Nat) : Int) := by rw [IntKind.wrap_i64]; have := HTX.out; omega
                    clear hra hrb hne A0 B0 hux hu hgv
                    go_upto_region 32 with (fail)
                    refine wp_region_held_drew (S := (fun wx => (wx.cell? ⟨gv, t * 9, none⟩ = some (.int .i64 ai) ∧ wx.cell? ⟨gv, t * 9 + 1, none⟩ = some (.int .i64 ap) ∧ wx.cell? ⟨gv, t * 9 + 2, none⟩ = some (.string ax) ∧ wx.cell? ⟨gv, t * 9 + 3, none⟩ = some (.bool at')) ∧ (wx.cell? ⟨gv, u * 9, none⟩ = some (.int .i64 bi) ∧ wx.cell? ⟨gv, u * 9 + 1, none⟩ = some (.int .i64 bp) ∧ wx.cell? ⟨gv, u * 9 + 2, none⟩ = some (.string bx) ∧ wx.cell? ⟨gv, u * 9 + 3, none⟩ = some (.bool bt)))) (by kernel_rfl) (HAB.out) (fun hHeld => ?_)
                    have hb := (Below.refl wr.heap.size wr).drew
                    replace HBU := Lib.hid (HBU.out.trans (hb.mono HBU.out.size))
                    obtain ⟨y0, hwd⟩ : ∃ z, wr.drew = z := ⟨_, rfl⟩
                    rw [hwd] at HBU hHeld ⊢
                    clear hwd hb
                    refine wpAnyH_take (i := 0) (oi := { dst := some 132, op := Go.Op.move (Go.Operand.tmp 15), type := 102, pos := "law.go:158", after := #[], guard := none }) (v := ?v0_510101) rfl (by kernel_rfl) (by kernel_rfl) (by kernel_rfl) (fun _ _ _ h => h) (Or.inl ⟨by rfl, ?y0_510101⟩) hHeld ?r0_510101
                    case y0_510101 => intro w hSw; (try dsimp only at hSw); go_simp; try with_reducible rfl
                    try simp only [Act.put, List.setIfInBounds_toArray, List.set_cons_zero, List.set_cons_succ]
                    refine wpAnyH_take (i := 1) (oi := { dst := some 133, op := Go.Op.move (Go.Operand.tmp 16), type := 3, pos := "law.go:158", after := #[], guard := none }) (v := ?v1_510101) rfl (by kernel_rfl) (by kernel_rfl) (by kernel_rfl) (fun _ _ _ h => h) (Or.inl ⟨by rfl, ?y1_510101⟩) hHeld ?r1_510101
                    case y1_510101 => intro w hSw; (try dsimp only at hSw); go_simp; try with_reducible rfl
                    try simp only [Act.put, List.setIfInBounds_toArray, List.set_cons_zero, List.set_cons_succ]
                    refine wpAnyH_take (i := 2) (oi := { dst := some 134, op := Go.Op.indexAddr 102 (Go.Operand.tmp 132) (Go.Operand.tmp 133), type := 0, pos := "law.go:158", after := #[{ on := 0, ground := Go.Ground.data }, { on := 1, ground := Go.Ground.data }], guard := none }) (v := ?v2_510101) rfl (by kernel_rfl) (by kernel_rfl) (by kernel_rfl) (fun _ _ _ h => h) (Or.inl ⟨by rfl, ?y2_510101⟩) hHeld ?r2_510101
                    case y2_510101 => intro w hSw; (try dsimp only at hSw); go_simp; try with_reducible rfl
                    try simp only [Act.put, List.setIfInBounds_toArray, List.set_cons_zero, List.set_cons_succ]
                    refine wpAnyH_take (i := 3) (oi := { dst := some 135, op := Go.Op.fieldAddr 79 (Go.Operand.tmp 134) 0, type := 0, pos := "law.go:158", after := #[{ on := 2, ground := Go.Ground.data }], guard := none }) (v := ?v3_510101) rfl (by kernel_rfl) (by kernel_rfl) (by kernel_rfl) (fun _ _ _ h => h) (Or.inl ⟨by rfl, ?y3_510101⟩) hHeld ?r3_510101
                    case y3_510101 => intro w hSw; (try dsimp only at hSw); go_simp; try with_reducible rfl
                    try simp only [Act.put, List.setIfInBounds_toArray, List.set_cons_zero, List.set_cons_succ]
                    refine wpAnyH_take (i := 4) (oi := { dst := some 136, op := Go.Op.load 69 (Go.Operand.tmp 135), type := 69, pos := "law.go:158", after := #[{ on := 3, ground := Go.Ground.data }], guard := none }) (v := ?v4_510101) rfl (by kernel_rfl) (by kernel_rfl) (by kernel_rfl) (fun _ _ _ h => h) (Or.inl ⟨by rfl, ?y4_510101⟩) hHeld ?r4_510101
                    case y4_510101 => intro w hSw; (try dsimp only at hSw); obtain ⟨⟨t0, t1, t2, t3⟩, t4, t5, t6, t7⟩ := hSw; go_simp; try with_reducible rfl
                    try simp only [Act.put, List.setIfInBounds_toArray, List.set_cons_zero, List.set_cons_succ]
                    refine wpAnyH_take (i := 5) (oi := { dst := some 137, op := Go.Op.move (Go.Operand.tmp 15), type := 102, pos := "law.go:158", after := #[], guard := none }) (v := ?v5_510101) rfl (by kernel_rfl) (by kernel_rfl) (by kernel_rfl) (fun _ _ _ h => h) (Or.inl ⟨by rfl, ?y5_510101⟩) hHeld ?r5_510101
                    case y5_510101 => intro w hSw; (try dsimp only at hSw); go_simp; try with_reducible rfl
                    try simp only [Act.put, List.setIfInBounds_toArray, List.set_cons_zero, List.set_cons_succ]
                    refine wpAnyH_take (i := 6) (oi := { dst := some 138, op := Go.Op.move (Go.Operand.tmp 17), type := 3, pos := "law.go:158", after := #[], guard := none }) (v := ?v6_510101) rfl (by kernel_rfl) (by kernel_rfl) (by kernel_rfl) (fun _ _ _ h => h) (Or.inl ⟨by rfl, ?y6_510101⟩) hHeld ?r6_510101
                    case y6_510101 => intro w hSw; (try dsimp only at hSw); go_simp; try with_reducible rfl
                    try simp only [Act.put, List.setIfInBounds_toArray, List.set_cons_zero, List.set_cons_succ]
                    refine wpAnyH_take (i := 7) (oi := { dst := some 139, op := Go.Op.indexAddr 102 (Go.Operand.tmp 137) (Go.Operand.tmp 138), type := 0, pos := "law.go:158", after := #[{ on := 5, ground := Go.Ground.data }, { on := 6, ground := Go.Ground.data }], guard := none }) (v := ?v7_510101) rfl (by kernel_rfl) (by kernel_rfl) (by kernel_rfl) (fun _ _ _ h => h) (Or.inl ⟨by rfl, ?y7_510101⟩) hHeld ?r7_510101
                    case y7_510101 => intro w hSw; (try dsimp only at hSw); go_simp; try with_reducible rfl
                    try simp only [Act.put, List.setIfInBounds_toArray, List.set_cons_zero, List.set_cons_succ]
                    refine wpAnyH_take (i := 8) (oi := { dst := some 140, op := Go.Op.fieldAddr 79 (Go.Operand.tmp 139) 0, type := 0, pos := "law.go:158", after := #[{ on := 7, ground := Go.Ground.data }], guard := none }) (v := ?v8_510101) rfl (by kernel_rfl) (by kernel_rfl) (by kernel_rfl) (fun _ _ _ h => h) (Or.inl ⟨by rfl, ?y8_510101⟩) hHeld ?r8_510101
                    case y8_510101 => intro w hSw; (try dsimp only at hSw); go_simp; try with_reducible rfl
                    try simp only [Act.put, List.setIfInBounds_toArray, List.set_cons_zero, List.set_cons_succ]
                    refine wpAnyH_take (i := 9) (oi := { dst := some 141, op := Go.Op.load 69 (Go.Operand.tmp 140), type := 69, pos := "law.go:158", after := #[{ on := 8, ground := Go.Ground.data }], guard := none }) (v := ?v9_510101) rfl (by kernel_rfl) (by kernel_rfl) (by kernel_rfl) (fun _ _ _ h => h) (Or.inl ⟨by rfl, ?y9_510101⟩) hHeld ?r9_510101
                    case y9_510101 => intro w hSw; (try dsimp only at hSw); obtain ⟨⟨t0, t1, t2, t3⟩, t4, t5, t6, t7⟩ := hSw; go_simp; try with_reducible rfl
                    try simp only [Act.put, List.setIfInBounds_toArray, List.set_cons_zero, List.set_cons_succ]
                    refine wpAnyH_ready (rs := [10]) (by kernel_rfl) (by simp) ?_
                    refine AllReadyH.cons (o := { dst := some 142, op := Go.Op.call { callee := Go.Callee.value (Go.Operand.func 56), args := #[Go.Operand.tmp 136, Go.Operand.tmp 141], argTypes := #[69, 69] }, type := 4, pos := "law.go:158", after := #[{ on := 4, ground := Go.Ground.data }, { on := 9, ground := Go.Ground.data }], guard := none }) rfl (fun K hK => ?_) AllReadyH.nil
                    go_simp
                    refine (same_mark ai ap ax at' bi bp bx bt y0).mono ?_; rintro e y1 ⟨rfl, hb⟩
                    rw [HNE.out]
                    replace HBU := Lib.hid (HBU.out.trans (hb.mono HBU.out.size))
                    refine hK.out _ _ (⟨⟨cell_later hb hHeld.1.1, cell_later hb hHeld.1.2.1, cell_later hb hHeld.1.2.2.1, cell_later hb hHeld.1.2.2.2⟩, cell_later hb hHeld.2.1, cell_later hb hHeld.2.2.1, cell_later hb hHeld.2.2.2.1, cell_later hb hHeld.2.2.2.2⟩) (fun hHeld2 => ?_)
                    clear hK K hHeld
                    have hHeld := hHeld2
                    clear hHeld2
                    try simp only [Act.put, List.setIfInBounds_toArray, List.set_cons_zero, List.set_cons_succ]
                    refine wpAnyH_done (by kernel_rfl) ?_ _
                    clear hHeld hb
                    go_wp2
                    go_roundw
                    case rel => exact ⟨u + 1, HUX.out, by go_num, HBU⟩
                    case measure =>
                      simp only [intOf]
                      have := HUX.out
                      omega
                  · have dd3 : decide ((u : Int) < (t : Int)) = false := dF (by omega)
                    have dn3 : decide (u < t) = false := dF hux
                    have i2 : (t : Int) < (M : Int) := by have := HTX.out; omega
                    clear hux hu
                    go_wp2
                    go_roundw
                    case rel => exact ⟨t + 1, HTX.out, by go_num, HBU⟩
                    case measure =>
                      simp only [intOf]
                      have := HTX.out
                      omega
              · have dd2 : decide ((t : Int) < (M : Int)) = false := dF (by omega)
                have dn2 : decide (t < M) = false := dF htx
                have HO7 := Lib.hid (HO6.out.below HBK.out)
                have HP7 := Lib.hid (HP6.out.below HBK.out)
                have HV7 := Lib.hid (own_below' HV.out HBK.out)
                clear htx ht HO6 HP6 HV HBK
                have x0 := (HP7.out.1 0 _ HF.out.1).1
                have x3 := (HP7.out.1 3 _ HF.out.2.2.2.1).1
                go_upto_region 34 with (fail)
                by_cases hbad : ¬ (kd = 1 ∧ 0 ≤ wh ∧ wh < (M : Int))
                · have hd : ((kd != 1) = true) ∨ ((kd != 1) = false ∧ decide (wh < 0) = true) ∨ ((kd != 1) = false ∧ decide (wh < 0) = false ∧ decide ((M : Int) ≤ wh) = true) := by
                    simp only [bne_iff_ne, ne_eq, bne_eq_false_iff_eq, decide_eq_true_eq, decide_eq_false_iff_not]
                    omega
                  clear hbad
                  have ik : IntKind.i64.wrap ((k : Int) + 1) = ((k + 1 : Nat) : Int) := by rw [IntKind.wrap_i64]; have := HLT.out; omega
                  rcases hd with d2 | ⟨d2, d3⟩ | ⟨d2, d3, d4⟩
                  all_goals
                    go_wp2
                    go_roundw
                    case rel => exact ⟨k + 1, c2, s2, HLT.out, by go_num, HO7⟩
                    case measure =>
                      simp only [intOf]
                      have := HLT.out
                      omega
                have hgood : kd = 1 ∧ 0 ≤ wh ∧ wh < (M : Int) := by omega
                obtain ⟨wi, rfl⟩ : ∃ i : Nat, wh = (i : Int) := ⟨wh.toNat, by omega⟩
                have d2 : (kd != 1) = false := by simp; exact hgood.1
                have d3 : decide ((wi : Int) < 0) = false := dF (by omega)
                have d4 : decide ((M : Int) ≤ (wi : Int)) = false := dF (by omega)
                have hwi : wi < M := by omega
                clear hbad hgood
                go_upto_region 35 with (fail)
                obtain ⟨gv, c', e, -, hgv⟩ := own_shp' HV7.out (by omega)
                injection e with e1 _ e3
                subst e1
                subst e3
                obtain ⟨r, hr⟩ : ∃ r, s2.ws[wi]? = some r := ⟨_, List.getElem?_eq_getElem (by rw [HM.out]; exact hwi)⟩
                obtain ⟨⟨ki, kp, kx, kt⟩, ⟨mn, my, mc⟩, mj, mu⟩ := r
                have HR := Lib.hid hr
                have HO7E := Lib.hid (HO7.out.ok.erased hr)
                have HFM := Lib.hid (HO7.out.ok.first hr)
                have HID := Lib.hid (show 0 ≤ ki ∧ ki < 65536 from HO7.out.ok.ids _ (List.mem_of_getElem? hr))
                have HRG := Lib.hid (show wr.rangeAt gv (wi * 9) [.int .i64 ki, .int .i64 kp, .string kx, .bool kt, .string mn, .int .i64 my, .int .i64 mc, .int .i64 mj, .int .i64 mu] from fun j v hj => ownsRow_at HV7.out _ _ (by rw [flatW_at _ wi j _ hr (List.getElem?_eq_some_iff.1 hj).1]; exact hj))
                have HWI := Lib.hid hwi
                have i1 : (0 : Int) ≤ (wi : Int) := by omega
                have i2 : (wi : Int) < (M : Int) := by omega
                clear hr x0
                have hba := (Below.refl wr.heap.size wr).alloc (Nat.le_refl _) (.cells #[.int .i64 0, .int .i64 0, .string ⟨#[]⟩, .bool false, .string ⟨#[]⟩, .int .i64 0, .int .i64 0, .int .i64 0, .int .i64 0] 79)
                have y0 := HeldT.new wr #[.int .i64 0, .int .i64 0, .string ⟨#[]⟩, .bool false, .string ⟨#[]⟩, .int .i64 0, .int .i64 0, .int .i64 0, .int .i64 0] 79
                obtain ⟨u1, hu1⟩ : ∃ z, wr.alloc (.cells #[.int .i64 0, .int .i64 0, .string ⟨#[]⟩, .bool false, .string ⟨#[]⟩, .int .i64 0, .int .i64 0, .int .i64 0, .int .i64 0] 79) = z := ⟨_, rfl⟩
                rw [hu1] at hba y0
                have HTH7 := Lib.hid (show (wr.alloc (.cells #[.int .i64 0, .int .i64 0, .string ⟨#[]⟩, .bool false, .string ⟨#[]⟩, .int .i64 0, .int .i64 0, .int .i64 0, .int .i64 0] 79)).there wr.heap.size 0 ([.int .i64 ki, .int .i64 kp, .string kx, .bool kt, .string mn, .int .i64 my, .int .i64 mc, .int .i64 mj, .int .i64 mu] : List Value).toArray.size from by
                  rw [hu1]
                  intro j hj
                  rw [Nat.zero_add]
                  have hj9 : j < ([.int .i64 0, .int .i64 0, .string ⟨#[]⟩, .bool false, .string ⟨#[]⟩, .int .i64 0, .int .i64 0, .int .i64 0, .int .i64 0] : List Value).length := by have h9 : j < ([.int .i64 ki, .int .i64 kp, .string kx, .bool kt, .string mn, .int .i64 my, .int .i64 mc, .int .i64 mj, .int .i64 mu] : List Value).length := hj; rw [show ([.int .i64 ki, .int .i64 kp, .string kx, .bool kt, .string mn, .int .i64 my, .int .i64 mc, .int .i64 mj, .int .i64 mu] : List Value).length = 9 from rfl] at h9; exact h9
                  obtain ⟨u, hu⟩ : ∃ u, ([.int .i64 0, .int .i64 0, .string ⟨#[]⟩, .bool false, .string ⟨#[]⟩, .int .i64 0, .int .i64 0, .int .i64 0, .int .i64 0] : List Value)[j]? = some u := ⟨_, List.getElem?_eq_getElem hj9⟩
                  obtain ⟨h1, h2⟩ := y0.1 j u hu
                  exact ⟨by rw [h1]; rfl, h2⟩)
                have HW0 := Lib.hid (show HeldT wr.heap.size [.int .i64 ki, .int .i64 kp, .string kx, .bool kt, .string mn, .int .i64 my, .int .i64 mc, .int .i64 mj, .int .i64 mu] (u1.setCells wr.heap.size 0 [.int .i64 ki, .int .i64 kp, .string kx, .bool kt, .string mn, .int .i64 my, .int .i64 mc, .int .i64 mj, .int .i64 mu]) from y0.into (by rw [show ([.int .i64 ki, .int .i64 kp, .string kx, .bool kt, .string mn, .int .i64 my, .int .i64 mc, .int .i64 mj, .int .i64 mu] : List Value).length = 9 from rfl]; rfl))
                have hb7 := tb_sets hba (b := wr.heap.size) (Nat.le_refl _) 0 [.int .i64 ki, .int .i64 kp, .string kx, .bool kt, .string mn, .int .i64 my, .int .i64 mc, .int .i64 mj, .int .i64 mu]
                obtain ⟨w7, hw5⟩ : ∃ z, u1.setCells wr.heap.size 0 [.int .i64 ki, .int .i64 kp, .string kx, .bool kt, .string mn, .int .i64 my, .int .i64 mc, .int .i64 mj, .int .i64 mu] = z := ⟨_, rfl⟩
                rw [hw5] at HW0 hb7
                have HW7 := Lib.hid (show (wr.alloc (.cells #[.int .i64 0, .int .i64 0, .string ⟨#[]⟩, .bool false, .string ⟨#[]⟩, .int .i64 0, .int .i64 0, .int .i64 0, .int .i64 0] 79)).setCells wr.heap.size 0 ([.int .i64 ki, .int .i64 kp, .string kx, .bool kt, .string mn, .int .i64 my, .int .i64 mc, .int .i64 mj, .int .i64 mu] : List Value).toArray.toList = w7 from by rw [hu1]; exact hw5)
                have hsz7 := hba.size
                obtain ⟨gW, hgO⟩ : ∃ z, wr.heap.size = z := ⟨_, rfl⟩
                have HG7 := Lib.hid hgO
                rw [hgO] at HW0
                clear hba y0 hu1 hw5 hgO hsz7
                have HO8 := Lib.hid (HO7.out.below hb7)
                have HP8 := Lib.hid (HP7.out.below hb7)
                have HGW := Lib.hid (show gW ∉ c2 from fun e => by have := HO7.out.one.tb.lt gW e; have := HG7.out; omega)
                have HON := Lib.hid (encW_one ⟨⟨ki, kp, kx, kt⟩, ⟨mn, my, mc⟩, mj, mu⟩)
                clear hb7 HO7 HP7 HV7 hgv hwi d1 d2 d3 d4
                go_upto_region 36 with (first | (refine wpList_load_mid rfl 79 (.tmp 161) rfl _ _ rfl _ _ HRG.out Try.underlying79 rfl (by kernel_rfl) ?_) | (refine wpList_store_mid rfl 79 (.tmp 18) (.tmp 162) rfl _ _ _ rfl rfl HTH7.out (by kernel_rfl) (all_oneCell_toArray HON.out) ?_; rw [HW7.out, HG7.out]))
                clear HTH7 HW7 HG7 HRG HON i1 i2 x3
                go_wp2_with fail
                go_loopw [19] (fun i wr => ∃ nn : Int, 1 ≤ nn ∧ nn ≤ 5 ∧ i = .int .i64 nn ∧ Hid (St20 w wr q c2 most (k + 1) s2) ∧ Hid (HeldT gW [.int .i64 ki, .int .i64 kp, .string kx, .bool kt, .string mn, .int .i64 my, .int .i64 mc, .int .i64 mj, .int .i64 mu] wr)) (fun i _ => (5 - intOf i).toNat)
                case atStart => exact ⟨1, by omega, by omega, rfl, HO8, HW0⟩
                case round =>
                  obtain ⟨nn, hn1, hn5, rfl, HO9, HW9⟩ := hrel
                  clear HO8 HP8 HW0
                  by_cases hn4 : nn ≤ 4
                  · have dd4 : decide (nn ≤ 4) = true := dT hn4
                    have HNV := Lib.hid (show 0 ≤ nn ∧ nn ≤ 4 by omega)
                    have HNZ := Lib.hid (show nn ≠ 0 by omega)
                    have HT0 := Lib.hid HO9.out.one.tb
                    have HLN := Lib.hid (show s2.ws.length ≤ 1000 from HO9.out.few5 HMO.out.2)
                    have HW0 := HW9
                    have HNN := Lib.hid (show 1 ≤ nn ∧ nn ≤ 4 by omega)
                    clear hn1 hn5 hn4
                    go_upto_region 39 with (fail)
                    go_cut [20, 21] (fun p v wx => ∃ (gb : Nat) (C : List Value) (ok : Bool) (s9 : TbP), p = .pointer (some ⟨gb, 0, none⟩) ∧ v = .bool ok ∧ Hid (HeldT gb C wx) ∧ Hid (MRes s2 ⟨⟨ki, kp, kx, kt⟩, ⟨mn, my, mc⟩, mj, mu⟩ nn C ok s9) ∧ Hid (TbS wx c2 q s9) ∧ Hid (Frm wr wx c2) ∧ Hid (gb ∉ c2))
                    case rest =>
                      obtain ⟨gb, C, ok, s9, rfl, rfl, HBX, HMR, HT, HFR, HGB⟩ := hcut
                      obtain ⟨rfl, rfl⟩ := HMR.out.wrong HFM.out HNZ.out
                      have HO8 := Lib.hid (HO9.out.put HT.out (fun x hx => Or.inl hx) HFR.out (fun x hx => hx) rfl (List.Sublist.refl _))
                      have HW8 := Lib.hid (HW0.out.frm HFR.out HGW.out)
                      clear HO9 HW9 HW0 HT0 HT HFR HMR HBX HGB
                      have nM : (M != M) = false := by simp
                      have hn := HNN.out
                      have j1 : IntKind.i64.wrap (nn + 1) = nn + 1 := by rw [IntKind.wrap_i64]; omega
                      go_wp2_with fail
                      refine (lenT_any c2 q s9 wc HO8.out.one.tb).mono ?_; rintro e wx ⟨rfl, rfl⟩
                      rw [HM.out]
                      go_wp2
                      go_roundw
                      case rel => exact ⟨nn + 1, by omega, by omega, rfl, HO8, HW8⟩
                      case measure =>
                        simp only [intOf]
                        omega
                    case first =>
                     as_aux_lemma =>
                      refine wp_region_held_drew (S := (fun wx => HeldT gW [.int .i64 ki, .int .i64 kp, .string kx, .bool kt, .string mn, .int .i64 my, .int .i64 mc, .int .i64 mj, .int .i64 mu] wx)) (by kernel_rfl) (HW0.out.below (Below.refl _ _).drew) (fun hHeld => ?_)
                      have hb := (Below.refl wr.heap.size wr).drew
                      have HT := Lib.hid (HT0.out.below hb)
                      have HFR := Lib.hid ((Frm.refl wr c2).below hb (Nat.le_refl _))
                      obtain ⟨y0, hwd⟩ : ∃ z, wr.drew = z := ⟨_, rfl⟩
                      rw [hwd] at HT HFR hHeld ⊢
                      clear hwd hb
                      refine wpAnyH_take (i := 0) (oi := { dst := some 168, op := Go.Op.move (Go.Operand.tmp 7), type := 59, pos := "law.go:168", after := #[], guard := none }) (v := ?v0_520101) rfl (by kernel_rfl) (by kernel_rfl) (by kernel_rfl) (fun _ _ _ h => h) (Or.inl ⟨by rfl, ?y0_520101⟩) hHeld ?r0_520101
                      case y0_520101 => intro w hSw; (try dsimp only at hSw); go_simp; try with_reducible rfl
                      try simp only [Act.put, List.setIfInBounds_toArray, List.set_cons_zero, List.set_cons_succ]
                      refine wpAnyH_take (i := 1) (oi := { dst := some 169, op := Go.Op.fieldAddr 79 (Go.Operand.tmp 18) 0, type := 0, pos := "law.go:168", after := #[], guard := none }) (v := ?v1_520101) rfl (by kernel_rfl) (by kernel_rfl) (by kernel_rfl) (fun _ _ _ h => h) (Or.inl ⟨by rfl, ?y1_520101⟩) hHeld ?r1_520101
                      case y1_520101 => intro w hSw; (try dsimp only at hSw); go_simp; try with_reducible rfl
                      try simp only [Act.put, List.setIfInBounds_toArray, List.set_cons_zero, List.set_cons_succ]
                      refine wpAnyH_take (i := 2) (oi := { dst := some 170, op := Go.Op.load 69 (Go.Operand.tmp 169), type := 69, pos := "law.go:168", after := #[{ on := 1, ground := Go.Ground.data }], guard := none }) (v := ?v2_520101) rfl (by kernel_rfl) (by kernel_rfl) (by kernel_rfl) (fun _ _ _ h => h) (Or.inl ⟨by rfl, ?y2_520101⟩) hHeld ?r2_520101
                      case y2_520101 => intro w hSw; (try dsimp only at hSw); obtain ⟨s1, s2⟩ := hSw; have t0 := (s1 0 _ rfl).1; have t1 := (s1 1 _ rfl).1; have t2 := (s1 2 _ rfl).1; have t3 := (s1 3 _ rfl).1; have t4 := (s1 4 _ rfl).1; have t5 := (s1 5 _ rfl).1; have t6 := (s1 6 _ rfl).1; have t7 := (s1 7 _ rfl).1; have t8 := (s1 8 _ rfl).1; clear s1 s2; go_simp; try with_reducible rfl
                      try simp only [Act.put, List.setIfInBounds_toArray, List.set_cons_zero, List.set_cons_succ]
                      refine wpAnyH_take (i := 3) (oi := { dst := some 171, op := Go.Op.load 79 (Go.Operand.tmp 18), type := 79, pos := "law.go:168", after := #[], guard := none }) (v := ?v3_520101) rfl (by kernel_rfl) (by kernel_rfl) (by kernel_rfl) (fun _ _ _ h => h) (Or.inl ⟨by rfl, ?y3_520101⟩) hHeld ?r3_520101
                      case y3_520101 => intro w hSw; (try dsimp only at hSw); obtain ⟨s1, s2⟩ := hSw; have t0 := (s1 0 _ rfl).1; have t1 := (s1 1 _ rfl).1; have t2 := (s1 2 _ rfl).1; have t3 := (s1 3 _ rfl).1; have t4 := (s1 4 _ rfl).1; have t5 := (s1 5 _ rfl).1; have t6 := (s1 6 _ rfl).1; have t7 := (s1 7 _ rfl).1; have t8 := (s1 8 _ rfl).1; clear s1 s2; go_simp; try with_reducible rfl
                      try simp only [Act.put, List.setIfInBounds_toArray, List.set_cons_zero, List.set_cons_succ]
                      refine wpAnyH_take (i := 5) (oi := { dst := some 173, op := Go.Op.move (Go.Operand.tmp 19), type := 3, pos := "law.go:168", after := #[], guard := none }) (v := ?v5_520101) rfl (by kernel_rfl) (by kernel_rfl) (by kernel_rfl) (fun _ _ _ h => h) (Or.inl ⟨by rfl, ?y5_520101⟩) hHeld ?r5_520101
                      case y5_520101 => intro w hSw; (try dsimp only at hSw); go_simp; try with_reducible rfl
                      try simp only [Act.put, List.setIfInBounds_toArray, List.set_cons_zero, List.set_cons_succ]
                      refine wpAnyH_ready (rs := [4, 11]) (by kernel_rfl) (by simp) ?_
                      refine AllReadyH.cons (o := { dst := some 172, op := Go.Op.call { callee := Go.Callee.value (Go.Operand.func 45), args := #[Go.Operand.tmp 171], argTypes := #[79] }, type := 84, pos := "law.go:168", after := #[{ on := 3, ground := Go.Ground.data }], guard := none }) rfl (fun K hK => ?_) (AllReadyH.cons (o := { dst := some 20, op := Go.Op.alloc 79, type := 0, pos := "law.go:168", after := #[], guard := none }) rfl (fun K hK => ?_) AllReadyH.nil)
                      · go_simp
                        refine (waitD_any ki kp kx kt mn my mc mj mu y0).mono ?_; rintro e y1 ⟨rfl, hb⟩
                        have hnext := hHeld.below hb
                        replace HT := Lib.hid (HT.out.below hb)
                        replace HFR := Lib.hid (HFR.out.below hb HFR.out.size)
                        clear hb
                        refine hK.out _ _ (hnext) (fun hHeld2 => ?_)
                        clear hK K hHeld
                        have hHeld := hHeld2
                        clear hHeld2
                        try simp only [Act.put, List.setIfInBounds_toArray, List.set_cons_zero, List.set_cons_succ]
                        refine wpAnyH_ready (rs := [6, 11]) (by kernel_rfl) (by simp) ?_
                        refine AllReadyH.cons (o := { dst := some 174, op := Go.Op.call { callee := Go.Callee.value (Go.Operand.func 46), args := #[Go.Operand.tmp 172, Go.Operand.tmp 173], argTypes := #[84, 3] }, type := 75, pos := "law.go:168", after := #[{ on := 4, ground := Go.Ground.data }, { on := 5, ground := Go.Ground.data }, { on := 4, ground := Go.Ground.chain }], guard := none }) rfl (fun K hK => ?_) (AllReadyH.cons (o := { dst := some 20, op := Go.Op.alloc 79, type := 0, pos := "law.go:168", after := #[], guard := none }) rfl (fun K hK => ?_) AllReadyH.nil)
                        · go_simp
                          refine (ans_any ki kp kx kt mn my mc mj mu nn y1 HID.out HNV.out).mono ?_; rintro e y2 ⟨id, qr, aq, nq, cq, Q, rfl, hq, hnq, hgd, hb⟩
                          have hnext := hHeld.below hb
                          have HQQ := Lib.hid hq
                          have HNQ := Lib.hid hnq
                          have HGD := Lib.hid hgd
                          replace HT := Lib.hid (HT.out.below hb)
                          replace HFR := Lib.hid (HFR.out.below hb HFR.out.size)
                          clear hb hq hnq hgd
                          refine hK.out _ _ (hnext) (fun hHeld2 => ?_)
                          clear hK K hHeld
                          have hHeld := hHeld2
                          clear hHeld2
                          try simp only [Act.put, List.setIfInBounds_toArray, List.set_cons_zero, List.set_cons_succ]
                          refine wpAnyH_ready (rs := [7, 11]) (by kernel_rfl) (by simp) ?_
                          refine AllReadyH.cons (o := { dst := some 175, op := Go.Op.call { callee := Go.Callee.value (Go.Operand.func 47), args := #[Go.Operand.tmp 168, Go.Operand.tmp 170, Go.Operand.tmp 174], argTypes := #[59, 69, 75] }, type := 92, pos := "law.go:168", after := #[{ on := 0, ground := Go.Ground.data }, { on := 2, ground := Go.Ground.data }, { on := 6, ground := Go.Ground.data }, { on := 6, ground := Go.Ground.chain }], guard := none }) rfl (fun K hK => ?_) (AllReadyH.cons (o := { dst := some 20, op := Go.Op.alloc 79, type := 0, pos := "law.go:168", after := #[], guard := none }) rfl (fun K hK => ?_) AllReadyH.nil)
                          · go_simp
                            refine (matchR_any c2 q s2 ki kp kx kt mn my mc mj mu nn id qr aq nq cq Q y2 HT.out (by have := HLN.out; omega) HQQ.out HNQ.out HGD.out).mono ?_; rintro e y3 ⟨C, ok, s9, rfl, hcl, hc1, hmr, hts, hfm⟩
                            have hnext := hHeld.frm hfm HGW.out
                            replace HT := Lib.hid hts
                            replace HFR := Lib.hid (HFR.out.trans hfm (fun b hb => Or.inl hb))
                            have HCL := Lib.hid hcl
                            have HC1 := Lib.hid hc1
                            have HMR := Lib.hid hmr
                            clear hfm hts hcl hc1 hmr HQQ HNQ HGD
                            refine hK.out _ _ (hnext) (fun hHeld2 => ?_)
                            clear hK K hHeld
                            have hHeld := hHeld2
                            clear hHeld2
                            try simp only [Act.put, List.setIfInBounds_toArray, List.set_cons_zero, List.set_cons_succ]
                            refine wpAnyH_take (i := 8) (oi := { dst := some 167, op := Go.Op.move (Go.Operand.tmp 175), type := 92, pos := "law.go:168", after := #[{ on := 7, ground := Go.Ground.data }], guard := none }) (v := ?v8_520104) rfl (by kernel_rfl) (by kernel_rfl) (by kernel_rfl) (fun _ _ _ h => h) (Or.inl ⟨by rfl, ?y8_520104⟩) hHeld ?r8_520104
                            case y8_520104 => intro w hSw; (try dsimp only at hSw); go_simp; try with_reducible rfl
                            try simp only [Act.put, List.setIfInBounds_toArray, List.set_cons_zero, List.set_cons_succ]
                            refine wpAnyH_take (i := 9) (oi := { dst := some 176, op := Go.Op.extract (Go.Operand.tmp 167) 0, type := 79, pos := "law.go:168", after := #[{ on := 8, ground := Go.Ground.data }], guard := none }) (v := ?v9_520104) rfl (by kernel_rfl) (by kernel_rfl) (by kernel_rfl) (fun _ _ _ h => h) (Or.inl ⟨by rfl, ?y9_520104⟩) hHeld ?r9_520104
                            case y9_520104 => intro w hSw; (try dsimp only at hSw); go_simp; try with_reducible rfl
                            try simp only [Act.put, List.setIfInBounds_toArray, List.set_cons_zero, List.set_cons_succ]
                            refine wpAnyH_take (i := 10) (oi := { dst := some 177, op := Go.Op.extract (Go.Operand.tmp 167) 1, type := 4, pos := "law.go:168", after := #[{ on := 8, ground := Go.Ground.data }, { on := 12, ground := Go.Ground.gcOnly Go.Departure.lateStores }], guard := none }) (v := ?v10_520104) rfl (by kernel_rfl) (by kernel_rfl) (by kernel_rfl) (fun _ _ _ h => h) (Or.inl ⟨by rfl, ?y10_520104⟩) hHeld ?r10_520104
                            case y10_520104 => intro w hSw; (try dsimp only at hSw); go_simp; try with_reducible rfl
                            try simp only [Act.put, List.setIfInBounds_toArray, List.set_cons_zero, List.set_cons_succ]
                            refine wpAnyH_ready (rs := [11]) (by kernel_rfl) (by simp) ?_
                            refine AllReadyH.cons (o := { dst := some 20, op := Go.Op.alloc 79, type := 0, pos := "law.go:168", after := #[], guard := none }) rfl (fun K hK => ?_) AllReadyH.nil
                            go_simp
                            have hal := (Below.refl y3.heap.size y3).alloc (Nat.le_refl _) (.cells #[.int .i64 0, .int .i64 0, .string ⟨#[]⟩, .bool false, .string ⟨#[]⟩, .int .i64 0, .int .i64 0, .int .i64 0, .int .i64 0] 79)
                            have hnext := hHeld.below hal
                            have HZ := Lib.hid (HeldT.new y3 #[.int .i64 0, .int .i64 0, .string ⟨#[]⟩, .bool false, .string ⟨#[]⟩, .int .i64 0, .int .i64 0, .int .i64 0, .int .i64 0] 79)
                            have HGB := Lib.hid (show gW < y3.heap.size ∧ y3.heap.size ∉ c2 from ⟨hHeld.2, fun e => by have := HT.out.lt _ e; omega⟩)
                            have HGS := Lib.hid (show wr.heap.size ≤ y3.heap.size from HFR.out.size)
                            replace HT := Lib.hid (HT.out.below hal)
                            replace HFR := Lib.hid (HFR.out.below hal HFR.out.size)
                            obtain ⟨y4, hwf⟩ : ∃ z, y3.alloc (.cells #[.int .i64 0, .int .i64 0, .string ⟨#[]⟩, .bool false, .string ⟨#[]⟩, .int .i64 0, .int .i64 0, .int .i64 0, .int .i64 0] 79) = z := ⟨_, rfl⟩
                            obtain ⟨gb, hgb⟩ : ∃ z, y3.heap.size = z := ⟨_, rfl⟩
                            rw [hwf] at hnext HT HFR HZ ⊢
                            rw [hgb] at HZ HGB HGS ⊢
                            clear hwf hgb hal
                            refine hK.out _ _ (hnext) (fun hHeld2 => ?_)
                            clear hK K hHeld
                            have hHeld := hHeld2
                            clear hHeld2
                            try simp only [Act.put, List.setIfInBounds_toArray, List.set_cons_zero, List.set_cons_succ]
                            refine wpAnyH_ready (rs := [12]) (by kernel_rfl) (by simp) ?_
                            refine AllReadyH.cons (o := { dst := none, op := Go.Op.store 79 (Go.Operand.tmp 20) (Go.Operand.tmp 176), type := 0, pos := "law.go:168", after := #[{ on := 11, ground := Go.Ground.data }, { on := 9, ground := Go.Ground.data }, { on := 7, ground := Go.Ground.chain }, { on := 0, ground := Go.Ground.phase }, { on := 1, ground := Go.Ground.phase }, { on := 2, ground := Go.Ground.phase }, { on := 3, ground := Go.Ground.phase }, { on := 4, ground := Go.Ground.phase }, { on := 5, ground := Go.Ground.phase }, { on := 6, ground := Go.Ground.phase }, { on := 7, ground := Go.Ground.phase }, { on := 8, ground := Go.Ground.phase }, { on := 9, ground := Go.Ground.phase }, { on := 10, ground := Go.Ground.textOnly Go.Departure.lateStores }, { on := 11, ground := Go.Ground.phase }], guard := none }) rfl (fun K hK => ?_) AllReadyH.nil
                            refine step_store_mid (by rfl) 79 (.tmp 20) (.tmp 176) (by rfl) gb 0 C.toArray (by rfl) (by rfl) (fun j hj => by obtain ⟨u, hu⟩ : ∃ u, ([.int .i64 0, .int .i64 0, .string ⟨#[]⟩, .bool false, .string ⟨#[]⟩, .int .i64 0, .int .i64 0, .int .i64 0, .int .i64 0] : List Value)[j]? = some u := ⟨_, List.getElem?_eq_getElem (show j < ([.int .i64 0, .int .i64 0, .string ⟨#[]⟩, .bool false, .string ⟨#[]⟩, .int .i64 0, .int .i64 0, .int .i64 0, .int .i64 0] : List Value).length from by have h9 : j < C.length := hj; rw [HCL.out] at h9; exact h9)⟩; obtain ⟨h1, h2⟩ := HZ.out.1 j u hu; rw [Nat.zero_add]; exact ⟨by rw [h1]; rfl, h2⟩) (by show _ = some C.length; rw [HCL.out]; kernel_rfl) (all_oneCell_toArray HC1.out) ?_
                            simp only [Act.put]
                            have HBX := Lib.hid (show HeldT gb C (y4.setCells gb 0 C) from HZ.out.into (by rw [HCL.out]; rfl))
                            have hfr := (Frm.refl y4 [gb]).sets gb 0 (Or.inl (by simp)) C
                            have hnext := hHeld.frm hfr (by simp; have := HGB.out.1; omega)
                            replace HT := Lib.hid (HT.out.frm hfr (fun b hb e => HGB.out.2 (by simp at e; exact e ▸ hb)))
                            replace HFR := Lib.hid (HFR.out.trans hfr (fun b hb => Or.inr (by simp at hb; subst hb; exact HGS.out)))
                            obtain ⟨y5, hwh⟩ : ∃ z, y4.setCells gb 0 C = z := ⟨_, rfl⟩
                            rw [hwh] at HBX hnext HT HFR
                            rw [show y4.setCells gb 0 (C.toArray : Array Value).toList = y5 from hwh]
                            clear hwh hfr HZ
                            refine hK.out _ _ (hnext) (fun hHeld2 => ?_)
                            clear hK K hHeld
                            have hHeld := hHeld2
                            clear hHeld2
                            try simp only [Act.put, List.setIfInBounds_toArray, List.set_cons_zero, List.set_cons_succ]
                            refine wpAnyH_take (i := 13) (oi := { dst := some 21, op := Go.Op.assign (Go.Operand.tmp 177), type := 4, pos := "law.go:168", after := #[{ on := 10, ground := Go.Ground.data }, { on := 12, ground := Go.Ground.chain }, { on := 0, ground := Go.Ground.phase }, { on := 1, ground := Go.Ground.phase }, { on := 2, ground := Go.Ground.phase }, { on := 3, ground := Go.Ground.phase }, { on := 4, ground := Go.Ground.phase }, { on := 5, ground := Go.Ground.phase }, { on := 6, ground := Go.Ground.phase }, { on := 7, ground := Go.Ground.phase }, { on := 8, ground := Go.Ground.phase }, { on := 9, ground := Go.Ground.phase }, { on := 10, ground := Go.Ground.phase }, { on := 11, ground := Go.Ground.phase }, { on := 12, ground := Go.Ground.phase }], guard := none }) (v := ?v13_520106) rfl (by kernel_rfl) (by kernel_rfl) (by kernel_rfl) (fun _ _ _ h => h) (Or.inl ⟨by rfl, ?y13_520106⟩) hHeld ?r13_520106
                            case y13_520106 => intro w hSw; (try dsimp only at hSw); go_simp; try with_reducible rfl
                            try simp only [Act.put, List.setIfInBounds_toArray, List.set_cons_zero, List.set_cons_succ]
                            refine wpAnyH_done (by kernel_rfl) ?_ _
                            go_wp2_with fail
                            go_meet
                            exact ⟨gb, C, ok, s9, rfl, rfl, HBX, HMR, HT, HFR, Lib.hid HGB.out.2⟩
                          · go_simp
                            have hal := (Below.refl y2.heap.size y2).alloc (Nat.le_refl _) (.cells #[.int .i64 0, .int .i64 0, .string ⟨#[]⟩, .bool false, .string ⟨#[]⟩, .int .i64 0, .int .i64 0, .int .i64 0, .int .i64 0] 79)
                            have hnext := hHeld.below hal
                            have HZ := Lib.hid (HeldT.new y2 #[.int .i64 0, .int .i64 0, .string ⟨#[]⟩, .bool false, .string ⟨#[]⟩, .int .i64 0, .int .i64 0, .int .i64 0, .int .i64 0] 79)
                            have HGB := Lib.hid (show gW < y2.heap.size ∧ y2.heap.size ∉ c2 from ⟨hHeld.2, fun e => by have := HT.out.lt _ e; omega⟩)
                            have HGS := Lib.hid (show wr.heap.size ≤ y2.heap.size from HFR.out.size)
                            replace HT := Lib.hid (HT.out.below hal)
                            replace HFR := Lib.hid (HFR.out.below hal HFR.out.size)
                            replace HQQ := Lib.hid (HQQ.out.below hal)
                            obtain ⟨y3, hwf⟩ : ∃ z, y2.alloc (.cells #[.int .i64 0, .int .i64 0, .string ⟨#[]⟩, .bool false, .string ⟨#[]⟩, .int .i64 0, .int .i64 0, .int .i64 0, .int .i64 0] 79) = z := ⟨_, rfl⟩
                            obtain ⟨gb, hgb⟩ : ∃ z, y2.heap.size = z := ⟨_, rfl⟩
                            rw [hwf] at hnext HT HFR HZ HQQ ⊢
                            rw [hgb] at HZ HGB HGS ⊢
                            clear hwf hgb hal
                            refine hK.out _ _ (hnext) (fun hHeld2 => ?_)
                            clear hK K hHeld
                            have hHeld := hHeld2
                            clear hHeld2
                            try simp only [Act.put, List.setIfInBounds_toArray, List.set_cons_zero, List.set_cons_succ]
                            refine wpAnyH_ready (rs := [7]) (by kernel_rfl) (by simp) ?_
                            refine AllReadyH.cons (o := { dst := some 175, op := Go.Op.call { callee := Go.Callee.value (Go.Operand.func 47), args := #[Go.Operand.tmp 168, Go.Operand.tmp 170, Go.Operand.tmp 174], argTypes := #[59, 69, 75] }, type := 92, pos := "law.go:168", after := #[{ on := 0, ground := Go.Ground.data }, { on := 2, ground := Go.Ground.data }, { on := 6, ground := Go.Ground.data }, { on := 6, ground := Go.Ground.chain }], guard := none }) rfl (fun K hK => ?_) AllReadyH.nil
                            go_simp
                            refine (matchR_any c2 q s2 ki kp kx kt mn my mc mj mu nn id qr aq nq cq Q y3 HT.out (by have := HLN.out; omega) HQQ.out HNQ.out HGD.out).mono ?_; rintro e y4 ⟨C, ok, s9, rfl, hcl, hc1, hmr, hts, hfm⟩
                            have hnext := hHeld.frm hfm HGW.out
                            replace HT := Lib.hid hts
                            replace HFR := Lib.hid (HFR.out.trans hfm (fun b hb => Or.inl hb))
                            have HCL := Lib.hid hcl
                            have HC1 := Lib.hid hc1
                            have HMR := Lib.hid hmr
                            replace HZ := Lib.hid (HZ.out.frm hfm HGB.out.2)
                            clear hfm hts hcl hc1 hmr HQQ HNQ HGD
                            refine hK.out _ _ (hnext) (fun hHeld2 => ?_)
                            clear hK K hHeld
                            have hHeld := hHeld2
                            clear hHeld2
                            try simp only [Act.put, List.setIfInBounds_toArray, List.set_cons_zero, List.set_cons_succ]
                            refine wpAnyH_take (i := 8) (oi := { dst := some 167, op := Go.Op.move (Go.Operand.tmp 175), type := 92, pos := "law.go:168", after := #[{ on := 7, ground := Go.Ground.data }], guard := none }) (v := ?v8_520108) rfl (by kernel_rfl) (by kernel_rfl) (by kernel_rfl) (fun _ _ _ h => h) (Or.inl ⟨by rfl, ?y8_520108⟩) hHeld ?r8_520108
                            case y8_520108 => intro w hSw; (try dsimp only at hSw); go_simp; try with_reducible rfl
                            try simp only [Act.put, List.setIfInBounds_toArray, List.set_cons_zero, List.set_cons_succ]
                            refine wpAnyH_take (i := 9) (oi := { dst := some 176, op := Go.Op.extract (Go.Operand.tmp 167) 0, type := 79, pos := "law.go:168", after := #[{ on := 8, ground := Go.Ground.data }], guard := none }) (v := ?v9_520108) rfl (by kernel_rfl) (by kernel_rfl) (by kernel_rfl) (fun _ _ _ h => h) (Or.inl ⟨by rfl, ?y9_520108⟩) hHeld ?r9_520108
                            case y9_520108 => intro w hSw; (try dsimp only at hSw); go_simp; try with_reducible rfl
                            try simp only [Act.put, List.setIfInBounds_toArray, List.set_cons_zero, List.set_cons_succ]
                            refine wpAnyH_take (i := 10) (oi := { dst := some 177, op := Go.Op.extract (Go.Operand.tmp 167) 1, type := 4, pos := "law.go:168", after := #[{ on := 8, ground := Go.Ground.data }, { on := 12, ground := Go.Ground.gcOnly Go.Departure.lateStores }], guard := none }) (v := ?v10_520108) rfl (by kernel_rfl) (by kernel_rfl) (by kernel_rfl) (fun _ _ _ h => h) (Or.inl ⟨by rfl, ?y10_520108⟩) hHeld ?r10_520108
                            case y10_520108 => intro w hSw; (try dsimp only at hSw); go_simp; try with_reducible rfl
                            try simp only [Act.put, List.setIfInBounds_toArray, List.set_cons_zero, List.set_cons_succ]
                            refine wpAnyH_ready (rs := [12]) (by kernel_rfl) (by simp) ?_
                            refine AllReadyH.cons (o := { dst := none, op := Go.Op.store 79 (Go.Operand.tmp 20) (Go.Operand.tmp 176), type := 0, pos := "law.go:168", after := #[{ on := 11, ground := Go.Ground.data }, { on := 9, ground := Go.Ground.data }, { on := 7, ground := Go.Ground.chain }, { on := 0, ground := Go.Ground.phase }, { on := 1, ground := Go.Ground.phase }, { on := 2, ground := Go.Ground.phase }, { on := 3, ground := Go.Ground.phase }, { on := 4, ground := Go.Ground.phase }, { on := 5, ground := Go.Ground.phase }, { on := 6, ground := Go.Ground.phase }, { on := 7, ground := Go.Ground.phase }, { on := 8, ground := Go.Ground.phase }, { on := 9, ground := Go.Ground.phase }, { on := 10, ground := Go.Ground.textOnly Go.Departure.lateStores }, { on := 11, ground := Go.Ground.phase }], guard := none }) rfl (fun K hK => ?_) AllReadyH.nil
                            refine step_store_mid (by rfl) 79 (.tmp 20) (.tmp 176) (by rfl) gb 0 C.toArray (by rfl) (by rfl) (fun j hj => by obtain ⟨u, hu⟩ : ∃ u, ([.int .i64 0, .int .i64 0, .string ⟨#[]⟩, .bool false, .string ⟨#[]⟩, .int .i64 0, .int .i64 0, .int .i64 0, .int .i64 0] : List Value)[j]? = some u := ⟨_, List.getElem?_eq_getElem (show j < ([.int .i64 0, .int .i64 0, .string ⟨#[]⟩, .bool false, .string ⟨#[]⟩, .int .i64 0, .int .i64 0, .int .i64 0, .int .i64 0] : List Value).length from by have h9 : j < C.length := hj; rw [HCL.out] at h9; exact h9)⟩; obtain ⟨h1, h2⟩ := HZ.out.1 j u hu; rw [Nat.zero_add]; exact ⟨by rw [h1]; rfl, h2⟩) (by show _ = some C.length; rw [HCL.out]; kernel_rfl) (all_oneCell_toArray HC1.out) ?_
                            simp only [Act.put]
                            have HBX := Lib.hid (show HeldT gb C (y4.setCells gb 0 C) from HZ.out.into (by rw [HCL.out]; rfl))
                            have hfr := (Frm.refl y4 [gb]).sets gb 0 (Or.inl (by simp)) C
                            have hnext := hHeld.frm hfr (by simp; have := HGB.out.1; omega)
                            replace HT := Lib.hid (HT.out.frm hfr (fun b hb e => HGB.out.2 (by simp at e; exact e ▸ hb)))
                            replace HFR := Lib.hid (HFR.out.trans hfr (fun b hb => Or.inr (by simp at hb; subst hb; exact HGS.out)))
                            obtain ⟨y5, hwh⟩ : ∃ z, y4.setCells gb 0 C = z := ⟨_, rfl⟩
                            rw [hwh] at HBX hnext HT HFR
                            rw [show y4.setCells gb 0 (C.toArray : Array Value).toList = y5 from hwh]
                            clear hwh hfr HZ
                            refine hK.out _ _ (hnext) (fun hHeld2 => ?_)
                            clear hK K hHeld
                            have hHeld := hHeld2
                            clear hHeld2
                            try simp only [Act.put, List.setIfInBounds_toArray, List.set_cons_zero, List.set_cons_succ]
                            refine wpAnyH_take (i := 13) (oi := { dst := some 21, op := Go.Op.assign (Go.Operand.tmp 177), type := 4, pos := "law.go:168", after := #[{ on := 10, ground := Go.Ground.data }, { on := 12, ground := Go.Ground.chain }, { on := 0, ground := Go.Ground.phase }, { on := 1, ground := Go.Ground.phase }, { on := 2, ground := Go.Ground.phase }, { on := 3, ground := Go.Ground.phase }, { on := 4, ground := Go.Ground.phase }, { on := 5, ground := Go.Ground.phase }, { on := 6, ground := Go.Ground.phase }, { on := 7, ground := Go.Ground.phase }, { on := 8, ground := Go.Ground.phase }, { on := 9, ground := Go.Ground.phase }, { on := 10, ground := Go.Ground.phase }, { on := 11, ground := Go.Ground.phase }, { on := 12, ground := Go.Ground.phase }], guard := none }) (v := ?v13_520109) rfl (by kernel_rfl) (by kernel_rfl) (by kernel_rfl) (fun _ _ _ h => h) (Or.inl ⟨by rfl, ?y13_520109⟩) hHeld ?r13_520109
                            case y13_520109 => intro w hSw; (try dsimp only at hSw); go_simp; try with_reducible rfl
                            try simp only [Act.put, List.setIfInBounds_toArray, List.set_cons_zero, List.set_cons_succ]
                            refine wpAnyH_done (by kernel_rfl) ?_ _
                            go_wp2_with fail
                            go_meet
                            exact ⟨gb, C, ok, s9, rfl, rfl, HBX, HMR, HT, HFR, Lib.hid HGB.out.2⟩
                        · go_simp
                          have hal := (Below.refl y1.heap.size y1).alloc (Nat.le_refl _) (.cells #[.int .i64 0, .int .i64 0, .string ⟨#[]⟩, .bool false, .string ⟨#[]⟩, .int .i64 0, .int .i64 0, .int .i64 0, .int .i64 0] 79)
                          have hnext := hHeld.below hal
                          have HZ := Lib.hid (HeldT.new y1 #[.int .i64 0, .int .i64 0, .string ⟨#[]⟩, .bool false, .string ⟨#[]⟩, .int .i64 0, .int .i64 0, .int .i64 0, .int .i64 0] 79)
                          have HGB := Lib.hid (show gW < y1.heap.size ∧ y1.heap.size ∉ c2 from ⟨hHeld.2, fun e => by have := HT.out.lt _ e; omega⟩)
                          have HGS := Lib.hid (show wr.heap.size ≤ y1.heap.size from HFR.out.size)
                          replace HT := Lib.hid (HT.out.below hal)
                          replace HFR := Lib.hid (HFR.out.below hal HFR.out.size)
                          obtain ⟨y2, hwf⟩ : ∃ z, y1.alloc (.cells #[.int .i64 0, .int .i64 0, .string ⟨#[]⟩, .bool false, .string ⟨#[]⟩, .int .i64 0, .int .i64 0, .int .i64 0, .int .i64 0] 79) = z := ⟨_, rfl⟩
                          obtain ⟨gb, hgb⟩ : ∃ z, y1.heap.size = z := ⟨_, rfl⟩
                          rw [hwf] at hnext HT HFR HZ ⊢
                          rw [hgb] at HZ HGB HGS ⊢
                          clear hwf hgb hal
                          refine hK.out _ _ (hnext) (fun hHeld2 => ?_)
                          clear hK K hHeld
                          have hHeld := hHeld2
                          clear hHeld2
                          try simp only [Act.put, List.setIfInBounds_toArray, List.set_cons_zero, List.set_cons_succ]
                          refine wpAnyH_ready (rs := [6]) (by kernel_rfl) (by simp) ?_
                          refine AllReadyH.cons (o := { dst := some 174, op := Go.Op.call { callee := Go.Callee.value (Go.Operand.func 46), args := #[Go.Operand.tmp 172, Go.Operand.tmp 173], argTypes := #[84, 3] }, type := 75, pos := "law.go:168", after := #[{ on := 4, ground := Go.Ground.data }, { on := 5, ground := Go.Ground.data }, { on := 4, ground := Go.Ground.chain }], guard := none }) rfl (fun K hK => ?_) AllReadyH.nil
                          go_simp
                          refine (ans_any ki kp kx kt mn my mc mj mu nn y2 HID.out HNV.out).mono ?_; rintro e y3 ⟨id, qr, aq, nq, cq, Q, rfl, hq, hnq, hgd, hb⟩
                          have hnext := hHeld.below hb
                          have HQQ := Lib.hid hq
                          have HNQ := Lib.hid hnq
                          have HGD := Lib.hid hgd
                          replace HT := Lib.hid (HT.out.below hb)
                          replace HFR := Lib.hid (HFR.out.below hb HFR.out.size)
                          replace HZ := Lib.hid (HZ.out.below hb)
                          clear hb hq hnq hgd
                          refine hK.out _ _ (hnext) (fun hHeld2 => ?_)
                          clear hK K hHeld
                          have hHeld := hHeld2
                          clear hHeld2
                          try simp only [Act.put, List.setIfInBounds_toArray, List.set_cons_zero, List.set_cons_succ]
                          refine wpAnyH_ready (rs := [7]) (by kernel_rfl) (by simp) ?_
                          refine AllReadyH.cons (o := { dst := some 175, op := Go.Op.call { callee := Go.Callee.value (Go.Operand.func 47), args := #[Go.Operand.tmp 168, Go.Operand.tmp 170, Go.Operand.tmp 174], argTypes := #[59, 69, 75] }, type := 92, pos := "law.go:168", after := #[{ on := 0, ground := Go.Ground.data }, { on := 2, ground := Go.Ground.data }, { on := 6, ground := Go.Ground.data }, { on := 6, ground := Go.Ground.chain }], guard := none }) rfl (fun K hK => ?_) AllReadyH.nil
                          go_simp
                          refine (matchR_any c2 q s2 ki kp kx kt mn my mc mj mu nn id qr aq nq cq Q y3 HT.out (by have := HLN.out; omega) HQQ.out HNQ.out HGD.out).mono ?_; rintro e y4 ⟨C, ok, s9, rfl, hcl, hc1, hmr, hts, hfm⟩
                          have hnext := hHeld.frm hfm HGW.out
                          replace HT := Lib.hid hts
                          replace HFR := Lib.hid (HFR.out.trans hfm (fun b hb => Or.inl hb))
                          have HCL := Lib.hid hcl
                          have HC1 := Lib.hid hc1
                          have HMR := Lib.hid hmr
                          replace HZ := Lib.hid (HZ.out.frm hfm HGB.out.2)
                          clear hfm hts hcl hc1 hmr HQQ HNQ HGD
                          refine hK.out _ _ (hnext) (fun hHeld2 => ?_)
                          clear hK K hHeld
                          have hHeld := hHeld2
                          clear hHeld2
                          try simp only [Act.put, List.setIfInBounds_toArray, List.set_cons_zero, List.set_cons_succ]
                          refine wpAnyH_take (i := 8) (oi := { dst := some 167, op := Go.Op.move (Go.Operand.tmp 175), type := 92, pos := "law.go:168", after := #[{ on := 7, ground := Go.Ground.data }], guard := none }) (v := ?v8_520112) rfl (by kernel_rfl) (by kernel_rfl) (by kernel_rfl) (fun _ _ _ h => h) (Or.inl ⟨by rfl, ?y8_520112⟩) hHeld ?r8_520112
                          case y8_520112 => intro w hSw; (try dsimp only at hSw); go_simp; try with_reducible rfl
                          try simp only [Act.put, List.setIfInBounds_toArray, List.set_cons_zero, List.set_cons_succ]
                          refine wpAnyH_take (i := 9) (oi := { dst := some 176, op := Go.Op.extract (Go.Operand.tmp 167) 0, type := 79, pos := "law.go:168", after := #[{ on := 8, ground := Go.Ground.data }], guard := none }) (v := ?v9_520112) rfl (by kernel_rfl) (by kernel_rfl) (by kernel_rfl) (fun _ _ _ h => h) (Or.inl ⟨by rfl, ?y9_520112⟩) hHeld ?r9_520112
                          case y9_520112 => intro w hSw; (try dsimp only at hSw); go_simp; try with_reducible rfl
                          try simp only [Act.put, List.setIfInBounds_toArray, List.set_cons_zero, List.set_cons_succ]
                          refine wpAnyH_take (i := 10) (oi := { dst := some 177, op := Go.Op.extract (Go.Operand.tmp 167) 1, type := 4, pos := "law.go:168", after := #[{ on := 8, ground := Go.Ground.data }, { on := 12, ground := Go.Ground.gcOnly Go.Departure.lateStores }], guard := none }) (v := ?v10_520112) rfl (by kernel_rfl) (by kernel_rfl) (by kernel_rfl) (fun _ _ _ h => h) (Or.inl ⟨by rfl, ?y10_520112⟩) hHeld ?r10_520112
                          case y10_520112 => intro w hSw; (try dsimp only at hSw); go_simp; try with_reducible rfl
                          try simp only [Act.put, List.setIfInBounds_toArray, List.set_cons_zero, List.set_cons_succ]
                          refine wpAnyH_ready (rs := [12]) (by kernel_rfl) (by simp) ?_
                          refine AllReadyH.cons (o := { dst := none, op := Go.Op.store 79 (Go.Operand.tmp 20) (Go.Operand.tmp 176), type := 0, pos := "law.go:168", after := #[{ on := 11, ground := Go.Ground.data }, { on := 9, ground := Go.Ground.data }, { on := 7, ground := Go.Ground.chain }, { on := 0, ground := Go.Ground.phase }, { on := 1, ground := Go.Ground.phase }, { on := 2, ground := Go.Ground.phase }, { on := 3, ground := Go.Ground.phase }, { on := 4, ground := Go.Ground.phase }, { on := 5, ground := Go.Ground.phase }, { on := 6, ground := Go.Ground.phase }, { on := 7, ground := Go.Ground.phase }, { on := 8, ground := Go.Ground.phase }, { on := 9, ground := Go.Ground.phase }, { on := 10, ground := Go.Ground.textOnly Go.Departure.lateStores }, { on := 11, ground := Go.Ground.phase }], guard := none }) rfl (fun K hK => ?_) AllReadyH.nil
                          refine step_store_mid (by rfl) 79 (.tmp 20) (.tmp 176) (by rfl) gb 0 C.toArray (by rfl) (by rfl) (fun j hj => by obtain ⟨u, hu⟩ : ∃ u, ([.int .i64 0, .int .i64 0, .string ⟨#[]⟩, .bool false, .string ⟨#[]⟩, .int .i64 0, .int .i64 0, .int .i64 0, .int .i64 0] : List Value)[j]? = some u := ⟨_, List.getElem?_eq_getElem (show j < ([.int .i64 0, .int .i64 0, .string ⟨#[]⟩, .bool false, .string ⟨#[]⟩, .int .i64 0, .int .i64 0, .int .i64 0, .int .i64 0] : List Value).length from by have h9 : j < C.length := hj; rw [HCL.out] at h9; exact h9)⟩; obtain ⟨h1, h2⟩ := HZ.out.1 j u hu; rw [Nat.zero_add]; exact ⟨by rw [h1]; rfl, h2⟩) (by show _ = some C.length; rw [HCL.out]; kernel_rfl) (all_oneCell_toArray HC1.out) ?_
                          simp only [Act.put]
                          have HBX := Lib.hid (show HeldT gb C (y4.setCells gb 0 C) from HZ.out.into (by rw [HCL.out]; rfl))
                          have hfr := (Frm.refl y4 [gb]).sets gb 0 (Or.inl (by simp)) C
                          have hnext := hHeld.frm hfr (by simp; have := HGB.out.1; omega)
                          replace HT := Lib.hid (HT.out.frm hfr (fun b hb e => HGB.out.2 (by simp at e; exact e ▸ hb)))
                          replace HFR := Lib.hid (HFR.out.trans hfr (fun b hb => Or.inr (by simp at hb; subst hb; exact HGS.out)))
                          obtain ⟨y5, hwh⟩ : ∃ z, y4.setCells gb 0 C = z := ⟨_, rfl⟩
                          rw [hwh] at HBX hnext HT HFR
                          rw [show y4.setCells gb 0 (C.toArray : Array Value).toList = y5 from hwh]
                          clear hwh hfr HZ
                          refine hK.out _ _ (hnext) (fun hHeld2 => ?_)
                          clear hK K hHeld
                          have hHeld := hHeld2
                          clear hHeld2
                          try simp only [Act.put, List.setIfInBounds_toArray, List.set_cons_zero, List.set_cons_succ]
                          refine wpAnyH_take (i := 13) (oi := { dst := some 21, op := Go.Op.assign (Go.Operand.tmp 177), type := 4, pos := "law.go:168", after := #[{ on := 10, ground := Go.Ground.data }, { on := 12, ground := Go.Ground.chain }, { on := 0, ground := Go.Ground.phase }, { on := 1, ground := Go.Ground.phase }, { on := 2, ground := Go.Ground.phase }, { on := 3, ground := Go.Ground.phase }, { on := 4, ground := Go.Ground.phase }, { on := 5, ground := Go.Ground.phase }, { on := 6, ground := Go.Ground.phase }, { on := 7, ground := Go.Ground.phase }, { on := 8, ground := Go.Ground.phase }, { on := 9, ground := Go.Ground.phase }, { on := 10, ground := Go.Ground.phase }, { on := 11, ground := Go.Ground.phase }, { on := 12, ground := Go.Ground.phase }], guard := none }) (v := ?v13_520113) rfl (by kernel_rfl) (by kernel_rfl) (by kernel_rfl) (fun _ _ _ h => h) (Or.inl ⟨by rfl, ?y13_520113⟩) hHeld ?r13_520113
                          case y13_520113 => intro w hSw; (try dsimp only at hSw); go_simp; try with_reducible rfl
                          try simp only [Act.put, List.setIfInBounds_toArray, List.set_cons_zero, List.set_cons_succ]
                          refine wpAnyH_done (by kernel_rfl) ?_ _
                          go_wp2_with fail
                          go_meet
                          exact ⟨gb, C, ok, s9, rfl, rfl, HBX, HMR, HT, HFR, Lib.hid HGB.out.2⟩
                      · go_simp
                        have hal := (Below.refl y0.heap.size y0).alloc (Nat.le_refl _) (.cells #[.int .i64 0, .int .i64 0, .string ⟨#[]⟩, .bool false, .string ⟨#[]⟩, .int .i64 0, .int .i64 0, .int .i64 0, .int .i64 0] 79)
                        have hnext := hHeld.below hal
                        have HZ := Lib.hid (HeldT.new y0 #[.int .i64 0, .int .i64 0, .string ⟨#[]⟩, .bool false, .string ⟨#[]⟩, .int .i64 0, .int .i64 0, .int .i64 0, .int .i64 0] 79)
                        have HGB := Lib.hid (show gW < y0.heap.size ∧ y0.heap.size ∉ c2 from ⟨hHeld.2, fun e => by have := HT.out.lt _ e; omega⟩)
                        have HGS := Lib.hid (show wr.heap.size ≤ y0.heap.size from HFR.out.size)
                        replace HT := Lib.hid (HT.out.below hal)
                        replace HFR := Lib.hid (HFR.out.below hal HFR.out.size)
                        obtain ⟨y1, hwf⟩ : ∃ z, y0.alloc (.cells #[.int .i64 0, .int .i64 0, .string ⟨#[]⟩, .bool false, .string ⟨#[]⟩, .int .i64 0, .int .i64 0, .int .i64 0, .int .i64 0] 79) = z := ⟨_, rfl⟩
                        obtain ⟨gb, hgb⟩ : ∃ z, y0.heap.size = z := ⟨_, rfl⟩
                        rw [hwf] at hnext HT HFR HZ ⊢
                        rw [hgb] at HZ HGB HGS ⊢
                        clear hwf hgb hal
                        refine hK.out _ _ (hnext) (fun hHeld2 => ?_)
                        clear hK K hHeld
                        have hHeld := hHeld2
                        clear hHeld2
                        try simp only [Act.put, List.setIfInBounds_toArray, List.set_cons_zero, List.set_cons_succ]
                        refine wpAnyH_ready (rs := [4]) (by kernel_rfl) (by simp) ?_
                        refine AllReadyH.cons (o := { dst := some 172, op := Go.Op.call { callee := Go.Callee.value (Go.Operand.func 45), args := #[Go.Operand.tmp 171], argTypes := #[79] }, type := 84, pos := "law.go:168", after := #[{ on := 3, ground := Go.Ground.data }], guard := none }) rfl (fun K hK => ?_) AllReadyH.nil
                        go_simp
                        refine (waitD_any ki kp kx kt mn my mc mj mu y1).mono ?_; rintro e y2 ⟨rfl, hb⟩
                        have hnext := hHeld.below hb
                        replace HT := Lib.hid (HT.out.below hb)
                        replace HFR := Lib.hid (HFR.out.below hb HFR.out.size)
                        replace HZ := Lib.hid (HZ.out.below hb)
                        clear hb
                        refine hK.out _ _ (hnext) (fun hHeld2 => ?_)
                        clear hK K hHeld
                        have hHeld := hHeld2
                        clear hHeld2
                        try simp only [Act.put, List.setIfInBounds_toArray, List.set_cons_zero, List.set_cons_succ]
                        refine wpAnyH_ready (rs := [6]) (by kernel_rfl) (by simp) ?_
                        refine AllReadyH.cons (o := { dst := some 174, op := Go.Op.call { callee := Go.Callee.value (Go.Operand.func 46), args := #[Go.Operand.tmp 172, Go.Operand.tmp 173], argTypes := #[84, 3] }, type := 75, pos := "law.go:168", after := #[{ on := 4, ground := Go.Ground.data }, { on := 5, ground := Go.Ground.data }, { on := 4, ground := Go.Ground.chain }], guard := none }) rfl (fun K hK => ?_) AllReadyH.nil
                        go_simp
                        refine (ans_any ki kp kx kt mn my mc mj mu nn y2 HID.out HNV.out).mono ?_; rintro e y3 ⟨id, qr, aq, nq, cq, Q, rfl, hq, hnq, hgd, hb⟩
                        have hnext := hHeld.below hb
                        have HQQ := Lib.hid hq
                        have HNQ := Lib.hid hnq
                        have HGD := Lib.hid hgd
                        replace HT := Lib.hid (HT.out.below hb)
                        replace HFR := Lib.hid (HFR.out.below hb HFR.out.size)
                        replace HZ := Lib.hid (HZ.out.below hb)
                        clear hb hq hnq hgd
                        refine hK.out _ _ (hnext) (fun hHeld2 => ?_)
                        clear hK K hHeld
                        have hHeld := hHeld2
                        clear hHeld2
                        try simp only [Act.put, List.setIfInBounds_toArray, List.set_cons_zero, List.set_cons_succ]
                        refine wpAnyH_ready (rs := [7]) (by kernel_rfl) (by simp) ?_
                        refine AllReadyH.cons (o := { dst := some 175, op := Go.Op.call { callee := Go.Callee.value (Go.Operand.func 47), args := #[Go.Operand.tmp 168, Go.Operand.tmp 170, Go.Operand.tmp 174], argTypes := #[59, 69, 75] }, type := 92, pos := "law.go:168", after := #[{ on := 0, ground := Go.Ground.data }, { on := 2, ground := Go.Ground.data }, { on := 6, ground := Go.Ground.data }, { on := 6, ground := Go.Ground.chain }], guard := none }) rfl (fun K hK => ?_) AllReadyH.nil
                        go_simp
                        refine (matchR_any c2 q s2 ki kp kx kt mn my mc mj mu nn id qr aq nq cq Q y3 HT.out (by have := HLN.out; omega) HQQ.out HNQ.out HGD.out).mono ?_; rintro e y4 ⟨C, ok, s9, rfl, hcl, hc1, hmr, hts, hfm⟩
                        have hnext := hHeld.frm hfm HGW.out
                        replace HT := Lib.hid hts
                        replace HFR := Lib.hid (HFR.out.trans hfm (fun b hb => Or.inl hb))
                        have HCL := Lib.hid hcl
                        have HC1 := Lib.hid hc1
                        have HMR := Lib.hid hmr
                        replace HZ := Lib.hid (HZ.out.frm hfm HGB.out.2)
                        clear hfm hts hcl hc1 hmr HQQ HNQ HGD
                        refine hK.out _ _ (hnext) (fun hHeld2 => ?_)
                        clear hK K hHeld
                        have hHeld := hHeld2
                        clear hHeld2
                        try simp only [Act.put, List.setIfInBounds_toArray, List.set_cons_zero, List.set_cons_succ]
                        refine wpAnyH_take (i := 8) (oi := { dst := some 167, op := Go.Op.move (Go.Operand.tmp 175), type := 92, pos := "law.go:168", after := #[{ on := 7, ground := Go.Ground.data }], guard := none }) (v := ?v8_520117) rfl (by kernel_rfl) (by kernel_rfl) (by kernel_rfl) (fun _ _ _ h => h) (Or.inl ⟨by rfl, ?y8_520117⟩) hHeld ?r8_520117
                        case y8_520117 => intro w hSw; (try dsimp only at hSw); go_simp; try with_reducible rfl
                        try simp only [Act.put, List.setIfInBounds_toArray, List.set_cons_zero, List.set_cons_succ]
                        refine wpAnyH_take (i := 9) (oi := { dst := some 176, op := Go.Op.extract (Go.Operand.tmp 167) 0, type := 79, pos := "law.go:168", after := #[{ on := 8, ground := Go.Ground.data }], guard := none }) (v := ?v9_520117) rfl (by kernel_rfl) (by kernel_rfl) (by kernel_rfl) (fun _ _ _ h => h) (Or.inl ⟨by rfl, ?y9_520117⟩) hHeld ?r9_520117
                        case y9_520117 => intro w hSw; (try dsimp only at hSw); go_simp; try with_reducible rfl
                        try simp only [Act.put, List.setIfInBounds_toArray, List.set_cons_zero, List.set_cons_succ]
                        refine wpAnyH_take (i := 10) (oi := { dst := some 177, op := Go.Op.extract (Go.Operand.tmp 167) 1, type := 4, pos := "law.go:168", after := #[{ on := 8, ground := Go.Ground.data }, { on := 12, ground := Go.Ground.gcOnly Go.Departure.lateStores }], guard := none }) (v := ?v10_520117) rfl (by kernel_rfl) (by kernel_rfl) (by kernel_rfl) (fun _ _ _ h => h) (Or.inl ⟨by rfl, ?y10_520117⟩) hHeld ?r10_520117
                        case y10_520117 => intro w hSw; (try dsimp only at hSw); go_simp; try with_reducible rfl
                        try simp only [Act.put, List.setIfInBounds_toArray, List.set_cons_zero, List.set_cons_succ]
                        refine wpAnyH_ready (rs := [12]) (by kernel_rfl) (by simp) ?_
                        refine AllReadyH.cons (o := { dst := none, op := Go.Op.store 79 (Go.Operand.tmp 20) (Go.Operand.tmp 176), type := 0, pos := "law.go:168", after := #[{ on := 11, ground := Go.Ground.data }, { on := 9, ground := Go.Ground.data }, { on := 7, ground := Go.Ground.chain }, { on := 0, ground := Go.Ground.phase }, { on := 1, ground := Go.Ground.phase }, { on := 2, ground := Go.Ground.phase }, { on := 3, ground := Go.Ground.phase }, { on := 4, ground := Go.Ground.phase }, { on := 5, ground := Go.Ground.phase }, { on := 6, ground := Go.Ground.phase }, { on := 7, ground := Go.Ground.phase }, { on := 8, ground := Go.Ground.phase }, { on := 9, ground := Go.Ground.phase }, { on := 10, ground := Go.Ground.textOnly Go.Departure.lateStores }, { on := 11, ground := Go.Ground.phase }], guard := none }) rfl (fun K hK => ?_) AllReadyH.nil
                        refine step_store_mid (by rfl) 79 (.tmp 20) (.tmp 176) (by rfl) gb 0 C.toArray (by rfl) (by rfl) (fun j hj => by obtain ⟨u, hu⟩ : ∃ u, ([.int .i64 0, .int .i64 0, .string ⟨#[]⟩, .bool false, .string ⟨#[]⟩, .int .i64 0, .int .i64 0, .int .i64 0, .int .i64 0] : List Value)[j]? = some u := ⟨_, List.getElem?_eq_getElem (show j < ([.int .i64 0, .int .i64 0, .string ⟨#[]⟩, .bool false, .string ⟨#[]⟩, .int .i64 0, .int .i64 0, .int .i64 0, .int .i64 0] : List Value).length from by have h9 : j < C.length := hj; rw [HCL.out] at h9; exact h9)⟩; obtain ⟨h1, h2⟩ := HZ.out.1 j u hu; rw [Nat.zero_add]; exact ⟨by rw [h1]; rfl, h2⟩) (by show _ = some C.length; rw [HCL.out]; kernel_rfl) (all_oneCell_toArray HC1.out) ?_
                        simp only [Act.put]
                        have HBX := Lib.hid (show HeldT gb C (y4.setCells gb 0 C) from HZ.out.into (by rw [HCL.out]; rfl))
                        have hfr := (Frm.refl y4 [gb]).sets gb 0 (Or.inl (by simp)) C
                        have hnext := hHeld.frm hfr (by simp; have := HGB.out.1; omega)
                        replace HT := Lib.hid (HT.out.frm hfr (fun b hb e => HGB.out.2 (by simp at e; exact e ▸ hb)))
                        replace HFR := Lib.hid (HFR.out.trans hfr (fun b hb => Or.inr (by simp at hb; subst hb; exact HGS.out)))
                        obtain ⟨y5, hwh⟩ : ∃ z, y4.setCells gb 0 C = z := ⟨_, rfl⟩
                        rw [hwh] at HBX hnext HT HFR
                        rw [show y4.setCells gb 0 (C.toArray : Array Value).toList = y5 from hwh]
                        clear hwh hfr HZ
                        refine hK.out _ _ (hnext) (fun hHeld2 => ?_)
                        clear hK K hHeld
                        have hHeld := hHeld2
                        clear hHeld2
                        try simp only [Act.put, List.setIfInBounds_toArray, List.set_cons_zero, List.set_cons_succ]
                        refine wpAnyH_take (i := 13) (oi := { dst := some 21, op := Go.Op.assign (Go.Operand.tmp 177), type := 4, pos := "law.go:168", after := #[{ on := 10, ground := Go.Ground.data }, { on := 12, ground := Go.Ground.chain }, { on := 0, ground := Go.Ground.phase }, { on := 1, ground := Go.Ground.phase }, { on := 2, ground := Go.Ground.phase }, { on := 3, ground := Go.Ground.phase }, { on := 4, ground := Go.Ground.phase }, { on := 5, ground := Go.Ground.phase }, { on := 6, ground := Go.Ground.phase }, { on := 7, ground := Go.Ground.phase }, { on := 8, ground := Go.Ground.phase }, { on := 9, ground := Go.Ground.phase }, { on := 10, ground := Go.Ground.phase }, { on := 11, ground := Go.Ground.phase }, { on := 12, ground := Go.Ground.phase }], guard := none }) (v := ?v13_520118) rfl (by kernel_rfl) (by kernel_rfl) (by kernel_rfl) (fun _ _ _ h => h) (Or.inl ⟨by rfl, ?y13_520118⟩) hHeld ?r13_520118
                        case y13_520118 => intro w hSw; (try dsimp only at hSw); go_simp; try with_reducible rfl
                        try simp only [Act.put, List.setIfInBounds_toArray, List.set_cons_zero, List.set_cons_succ]
                        refine wpAnyH_done (by kernel_rfl) ?_ _
                        go_wp2_with fail
                        go_meet
                        exact ⟨gb, C, ok, s9, rfl, rfl, HBX, HMR, HT, HFR, Lib.hid HGB.out.2⟩
                  · have dd4 : decide (nn ≤ 4) = false := dF hn4
                    obtain rfl : nn = 5 := by omega
                    have HO8 := HO9
                    have HW0 := HW9
                    have HT0 := Lib.hid HO8.out.one.tb
                    have HLN := Lib.hid (show s2.ws.length ≤ 1000 from HO8.out.few5 HMO.out.2)
                    clear HO9 HW9 hn1 hn5 hn4
                    go_upto_region 42 with (fail)
                    go_cut [22, 23] (fun p v wx => ∃ (gb : Nat) (C : List Value) (ok : Bool) (s9 : TbP), p = .pointer (some ⟨gb, 0, none⟩) ∧ v = .bool ok ∧ Hid (HeldT gb C wx) ∧ Hid (MRes s2 ⟨⟨ki, kp, kx, kt⟩, ⟨mn, my, mc⟩, mj, mu⟩ 0 C ok s9) ∧ Hid (TbS wx c2 q s9) ∧ Hid (Frm wr wx c2) ∧ Hid (gb ∉ c2))
                    case first =>
                     as_aux_lemma =>
                      refine wp_region_held_drew (S := (fun wx => HeldT gW [.int .i64 ki, .int .i64 kp, .string kx, .bool kt, .string mn, .int .i64 my, .int .i64 mc, .int .i64 mj, .int .i64 mu] wx)) (by kernel_rfl) (HW0.out.below (Below.refl _ _).drew) (fun hHeld => ?_)
                      have hb := (Below.refl wr.heap.size wr).drew
                      have HT := Lib.hid (HT0.out.below hb)
                      have HFR := Lib.hid ((Frm.refl wr c2).below hb (Nat.le_refl _))
                      obtain ⟨y0, hwd⟩ : ∃ z, wr.drew = z := ⟨_, rfl⟩
                      rw [hwd] at HT HFR hHeld ⊢
                      clear hwd hb
                      refine wpAnyH_take (i := 0) (oi := { dst := some 187, op := Go.Op.move (Go.Operand.tmp 7), type := 59, pos := "law.go:173", after := #[], guard := none }) (v := ?v0_530101) rfl (by kernel_rfl) (by kernel_rfl) (by kernel_rfl) (fun _ _ _ h => h) (Or.inl ⟨by rfl, ?y0_530101⟩) hHeld ?r0_530101
                      case y0_530101 => intro w hSw; (try dsimp only at hSw); go_simp; try with_reducible rfl
                      try simp only [Act.put, List.setIfInBounds_toArray, List.set_cons_zero, List.set_cons_succ]
                      refine wpAnyH_take (i := 1) (oi := { dst := some 188, op := Go.Op.fieldAddr 79 (Go.Operand.tmp 18) 0, type := 0, pos := "law.go:173", after := #[], guard := none }) (v := ?v1_530101) rfl (by kernel_rfl) (by kernel_rfl) (by kernel_rfl) (fun _ _ _ h => h) (Or.inl ⟨by rfl, ?y1_530101⟩) hHeld ?r1_530101
                      case y1_530101 => intro w hSw; (try dsimp only at hSw); go_simp; try with_reducible rfl
                      try simp only [Act.put, List.setIfInBounds_toArray, List.set_cons_zero, List.set_cons_succ]
                      refine wpAnyH_take (i := 2) (oi := { dst := some 189, op := Go.Op.load 69 (Go.Operand.tmp 188), type := 69, pos := "law.go:173", after := #[{ on := 1, ground := Go.Ground.data }], guard := none }) (v := ?v2_530101) rfl (by kernel_rfl) (by kernel_rfl) (by kernel_rfl) (fun _ _ _ h => h) (Or.inl ⟨by rfl, ?y2_530101⟩) hHeld ?r2_530101
                      case y2_530101 => intro w hSw; (try dsimp only at hSw); obtain ⟨s1, s2⟩ := hSw; have t0 := (s1 0 _ rfl).1; have t1 := (s1 1 _ rfl).1; have t2 := (s1 2 _ rfl).1; have t3 := (s1 3 _ rfl).1; have t4 := (s1 4 _ rfl).1; have t5 := (s1 5 _ rfl).1; have t6 := (s1 6 _ rfl).1; have t7 := (s1 7 _ rfl).1; have t8 := (s1 8 _ rfl).1; clear s1 s2; go_simp; try with_reducible rfl
                      try simp only [Act.put, List.setIfInBounds_toArray, List.set_cons_zero, List.set_cons_succ]
                      refine wpAnyH_take (i := 3) (oi := { dst := some 190, op := Go.Op.load 79 (Go.Operand.tmp 18), type := 79, pos := "law.go:173", after := #[], guard := none }) (v := ?v3_530101) rfl (by kernel_rfl) (by kernel_rfl) (by kernel_rfl) (fun _ _ _ h => h) (Or.inl ⟨by rfl, ?y3_530101⟩) hHeld ?r3_530101
                      case y3_530101 => intro w hSw; (try dsimp only at hSw); obtain ⟨s1, s2⟩ := hSw; have t0 := (s1 0 _ rfl).1; have t1 := (s1 1 _ rfl).1; have t2 := (s1 2 _ rfl).1; have t3 := (s1 3 _ rfl).1; have t4 := (s1 4 _ rfl).1; have t5 := (s1 5 _ rfl).1; have t6 := (s1 6 _ rfl).1; have t7 := (s1 7 _ rfl).1; have t8 := (s1 8 _ rfl).1; clear s1 s2; go_simp; try with_reducible rfl
                      try simp only [Act.put, List.setIfInBounds_toArray, List.set_cons_zero, List.set_cons_succ]
                      refine wpAnyH_ready (rs := [4, 10]) (by kernel_rfl) (by simp) ?_
                      refine AllReadyH.cons (o := { dst := some 191, op := Go.Op.call { callee := Go.Callee.value (Go.Operand.func 45), args := #[Go.Operand.tmp 190], argTypes := #[79] }, type := 84, pos := "law.go:173", after := #[{ on := 3, ground := Go.Ground.data }], guard := none }) rfl (fun K hK => ?_) (AllReadyH.cons (o := { dst := some 22, op := Go.Op.alloc 79, type := 0, pos := "law.go:173", after := #[], guard := none }) rfl (fun K hK => ?_) AllReadyH.nil)
                      · go_simp
                        refine (waitD_any ki kp kx kt mn my mc mj mu y0).mono ?_; rintro e y1 ⟨rfl, hb⟩
                        have hnext := hHeld.below hb
                        replace HT := Lib.hid (HT.out.below hb)
                        replace HFR := Lib.hid (HFR.out.below hb HFR.out.size)
                        clear hb
                        refine hK.out _ _ (hnext) (fun hHeld2 => ?_)
                        clear hK K hHeld
                        have hHeld := hHeld2
                        clear hHeld2
                        try simp only [Act.put, List.setIfInBounds_toArray, List.set_cons_zero, List.set_cons_succ]
                        refine wpAnyH_ready (rs := [5, 10]) (by kernel_rfl) (by simp) ?_
                        refine AllReadyH.cons (o := { dst := some 192, op := Go.Op.call { callee := Go.Callee.value (Go.Operand.func 46), args := #[Go.Operand.tmp 191, Go.Operand.const (Go.Value.int Go.IntKind.i64 0)], argTypes := #[84, 3] }, type := 75, pos := "law.go:173", after := #[{ on := 4, ground := Go.Ground.data }, { on := 4, ground := Go.Ground.chain }], guard := none }) rfl (fun K hK => ?_) (AllReadyH.cons (o := { dst := some 22, op := Go.Op.alloc 79, type := 0, pos := "law.go:173", after := #[], guard := none }) rfl (fun K hK => ?_) AllReadyH.nil)
                        · go_simp
                          refine (ans_any ki kp kx kt mn my mc mj mu 0 y1 HID.out (by decide)).mono ?_; rintro e y2 ⟨id, qr, aq, nq, cq, Q, rfl, hq, hnq, hgd, hb⟩
                          have hnext := hHeld.below hb
                          have HQQ := Lib.hid hq
                          have HNQ := Lib.hid hnq
                          have HGD := Lib.hid hgd
                          replace HT := Lib.hid (HT.out.below hb)
                          replace HFR := Lib.hid (HFR.out.below hb HFR.out.size)
                          clear hb hq hnq hgd
                          refine hK.out _ _ (hnext) (fun hHeld2 => ?_)
                          clear hK K hHeld
                          have hHeld := hHeld2
                          clear hHeld2
                          try simp only [Act.put, List.setIfInBounds_toArray, List.set_cons_zero, List.set_cons_succ]
                          refine wpAnyH_ready (rs := [6, 10]) (by kernel_rfl) (by simp) ?_
                          refine AllReadyH.cons (o := { dst := some 193, op := Go.Op.call { callee := Go.Callee.value (Go.Operand.func 47), args := #[Go.Operand.tmp 187, Go.Operand.tmp 189, Go.Operand.tmp 192], argTypes := #[59, 69, 75] }, type := 92, pos := "law.go:173", after := #[{ on := 0, ground := Go.Ground.data }, { on := 2, ground := Go.Ground.data }, { on := 5, ground := Go.Ground.data }, { on := 5, ground := Go.Ground.chain }], guard := none }) rfl (fun K hK => ?_) (AllReadyH.cons (o := { dst := some 22, op := Go.Op.alloc 79, type := 0, pos := "law.go:173", after := #[], guard := none }) rfl (fun K hK => ?_) AllReadyH.nil)
                          · go_simp
                            refine (matchR_any c2 q s2 ki kp kx kt mn my mc mj mu 0 id qr aq nq cq Q y2 HT.out (by have := HLN.out; omega) HQQ.out HNQ.out HGD.out).mono ?_; rintro e y3 ⟨C, ok, s9, rfl, hcl, hc1, hmr, hts, hfm⟩
                            have hnext := hHeld.frm hfm HGW.out
                            replace HT := Lib.hid hts
                            replace HFR := Lib.hid (HFR.out.trans hfm (fun b hb => Or.inl hb))
                            have HCL := Lib.hid hcl
                            have HC1 := Lib.hid hc1
                            have HMR := Lib.hid hmr
                            clear hfm hts hcl hc1 hmr HQQ HNQ HGD
                            refine hK.out _ _ (hnext) (fun hHeld2 => ?_)
                            clear hK K hHeld
                            have hHeld := hHeld2
                            clear hHeld2
                            try simp only [Act.put, List.setIfInBounds_toArray, List.set_cons_zero, List.set_cons_succ]
                            refine wpAnyH_take (i := 7) (oi := { dst := some 186, op := Go.Op.move (Go.Operand.tmp 193), type := 92, pos := "law.go:173", after := #[{ on := 6, ground := Go.Ground.data }], guard := none }) (v := ?v7_530104) rfl (by kernel_rfl) (by kernel_rfl) (by kernel_rfl) (fun _ _ _ h => h) (Or.inl ⟨by rfl, ?y7_530104⟩) hHeld ?r7_530104
                            case y7_530104 => intro w hSw; (try dsimp only at hSw); go_simp; try with_reducible rfl
                            try simp only [Act.put, List.setIfInBounds_toArray, List.set_cons_zero, List.set_cons_succ]
                            refine wpAnyH_take (i := 8) (oi := { dst := some 194, op := Go.Op.extract (Go.Operand.tmp 186) 0, type := 79, pos := "law.go:173", after := #[{ on := 7, ground := Go.Ground.data }], guard := none }) (v := ?v8_530104) rfl (by kernel_rfl) (by kernel_rfl) (by kernel_rfl) (fun _ _ _ h => h) (Or.inl ⟨by rfl, ?y8_530104⟩) hHeld ?r8_530104
                            case y8_530104 => intro w hSw; (try dsimp only at hSw); go_simp; try with_reducible rfl
                            try simp only [Act.put, List.setIfInBounds_toArray, List.set_cons_zero, List.set_cons_succ]
                            refine wpAnyH_take (i := 9) (oi := { dst := some 195, op := Go.Op.extract (Go.Operand.tmp 186) 1, type := 4, pos := "law.go:173", after := #[{ on := 7, ground := Go.Ground.data }, { on := 11, ground := Go.Ground.gcOnly Go.Departure.lateStores }], guard := none }) (v := ?v9_530104) rfl (by kernel_rfl) (by kernel_rfl) (by kernel_rfl) (fun _ _ _ h => h) (Or.inl ⟨by rfl, ?y9_530104⟩) hHeld ?r9_530104
                            case y9_530104 => intro w hSw; (try dsimp only at hSw); go_simp; try with_reducible rfl
                            try simp only [Act.put, List.setIfInBounds_toArray, List.set_cons_zero, List.set_cons_succ]
                            refine wpAnyH_ready (rs := [10]) (by kernel_rfl) (by simp) ?_
                            refine AllReadyH.cons (o := { dst := some 22, op := Go.Op.alloc 79, type := 0, pos := "law.go:173", after := #[], guard := none }) rfl (fun K hK => ?_) AllReadyH.nil
                            go_simp
                            have hal := (Below.refl y3.heap.size y3).alloc (Nat.le_refl _) (.cells #[.int .i64 0, .int .i64 0, .string ⟨#[]⟩, .bool false, .string ⟨#[]⟩, .int .i64 0, .int .i64 0, .int .i64 0, .int .i64 0] 79)
                            have hnext := hHeld.below hal
                            have HZ := Lib.hid (HeldT.new y3 #[.int .i64 0, .int .i64 0, .string ⟨#[]⟩, .bool false, .string ⟨#[]⟩, .int .i64 0, .int .i64 0, .int .i64 0, .int .i64 0] 79)
                            have HGB := Lib.hid (show gW < y3.heap.size ∧ y3.heap.size ∉ c2 from ⟨hHeld.2, fun e => by have := HT.out.lt _ e; omega⟩)
                            have HGS := Lib.hid (show wr.heap.size ≤ y3.heap.size from HFR.out.size)
                            replace HT := Lib.hid (HT.out.below hal)
                            replace HFR := Lib.hid (HFR.out.below hal HFR.out.size)
                            obtain ⟨y4, hwf⟩ : ∃ z, y3.alloc (.cells #[.int .i64 0, .int .i64 0, .string ⟨#[]⟩, .bool false, .string ⟨#[]⟩, .int .i64 0, .int .i64 0, .int .i64 0, .int .i64 0] 79) = z := ⟨_, rfl⟩
                            obtain ⟨gb, hgb⟩ : ∃ z, y3.heap.size = z := ⟨_, rfl⟩
                            rw [hwf] at hnext HT HFR HZ ⊢
                            rw [hgb] at HZ HGB HGS ⊢
                            clear hwf hgb hal
                            refine hK.out _ _ (hnext) (fun hHeld2 => ?_)
                            clear hK K hHeld
                            have hHeld := hHeld2
                            clear hHeld2
                            try simp only [Act.put, List.setIfInBounds_toArray, List.set_cons_zero, List.set_cons_succ]
                            refine wpAnyH_ready (rs := [11]) (by kernel_rfl) (by simp) ?_
                            refine AllReadyH.cons (o := { dst := none, op := Go.Op.store 79 (Go.Operand.tmp 22) (Go.Operand.tmp 194), type := 0, pos := "law.go:173", after := #[{ on := 10, ground := Go.Ground.data }, { on := 8, ground := Go.Ground.data }, { on := 6, ground := Go.Ground.chain }, { on := 0, ground := Go.Ground.phase }, { on := 1, ground := Go.Ground.phase }, { on := 2, ground := Go.Ground.phase }, { on := 3, ground := Go.Ground.phase }, { on := 4, ground := Go.Ground.phase }, { on := 5, ground := Go.Ground.phase }, { on := 6, ground := Go.Ground.phase }, { on := 7, ground := Go.Ground.phase }, { on := 8, ground := Go.Ground.phase }, { on := 9, ground := Go.Ground.textOnly Go.Departure.lateStores }, { on := 10, ground := Go.Ground.phase }], guard := none }) rfl (fun K hK => ?_) AllReadyH.nil
                            refine step_store_mid (by rfl) 79 (.tmp 22) (.tmp 194) (by rfl) gb 0 C.toArray (by rfl) (by rfl) (fun j hj => by obtain ⟨u, hu⟩ : ∃ u, ([.int .i64 0, .int .i64 0, .string ⟨#[]⟩, .bool false, .string ⟨#[]⟩, .int .i64 0, .int .i64 0, .int .i64 0, .int .i64 0] : List Value)[j]? = some u := ⟨_, List.getElem?_eq_getElem (show j < ([.int .i64 0, .int .i64 0, .string ⟨#[]⟩, .bool false, .string ⟨#[]⟩, .int .i64 0, .int .i64 0, .int .i64 0, .int .i64 0] : List Value).length from by have h9 : j < C.length := hj; rw [HCL.out] at h9; exact h9)⟩; obtain ⟨h1, h2⟩ := HZ.out.1 j u hu; rw [Nat.zero_add]; exact ⟨by rw [h1]; rfl, h2⟩) (by show _ = some C.length; rw [HCL.out]; kernel_rfl) (all_oneCell_toArray HC1.out) ?_
                            simp only [Act.put]
                            have HBX := Lib.hid (show HeldT gb C (y4.setCells gb 0 C) from HZ.out.into (by rw [HCL.out]; rfl))
                            have hfr := (Frm.refl y4 [gb]).sets gb 0 (Or.inl (by simp)) C
                            have hnext := hHeld.frm hfr (by simp; have := HGB.out.1; omega)
                            replace HT := Lib.hid (HT.out.frm hfr (fun b hb e => HGB.out.2 (by simp at e; exact e ▸ hb)))
                            replace HFR := Lib.hid (HFR.out.trans hfr (fun b hb => Or.inr (by simp at hb; subst hb; exact HGS.out)))
                            obtain ⟨y5, hwh⟩ : ∃ z, y4.setCells gb 0 C = z := ⟨_, rfl⟩
                            rw [hwh] at HBX hnext HT HFR
                            rw [show y4.setCells gb 0 (C.toArray : Array Value).toList = y5 from hwh]
                            clear hwh hfr HZ
                            refine hK.out _ _ (hnext) (fun hHeld2 => ?_)
                            clear hK K hHeld
                            have hHeld := hHeld2
                            clear hHeld2
                            try simp only [Act.put, List.setIfInBounds_toArray, List.set_cons_zero, List.set_cons_succ]
                            refine wpAnyH_take (i := 12) (oi := { dst := some 23, op := Go.Op.assign (Go.Operand.tmp 195), type := 4, pos := "law.go:173", after := #[{ on := 9, ground := Go.Ground.data }, { on := 11, ground := Go.Ground.chain }, { on := 0, ground := Go.Ground.phase }, { on := 1, ground := Go.Ground.phase }, { on := 2, ground := Go.Ground.phase }, { on := 3, ground := Go.Ground.phase }, { on := 4, ground := Go.Ground.phase }, { on := 5, ground := Go.Ground.phase }, { on := 6, ground := Go.Ground.phase }, { on := 7, ground := Go.Ground.phase }, { on := 8, ground := Go.Ground.phase }, { on := 9, ground := Go.Ground.phase }, { on := 10, ground := Go.Ground.phase }, { on := 11, ground := Go.Ground.phase }], guard := none }) (v := ?v12_530106) rfl (by kernel_rfl) (by kernel_rfl) (by kernel_rfl) (fun _ _ _ h => h) (Or.inl ⟨by rfl, ?y12_530106⟩) hHeld ?r12_530106
                            case y12_530106 => intro w hSw; (try dsimp only at hSw); go_simp; try with_reducible rfl
                            try simp only [Act.put, List.setIfInBounds_toArray, List.set_cons_zero, List.set_cons_succ]
                            refine wpAnyH_done (by kernel_rfl) ?_ _
                            go_wp2_with fail
                            go_meet
                            exact ⟨gb, C, ok, s9, rfl, rfl, HBX, HMR, HT, HFR, Lib.hid HGB.out.2⟩
                          · go_simp
                            have hal := (Below.refl y2.heap.size y2).alloc (Nat.le_refl _) (.cells #[.int .i64 0, .int .i64 0, .string ⟨#[]⟩, .bool false, .string ⟨#[]⟩, .int .i64 0, .int .i64 0, .int .i64 0, .int .i64 0] 79)
                            have hnext := hHeld.below hal
                            have HZ := Lib.hid (HeldT.new y2 #[.int .i64 0, .int .i64 0, .string ⟨#[]⟩, .bool false, .string ⟨#[]⟩, .int .i64 0, .int .i64 0, .int .i64 0, .int .i64 0] 79)
                            have HGB := Lib.hid (show gW < y2.heap.size ∧ y2.heap.size ∉ c2 from ⟨hHeld.2, fun e => by have := HT.out.lt _ e; omega⟩)
                            have HGS := Lib.hid (show wr.heap.size ≤ y2.heap.size from HFR.out.size)
                            replace HT := Lib.hid (HT.out.below hal)
                            replace HFR := Lib.hid (HFR.out.below hal HFR.out.size)
                            replace HQQ := Lib.hid (HQQ.out.below hal)
                            obtain ⟨y3, hwf⟩ : ∃ z, y2.alloc (.cells #[.int .i64 0, .int .i64 0, .string ⟨#[]⟩, .bool false, .string ⟨#[]⟩, .int .i64 0, .int .i64 0, .int .i64 0, .int .i64 0] 79) = z := ⟨_, rfl⟩
                            obtain ⟨gb, hgb⟩ : ∃ z, y2.heap.size = z := ⟨_, rfl⟩
                            rw [hwf] at hnext HT HFR HZ HQQ ⊢
                            rw [hgb] at HZ HGB HGS ⊢
                            clear hwf hgb hal
                            refine hK.out _ _ (hnext) (fun hHeld2 => ?_)
                            clear hK K hHeld
                            have hHeld := hHeld2
                            clear hHeld2
                            try simp only [Act.put, List.setIfInBounds_toArray, List.set_cons_zero, List.set_cons_succ]
                            refine wpAnyH_ready (rs := [6]) (by kernel_rfl) (by simp) ?_
                            refine AllReadyH.cons (o := { dst := some 193, op := Go.Op.call { callee := Go.Callee.value (Go.Operand.func 47), args := #[Go.Operand.tmp 187, Go.Operand.tmp 189, Go.Operand.tmp 192], argTypes := #[59, 69, 75] }, type := 92, pos := "law.go:173", after := #[{ on := 0, ground := Go.Ground.data }, { on := 2, ground := Go.Ground.data }, { on := 5, ground := Go.Ground.data }, { on := 5, ground := Go.Ground.chain }], guard := none }) rfl (fun K hK => ?_) AllReadyH.nil
                            go_simp
                            refine (matchR_any c2 q s2 ki kp kx kt mn my mc mj mu 0 id qr aq nq cq Q y3 HT.out (by have := HLN.out; omega) HQQ.out HNQ.out HGD.out).mono ?_; rintro e y4 ⟨C, ok, s9, rfl, hcl, hc1, hmr, hts, hfm⟩
                            have hnext := hHeld.frm hfm HGW.out
                            replace HT := Lib.hid hts
                            replace HFR := Lib.hid (HFR.out.trans hfm (fun b hb => Or.inl hb))
                            have HCL := Lib.hid hcl
                            have HC1 := Lib.hid hc1
                            have HMR := Lib.hid hmr
                            replace HZ := Lib.hid (HZ.out.frm hfm HGB.out.2)
                            clear hfm hts hcl hc1 hmr HQQ HNQ HGD
                            refine hK.out _ _ (hnext) (fun hHeld2 => ?_)
                            clear hK K hHeld
                            have hHeld := hHeld2
                            clear hHeld2
                            try simp only [Act.put, List.setIfInBounds_toArray, List.set_cons_zero, List.set_cons_succ]
                            refine wpAnyH_take (i := 7) (oi := { dst := some 186, op := Go.Op.move (Go.Operand.tmp 193), type := 92, pos := "law.go:173", after := #[{ on := 6, ground := Go.Ground.data }], guard := none }) (v := ?v7_530108) rfl (by kernel_rfl) (by kernel_rfl) (by kernel_rfl) (fun _ _ _ h => h) (Or.inl ⟨by rfl, ?y7_530108⟩) hHeld ?r7_530108
                            case y7_530108 => intro w hSw; (try dsimp only at hSw); go_simp; try with_reducible rfl
                            try simp only [Act.put, List.setIfInBounds_toArray, List.set_cons_zero, List.set_cons_succ]
                            refine wpAnyH_take (i := 8) (oi := { dst := some 194, op := Go.Op.extract (Go.Operand.tmp 186) 0, type := 79, pos := "law.go:173", after := #[{ on := 7, ground := Go.Ground.data }], guard := none }) (v := ?v8_530108) rfl (by kernel_rfl) (by kernel_rfl) (by kernel_rfl) (fun _ _ _ h => h) (Or.inl ⟨by rfl, ?y8_530108⟩) hHeld ?r8_530108
                            case y8_530108 => intro w hSw; (try dsimp only at hSw); go_simp; try with_reducible rfl
                            try simp only [Act.put, List.setIfInBounds_toArray, List.set_cons_zero, List.set_cons_succ]
                            refine wpAnyH_take (i := 9) (oi := { dst := some 195, op := Go.Op.extract (Go.Operand.tmp 186) 1, type := 4, pos := "law.go:173", after := #[{ on := 7, ground := Go.Ground.data }, { on := 11, ground := Go.Ground.gcOnly Go.Departure.lateStores }], guard := none }) (v := ?v9_530108) rfl (by kernel_rfl) (by kernel_rfl) (by kernel_rfl) (fun _ _ _ h => h) (Or.inl ⟨by rfl, ?y9_530108⟩) hHeld ?r9_530108
                            case y9_530108 => intro w hSw; (try dsimp only at hSw); go_simp; try with_reducible rfl
                            try simp only [Act.put, List.setIfInBounds_toArray, List.set_cons_zero, List.set_cons_succ]
                            refine wpAnyH_ready (rs := [11]) (by kernel_rfl) (by simp) ?_
                            refine AllReadyH.cons (o := { dst := none, op := Go.Op.store 79 (Go.Operand.tmp 22) (Go.Operand.tmp 194), type := 0, pos := "law.go:173", after := #[{ on := 10, ground := Go.Ground.data }, { on := 8, ground := Go.Ground.data }, { on := 6, ground := Go.Ground.chain }, { on := 0, ground := Go.Ground.phase }, { on := 1, ground := Go.Ground.phase }, { on := 2, ground := Go.Ground.phase }, { on := 3, ground := Go.Ground.phase }, { on := 4, ground := Go.Ground.phase }, { on := 5, ground := Go.Ground.phase }, { on := 6, ground := Go.Ground.phase }, { on := 7, ground := Go.Ground.phase }, { on := 8, ground := Go.Ground.phase }, { on := 9, ground := Go.Ground.textOnly Go.Departure.lateStores }, { on := 10, ground := Go.Ground.phase }], guard := none }) rfl (fun K hK => ?_) AllReadyH.nil
                            refine step_store_mid (by rfl) 79 (.tmp 22) (.tmp 194) (by rfl) gb 0 C.toArray (by rfl) (by rfl) (fun j hj => by obtain ⟨u, hu⟩ : ∃ u, ([.int .i64 0, .int .i64 0, .string ⟨#[]⟩, .bool false, .string ⟨#[]⟩, .int .i64 0, .int .i64 0, .int .i64 0, .int .i64 0] : List Value)[j]? = some u := ⟨_, List.getElem?_eq_getElem (show j < ([.int .i64 0, .int .i64 0, .string ⟨#[]⟩, .bool false, .string ⟨#[]⟩, .int .i64 0, .int .i64 0, .int .i64 0, .int .i64 0] : List Value).length from by have h9 : j < C.length := hj; rw [HCL.out] at h9; exact h9)⟩; obtain ⟨h1, h2⟩ := HZ.out.1 j u hu; rw [Nat.zero_add]; exact ⟨by rw [h1]; rfl, h2⟩) (by show _ = some C.length; rw [HCL.out]; kernel_rfl) (all_oneCell_toArray HC1.out) ?_
                            simp only [Act.put]
                            have HBX := Lib.hid (show HeldT gb C (y4.setCells gb 0 C) from HZ.out.into (by rw [HCL.out]; rfl))
                            have hfr := (Frm.refl y4 [gb]).sets gb 0 (Or.inl (by simp)) C
                            have hnext := hHeld.frm hfr (by simp; have := HGB.out.1; omega)
                            replace HT := Lib.hid (HT.out.frm hfr (fun b hb e => HGB.out.2 (by simp at e; exact e ▸ hb)))
                            replace HFR := Lib.hid (HFR.out.trans hfr (fun b hb => Or.inr (by simp at hb; subst hb; exact HGS.out)))
                            obtain ⟨y5, hwh⟩ : ∃ z, y4.setCells gb 0 C = z := ⟨_, rfl⟩
                            rw [hwh] at HBX hnext HT HFR
                            rw [show y4.setCells gb 0 (C.toArray : Array Value).toList = y5 from hwh]
                            clear hwh hfr HZ
                            refine hK.out _ _ (hnext) (fun hHeld2 => ?_)
                            clear hK K hHeld
                            have hHeld := hHeld2
                            clear hHeld2
                            try simp only [Act.put, List.setIfInBounds_toArray, List.set_cons_zero, List.set_cons_succ]
                            refine wpAnyH_take (i := 12) (oi := { dst := some 23, op := Go.Op.assign (Go.Operand.tmp 195), type := 4, pos := "law.go:173", after := #[{ on := 9, ground := Go.Ground.data }, { on := 11, ground := Go.Ground.chain }, { on := 0, ground := Go.Ground.phase }, { on := 1, ground := Go.Ground.phase }, { on := 2, ground := Go.Ground.phase }, { on := 3, ground := Go.Ground.phase }, { on := 4, ground := Go.Ground.phase }, { on := 5, ground := Go.Ground.phase }, { on := 6, ground := Go.Ground.phase }, { on := 7, ground := Go.Ground.phase }, { on := 8, ground := Go.Ground.phase }, { on := 9, ground := Go.Ground.phase }, { on := 10, ground := Go.Ground.phase }, { on := 11, ground := Go.Ground.phase }], guard := none }) (v := ?v12_530109) rfl (by kernel_rfl) (by kernel_rfl) (by kernel_rfl) (fun _ _ _ h => h) (Or.inl ⟨by rfl, ?y12_530109⟩) hHeld ?r12_530109
                            case y12_530109 => intro w hSw; (try dsimp only at hSw); go_simp; try with_reducible rfl
                            try simp only [Act.put, List.setIfInBounds_toArray, List.set_cons_zero, List.set_cons_succ]
                            refine wpAnyH_done (by kernel_rfl) ?_ _
                            go_wp2_with fail
                            go_meet
                            exact ⟨gb, C, ok, s9, rfl, rfl, HBX, HMR, HT, HFR, Lib.hid HGB.out.2⟩
                        · go_simp
                          have hal := (Below.refl y1.heap.size y1).alloc (Nat.le_refl _) (.cells #[.int .i64 0, .int .i64 0, .string ⟨#[]⟩, .bool false, .string ⟨#[]⟩, .int .i64 0, .int .i64 0, .int .i64 0, .int .i64 0] 79)
                          have hnext := hHeld.below hal
                          have HZ := Lib.hid (HeldT.new y1 #[.int .i64 0, .int .i64 0, .string ⟨#[]⟩, .bool false, .string ⟨#[]⟩, .int .i64 0, .int .i64 0, .int .i64 0, .int .i64 0] 79)
                          have HGB := Lib.hid (show gW < y1.heap.size ∧ y1.heap.size ∉ c2 from ⟨hHeld.2, fun e => by have := HT.out.lt _ e; omega⟩)
                          have HGS := Lib.hid (show wr.heap.size ≤ y1.heap.size from HFR.out.size)
                          replace HT := Lib.hid (HT.out.below hal)
                          replace HFR := Lib.hid (HFR.out.below hal HFR.out.size)
                          obtain ⟨y2, hwf⟩ : ∃ z, y1.alloc (.cells #[.int .i64 0, .int .i64 0, .string ⟨#[]⟩, .bool false, .string ⟨#[]⟩, .int .i64 0, .int .i64 0, .int .i64 0, .int .i64 0] 79) = z := ⟨_, rfl⟩
                          obtain ⟨gb, hgb⟩ : ∃ z, y1.heap.size = z := ⟨_, rfl⟩
                          rw [hwf] at hnext HT HFR HZ ⊢
                          rw [hgb] at HZ HGB HGS ⊢
                          clear hwf hgb hal
                          refine hK.out _ _ (hnext) (fun hHeld2 => ?_)
                          clear hK K hHeld
                          have hHeld := hHeld2
                          clear hHeld2
                          try simp only [Act.put, List.setIfInBounds_toArray, List.set_cons_zero, List.set_cons_succ]
                          refine wpAnyH_ready (rs := [5]) (by kernel_rfl) (by simp) ?_
                          refine AllReadyH.cons (o := { dst := some 192, op := Go.Op.call { callee := Go.Callee.value (Go.Operand.func 46), args := #[Go.Operand.tmp 191, Go.Operand.const (Go.Value.int Go.IntKind.i64 0)], argTypes := #[84, 3] }, type := 75, pos := "law.go:173", after := #[{ on := 4, ground := Go.Ground.data }, { on := 4, ground := Go.Ground.chain }], guard := none }) rfl (fun K hK => ?_) AllReadyH.nil
                          go_simp
                          refine (ans_any ki kp kx kt mn my mc mj mu 0 y2 HID.out (by decide)).mono ?_; rintro e y3 ⟨id, qr, aq, nq, cq, Q, rfl, hq, hnq, hgd, hb⟩
                          have hnext := hHeld.below hb
                          have HQQ := Lib.hid hq
                          have HNQ := Lib.hid hnq
                          have HGD := Lib.hid hgd
                          replace HT := Lib.hid (HT.out.below hb)
                          replace HFR := Lib.hid (HFR.out.below hb HFR.out.size)
                          replace HZ := Lib.hid (HZ.out.below hb)
                          clear hb hq hnq hgd
                          refine hK.out _ _ (hnext) (fun hHeld2 => ?_)
                          clear hK K hHeld
                          have hHeld := hHeld2
                          clear hHeld2
                          try simp only [Act.put, List.setIfInBounds_toArray, List.set_cons_zero, List.set_cons_succ]
                          refine wpAnyH_ready (rs := [6]) (by kernel_rfl) (by simp) ?_
                          refine AllReadyH.cons (o := { dst := some 193, op := Go.Op.call { callee := Go.Callee.value (Go.Operand.func 47), args := #[Go.Operand.tmp 187, Go.Operand.tmp 189, Go.Operand.tmp 192], argTypes := #[59, 69, 75] }, type := 92, pos := "law.go:173", after := #[{ on := 0, ground := Go.Ground.data }, { on := 2, ground := Go.Ground.data }, { on := 5, ground := Go.Ground.data }, { on := 5, ground := Go.Ground.chain }], guard := none }) rfl (fun K hK => ?_) AllReadyH.nil
                          go_simp
                          refine (matchR_any c2 q s2 ki kp kx kt mn my mc mj mu 0 id qr aq nq cq Q y3 HT.out (by have := HLN.out; omega) HQQ.out HNQ.out HGD.out).mono ?_; rintro e y4 ⟨C, ok, s9, rfl, hcl, hc1, hmr, hts, hfm⟩
                          have hnext := hHeld.frm hfm HGW.out
                          replace HT := Lib.hid hts
                          replace HFR := Lib.hid (HFR.out.trans hfm (fun b hb => Or.inl hb))
                          have HCL := Lib.hid hcl
                          have HC1 := Lib.hid hc1
                          have HMR := Lib.hid hmr
                          replace HZ := Lib.hid (HZ.out.frm hfm HGB.out.2)
                          clear hfm hts hcl hc1 hmr HQQ HNQ HGD
                          refine hK.out _ _ (hnext) (fun hHeld2 => ?_)
                          clear hK K hHeld
                          have hHeld := hHeld2
                          clear hHeld2
                          try simp only [Act.put, List.setIfInBounds_toArray, List.set_cons_zero, List.set_cons_succ]
                          refine wpAnyH_take (i := 7) (oi := { dst := some 186, op := Go.Op.move (Go.Operand.tmp 193), type := 92, pos := "law.go:173", after := #[{ on := 6, ground := Go.Ground.data }], guard := none }) (v := ?v7_530112) rfl (by kernel_rfl) (by kernel_rfl) (by kernel_rfl) (fun _ _ _ h => h) (Or.inl ⟨by rfl, ?y7_530112⟩) hHeld ?r7_530112
                          case y7_530112 => intro w hSw; (try dsimp only at hSw); go_simp; try with_reducible rfl
                          try simp only [Act.put, List.setIfInBounds_toArray, List.set_cons_zero, List.set_cons_succ]
                          refine wpAnyH_take (i := 8) (oi := { dst := some 194, op := Go.Op.extract (Go.Operand.tmp 186) 0, type := 79, pos := "law.go:173", after := #[{ on := 7, ground := Go.Ground.data }], guard := none }) (v := ?v8_530112) rfl (by kernel_rfl) (by kernel_rfl) (by kernel_rfl) (fun _ _ _ h => h) (Or.inl ⟨by rfl, ?y8_530112⟩) hHeld ?r8_530112
                          case y8_530112 => intro w hSw; (try dsimp only at hSw); go_simp; try with_reducible rfl
                          try simp only [Act.put, List.setIfInBounds_toArray, List.set_cons_zero, List.set_cons_succ]
                          refine wpAnyH_take (i := 9) (oi := { dst := some 195, op := Go.Op.extract (Go.Operand.tmp 186) 1, type := 4, pos := "law.go:173", after := #[{ on := 7, ground := Go.Ground.data }, { on := 11, ground := Go.Ground.gcOnly Go.Departure.lateStores }], guard := none }) (v := ?v9_530112) rfl (by kernel_rfl) (by kernel_rfl) (by kernel_rfl) (fun _ _ _ h => h) (Or.inl ⟨by rfl, ?y9_530112⟩) hHeld ?r9_530112
                          case y9_530112 => intro w hSw; (try dsimp only at hSw); go_simp; try with_reducible rfl
                          try simp only [Act.put, List.setIfInBounds_toArray, List.set_cons_zero, List.set_cons_succ]
                          refine wpAnyH_ready (rs := [11]) (by kernel_rfl) (by simp) ?_
                          refine AllReadyH.cons (o := { dst := none, op := Go.Op.store 79 (Go.Operand.tmp 22) (Go.Operand.tmp 194), type := 0, pos := "law.go:173", after := #[{ on := 10, ground := Go.Ground.data }, { on := 8, ground := Go.Ground.data }, { on := 6, ground := Go.Ground.chain }, { on := 0, ground := Go.Ground.phase }, { on := 1, ground := Go.Ground.phase }, { on := 2, ground := Go.Ground.phase }, { on := 3, ground := Go.Ground.phase }, { on := 4, ground := Go.Ground.phase }, { on := 5, ground := Go.Ground.phase }, { on := 6, ground := Go.Ground.phase }, { on := 7, ground := Go.Ground.phase }, { on := 8, ground := Go.Ground.phase }, { on := 9, ground := Go.Ground.textOnly Go.Departure.lateStores }, { on := 10, ground := Go.Ground.phase }], guard := none }) rfl (fun K hK => ?_) AllReadyH.nil
                          refine step_store_mid (by rfl) 79 (.tmp 22) (.tmp 194) (by rfl) gb 0 C.toArray (by rfl) (by rfl) (fun j hj => by obtain ⟨u, hu⟩ : ∃ u, ([.int .i64 0, .int .i64 0, .string ⟨#[]⟩, .bool false, .string ⟨#[]⟩, .int .i64 0, .int .i64 0, .int .i64 0, .int .i64 0] : List Value)[j]? = some u := ⟨_, List.getElem?_eq_getElem (show j < ([.int .i64 0, .int .i64 0, .string ⟨#[]⟩, .bool false, .string ⟨#[]⟩, .int .i64 0, .int .i64 0, .int .i64 0, .int .i64 0] : List Value).length from by have h9 : j < C.length := hj; rw [HCL.out] at h9; exact h9)⟩; obtain ⟨h1, h2⟩ := HZ.out.1 j u hu; rw [Nat.zero_add]; exact ⟨by rw [h1]; rfl, h2⟩) (by show _ = some C.length; rw [HCL.out]; kernel_rfl) (all_oneCell_toArray HC1.out) ?_
                          simp only [Act.put]
                          have HBX := Lib.hid (show HeldT gb C (y4.setCells gb 0 C) from HZ.out.into (by rw [HCL.out]; rfl))
                          have hfr := (Frm.refl y4 [gb]).sets gb 0 (Or.inl (by simp)) C
                          have hnext := hHeld.frm hfr (by simp; have := HGB.out.1; omega)
                          replace HT := Lib.hid (HT.out.frm hfr (fun b hb e => HGB.out.2 (by simp at e; exact e ▸ hb)))
                          replace HFR := Lib.hid (HFR.out.trans hfr (fun b hb => Or.inr (by simp at hb; subst hb; exact HGS.out)))
                          obtain ⟨y5, hwh⟩ : ∃ z, y4.setCells gb 0 C = z := ⟨_, rfl⟩
                          rw [hwh] at HBX hnext HT HFR
                          rw [show y4.setCells gb 0 (C.toArray : Array Value).toList = y5 from hwh]
                          clear hwh hfr HZ
                          refine hK.out _ _ (hnext) (fun hHeld2 => ?_)
                          clear hK K hHeld
                          have hHeld := hHeld2
                          clear hHeld2
                          try simp only [Act.put, List.setIfInBounds_toArray, List.set_cons_zero, List.set_cons_succ]
                          refine wpAnyH_take (i := 12) (oi := { dst := some 23, op := Go.Op.assign (Go.Operand.tmp 195), type := 4, pos := "law.go:173", after := #[{ on := 9, ground := Go.Ground.data }, { on := 11, ground := Go.Ground.chain }, { on := 0, ground := Go.Ground.phase }, { on := 1, ground := Go.Ground.phase }, { on := 2, ground := Go.Ground.phase }, { on := 3, ground := Go.Ground.phase }, { on := 4, ground := Go.Ground.phase }, { on := 5, ground := Go.Ground.phase }, { on := 6, ground := Go.Ground.phase }, { on := 7, ground := Go.Ground.phase }, { on := 8, ground := Go.Ground.phase }, { on := 9, ground := Go.Ground.phase }, { on := 10, ground := Go.Ground.phase }, { on := 11, ground := Go.Ground.phase }], guard := none }) (v := ?v12_530113) rfl (by kernel_rfl) (by kernel_rfl) (by kernel_rfl) (fun _ _ _ h => h) (Or.inl ⟨by rfl, ?y12_530113⟩) hHeld ?r12_530113
                          case y12_530113 => intro w hSw; (try dsimp only at hSw); go_simp; try with_reducible rfl
                          try simp only [Act.put, List.setIfInBounds_toArray, List.set_cons_zero, List.set_cons_succ]
                          refine wpAnyH_done (by kernel_rfl) ?_ _
                          go_wp2_with fail
                          go_meet
                          exact ⟨gb, C, ok, s9, rfl, rfl, HBX, HMR, HT, HFR, Lib.hid HGB.out.2⟩
                      · go_simp
                        have hal := (Below.refl y0.heap.size y0).alloc (Nat.le_refl _) (.cells #[.int .i64 0, .int .i64 0, .string ⟨#[]⟩, .bool false, .string ⟨#[]⟩, .int .i64 0, .int .i64 0, .int .i64 0, .int .i64 0] 79)
                        have hnext := hHeld.below hal
                        have HZ := Lib.hid (HeldT.new y0 #[.int .i64 0, .int .i64 0, .string ⟨#[]⟩, .bool false, .string ⟨#[]⟩, .int .i64 0, .int .i64 0, .int .i64 0, .int .i64 0] 79)
                        have HGB := Lib.hid (show gW < y0.heap.size ∧ y0.heap.size ∉ c2 from ⟨hHeld.2, fun e => by have := HT.out.lt _ e; omega⟩)
                        have HGS := Lib.hid (show wr.heap.size ≤ y0.heap.size from HFR.out.size)
                        replace HT := Lib.hid (HT.out.below hal)
                        replace HFR := Lib.hid (HFR.out.below hal HFR.out.size)
                        obtain ⟨y1, hwf⟩ : ∃ z, y0.alloc (.cells #[.int .i64 0, .int .i64 0, .string ⟨#[]⟩, .bool false, .string ⟨#[]⟩, .int .i64 0, .int .i64 0, .int .i64 0, .int .i64 0] 79) = z := ⟨_, rfl⟩
                        obtain ⟨gb, hgb⟩ : ∃ z, y0.heap.size = z := ⟨_, rfl⟩
                        rw [hwf] at hnext HT HFR HZ ⊢
                        rw [hgb] at HZ HGB HGS ⊢
                        clear hwf hgb hal
                        refine hK.out _ _ (hnext) (fun hHeld2 => ?_)
                        clear hK K hHeld
                        have hHeld := hHeld2
                        clear hHeld2
                        try simp only [Act.put, List.setIfInBounds_toArray, List.set_cons_zero, List.set_cons_succ]
                        refine wpAnyH_ready (rs := [4]) (by kernel_rfl) (by simp) ?_
                        refine AllReadyH.cons (o := { dst := some 191, op := Go.Op.call { callee := Go.Callee.value (Go.Operand.func 45), args := #[Go.Operand.tmp 190], argTypes := #[79] }, type := 84, pos := "law.go:173", after := #[{ on := 3, ground := Go.Ground.data }], guard := none }) rfl (fun K hK => ?_) AllReadyH.nil
                        go_simp
                        refine (waitD_any ki kp kx kt mn my mc mj mu y1).mono ?_; rintro e y2 ⟨rfl, hb⟩
                        have hnext := hHeld.below hb
                        replace HT := Lib.hid (HT.out.below hb)
                        replace HFR := Lib.hid (HFR.out.below hb HFR.out.size)
                        replace HZ := Lib.hid (HZ.out.below hb)
                        clear hb
                        refine hK.out _ _ (hnext) (fun hHeld2 => ?_)
                        clear hK K hHeld
                        have hHeld := hHeld2
                        clear hHeld2
                        try simp only [Act.put, List.setIfInBounds_toArray, List.set_cons_zero, List.set_cons_succ]
                        refine wpAnyH_ready (rs := [5]) (by kernel_rfl) (by simp) ?_
                        refine AllReadyH.cons (o := { dst := some 192, op := Go.Op.call { callee := Go.Callee.value (Go.Operand.func 46), args := #[Go.Operand.tmp 191, Go.Operand.const (Go.Value.int Go.IntKind.i64 0)], argTypes := #[84, 3] }, type := 75, pos := "law.go:173", after := #[{ on := 4, ground := Go.Ground.data }, { on := 4, ground := Go.Ground.chain }], guard := none }) rfl (fun K hK => ?_) AllReadyH.nil
                        go_simp
                        refine (ans_any ki kp kx kt mn my mc mj mu 0 y2 HID.out (by decide)).mono ?_; rintro e y3 ⟨id, qr, aq, nq, cq, Q, rfl, hq, hnq, hgd, hb⟩
                        have hnext := hHeld.below hb
                        have HQQ := Lib.hid hq
                        have HNQ := Lib.hid hnq
                        have HGD := Lib.hid hgd
                        replace HT := Lib.hid (HT.out.below hb)
                        replace HFR := Lib.hid (HFR.out.below hb HFR.out.size)
                        replace HZ := Lib.hid (HZ.out.below hb)
                        clear hb hq hnq hgd
                        refine hK.out _ _ (hnext) (fun hHeld2 => ?_)
                        clear hK K hHeld
                        have hHeld := hHeld2
                        clear hHeld2
                        try simp only [Act.put, List.setIfInBounds_toArray, List.set_cons_zero, List.set_cons_succ]
                        refine wpAnyH_ready (rs := [6]) (by kernel_rfl) (by simp) ?_
                        refine AllReadyH.cons (o := { dst := some 193, op := Go.Op.call { callee := Go.Callee.value (Go.Operand.func 47), args := #[Go.Operand.tmp 187, Go.Operand.tmp 189, Go.Operand.tmp 192], argTypes := #[59, 69, 75] }, type := 92, pos := "law.go:173", after := #[{ on := 0, ground := Go.Ground.data }, { on := 2, ground := Go.Ground.data }, { on := 5, ground := Go.Ground.data }, { on := 5, ground := Go.Ground.chain }], guard := none }) rfl (fun K hK => ?_) AllReadyH.nil
                        go_simp
                        refine (matchR_any c2 q s2 ki kp kx kt mn my mc mj mu 0 id qr aq nq cq Q y3 HT.out (by have := HLN.out; omega) HQQ.out HNQ.out HGD.out).mono ?_; rintro e y4 ⟨C, ok, s9, rfl, hcl, hc1, hmr, hts, hfm⟩
                        have hnext := hHeld.frm hfm HGW.out
                        replace HT := Lib.hid hts
                        replace HFR := Lib.hid (HFR.out.trans hfm (fun b hb => Or.inl hb))
                        have HCL := Lib.hid hcl
                        have HC1 := Lib.hid hc1
                        have HMR := Lib.hid hmr
                        replace HZ := Lib.hid (HZ.out.frm hfm HGB.out.2)
                        clear hfm hts hcl hc1 hmr HQQ HNQ HGD
                        refine hK.out _ _ (hnext) (fun hHeld2 => ?_)
                        clear hK K hHeld
                        have hHeld := hHeld2
                        clear hHeld2
                        try simp only [Act.put, List.setIfInBounds_toArray, List.set_cons_zero, List.set_cons_succ]
                        refine wpAnyH_take (i := 7) (oi := { dst := some 186, op := Go.Op.move (Go.Operand.tmp 193), type := 92, pos := "law.go:173", after := #[{ on := 6, ground := Go.Ground.data }], guard := none }) (v := ?v7_530117) rfl (by kernel_rfl) (by kernel_rfl) (by kernel_rfl) (fun _ _ _ h => h) (Or.inl ⟨by rfl, ?y7_530117⟩) hHeld ?r7_530117
                        case y7_530117 => intro w hSw; (try dsimp only at hSw); go_simp; try with_reducible rfl
                        try simp only [Act.put, List.setIfInBounds_toArray, List.set_cons_zero, List.set_cons_succ]
                        refine wpAnyH_take (i := 8) (oi := { dst := some 194, op := Go.Op.extract (Go.Operand.tmp 186) 0, type := 79, pos := "law.go:173", after := #[{ on := 7, ground := Go.Ground.data }], guard := none }) (v := ?v8_530117) rfl (by kernel_rfl) (by kernel_rfl) (by kernel_rfl) (fun _ _ _ h => h) (Or.inl ⟨by rfl, ?y8_530117⟩) hHeld ?r8_530117
                        case y8_530117 => intro w hSw; (try dsimp only at hSw); go_simp; try with_reducible rfl
                        try simp only [Act.put, List.setIfInBounds_toArray, List.set_cons_zero, List.set_cons_succ]
                        refine wpAnyH_take (i := 9) (oi := { dst := some 195, op := Go.Op.extract (Go.Operand.tmp 186) 1, type := 4, pos := "law.go:173", after := #[{ on := 7, ground := Go.Ground.data }, { on := 11, ground := Go.Ground.gcOnly Go.Departure.lateStores }], guard := none }) (v := ?v9_530117) rfl (by kernel_rfl) (by kernel_rfl) (by kernel_rfl) (fun _ _ _ h => h) (Or.inl ⟨by rfl, ?y9_530117⟩) hHeld ?r9_530117
                        case y9_530117 => intro w hSw; (try dsimp only at hSw); go_simp; try with_reducible rfl
                        try simp only [Act.put, List.setIfInBounds_toArray, List.set_cons_zero, List.set_cons_succ]
                        refine wpAnyH_ready (rs := [11]) (by kernel_rfl) (by simp) ?_
                        refine AllReadyH.cons (o := { dst := none, op := Go.Op.store 79 (Go.Operand.tmp 22) (Go.Operand.tmp 194), type := 0, pos := "law.go:173", after := #[{ on := 10, ground := Go.Ground.data }, { on := 8, ground := Go.Ground.data }, { on := 6, ground := Go.Ground.chain }, { on := 0, ground := Go.Ground.phase }, { on := 1, ground := Go.Ground.phase }, { on := 2, ground := Go.Ground.phase }, { on := 3, ground := Go.Ground.phase }, { on := 4, ground := Go.Ground.phase }, { on := 5, ground := Go.Ground.phase }, { on := 6, ground := Go.Ground.phase }, { on := 7, ground := Go.Ground.phase }, { on := 8, ground := Go.Ground.phase }, { on := 9, ground := Go.Ground.textOnly Go.Departure.lateStores }, { on := 10, ground := Go.Ground.phase }], guard := none }) rfl (fun K hK => ?_) AllReadyH.nil
                        refine step_store_mid (by rfl) 79 (.tmp 22) (.tmp 194) (by rfl) gb 0 C.toArray (by rfl) (by rfl) (fun j hj => by obtain ⟨u, hu⟩ : ∃ u, ([.int .i64 0, .int .i64 0, .string ⟨#[]⟩, .bool false, .string ⟨#[]⟩, .int .i64 0, .int .i64 0, .int .i64 0, .int .i64 0] : List Value)[j]? = some u := ⟨_, List.getElem?_eq_getElem (show j < ([.int .i64 0, .int .i64 0, .string ⟨#[]⟩, .bool false, .string ⟨#[]⟩, .int .i64 0, .int .i64 0, .int .i64 0, .int .i64 0] : List Value).length from by have h9 : j < C.length := hj; rw [HCL.out] at h9; exact h9)⟩; obtain ⟨h1, h2⟩ := HZ.out.1 j u hu; rw [Nat.zero_add]; exact ⟨by rw [h1]; rfl, h2⟩) (by show _ = some C.length; rw [HCL.out]; kernel_rfl) (all_oneCell_toArray HC1.out) ?_
                        simp only [Act.put]
                        have HBX := Lib.hid (show HeldT gb C (y4.setCells gb 0 C) from HZ.out.into (by rw [HCL.out]; rfl))
                        have hfr := (Frm.refl y4 [gb]).sets gb 0 (Or.inl (by simp)) C
                        have hnext := hHeld.frm hfr (by simp; have := HGB.out.1; omega)
                        replace HT := Lib.hid (HT.out.frm hfr (fun b hb e => HGB.out.2 (by simp at e; exact e ▸ hb)))
                        replace HFR := Lib.hid (HFR.out.trans hfr (fun b hb => Or.inr (by simp at hb; subst hb; exact HGS.out)))
                        obtain ⟨y5, hwh⟩ : ∃ z, y4.setCells gb 0 C = z := ⟨_, rfl⟩
                        rw [hwh] at HBX hnext HT HFR
                        rw [show y4.setCells gb 0 (C.toArray : Array Value).toList = y5 from hwh]
                        clear hwh hfr HZ
                        refine hK.out _ _ (hnext) (fun hHeld2 => ?_)
                        clear hK K hHeld
                        have hHeld := hHeld2
                        clear hHeld2
                        try simp only [Act.put, List.setIfInBounds_toArray, List.set_cons_zero, List.set_cons_succ]
                        refine wpAnyH_take (i := 12) (oi := { dst := some 23, op := Go.Op.assign (Go.Operand.tmp 195), type := 4, pos := "law.go:173", after := #[{ on := 9, ground := Go.Ground.data }, { on := 11, ground := Go.Ground.chain }, { on := 0, ground := Go.Ground.phase }, { on := 1, ground := Go.Ground.phase }, { on := 2, ground := Go.Ground.phase }, { on := 3, ground := Go.Ground.phase }, { on := 4, ground := Go.Ground.phase }, { on := 5, ground := Go.Ground.phase }, { on := 6, ground := Go.Ground.phase }, { on := 7, ground := Go.Ground.phase }, { on := 8, ground := Go.Ground.phase }, { on := 9, ground := Go.Ground.phase }, { on := 10, ground := Go.Ground.phase }, { on := 11, ground := Go.Ground.phase }], guard := none }) (v := ?v12_530118) rfl (by kernel_rfl) (by kernel_rfl) (by kernel_rfl) (fun _ _ _ h => h) (Or.inl ⟨by rfl, ?y12_530118⟩) hHeld ?r12_530118
                        case y12_530118 => intro w hSw; (try dsimp only at hSw); go_simp; try with_reducible rfl
                        try simp only [Act.put, List.setIfInBounds_toArray, List.set_cons_zero, List.set_cons_succ]
                        refine wpAnyH_done (by kernel_rfl) ?_ _
                        go_wp2_with fail
                        go_meet
                        exact ⟨gb, C, ok, s9, rfl, rfl, HBX, HMR, HT, HFR, Lib.hid HGB.out.2⟩
                    obtain ⟨g2, C, ok, s9, rfl, rfl, HBX, HMR, HT, HFR, HGB2⟩ := hcut
                    obtain ⟨rfl, rfl, rfl⟩ := HMR.out.right HFM.out
                    have HO9 := Lib.hid (HO8.out.put HT.out (fun x hx => Or.inl hx) HFR.out (fun x hx => hx) rfl (List.eraseIdx_sublist _ _))
                    have HW9 := Lib.hid (HW0.out.frm HFR.out HGW.out)
                    have HX9 := Lib.hid (show HeldT g2 [.int .i64 ki, .int .i64 kp, .string kx, .bool kt, .string mn, .int .i64 my, .int .i64 mc, .int .i64 mj, .int .i64 mu] wc from HBX.out)
                    clear HO8 HW0 HT0 HT HFR HMR HBX HLN
                    rename_i wz
                    obtain ⟨w9, hw9⟩ : ∃ z, wc = z := ⟨_, rfl⟩
                    rw [hw9] at HO9 HW9 HX9 ⊢
                    clear hw9
                    have HW0 := HW9
                    have HT0 := Lib.hid HO9.out.one.tb
                    have HLN := Lib.hid (show ({ s2 with ws := s2.ws.eraseIdx wi } : TbP).ws.length ≤ 1000 from HO9.out.few5 HMO.out.2)
                    go_upto_region 43 with (fail)
                    go_cut [24, 25] (fun p v wx => ∃ (gb : Nat) (C : List Value) (ok : Bool) (s9 : TbP), p = .pointer (some ⟨gb, 0, none⟩) ∧ v = .bool ok ∧ Hid (HeldT gb C wx) ∧ Hid (MRes { s2 with ws := s2.ws.eraseIdx wi } ⟨⟨ki, kp, kx, kt⟩, ⟨mn, my, mc⟩, mj, mu⟩ 0 C ok s9) ∧ Hid (TbS wx c2 q s9) ∧ Hid (Frm w9 wx c2) ∧ Hid (gb ∉ c2))
                    case first =>
                     as_aux_lemma =>
                      refine wp_region_held_drew (S := (fun wx => HeldT gW [.int .i64 ki, .int .i64 kp, .string kx, .bool kt, .string mn, .int .i64 my, .int .i64 mc, .int .i64 mj, .int .i64 mu] wx)) (by kernel_rfl) (HW0.out.below (Below.refl _ _).drew) (fun hHeld => ?_)
                      have hb := (Below.refl w9.heap.size w9).drew
                      have HT := Lib.hid (HT0.out.below hb)
                      have HFR := Lib.hid ((Frm.refl w9 c2).below hb (Nat.le_refl _))
                      obtain ⟨y0, hwd⟩ : ∃ z, w9.drew = z := ⟨_, rfl⟩
                      rw [hwd] at HT HFR hHeld ⊢
                      clear hwd hb
                      refine wpAnyH_take (i := 0) (oi := { dst := some 197, op := Go.Op.move (Go.Operand.tmp 7), type := 59, pos := "law.go:174", after := #[], guard := none }) (v := ?v0_540101) rfl (by kernel_rfl) (by kernel_rfl) (by kernel_rfl) (fun _ _ _ h => h) (Or.inl ⟨by rfl, ?y0_540101⟩) hHeld ?r0_540101
                      case y0_540101 => intro w hSw; (try dsimp only at hSw); go_simp; try with_reducible rfl
                      try simp only [Act.put, List.setIfInBounds_toArray, List.set_cons_zero, List.set_cons_succ]
                      refine wpAnyH_take (i := 1) (oi := { dst := some 198, op := Go.Op.fieldAddr 79 (Go.Operand.tmp 18) 0, type := 0, pos := "law.go:174", after := #[], guard := none }) (v := ?v1_540101) rfl (by kernel_rfl) (by kernel_rfl) (by kernel_rfl) (fun _ _ _ h => h) (Or.inl ⟨by rfl, ?y1_540101⟩) hHeld ?r1_540101
                      case y1_540101 => intro w hSw; (try dsimp only at hSw); go_simp; try with_reducible rfl
                      try simp only [Act.put, List.setIfInBounds_toArray, List.set_cons_zero, List.set_cons_succ]
                      refine wpAnyH_take (i := 2) (oi := { dst := some 199, op := Go.Op.load 69 (Go.Operand.tmp 198), type := 69, pos := "law.go:174", after := #[{ on := 1, ground := Go.Ground.data }], guard := none }) (v := ?v2_540101) rfl (by kernel_rfl) (by kernel_rfl) (by kernel_rfl) (fun _ _ _ h => h) (Or.inl ⟨by rfl, ?y2_540101⟩) hHeld ?r2_540101
                      case y2_540101 => intro w hSw; (try dsimp only at hSw); obtain ⟨s1, s2⟩ := hSw; have t0 := (s1 0 _ rfl).1; have t1 := (s1 1 _ rfl).1; have t2 := (s1 2 _ rfl).1; have t3 := (s1 3 _ rfl).1; have t4 := (s1 4 _ rfl).1; have t5 := (s1 5 _ rfl).1; have t6 := (s1 6 _ rfl).1; have t7 := (s1 7 _ rfl).1; have t8 := (s1 8 _ rfl).1; clear s1 s2; go_simp; try with_reducible rfl
                      try simp only [Act.put, List.setIfInBounds_toArray, List.set_cons_zero, List.set_cons_succ]
                      refine wpAnyH_take (i := 3) (oi := { dst := some 200, op := Go.Op.load 79 (Go.Operand.tmp 18), type := 79, pos := "law.go:174", after := #[], guard := none }) (v := ?v3_540101) rfl (by kernel_rfl) (by kernel_rfl) (by kernel_rfl) (fun _ _ _ h => h) (Or.inl ⟨by rfl, ?y3_540101⟩) hHeld ?r3_540101
                      case y3_540101 => intro w hSw; (try dsimp only at hSw); obtain ⟨s1, s2⟩ := hSw; have t0 := (s1 0 _ rfl).1; have t1 := (s1 1 _ rfl).1; have t2 := (s1 2 _ rfl).1; have t3 := (s1 3 _ rfl).1; have t4 := (s1 4 _ rfl).1; have t5 := (s1 5 _ rfl).1; have t6 := (s1 6 _ rfl).1; have t7 := (s1 7 _ rfl).1; have t8 := (s1 8 _ rfl).1; clear s1 s2; go_simp; try with_reducible rfl
                      try simp only [Act.put, List.setIfInBounds_toArray, List.set_cons_zero, List.set_cons_succ]
                      refine wpAnyH_ready (rs := [4, 10]) (by kernel_rfl) (by simp) ?_
                      refine AllReadyH.cons (o := { dst := some 201, op := Go.Op.call { callee := Go.Callee.value (Go.Operand.func 45), args := #[Go.Operand.tmp 200], argTypes := #[79] }, type := 84, pos := "law.go:174", after := #[{ on := 3, ground := Go.Ground.data }], guard := none }) rfl (fun K hK => ?_) (AllReadyH.cons (o := { dst := some 24, op := Go.Op.alloc 79, type := 0, pos := "law.go:174", after := #[], guard := none }) rfl (fun K hK => ?_) AllReadyH.nil)
                      · go_simp
                        refine (waitD_any ki kp kx kt mn my mc mj mu y0).mono ?_; rintro e y1 ⟨rfl, hb⟩
                        have hnext := hHeld.below hb
                        replace HT := Lib.hid (HT.out.below hb)
                        replace HFR := Lib.hid (HFR.out.below hb HFR.out.size)
                        clear hb
                        refine hK.out _ _ (hnext) (fun hHeld2 => ?_)
                        clear hK K hHeld
                        have hHeld := hHeld2
                        clear hHeld2
                        try simp only [Act.put, List.setIfInBounds_toArray, List.set_cons_zero, List.set_cons_succ]
                        refine wpAnyH_ready (rs := [5, 10]) (by kernel_rfl) (by simp) ?_
                        refine AllReadyH.cons (o := { dst := some 202, op := Go.Op.call { callee := Go.Callee.value (Go.Operand.func 46), args := #[Go.Operand.tmp 201, Go.Operand.const (Go.Value.int Go.IntKind.i64 0)], argTypes := #[84, 3] }, type := 75, pos := "law.go:174", after := #[{ on := 4, ground := Go.Ground.data }, { on := 4, ground := Go.Ground.chain }], guard := none }) rfl (fun K hK => ?_) (AllReadyH.cons (o := { dst := some 24, op := Go.Op.alloc 79, type := 0, pos := "law.go:174", after := #[], guard := none }) rfl (fun K hK => ?_) AllReadyH.nil)
                        · go_simp
                          refine (ans_any ki kp kx kt mn my mc mj mu 0 y1 HID.out (by decide)).mono ?_; rintro e y2 ⟨id, qr, aq, nq, cq, Q, rfl, hq, hnq, hgd, hb⟩
                          have hnext := hHeld.below hb
                          have HQQ := Lib.hid hq
                          have HNQ := Lib.hid hnq
                          have HGD := Lib.hid hgd
                          replace HT := Lib.hid (HT.out.below hb)
                          replace HFR := Lib.hid (HFR.out.below hb HFR.out.size)
                          clear hb hq hnq hgd
                          refine hK.out _ _ (hnext) (fun hHeld2 => ?_)
                          clear hK K hHeld
                          have hHeld := hHeld2
                          clear hHeld2
                          try simp only [Act.put, List.setIfInBounds_toArray, List.set_cons_zero, List.set_cons_succ]
                          refine wpAnyH_ready (rs := [6, 10]) (by kernel_rfl) (by simp) ?_
                          refine AllReadyH.cons (o := { dst := some 203, op := Go.Op.call { callee := Go.Callee.value (Go.Operand.func 47), args := #[Go.Operand.tmp 197, Go.Operand.tmp 199, Go.Operand.tmp 202], argTypes := #[59, 69, 75] }, type := 92, pos := "law.go:174", after := #[{ on := 0, ground := Go.Ground.data }, { on := 2, ground := Go.Ground.data }, { on := 5, ground := Go.Ground.data }, { on := 5, ground := Go.Ground.chain }], guard := none }) rfl (fun K hK => ?_) (AllReadyH.cons (o := { dst := some 24, op := Go.Op.alloc 79, type := 0, pos := "law.go:174", after := #[], guard := none }) rfl (fun K hK => ?_) AllReadyH.nil)
                          · go_simp
                            refine (matchR_any c2 q { s2 with ws := s2.ws.eraseIdx wi } ki kp kx kt mn my mc mj mu 0 id qr aq nq cq Q y2 HT.out (by have := HLN.out; omega) HQQ.out HNQ.out HGD.out).mono ?_; rintro e y3 ⟨C, ok, s9, rfl, hcl, hc1, hmr, hts, hfm⟩
                            have hnext := hHeld.frm hfm HGW.out
                            replace HT := Lib.hid hts
                            replace HFR := Lib.hid (HFR.out.trans hfm (fun b hb => Or.inl hb))
                            have HCL := Lib.hid hcl
                            have HC1 := Lib.hid hc1
                            have HMR := Lib.hid hmr
                            clear hfm hts hcl hc1 hmr HQQ HNQ HGD
                            refine hK.out _ _ (hnext) (fun hHeld2 => ?_)
                            clear hK K hHeld
                            have hHeld := hHeld2
                            clear hHeld2
                            try simp only [Act.put, List.setIfInBounds_toArray, List.set_cons_zero, List.set_cons_succ]
                            refine wpAnyH_take (i := 7) (oi := { dst := some 196, op := Go.Op.move (Go.Operand.tmp 203), type := 92, pos := "law.go:174", after := #[{ on := 6, ground := Go.Ground.data }], guard := none }) (v := ?v7_540104) rfl (by kernel_rfl) (by kernel_rfl) (by kernel_rfl) (fun _ _ _ h => h) (Or.inl ⟨by rfl, ?y7_540104⟩) hHeld ?r7_540104
                            case y7_540104 => intro w hSw; (try dsimp only at hSw); go_simp; try with_reducible rfl
                            try simp only [Act.put, List.setIfInBounds_toArray, List.set_cons_zero, List.set_cons_succ]
                            refine wpAnyH_take (i := 8) (oi := { dst := some 204, op := Go.Op.extract (Go.Operand.tmp 196) 0, type := 79, pos := "law.go:174", after := #[{ on := 7, ground := Go.Ground.data }], guard := none }) (v := ?v8_540104) rfl (by kernel_rfl) (by kernel_rfl) (by kernel_rfl) (fun _ _ _ h => h) (Or.inl ⟨by rfl, ?y8_540104⟩) hHeld ?r8_540104
                            case y8_540104 => intro w hSw; (try dsimp only at hSw); go_simp; try with_reducible rfl
                            try simp only [Act.put, List.setIfInBounds_toArray, List.set_cons_zero, List.set_cons_succ]
                            refine wpAnyH_take (i := 9) (oi := { dst := some 205, op := Go.Op.extract (Go.Operand.tmp 196) 1, type := 4, pos := "law.go:174", after := #[{ on := 7, ground := Go.Ground.data }, { on := 11, ground := Go.Ground.gcOnly Go.Departure.lateStores }], guard := none }) (v := ?v9_540104) rfl (by kernel_rfl) (by kernel_rfl) (by kernel_rfl) (fun _ _ _ h => h) (Or.inl ⟨by rfl, ?y9_540104⟩) hHeld ?r9_540104
                            case y9_540104 => intro w hSw; (try dsimp only at hSw); go_simp; try with_reducible rfl
                            try simp only [Act.put, List.setIfInBounds_toArray, List.set_cons_zero, List.set_cons_succ]
                            refine wpAnyH_ready (rs := [10]) (by kernel_rfl) (by simp) ?_
                            refine AllReadyH.cons (o := { dst := some 24, op := Go.Op.alloc 79, type := 0, pos := "law.go:174", after := #[], guard := none }) rfl (fun K hK => ?_) AllReadyH.nil
                            go_simp
                            have hal := (Below.refl y3.heap.size y3).alloc (Nat.le_refl _) (.cells #[.int .i64 0, .int .i64 0, .string ⟨#[]⟩, .bool false, .string ⟨#[]⟩, .int .i64 0, .int .i64 0, .int .i64 0, .int .i64 0] 79)
                            have hnext := hHeld.below hal
                            have HZ := Lib.hid (HeldT.new y3 #[.int .i64 0, .int .i64 0, .string ⟨#[]⟩, .bool false, .string ⟨#[]⟩, .int .i64 0, .int .i64 0, .int .i64 0, .int .i64 0] 79)
                            have HGB := Lib.hid (show gW < y3.heap.size ∧ y3.heap.size ∉ c2 from ⟨hHeld.2, fun e => by have := HT.out.lt _ e; omega⟩)
                            have HGS := Lib.hid (show w9.heap.size ≤ y3.heap.size from HFR.out.size)
                            replace HT := Lib.hid (HT.out.below hal)
                            replace HFR := Lib.hid (HFR.out.below hal HFR.out.size)
                            obtain ⟨y4, hwf⟩ : ∃ z, y3.alloc (.cells #[.int .i64 0, .int .i64 0, .string ⟨#[]⟩, .bool false, .string ⟨#[]⟩, .int .i64 0, .int .i64 0, .int .i64 0, .int .i64 0] 79) = z := ⟨_, rfl⟩
                            obtain ⟨gb, hgb⟩ : ∃ z, y3.heap.size = z := ⟨_, rfl⟩
                            rw [hwf] at hnext HT HFR HZ ⊢
                            rw [hgb] at HZ HGB HGS ⊢
                            clear hwf hgb hal
                            refine hK.out _ _ (hnext) (fun hHeld2 => ?_)
                            clear hK K hHeld
                            have hHeld := hHeld2
                            clear hHeld2
                            try simp only [Act.put, List.setIfInBounds_toArray, List.set_cons_zero, List.set_cons_succ]
                            refine wpAnyH_ready (rs := [11]) (by kernel_rfl) (by simp) ?_
                            refine AllReadyH.cons (o := { dst := none, op := Go.Op.store 79 (Go.Operand.tmp 24) (Go.Operand.tmp 204), type := 0, pos := "law.go:174", after := #[{ on := 10, ground := Go.Ground.data }, { on := 8, ground := Go.Ground.data }, { on := 6, ground := Go.Ground.chain }, { on := 0, ground := Go.Ground.phase }, { on := 1, ground := Go.Ground.phase }, { on := 2, ground := Go.Ground.phase }, { on := 3, ground := Go.Ground.phase }, { on := 4, ground := Go.Ground.phase }, { on := 5, ground := Go.Ground.phase }, { on := 6, ground := Go.Ground.phase }, { on := 7, ground := Go.Ground.phase }, { on := 8, ground := Go.Ground.phase }, { on := 9, ground := Go.Ground.textOnly Go.Departure.lateStores }, { on := 10, ground := Go.Ground.phase }], guard := none }) rfl (fun K hK => ?_) AllReadyH.nil
                            refine step_store_mid (by rfl) 79 (.tmp 24) (.tmp 204) (by rfl) gb 0 C.toArray (by rfl) (by rfl) (fun j hj => by obtain ⟨u, hu⟩ : ∃ u, ([.int .i64 0, .int .i64 0, .string ⟨#[]⟩, .bool false, .string ⟨#[]⟩, .int .i64 0, .int .i64 0, .int .i64 0, .int .i64 0] : List Value)[j]? = some u := ⟨_, List.getElem?_eq_getElem (show j < ([.int .i64 0, .int .i64 0, .string ⟨#[]⟩, .bool false, .string ⟨#[]⟩, .int .i64 0, .int .i64 0, .int .i64 0, .int .i64 0] : List Value).length from by have h9 : j < C.length := hj; rw [HCL.out] at h9; exact h9)⟩; obtain ⟨h1, h2⟩ := HZ.out.1 j u hu; rw [Nat.zero_add]; exact ⟨by rw [h1]; rfl, h2⟩) (by show _ = some C.length; rw [HCL.out]; kernel_rfl) (all_oneCell_toArray HC1.out) ?_
                            simp only [Act.put]
                            have HBX := Lib.hid (show HeldT gb C (y4.setCells gb 0 C) from HZ.out.into (by rw [HCL.out]; rfl))
                            have hfr := (Frm.refl y4 [gb]).sets gb 0 (Or.inl (by simp)) C
                            have hnext := hHeld.frm hfr (by simp; have := HGB.out.1; omega)
                            replace HT := Lib.hid (HT.out.frm hfr (fun b hb e => HGB.out.2 (by simp at e; exact e ▸ hb)))
                            replace HFR := Lib.hid (HFR.out.trans hfr (fun b hb => Or.inr (by simp at hb; subst hb; exact HGS.out)))
                            obtain ⟨y5, hwh⟩ : ∃ z, y4.setCells gb 0 C = z := ⟨_, rfl⟩
                            rw [hwh] at HBX hnext HT HFR
                            rw [show y4.setCells gb 0 (C.toArray : Array Value).toList = y5 from hwh]
                            clear hwh hfr HZ
                            refine hK.out _ _ (hnext) (fun hHeld2 => ?_)
                            clear hK K hHeld
                            have hHeld := hHeld2
                            clear hHeld2
                            try simp only [Act.put, List.setIfInBounds_toArray, List.set_cons_zero, List.set_cons_succ]
                            refine wpAnyH_take (i := 12) (oi := { dst := some 25, op := Go.Op.assign (Go.Operand.tmp 205), type := 4, pos := "law.go:174", after := #[{ on := 9, ground := Go.Ground.data }, { on := 11, ground := Go.Ground.chain }, { on := 0, ground := Go.Ground.phase }, { on := 1, ground := Go.Ground.phase }, { on := 2, ground := Go.Ground.phase }, { on := 3, ground := Go.Ground.phase }, { on := 4, ground := Go.Ground.phase }, { on := 5, ground := Go.Ground.phase }, { on := 6, ground := Go.Ground.phase }, { on := 7, ground := Go.Ground.phase }, { on := 8, ground := Go.Ground.phase }, { on := 9, ground := Go.Ground.phase }, { on := 10, ground := Go.Ground.phase }, { on := 11, ground := Go.Ground.phase }], guard := none }) (v := ?v12_540106) rfl (by kernel_rfl) (by kernel_rfl) (by kernel_rfl) (fun _ _ _ h => h) (Or.inl ⟨by rfl, ?y12_540106⟩) hHeld ?r12_540106
                            case y12_540106 => intro w hSw; (try dsimp only at hSw); go_simp; try with_reducible rfl
                            try simp only [Act.put, List.setIfInBounds_toArray, List.set_cons_zero, List.set_cons_succ]
                            refine wpAnyH_done (by kernel_rfl) ?_ _
                            go_wp2_with fail
                            go_meet
                            exact ⟨gb, C, ok, s9, rfl, rfl, HBX, HMR, HT, HFR, Lib.hid HGB.out.2⟩
                          · go_simp
                            have hal := (Below.refl y2.heap.size y2).alloc (Nat.le_refl _) (.cells #[.int .i64 0, .int .i64 0, .string ⟨#[]⟩, .bool false, .string ⟨#[]⟩, .int .i64 0, .int .i64 0, .int .i64 0, .int .i64 0] 79)
                            have hnext := hHeld.below hal
                            have HZ := Lib.hid (HeldT.new y2 #[.int .i64 0, .int .i64 0, .string ⟨#[]⟩, .bool false, .string ⟨#[]⟩, .int .i64 0, .int .i64 0, .int .i64 0, .int .i64 0] 79)
                            have HGB := Lib.hid (show gW < y2.heap.size ∧ y2.heap.size ∉ c2 from ⟨hHeld.2, fun e => by have := HT.out.lt _ e; omega⟩)
                            have HGS := Lib.hid (show w9.heap.size ≤ y2.heap.size from HFR.out.size)
                            replace HT := Lib.hid (HT.out.below hal)
                            replace HFR := Lib.hid (HFR.out.below hal HFR.out.size)
                            replace HQQ := Lib.hid (HQQ.out.below hal)
                            obtain ⟨y3, hwf⟩ : ∃ z, y2.alloc (.cells #[.int .i64 0, .int .i64 0, .string ⟨#[]⟩, .bool false, .string ⟨#[]⟩, .int .i64 0, .int .i64 0, .int .i64 0, .int .i64 0] 79) = z := ⟨_, rfl⟩
                            obtain ⟨gb, hgb⟩ : ∃ z, y2.heap.size = z := ⟨_, rfl⟩
                            rw [hwf] at hnext HT HFR HZ HQQ ⊢
                            rw [hgb] at HZ HGB HGS ⊢
                            clear hwf hgb hal
                            refine hK.out _ _ (hnext) (fun hHeld2 => ?_)
                            clear hK K hHeld
                            have hHeld := hHeld2
                            clear hHeld2
                            try simp only [Act.put, List.setIfInBounds_toArray, List.set_cons_zero, List.set_cons_succ]
                            refine wpAnyH_ready (rs := [6]) (by kernel_rfl) (by simp) ?_
                            refine AllReadyH.cons (o := { dst := some 203, op := Go.Op.call { callee := Go.Callee.value (Go.Operand.func 47), args := #[Go.Operand.tmp 197, Go.Operand.tmp 199, Go.Operand.tmp 202], argTypes := #[59, 69, 75] }, type := 92, pos := "law.go:174", after := #[{ on := 0, ground := Go.Ground.data }, { on := 2, ground := Go.Ground.data }, { on := 5, ground := Go.Ground.data }, { on := 5, ground := Go.Ground.chain }], guard := none }) rfl (fun K hK => ?_) AllReadyH.nil
                            go_simp
                            refine (matchR_any c2 q { s2 with ws := s2.ws.eraseIdx wi } ki kp kx kt mn my mc mj mu 0 id qr aq nq cq Q y3 HT.out (by have := HLN.out; omega) HQQ.out HNQ.out HGD.out).mono ?_; rintro e y4 ⟨C, ok, s9, rfl, hcl, hc1, hmr, hts, hfm⟩
                            have hnext := hHeld.frm hfm HGW.out
                            replace HT := Lib.hid hts
                            replace HFR := Lib.hid (HFR.out.trans hfm (fun b hb => Or.inl hb))
                            have HCL := Lib.hid hcl
                            have HC1 := Lib.hid hc1
                            have HMR := Lib.hid hmr
                            replace HZ := Lib.hid (HZ.out.frm hfm HGB.out.2)
                            clear hfm hts hcl hc1 hmr HQQ HNQ HGD
                            refine hK.out _ _ (hnext) (fun hHeld2 => ?_)
                            clear hK K hHeld
                            have hHeld := hHeld2
                            clear hHeld2
                            try simp only [Act.put, List.setIfInBounds_toArray, List.set_cons_zero, List.set_cons_succ]
                            refine wpAnyH_take (i := 7) (oi := { dst := some 196, op := Go.Op.move (Go.Operand.tmp 203), type := 92, pos := "law.go:174", after := #[{ on := 6, ground := Go.Ground.data }], guard := none }) (v := ?v7_540108) rfl (by kernel_rfl) (by kernel_rfl) (by kernel_rfl) (fun _ _ _ h => h) (Or.inl ⟨by rfl, ?y7_540108⟩) hHeld ?r7_540108
                            case y7_540108 => intro w hSw; (try dsimp only at hSw); go_simp; try with_reducible rfl
                            try simp only [Act.put, List.setIfInBounds_toArray, List.set_cons_zero, List.set_cons_succ]
                            refine wpAnyH_take (i := 8) (oi := { dst := some 204, op := Go.Op.extract (Go.Operand.tmp 196) 0, type := 79, pos := "law.go:174", after := #[{ on := 7, ground := Go.Ground.data }], guard := none }) (v := ?v8_540108) rfl (by kernel_rfl) (by kernel_rfl) (by kernel_rfl) (fun _ _ _ h => h) (Or.inl ⟨by rfl, ?y8_540108⟩) hHeld ?r8_540108
                            case y8_540108 => intro w hSw; (try dsimp only at hSw); go_simp; try with_reducible rfl
                            try simp only [Act.put, List.setIfInBounds_toArray, List.set_cons_zero, List.set_cons_succ]
                            refine wpAnyH_take (i := 9) (oi := { dst := some 205, op := Go.Op.extract (Go.Operand.tmp 196) 1, type := 4, pos := "law.go:174", after := #[{ on := 7, ground := Go.Ground.data }, { on := 11, ground := Go.Ground.gcOnly Go.Departure.lateStores }], guard := none }) (v := ?v9_540108) rfl (by kernel_rfl) (by kernel_rfl) (by kernel_rfl) (fun _ _ _ h => h) (Or.inl ⟨by rfl, ?y9_540108⟩) hHeld ?r9_540108
                            case y9_540108 => intro w hSw; (try dsimp only at hSw); go_simp; try with_reducible rfl
                            try simp only [Act.put, List.setIfInBounds_toArray, List.set_cons_zero, List.set_cons_succ]
                            refine wpAnyH_ready (rs := [11]) (by kernel_rfl) (by simp) ?_
                            refine AllReadyH.cons (o := { dst := none, op := Go.Op.store 79 (Go.Operand.tmp 24) (Go.Operand.tmp 204), type := 0, pos := "law.go:174", after := #[{ on := 10, ground := Go.Ground.data }, { on := 8, ground := Go.Ground.data }, { on := 6, ground := Go.Ground.chain }, { on := 0, ground := Go.Ground.phase }, { on := 1, ground := Go.Ground.phase }, { on := 2, ground := Go.Ground.phase }, { on := 3, ground := Go.Ground.phase }, { on := 4, ground := Go.Ground.phase }, { on := 5, ground := Go.Ground.phase }, { on := 6, ground := Go.Ground.phase }, { on := 7, ground := Go.Ground.phase }, { on := 8, ground := Go.Ground.phase }, { on := 9, ground := Go.Ground.textOnly Go.Departure.lateStores }, { on := 10, ground := Go.Ground.phase }], guard := none }) rfl (fun K hK => ?_) AllReadyH.nil
                            refine step_store_mid (by rfl) 79 (.tmp 24) (.tmp 204) (by rfl) gb 0 C.toArray (by rfl) (by rfl) (fun j hj => by obtain ⟨u, hu⟩ : ∃ u, ([.int .i64 0, .int .i64 0, .string ⟨#[]⟩, .bool false, .string ⟨#[]⟩, .int .i64 0, .int .i64 0, .int .i64 0, .int .i64 0] : List Value)[j]? = some u := ⟨_, List.getElem?_eq_getElem (show j < ([.int .i64 0, .int .i64 0, .string ⟨#[]⟩, .bool false, .string ⟨#[]⟩, .int .i64 0, .int .i64 0, .int .i64 0, .int .i64 0] : List Value).length from by have h9 : j < C.length := hj; rw [HCL.out] at h9; exact h9)⟩; obtain ⟨h1, h2⟩ := HZ.out.1 j u hu; rw [Nat.zero_add]; exact ⟨by rw [h1]; rfl, h2⟩) (by show _ = some C.length; rw [HCL.out]; kernel_rfl) (all_oneCell_toArray HC1.out) ?_
                            simp only [Act.put]
                            have HBX := Lib.hid (show HeldT gb C (y4.setCells gb 0 C) from HZ.out.into (by rw [HCL.out]; rfl))
                            have hfr := (Frm.refl y4 [gb]).sets gb 0 (Or.inl (by simp)) C
                            have hnext := hHeld.frm hfr (by simp; have := HGB.out.1; omega)
                            replace HT := Lib.hid (HT.out.frm hfr (fun b hb e => HGB.out.2 (by simp at e; exact e ▸ hb)))
                            replace HFR := Lib.hid (HFR.out.trans hfr (fun b hb => Or.inr (by simp at hb; subst hb; exact HGS.out)))
                            obtain ⟨y5, hwh⟩ : ∃ z, y4.setCells gb 0 C = z := ⟨_, rfl⟩
                            rw [hwh] at HBX hnext HT HFR
                            rw [show y4.setCells gb 0 (C.toArray : Array Value).toList = y5 from hwh]
                            clear hwh hfr HZ
                            refine hK.out _ _ (hnext) (fun hHeld2 => ?_)
                            clear hK K hHeld
                            have hHeld := hHeld2
                            clear hHeld2
                            try simp only [Act.put, List.setIfInBounds_toArray, List.set_cons_zero, List.set_cons_succ]
                            refine wpAnyH_take (i := 12) (oi := { dst := some 25, op := Go.Op.assign (Go.Operand.tmp 205), type := 4, pos := "law.go:174", after := #[{ on := 9, ground := Go.Ground.data }, { on := 11, ground := Go.Ground.chain }, { on := 0, ground := Go.Ground.phase }, { on := 1, ground := Go.Ground.phase }, { on := 2, ground := Go.Ground.phase }, { on := 3, ground := Go.Ground.phase }, { on := 4, ground := Go.Ground.phase }, { on := 5, ground := Go.Ground.phase }, { on := 6, ground := Go.Ground.phase }, { on := 7, ground := Go.Ground.phase }, { on := 8, ground := Go.Ground.phase }, { on := 9, ground := Go.Ground.phase }, { on := 10, ground := Go.Ground.phase }, { on := 11, ground := Go.Ground.phase }], guard := none }) (v := ?v12_540109) rfl (by kernel_rfl) (by kernel_rfl) (by kernel_rfl) (fun _ _ _ h => h) (Or.inl ⟨by rfl, ?y12_540109⟩) hHeld ?r12_540109
                            case y12_540109 => intro w hSw; (try dsimp only at hSw); go_simp; try with_reducible rfl
                            try simp only [Act.put, List.setIfInBounds_toArray, List.set_cons_zero, List.set_cons_succ]
                            refine wpAnyH_done (by kernel_rfl) ?_ _
                            go_wp2_with fail
                            go_meet
                            exact ⟨gb, C, ok, s9, rfl, rfl, HBX, HMR, HT, HFR, Lib.hid HGB.out.2⟩
                        · go_simp
                          have hal := (Below.refl y1.heap.size y1).alloc (Nat.le_refl _) (.cells #[.int .i64 0, .int .i64 0, .string ⟨#[]⟩, .bool false, .string ⟨#[]⟩, .int .i64 0, .int .i64 0, .int .i64 0, .int .i64 0] 79)
                          have hnext := hHeld.below hal
                          have HZ := Lib.hid (HeldT.new y1 #[.int .i64 0, .int .i64 0, .string ⟨#[]⟩, .bool false, .string ⟨#[]⟩, .int .i64 0, .int .i64 0, .int .i64 0, .int .i64 0] 79)
                          have HGB := Lib.hid (show gW < y1.heap.size ∧ y1.heap.size ∉ c2 from ⟨hHeld.2, fun e => by have := HT.out.lt _ e; omega⟩)
                          have HGS := Lib.hid (show w9.heap.size ≤ y1.heap.size from HFR.out.size)
                          replace HT := Lib.hid (HT.out.below hal)
                          replace HFR := Lib.hid (HFR.out.below hal HFR.out.size)
                          obtain ⟨y2, hwf⟩ : ∃ z, y1.alloc (.cells #[.int .i64 0, .int .i64 0, .string ⟨#[]⟩, .bool false, .string ⟨#[]⟩, .int .i64 0, .int .i64 0, .int .i64 0, .int .i64 0] 79) = z := ⟨_, rfl⟩
                          obtain ⟨gb, hgb⟩ : ∃ z, y1.heap.size = z := ⟨_, rfl⟩
                          rw [hwf] at hnext HT HFR HZ ⊢
                          rw [hgb] at HZ HGB HGS ⊢
                          clear hwf hgb hal
                          refine hK.out _ _ (hnext) (fun hHeld2 => ?_)
                          clear hK K hHeld
                          have hHeld := hHeld2
                          clear hHeld2
                          try simp only [Act.put, List.setIfInBounds_toArray, List.set_cons_zero, List.set_cons_succ]
                          refine wpAnyH_ready (rs := [5]) (by kernel_rfl) (by simp) ?_
                          refine AllReadyH.cons (o := { dst := some 202, op := Go.Op.call { callee := Go.Callee.value (Go.Operand.func 46), args := #[Go.Operand.tmp 201, Go.Operand.const (Go.Value.int Go.IntKind.i64 0)], argTypes := #[84, 3] }, type := 75, pos := "law.go:174", after := #[{ on := 4, ground := Go.Ground.data }, { on := 4, ground := Go.Ground.chain }], guard := none }) rfl (fun K hK => ?_) AllReadyH.nil
                          go_simp
                          refine (ans_any ki kp kx kt mn my mc mj mu 0 y2 HID.out (by decide)).mono ?_; rintro e y3 ⟨id, qr, aq, nq, cq, Q, rfl, hq, hnq, hgd, hb⟩
                          have hnext := hHeld.below hb
                          have HQQ := Lib.hid hq
                          have HNQ := Lib.hid hnq
                          have HGD := Lib.hid hgd
                          replace HT := Lib.hid (HT.out.below hb)
                          replace HFR := Lib.hid (HFR.out.below hb HFR.out.size)
                          replace HZ := Lib.hid (HZ.out.below hb)
                          clear hb hq hnq hgd
                          refine hK.out _ _ (hnext) (fun hHeld2 => ?_)
                          clear hK K hHeld
                          have hHeld := hHeld2
                          clear hHeld2
                          try simp only [Act.put, List.setIfInBounds_toArray, List.set_cons_zero, List.set_cons_succ]
                          refine wpAnyH_ready (rs := [6]) (by kernel_rfl) (by simp) ?_
                          refine AllReadyH.cons (o := { dst := some 203, op := Go.Op.call { callee := Go.Callee.value (Go.Operand.func 47), args := #[Go.Operand.tmp 197, Go.Operand.tmp 199, Go.Operand.tmp 202], argTypes := #[59, 69, 75] }, type := 92, pos := "law.go:174", after := #[{ on := 0, ground := Go.Ground.data }, { on := 2, ground := Go.Ground.data }, { on := 5, ground := Go.Ground.data }, { on := 5, ground := Go.Ground.chain }], guard := none }) rfl (fun K hK => ?_) AllReadyH.nil
                          go_simp
                          refine (matchR_any c2 q { s2 with ws := s2.ws.eraseIdx wi } ki kp kx kt mn my mc mj mu 0 id qr aq nq cq Q y3 HT.out (by have := HLN.out; omega) HQQ.out HNQ.out HGD.out).mono ?_; rintro e y4 ⟨C, ok, s9, rfl, hcl, hc1, hmr, hts, hfm⟩
                          have hnext := hHeld.frm hfm HGW.out
                          replace HT := Lib.hid hts
                          replace HFR := Lib.hid (HFR.out.trans hfm (fun b hb => Or.inl hb))
                          have HCL := Lib.hid hcl
                          have HC1 := Lib.hid hc1
                          have HMR := Lib.hid hmr
                          replace HZ := Lib.hid (HZ.out.frm hfm HGB.out.2)
                          clear hfm hts hcl hc1 hmr HQQ HNQ HGD
                          refine hK.out _ _ (hnext) (fun hHeld2 => ?_)
                          clear hK K hHeld
                          have hHeld := hHeld2
                          clear hHeld2
                          try simp only [Act.put, List.setIfInBounds_toArray, List.set_cons_zero, List.set_cons_succ]
                          refine wpAnyH_take (i := 7) (oi := { dst := some 196, op := Go.Op.move (Go.Operand.tmp 203), type := 92, pos := "law.go:174", after := #[{ on := 6, ground := Go.Ground.data }], guard := none }) (v := ?v7_540112) rfl (by kernel_rfl) (by kernel_rfl) (by kernel_rfl) (fun _ _ _ h => h) (Or.inl ⟨by rfl, ?y7_540112⟩) hHeld ?r7_540112
                          case y7_540112 => intro w hSw; (try dsimp only at hSw); go_simp; try with_reducible rfl
                          try simp only [Act.put, List.setIfInBounds_toArray, List.set_cons_zero, List.set_cons_succ]
                          refine wpAnyH_take (i := 8) (oi := { dst := some 204, op := Go.Op.extract (Go.Operand.tmp 196) 0, type := 79, pos := "law.go:174", after := #[{ on := 7, ground := Go.Ground.data }], guard := none }) (v := ?v8_540112) rfl (by kernel_rfl) (by kernel_rfl) (by kernel_rfl) (fun _ _ _ h => h) (Or.inl ⟨by rfl, ?y8_540112⟩) hHeld ?r8_540112
                          case y8_540112 => intro w hSw; (try dsimp only at hSw); go_simp; try with_reducible rfl
                          try simp only [Act.put, List.setIfInBounds_toArray, List.set_cons_zero, List.set_cons_succ]
                          refine wpAnyH_take (i := 9) (oi := { dst := some 205, op := Go.Op.extract (Go.Operand.tmp 196) 1, type := 4, pos := "law.go:174", after := #[{ on := 7, ground := Go.Ground.data }, { on := 11, ground := Go.Ground.gcOnly Go.Departure.lateStores }], guard := none }) (v := ?v9_540112) rfl (by kernel_rfl) (by kernel_rfl) (by kernel_rfl) (fun _ _ _ h => h) (Or.inl ⟨by rfl, ?y9_540112⟩) hHeld ?r9_540112
                          case y9_540112 => intro w hSw; (try dsimp only at hSw); go_simp; try with_reducible rfl
                          try simp only [Act.put, List.setIfInBounds_toArray, List.set_cons_zero, List.set_cons_succ]
                          refine wpAnyH_ready (rs := [11]) (by kernel_rfl) (by simp) ?_
                          refine AllReadyH.cons (o := { dst := none, op := Go.Op.store 79 (Go.Operand.tmp 24) (Go.Operand.tmp 204), type := 0, pos := "law.go:174", after := #[{ on := 10, ground := Go.Ground.data }, { on := 8, ground := Go.Ground.data }, { on := 6, ground := Go.Ground.chain }, { on := 0, ground := Go.Ground.phase }, { on := 1, ground := Go.Ground.phase }, { on := 2, ground := Go.Ground.phase }, { on := 3, ground := Go.Ground.phase }, { on := 4, ground := Go.Ground.phase }, { on := 5, ground := Go.Ground.phase }, { on := 6, ground := Go.Ground.phase }, { on := 7, ground := Go.Ground.phase }, { on := 8, ground := Go.Ground.phase }, { on := 9, ground := Go.Ground.textOnly Go.Departure.lateStores }, { on := 10, ground := Go.Ground.phase }], guard := none }) rfl (fun K hK => ?_) AllReadyH.nil
                          refine step_store_mid (by rfl) 79 (.tmp 24) (.tmp 204) (by rfl) gb 0 C.toArray (by rfl) (by rfl) (fun j hj => by obtain ⟨u, hu⟩ : ∃ u, ([.int .i64 0, .int .i64 0, .string ⟨#[]⟩, .bool false, .string ⟨#[]⟩, .int .i64 0, .int .i64 0, .int .i64 0, .int .i64 0] : List Value)[j]? = some u := ⟨_, List.getElem?_eq_getElem (show j < ([.int .i64 0, .int .i64 0, .string ⟨#[]⟩, .bool false, .string ⟨#[]⟩, .int .i64 0, .int .i64 0, .int .i64 0, .int .i64 0] : List Value).length from by have h9 : j < C.length := hj; rw [HCL.out] at h9; exact h9)⟩; obtain ⟨h1, h2⟩ := HZ.out.1 j u hu; rw [Nat.zero_add]; exact ⟨by rw [h1]; rfl, h2⟩) (by show _ = some C.length; rw [HCL.out]; kernel_rfl) (all_oneCell_toArray HC1.out) ?_
                          simp only [Act.put]
                          have HBX := Lib.hid (show HeldT gb C (y4.setCells gb 0 C) from HZ.out.into (by rw [HCL.out]; rfl))
                          have hfr := (Frm.refl y4 [gb]).sets gb 0 (Or.inl (by simp)) C
                          have hnext := hHeld.frm hfr (by simp; have := HGB.out.1; omega)
                          replace HT := Lib.hid (HT.out.frm hfr (fun b hb e => HGB.out.2 (by simp at e; exact e ▸ hb)))
                          replace HFR := Lib.hid (HFR.out.trans hfr (fun b hb => Or.inr (by simp at hb; subst hb; exact HGS.out)))
                          obtain ⟨y5, hwh⟩ : ∃ z, y4.setCells gb 0 C = z := ⟨_, rfl⟩
                          rw [hwh] at HBX hnext HT HFR
                          rw [show y4.setCells gb 0 (C.toArray : Array Value).toList = y5 from hwh]
                          clear hwh hfr HZ
                          refine hK.out _ _ (hnext) (fun hHeld2 => ?_)
                          clear hK K hHeld
                          have hHeld := hHeld2
                          clear hHeld2
                          try simp only [Act.put, List.setIfInBounds_toArray, List.set_cons_zero, List.set_cons_succ]
                          refine wpAnyH_take (i := 12) (oi := { dst := some 25, op := Go.Op.assign (Go.Operand.tmp 205), type := 4, pos := "law.go:174", after := #[{ on := 9, ground := Go.Ground.data }, { on := 11, ground := Go.Ground.chain }, { on := 0, ground := Go.Ground.phase }, { on := 1, ground := Go.Ground.phase }, { on := 2, ground := Go.Ground.phase }, { on := 3, ground := Go.Ground.phase }, { on := 4, ground := Go.Ground.phase }, { on := 5, ground := Go.Ground.phase }, { on := 6, ground := Go.Ground.phase }, { on := 7, ground := Go.Ground.phase }, { on := 8, ground := Go.Ground.phase }, { on := 9, ground := Go.Ground.phase }, { on := 10, ground := Go.Ground.phase }, { on := 11, ground := Go.Ground.phase }], guard := none }) (v := ?v12_540113) rfl (by kernel_rfl) (by kernel_rfl) (by kernel_rfl) (fun _ _ _ h => h) (Or.inl ⟨by rfl, ?y12_540113⟩) hHeld ?r12_540113
                          case y12_540113 => intro w hSw; (try dsimp only at hSw); go_simp; try with_reducible rfl
                          try simp only [Act.put, List.setIfInBounds_toArray, List.set_cons_zero, List.set_cons_succ]
                          refine wpAnyH_done (by kernel_rfl) ?_ _
                          go_wp2_with fail
                          go_meet
                          exact ⟨gb, C, ok, s9, rfl, rfl, HBX, HMR, HT, HFR, Lib.hid HGB.out.2⟩
                      · go_simp
                        have hal := (Below.refl y0.heap.size y0).alloc (Nat.le_refl _) (.cells #[.int .i64 0, .int .i64 0, .string ⟨#[]⟩, .bool false, .string ⟨#[]⟩, .int .i64 0, .int .i64 0, .int .i64 0, .int .i64 0] 79)
                        have hnext := hHeld.below hal
                        have HZ := Lib.hid (HeldT.new y0 #[.int .i64 0, .int .i64 0, .string ⟨#[]⟩, .bool false, .string ⟨#[]⟩, .int .i64 0, .int .i64 0, .int .i64 0, .int .i64 0] 79)
                        have HGB := Lib.hid (show gW < y0.heap.size ∧ y0.heap.size ∉ c2 from ⟨hHeld.2, fun e => by have := HT.out.lt _ e; omega⟩)
                        have HGS := Lib.hid (show w9.heap.size ≤ y0.heap.size from HFR.out.size)
                        replace HT := Lib.hid (HT.out.below hal)
                        replace HFR := Lib.hid (HFR.out.below hal HFR.out.size)
                        obtain ⟨y1, hwf⟩ : ∃ z, y0.alloc (.cells #[.int .i64 0, .int .i64 0, .string ⟨#[]⟩, .bool false, .string ⟨#[]⟩, .int .i64 0, .int .i64 0, .int .i64 0, .int .i64 0] 79) = z := ⟨_, rfl⟩
                        obtain ⟨gb, hgb⟩ : ∃ z, y0.heap.size = z := ⟨_, rfl⟩
                        rw [hwf] at hnext HT HFR HZ ⊢
                        rw [hgb] at HZ HGB HGS ⊢
                        clear hwf hgb hal
                        refine hK.out _ _ (hnext) (fun hHeld2 => ?_)
                        clear hK K hHeld
                        have hHeld := hHeld2
                        clear hHeld2
                        try simp only [Act.put, List.setIfInBounds_toArray, List.set_cons_zero, List.set_cons_succ]
                        refine wpAnyH_ready (rs := [4]) (by kernel_rfl) (by simp) ?_
                        refine AllReadyH.cons (o := { dst := some 201, op := Go.Op.call { callee := Go.Callee.value (Go.Operand.func 45), args := #[Go.Operand.tmp 200], argTypes := #[79] }, type := 84, pos := "law.go:174", after := #[{ on := 3, ground := Go.Ground.data }], guard := none }) rfl (fun K hK => ?_) AllReadyH.nil
                        go_simp
                        refine (waitD_any ki kp kx kt mn my mc mj mu y1).mono ?_; rintro e y2 ⟨rfl, hb⟩
                        have hnext := hHeld.below hb
                        replace HT := Lib.hid (HT.out.below hb)
                        replace HFR := Lib.hid (HFR.out.below hb HFR.out.size)
                        replace HZ := Lib.hid (HZ.out.below hb)
                        clear hb
                        refine hK.out _ _ (hnext) (fun hHeld2 => ?_)
                        clear hK K hHeld
                        have hHeld := hHeld2
                        clear hHeld2
                        try simp only [Act.put, List.setIfInBounds_toArray, List.set_cons_zero, List.set_cons_succ]
                        refine wpAnyH_ready (rs := [5]) (by kernel_rfl) (by simp) ?_
                        refine AllReadyH.cons (o := { dst := some 202, op := Go.Op.call { callee := Go.Callee.value (Go.Operand.func 46), args := #[Go.Operand.tmp 201, Go.Operand.const (Go.Value.int Go.IntKind.i64 0)], argTypes := #[84, 3] }, type := 75, pos := "law.go:174", after := #[{ on := 4, ground := Go.Ground.data }, { on := 4, ground := Go.Ground.chain }], guard := none }) rfl (fun K hK => ?_) AllReadyH.nil
                        go_simp
                        refine (ans_any ki kp kx kt mn my mc mj mu 0 y2 HID.out (by decide)).mono ?_; rintro e y3 ⟨id, qr, aq, nq, cq, Q, rfl, hq, hnq, hgd, hb⟩
                        have hnext := hHeld.below hb
                        have HQQ := Lib.hid hq
                        have HNQ := Lib.hid hnq
                        have HGD := Lib.hid hgd
                        replace HT := Lib.hid (HT.out.below hb)
                        replace HFR := Lib.hid (HFR.out.below hb HFR.out.size)
                        replace HZ := Lib.hid (HZ.out.below hb)
                        clear hb hq hnq hgd
                        refine hK.out _ _ (hnext) (fun hHeld2 => ?_)
                        clear hK K hHeld
                        have hHeld := hHeld2
                        clear hHeld2
                        try simp only [Act.put, List.setIfInBounds_toArray, List.set_cons_zero, List.set_cons_succ]
                        refine wpAnyH_ready (rs := [6]) (by kernel_rfl) (by simp) ?_
                        refine AllReadyH.cons (o := { dst := some 203, op := Go.Op.call { callee := Go.Callee.value (Go.Operand.func 47), args := #[Go.Operand.tmp 197, Go.Operand.tmp 199, Go.Operand.tmp 202], argTypes := #[59, 69, 75] }, type := 92, pos := "law.go:174", after := #[{ on := 0, ground := Go.Ground.data }, { on := 2, ground := Go.Ground.data }, { on := 5, ground := Go.Ground.data }, { on := 5, ground := Go.Ground.chain }], guard := none }) rfl (fun K hK => ?_) AllReadyH.nil
                        go_simp
                        refine (matchR_any c2 q { s2 with ws := s2.ws.eraseIdx wi } ki kp kx kt mn my mc mj mu 0 id qr aq nq cq Q y3 HT.out (by have := HLN.out; omega) HQQ.out HNQ.out HGD.out).mono ?_; rintro e y4 ⟨C, ok, s9, rfl, hcl, hc1, hmr, hts, hfm⟩
                        have hnext := hHeld.frm hfm HGW.out
                        replace HT := Lib.hid hts
                        replace HFR := Lib.hid (HFR.out.trans hfm (fun b hb => Or.inl hb))
                        have HCL := Lib.hid hcl
                        have HC1 := Lib.hid hc1
                        have HMR := Lib.hid hmr
                        replace HZ := Lib.hid (HZ.out.frm hfm HGB.out.2)
                        clear hfm hts hcl hc1 hmr HQQ HNQ HGD
                        refine hK.out _ _ (hnext) (fun hHeld2 => ?_)
                        clear hK K hHeld
                        have hHeld := hHeld2
                        clear hHeld2
                        try simp only [Act.put, List.setIfInBounds_toArray, List.set_cons_zero, List.set_cons_succ]
                        refine wpAnyH_take (i := 7) (oi := { dst := some 196, op := Go.Op.move (Go.Operand.tmp 203), type := 92, pos := "law.go:174", after := #[{ on := 6, ground := Go.Ground.data }], guard := none }) (v := ?v7_540117) rfl (by kernel_rfl) (by kernel_rfl) (by kernel_rfl) (fun _ _ _ h => h) (Or.inl ⟨by rfl, ?y7_540117⟩) hHeld ?r7_540117
                        case y7_540117 => intro w hSw; (try dsimp only at hSw); go_simp; try with_reducible rfl
                        try simp only [Act.put, List.setIfInBounds_toArray, List.set_cons_zero, List.set_cons_succ]
                        refine wpAnyH_take (i := 8) (oi := { dst := some 204, op := Go.Op.extract (Go.Operand.tmp 196) 0, type := 79, pos := "law.go:174", after := #[{ on := 7, ground := Go.Ground.data }], guard := none }) (v := ?v8_540117) rfl (by kernel_rfl) (by kernel_rfl) (by kernel_rfl) (fun _ _ _ h => h) (Or.inl ⟨by rfl, ?y8_540117⟩) hHeld ?r8_540117
                        case y8_540117 => intro w hSw; (try dsimp only at hSw); go_simp; try with_reducible rfl
                        try simp only [Act.put, List.setIfInBounds_toArray, List.set_cons_zero, List.set_cons_succ]
                        refine wpAnyH_take (i := 9) (oi := { dst := some 205, op := Go.Op.extract (Go.Operand.tmp 196) 1, type := 4, pos := "law.go:174", after := #[{ on := 7, ground := Go.Ground.data }, { on := 11, ground := Go.Ground.gcOnly Go.Departure.lateStores }], guard := none }) (v := ?v9_540117) rfl (by kernel_rfl) (by kernel_rfl) (by kernel_rfl) (fun _ _ _ h => h) (Or.inl ⟨by rfl, ?y9_540117⟩) hHeld ?r9_540117
                        case y9_540117 => intro w hSw; (try dsimp only at hSw); go_simp; try with_reducible rfl
                        try simp only [Act.put, List.setIfInBounds_toArray, List.set_cons_zero, List.set_cons_succ]
                        refine wpAnyH_ready (rs := [11]) (by kernel_rfl) (by simp) ?_
                        refine AllReadyH.cons (o := { dst := none, op := Go.Op.store 79 (Go.Operand.tmp 24) (Go.Operand.tmp 204), type := 0, pos := "law.go:174", after := #[{ on := 10, ground := Go.Ground.data }, { on := 8, ground := Go.Ground.data }, { on := 6, ground := Go.Ground.chain }, { on := 0, ground := Go.Ground.phase }, { on := 1, ground := Go.Ground.phase }, { on := 2, ground := Go.Ground.phase }, { on := 3, ground := Go.Ground.phase }, { on := 4, ground := Go.Ground.phase }, { on := 5, ground := Go.Ground.phase }, { on := 6, ground := Go.Ground.phase }, { on := 7, ground := Go.Ground.phase }, { on := 8, ground := Go.Ground.phase }, { on := 9, ground := Go.Ground.textOnly Go.Departure.lateStores }, { on := 10, ground := Go.Ground.phase }], guard := none }) rfl (fun K hK => ?_) AllReadyH.nil
                        refine step_store_mid (by rfl) 79 (.tmp 24) (.tmp 204) (by rfl) gb 0 C.toArray (by rfl) (by rfl) (fun j hj => by obtain ⟨u, hu⟩ : ∃ u, ([.int .i64 0, .int .i64 0, .string ⟨#[]⟩, .bool false, .string ⟨#[]⟩, .int .i64 0, .int .i64 0, .int .i64 0, .int .i64 0] : List Value)[j]? = some u := ⟨_, List.getElem?_eq_getElem (show j < ([.int .i64 0, .int .i64 0, .string ⟨#[]⟩, .bool false, .string ⟨#[]⟩, .int .i64 0, .int .i64 0, .int .i64 0, .int .i64 0] : List Value).length from by have h9 : j < C.length := hj; rw [HCL.out] at h9; exact h9)⟩; obtain ⟨h1, h2⟩ := HZ.out.1 j u hu; rw [Nat.zero_add]; exact ⟨by rw [h1]; rfl, h2⟩) (by show _ = some C.length; rw [HCL.out]; kernel_rfl) (all_oneCell_toArray HC1.out) ?_
                        simp only [Act.put]
                        have HBX := Lib.hid (show HeldT gb C (y4.setCells gb 0 C) from HZ.out.into (by rw [HCL.out]; rfl))
                        have hfr := (Frm.refl y4 [gb]).sets gb 0 (Or.inl (by simp)) C
                        have hnext := hHeld.frm hfr (by simp; have := HGB.out.1; omega)
                        replace HT := Lib.hid (HT.out.frm hfr (fun b hb e => HGB.out.2 (by simp at e; exact e ▸ hb)))
                        replace HFR := Lib.hid (HFR.out.trans hfr (fun b hb => Or.inr (by simp at hb; subst hb; exact HGS.out)))
                        obtain ⟨y5, hwh⟩ : ∃ z, y4.setCells gb 0 C = z := ⟨_, rfl⟩
                        rw [hwh] at HBX hnext HT HFR
                        rw [show y4.setCells gb 0 (C.toArray : Array Value).toList = y5 from hwh]
                        clear hwh hfr HZ
                        refine hK.out _ _ (hnext) (fun hHeld2 => ?_)
                        clear hK K hHeld
                        have hHeld := hHeld2
                        clear hHeld2
                        try simp only [Act.put, List.setIfInBounds_toArray, List.set_cons_zero, List.set_cons_succ]
                        refine wpAnyH_take (i := 12) (oi := { dst := some 25, op := Go.Op.assign (Go.Operand.tmp 205), type := 4, pos := "law.go:174", after := #[{ on := 9, ground := Go.Ground.data }, { on := 11, ground := Go.Ground.chain }, { on := 0, ground := Go.Ground.phase }, { on := 1, ground := Go.Ground.phase }, { on := 2, ground := Go.Ground.phase }, { on := 3, ground := Go.Ground.phase }, { on := 4, ground := Go.Ground.phase }, { on := 5, ground := Go.Ground.phase }, { on := 6, ground := Go.Ground.phase }, { on := 7, ground := Go.Ground.phase }, { on := 8, ground := Go.Ground.phase }, { on := 9, ground := Go.Ground.phase }, { on := 10, ground := Go.Ground.phase }, { on := 11, ground := Go.Ground.phase }], guard := none }) (v := ?v12_540118) rfl (by kernel_rfl) (by kernel_rfl) (by kernel_rfl) (fun _ _ _ h => h) (Or.inl ⟨by rfl, ?y12_540118⟩) hHeld ?r12_540118
                        case y12_540118 => intro w hSw; (try dsimp only at hSw); go_simp; try with_reducible rfl
                        try simp only [Act.put, List.setIfInBounds_toArray, List.set_cons_zero, List.set_cons_succ]
                        refine wpAnyH_done (by kernel_rfl) ?_ _
                        go_wp2_with fail
                        go_meet
                        exact ⟨gb, C, ok, s9, rfl, rfl, HBX, HMR, HT, HFR, Lib.hid HGB.out.2⟩
                    obtain ⟨g3, C, ok, s9, rfl, rfl, HBX, HMR, HT, HFR, HGB⟩ := hcut
                    obtain ⟨rfl, rfl⟩ := HMR.out.no (HO7E.out)
                    have HO8 := Lib.hid (HO9.out.put HT.out (fun x hx => Or.inl hx) HFR.out (fun x hx => hx) rfl (List.Sublist.refl _))
                    have HW8 := Lib.hid (HW0.out.frm HFR.out HGW.out)
                    have HX8 := Lib.hid (HX9.out.frm HFR.out HGB2.out)
                    clear HO9 HW9 HW0 HX9 HT0 HT HFR HMR HBX HLN HGB
                    obtain ⟨M1, hM1⟩ : ∃ z, (s2.ws.eraseIdx wi).length = z := ⟨_, rfl⟩
                    have hM2 : M = M1 + 1 := by
                      have h1 := HM.out
                      have h2 := HWI.out
                      rw [List.length_eraseIdx, if_pos (by omega)] at hM1
                      omega
                    have HM1 := Lib.hid hM1
                    have j1 : IntKind.i64.wrap ((M : Int) - 1) = (M1 : Int) := by rw [IntKind.wrap_i64]; omega
                    have nM : (M1 != M1) = false := by simp
                    have hrw := fun W => rw_neq ki kp kx kt mn my mc mj mu W
                    clear hM1 hM2
                    rename_i wz2
                    obtain ⟨w8, hw8⟩ : ∃ z, wc = z := ⟨_, rfl⟩
                    rw [hw8] at HO8 HW8 HX8 ⊢
                    clear hw8
                    go_upto_region 44 with (fail)
                    refine wp_region_held_drew (S := (fun wx => HeldT g2 [.int .i64 ki, .int .i64 kp, .string kx, .bool kt, .string mn, .int .i64 my, .int .i64 mc, .int .i64 mj, .int .i64 mu] wx ∧ HeldT gW [.int .i64 ki, .int .i64 kp, .string kx, .bool kt, .string mn, .int .i64 my, .int .i64 mc, .int .i64 mj, .int .i64 mu] wx)) (by kernel_rfl) (⟨HX8.out.below (Below.refl _ _).drew, HW8.out.below (Below.refl _ _).drew⟩) (fun hHeld => ?_)
                    have hb := (Below.refl w8.heap.size w8).drew
                    replace HO8 := Lib.hid (HO8.out.below hb)
                    obtain ⟨y0, hwd⟩ : ∃ z, w8.drew = z := ⟨_, rfl⟩
                    rw [hwd] at HO8 hHeld ⊢
                    clear hwd hb HW8 HX8
                    refine wpAnyH_take (i := 0) (oi := { dst := some 206, op := Go.Op.move (Go.Operand.tmp 23), type := 4, pos := "law.go:175", after := #[], guard := none }) (v := ?v0_550101) rfl (by kernel_rfl) (by kernel_rfl) (by kernel_rfl) (fun _ _ _ h => h) (Or.inl ⟨by rfl, ?y0_550101⟩) hHeld ?r0_550101
                    case y0_550101 => intro w hSw; (try dsimp only at hSw); go_simp; try with_reducible rfl
                    try simp only [Act.put, List.setIfInBounds_toArray, List.set_cons_zero, List.set_cons_succ]
                    refine wpAnyH_take (i := 1) (oi := { dst := some 207, op := Go.Op.unOp Go.UnOp.not 4 (Go.Operand.tmp 206), type := 4, pos := "law.go:175", after := #[{ on := 0, ground := Go.Ground.data }], guard := none }) (v := ?v1_550101) rfl (by kernel_rfl) (by kernel_rfl) (by kernel_rfl) (fun _ _ _ h => h) (Or.inl ⟨by rfl, ?y1_550101⟩) hHeld ?r1_550101
                    case y1_550101 => intro w hSw; (try dsimp only at hSw); go_simp; try with_reducible rfl
                    try simp only [Act.put, List.setIfInBounds_toArray, List.set_cons_zero, List.set_cons_succ]
                    refine wpAnyH_take (i := 2) (oi := { dst := some 208, op := Go.Op.move (Go.Operand.tmp 207), type := 4, pos := "law.go:175", after := #[{ on := 1, ground := Go.Ground.data }], guard := none }) (v := ?v2_550101) rfl (by kernel_rfl) (by kernel_rfl) (by kernel_rfl) (fun _ _ _ h => h) (Or.inl ⟨by rfl, ?y2_550101⟩) hHeld ?r2_550101
                    case y2_550101 => intro w hSw; (try dsimp only at hSw); go_simp; try with_reducible rfl
                    try simp only [Act.put, List.setIfInBounds_toArray, List.set_cons_zero, List.set_cons_succ]
                    refine wpAnyH_take (i := 3) (oi := { dst := some 209, op := Go.Op.load 79 (Go.Operand.tmp 22), type := 79, pos := "law.go:175", after := #[{ on := 2, ground := Go.Ground.guard }], guard := some (2, false) }) (v := ?v3_550101) rfl (by kernel_rfl) (by kernel_rfl) (by kernel_rfl) (fun _ _ _ h => h) (Or.inl ⟨by rfl, ?y3_550101⟩) hHeld ?r3_550101
                    case y3_550101 => intro w hSw; (try dsimp only at hSw); obtain ⟨⟨s1, _⟩, ⟨s2, _⟩⟩ := hSw; have t0 := (s1 0 _ rfl).1; have t1 := (s1 1 _ rfl).1; have t2 := (s1 2 _ rfl).1; have t3 := (s1 3 _ rfl).1; have t4 := (s1 4 _ rfl).1; have t5 := (s1 5 _ rfl).1; have t6 := (s1 6 _ rfl).1; have t7 := (s1 7 _ rfl).1; have t8 := (s1 8 _ rfl).1; clear s1 s2; go_simp; try with_reducible rfl
                    try simp only [Act.put, List.setIfInBounds_toArray, List.set_cons_zero, List.set_cons_succ]
                    refine wpAnyH_take (i := 5) (oi := { dst := some 211, op := Go.Op.load 79 (Go.Operand.tmp 18), type := 79, pos := "law.go:175", after := #[{ on := 2, ground := Go.Ground.guard }], guard := some (2, false) }) (v := ?v5_550101) rfl (by kernel_rfl) (by kernel_rfl) (by kernel_rfl) (fun _ _ _ h => h) (Or.inl ⟨by rfl, ?y5_550101⟩) hHeld ?r5_550101
                    case y5_550101 => intro w hSw; (try dsimp only at hSw); obtain ⟨⟨s1, _⟩, ⟨s2, _⟩⟩ := hSw; have t0 := (s2 0 _ rfl).1; have t1 := (s2 1 _ rfl).1; have t2 := (s2 2 _ rfl).1; have t3 := (s2 3 _ rfl).1; have t4 := (s2 4 _ rfl).1; have t5 := (s2 5 _ rfl).1; have t6 := (s2 6 _ rfl).1; have t7 := (s2 7 _ rfl).1; have t8 := (s2 8 _ rfl).1; clear s1 s2; go_simp; try with_reducible rfl
                    try simp only [Act.put, List.setIfInBounds_toArray, List.set_cons_zero, List.set_cons_succ]
                    refine wpAnyH_ready (rs := [4]) (by kernel_rfl) (by simp) ?_
                    refine AllReadyH.cons (o := { dst := some 210, op := Go.Op.call { callee := Go.Callee.value (Go.Operand.func 45), args := #[Go.Operand.tmp 209], argTypes := #[79] }, type := 84, pos := "law.go:175", after := #[{ on := 3, ground := Go.Ground.data }, { on := 2, ground := Go.Ground.chain }, { on := 2, ground := Go.Ground.guard }], guard := some (2, false) }) rfl (fun K hK => ?_) AllReadyH.nil
                    go_simp
                    refine (waitD_any ki kp kx kt mn my mc mj mu y0).mono ?_; rintro e y1 ⟨rfl, hb⟩
                    have hnext := And.intro (hHeld.1.below hb) (hHeld.2.below hb)
                    replace HO8 := Lib.hid (HO8.out.below hb)
                    clear hb
                    refine hK.out _ _ (hnext) (fun hHeld2 => ?_)
                    clear hK K hHeld
                    have hHeld := hHeld2
                    clear hHeld2
                    try simp only [Act.put, List.setIfInBounds_toArray, List.set_cons_zero, List.set_cons_succ]
                    refine wpAnyH_ready (rs := [6]) (by kernel_rfl) (by simp) ?_
                    refine AllReadyH.cons (o := { dst := some 212, op := Go.Op.call { callee := Go.Callee.value (Go.Operand.func 45), args := #[Go.Operand.tmp 211], argTypes := #[79] }, type := 84, pos := "law.go:175", after := #[{ on := 5, ground := Go.Ground.data }, { on := 4, ground := Go.Ground.chain }, { on := 2, ground := Go.Ground.guard }], guard := some (2, false) }) rfl (fun K hK => ?_) AllReadyH.nil
                    go_simp
                    refine (waitD_any ki kp kx kt mn my mc mj mu y1).mono ?_; rintro e y2 ⟨rfl, hb⟩
                    have hnext := And.intro (hHeld.1.below hb) (hHeld.2.below hb)
                    replace HO8 := Lib.hid (HO8.out.below hb)
                    clear hb
                    refine hK.out _ _ (hnext) (fun hHeld2 => ?_)
                    clear hK K hHeld
                    have hHeld := hHeld2
                    clear hHeld2
                    try simp only [Act.put, List.setIfInBounds_toArray, List.set_cons_zero, List.set_cons_succ]
                    refine wpAnyH_take (i := 7) (oi := { dst := some 213, op := Go.Op.binOp Go.BinOp.neq 84 (Go.Operand.tmp 210) (Go.Operand.tmp 212) 84, type := 4, pos := "law.go:175", after := #[{ on := 4, ground := Go.Ground.data }, { on := 6, ground := Go.Ground.data }, { on := 2, ground := Go.Ground.guard }], guard := some (2, false) }) (v := ?v7_550103) rfl (by kernel_rfl) (by kernel_rfl) (by kernel_rfl) (fun _ _ _ h => h) (Or.inl ⟨by rfl, ?y7_550103⟩) hHeld ?r7_550103
                    case y7_550103 => intro w hSw; (try dsimp only at hSw); go_simp; try with_reducible rfl
                    try simp only [Act.put, List.setIfInBounds_toArray, List.set_cons_zero, List.set_cons_succ]
                    refine wpAnyH_take (i := 8) (oi := { dst := some 214, op := Go.Op.pick (Go.Operand.tmp 208) (Go.Operand.const (Go.Value.bool true)) (Go.Operand.tmp 213), type := 4, pos := "law.go:175", after := #[{ on := 2, ground := Go.Ground.data }, { on := 7, ground := Go.Ground.data }], guard := none }) (v := ?v8_550103) rfl (by kernel_rfl) (by kernel_rfl) (by kernel_rfl) (fun _ _ _ h => h) (Or.inl ⟨by rfl, ?y8_550103⟩) hHeld ?r8_550103
                    case y8_550103 => intro w hSw; (try dsimp only at hSw); go_simp; try with_reducible rfl
                    try simp only [Act.put, List.setIfInBounds_toArray, List.set_cons_zero, List.set_cons_succ]
                    refine wpAnyH_take (i := 9) (oi := { dst := some 215, op := Go.Op.move (Go.Operand.tmp 214), type := 4, pos := "law.go:175", after := #[{ on := 8, ground := Go.Ground.data }, { on := 6, ground := Go.Ground.chain }], guard := none }) (v := ?v9_550103) rfl (by kernel_rfl) (by kernel_rfl) (by kernel_rfl) (fun _ _ _ h => h) (Or.inl ⟨by rfl, ?y9_550103⟩) hHeld ?r9_550103
                    case y9_550103 => intro w hSw; (try dsimp only at hSw); go_simp; try with_reducible rfl
                    try simp only [Act.put, List.setIfInBounds_toArray, List.set_cons_zero, List.set_cons_succ]
                    refine wpAnyH_take (i := 10) (oi := { dst := some 216, op := Go.Op.move (Go.Operand.tmp 25), type := 4, pos := "law.go:175", after := #[{ on := 9, ground := Go.Ground.guard }], guard := some (9, false) }) (v := ?v10_550103) rfl (by kernel_rfl) (by kernel_rfl) (by kernel_rfl) (fun _ _ _ h => h) (Or.inl ⟨by rfl, ?y10_550103⟩) hHeld ?r10_550103
                    case y10_550103 => intro w hSw; (try dsimp only at hSw); go_simp; try with_reducible rfl
                    try simp only [Act.put, List.setIfInBounds_toArray, List.set_cons_zero, List.set_cons_succ]
                    refine wpAnyH_take (i := 11) (oi := { dst := some 217, op := Go.Op.pick (Go.Operand.tmp 215) (Go.Operand.const (Go.Value.bool true)) (Go.Operand.tmp 216), type := 4, pos := "law.go:175", after := #[{ on := 9, ground := Go.Ground.data }, { on := 10, ground := Go.Ground.data }], guard := none }) (v := ?v11_550103) rfl (by kernel_rfl) (by kernel_rfl) (by kernel_rfl) (fun _ _ _ h => h) (Or.inl ⟨by rfl, ?y11_550103⟩) hHeld ?r11_550103
                    case y11_550103 => intro w hSw; (try dsimp only at hSw); go_simp; try with_reducible rfl
                    try simp only [Act.put, List.setIfInBounds_toArray, List.set_cons_zero, List.set_cons_succ]
                    refine wpAnyH_take (i := 12) (oi := { dst := some 218, op := Go.Op.move (Go.Operand.tmp 217), type := 4, pos := "law.go:175", after := #[{ on := 11, ground := Go.Ground.data }, { on := 9, ground := Go.Ground.chain }], guard := none }) (v := ?v12_550103) rfl (by kernel_rfl) (by kernel_rfl) (by kernel_rfl) (fun _ _ _ h => h) (Or.inl ⟨by rfl, ?y12_550103⟩) hHeld ?r12_550103
                    case y12_550103 => intro w hSw; (try dsimp only at hSw); go_simp; try with_reducible rfl
                    try simp only [Act.put, List.setIfInBounds_toArray, List.set_cons_zero, List.set_cons_succ]
                    refine wpAnyH_take (i := 13) (oi := { dst := some 219, op := Go.Op.move (Go.Operand.tmp 7), type := 59, pos := "law.go:175", after := #[{ on := 12, ground := Go.Ground.guard }], guard := some (12, false) }) (v := ?v13_550103) rfl (by kernel_rfl) (by kernel_rfl) (by kernel_rfl) (fun _ _ _ h => h) (Or.inl ⟨by rfl, ?y13_550103⟩) hHeld ?r13_550103
                    case y13_550103 => intro w hSw; (try dsimp only at hSw); go_simp; try with_reducible rfl
                    try simp only [Act.put, List.setIfInBounds_toArray, List.set_cons_zero, List.set_cons_succ]
                    refine wpAnyH_take (i := 15) (oi := { dst := some 221, op := Go.Op.move (Go.Operand.tmp 15), type := 102, pos := "law.go:175", after := #[{ on := 12, ground := Go.Ground.guard }], guard := some (12, false) }) (v := ?v15_550103) rfl (by kernel_rfl) (by kernel_rfl) (by kernel_rfl) (fun _ _ _ h => h) (Or.inl ⟨by rfl, ?y15_550103⟩) hHeld ?r15_550103
                    case y15_550103 => intro w hSw; (try dsimp only at hSw); go_simp; try with_reducible rfl
                    try simp only [Act.put, List.setIfInBounds_toArray, List.set_cons_zero, List.set_cons_succ]
                    refine wpAnyH_take (i := 16) (oi := { dst := some 222, op := Go.Op.call { callee := Go.Callee.builtin Go.Builtin.len, args := #[Go.Operand.tmp 221], argTypes := #[102] }, type := 3, pos := "law.go:175", after := #[{ on := 15, ground := Go.Ground.data }, { on := 12, ground := Go.Ground.guard }], guard := some (12, false) }) (v := ?v16_550103) rfl (by kernel_rfl) (by kernel_rfl) (by kernel_rfl) (fun _ _ _ h => h) (Or.inl ⟨by rfl, ?y16_550103⟩) hHeld ?r16_550103
                    case y16_550103 => intro w hSw; (try dsimp only at hSw); go_simp; try with_reducible rfl
                    try simp only [Act.put, List.setIfInBounds_toArray, List.set_cons_zero, List.set_cons_succ]
                    refine wpAnyH_take (i := 17) (oi := { dst := some 223, op := Go.Op.binOp Go.BinOp.sub 3 (Go.Operand.tmp 222) (Go.Operand.const (Go.Value.int Go.IntKind.i64 1)) 3, type := 3, pos := "law.go:175", after := #[{ on := 16, ground := Go.Ground.data }, { on := 12, ground := Go.Ground.guard }], guard := some (12, false) }) (v := ?v17_550103) rfl (by kernel_rfl) (by kernel_rfl) (by kernel_rfl) (fun _ _ _ h => h) (Or.inl ⟨by rfl, ?y17_550103⟩) hHeld ?r17_550103
                    case y17_550103 => intro w hSw; (try dsimp only at hSw); go_simp; try with_reducible rfl
                    try simp only [Act.put, List.setIfInBounds_toArray, List.set_cons_zero, List.set_cons_succ]
                    refine wpAnyH_ready (rs := [14]) (by kernel_rfl) (by simp) ?_
                    refine AllReadyH.cons (o := { dst := some 220, op := Go.Op.call { callee := Go.Callee.value (Go.Operand.func 58), args := #[Go.Operand.tmp 219], argTypes := #[59] }, type := 3, pos := "law.go:175", after := #[{ on := 13, ground := Go.Ground.data }, { on := 12, ground := Go.Ground.chain }, { on := 12, ground := Go.Ground.guard }], guard := some (12, false) }) rfl (fun K hK => ?_) AllReadyH.nil
                    go_simp
                    refine (lenT_any c2 q { s2 with ws := s2.ws.eraseIdx wi } y2 HO8.out.one.tb).mono ?_; rintro e wx ⟨rfl, rfl⟩
                    rw [show ({ s2 with ws := s2.ws.eraseIdx wi } : TbP).ws.length = M1 from HM1.out]
                    refine hK.out _ _ (hHeld) (fun hHeld2 => ?_)
                    clear hK K hHeld
                    have hHeld := hHeld2
                    clear hHeld2
                    try simp only [Act.put, List.setIfInBounds_toArray, List.set_cons_zero, List.set_cons_succ]
                    refine wpAnyH_take (i := 18) (oi := { dst := some 224, op := Go.Op.binOp Go.BinOp.neq 3 (Go.Operand.tmp 220) (Go.Operand.tmp 223) 3, type := 4, pos := "law.go:175", after := #[{ on := 14, ground := Go.Ground.data }, { on := 17, ground := Go.Ground.data }, { on := 12, ground := Go.Ground.guard }], guard := some (12, false) }) (v := ?v18_550104) rfl (by kernel_rfl) (by kernel_rfl) (by kernel_rfl) (fun _ _ _ h => h) (Or.inl ⟨by rfl, ?y18_550104⟩) hHeld ?r18_550104
                    case y18_550104 => intro w hSw; (try dsimp only at hSw); go_simp; try with_reducible rfl
                    try simp only [Act.put, List.setIfInBounds_toArray, List.set_cons_zero, List.set_cons_succ]
                    refine wpAnyH_take (i := 19) (oi := { dst := some 225, op := Go.Op.pick (Go.Operand.tmp 218) (Go.Operand.const (Go.Value.bool true)) (Go.Operand.tmp 224), type := 4, pos := "law.go:175", after := #[{ on := 12, ground := Go.Ground.data }, { on := 18, ground := Go.Ground.data }], guard := none }) (v := ?v19_550104) rfl (by kernel_rfl) (by kernel_rfl) (by kernel_rfl) (fun _ _ _ h => h) (Or.inl ⟨by rfl, ?y19_550104⟩) hHeld ?r19_550104
                    case y19_550104 => intro w hSw; (try dsimp only at hSw); go_simp; try with_reducible rfl
                    try simp only [Act.put, List.setIfInBounds_toArray, List.set_cons_zero, List.set_cons_succ]
                    refine wpAnyH_done (by kernel_rfl) ?_ _
                    clear hHeld
                    have ik : IntKind.i64.wrap ((k : Int) + 1) = ((k + 1 : Nat) : Int) := by rw [IntKind.wrap_i64]; have := HLT.out; omega
                    go_wp2
                    go_roundw
                    case rel => exact ⟨k + 1, c2, _, HLT.out, by go_num, HO8⟩
                    case measure =>
                      simp only [intOf]
                      have := HLT.out
                      omega
          clear x0
          as_aux_lemma =>
           by_cases k0 : kd = 0
           · have e0 : (kd == 0) = true := eT k0
             clear k0
             obtain ⟨-, f1, f2, -, f5, f6, f7, f8, f9, -⟩ := HF.out
             have x1 := (HOP.out.1 1 _ f1).1
             have x2 := (HOP.out.1 2 _ f2).1
             have x5 := (HOP.out.1 5 _ f5).1
             have x6 := (HOP.out.1 6 _ f6).1
             have x7 := (HOP.out.1 7 _ f7).1
             have x8 := (HOP.out.1 8 _ f8).1
             have x9 := (HOP.out.1 9 _ f9).1
             clear f1 f2 f5 f6 f7 f8 f9
             go_wp2_with fail
             clear x1 x2 x5 x6 x7 x8 x9
             have hl5 := HO5.out.few5 HMO.out.2
             by_cases hop : (s.ws.length : Int) < most ∧ 0 ≤ nw ∧ nw ≤ 1099511627776
             · refine (open_yes c q s nw jb tx tc qn qt qk w5 HO5.out.one.tb (by omega) (by rw [HO5.out.mst]; exact hop.1) hop.2).mono ?_; rintro e w6 ⟨rfl, ⟨c2, hs2, hc2⟩, hf2⟩
               have HO6 := Lib.hid (HO5.out.opened hs2 hc2 hf2 hop.1 HMO.out.2)
               have HP6 := Lib.hid (HOP.out.frm hf2 HGO.out)
               have HG6 := Lib.hid (out_of hc2 HGO.out HOP.out.2)
               clear hs2 hc2 hf2
               go_wp2_with fail
               go_meet
               exact ⟨c2, _, HO6, HP6, HG6⟩
             · obtain ⟨er, her⟩ : ∃ er : Int, (s.most ≤ (s.ws.length : Int) ∧ er = 8) ∨ ((s.ws.length : Int) < s.most ∧ (nw < 0 ∨ 1099511627776 < nw) ∧ er = 1) := by
                 rw [HO5.out.mst]
                 by_cases h8 : most ≤ (s.ws.length : Int)
                 · exact ⟨8, Or.inl ⟨h8, rfl⟩⟩
                 · exact ⟨1, Or.inr ⟨by omega, by omega, rfl⟩⟩
               refine (open_no c q s nw jb tx tc qn qt qk er w5 HO5.out.one.tb (by omega) her).mono ?_; rintro e w6 ⟨rfl, hs2, hf2⟩
               have HO6 := Lib.hid (HO5.out.next.put hs2 (fun x hx => Or.inl hx) hf2 (fun x hx => hx) rfl (List.Sublist.refl _))
               have HP6 := Lib.hid (HOP.out.frm hf2 HGO.out)
               clear hs2 hf2 her hop hl5
               go_wp2_with fail
               go_meet
               exact ⟨c, s, HO6, HP6, HGO⟩
           have e0 : (kd == 0) = false := eF k0
           by_cases k3 : kd = 3
           · have e3 : (kd == 3) = true := eT k3
             have e2 : (kd == 2) = false := eF (by omega)
             clear k3 k0
             have x10 := (HOP.out.1 10 _ HF.out.2.2.2.2.2.2.2.2.2).1
             go_wp2_with fail
             clear x10
             have hl5 := HO5.out.few5 HMO.out.2
             refine (drop_any c q s ja jn jc J w5 HO5.out.one.tb (by omega) HJR.out (by have := HJN.out; omega)).mono ?_; rintro e w6 ⟨vB, rfl, -, ⟨c2, hs2, hc2, -⟩, hf2⟩
             have HO6 := Lib.hid (HO5.out.next.put hs2 hc2 hf2 (fun x hx => by simp at hx; subst hx; exact HO5.out.q) rfl List.filter_sublist)
             have HP6 := Lib.hid (HOP.out.frm hf2 (by simp; exact fun e => HGO.out (e ▸ HO5.out.q)))
             have HG6 := Lib.hid (out_of hc2 HGO.out HOP.out.2)
             clear hs2 hc2 hf2
             go_wp2_with fail
             go_meet
             exact ⟨c2, _, HO6, HP6, HG6⟩
           have e3 : (kd == 3) = false := eF k3
           rcases (Decidable.em (kd = 2)).symm with k2 | k2
           · have e2 : (kd == 2) = false := eF k2
             go_wp2_with fail
             go_meet
             exact ⟨c, s, Lib.hid HO5.out.next, HOP, HGO⟩
           have e2 : (kd == 2) = true := eT k2
           clear k2 k3 k0
           have x1 := (HOP.out.1 1 _ HF.out.2.1).1
           go_wp2_with fail
           clear x1
           have hl5 := HO5.out.few5 HMO.out.2
           refine (expire_any c q s nw w5 HO5.out.one.tb (by omega)).mono ?_; rintro e w6 ⟨vB, rfl, hvB, ⟨c2, hs2, hc2, hv2⟩, hf2⟩
           have HO6 := Lib.hid (HO5.out.next.put hs2 hc2 hf2 (fun x hx => by simp at hx; subst hx; exact HO5.out.q) rfl List.filter_sublist)
           have HP6 := Lib.hid (HOP.out.frm hf2 (by simp; exact fun e => HGO.out (e ▸ HO5.out.q)))
           have HG6 := Lib.hid (out_of hc2 HGO.out HOP.out.2)
           have HOK := Lib.hid HO5.out.ok
           obtain ⟨va, vc, rfl, -, -⟩ := cellsK_own hvB
           have HV6 := Lib.hid hvB
           have HVN := Lib.hid hv2
           clear hs2 hc2 hf2 hvB hv2 HO5 HOP HGO HJR
           obtain ⟨X, hX⟩ : ∃ z, (s.ws.filter (fun x => decide (x.until_ ≤ nw))).length = z := ⟨_, rfl⟩
           have HX := Lib.hid hX
           have hXl : X ≤ 1000 := by have := List.length_filter_le (fun x => decide (x.until_ ≤ nw)) s.ws; omega
           rw [hX] at HV6 HVN ⊢
           obtain ⟨B6, hB6⟩ : ∃ z, w5.heap.size = z := ⟨_, rfl⟩
           rw [hB6] at HV6
           clear hX hB6 hl5
           go_wp2_with fail
           go_loopw [86] (fun i wr => ∃ t : Nat, t ≤ X ∧ i = .int .i64 t ∧ Hid (St20 w wr q c2 most (k + 1) { s with ws := s.ws.filter (fun x => !decide (x.until_ ≤ nw)) }) ∧ Hid (HeldT gO OC wr) ∧ Hid (wr.ownsRow B6 79 9 (.slice va X vc) X (flatW (s.ws.filter (fun x => decide (x.until_ ≤ nw)))))) (fun i _ => X - (intOf i).toNat)
           case atStart => exact ⟨0, Nat.zero_le _, rfl, HO6, HP6, HV6⟩
           case round =>
             obtain ⟨t, ht, rfl, HOt, HPt, HVt⟩ := hrel
             clear HO6 HP6 HV6
             by_cases htx : t < X
             · have dd2 : decide ((t : Int) < (X : Int)) = true := dT (by omega)
               have dn2 : decide (t < X) = true := dT htx
               obtain ⟨gv, c', e, -, hgv⟩ := own_shp' HVt.out (by omega)
               injection e with e1 _ e3
               subst e1
               subst e3
               obtain ⟨r, hr⟩ : ∃ r, (s.ws.filter (fun x => decide (x.until_ ≤ nw)))[t]? = some r := ⟨_, List.getElem?_eq_getElem (by rw [HX.out]; exact htx)⟩
               obtain ⟨⟨ki, kp, kx, kt⟩, ⟨mn, my, mc⟩, mj, mu⟩ := r
               have HRM := Lib.hid (List.mem_of_getElem? hr)
               have hrm := List.mem_filter.1 HRM.out
               have HID := Lib.hid (show 0 ≤ ki ∧ ki < 65536 from HOK.out.ids _ hrm.1)
               have HMU := Lib.hid (show mu ≤ nw from of_decide_eq_true hrm.2)
               have HRG := Lib.hid (show wr.rangeAt gv (t * 9) [.int .i64 ki, .int .i64 kp, .string kx, .bool kt, .string mn, .int .i64 my, .int .i64 mc, .int .i64 mj, .int .i64 mu] from fun j v hj => ownsRow_at HVt.out _ _ (by rw [flatW_at _ t j _ hr (List.getElem?_eq_some_iff.1 hj).1]; exact hj))
               have HTX := Lib.hid htx
               have i1 : (0 : Int) ≤ (t : Int) := by omega
               have i2 : (t : Int) < (X : Int) := by omega
               clear hr hrm htx
               have hba := (Below.refl wr.heap.size wr).alloc (Nat.le_refl _) (.cells #[.int .i64 0, .int .i64 0, .string ⟨#[]⟩, .bool false, .string ⟨#[]⟩, .int .i64 0, .int .i64 0, .int .i64 0, .int .i64 0] 79)
               have y0 := HeldT.new wr #[.int .i64 0, .int .i64 0, .string ⟨#[]⟩, .bool false, .string ⟨#[]⟩, .int .i64 0, .int .i64 0, .int .i64 0, .int .i64 0] 79
               obtain ⟨u1, hu1⟩ : ∃ z, wr.alloc (.cells #[.int .i64 0, .int .i64 0, .string ⟨#[]⟩, .bool false, .string ⟨#[]⟩, .int .i64 0, .int .i64 0, .int .i64 0, .int .i64 0] 79) = z := ⟨_, rfl⟩
               rw [hu1] at hba y0
               have HTH7 := Lib.hid (show (wr.alloc (.cells #[.int .i64 0, .int .i64 0, .string ⟨#[]⟩, .bool false, .string ⟨#[]⟩, .int .i64 0, .int .i64 0, .int .i64 0, .int .i64 0] 79)).there wr.heap.size 0 ([.int .i64 ki, .int .i64 kp, .string kx, .bool kt, .string mn, .int .i64 my, .int .i64 mc, .int .i64 mj, .int .i64 mu] : List Value).toArray.size from by
                 rw [hu1]
                 intro j hj
                 rw [Nat.zero_add]
                 have hj9 : j < ([.int .i64 0, .int .i64 0, .string ⟨#[]⟩, .bool false, .string ⟨#[]⟩, .int .i64 0, .int .i64 0, .int .i64 0, .int .i64 0] : List Value).length := by have h9 : j < ([.int .i64 ki, .int .i64 kp, .string kx, .bool kt, .string mn, .int .i64 my, .int .i64 mc, .int .i64 mj, .int .i64 mu] : List Value).length := hj; rw [show ([.int .i64 ki, .int .i64 kp, .string kx, .bool kt, .string mn, .int .i64 my, .int .i64 mc, .int .i64 mj, .int .i64 mu] : List Value).length = 9 from rfl] at h9; exact h9
                 obtain ⟨u, hu⟩ : ∃ u, ([.int .i64 0, .int .i64 0, .string ⟨#[]⟩, .bool false, .string ⟨#[]⟩, .int .i64 0, .int .i64 0, .int .i64 0, .int .i64 0] : List Value)[j]? = some u := ⟨_, List.getElem?_eq_getElem hj9⟩
                 obtain ⟨h1, h2⟩ := y0.1 j u hu
                 exact ⟨by rw [h1]; rfl, h2⟩)
               have HW0 := Lib.hid (show HeldT wr.heap.size [.int .i64 ki, .int .i64 kp, .string kx, .bool kt, .string mn, .int .i64 my, .int .i64 mc, .int .i64 mj, .int .i64 mu] (u1.setCells wr.heap.size 0 [.int .i64 ki, .int .i64 kp, .string kx, .bool kt, .string mn, .int .i64 my, .int .i64 mc, .int .i64 mj, .int .i64 mu]) from y0.into (by rw [show ([.int .i64 ki, .int .i64 kp, .string kx, .bool kt, .string mn, .int .i64 my, .int .i64 mc, .int .i64 mj, .int .i64 mu] : List Value).length = 9 from rfl]; rfl))
               have hb7 := tb_sets hba (b := wr.heap.size) (Nat.le_refl _) 0 [.int .i64 ki, .int .i64 kp, .string kx, .bool kt, .string mn, .int .i64 my, .int .i64 mc, .int .i64 mj, .int .i64 mu]
               obtain ⟨w7, hw5⟩ : ∃ z, u1.setCells wr.heap.size 0 [.int .i64 ki, .int .i64 kp, .string kx, .bool kt, .string mn, .int .i64 my, .int .i64 mc, .int .i64 mj, .int .i64 mu] = z := ⟨_, rfl⟩
               rw [hw5] at HW0 hb7
               have HW7 := Lib.hid (show (wr.alloc (.cells #[.int .i64 0, .int .i64 0, .string ⟨#[]⟩, .bool false, .string ⟨#[]⟩, .int .i64 0, .int .i64 0, .int .i64 0, .int .i64 0] 79)).setCells wr.heap.size 0 ([.int .i64 ki, .int .i64 kp, .string kx, .bool kt, .string mn, .int .i64 my, .int .i64 mc, .int .i64 mj, .int .i64 mu] : List Value).toArray.toList = w7 from by rw [hu1]; exact hw5)
               have hsz7 := hba.size
               obtain ⟨gW, hgO⟩ : ∃ z, wr.heap.size = z := ⟨_, rfl⟩
               have HG7 := Lib.hid hgO
               rw [hgO] at HW0
               clear hba y0 hu1 hw5 hgO hsz7
               have HO7 := Lib.hid (HOt.out.below hb7)
               have HP7 := Lib.hid (HPt.out.below hb7)
               have HV7 := Lib.hid (own_below' HVt.out hb7)
               have HGW := Lib.hid (show gW ∉ c2 from fun e => by have := HOt.out.one.tb.lt gW e; have := HG7.out; omega)
               have HGV := Lib.hid (HVN.out gv rfl)
               have HON := Lib.hid (encW_one ⟨⟨ki, kp, kx, kt⟩, ⟨mn, my, mc⟩, mj, mu⟩)
               clear hb7 HOt HPt HVt hgv ht
               go_upto_region 16 with (fail)
               go_upto_region 17 with (first | (refine wpList_load_mid rfl 79 (.tmp 88) rfl _ _ rfl _ _ HRG.out Try.underlying79 rfl (by kernel_rfl) ?_) | (refine wpList_store_mid rfl 79 (.tmp 12) (.tmp 89) rfl _ _ _ rfl rfl HTH7.out (by kernel_rfl) (all_oneCell_toArray HON.out) ?_; rw [HW7.out, HG7.out]))
               clear HTH7 HW7 HG7 HRG HON i1 i2
               simp only [Act.put]
               have HT0 := Lib.hid HO7.out.one.tb
               have HLN := Lib.hid (show ({ s with ws := s.ws.filter (fun x => !decide (x.until_ ≤ nw)) } : TbP).ws.length ≤ 1000 from HO7.out.few5 HMO.out.2)
               go_cut [13, 14] (fun p v wx => ∃ (gb : Nat) (C : List Value) (ok : Bool) (s9 : TbP), p = .pointer (some ⟨gb, 0, none⟩) ∧ v = .bool ok ∧ Hid (HeldT gb C wx) ∧ Hid (MRes { s with ws := s.ws.filter (fun x => !decide (x.until_ ≤ nw)) } ⟨⟨ki, kp, kx, kt⟩, ⟨mn, my, mc⟩, mj, mu⟩ 0 C ok s9) ∧ Hid (TbS wx c2 q s9) ∧ Hid (Frm w7 wx c2) ∧ Hid (gb ∉ c2))
               case rest =>
                 obtain ⟨gb, C, ok, s9, rfl, rfl, HBX, HMR, HT, HFR, HGB⟩ := hcut
                 obtain ⟨rfl, rfl⟩ := HMR.out.no (HOK.out.parted _ HRM.out)
                 have HO8 := Lib.hid (HO7.out.put HT.out (fun x hx => Or.inl hx) HFR.out (fun x hx => hx) rfl (List.Sublist.refl _))
                 have HP8 := Lib.hid (HP7.out.frm HFR.out HG6.out)
                 have HW8 := Lib.hid (HW0.out.frm HFR.out HGW.out)
                 have HV8 := Lib.hid (own_kept HV7.out (fun g hg => HFR.out.block g (HV7.out.lt g hg).2 (by have h9 : gv = g := Option.some.inj hg; subst h9; exact HGV.out)))
                 clear HO7 HP7 HW0 HV7 HT0 HT HFR HMR HBX HGB
                 have x8 := (HW8.out.1 8 _ rfl).1
                 have x1 := (HP8.out.1 1 _ HF.out.2.1).1
                 have d8 : decide (nw < mu) = false := dF (by have := HMU.out; omega)
                 have i1 : (0 : Int) ≤ (t : Int) := by omega
                 have i2 : (t : Int) < (X : Int) := by have := HTX.out; omega
                 go_wp2
                 go_roundw
                 case rel => exact ⟨t + 1, HTX.out, by go_num, HO8, HP8, HV8⟩
                 case measure =>
                   simp only [intOf]
                   have := HTX.out
                   omega
               case first =>
                as_aux_lemma =>
                 refine wp_region_held_drew (S := (fun wx => HeldT gW [.int .i64 ki, .int .i64 kp, .string kx, .bool kt, .string mn, .int .i64 my, .int .i64 mc, .int .i64 mj, .int .i64 mu] wx)) (by kernel_rfl) (HW0.out.below (Below.refl _ _).drew) (fun hHeld => ?_)
                 have hb := (Below.refl w7.heap.size w7).drew
                 have HT := Lib.hid (HT0.out.below hb)
                 have HFR := Lib.hid ((Frm.refl w7 c2).below hb (Nat.le_refl _))
                 obtain ⟨y0, hwd⟩ : ∃ z, w7.drew = z := ⟨_, rfl⟩
                 rw [hwd] at HT HFR hHeld ⊢
                 clear hwd hb
                 refine wpAnyH_take (i := 0) (oi := { dst := some 91, op := Go.Op.move (Go.Operand.tmp 7), type := 59, pos := "law.go:144", after := #[], guard := none }) (v := ?v0_500101) rfl (by kernel_rfl) (by kernel_rfl) (by kernel_rfl) (fun _ _ _ h => h) (Or.inl ⟨by rfl, ?y0_500101⟩) hHeld ?r0_500101
                 case y0_500101 => intro w hSw; (try dsimp only at hSw); go_simp; try with_reducible rfl
                 try simp only [Act.put, List.setIfInBounds_toArray, List.set_cons_zero, List.set_cons_succ]
                 refine wpAnyH_take (i := 1) (oi := { dst := some 92, op := Go.Op.fieldAddr 79 (Go.Operand.tmp 12) 0, type := 0, pos := "law.go:144", after := #[], guard := none }) (v := ?v1_500101) rfl (by kernel_rfl) (by kernel_rfl) (by kernel_rfl) (fun _ _ _ h => h) (Or.inl ⟨by rfl, ?y1_500101⟩) hHeld ?r1_500101
                 case y1_500101 => intro w hSw; (try dsimp only at hSw); go_simp; try with_reducible rfl
                 try simp only [Act.put, List.setIfInBounds_toArray, List.set_cons_zero, List.set_cons_succ]
                 refine wpAnyH_take (i := 2) (oi := { dst := some 93, op := Go.Op.load 69 (Go.Operand.tmp 92), type := 69, pos := "law.go:144", after := #[{ on := 1, ground := Go.Ground.data }], guard := none }) (v := ?v2_500101) rfl (by kernel_rfl) (by kernel_rfl) (by kernel_rfl) (fun _ _ _ h => h) (Or.inl ⟨by rfl, ?y2_500101⟩) hHeld ?r2_500101
                 case y2_500101 => intro w hSw; (try dsimp only at hSw); obtain ⟨s1, s2⟩ := hSw; have t0 := (s1 0 _ rfl).1; have t1 := (s1 1 _ rfl).1; have t2 := (s1 2 _ rfl).1; have t3 := (s1 3 _ rfl).1; have t4 := (s1 4 _ rfl).1; have t5 := (s1 5 _ rfl).1; have t6 := (s1 6 _ rfl).1; have t7 := (s1 7 _ rfl).1; have t8 := (s1 8 _ rfl).1; clear s1 s2; go_simp; try with_reducible rfl
                 try simp only [Act.put, List.setIfInBounds_toArray, List.set_cons_zero, List.set_cons_succ]
                 refine wpAnyH_take (i := 3) (oi := { dst := some 94, op := Go.Op.load 79 (Go.Operand.tmp 12), type := 79, pos := "law.go:144", after := #[], guard := none }) (v := ?v3_500101) rfl (by kernel_rfl) (by kernel_rfl) (by kernel_rfl) (fun _ _ _ h => h) (Or.inl ⟨by rfl, ?y3_500101⟩) hHeld ?r3_500101
                 case y3_500101 => intro w hSw; (try dsimp only at hSw); obtain ⟨s1, s2⟩ := hSw; have t0 := (s1 0 _ rfl).1; have t1 := (s1 1 _ rfl).1; have t2 := (s1 2 _ rfl).1; have t3 := (s1 3 _ rfl).1; have t4 := (s1 4 _ rfl).1; have t5 := (s1 5 _ rfl).1; have t6 := (s1 6 _ rfl).1; have t7 := (s1 7 _ rfl).1; have t8 := (s1 8 _ rfl).1; clear s1 s2; go_simp; try with_reducible rfl
                 try simp only [Act.put, List.setIfInBounds_toArray, List.set_cons_zero, List.set_cons_succ]
                 refine wpAnyH_ready (rs := [4, 10]) (by kernel_rfl) (by simp) ?_
                 refine AllReadyH.cons (o := { dst := some 95, op := Go.Op.call { callee := Go.Callee.value (Go.Operand.func 45), args := #[Go.Operand.tmp 94], argTypes := #[79] }, type := 84, pos := "law.go:144", after := #[{ on := 3, ground := Go.Ground.data }], guard := none }) rfl (fun K hK => ?_) (AllReadyH.cons (o := { dst := some 13, op := Go.Op.alloc 79, type := 0, pos := "law.go:144", after := #[], guard := none }) rfl (fun K hK => ?_) AllReadyH.nil)
                 · go_simp
                   refine (waitD_any ki kp kx kt mn my mc mj mu y0).mono ?_; rintro e y1 ⟨rfl, hb⟩
                   have hnext := hHeld.below hb
                   replace HT := Lib.hid (HT.out.below hb)
                   replace HFR := Lib.hid (HFR.out.below hb HFR.out.size)
                   clear hb
                   refine hK.out _ _ (hnext) (fun hHeld2 => ?_)
                   clear hK K hHeld
                   have hHeld := hHeld2
                   clear hHeld2
                   try simp only [Act.put, List.setIfInBounds_toArray, List.set_cons_zero, List.set_cons_succ]
                   refine wpAnyH_ready (rs := [5, 10]) (by kernel_rfl) (by simp) ?_
                   refine AllReadyH.cons (o := { dst := some 96, op := Go.Op.call { callee := Go.Callee.value (Go.Operand.func 46), args := #[Go.Operand.tmp 95, Go.Operand.const (Go.Value.int Go.IntKind.i64 0)], argTypes := #[84, 3] }, type := 75, pos := "law.go:144", after := #[{ on := 4, ground := Go.Ground.data }, { on := 4, ground := Go.Ground.chain }], guard := none }) rfl (fun K hK => ?_) (AllReadyH.cons (o := { dst := some 13, op := Go.Op.alloc 79, type := 0, pos := "law.go:144", after := #[], guard := none }) rfl (fun K hK => ?_) AllReadyH.nil)
                   · go_simp
                     refine (ans_any ki kp kx kt mn my mc mj mu 0 y1 HID.out (by decide)).mono ?_; rintro e y2 ⟨id, qr, aq, nq, cq, Q, rfl, hq, hnq, hgd, hb⟩
                     have hnext := hHeld.below hb
                     have HQQ := Lib.hid hq
                     have HNQ := Lib.hid hnq
                     have HGD := Lib.hid hgd
                     replace HT := Lib.hid (HT.out.below hb)
                     replace HFR := Lib.hid (HFR.out.below hb HFR.out.size)
                     clear hb hq hnq hgd
                     refine hK.out _ _ (hnext) (fun hHeld2 => ?_)
                     clear hK K hHeld
                     have hHeld := hHeld2
                     clear hHeld2
                     try simp only [Act.put, List.setIfInBounds_toArray, List.set_cons_zero, List.set_cons_succ]
                     refine wpAnyH_ready (rs := [6, 10]) (by kernel_rfl) (by simp) ?_
                     refine AllReadyH.cons (o := { dst := some 97, op := Go.Op.call { callee := Go.Callee.value (Go.Operand.func 47), args := #[Go.Operand.tmp 91, Go.Operand.tmp 93, Go.Operand.tmp 96], argTypes := #[59, 69, 75] }, type := 92, pos := "law.go:144", after := #[{ on := 0, ground := Go.Ground.data }, { on := 2, ground := Go.Ground.data }, { on := 5, ground := Go.Ground.data }, { on := 5, ground := Go.Ground.chain }], guard := none }) rfl (fun K hK => ?_) (AllReadyH.cons (o := { dst := some 13, op := Go.Op.alloc 79, type := 0, pos := "law.go:144", after := #[], guard := none }) rfl (fun K hK => ?_) AllReadyH.nil)
                     · go_simp
                       refine (matchR_any c2 q { s with ws := s.ws.filter (fun x => !decide (x.until_ ≤ nw)) } ki kp kx kt mn my mc mj mu 0 id qr aq nq cq Q y2 HT.out (by have := HLN.out; omega) HQQ.out HNQ.out HGD.out).mono ?_; rintro e y3 ⟨C, ok, s9, rfl, hcl, hc1, hmr, hts, hfm⟩
                       have hnext := hHeld.frm hfm HGW.out
                       replace HT := Lib.hid hts
                       replace HFR := Lib.hid (HFR.out.trans hfm (fun b hb => Or.inl hb))
                       have HCL := Lib.hid hcl
                       have HC1 := Lib.hid hc1
                       have HMR := Lib.hid hmr
                       clear hfm hts hcl hc1 hmr HQQ HNQ HGD
                       refine hK.out _ _ (hnext) (fun hHeld2 => ?_)
                       clear hK K hHeld
                       have hHeld := hHeld2
                       clear hHeld2
                       try simp only [Act.put, List.setIfInBounds_toArray, List.set_cons_zero, List.set_cons_succ]
                       refine wpAnyH_take (i := 7) (oi := { dst := some 90, op := Go.Op.move (Go.Operand.tmp 97), type := 92, pos := "law.go:144", after := #[{ on := 6, ground := Go.Ground.data }], guard := none }) (v := ?v7_500104) rfl (by kernel_rfl) (by kernel_rfl) (by kernel_rfl) (fun _ _ _ h => h) (Or.inl ⟨by rfl, ?y7_500104⟩) hHeld ?r7_500104
                       case y7_500104 => intro w hSw; (try dsimp only at hSw); go_simp; try with_reducible rfl
                       try simp only [Act.put, List.setIfInBounds_toArray, List.set_cons_zero, List.set_cons_succ]
                       refine wpAnyH_take (i := 8) (oi := { dst := some 98, op := Go.Op.extract (Go.Operand.tmp 90) 0, type := 79, pos := "law.go:144", after := #[{ on := 7, ground := Go.Ground.data }], guard := none }) (v := ?v8_500104) rfl (by kernel_rfl) (by kernel_rfl) (by kernel_rfl) (fun _ _ _ h => h) (Or.inl ⟨by rfl, ?y8_500104⟩) hHeld ?r8_500104
                       case y8_500104 => intro w hSw; (try dsimp only at hSw); go_simp; try with_reducible rfl
                       try simp only [Act.put, List.setIfInBounds_toArray, List.set_cons_zero, List.set_cons_succ]
                       refine wpAnyH_take (i := 9) (oi := { dst := some 99, op := Go.Op.extract (Go.Operand.tmp 90) 1, type := 4, pos := "law.go:144", after := #[{ on := 7, ground := Go.Ground.data }, { on := 11, ground := Go.Ground.gcOnly Go.Departure.lateStores }], guard := none }) (v := ?v9_500104) rfl (by kernel_rfl) (by kernel_rfl) (by kernel_rfl) (fun _ _ _ h => h) (Or.inl ⟨by rfl, ?y9_500104⟩) hHeld ?r9_500104
                       case y9_500104 => intro w hSw; (try dsimp only at hSw); go_simp; try with_reducible rfl
                       try simp only [Act.put, List.setIfInBounds_toArray, List.set_cons_zero, List.set_cons_succ]
                       refine wpAnyH_ready (rs := [10]) (by kernel_rfl) (by simp) ?_
                       refine AllReadyH.cons (o := { dst := some 13, op := Go.Op.alloc 79, type := 0, pos := "law.go:144", after := #[], guard := none }) rfl (fun K hK => ?_) AllReadyH.nil
                       go_simp
                       have hal := (Below.refl y3.heap.size y3).alloc (Nat.le_refl _) (.cells #[.int .i64 0, .int .i64 0, .string ⟨#[]⟩, .bool false, .string ⟨#[]⟩, .int .i64 0, .int .i64 0, .int .i64 0, .int .i64 0] 79)
                       have hnext := hHeld.below hal
                       have HZ := Lib.hid (HeldT.new y3 #[.int .i64 0, .int .i64 0, .string ⟨#[]⟩, .bool false, .string ⟨#[]⟩, .int .i64 0, .int .i64 0, .int .i64 0, .int .i64 0] 79)
                       have HGB := Lib.hid (show gW < y3.heap.size ∧ y3.heap.size ∉ c2 from ⟨hHeld.2, fun e => by have := HT.out.lt _ e; omega⟩)
                       have HGS := Lib.hid (show w7.heap.size ≤ y3.heap.size from HFR.out.size)
                       replace HT := Lib.hid (HT.out.below hal)
                       replace HFR := Lib.hid (HFR.out.below hal HFR.out.size)
                       obtain ⟨y4, hwf⟩ : ∃ z, y3.alloc (.cells #[.int .i64 0, .int .i64 0, .string ⟨#[]⟩, .bool false, .string ⟨#[]⟩, .int .i64 0, .int .i64 0, .int .i64 0, .int .i64 0] 79) = z := ⟨_, rfl⟩
                       obtain ⟨gb, hgb⟩ : ∃ z, y3.heap.size = z := ⟨_, rfl⟩
                       rw [hwf] at hnext HT HFR HZ ⊢
                       rw [hgb] at HZ HGB HGS ⊢
                       clear hwf hgb hal
                       refine hK.out _ _ (hnext) (fun hHeld2 => ?_)
                       clear hK K hHeld
                       have hHeld := hHeld2
                       clear hHeld2
                       try simp only [Act.put, List.setIfInBounds_toArray, List.set_cons_zero, List.set_cons_succ]
                       refine wpAnyH_ready (rs := [11]) (by kernel_rfl) (by simp) ?_
                       refine AllReadyH.cons (o := { dst := none, op := Go.Op.store 79 (Go.Operand.tmp 13) (Go.Operand.tmp 98), type := 0, pos := "law.go:144", after := #[{ on := 10, ground := Go.Ground.data }, { on := 8, ground := Go.Ground.data }, { on := 6, ground := Go.Ground.chain }, { on := 0, ground := Go.Ground.phase }, { on := 1, ground := Go.Ground.phase }, { on := 2, ground := Go.Ground.phase }, { on := 3, ground := Go.Ground.phase }, { on := 4, ground := Go.Ground.phase }, { on := 5, ground := Go.Ground.phase }, { on := 6, ground := Go.Ground.phase }, { on := 7, ground := Go.Ground.phase }, { on := 8, ground := Go.Ground.phase }, { on := 9, ground := Go.Ground.textOnly Go.Departure.lateStores }, { on := 10, ground := Go.Ground.phase }], guard := none }) rfl (fun K hK => ?_) AllReadyH.nil
                       refine step_store_mid (by rfl) 79 (.tmp 13) (.tmp 98) (by rfl) gb 0 C.toArray (by rfl) (by rfl) (fun j hj => by obtain ⟨u, hu⟩ : ∃ u, ([.int .i64 0, .int .i64 0, .string ⟨#[]⟩, .bool false, .string ⟨#[]⟩, .int .i64 0, .int .i64 0, .int .i64 0, .int .i64 0] : List Value)[j]? = some u := ⟨_, List.getElem?_eq_getElem (show j < ([.int .i64 0, .int .i64 0, .string ⟨#[]⟩, .bool false, .string ⟨#[]⟩, .int .i64 0, .int .i64 0, .int .i64 0, .int .i64 0] : List Value).length from by have h9 : j < C.length := hj; rw [HCL.out] at h9; exact h9)⟩; obtain ⟨h1, h2⟩ := HZ.out.1 j u hu; rw [Nat.zero_add]; exact ⟨by rw [h1]; rfl, h2⟩) (by show _ = some C.length; rw [HCL.out]; kernel_rfl) (all_oneCell_toArray HC1.out) ?_
                       simp only [Act.put]
                       have HBX := Lib.hid (show HeldT gb C (y4.setCells gb 0 C) from HZ.out.into (by rw [HCL.out]; rfl))
                       have hfr := (Frm.refl y4 [gb]).sets gb 0 (Or.inl (by simp)) C
                       have hnext := hHeld.frm hfr (by simp; have := HGB.out.1; omega)
                       replace HT := Lib.hid (HT.out.frm hfr (fun b hb e => HGB.out.2 (by simp at e; exact e ▸ hb)))
                       replace HFR := Lib.hid (HFR.out.trans hfr (fun b hb => Or.inr (by simp at hb; subst hb; exact HGS.out)))
                       obtain ⟨y5, hwh⟩ : ∃ z, y4.setCells gb 0 C = z := ⟨_, rfl⟩
                       rw [hwh] at HBX hnext HT HFR
                       rw [show y4.setCells gb 0 (C.toArray : Array Value).toList = y5 from hwh]
                       clear hwh hfr HZ
                       refine hK.out _ _ (hnext) (fun hHeld2 => ?_)
                       clear hK K hHeld
                       have hHeld := hHeld2
                       clear hHeld2
                       try simp only [Act.put, List.setIfInBounds_toArray, List.set_cons_zero, List.set_cons_succ]
                       refine wpAnyH_take (i := 12) (oi := { dst := some 14, op := Go.Op.assign (Go.Operand.tmp 99), type := 4, pos := "law.go:144", after := #[{ on := 9, ground := Go.Ground.data }, { on := 11, ground := Go.Ground.chain }, { on := 0, ground := Go.Ground.phase }, { on := 1, ground := Go.Ground.phase }, { on := 2, ground := Go.Ground.phase }, { on := 3, ground := Go.Ground.phase }, { on := 4, ground := Go.Ground.phase }, { on := 5, ground := Go.Ground.phase }, { on := 6, ground := Go.Ground.phase }, { on := 7, ground := Go.Ground.phase }, { on := 8, ground := Go.Ground.phase }, { on := 9, ground := Go.Ground.phase }, { on := 10, ground := Go.Ground.phase }, { on := 11, ground := Go.Ground.phase }], guard := none }) (v := ?v12_500106) rfl (by kernel_rfl) (by kernel_rfl) (by kernel_rfl) (fun _ _ _ h => h) (Or.inl ⟨by rfl, ?y12_500106⟩) hHeld ?r12_500106
                       case y12_500106 => intro w hSw; (try dsimp only at hSw); go_simp; try with_reducible rfl
                       try simp only [Act.put, List.setIfInBounds_toArray, List.set_cons_zero, List.set_cons_succ]
                       refine wpAnyH_done (by kernel_rfl) ?_ _
                       go_wp2_with fail
                       go_meet
                       exact ⟨gb, C, ok, s9, rfl, rfl, HBX, HMR, HT, HFR, Lib.hid HGB.out.2⟩
                     · go_simp
                       have hal := (Below.refl y2.heap.size y2).alloc (Nat.le_refl _) (.cells #[.int .i64 0, .int .i64 0, .string ⟨#[]⟩, .bool false, .string ⟨#[]⟩, .int .i64 0, .int .i64 0, .int .i64 0, .int .i64 0] 79)
                       have hnext := hHeld.below hal
                       have HZ := Lib.hid (HeldT.new y2 #[.int .i64 0, .int .i64 0, .string ⟨#[]⟩, .bool false, .string ⟨#[]⟩, .int .i64 0, .int .i64 0, .int .i64 0, .int .i64 0] 79)
                       have HGB := Lib.hid (show gW < y2.heap.size ∧ y2.heap.size ∉ c2 from ⟨hHeld.2, fun e => by have := HT.out.lt _ e; omega⟩)
                       have HGS := Lib.hid (show w7.heap.size ≤ y2.heap.size from HFR.out.size)
                       replace HT := Lib.hid (HT.out.below hal)
                       replace HFR := Lib.hid (HFR.out.below hal HFR.out.size)
                       replace HQQ := Lib.hid (HQQ.out.below hal)
                       obtain ⟨y3, hwf⟩ : ∃ z, y2.alloc (.cells #[.int .i64 0, .int .i64 0, .string ⟨#[]⟩, .bool false, .string ⟨#[]⟩, .int .i64 0, .int .i64 0, .int .i64 0, .int .i64 0] 79) = z := ⟨_, rfl⟩
                       obtain ⟨gb, hgb⟩ : ∃ z, y2.heap.size = z := ⟨_, rfl⟩
                       rw [hwf] at hnext HT HFR HZ HQQ ⊢
                       rw [hgb] at HZ HGB HGS ⊢
                       clear hwf hgb hal
                       refine hK.out _ _ (hnext) (fun hHeld2 => ?_)
                       clear hK K hHeld
                       have hHeld := hHeld2
                       clear hHeld2
                       try simp only [Act.put, List.setIfInBounds_toArray, List.set_cons_zero, List.set_cons_succ]
                       refine wpAnyH_ready (rs := [6]) (by kernel_rfl) (by simp) ?_
                       refine AllReadyH.cons (o := { dst := some 97, op := Go.Op.call { callee := Go.Callee.value (Go.Operand.func 47), args := #[Go.Operand.tmp 91, Go.Operand.tmp 93, Go.Operand.tmp 96], argTypes := #[59, 69, 75] }, type := 92, pos := "law.go:144", after := #[{ on := 0, ground := Go.Ground.data }, { on := 2, ground := Go.Ground.data }, { on := 5, ground := Go.Ground.data }, { on := 5, ground := Go.Ground.chain }], guard := none }) rfl (fun K hK => ?_) AllReadyH.nil
                       go_simp
                       refine (matchR_any c2 q { s with ws := s.ws.filter (fun x => !decide (x.until_ ≤ nw)) } ki kp kx kt mn my mc mj mu 0 id qr aq nq cq Q y3 HT.out (by have := HLN.out; omega) HQQ.out HNQ.out HGD.out).mono ?_; rintro e y4 ⟨C, ok, s9, rfl, hcl, hc1, hmr, hts, hfm⟩
                       have hnext := hHeld.frm hfm HGW.out
                       replace HT := Lib.hid hts
                       replace HFR := Lib.hid (HFR.out.trans hfm (fun b hb => Or.inl hb))
                       have HCL := Lib.hid hcl
                       have HC1 := Lib.hid hc1
                       have HMR := Lib.hid hmr
                       replace HZ := Lib.hid (HZ.out.frm hfm HGB.out.2)
                       clear hfm hts hcl hc1 hmr HQQ HNQ HGD
                       refine hK.out _ _ (hnext) (fun hHeld2 => ?_)
                       clear hK K hHeld
                       have hHeld := hHeld2
                       clear hHeld2
                       try simp only [Act.put, List.setIfInBounds_toArray, List.set_cons_zero, List.set_cons_succ]
                       refine wpAnyH_take (i := 7) (oi := { dst := some 90, op := Go.Op.move (Go.Operand.tmp 97), type := 92, pos := "law.go:144", after := #[{ on := 6, ground := Go.Ground.data }], guard := none }) (v := ?v7_500108) rfl (by kernel_rfl) (by kernel_rfl) (by kernel_rfl) (fun _ _ _ h => h) (Or.inl ⟨by rfl, ?y7_500108⟩) hHeld ?r7_500108
                       case y7_500108 => intro w hSw; (try dsimp only at hSw); go_simp; try with_reducible rfl
                       try simp only [Act.put, List.setIfInBounds_toArray, List.set_cons_zero, List.set_cons_succ]
                       refine wpAnyH_take (i := 8) (oi := { dst := some 98, op := Go.Op.extract (Go.Operand.tmp 90) 0, type := 79, pos := "law.go:144", after := #[{ on := 7, ground := Go.Ground.data }], guard := none }) (v := ?v8_500108) rfl (by kernel_rfl) (by kernel_rfl) (by kernel_rfl) (fun _ _ _ h => h) (Or.inl ⟨by rfl, ?y8_500108⟩) hHeld ?r8_500108
                       case y8_500108 => intro w hSw; (try dsimp only at hSw); go_simp; try with_reducible rfl
                       try simp only [Act.put, List.setIfInBounds_toArray, List.set_cons_zero, List.set_cons_succ]
                       refine wpAnyH_take (i := 9) (oi := { dst := some 99, op := Go.Op.extract (Go.Operand.tmp 90) 1, type := 4, pos := "law.go:144", after := #[{ on := 7, ground := Go.Ground.data }, { on := 11, ground := Go.Ground.gcOnly Go.Departure.lateStores }], guard := none }) (v := ?v9_500108) rfl (by kernel_rfl) (by kernel_rfl) (by kernel_rfl) (fun _ _ _ h => h) (Or.inl ⟨by rfl, ?y9_500108⟩) hHeld ?r9_500108
                       case y9_500108 => intro w hSw; (try dsimp only at hSw); go_simp; try with_reducible rfl
                       try simp only [Act.put, List.setIfInBounds_toArray, List.set_cons_zero, List.set_cons_succ]
                       refine wpAnyH_ready (rs := [11]) (by kernel_rfl) (by simp) ?_
                       refine AllReadyH.cons (o := { dst := none, op := Go.Op.store 79 (Go.Operand.tmp 13) (Go.Operand.tmp 98), type := 0, pos := "law.go:144", after := #[{ on := 10, ground := Go.Ground.data }, { on := 8, ground := Go.Ground.data }, { on := 6, ground := Go.Ground.chain }, { on := 0, ground := Go.Ground.phase }, { on := 1, ground := Go.Ground.phase }, { on := 2, ground := Go.Ground.phase }, { on := 3, ground := Go.Ground.phase }, { on := 4, ground := Go.Ground.phase }, { on := 5, ground := Go.Ground.phase }, { on := 6, ground := Go.Ground.phase }, { on := 7, ground := Go.Ground.phase }, { on := 8, ground := Go.Ground.phase }, { on := 9, ground := Go.Ground.textOnly Go.Departure.lateStores }, { on := 10, ground := Go.Ground.phase }], guard := none }) rfl (fun K hK => ?_) AllReadyH.nil
                       refine step_store_mid (by rfl) 79 (.tmp 13) (.tmp 98) (by rfl) gb 0 C.toArray (by rfl) (by rfl) (fun j hj => by obtain ⟨u, hu⟩ : ∃ u, ([.int .i64 0, .int .i64 0, .string ⟨#[]⟩, .bool false, .string ⟨#[]⟩, .int .i64 0, .int .i64 0, .int .i64 0, .int .i64 0] : List Value)[j]? = some u := ⟨_, List.getElem?_eq_getElem (show j < ([.int .i64 0, .int .i64 0, .string ⟨#[]⟩, .bool false, .string ⟨#[]⟩, .int .i64 0, .int .i64 0, .int .i64 0, .int .i64 0] : List Value).length from by have h9 : j < C.length := hj; rw [HCL.out] at h9; exact h9)⟩; obtain ⟨h1, h2⟩ := HZ.out.1 j u hu; rw [Nat.zero_add]; exact ⟨by rw [h1]; rfl, h2⟩) (by show _ = some C.length; rw [HCL.out]; kernel_rfl) (all_oneCell_toArray HC1.out) ?_
                       simp only [Act.put]
                       have HBX := Lib.hid (show HeldT gb C (y4.setCells gb 0 C) from HZ.out.into (by rw [HCL.out]; rfl))
                       have hfr := (Frm.refl y4 [gb]).sets gb 0 (Or.inl (by simp)) C
                       have hnext := hHeld.frm hfr (by simp; have := HGB.out.1; omega)
                       replace HT := Lib.hid (HT.out.frm hfr (fun b hb e => HGB.out.2 (by simp at e; exact e ▸ hb)))
                       replace HFR := Lib.hid (HFR.out.trans hfr (fun b hb => Or.inr (by simp at hb; subst hb; exact HGS.out)))
                       obtain ⟨y5, hwh⟩ : ∃ z, y4.setCells gb 0 C = z := ⟨_, rfl⟩
                       rw [hwh] at HBX hnext HT HFR
                       rw [show y4.setCells gb 0 (C.toArray : Array Value).toList = y5 from hwh]
                       clear hwh hfr HZ
                       refine hK.out _ _ (hnext) (fun hHeld2 => ?_)
                       clear hK K hHeld
                       have hHeld := hHeld2
                       clear hHeld2
                       try simp only [Act.put, List.setIfInBounds_toArray, List.set_cons_zero, List.set_cons_succ]
                       refine wpAnyH_take (i := 12) (oi := { dst := some 14, op := Go.Op.assign (Go.Operand.tmp 99), type := 4, pos := "law.go:144", after := #[{ on := 9, ground := Go.Ground.data }, { on := 11, ground := Go.Ground.chain }, { on := 0, ground := Go.Ground.phase }, { on := 1, ground := Go.Ground.phase }, { on := 2, ground := Go.Ground.phase }, { on := 3, ground := Go.Ground.phase }, { on := 4, ground := Go.Ground.phase }, { on := 5, ground := Go.Ground.phase }, { on := 6, ground := Go.Ground.phase }, { on := 7, ground := Go.Ground.phase }, { on := 8, ground := Go.Ground.phase }, { on := 9, ground := Go.Ground.phase }, { on := 10, ground := Go.Ground.phase }, { on := 11, ground := Go.Ground.phase }], guard := none }) (v := ?v12_500109) rfl (by kernel_rfl) (by kernel_rfl) (by kernel_rfl) (fun _ _ _ h => h) (Or.inl ⟨by rfl, ?y12_500109⟩) hHeld ?r12_500109
                       case y12_500109 => intro w hSw; (try dsimp only at hSw); go_simp; try with_reducible rfl
                       try simp only [Act.put, List.setIfInBounds_toArray, List.set_cons_zero, List.set_cons_succ]
                       refine wpAnyH_done (by kernel_rfl) ?_ _
                       go_wp2_with fail
                       go_meet
                       exact ⟨gb, C, ok, s9, rfl, rfl, HBX, HMR, HT, HFR, Lib.hid HGB.out.2⟩
                   · go_simp
                     have hal := (Below.refl y1.heap.size y1).alloc (Nat.le_refl _) (.cells #[.int .i64 0, .int .i64 0, .string ⟨#[]⟩, .bool false, .string ⟨#[]⟩, .int .i64 0, .int .i64 0, .int .i64 0, .int .i64 0] 79)
                     have hnext := hHeld.below hal
                     have HZ := Lib.hid (HeldT.new y1 #[.int .i64 0, .int .i64 0, .string ⟨#[]⟩, .bool false, .string ⟨#[]⟩, .int .i64 0, .int .i64 0, .int .i64 0, .int .i64 0] 79)
                     have HGB := Lib.hid (show gW < y1.heap.size ∧ y1.heap.size ∉ c2 from ⟨hHeld.2, fun e => by have := HT.out.lt _ e; omega⟩)
                     have HGS := Lib.hid (show w7.heap.size ≤ y1.heap.size from HFR.out.size)
                     replace HT := Lib.hid (HT.out.below hal)
                     replace HFR := Lib.hid (HFR.out.below hal HFR.out.size)
                     obtain ⟨y2, hwf⟩ : ∃ z, y1.alloc (.cells #[.int .i64 0, .int .i64 0, .string ⟨#[]⟩, .bool false, .string ⟨#[]⟩, .int .i64 0, .int .i64 0, .int .i64 0, .int .i64 0] 79) = z := ⟨_, rfl⟩
                     obtain ⟨gb, hgb⟩ : ∃ z, y1.heap.size = z := ⟨_, rfl⟩
                     rw [hwf] at hnext HT HFR HZ ⊢
                     rw [hgb] at HZ HGB HGS ⊢
                     clear hwf hgb hal
                     refine hK.out _ _ (hnext) (fun hHeld2 => ?_)
                     clear hK K hHeld
                     have hHeld := hHeld2
                     clear hHeld2
                     try simp only [Act.put, List.setIfInBounds_toArray, List.set_cons_zero, List.set_cons_succ]
                     refine wpAnyH_ready (rs := [5]) (by kernel_rfl) (by simp) ?_
                     refine AllReadyH.cons (o := { dst := some 96, op := Go.Op.call { callee := Go.Callee.value (Go.Operand.func 46), args := #[Go.Operand.tmp 95, Go.Operand.const (Go.Value.int Go.IntKind.i64 0)], argTypes := #[84, 3] }, type := 75, pos := "law.go:144", after := #[{ on := 4, ground := Go.Ground.data }, { on := 4, ground := Go.Ground.chain }], guard := none }) rfl (fun K hK => ?_) AllReadyH.nil
                     go_simp
                     refine (ans_any ki kp kx kt mn my mc mj mu 0 y2 HID.out (by decide)).mono ?_; rintro e y3 ⟨id, qr, aq, nq, cq, Q, rfl, hq, hnq, hgd, hb⟩
                     have hnext := hHeld.below hb
                     have HQQ := Lib.hid hq
                     have HNQ := Lib.hid hnq
                     have HGD := Lib.hid hgd
                     replace HT := Lib.hid (HT.out.below hb)
                     replace HFR := Lib.hid (HFR.out.below hb HFR.out.size)
                     replace HZ := Lib.hid (HZ.out.below hb)
                     clear hb hq hnq hgd
                     refine hK.out _ _ (hnext) (fun hHeld2 => ?_)
                     clear hK K hHeld
                     have hHeld := hHeld2
                     clear hHeld2
                     try simp only [Act.put, List.setIfInBounds_toArray, List.set_cons_zero, List.set_cons_succ]
                     refine wpAnyH_ready (rs := [6]) (by kernel_rfl) (by simp) ?_
                     refine AllReadyH.cons (o := { dst := some 97, op := Go.Op.call { callee := Go.Callee.value (Go.Operand.func 47), args := #[Go.Operand.tmp 91, Go.Operand.tmp 93, Go.Operand.tmp 96], argTypes := #[59, 69, 75] }, type := 92, pos := "law.go:144", after := #[{ on := 0, ground := Go.Ground.data }, { on := 2, ground := Go.Ground.data }, { on := 5, ground := Go.Ground.data }, { on := 5, ground := Go.Ground.chain }], guard := none }) rfl (fun K hK => ?_) AllReadyH.nil
                     go_simp
                     refine (matchR_any c2 q { s with ws := s.ws.filter (fun x => !decide (x.until_ ≤ nw)) } ki kp kx kt mn my mc mj mu 0 id qr aq nq cq Q y3 HT.out (by have := HLN.out; omega) HQQ.out HNQ.out HGD.out).mono ?_; rintro e y4 ⟨C, ok, s9, rfl, hcl, hc1, hmr, hts, hfm⟩
                     have hnext := hHeld.frm hfm HGW.out
                     replace HT := Lib.hid hts
                     replace HFR := Lib.hid (HFR.out.trans hfm (fun b hb => Or.inl hb))
                     have HCL := Lib.hid hcl
                     have HC1 := Lib.hid hc1
                     have HMR := Lib.hid hmr
                     replace HZ := Lib.hid (HZ.out.frm hfm HGB.out.2)
                     clear hfm hts hcl hc1 hmr HQQ HNQ HGD
                     refine hK.out _ _ (hnext) (fun hHeld2 => ?_)
                     clear hK K hHeld
                     have hHeld := hHeld2
                     clear hHeld2
                     try simp only [Act.put, List.setIfInBounds_toArray, List.set_cons_zero, List.set_cons_succ]
                     refine wpAnyH_take (i := 7) (oi := { dst := some 90, op := Go.Op.move (Go.Operand.tmp 97), type := 92, pos := "law.go:144", after := #[{ on := 6, ground := Go.Ground.data }], guard := none }) (v := ?v7_500112) rfl (by kernel_rfl) (by kernel_rfl) (by kernel_rfl) (fun _ _ _ h => h) (Or.inl ⟨by rfl, ?y7_500112⟩) hHeld ?r7_500112
                     case y7_500112 => intro w hSw; (try dsimp only at hSw); go_simp; try with_reducible rfl
                     try simp only [Act.put, List.setIfInBounds_toArray, List.set_cons_zero, List.set_cons_succ]
                     refine wpAnyH_take (i := 8) (oi := { dst := some 98, op := Go.Op.extract (Go.Operand.tmp 90) 0, type := 79, pos := "law.go:144", after := #[{ on := 7, ground := Go.Ground.data }], guard := none }) (v := ?v8_500112) rfl (by kernel_rfl) (by kernel_rfl) (by kernel_rfl) (fun _ _ _ h => h) (Or.inl ⟨by rfl, ?y8_500112⟩) hHeld ?r8_500112
                     case y8_500112 => intro w hSw; (try dsimp only at hSw); go_simp; try with_reducible rfl
                     try simp only [Act.put, List.setIfInBounds_toArray, List.set_cons_zero, List.set_cons_succ]
                     refine wpAnyH_take (i := 9) (oi := { dst := some 99, op := Go.Op.extract (Go.Operand.tmp 90) 1, type := 4, pos := "law.go:144", after := #[{ on := 7, ground := Go.Ground.data }, { on := 11, ground := Go.Ground.gcOnly Go.Departure.lateStores }], guard := none }) (v := ?v9_500112) rfl (by kernel_rfl) (by kernel_rfl) (by kernel_rfl) (fun _ _ _ h => h) (Or.inl ⟨by rfl, ?y9_500112⟩) hHeld ?r9_500112
                     case y9_500112 => intro w hSw; (try dsimp only at hSw); go_simp; try with_reducible rfl
                     try simp only [Act.put, List.setIfInBounds_toArray, List.set_cons_zero, List.set_cons_succ]
                     refine wpAnyH_ready (rs := [11]) (by kernel_rfl) (by simp) ?_
                     refine AllReadyH.cons (o := { dst := none, op := Go.Op.store 79 (Go.Operand.tmp 13) (Go.Operand.tmp 98), type := 0, pos := "law.go:144", after := #[{ on := 10, ground := Go.Ground.data }, { on := 8, ground := Go.Ground.data }, { on := 6, ground := Go.Ground.chain }, { on := 0, ground := Go.Ground.phase }, { on := 1, ground := Go.Ground.phase }, { on := 2, ground := Go.Ground.phase }, { on := 3, ground := Go.Ground.phase }, { on := 4, ground := Go.Ground.phase }, { on := 5, ground := Go.Ground.phase }, { on := 6, ground := Go.Ground.phase }, { on := 7, ground := Go.Ground.phase }, { on := 8, ground := Go.Ground.phase }, { on := 9, ground := Go.Ground.textOnly Go.Departure.lateStores }, { on := 10, ground := Go.Ground.phase }], guard := none }) rfl (fun K hK => ?_) AllReadyH.nil
                     refine step_store_mid (by rfl) 79 (.tmp 13) (.tmp 98) (by rfl) gb 0 C.toArray (by rfl) (by rfl) (fun j hj => by obtain ⟨u, hu⟩ : ∃ u, ([.int .i64 0, .int .i64 0, .string ⟨#[]⟩, .bool false, .string ⟨#[]⟩, .int .i64 0, .int .i64 0, .int .i64 0, .int .i64 0] : List Value)[j]? = some u := ⟨_, List.getElem?_eq_getElem (show j < ([.int .i64 0, .int .i64 0, .string ⟨#[]⟩, .bool false, .string ⟨#[]⟩, .int .i64 0, .int .i64 0, .int .i64 0, .int .i64 0] : List Value).length from by have h9 : j < C.length := hj; rw [HCL.out] at h9; exact h9)⟩; obtain ⟨h1, h2⟩ := HZ.out.1 j u hu; rw [Nat.zero_add]; exact ⟨by rw [h1]; rfl, h2⟩) (by show _ = some C.length; rw [HCL.out]; kernel_rfl) (all_oneCell_toArray HC1.out) ?_
                     simp only [Act.put]
                     have HBX := Lib.hid (show HeldT gb C (y4.setCells gb 0 C) from HZ.out.into (by rw [HCL.out]; rfl))
                     have hfr := (Frm.refl y4 [gb]).sets gb 0 (Or.inl (by simp)) C
                     have hnext := hHeld.frm hfr (by simp; have := HGB.out.1; omega)
                     replace HT := Lib.hid (HT.out.frm hfr (fun b hb e => HGB.out.2 (by simp at e; exact e ▸ hb)))
                     replace HFR := Lib.hid (HFR.out.trans hfr (fun b hb => Or.inr (by simp at hb; subst hb; exact HGS.out)))
                     obtain ⟨y5, hwh⟩ : ∃ z, y4.setCells gb 0 C = z := ⟨_, rfl⟩
                     rw [hwh] at HBX hnext HT HFR
                     rw [show y4.setCells gb 0 (C.toArray : Array Value).toList = y5 from hwh]
                     clear hwh hfr HZ
                     refine hK.out _ _ (hnext) (fun hHeld2 => ?_)
                     clear hK K hHeld
                     have hHeld := hHeld2
                     clear hHeld2
                     try simp only [Act.put, List.setIfInBounds_toArray, List.set_cons_zero, List.set_cons_succ]
                     refine wpAnyH_take (i := 12) (oi := { dst := some 14, op := Go.Op.assign (Go.Operand.tmp 99), type := 4, pos := "law.go:144", after := #[{ on := 9, ground := Go.Ground.data }, { on := 11, ground := Go.Ground.chain }, { on := 0, ground := Go.Ground.phase }, { on := 1, ground := Go.Ground.phase }, { on := 2, ground := Go.Ground.phase }, { on := 3, ground := Go.Ground.phase }, { on := 4, ground := Go.Ground.phase }, { on := 5, ground := Go.Ground.phase }, { on := 6, ground := Go.Ground.phase }, { on := 7, ground := Go.Ground.phase }, { on := 8, ground := Go.Ground.phase }, { on := 9, ground := Go.Ground.phase }, { on := 10, ground := Go.Ground.phase }, { on := 11, ground := Go.Ground.phase }], guard := none }) (v := ?v12_500113) rfl (by kernel_rfl) (by kernel_rfl) (by kernel_rfl) (fun _ _ _ h => h) (Or.inl ⟨by rfl, ?y12_500113⟩) hHeld ?r12_500113
                     case y12_500113 => intro w hSw; (try dsimp only at hSw); go_simp; try with_reducible rfl
                     try simp only [Act.put, List.setIfInBounds_toArray, List.set_cons_zero, List.set_cons_succ]
                     refine wpAnyH_done (by kernel_rfl) ?_ _
                     go_wp2_with fail
                     go_meet
                     exact ⟨gb, C, ok, s9, rfl, rfl, HBX, HMR, HT, HFR, Lib.hid HGB.out.2⟩
                 · go_simp
                   have hal := (Below.refl y0.heap.size y0).alloc (Nat.le_refl _) (.cells #[.int .i64 0, .int .i64 0, .string ⟨#[]⟩, .bool false, .string ⟨#[]⟩, .int .i64 0, .int .i64 0, .int .i64 0, .int .i64 0] 79)
                   have hnext := hHeld.below hal
                   have HZ := Lib.hid (HeldT.new y0 #[.int .i64 0, .int .i64 0, .string ⟨#[]⟩, .bool false, .string ⟨#[]⟩, .int .i64 0, .int .i64 0, .int .i64 0, .int .i64 0] 79)
                   have HGB := Lib.hid (show gW < y0.heap.size ∧ y0.heap.size ∉ c2 from ⟨hHeld.2, fun e => by have := HT.out.lt _ e; omega⟩)
                   have HGS := Lib.hid (show w7.heap.size ≤ y0.heap.size from HFR.out.size)
                   replace HT := Lib.hid (HT.out.below hal)
                   replace HFR := Lib.hid (HFR.out.below hal HFR.out.size)
                   obtain ⟨y1, hwf⟩ : ∃ z, y0.alloc (.cells #[.int .i64 0, .int .i64 0, .string ⟨#[]⟩, .bool false, .string ⟨#[]⟩, .int .i64 0, .int .i64 0, .int .i64 0, .int .i64 0] 79) = z := ⟨_, rfl⟩
                   obtain ⟨gb, hgb⟩ : ∃ z, y0.heap.size = z := ⟨_, rfl⟩
                   rw [hwf] at hnext HT HFR HZ ⊢
                   rw [hgb] at HZ HGB HGS ⊢
                   clear hwf hgb hal
                   refine hK.out _ _ (hnext) (fun hHeld2 => ?_)
                   clear hK K hHeld
                   have hHeld := hHeld2
                   clear hHeld2
                   try simp only [Act.put, List.setIfInBounds_toArray, List.set_cons_zero, List.set_cons_succ]
                   refine wpAnyH_ready (rs := [4]) (by kernel_rfl) (by simp) ?_
                   refine AllReadyH.cons (o := { dst := some 95, op := Go.Op.call { callee := Go.Callee.value (Go.Operand.func 45), args := #[Go.Operand.tmp 94], argTypes := #[79] }, type := 84, pos := "law.go:144", after := #[{ on := 3, ground := Go.Ground.data }], guard := none }) rfl (fun K hK => ?_) AllReadyH.nil
                   go_simp
                   refine (waitD_any ki kp kx kt mn my mc mj mu y1).mono ?_; rintro e y2 ⟨rfl, hb⟩
                   have hnext := hHeld.below hb
                   replace HT := Lib.hid (HT.out.below hb)
                   replace HFR := Lib.hid (HFR.out.below hb HFR.out.size)
                   replace HZ := Lib.hid (HZ.out.below hb)
                   clear hb
                   refine hK.out _ _ (hnext) (fun hHeld2 => ?_)
                   clear hK K hHeld
                   have hHeld := hHeld2
                   clear hHeld2
                   try simp only [Act.put, List.setIfInBounds_toArray, List.set_cons_zero, List.set_cons_succ]
                   refine wpAnyH_ready (rs := [5]) (by kernel_rfl) (by simp) ?_
                   refine AllReadyH.cons (o := { dst := some 96, op := Go.Op.call { callee := Go.Callee.value (Go.Operand.func 46), args := #[Go.Operand.tmp 95, Go.Operand.const (Go.Value.int Go.IntKind.i64 0)], argTypes := #[84, 3] }, type := 75, pos := "law.go:144", after := #[{ on := 4, ground := Go.Ground.data }, { on := 4, ground := Go.Ground.chain }], guard := none }) rfl (fun K hK => ?_) AllReadyH.nil
                   go_simp
                   refine (ans_any ki kp kx kt mn my mc mj mu 0 y2 HID.out (by decide)).mono ?_; rintro e y3 ⟨id, qr, aq, nq, cq, Q, rfl, hq, hnq, hgd, hb⟩
                   have hnext := hHeld.below hb
                   have HQQ := Lib.hid hq
                   have HNQ := Lib.hid hnq
                   have HGD := Lib.hid hgd
                   replace HT := Lib.hid (HT.out.below hb)
                   replace HFR := Lib.hid (HFR.out.below hb HFR.out.size)
                   replace HZ := Lib.hid (HZ.out.below hb)
                   clear hb hq hnq hgd
                   refine hK.out _ _ (hnext) (fun hHeld2 => ?_)
                   clear hK K hHeld
                   have hHeld := hHeld2
                   clear hHeld2
                   try simp only [Act.put, List.setIfInBounds_toArray, List.set_cons_zero, List.set_cons_succ]
                   refine wpAnyH_ready (rs := [6]) (by kernel_rfl) (by simp) ?_
                   refine AllReadyH.cons (o := { dst := some 97, op := Go.Op.call { callee := Go.Callee.value (Go.Operand.func 47), args := #[Go.Operand.tmp 91, Go.Operand.tmp 93, Go.Operand.tmp 96], argTypes := #[59, 69, 75] }, type := 92, pos := "law.go:144", after := #[{ on := 0, ground := Go.Ground.data }, { on := 2, ground := Go.Ground.data }, { on := 5, ground := Go.Ground.data }, { on := 5, ground := Go.Ground.chain }], guard := none }) rfl (fun K hK => ?_) AllReadyH.nil
                   go_simp
                   refine (matchR_any c2 q { s with ws := s.ws.filter (fun x => !decide (x.until_ ≤ nw)) } ki kp kx kt mn my mc mj mu 0 id qr aq nq cq Q y3 HT.out (by have := HLN.out; omega) HQQ.out HNQ.out HGD.out).mono ?_; rintro e y4 ⟨C, ok, s9, rfl, hcl, hc1, hmr, hts, hfm⟩
                   have hnext := hHeld.frm hfm HGW.out
                   replace HT := Lib.hid hts
                   replace HFR := Lib.hid (HFR.out.trans hfm (fun b hb => Or.inl hb))
                   have HCL := Lib.hid hcl
                   have HC1 := Lib.hid hc1
                   have HMR := Lib.hid hmr
                   replace HZ := Lib.hid (HZ.out.frm hfm HGB.out.2)
                   clear hfm hts hcl hc1 hmr HQQ HNQ HGD
                   refine hK.out _ _ (hnext) (fun hHeld2 => ?_)
                   clear hK K hHeld
                   have hHeld := hHeld2
                   clear hHeld2
                   try simp only [Act.put, List.setIfInBounds_toArray, List.set_cons_zero, List.set_cons_succ]
                   refine wpAnyH_take (i := 7) (oi := { dst := some 90, op := Go.Op.move (Go.Operand.tmp 97), type := 92, pos := "law.go:144", after := #[{ on := 6, ground := Go.Ground.data }], guard := none }) (v := ?v7_500117) rfl (by kernel_rfl) (by kernel_rfl) (by kernel_rfl) (fun _ _ _ h => h) (Or.inl ⟨by rfl, ?y7_500117⟩) hHeld ?r7_500117
                   case y7_500117 => intro w hSw; (try dsimp only at hSw); go_simp; try with_reducible rfl
                   try simp only [Act.put, List.setIfInBounds_toArray, List.set_cons_zero, List.set_cons_succ]
                   refine wpAnyH_take (i := 8) (oi := { dst := some 98, op := Go.Op.extract (Go.Operand.tmp 90) 0, type := 79, pos := "law.go:144", after := #[{ on := 7, ground := Go.Ground.data }], guard := none }) (v := ?v8_500117) rfl (by kernel_rfl) (by kernel_rfl) (by kernel_rfl) (fun _ _ _ h => h) (Or.inl ⟨by rfl, ?y8_500117⟩) hHeld ?r8_500117
                   case y8_500117 => intro w hSw; (try dsimp only at hSw); go_simp; try with_reducible rfl
                   try simp only [Act.put, List.setIfInBounds_toArray, List.set_cons_zero, List.set_cons_succ]
                   refine wpAnyH_take (i := 9) (oi := { dst := some 99, op := Go.Op.extract (Go.Operand.tmp 90) 1, type := 4, pos := "law.go:144", after := #[{ on := 7, ground := Go.Ground.data }, { on := 11, ground := Go.Ground.gcOnly Go.Departure.lateStores }], guard := none }) (v := ?v9_500117) rfl (by kernel_rfl) (by kernel_rfl) (by kernel_rfl) (fun _ _ _ h => h) (Or.inl ⟨by rfl, ?y9_500117⟩) hHeld ?r9_500117
                   case y9_500117 => intro w hSw; (try dsimp only at hSw); go_simp; try with_reducible rfl
                   try simp only [Act.put, List.setIfInBounds_toArray, List.set_cons_zero, List.set_cons_succ]
                   refine wpAnyH_ready (rs := [11]) (by kernel_rfl) (by simp) ?_
                   refine AllReadyH.cons (o := { dst := none, op := Go.Op.store 79 (Go.Operand.tmp 13) (Go.Operand.tmp 98), type := 0, pos := "law.go:144", after := #[{ on := 10, ground := Go.Ground.data }, { on := 8, ground := Go.Ground.data }, { on := 6, ground := Go.Ground.chain }, { on := 0, ground := Go.Ground.phase }, { on := 1, ground := Go.Ground.phase }, { on := 2, ground := Go.Ground.phase }, { on := 3, ground := Go.Ground.phase }, { on := 4, ground := Go.Ground.phase }, { on := 5, ground := Go.Ground.phase }, { on := 6, ground := Go.Ground.phase }, { on := 7, ground := Go.Ground.phase }, { on := 8, ground := Go.Ground.phase }, { on := 9, ground := Go.Ground.textOnly Go.Departure.lateStores }, { on := 10, ground := Go.Ground.phase }], guard := none }) rfl (fun K hK => ?_) AllReadyH.nil
                   refine step_store_mid (by rfl) 79 (.tmp 13) (.tmp 98) (by rfl) gb 0 C.toArray (by rfl) (by rfl) (fun j hj => by obtain ⟨u, hu⟩ : ∃ u, ([.int .i64 0, .int .i64 0, .string ⟨#[]⟩, .bool false, .string ⟨#[]⟩, .int .i64 0, .int .i64 0, .int .i64 0, .int .i64 0] : List Value)[j]? = some u := ⟨_, List.getElem?_eq_getElem (show j < ([.int .i64 0, .int .i64 0, .string ⟨#[]⟩, .bool false, .string ⟨#[]⟩, .int .i64 0, .int .i64 0, .int .i64 0, .int .i64 0] : List Value).length from by have h9 : j < C.length := hj; rw [HCL.out] at h9; exact h9)⟩; obtain ⟨h1, h2⟩ := HZ.out.1 j u hu; rw [Nat.zero_add]; exact ⟨by rw [h1]; rfl, h2⟩) (by show _ = some C.length; rw [HCL.out]; kernel_rfl) (all_oneCell_toArray HC1.out) ?_
                   simp only [Act.put]
                   have HBX := Lib.hid (show HeldT gb C (y4.setCells gb 0 C) from HZ.out.into (by rw [HCL.out]; rfl))
                   have hfr := (Frm.refl y4 [gb]).sets gb 0 (Or.inl (by simp)) C
                   have hnext := hHeld.frm hfr (by simp; have := HGB.out.1; omega)
                   replace HT := Lib.hid (HT.out.frm hfr (fun b hb e => HGB.out.2 (by simp at e; exact e ▸ hb)))
                   replace HFR := Lib.hid (HFR.out.trans hfr (fun b hb => Or.inr (by simp at hb; subst hb; exact HGS.out)))
                   obtain ⟨y5, hwh⟩ : ∃ z, y4.setCells gb 0 C = z := ⟨_, rfl⟩
                   rw [hwh] at HBX hnext HT HFR
                   rw [show y4.setCells gb 0 (C.toArray : Array Value).toList = y5 from hwh]
                   clear hwh hfr HZ
                   refine hK.out _ _ (hnext) (fun hHeld2 => ?_)
                   clear hK K hHeld
                   have hHeld := hHeld2
                   clear hHeld2
                   try simp only [Act.put, List.setIfInBounds_toArray, List.set_cons_zero, List.set_cons_succ]
                   refine wpAnyH_take (i := 12) (oi := { dst := some 14, op := Go.Op.assign (Go.Operand.tmp 99), type := 4, pos := "law.go:144", after := #[{ on := 9, ground := Go.Ground.data }, { on := 11, ground := Go.Ground.chain }, { on := 0, ground := Go.Ground.phase }, { on := 1, ground := Go.Ground.phase }, { on := 2, ground := Go.Ground.phase }, { on := 3, ground := Go.Ground.phase }, { on := 4, ground := Go.Ground.phase }, { on := 5, ground := Go.Ground.phase }, { on := 6, ground := Go.Ground.phase }, { on := 7, ground := Go.Ground.phase }, { on := 8, ground := Go.Ground.phase }, { on := 9, ground := Go.Ground.phase }, { on := 10, ground := Go.Ground.phase }, { on := 11, ground := Go.Ground.phase }], guard := none }) (v := ?v12_500118) rfl (by kernel_rfl) (by kernel_rfl) (by kernel_rfl) (fun _ _ _ h => h) (Or.inl ⟨by rfl, ?y12_500118⟩) hHeld ?r12_500118
                   case y12_500118 => intro w hSw; (try dsimp only at hSw); go_simp; try with_reducible rfl
                   try simp only [Act.put, List.setIfInBounds_toArray, List.set_cons_zero, List.set_cons_succ]
                   refine wpAnyH_done (by kernel_rfl) ?_ _
                   go_wp2_with fail
                   go_meet
                   exact ⟨gb, C, ok, s9, rfl, rfl, HBX, HMR, HT, HFR, Lib.hid HGB.out.2⟩
             · have dd2 : decide ((t : Int) < (X : Int)) = false := dF (by omega)
               have dn2 : decide (t < X) = false := dF htx
               clear htx ht
               go_wp2_with fail
               go_meet
               exact ⟨c2, _, HOt, HPt, HG6⟩
        · have dd : decide ((k : Int) < (n : Int)) = false := dF (by omega)
          have dn : decide (k < n) = false := dF hlt
          clear hlt hk
          go_wp2_with fail
          refine (first20 wr).mono ?_; rintro e wz ⟨rfl, hbz⟩
          have HBZ := Lib.hid (HO.out.one.bel.trans (hbz.mono HO.out.one.bel.size))
          clear hbz
          go_wp2
          go_ret
          exact ⟨rfl, HBZ.out⟩
end Go.Proofs.Ytocfphijheidbaa
