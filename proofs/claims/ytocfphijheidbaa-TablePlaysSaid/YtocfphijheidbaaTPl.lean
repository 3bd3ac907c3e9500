/- The walk of TablePlays (written by mkpl20.py). -/
import Derived.Test.YtocfphijheidbaaTcI
import Derived.Test.YtocfphijheidbaaMgQ
import Derived.Deep.CutBlock
namespace Go.Proofs.Ytocfphijheidbaa
open Go.RowKit

theorem Pl.frm {w wx wy : World} {q p : Nat} {c d bs : List Nat} {s t : TbP} (h : Pl w wx q p c d s t) (hf : Frm wx wy bs) (hc : ∀ b ∈ bs, b ∉ c ∧ b ∉ d ∧ w.heap.size ≤ b) : Pl w wy q p c d s t :=
  ⟨h.cd.frm hf (fun x hx e => (hc x e).1 hx), h.dc.frm hf (fun x hx e => (hc x e).2.1 hx), h.ap, h.gc, h.gd, hf.under h.bel (fun b hb => (hc b hb).2.2) h.bel.size⟩
theorem app_get {A B : List Value} {n : Nat} (hA : A.length = n) {j : Nat} {v : Value} (h : B[j]? = some v) : (A ++ B)[n + j]? = some v := by
  rw [List.getElem?_append_right (by omega), hA, Nat.add_sub_cancel_left]
  exact h
set_option maxRecDepth 100000 in
set_option maxHeartbeats 16000000 in
theorem walkPlays (seed most : Int) (a : Option Addr) (n cp : Nat) (L : List O20) (w : World) (hL : Row20 w a n L) (lL : n ≤ 9223372036854775807) :
    Calls Try.prog 9 #[.int .i64 seed, .int .i64 most, .slice a n cp] w fun e w' => e = .returned (.bool true) ∧ Below w.heap.size w w' := by
  have HL := Lib.hid hL
  have HLL := Lib.hid lL
  clear hL
  go_enter Try.func9, Try.ntmps9
  go_wp2_with fail
  refine (first20 w).mono ?_; rintro e w1 ⟨rfl, hb1⟩
  have HB1 := Lib.hid hb1
  clear hb1
  go_wp2_with fail
  refine (few20m a n cp L w1 (HL.out.below HB1.out) lL).mono ?_; rintro e w2 ⟨he, hb2⟩
  have HB2 := Lib.hid (HB1.out.trans (hb2.mono HB1.out.size))
  clear hb2 HB1
  rcases he with rfl | ⟨rfl, hn, hj⟩
  · skip
    go_wp2_with fail
    refine (first20 w2).mono ?_; rintro e wz ⟨rfl, hbz⟩
    have HBZ := Lib.hid (HB2.out.trans (hbz.mono HB2.out.size))
    clear hbz
    go_wp2
    go_ret
    exact ⟨rfl, HBZ.out⟩
  · have HN := Lib.hid hn
    have HJ := Lib.hid hj
    clear hj lL
    by_cases hs : seed < 0 ∨ most < 1 ∨ 1000 < most
    · go_wp2_with fail
      refine (newT_no seed most w2 hs).mono ?_; rintro e w3 ⟨rfl, rfl⟩
      go_wp2_with fail
      refine (newR_no seed most w2 hs).mono ?_; rintro e w3 ⟨rfl, rfl⟩
      clear hs
      go_wp2_with fail
      go_loopw [11] (fun i wr => i = .int .i64 0 ∧ wr = w2) (fun i _ => (0 : Nat))
      case atStart => exact ⟨rfl, rfl⟩
      case round =>
        obtain ⟨rfl, rfl⟩ := hrel
        go_wp2_with fail
        refine (first20 wr).mono ?_; rintro e wz ⟨rfl, hbz⟩
        have HBZ := Lib.hid (HB2.out.trans (hbz.mono HB2.out.size))
        clear hbz
        go_wp2
        go_ret
        exact ⟨rfl, HBZ.out⟩
    · go_wp2_with fail
      refine (newT_yes seed most w2 ⟨by omega, by omega, by omega⟩).mono ?_; rintro e w3 ⟨q, rfl, ht3, hq3, hb3⟩
      go_wp2_with fail
      refine (newR_yes seed most w3 ⟨by omega, by omega, by omega⟩).mono ?_; rintro e w4 ⟨p, rfl, ht4, hp4, hb4⟩
      have HMO := Lib.hid (show 1 ≤ most ∧ most ≤ 1000 by omega)
      have HPP := Lib.hid (show Pl w w4 q p [q] [p] ⟨most, seed % 4294967296, []⟩ ⟨most, seed % 4294967296, []⟩ from
        ⟨ht3.below hb4, ht4, fun x hx e => by simp at hx e; have := ht3.lt q (by simp); omega, fun x hx => by simp at hx; have := HB2.out.size; omega, fun x hx => by simp at hx; have h1 := HB2.out.size; have h2 := hb3.size; omega, (HB2.out.trans (hb3.mono HB2.out.size)).trans (hb4.mono (Nat.le_trans HB2.out.size hb3.size))⟩)
      have HII := Lib.hid (show Inv20 most ⟨most, seed % 4294967296, []⟩ from ⟨rfl, WsOk.nil, by simp; omega, by show 0 ≤ seed % 4294967296 ∧ seed % 4294967296 < 4294967296; omega⟩)
      clear ht3 hq3 hb3 ht4 hp4 hb4 hs HB2
      go_wp2_with fail
      go_loopw [11] (fun i wr => ∃ (k : Nat) (c d : List Nat) (s : TbP), k ≤ n ∧ i = .int .i64 k ∧ Hid (Pl w wr q p c d s s) ∧ Hid (Inv20 most s)) (fun i _ => n - (intOf i).toNat)
      case atStart => exact ⟨0, [q], [p], _, Nat.zero_le _, rfl, HPP, HII⟩
      case round =>
        obtain ⟨k, c, d, s, hk, rfl, HP, HI⟩ := hrel
        clear HPP HII
        by_cases hlt : k < n
        · have dd : decide ((k : Int) < (n : Int)) = true := dT (by omega)
          have dn : decide (k < n) = true := dT hlt
          obtain ⟨b, off, rfl, ho⟩ := HL.out.at k hlt
          obtain ⟨o, hoe⟩ : ∃ z, L.getD k o20D = z := ⟨_, rfl⟩
          rw [hoe] at ho
          have hjm := HJ.out k hlt
          rw [hoe] at hjm
          obtain ⟨ja, jc, qa, qc, na, nc, sa, sc, xa, xc, h0, h1, h2, -⟩ := ho
          obtain ⟨OC, hOC⟩ : ∃ z, o20L o ja jc ++ msgL o.m qa qc na nc sa sc xa xc = z := ⟨_, rfl⟩
          rw [hOC] at h0
          have hmq : RowQs w qa o.m.q.length (o.m.q.map toQ) := by
            obtain ⟨_, _, _, _, _, _, _, _, e, h3, _⟩ := h2
            have e8 := congrArg (fun v => match v with | .agg a => a.toList[8]? | _ => none) e
            have e9 := Option.some.inj e8
            injection e9 with e9 _ _
            subst e9
            exact rowQs_of h3.1
          have HRG := Lib.hid (show wr.rangeAt b (off + k * 27) OC from fun j v hj => cell_later HP.out.bel (h0 j v hj))
          have HOL := Lib.hid (show OC.length = 27 from by rw [← hOC]; rfl)
          have HOO := Lib.hid (show ∀ u ∈ OC, u.oneCell' = true from by rw [← hOC]; simp [o20L, msgL, Value.oneCell'])
          obtain ⟨kd, nw, jb, wh, nN, tx, tc, ⟨qn, qt, qk⟩, J, ⟨vi, vp, vx, vt⟩, ⟨xi, xo, xr, y0, y1, y2, y3, y4, mq, ma, mn, mx⟩⟩ := o
          obtain ⟨jn, hjn⟩ : ∃ z, J.length = z := ⟨_, rfl⟩
          obtain ⟨lq, hlq⟩ : ∃ z, mq.length = z := ⟨_, rfl⟩
          obtain ⟨la, hla⟩ : ∃ z, ma.length = z := ⟨_, rfl⟩
          obtain ⟨ln, hln⟩ : ∃ z, mn.length = z := ⟨_, rfl⟩
          obtain ⟨lx, hlx⟩ : ∃ z, mx.length = z := ⟨_, rfl⟩
          have hoc2 : OC = [.int .i64 kd, .int .i64 nw, .int .i64 jb, .int .i64 wh, .int .i64 nN, .string tx, .bool tc, .string qn, .int .i64 qt, .int .i64 qk, .slice ja jn jc, .int .i64 vi, .int .i64 vp, .string vx, .bool vt, .int .i64 xi, .int .i64 xo, .int .i64 xr, .bool y0, .bool y1, .bool y2, .bool y3, .bool y4, .slice qa lq qc, .slice na la nc, .slice sa ln sc, .slice xa lx xc] := by rw [← hOC, ← hjn, ← hlq, ← hla, ← hln, ← hlx]; rfl
          have HF := Lib.hid (show OC[0]? = some (.int .i64 kd) ∧ OC[1]? = some (.int .i64 nw) ∧ OC[2]? = some (.int .i64 jb) ∧ OC[3]? = some (.int .i64 wh) ∧ OC[5]? = some (.string tx) ∧ OC[6]? = some (.bool tc) ∧ OC[7]? = some (.string qn) ∧ OC[8]? = some (.int .i64 qt) ∧ OC[9]? = some (.int .i64 qk) ∧ OC[10]? = some (.slice ja jn jc) from by rw [hoc2]; exact ⟨rfl, rfl, rfl, rfl, rfl, rfl, rfl, rfl, rfl, rfl⟩)
          have HF4 := Lib.hid (show OC[4]? = some (.int .i64 nN) from by rw [hoc2]; rfl)
          have HFK := Lib.hid (show ∀ j v, ([.int .i64 vi, .int .i64 vp, .string vx, .bool vt] : List Value)[j]? = some v → OC[11 + j]? = some v from fun j v hj => by
            rw [hoc2]
            exact app_get (A := ([.int .i64 kd, .int .i64 nw, .int .i64 jb, .int .i64 wh, .int .i64 nN, .string tx, .bool tc, .string qn, .int .i64 qt, .int .i64 qk, .slice ja jn jc] : List Value)) (B := ([.int .i64 vi, .int .i64 vp, .string vx, .bool vt] ++ [.int .i64 xi, .int .i64 xo, .int .i64 xr, .bool y0, .bool y1, .bool y2, .bool y3, .bool y4, .slice qa lq qc, .slice na la nc, .slice sa ln sc, .slice xa lx xc] : List Value)) rfl ((List.getElem?_append_left (List.getElem?_eq_some_iff.1 hj).1).trans hj))
          have HFM := Lib.hid (show ∀ j v, ([.int .i64 xi, .int .i64 xo, .int .i64 xr, .bool y0, .bool y1, .bool y2, .bool y3, .bool y4, .slice qa lq qc, .slice na la nc, .slice sa ln sc, .slice xa lx xc] : List Value)[j]? = some v → OC[15 + j]? = some v from fun j v hj => by
            rw [hoc2]
            exact app_get (A := ([.int .i64 kd, .int .i64 nw, .int .i64 jb, .int .i64 wh, .int .i64 nN, .string tx, .bool tc, .string qn, .int .i64 qt, .int .i64 qk, .slice ja jn jc] ++ [.int .i64 vi, .int .i64 vp, .string vx, .bool vt] : List Value)) (B := ([.int .i64 xi, .int .i64 xo, .int .i64 xr, .bool y0, .bool y1, .bool y2, .bool y3, .bool y4, .slice qa lq qc, .slice na la nc, .slice sa ln sc, .slice xa lx xc] : List Value)) rfl hj)
          have HJN := Lib.hid (show jn ≤ 100 from by rw [← hjn]; exact hjm.1)
          have HJR := Lib.hid (show Row w ja jn J from by rw [← hjn]; exact h1)
          have HMQ := Lib.hid (show RowQs w qa lq (mq.map toQ) ∧ lq ≤ 1000000 from ⟨by rw [← hlq]; exact hmq, by have := hjm.2.1.1; rw [← hlq]; exact Nat.le_trans this (by decide)⟩)
          clear hoc2 hjm hmq h0 h1 h2 hOC hoe hjn hlq hla hln hlx
          have hba := (Below.refl wr.heap.size wr).alloc (Nat.le_refl _) (.cells #[.int .i64 0, .int .i64 0, .int .i64 0, .int .i64 0, .int .i64 0, .string ⟨#[]⟩, .bool false, .string ⟨#[]⟩, .int .i64 0, .int .i64 0, .slice none 0 0, .int .i64 0, .int .i64 0, .string ⟨#[]⟩, .bool false, .int .i64 0, .int .i64 0, .int .i64 0, .bool false, .bool false, .bool false, .bool false, .bool false, .slice none 0 0, .slice none 0 0, .slice none 0 0, .slice none 0 0] 77)
          have y0 := HeldT.new wr #[.int .i64 0, .int .i64 0, .int .i64 0, .int .i64 0, .int .i64 0, .string ⟨#[]⟩, .bool false, .string ⟨#[]⟩, .int .i64 0, .int .i64 0, .slice none 0 0, .int .i64 0, .int .i64 0, .string ⟨#[]⟩, .bool false, .int .i64 0, .int .i64 0, .int .i64 0, .bool false, .bool false, .bool false, .bool false, .bool false, .slice none 0 0, .slice none 0 0, .slice none 0 0, .slice none 0 0] 77
          obtain ⟨u1, hu1⟩ : ∃ z, wr.alloc (.cells #[.int .i64 0, .int .i64 0, .int .i64 0, .int .i64 0, .int .i64 0, .string ⟨#[]⟩, .bool false, .string ⟨#[]⟩, .int .i64 0, .int .i64 0, .slice none 0 0, .int .i64 0, .int .i64 0, .string ⟨#[]⟩, .bool false, .int .i64 0, .int .i64 0, .int .i64 0, .bool false, .bool false, .bool false, .bool false, .bool false, .slice none 0 0, .slice none 0 0, .slice none 0 0, .slice none 0 0] 77) = z := ⟨_, rfl⟩
          rw [hu1] at hba y0
          have HTH5 := Lib.hid (show (wr.alloc (.cells #[.int .i64 0, .int .i64 0, .int .i64 0, .int .i64 0, .int .i64 0, .string ⟨#[]⟩, .bool false, .string ⟨#[]⟩, .int .i64 0, .int .i64 0, .slice none 0 0, .int .i64 0, .int .i64 0, .string ⟨#[]⟩, .bool false, .int .i64 0, .int .i64 0, .int .i64 0, .bool false, .bool false, .bool false, .bool false, .bool false, .slice none 0 0, .slice none 0 0, .slice none 0 0, .slice none 0 0] 77)).there wr.heap.size 0 (OC : List Value).toArray.size from by
            rw [hu1]
            intro j hj
            rw [Nat.zero_add]
            have hj9 : j < ([.int .i64 0, .int .i64 0, .int .i64 0, .int .i64 0, .int .i64 0, .string ⟨#[]⟩, .bool false, .string ⟨#[]⟩, .int .i64 0, .int .i64 0, .slice none 0 0, .int .i64 0, .int .i64 0, .string ⟨#[]⟩, .bool false, .int .i64 0, .int .i64 0, .int .i64 0, .bool false, .bool false, .bool false, .bool false, .bool false, .slice none 0 0, .slice none 0 0, .slice none 0 0, .slice none 0 0] : List Value).length := by have h9 : j < (OC : List Value).length := hj; rw [HOL.out] at h9; exact h9
            obtain ⟨u, hu⟩ : ∃ u, ([.int .i64 0, .int .i64 0, .int .i64 0, .int .i64 0, .int .i64 0, .string ⟨#[]⟩, .bool false, .string ⟨#[]⟩, .int .i64 0, .int .i64 0, .slice none 0 0, .int .i64 0, .int .i64 0, .string ⟨#[]⟩, .bool false, .int .i64 0, .int .i64 0, .int .i64 0, .bool false, .bool false, .bool false, .bool false, .bool false, .slice none 0 0, .slice none 0 0, .slice none 0 0, .slice none 0 0] : List Value)[j]? = some u := ⟨_, List.getElem?_eq_getElem hj9⟩
            obtain ⟨h1, h2⟩ := y0.1 j u hu
            exact ⟨by rw [h1]; rfl, h2⟩)
          have HOP := Lib.hid (show HeldT wr.heap.size OC (u1.setCells wr.heap.size 0 OC) from y0.into (by rw [HOL.out]; rfl))
          have hb5 := tb_sets hba (b := wr.heap.size) (Nat.le_refl _) 0 OC
          obtain ⟨w5, hw5⟩ : ∃ z, u1.setCells wr.heap.size 0 OC = z := ⟨_, rfl⟩
          rw [hw5] at HOP hb5
          have HW5 := Lib.hid (show (wr.alloc (.cells #[.int .i64 0, .int .i64 0, .int .i64 0, .int .i64 0, .int .i64 0, .string ⟨#[]⟩, .bool false, .string ⟨#[]⟩, .int .i64 0, .int .i64 0, .slice none 0 0, .int .i64 0, .int .i64 0, .string ⟨#[]⟩, .bool false, .int .i64 0, .int .i64 0, .int .i64 0, .bool false, .bool false, .bool false, .bool false, .bool false, .slice none 0 0, .slice none 0 0, .slice none 0 0, .slice none 0 0] 77)).setCells wr.heap.size 0 (OC : List Value).toArray.toList = w5 from by rw [hu1]; exact hw5)
          have hsz5 := hba.size
          obtain ⟨gO, hgO⟩ : ∃ z, wr.heap.size = z := ⟨_, rfl⟩
          have HG5 := Lib.hid hgO
          rw [hgO] at HOP
          clear hba y0 hu1 hw5 hgO hsz5
          have HP5 := Lib.hid (HP.out.below hb5)
          have HGO := Lib.hid (show gO ∉ c ∧ gO ∉ d from ⟨fun e => by have := HP.out.cd.lt gO e; have := HG5.out; omega, fun e => by have := HP.out.dc.lt gO e; have := HG5.out; omega⟩)
          have HLT := Lib.hid hlt
          have i1 : (0 : Int) ≤ (k : Int) := by omega
          have i2 : (k : Int) < (n : Int) := by omega
          clear hb5 hlt hk HP
          go_upto_region 12 with (fail)
          go_upto_region 13 with (first | ((with_reducible show wpList _ _ _ (Oper.mk _ (Op.load _ _) _ _ _ _ :: _) _ _); refine wpList_load_mid rfl 77 (.tmp 69) rfl _ _ rfl _ _ HRG.out Try.underlying77 rfl (by rw [HOL.out]; kernel_rfl) ?_) | ((with_reducible show wpList _ _ _ (Oper.mk _ (Op.store _ _ _) _ _ _ _ :: _) _ _); refine wpList_store_mid rfl 77 (.tmp 12) (.tmp 70) rfl _ _ _ rfl rfl HTH5.out (by show _ = some OC.length; rw [HOL.out]; kernel_rfl) (all_oneCell_toArray HOO.out) ?_; rw [HW5.out, HG5.out]))
          clear HTH5 HW5 HG5 HRG HOO i1 i2
          have x0 := (HOP.out.1 0 _ HF.out.1).1
          go_upto_block 2 with (fail)
          go_cut [13] (fun v wx => ∃ (c' d' : List Nat) (s' : TbP), v = .bool true ∧ Hid (Pl w wx q p c' d' s' s') ∧ Hid (Inv20 most s'))
          case rest =>
           as_aux_lemma =>
              obtain ⟨c2, d2, s2, rfl, HP, HI⟩ := hcut
              clear HP5 HOP HGO HF HF4 HFK HFM HJN HJR HMQ HOL
              have hl5 : s2.ws.length ≤ 1000 := by have := HI.out.len; have := HMO.out; omega
              obtain ⟨a2, cM, c0, -, -, -, -, hrow⟩ := HP.out.dc.parts
              obtain ⟨M, hM⟩ : ∃ z, s2.ws.length = z := ⟨_, rfl⟩
              have HM := Lib.hid hM
              rw [hM] at c0 hrow hl5
              have HC := Lib.hid (show CellsAt wc a2 (M * 9) (flatW s2.ws) from by
                obtain ⟨a3, c3, e, h3, -⟩ := cellsK_own hrow
                injection e with e1 _ _
                subst e1
                exact h3)
              have nM : (M != M) = false := by simp
              clear hM hrow
              go_upto_region 37 with (fail)
              refine wp_region_held_drew (S := (fun wx => wx.cell? ⟨p, 0, none⟩ = some (.slice a2 M cM))) (by kernel_rfl) (cell_later (Below.refl _ _).drew c0) (fun hHeld => ?_)
              have hb := (Below.refl wc.heap.size wc).drew
              replace HP := Lib.hid (HP.out.below hb)
              replace HC := Lib.hid (HC.out.below hb)
              obtain ⟨y0, hwd⟩ : ∃ z, wc.drew = z := ⟨_, rfl⟩
              rw [hwd] at HP HC hHeld ⊢
              clear hwd hb c0
              refine wpAnyH_take (i := 0) (oi := { dst := some 250, op := Go.Op.move (Go.Operand.tmp 13), type := 4, pos := "law.go:121", after := #[], guard := none }) (v := ?v0_710101) rfl (by kernel_rfl) (by kernel_rfl) (by kernel_rfl) (fun _ _ _ h => h) (Or.inl ⟨by rfl, ?y0_710101⟩) hHeld ?r0_710101
              case y0_710101 => intro w hSw; (try dsimp only at hSw); go_simp; try with_reducible rfl
              try simp only [Act.put, List.setIfInBounds_toArray, List.set_cons_zero, List.set_cons_succ]
              refine wpAnyH_take (i := 1) (oi := { dst := some 251, op := Go.Op.unOp Go.UnOp.not 4 (Go.Operand.tmp 250), type := 4, pos := "law.go:121", after := #[{ on := 0, ground := Go.Ground.data }], guard := none }) (v := ?v1_710101) rfl (by kernel_rfl) (by kernel_rfl) (by kernel_rfl) (fun _ _ _ h => h) (Or.inl ⟨by rfl, ?y1_710101⟩) hHeld ?r1_710101
              case y1_710101 => intro w hSw; (try dsimp only at hSw); go_simp; try with_reducible rfl
              try simp only [Act.put, List.setIfInBounds_toArray, List.set_cons_zero, List.set_cons_succ]
              refine wpAnyH_take (i := 2) (oi := { dst := some 252, op := Go.Op.move (Go.Operand.tmp 251), type := 4, pos := "law.go:121", after := #[{ on := 1, ground := Go.Ground.data }], guard := none }) (v := ?v2_710101) rfl (by kernel_rfl) (by kernel_rfl) (by kernel_rfl) (fun _ _ _ h => h) (Or.inl ⟨by rfl, ?y2_710101⟩) hHeld ?r2_710101
              case y2_710101 => intro w hSw; (try dsimp only at hSw); go_simp; try with_reducible rfl
              try simp only [Act.put, List.setIfInBounds_toArray, List.set_cons_zero, List.set_cons_succ]
              refine wpAnyH_take (i := 3) (oi := { dst := some 253, op := Go.Op.move (Go.Operand.tmp 7), type := 59, pos := "law.go:121", after := #[{ on := 2, ground := Go.Ground.guard }], guard := some (2, false) }) (v := ?v3_710101) rfl (by kernel_rfl) (by kernel_rfl) (by kernel_rfl) (fun _ _ _ h => h) (Or.inl ⟨by rfl, ?y3_710101⟩) hHeld ?r3_710101
              case y3_710101 => intro w hSw; (try dsimp only at hSw); go_simp; try with_reducible rfl
              try simp only [Act.put, List.setIfInBounds_toArray, List.set_cons_zero, List.set_cons_succ]
              refine wpAnyH_take (i := 5) (oi := { dst := some 255, op := Go.Op.move (Go.Operand.tmp 9), type := 62, pos := "law.go:121", after := #[{ on := 2, ground := Go.Ground.guard }], guard := some (2, false) }) (v := ?v5_710101) rfl (by kernel_rfl) (by kernel_rfl) (by kernel_rfl) (fun _ _ _ h => h) (Or.inl ⟨by rfl, ?y5_710101⟩) hHeld ?r5_710101
              case y5_710101 => intro w hSw; (try dsimp only at hSw); go_simp; try with_reducible rfl
              try simp only [Act.put, List.setIfInBounds_toArray, List.set_cons_zero, List.set_cons_succ]
              refine wpAnyH_take (i := 6) (oi := { dst := some 256, op := Go.Op.nilCheck (Go.Operand.tmp 255), type := 0, pos := "law.go:121", after := #[{ on := 5, ground := Go.Ground.data }, { on := 2, ground := Go.Ground.guard }], guard := some (2, false) }) (v := ?v6_710101) rfl (by kernel_rfl) (by kernel_rfl) (by kernel_rfl) (fun _ _ _ h => h) (Or.inl ⟨by rfl, ?y6_710101⟩) hHeld ?r6_710101
              case y6_710101 => intro w hSw; (try dsimp only at hSw); go_simp; try with_reducible rfl
              try simp only [Act.put, List.setIfInBounds_toArray, List.set_cons_zero, List.set_cons_succ]
              refine wpAnyH_take (i := 7) (oi := { dst := some 257, op := Go.Op.fieldAddr 90 (Go.Operand.tmp 256) 0, type := 0, pos := "law.go:121", after := #[{ on := 6, ground := Go.Ground.data }, { on := 2, ground := Go.Ground.guard }], guard := some (2, false) }) (v := ?v7_710101) rfl (by kernel_rfl) (by kernel_rfl) (by kernel_rfl) (fun _ _ _ h => h) (Or.inl ⟨by rfl, ?y7_710101⟩) hHeld ?r7_710101
              case y7_710101 => intro w hSw; (try dsimp only at hSw); go_simp; try with_reducible rfl
              try simp only [Act.put, List.setIfInBounds_toArray, List.set_cons_zero, List.set_cons_succ]
              refine wpAnyH_take (i := 8) (oi := { dst := some 258, op := Go.Op.load 88 (Go.Operand.tmp 257), type := 88, pos := "law.go:121", after := #[{ on := 7, ground := Go.Ground.data }, { on := 2, ground := Go.Ground.guard }], guard := some (2, false) }) (v := ?v8_710101) rfl (by kernel_rfl) (by kernel_rfl) (by kernel_rfl) (fun _ _ _ h => h) (Or.inl ⟨by rfl, ?y8_710101⟩) hHeld ?r8_710101
              case y8_710101 => intro w hSw; (try dsimp only at hSw); go_simp; try with_reducible rfl
              try simp only [Act.put, List.setIfInBounds_toArray, List.set_cons_zero, List.set_cons_succ]
              refine wpAnyH_ready (rs := [4]) (by kernel_rfl) (by simp) ?_
              refine AllReadyH.cons (o := { dst := some 254, op := Go.Op.call { callee := Go.Callee.value (Go.Operand.func 57), args := #[Go.Operand.tmp 253], argTypes := #[59] }, type := 102, pos := "law.go:121", after := #[{ on := 3, ground := Go.Ground.data }, { on := 2, ground := Go.Ground.chain }, { on := 2, ground := Go.Ground.guard }], guard := some (2, false) }) rfl (fun K hK => ?_) AllReadyH.nil
              go_simp
              refine (waits_any c2 q s2 y0 HP.out.cd (by rw [HM.out]; omega)).mono ?_; rintro e y1 ⟨vE, rfl, hvE, hb⟩
              rw [HM.out] at hvE
              obtain ⟨a4, c4, rfl, h4, -⟩ := cellsK_own hvE
              have HV := Lib.hid h4
              have hnext := cell_later hb hHeld
              replace HP := Lib.hid (HP.out.below hb)
              replace HC := Lib.hid (HC.out.below hb)
              clear hb hvE h4
              refine hK.out _ _ (hnext) (fun hHeld2 => ?_)
              clear hK K hHeld
              have hHeld := hHeld2
              clear hHeld2
              try simp only [Act.put, List.setIfInBounds_toArray, List.set_cons_zero, List.set_cons_succ]
              refine wpAnyH_ready (rs := [9]) (by kernel_rfl) (by simp) ?_
              refine AllReadyH.cons (o := { dst := some 259, op := Go.Op.call { callee := Go.Callee.value (Go.Operand.func 51), args := #[Go.Operand.tmp 254, Go.Operand.tmp 258], argTypes := #[102, 88] }, type := 4, pos := "law.go:121", after := #[{ on := 4, ground := Go.Ground.data }, { on := 8, ground := Go.Ground.data }, { on := 4, ground := Go.Ground.chain }, { on := 2, ground := Go.Ground.guard }], guard := some (2, false) }) rfl (fun K hK => ?_) AllReadyH.nil
              go_simp
              refine (sameR_any a4 a2 c4 cM M s2.ws y1 HV.out HC.out HM.out (by omega)).mono ?_; rintro e y2 ⟨rfl, hb⟩
              have hnext := cell_later hb hHeld
              replace HP := Lib.hid (HP.out.below hb)
              clear hb
              refine hK.out _ _ (hnext) (fun hHeld2 => ?_)
              clear hK K hHeld
              have hHeld := hHeld2
              clear hHeld2
              try simp only [Act.put, List.setIfInBounds_toArray, List.set_cons_zero, List.set_cons_succ]
              refine wpAnyH_take (i := 10) (oi := { dst := some 260, op := Go.Op.unOp Go.UnOp.not 4 (Go.Operand.tmp 259), type := 4, pos := "law.go:121", after := #[{ on := 9, ground := Go.Ground.data }, { on := 2, ground := Go.Ground.guard }], guard := some (2, false) }) (v := ?v10_710103) rfl (by kernel_rfl) (by kernel_rfl) (by kernel_rfl) (fun _ _ _ h => h) (Or.inl ⟨by rfl, ?y10_710103⟩) hHeld ?r10_710103
              case y10_710103 => intro w hSw; (try dsimp only at hSw); go_simp; try with_reducible rfl
              try simp only [Act.put, List.setIfInBounds_toArray, List.set_cons_zero, List.set_cons_succ]
              refine wpAnyH_take (i := 11) (oi := { dst := some 261, op := Go.Op.pick (Go.Operand.tmp 252) (Go.Operand.const (Go.Value.bool true)) (Go.Operand.tmp 260), type := 4, pos := "law.go:121", after := #[{ on := 2, ground := Go.Ground.data }, { on := 10, ground := Go.Ground.data }], guard := none }) (v := ?v11_710103) rfl (by kernel_rfl) (by kernel_rfl) (by kernel_rfl) (fun _ _ _ h => h) (Or.inl ⟨by rfl, ?y11_710103⟩) hHeld ?r11_710103
              case y11_710103 => intro w hSw; (try dsimp only at hSw); go_simp; try with_reducible rfl
              try simp only [Act.put, List.setIfInBounds_toArray, List.set_cons_zero, List.set_cons_succ]
              refine wpAnyH_take (i := 12) (oi := { dst := some 262, op := Go.Op.move (Go.Operand.tmp 261), type := 4, pos := "law.go:121", after := #[{ on := 11, ground := Go.Ground.data }, { on := 9, ground := Go.Ground.chain }], guard := none }) (v := ?v12_710103) rfl (by kernel_rfl) (by kernel_rfl) (by kernel_rfl) (fun _ _ _ h => h) (Or.inl ⟨by rfl, ?y12_710103⟩) hHeld ?r12_710103
              case y12_710103 => intro w hSw; (try dsimp only at hSw); go_simp; try with_reducible rfl
              try simp only [Act.put, List.setIfInBounds_toArray, List.set_cons_zero, List.set_cons_succ]
              refine wpAnyH_take (i := 13) (oi := { dst := some 263, op := Go.Op.move (Go.Operand.tmp 7), type := 59, pos := "law.go:121", after := #[{ on := 12, ground := Go.Ground.guard }], guard := some (12, false) }) (v := ?v13_710103) rfl (by kernel_rfl) (by kernel_rfl) (by kernel_rfl) (fun _ _ _ h => h) (Or.inl ⟨by rfl, ?y13_710103⟩) hHeld ?r13_710103
              case y13_710103 => intro w hSw; (try dsimp only at hSw); go_simp; try with_reducible rfl
              try simp only [Act.put, List.setIfInBounds_toArray, List.set_cons_zero, List.set_cons_succ]
              refine wpAnyH_take (i := 15) (oi := { dst := some 265, op := Go.Op.move (Go.Operand.tmp 9), type := 62, pos := "law.go:121", after := #[{ on := 12, ground := Go.Ground.guard }], guard := some (12, false) }) (v := ?v15_710103) rfl (by kernel_rfl) (by kernel_rfl) (by kernel_rfl) (fun _ _ _ h => h) (Or.inl ⟨by rfl, ?y15_710103⟩) hHeld ?r15_710103
              case y15_710103 => intro w hSw; (try dsimp only at hSw); go_simp; try with_reducible rfl
              try simp only [Act.put, List.setIfInBounds_toArray, List.set_cons_zero, List.set_cons_succ]
              refine wpAnyH_take (i := 16) (oi := { dst := some 266, op := Go.Op.nilCheck (Go.Operand.tmp 265), type := 0, pos := "law.go:121", after := #[{ on := 15, ground := Go.Ground.data }, { on := 12, ground := Go.Ground.guard }], guard := some (12, false) }) (v := ?v16_710103) rfl (by kernel_rfl) (by kernel_rfl) (by kernel_rfl) (fun _ _ _ h => h) (Or.inl ⟨by rfl, ?y16_710103⟩) hHeld ?r16_710103
              case y16_710103 => intro w hSw; (try dsimp only at hSw); go_simp; try with_reducible rfl
              try simp only [Act.put, List.setIfInBounds_toArray, List.set_cons_zero, List.set_cons_succ]
              refine wpAnyH_take (i := 17) (oi := { dst := some 267, op := Go.Op.fieldAddr 90 (Go.Operand.tmp 266) 0, type := 0, pos := "law.go:121", after := #[{ on := 16, ground := Go.Ground.data }, { on := 12, ground := Go.Ground.guard }], guard := some (12, false) }) (v := ?v17_710103) rfl (by kernel_rfl) (by kernel_rfl) (by kernel_rfl) (fun _ _ _ h => h) (Or.inl ⟨by rfl, ?y17_710103⟩) hHeld ?r17_710103
              case y17_710103 => intro w hSw; (try dsimp only at hSw); go_simp; try with_reducible rfl
              try simp only [Act.put, List.setIfInBounds_toArray, List.set_cons_zero, List.set_cons_succ]
              refine wpAnyH_take (i := 18) (oi := { dst := some 268, op := Go.Op.load 88 (Go.Operand.tmp 267), type := 88, pos := "law.go:121", after := #[{ on := 17, ground := Go.Ground.data }, { on := 12, ground := Go.Ground.guard }], guard := some (12, false) }) (v := ?v18_710103) rfl (by kernel_rfl) (by kernel_rfl) (by kernel_rfl) (fun _ _ _ h => h) (Or.inl ⟨by rfl, ?y18_710103⟩) hHeld ?r18_710103
              case y18_710103 => intro w hSw; (try dsimp only at hSw); go_simp; try with_reducible rfl
              try simp only [Act.put, List.setIfInBounds_toArray, List.set_cons_zero, List.set_cons_succ]
              refine wpAnyH_take (i := 19) (oi := { dst := some 269, op := Go.Op.call { callee := Go.Callee.builtin Go.Builtin.len, args := #[Go.Operand.tmp 268], argTypes := #[88] }, type := 3, pos := "law.go:121", after := #[{ on := 18, ground := Go.Ground.data }, { on := 12, ground := Go.Ground.guard }], guard := some (12, false) }) (v := ?v19_710103) rfl (by kernel_rfl) (by kernel_rfl) (by kernel_rfl) (fun _ _ _ h => h) (Or.inl ⟨by rfl, ?y19_710103⟩) hHeld ?r19_710103
              case y19_710103 => intro w hSw; (try dsimp only at hSw); go_simp; try with_reducible rfl
              try simp only [Act.put, List.setIfInBounds_toArray, List.set_cons_zero, List.set_cons_succ]
              refine wpAnyH_ready (rs := [14]) (by kernel_rfl) (by simp) ?_
              refine AllReadyH.cons (o := { dst := some 264, op := Go.Op.call { callee := Go.Callee.value (Go.Operand.func 58), args := #[Go.Operand.tmp 263], argTypes := #[59] }, type := 3, pos := "law.go:121", after := #[{ on := 13, ground := Go.Ground.data }, { on := 12, ground := Go.Ground.chain }, { on := 12, ground := Go.Ground.guard }], guard := some (12, false) }) rfl (fun K hK => ?_) AllReadyH.nil
              go_simp
              refine (lenT_any c2 q s2 y2 HP.out.cd).mono ?_; rintro e wx ⟨rfl, rfl⟩
              rw [HM.out]
              refine hK.out _ _ (hHeld) (fun hHeld2 => ?_)
              clear hK K hHeld
              have hHeld := hHeld2
              clear hHeld2
              try simp only [Act.put, List.setIfInBounds_toArray, List.set_cons_zero, List.set_cons_succ]
              refine wpAnyH_take (i := 20) (oi := { dst := some 270, op := Go.Op.binOp Go.BinOp.neq 3 (Go.Operand.tmp 264) (Go.Operand.tmp 269) 3, type := 4, pos := "law.go:121", after := #[{ on := 14, ground := Go.Ground.data }, { on := 19, ground := Go.Ground.data }, { on := 12, ground := Go.Ground.guard }], guard := some (12, false) }) (v := ?v20_710104) rfl (by kernel_rfl) (by kernel_rfl) (by kernel_rfl) (fun _ _ _ h => h) (Or.inl ⟨by rfl, ?y20_710104⟩) hHeld ?r20_710104
              case y20_710104 => intro w hSw; (try dsimp only at hSw); go_simp; try with_reducible rfl
              try simp only [Act.put, List.setIfInBounds_toArray, List.set_cons_zero, List.set_cons_succ]
              refine wpAnyH_take (i := 21) (oi := { dst := some 271, op := Go.Op.pick (Go.Operand.tmp 262) (Go.Operand.const (Go.Value.bool true)) (Go.Operand.tmp 270), type := 4, pos := "law.go:121", after := #[{ on := 12, ground := Go.Ground.data }, { on := 20, ground := Go.Ground.data }], guard := none }) (v := ?v21_710104) rfl (by kernel_rfl) (by kernel_rfl) (by kernel_rfl) (fun _ _ _ h => h) (Or.inl ⟨by rfl, ?y21_710104⟩) hHeld ?r21_710104
              case y21_710104 => intro w hSw; (try dsimp only at hSw); go_simp; try with_reducible rfl
              try simp only [Act.put, List.setIfInBounds_toArray, List.set_cons_zero, List.set_cons_succ]
              refine wpAnyH_done (by kernel_rfl) ?_ _
              clear hHeld
              have ik : IntKind.i64.wrap ((k : Int) + 1) = ((k + 1 : Nat) : Int) := by rw [IntKind.wrap_i64]; have := HLT.out; omega
              go_wp2
              go_roundw
              case rel => exact ⟨k + 1, c2, d2, s2, HLT.out, by go_num, HP, HI⟩
              case measure =>
                simp only [intOf]
                have := HLT.out
                omega
          clear x0
          have hl5 : s.ws.length ≤ 1000 := by have := HI.out.len; have := HMO.out; omega
          by_cases k0 : kd = 0
          · have e0 : (kd == 0) = true := eT k0
            clear k0
            as_aux_lemma =>
             obtain ⟨-, f1, f2, -, f5, f6, f7, f8, f9, -⟩ := HF.out
             have x1 := (HOP.out.1 1 _ f1).1
             have x2 := (HOP.out.1 2 _ f2).1
             have x5 := (HOP.out.1 5 _ f5).1
             have x6 := (HOP.out.1 6 _ f6).1
             have x7 := (HOP.out.1 7 _ f7).1
             have x8 := (HOP.out.1 8 _ f8).1
             have x9 := (HOP.out.1 9 _ f9).1
             go_wp2_with fail
             clear x1 x2 x5 x6 x7 x8 x9
             refine (openC_any c q s nw jb tx tc qn qt qk w5 HP5.out.cd (by omega)).mono ?_; rintro e w6 ⟨rfl, ⟨c2, hs2, hc2⟩, hf2⟩
             obtain ⟨r, hr⟩ : ∃ z, (openF s nw jb tx tc ⟨qn, qt, qk⟩).1 = z := ⟨_, rfl⟩
             obtain ⟨er, her⟩ : ∃ z, (openF s nw jb tx tc ⟨qn, qt, qk⟩).2.1 = z := ⟨_, rfl⟩
             obtain ⟨s2, hse⟩ : ∃ z, (openF s nw jb tx tc ⟨qn, qt, qk⟩).2.2 = z := ⟨_, rfl⟩
             have HI2 := Lib.hid (HI.out.opened HMO.out.2 nw jb tx tc ⟨qn, qt, qk⟩)
             rw [hse] at hs2 HI2
             rw [hr, her]
             obtain ⟨⟨ri, rp, rx, rt⟩, ⟨rn, ry, rk⟩, rj, ru⟩ := r
             rw [show (encW ⟨⟨ri, rp, rx, rt⟩, ⟨rn, ry, rk⟩, rj, ru⟩).toArray = #[.int .i64 ri, .int .i64 rp, .string rx, .bool rt, .string rn, .int .i64 ry, .int .i64 rk, .int .i64 rj, .int .i64 ru] from rfl]
             have HR := Lib.hid hr
             have HER := Lib.hid her
             have HSE := Lib.hid hse
             have HP6 := Lib.hid (HP5.out.code hs2 hc2 hf2 (fun _ hx => hx))
             have HOP6 := Lib.hid (HOP.out.frm hf2 HGO.out.1)
             have HG6 := Lib.hid (show gO ∉ c2 ∧ gO ∉ d from ⟨out_of hc2 HGO.out.1 HOP.out.2, HGO.out.2⟩)
             clear hr her hse hs2 hc2 hf2 HP5 HOP HGO
             have hba := (Below.refl w6.heap.size w6).alloc (Nat.le_refl _) (.cells #[.int .i64 0, .int .i64 0, .string ⟨#[]⟩, .bool false, .string ⟨#[]⟩, .int .i64 0, .int .i64 0, .int .i64 0, .int .i64 0] 79)
             have y0 := HeldT.new w6 #[.int .i64 0, .int .i64 0, .string ⟨#[]⟩, .bool false, .string ⟨#[]⟩, .int .i64 0, .int .i64 0, .int .i64 0, .int .i64 0] 79
             obtain ⟨u1, hu1⟩ : ∃ z, w6.alloc (.cells #[.int .i64 0, .int .i64 0, .string ⟨#[]⟩, .bool false, .string ⟨#[]⟩, .int .i64 0, .int .i64 0, .int .i64 0, .int .i64 0] 79) = z := ⟨_, rfl⟩
             rw [hu1] at hba y0
             have HTH7 := Lib.hid (show (w6.alloc (.cells #[.int .i64 0, .int .i64 0, .string ⟨#[]⟩, .bool false, .string ⟨#[]⟩, .int .i64 0, .int .i64 0, .int .i64 0, .int .i64 0] 79)).there w6.heap.size 0 ([.int .i64 ri, .int .i64 rp, .string rx, .bool rt, .string rn, .int .i64 ry, .int .i64 rk, .int .i64 rj, .int .i64 ru] : List Value).toArray.size from by
               rw [hu1]
               intro j hj
               rw [Nat.zero_add]
               have hj9 : j < ([.int .i64 0, .int .i64 0, .string ⟨#[]⟩, .bool false, .string ⟨#[]⟩, .int .i64 0, .int .i64 0, .int .i64 0, .int .i64 0] : List Value).length := by have h9 : j < ([.int .i64 ri, .int .i64 rp, .string rx, .bool rt, .string rn, .int .i64 ry, .int .i64 rk, .int .i64 rj, .int .i64 ru] : List Value).length := hj; rw [show ([.int .i64 ri, .int .i64 rp, .string rx, .bool rt, .string rn, .int .i64 ry, .int .i64 rk, .int .i64 rj, .int .i64 ru] : List Value).length = 9 from rfl] at h9; exact h9
               obtain ⟨u, hu⟩ : ∃ u, ([.int .i64 0, .int .i64 0, .string ⟨#[]⟩, .bool false, .string ⟨#[]⟩, .int .i64 0, .int .i64 0, .int .i64 0, .int .i64 0] : List Value)[j]? = some u := ⟨_, List.getElem?_eq_getElem hj9⟩
               obtain ⟨h1, h2⟩ := y0.1 j u hu
               exact ⟨by rw [h1]; rfl, h2⟩)
             have HA := Lib.hid (show HeldT w6.heap.size [.int .i64 ri, .int .i64 rp, .string rx, .bool rt, .string rn, .int .i64 ry, .int .i64 rk, .int .i64 rj, .int .i64 ru] (u1.setCells w6.heap.size 0 [.int .i64 ri, .int .i64 rp, .string rx, .bool rt, .string rn, .int .i64 ry, .int .i64 rk, .int .i64 rj, .int .i64 ru]) from y0.into (by rw [show ([.int .i64 ri, .int .i64 rp, .string rx, .bool rt, .string rn, .int .i64 ry, .int .i64 rk, .int .i64 rj, .int .i64 ru] : List Value).length = 9 from rfl]; rfl))
             have hb7 := tb_sets hba (b := w6.heap.size) (Nat.le_refl _) 0 [.int .i64 ri, .int .i64 rp, .string rx, .bool rt, .string rn, .int .i64 ry, .int .i64 rk, .int .i64 rj, .int .i64 ru]
             obtain ⟨w7, hw5⟩ : ∃ z, u1.setCells w6.heap.size 0 [.int .i64 ri, .int .i64 rp, .string rx, .bool rt, .string rn, .int .i64 ry, .int .i64 rk, .int .i64 rj, .int .i64 ru] = z := ⟨_, rfl⟩
             rw [hw5] at HA hb7
             have HW7 := Lib.hid (show (w6.alloc (.cells #[.int .i64 0, .int .i64 0, .string ⟨#[]⟩, .bool false, .string ⟨#[]⟩, .int .i64 0, .int .i64 0, .int .i64 0, .int .i64 0] 79)).setCells w6.heap.size 0 ([.int .i64 ri, .int .i64 rp, .string rx, .bool rt, .string rn, .int .i64 ry, .int .i64 rk, .int .i64 rj, .int .i64 ru] : List Value).toArray.toList = w7 from by rw [hu1]; exact hw5)
             have hsz7 := hba.size
             obtain ⟨gA, hgO⟩ : ∃ z, w6.heap.size = z := ⟨_, rfl⟩
             have HG7 := Lib.hid hgO
             rw [hgO] at HA
             clear hba y0 hu1 hw5 hgO hsz7
             have HP7 := Lib.hid (HP6.out.below hb7)
             have HOP7 := Lib.hid (HOP6.out.below hb7)
             have HGA := Lib.hid (show gA ∉ d from fun e => by have := HP6.out.dc.lt gA e; have := HG7.out; omega)
             have HON := Lib.hid (encW_one ⟨⟨ri, rp, rx, rt⟩, ⟨rn, ry, rk⟩, rj, ru⟩)
             clear hb7 HP6 HOP6
             go_upto_region 17 with ((with_reducible show wpList _ _ _ (Oper.mk _ (Op.store _ _ _) _ _ _ _ :: _) _ _); refine wpList_store_mid rfl 79 (.tmp 14) (.tmp 88) rfl _ _ _ rfl rfl HTH7.out (by kernel_rfl) (all_oneCell_toArray HON.out) ?_; rw [HW7.out, HG7.out])
             clear HTH7 HW7 HG7 HON
             try simp only [Act.put]
             have x1 := (HOP7.out.1 1 _ f1).1
             have x2 := (HOP7.out.1 2 _ f2).1
             have x5 := (HOP7.out.1 5 _ f5).1
             have x6 := (HOP7.out.1 6 _ f6).1
             have x7 := (HOP7.out.1 7 _ f7).1
             have x8 := (HOP7.out.1 8 _ f8).1
             have x9 := (HOP7.out.1 9 _ f9).1
             clear f1 f2 f5 f6 f7 f8 f9
             go_wp2_with fail
             clear x1 x2 x5 x6 x7 x8 x9
             refine (openD_any d p s nw jb tx tc qn qt qk w7 HP7.out.dc HI.out.x (by omega)).mono ?_; rintro e w8 ⟨rfl, ⟨d2, hs3, hd2⟩, hf3⟩
             rw [HSE.out] at hs3
             rw [HR.out, HER.out]
             rw [show (encW ⟨⟨ri, rp, rx, rt⟩, ⟨rn, ry, rk⟩, rj, ru⟩).toArray = #[.int .i64 ri, .int .i64 rp, .string rx, .bool rt, .string rn, .int .i64 ry, .int .i64 rk, .int .i64 rj, .int .i64 ru] from rfl]
             have HP8 := Lib.hid (HP7.out.doc hs3 hd2 hf3 (fun _ hx => hx))
             have HA8 := Lib.hid (HA.out.frm hf3 HGA.out)
             clear hs3 hd2 hf3 HP7 HOP7 HA HGA
             have hba := (Below.refl w8.heap.size w8).alloc (Nat.le_refl _) (.cells #[.int .i64 0, .int .i64 0, .string ⟨#[]⟩, .bool false, .string ⟨#[]⟩, .int .i64 0, .int .i64 0, .int .i64 0, .int .i64 0] 84)
             have y0 := HeldT.new w8 #[.int .i64 0, .int .i64 0, .string ⟨#[]⟩, .bool false, .string ⟨#[]⟩, .int .i64 0, .int .i64 0, .int .i64 0, .int .i64 0] 84
             obtain ⟨u1, hu1⟩ : ∃ z, w8.alloc (.cells #[.int .i64 0, .int .i64 0, .string ⟨#[]⟩, .bool false, .string ⟨#[]⟩, .int .i64 0, .int .i64 0, .int .i64 0, .int .i64 0] 84) = z := ⟨_, rfl⟩
             rw [hu1] at hba y0
             have HTH9 := Lib.hid (show (w8.alloc (.cells #[.int .i64 0, .int .i64 0, .string ⟨#[]⟩, .bool false, .string ⟨#[]⟩, .int .i64 0, .int .i64 0, .int .i64 0, .int .i64 0] 84)).there w8.heap.size 0 ([.int .i64 ri, .int .i64 rp, .string rx, .bool rt, .string rn, .int .i64 ry, .int .i64 rk, .int .i64 rj, .int .i64 ru] : List Value).toArray.size from by
               rw [hu1]
               intro j hj
               rw [Nat.zero_add]
               have hj9 : j < ([.int .i64 0, .int .i64 0, .string ⟨#[]⟩, .bool false, .string ⟨#[]⟩, .int .i64 0, .int .i64 0, .int .i64 0, .int .i64 0] : List Value).length := by have h9 : j < ([.int .i64 ri, .int .i64 rp, .string rx, .bool rt, .string rn, .int .i64 ry, .int .i64 rk, .int .i64 rj, .int .i64 ru] : List Value).length := hj; rw [show ([.int .i64 ri, .int .i64 rp, .string rx, .bool rt, .string rn, .int .i64 ry, .int .i64 rk, .int .i64 rj, .int .i64 ru] : List Value).length = 9 from rfl] at h9; exact h9
               obtain ⟨u, hu⟩ : ∃ u, ([.int .i64 0, .int .i64 0, .string ⟨#[]⟩, .bool false, .string ⟨#[]⟩, .int .i64 0, .int .i64 0, .int .i64 0, .int .i64 0] : List Value)[j]? = some u := ⟨_, List.getElem?_eq_getElem hj9⟩
               obtain ⟨h1, h2⟩ := y0.1 j u hu
               exact ⟨by rw [h1]; rfl, h2⟩)
             have HBb := Lib.hid (show HeldT w8.heap.size [.int .i64 ri, .int .i64 rp, .string rx, .bool rt, .string rn, .int .i64 ry, .int .i64 rk, .int .i64 rj, .int .i64 ru] (u1.setCells w8.heap.size 0 [.int .i64 ri, .int .i64 rp, .string rx, .bool rt, .string rn, .int .i64 ry, .int .i64 rk, .int .i64 rj, .int .i64 ru]) from y0.into (by rw [show ([.int .i64 ri, .int .i64 rp, .string rx, .bool rt, .string rn, .int .i64 ry, .int .i64 rk, .int .i64 rj, .int .i64 ru] : List Value).length = 9 from rfl]; rfl))
             have hb9 := tb_sets hba (b := w8.heap.size) (Nat.le_refl _) 0 [.int .i64 ri, .int .i64 rp, .string rx, .bool rt, .string rn, .int .i64 ry, .int .i64 rk, .int .i64 rj, .int .i64 ru]
             obtain ⟨w9, hw5⟩ : ∃ z, u1.setCells w8.heap.size 0 [.int .i64 ri, .int .i64 rp, .string rx, .bool rt, .string rn, .int .i64 ry, .int .i64 rk, .int .i64 rj, .int .i64 ru] = z := ⟨_, rfl⟩
             rw [hw5] at HBb hb9
             have HW9 := Lib.hid (show (w8.alloc (.cells #[.int .i64 0, .int .i64 0, .string ⟨#[]⟩, .bool false, .string ⟨#[]⟩, .int .i64 0, .int .i64 0, .int .i64 0, .int .i64 0] 84)).setCells w8.heap.size 0 ([.int .i64 ri, .int .i64 rp, .string rx, .bool rt, .string rn, .int .i64 ry, .int .i64 rk, .int .i64 rj, .int .i64 ru] : List Value).toArray.toList = w9 from by rw [hu1]; exact hw5)
             have hsz9 := hba.size
             obtain ⟨gB, hgO⟩ : ∃ z, w8.heap.size = z := ⟨_, rfl⟩
             have HG9 := Lib.hid hgO
             rw [hgO] at HBb
             clear hba y0 hu1 hw5 hgO hsz9
             have HP9 := Lib.hid (HP8.out.below hb9)
             have HA9 := Lib.hid (HA8.out.below hb9)
             have HON := Lib.hid (encW_one ⟨⟨ri, rp, rx, rt⟩, ⟨rn, ry, rk⟩, rj, ru⟩)
             clear hb9 HP8 HA8
             go_upto_region 18 with ((with_reducible show wpList _ _ _ (Oper.mk _ (Op.store _ _ _) _ _ _ _ :: _) _ _); refine wpList_store_mid rfl 84 (.tmp 16) (.tmp 103) rfl _ _ _ rfl rfl HTH9.out (by kernel_rfl) (all_oneCell_toArray HON.out) ?_; rw [HW9.out, HG9.out])
             clear HTH9 HW9 HG9 HON
             try simp only [Act.put]
             have hrw := fun W => rw_eql ri rp rx rt rn ry rk rj ru W
             have hee : (er == er) = true := by simp
             as_aux_lemma =>
              refine wp_region_held_drew (S := (fun wx => HeldT gA [.int .i64 ri, .int .i64 rp, .string rx, .bool rt, .string rn, .int .i64 ry, .int .i64 rk, .int .i64 rj, .int .i64 ru] wx ∧ HeldT gB [.int .i64 ri, .int .i64 rp, .string rx, .bool rt, .string rn, .int .i64 ry, .int .i64 rk, .int .i64 rj, .int .i64 ru] wx)) (by kernel_rfl) (⟨HA9.out.below (Below.refl _ _).drew, HBb.out.below (Below.refl _ _).drew⟩) (fun hHeld => ?_)
              have hb := (Below.refl w9.heap.size w9).drew
              replace HP9 := Lib.hid (HP9.out.below hb)
              obtain ⟨y0, hwd⟩ : ∃ z, w9.drew = z := ⟨_, rfl⟩
              rw [hwd] at HP9 hHeld ⊢
              clear hwd hb HA9 HBb
              refine wpAnyH_take (i := 0) (oi := { dst := some 105, op := Go.Op.load 79 (Go.Operand.tmp 14), type := 79, pos := "law.go:98", after := #[], guard := none }) (v := ?v0_720101) rfl (by kernel_rfl) (by kernel_rfl) (by kernel_rfl) (fun _ _ _ h => h) (Or.inl ⟨by rfl, ?y0_720101⟩) hHeld ?r0_720101
              case y0_720101 => intro w hSw; (try dsimp only at hSw); obtain ⟨⟨s1, _⟩, ⟨s2, _⟩⟩ := hSw; have t0 := (s1 0 _ rfl).1; have t1 := (s1 1 _ rfl).1; have t2 := (s1 2 _ rfl).1; have t3 := (s1 3 _ rfl).1; have t4 := (s1 4 _ rfl).1; have t5 := (s1 5 _ rfl).1; have t6 := (s1 6 _ rfl).1; have t7 := (s1 7 _ rfl).1; have t8 := (s1 8 _ rfl).1; clear s1 s2; go_simp; try with_reducible rfl
              try simp only [Act.put, List.setIfInBounds_toArray, List.set_cons_zero, List.set_cons_succ]
              refine wpAnyH_take (i := 2) (oi := { dst := some 107, op := Go.Op.load 84 (Go.Operand.tmp 16), type := 84, pos := "law.go:98", after := #[], guard := none }) (v := ?v2_720101) rfl (by kernel_rfl) (by kernel_rfl) (by kernel_rfl) (fun _ _ _ h => h) (Or.inl ⟨by rfl, ?y2_720101⟩) hHeld ?r2_720101
              case y2_720101 => intro w hSw; (try dsimp only at hSw); obtain ⟨⟨s1, _⟩, ⟨s2, _⟩⟩ := hSw; have t0 := (s2 0 _ rfl).1; have t1 := (s2 1 _ rfl).1; have t2 := (s2 2 _ rfl).1; have t3 := (s2 3 _ rfl).1; have t4 := (s2 4 _ rfl).1; have t5 := (s2 5 _ rfl).1; have t6 := (s2 6 _ rfl).1; have t7 := (s2 7 _ rfl).1; have t8 := (s2 8 _ rfl).1; clear s1 s2; go_simp; try with_reducible rfl
              try simp only [Act.put, List.setIfInBounds_toArray, List.set_cons_zero, List.set_cons_succ]
              refine wpAnyH_ready (rs := [1]) (by kernel_rfl) (by simp) ?_
              refine AllReadyH.cons (o := { dst := some 106, op := Go.Op.call { callee := Go.Callee.value (Go.Operand.func 45), args := #[Go.Operand.tmp 105], argTypes := #[79] }, type := 84, pos := "law.go:98", after := #[{ on := 0, ground := Go.Ground.data }], guard := none }) rfl (fun K hK => ?_) AllReadyH.nil
              go_simp
              refine (waitD_any ri rp rx rt rn ry rk rj ru y0).mono ?_; rintro e y1 ⟨rfl, hb⟩
              have hnext := And.intro (hHeld.1.below hb) (hHeld.2.below hb)
              replace HP9 := Lib.hid (HP9.out.below hb)
              clear hb
              refine hK.out _ _ (hnext) (fun hHeld2 => ?_)
              clear hK K hHeld
              have hHeld := hHeld2
              clear hHeld2
              try simp only [Act.put, List.setIfInBounds_toArray, List.set_cons_zero, List.set_cons_succ]
              refine wpAnyH_take (i := 3) (oi := { dst := some 108, op := Go.Op.binOp Go.BinOp.eql 84 (Go.Operand.tmp 106) (Go.Operand.tmp 107) 84, type := 4, pos := "law.go:98", after := #[{ on := 1, ground := Go.Ground.data }, { on := 2, ground := Go.Ground.data }], guard := none }) (v := ?v3_720102) rfl (by kernel_rfl) (by kernel_rfl) (by kernel_rfl) (fun _ _ _ h => h) (Or.inl ⟨by rfl, ?y3_720102⟩) hHeld ?r3_720102
              case y3_720102 => intro w hSw; (try dsimp only at hSw); go_simp; try with_reducible rfl
              try simp only [Act.put, List.setIfInBounds_toArray, List.set_cons_zero, List.set_cons_succ]
              refine wpAnyH_take (i := 4) (oi := { dst := some 109, op := Go.Op.move (Go.Operand.tmp 108), type := 4, pos := "law.go:98", after := #[{ on := 3, ground := Go.Ground.data }, { on := 1, ground := Go.Ground.chain }], guard := none }) (v := ?v4_720102) rfl (by kernel_rfl) (by kernel_rfl) (by kernel_rfl) (fun _ _ _ h => h) (Or.inl ⟨by rfl, ?y4_720102⟩) hHeld ?r4_720102
              case y4_720102 => intro w hSw; (try dsimp only at hSw); go_simp; try with_reducible rfl
              try simp only [Act.put, List.setIfInBounds_toArray, List.set_cons_zero, List.set_cons_succ]
              refine wpAnyH_take (i := 5) (oi := { dst := some 110, op := Go.Op.move (Go.Operand.tmp 15), type := 40, pos := "law.go:98", after := #[{ on := 4, ground := Go.Ground.guard }], guard := some (4, true) }) (v := ?v5_720102) rfl (by kernel_rfl) (by kernel_rfl) (by kernel_rfl) (fun _ _ _ h => h) (Or.inl ⟨by rfl, ?y5_720102⟩) hHeld ?r5_720102
              case y5_720102 => intro w hSw; (try dsimp only at hSw); go_simp; try with_reducible rfl
              try simp only [Act.put, List.setIfInBounds_toArray, List.set_cons_zero, List.set_cons_succ]
              refine wpAnyH_take (i := 6) (oi := { dst := some 111, op := Go.Op.move (Go.Operand.tmp 17), type := 40, pos := "law.go:98", after := #[{ on := 4, ground := Go.Ground.guard }], guard := some (4, true) }) (v := ?v6_720102) rfl (by kernel_rfl) (by kernel_rfl) (by kernel_rfl) (fun _ _ _ h => h) (Or.inl ⟨by rfl, ?y6_720102⟩) hHeld ?r6_720102
              case y6_720102 => intro w hSw; (try dsimp only at hSw); go_simp; try with_reducible rfl
              try simp only [Act.put, List.setIfInBounds_toArray, List.set_cons_zero, List.set_cons_succ]
              refine wpAnyH_take (i := 7) (oi := { dst := some 112, op := Go.Op.binOp Go.BinOp.eql 40 (Go.Operand.tmp 110) (Go.Operand.tmp 111) 40, type := 4, pos := "law.go:98", after := #[{ on := 5, ground := Go.Ground.data }, { on := 6, ground := Go.Ground.data }, { on := 4, ground := Go.Ground.guard }], guard := some (4, true) }) (v := ?v7_720102) rfl (by kernel_rfl) (by kernel_rfl) (by kernel_rfl) (fun _ _ _ h => h) (Or.inl ⟨by rfl, ?y7_720102⟩) hHeld ?r7_720102
              case y7_720102 => intro w hSw; (try dsimp only at hSw); go_simp; try with_reducible rfl
              try simp only [Act.put, List.setIfInBounds_toArray, List.set_cons_zero, List.set_cons_succ]
              refine wpAnyH_take (i := 8) (oi := { dst := some 113, op := Go.Op.pick (Go.Operand.tmp 109) (Go.Operand.tmp 112) (Go.Operand.const (Go.Value.bool false)), type := 4, pos := "law.go:98", after := #[{ on := 4, ground := Go.Ground.data }, { on := 7, ground := Go.Ground.data }], guard := none }) (v := ?v8_720102) rfl (by kernel_rfl) (by kernel_rfl) (by kernel_rfl) (fun _ _ _ h => h) (Or.inl ⟨by rfl, ?y8_720102⟩) hHeld ?r8_720102
              case y8_720102 => intro w hSw; (try dsimp only at hSw); go_simp; try with_reducible rfl
              try simp only [Act.put, List.setIfInBounds_toArray, List.set_cons_zero, List.set_cons_succ]
              refine wpAnyH_take (i := 9) (oi := { dst := some 13, op := Go.Op.assign (Go.Operand.tmp 113), type := 4, pos := "law.go:98", after := #[{ on := 8, ground := Go.Ground.data }, { on := 4, ground := Go.Ground.chain }, { on := 0, ground := Go.Ground.phase }, { on := 1, ground := Go.Ground.phase }, { on := 2, ground := Go.Ground.phase }, { on := 3, ground := Go.Ground.phase }, { on := 4, ground := Go.Ground.phase }, { on := 5, ground := Go.Ground.phase }, { on := 6, ground := Go.Ground.phase }, { on := 7, ground := Go.Ground.phase }, { on := 8, ground := Go.Ground.phase }], guard := none }) (v := ?v9_720102) rfl (by kernel_rfl) (by kernel_rfl) (by kernel_rfl) (fun _ _ _ h => h) (Or.inl ⟨by rfl, ?y9_720102⟩) hHeld ?r9_720102
              case y9_720102 => intro w hSw; (try dsimp only at hSw); go_simp; try with_reducible rfl
              try simp only [Act.put, List.setIfInBounds_toArray, List.set_cons_zero, List.set_cons_succ]
              refine wpAnyH_done (by kernel_rfl) ?_ _
              clear hHeld
              go_wp2_with fail
              go_meet
              exact ⟨c2, d2, s2, rfl, HP9, HI2⟩
          have e0 : (kd == 0) = false := eF k0
          have n0 := k0
          clear k0
          by_cases k1 : kd = 1
          · have e1 : (kd == 1) = true := eT k1
            clear k1 n0
            as_aux_lemma =>
             have x3 := (HOP.out.1 3 _ HF.out.2.2.2.1).1
             obtain ⟨av, cM, c0, -, -, -, -, hrow⟩ := HP5.out.dc.parts
             obtain ⟨M, hM⟩ : ∃ z, s.ws.length = z := ⟨_, rfl⟩
             have HM := Lib.hid hM
             rw [hM] at c0 hrow
             have hlM : M ≤ 1000 := by rw [← hM]; exact hl5
             have HROW := Lib.hid hrow
             clear hM hrow
             by_cases hw : ¬ (0 ≤ wh ∧ wh < (M : Int))
             · have hd : decide (wh < 0) = true ∨ (decide (wh < 0) = false ∧ decide ((M : Int) ≤ wh) = true) := by
                 simp only [decide_eq_true_eq, decide_eq_false_iff_not]
                 omega
               clear hw
               rcases hd with d1 | ⟨d1, d2⟩
               all_goals
                 go_upto_region 20 with (fail)
                 go_quiet (fail)
                 rename_i nq
                 have HP6 := Lib.hid (HP5.out.below (below_drewN (Below.refl _ _) nq))
                 clear c0 x3
                 go_wp2_with fail
                 go_meet
                 exact ⟨c, d, s, rfl, HP6, HI⟩
             obtain ⟨wi, rfl⟩ : ∃ i : Nat, wh = (i : Int) := ⟨wh.toNat, by omega⟩
             have hwi : wi < M := by omega
             have d1 : decide ((wi : Int) < 0) = false := dF (by omega)
             have d2 : decide ((M : Int) ≤ (wi : Int)) = false := dF (by omega)
             clear hw
             go_upto_region 20 with (fail)
             go_quiet (fail)
             rename_i nq
             have hb := below_drewN (Below.refl w5.heap.size w5) nq
             have HP6 := Lib.hid (HP5.out.below hb)
             have HOP6 := Lib.hid (HOP.out.below hb)
             have HROW6 := Lib.hid (own_below' HROW.out hb)
             have c0' := cell_later hb c0
             have x3' := cell_later hb x3
             clear c0 x3
             obtain ⟨w6, hw6⟩ : ∃ z, w5.drewN nq = z := ⟨_, rfl⟩
             rw [hw6] at HP6 HOP6 HROW6 c0' x3'
             have HW6 := Lib.hid hw6
             clear hw6 hb d1 d2
             go_upto_region 21 with (fail)
             rw [HW6.out]
             clear HW6
             obtain ⟨gv, cv, e, -, hgv⟩ := own_shp' HROW6.out (by omega)
             injection e with e1 _ e3
             subst e1
             subst e3
             obtain ⟨r0, hr0⟩ : ∃ r, s.ws[wi]? = some r := ⟨_, List.getElem?_eq_getElem (by rw [HM.out]; exact hwi)⟩
             obtain ⟨⟨ki, kp, kx, kt⟩, ⟨mn', my, mc⟩, mj, mu⟩ := r0
             have HID := Lib.hid (show 0 ≤ ki ∧ ki < 65536 from HI.out.ok.ids _ (List.mem_of_getElem? hr0))
             have hrg : w6.rangeAt gv (wi * 9) [.int .i64 ki, .int .i64 kp, .string kx, .bool kt, .string mn', .int .i64 my, .int .i64 mc, .int .i64 mj, .int .i64 mu] := fun j v hj => ownsRow_at HROW6.out _ _ (by rw [flatW_at _ wi j _ hr0 (List.getElem?_eq_some_iff.1 hj).1]; exact hj)
             have HS21 := Lib.hid (show w6.cell? ⟨p, 0, none⟩ = some (.slice (some ⟨gv, 0, none⟩) M cM) ∧ w6.cell? ⟨gO, 3, none⟩ = some (.int .i64 (wi : Int)) ∧ w6.rangeAt gv (wi * 9) [.int .i64 ki, .int .i64 kp, .string kx, .bool kt, .string mn', .int .i64 my, .int .i64 mc, .int .i64 mj, .int .i64 mu] from ⟨c0', x3', hrg⟩)
             have HLB := Lib.hid (show p < w6.heap.size ∧ gO < w6.heap.size ∧ gv < w6.heap.size from ⟨HP6.out.dc.lt p HP6.out.dc.q, HOP6.out.2, hgv⟩)
             have i1 : (0 : Int) ≤ (wi : Int) := by omega
             have i2 : (wi : Int) < (M : Int) := by omega
             clear c0' x3' hrg hr0 hgv hwi HROW HROW6 HP5 HOP
             go_cut [18] (fun x wx => ∃ gW : Nat, x = .pointer (some ⟨gW, 0, none⟩) ∧ Hid (HeldT gW [.int .i64 ki, .int .i64 kp, .string kx, .bool kt, .string mn', .int .i64 my, .int .i64 mc, .int .i64 mj, .int .i64 mu] wx) ∧ Hid (Pl w wx q p c d s s) ∧ Hid (HeldT gO OC wx))
             case first =>
              as_aux_lemma =>
               refine wp_region_held_drew (S := (fun wx : World => wx.cell? ⟨p, 0, none⟩ = some (.slice (some ⟨gv, 0, none⟩) M cM) ∧ wx.cell? ⟨gO, 3, none⟩ = some (.int .i64 (wi : Int)) ∧ wx.rangeAt gv (wi * 9) [.int .i64 ki, .int .i64 kp, .string kx, .bool kt, .string mn', .int .i64 my, .int .i64 mc, .int .i64 mj, .int .i64 mu])) (by kernel_rfl) (⟨cell_later (Below.refl _ _).drew HS21.out.1, cell_later (Below.refl _ _).drew HS21.out.2.1, fun j v hj => cell_later (Below.refl _ _).drew (HS21.out.2.2 j v hj)⟩) (fun hHeld => ?_)
               have hb := (Below.refl w6.heap.size w6).drew
               have HWS := Lib.hid hb.size
               replace HP6 := Lib.hid (HP6.out.below hb)
               replace HOP6 := Lib.hid (HOP6.out.below hb)
               obtain ⟨z0, hwd⟩ : ∃ z, w6.drew = z := ⟨_, rfl⟩
               rw [hwd] at HWS HP6 HOP6 hHeld ⊢
               clear hwd hb HS21
               refine wpAnyH_take (i := 0) (oi := { dst := some 129, op := Go.Op.move (Go.Operand.tmp 9), type := 62, pos := "law.go:103", after := #[], guard := none }) (v := ?v0_750101) rfl (by kernel_rfl) (by kernel_rfl) (by kernel_rfl) (fun _ _ _ h => h) (Or.inl ⟨by rfl, ?y0_750101⟩) hHeld ?r0_750101
               case y0_750101 => intro w hSw; (try dsimp only at hSw); go_simp; try with_reducible rfl
               try simp only [Act.put, List.setIfInBounds_toArray, List.set_cons_zero, List.set_cons_succ]
               refine wpAnyH_take (i := 1) (oi := { dst := some 130, op := Go.Op.nilCheck (Go.Operand.tmp 129), type := 0, pos := "law.go:103", after := #[{ on := 0, ground := Go.Ground.data }], guard := none }) (v := ?v1_750101) rfl (by kernel_rfl) (by kernel_rfl) (by kernel_rfl) (fun _ _ _ h => h) (Or.inl ⟨by rfl, ?y1_750101⟩) hHeld ?r1_750101
               case y1_750101 => intro w hSw; (try dsimp only at hSw); go_simp; try with_reducible rfl
               try simp only [Act.put, List.setIfInBounds_toArray, List.set_cons_zero, List.set_cons_succ]
               refine wpAnyH_take (i := 2) (oi := { dst := some 131, op := Go.Op.fieldAddr 90 (Go.Operand.tmp 130) 0, type := 0, pos := "law.go:103", after := #[{ on := 1, ground := Go.Ground.data }], guard := none }) (v := ?v2_750101) rfl (by kernel_rfl) (by kernel_rfl) (by kernel_rfl) (fun _ _ _ h => h) (Or.inl ⟨by rfl, ?y2_750101⟩) hHeld ?r2_750101
               case y2_750101 => intro w hSw; (try dsimp only at hSw); go_simp; try with_reducible rfl
               try simp only [Act.put, List.setIfInBounds_toArray, List.set_cons_zero, List.set_cons_succ]
               refine wpAnyH_take (i := 3) (oi := { dst := some 132, op := Go.Op.load 88 (Go.Operand.tmp 131), type := 88, pos := "law.go:103", after := #[{ on := 2, ground := Go.Ground.data }], guard := none }) (v := ?v3_750101) rfl (by kernel_rfl) (by kernel_rfl) (by kernel_rfl) (fun _ _ _ h => h) (Or.inl ⟨by rfl, ?y3_750101⟩) hHeld ?r3_750101
               case y3_750101 => intro w hSw; (try dsimp only at hSw); obtain ⟨s1, s2, s3⟩ := hSw; clear s3; go_simp; try with_reducible rfl
               try simp only [Act.put, List.setIfInBounds_toArray, List.set_cons_zero, List.set_cons_succ]
               refine wpAnyH_take (i := 4) (oi := { dst := some 133, op := Go.Op.fieldAddr 77 (Go.Operand.tmp 12) 3, type := 0, pos := "law.go:103", after := #[], guard := none }) (v := ?v4_750101) rfl (by kernel_rfl) (by kernel_rfl) (by kernel_rfl) (fun _ _ _ h => h) (Or.inl ⟨by rfl, ?y4_750101⟩) hHeld ?r4_750101
               case y4_750101 => intro w hSw; (try dsimp only at hSw); go_simp; try with_reducible rfl
               try simp only [Act.put, List.setIfInBounds_toArray, List.set_cons_zero, List.set_cons_succ]
               refine wpAnyH_take (i := 5) (oi := { dst := some 134, op := Go.Op.load 3 (Go.Operand.tmp 133), type := 3, pos := "law.go:103", after := #[{ on := 4, ground := Go.Ground.data }], guard := none }) (v := ?v5_750101) rfl (by kernel_rfl) (by kernel_rfl) (by kernel_rfl) (fun _ _ _ h => h) (Or.inl ⟨by rfl, ?y5_750101⟩) hHeld ?r5_750101
               case y5_750101 => intro w hSw; (try dsimp only at hSw); obtain ⟨s1, s2, s3⟩ := hSw; clear s3; go_simp; try with_reducible rfl
               try simp only [Act.put, List.setIfInBounds_toArray, List.set_cons_zero, List.set_cons_succ]
               refine wpAnyH_take (i := 6) (oi := { dst := some 135, op := Go.Op.indexAddr 88 (Go.Operand.tmp 132) (Go.Operand.tmp 134), type := 0, pos := "law.go:103", after := #[{ on := 3, ground := Go.Ground.data }, { on := 5, ground := Go.Ground.data }], guard := none }) (v := ?v6_750101) rfl (by kernel_rfl) (by kernel_rfl) (by kernel_rfl) (fun _ _ _ h => h) (Or.inl ⟨by rfl, ?y6_750101⟩) hHeld ?r6_750101
               case y6_750101 => intro w hSw; (try dsimp only at hSw); go_simp; try with_reducible rfl
               try simp only [Act.put, List.setIfInBounds_toArray, List.set_cons_zero, List.set_cons_succ]
               refine wpAnyH_take (i := 7) (oi := { dst := some 136, op := Go.Op.load 84 (Go.Operand.tmp 135), type := 84, pos := "law.go:103", after := #[{ on := 6, ground := Go.Ground.data }], guard := none }) (v := ?v7_750101) rfl (by kernel_rfl) (by kernel_rfl) (by kernel_rfl) (fun _ _ _ h => h) (Or.inl ⟨by rfl, ?y7_750101⟩) hHeld ?r7_750101
               case y7_750101 => intro w hSw; (try dsimp only at hSw); obtain ⟨s1, s2, s3⟩ := hSw; have t0 := s3 0 _ rfl; have t1 := s3 1 _ rfl; have t2 := s3 2 _ rfl; have t3 := s3 3 _ rfl; have t4 := s3 4 _ rfl; have t5 := s3 5 _ rfl; have t6 := s3 6 _ rfl; have t7 := s3 7 _ rfl; have t8 := s3 8 _ rfl; simp only [Nat.add_zero] at t0; clear s3; go_simp; try with_reducible rfl
               try simp only [Act.put, List.setIfInBounds_toArray, List.set_cons_zero, List.set_cons_succ]
               refine wpAnyH_ready (rs := [8]) (by kernel_rfl) (by simp) ?_
               refine AllReadyH.cons (o := { dst := some 18, op := Go.Op.alloc 84, type := 0, pos := "law.go:103", after := #[], guard := none }) rfl (fun K hK => ?_) AllReadyH.nil
               go_simp
               have hal := (Below.refl z0.heap.size z0).alloc (Nat.le_refl _) (.cells #[.int .i64 0, .int .i64 0, .string ⟨#[]⟩, .bool false, .string ⟨#[]⟩, .int .i64 0, .int .i64 0, .int .i64 0, .int .i64 0] 84)
               have hnext : ((fun wx : World => wx.cell? ⟨p, 0, none⟩ = some (.slice (some ⟨gv, 0, none⟩) M cM) ∧ wx.cell? ⟨gO, 3, none⟩ = some (.int .i64 (wi : Int)) ∧ wx.rangeAt gv (wi * 9) [.int .i64 ki, .int .i64 kp, .string kx, .bool kt, .string mn', .int .i64 my, .int .i64 mc, .int .i64 mj, .int .i64 mu]) _) := ⟨cell_later hal hHeld.1, cell_later hal hHeld.2.1, fun j v hj => cell_later hal (hHeld.2.2 j v hj)⟩
               have HZ := Lib.hid (HeldT.new z0 #[.int .i64 0, .int .i64 0, .string ⟨#[]⟩, .bool false, .string ⟨#[]⟩, .int .i64 0, .int .i64 0, .int .i64 0, .int .i64 0] 84)
               have HGW := Lib.hid (show (p < z0.heap.size ∧ gO < z0.heap.size ∧ gv < z0.heap.size ∧ w.heap.size ≤ z0.heap.size) ∧ z0.heap.size ∉ c ∧ z0.heap.size ∉ d from ⟨⟨Nat.lt_of_lt_of_le HLB.out.1 HWS.out, Nat.lt_of_lt_of_le HLB.out.2.1 HWS.out, Nat.lt_of_lt_of_le HLB.out.2.2 HWS.out, HP6.out.bel.size⟩, fun e => by have := HP6.out.cd.lt _ e; omega, fun e => by have := HP6.out.dc.lt _ e; omega⟩)
               replace HP6 := Lib.hid (HP6.out.below hal)
               replace HOP6 := Lib.hid (HOP6.out.below hal)
               obtain ⟨z1, hwf⟩ : ∃ z, z0.alloc (.cells #[.int .i64 0, .int .i64 0, .string ⟨#[]⟩, .bool false, .string ⟨#[]⟩, .int .i64 0, .int .i64 0, .int .i64 0, .int .i64 0] 84) = z := ⟨_, rfl⟩
               obtain ⟨gW, hgb⟩ : ∃ z, z0.heap.size = z := ⟨_, rfl⟩
               rw [hwf] at hnext HP6 HOP6 HZ ⊢
               rw [hgb] at HZ HGW ⊢
               clear hwf hgb hal
               refine hK.out _ _ (hnext) (fun hHeld2 => ?_)
               clear hK K hHeld
               have hHeld := hHeld2
               clear hHeld2
               try simp only [Act.put, List.setIfInBounds_toArray, List.set_cons_zero, List.set_cons_succ]
               refine wpAnyH_ready (rs := [9]) (by kernel_rfl) (by simp) ?_
               refine AllReadyH.cons (o := { dst := none, op := Go.Op.store 84 (Go.Operand.tmp 18) (Go.Operand.tmp 136), type := 0, pos := "law.go:103", after := #[{ on := 8, ground := Go.Ground.data }, { on := 7, ground := Go.Ground.data }, { on := 0, ground := Go.Ground.phase }, { on := 1, ground := Go.Ground.phase }, { on := 2, ground := Go.Ground.phase }, { on := 3, ground := Go.Ground.phase }, { on := 4, ground := Go.Ground.phase }, { on := 5, ground := Go.Ground.phase }, { on := 6, ground := Go.Ground.phase }, { on := 7, ground := Go.Ground.phase }, { on := 8, ground := Go.Ground.phase }], guard := none }) rfl (fun K hK => ?_) AllReadyH.nil
               refine step_store_mid (by rfl) 84 (.tmp 18) (.tmp 136) (by rfl) gW 0 #[.int .i64 ki, .int .i64 kp, .string kx, .bool kt, .string mn', .int .i64 my, .int .i64 mc, .int .i64 mj, .int .i64 mu] (by rfl) (by rfl) (fun j hj => by obtain ⟨u, hu⟩ : ∃ u, ([.int .i64 0, .int .i64 0, .string ⟨#[]⟩, .bool false, .string ⟨#[]⟩, .int .i64 0, .int .i64 0, .int .i64 0, .int .i64 0] : List Value)[j]? = some u := ⟨_, List.getElem?_eq_getElem (show j < List.length [.int .i64 0, .int .i64 0, .string ⟨#[]⟩, .bool false, .string ⟨#[]⟩, .int .i64 0, .int .i64 0, .int .i64 0, .int .i64 0] from hj)⟩; obtain ⟨h1, h2⟩ := HZ.out.1 j u hu; rw [Nat.zero_add]; exact ⟨by rw [h1]; rfl, h2⟩) (by kernel_rfl) (all_oneCell_toArray (encW_one ⟨⟨ki, kp, kx, kt⟩, ⟨mn', my, mc⟩, mj, mu⟩)) ?_
               simp only [Act.put]
               have HW := Lib.hid (show HeldT gW [.int .i64 ki, .int .i64 kp, .string kx, .bool kt, .string mn', .int .i64 my, .int .i64 mc, .int .i64 mj, .int .i64 mu] (z1.setCells gW 0 [.int .i64 ki, .int .i64 kp, .string kx, .bool kt, .string mn', .int .i64 my, .int .i64 mc, .int .i64 mj, .int .i64 mu]) from HZ.out.into rfl)
               have hfr := (Frm.refl z1 [gW]).sets gW 0 (Or.inl (by simp)) [.int .i64 ki, .int .i64 kp, .string kx, .bool kt, .string mn', .int .i64 my, .int .i64 mc, .int .i64 mj, .int .i64 mu]
               have hnext : ((fun wx : World => wx.cell? ⟨p, 0, none⟩ = some (.slice (some ⟨gv, 0, none⟩) M cM) ∧ wx.cell? ⟨gO, 3, none⟩ = some (.int .i64 (wi : Int)) ∧ wx.rangeAt gv (wi * 9) [.int .i64 ki, .int .i64 kp, .string kx, .bool kt, .string mn', .int .i64 my, .int .i64 mc, .int .i64 mj, .int .i64 mu]) _) := ⟨hfr.cellT hHeld.1 (by simp; have := HGW.out.1; omega), hfr.cellT hHeld.2.1 (by simp; have := HGW.out.1; omega), fun j v hj => hfr.cellT (hHeld.2.2 j v hj) (by simp; have := HGW.out.1; omega)⟩
               replace HP6 := Lib.hid (HP6.out.frm hfr (fun b hb => by simp at hb; subst hb; exact ⟨HGW.out.2.1, HGW.out.2.2, HGW.out.1.2.2.2⟩))
               replace HOP6 := Lib.hid (HOP6.out.frm hfr (by simp; have := HGW.out.1; omega))
               obtain ⟨z2, hwh⟩ : ∃ z, z1.setCells gW 0 [.int .i64 ki, .int .i64 kp, .string kx, .bool kt, .string mn', .int .i64 my, .int .i64 mc, .int .i64 mj, .int .i64 mu] = z := ⟨_, rfl⟩
               rw [hwh] at HW hnext HP6 HOP6
               rw [show z1.setCells gW 0 (#[.int .i64 ki, .int .i64 kp, .string kx, .bool kt, .string mn', .int .i64 my, .int .i64 mc, .int .i64 mj, .int .i64 mu] : Array Value).toList = z2 from hwh]
               clear hwh hfr HZ
               refine hK.out _ _ (hnext) (fun hHeld2 => ?_)
               clear hK K hHeld
               have hHeld := hHeld2
               clear hHeld2
               try simp only [Act.put, List.setIfInBounds_toArray, List.set_cons_zero, List.set_cons_succ]
               refine wpAnyH_done (by kernel_rfl) ?_ _
               go_wp2_with fail
               go_meet
               exact ⟨gW, rfl, HW, HP6, HOP6⟩
             obtain ⟨gW, rfl, HW, HP7, HOP7⟩ := hcut
             clear HP6 HOP6 HS21 HLB i1 i2
             obtain ⟨w7, hw7⟩ : ∃ z, wc = z := ⟨_, rfl⟩
             rw [hw7] at HW HP7 HOP7 ⊢
             clear hw7
             have w0 := (HW.out.1 0 _ rfl).1
             have w1 := (HW.out.1 1 _ rfl).1
             have w2 := (HW.out.1 2 _ rfl).1
             have w3 := (HW.out.1 3 _ rfl).1
             have w4 := (HW.out.1 4 _ rfl).1
             have w5' := (HW.out.1 5 _ rfl).1
             have w6' := (HW.out.1 6 _ rfl).1
             have w7' := (HW.out.1 7 _ rfl).1
             have w8' := (HW.out.1 8 _ rfl).1
             have x4 := (HOP7.out.1 4 _ HF4.out).1
             go_wp2_with fail
             clear w0 w1 w2 w3 w4 w5' w6' w7' w8' x4
             refine (ansF_any ki kp kx kt mn' my mc mj mu nN w7 HID.out).mono ?_; rintro e w8 ⟨id, qr, gq, nq, cq, Q, rfl, hq, hnq, ⟨hgq, hgl⟩, hb⟩
             have HP8 := Lib.hid (HP7.out.below hb)
             have HOP8 := Lib.hid (HOP7.out.below hb)
             have HW8 := Lib.hid (HW.out.below hb)
             have HQ8 := Lib.hid hq
             have HNQ := Lib.hid hnq
             have HGQ := Lib.hid (show gq ∉ c ∧ gq ∉ d from ⟨fun e => by have := HP7.out.cd.lt gq e; omega, fun e => by have := HP7.out.dc.lt gq e; omega⟩)
             have HQL := Lib.hid hgl
             clear hq hnq hgq hgl hb HP7 HOP7 HW
             have hba := (Below.refl w8.heap.size w8).alloc (Nat.le_refl _) (.cells #[.int .i64 0, .int .i64 0, .int .i64 0, .bool false, .bool false, .bool false, .bool false, .bool false, .slice none 0 0, .slice none 0 0, .slice none 0 0, .slice none 0 0] 75)
             have y0 := HeldT.new w8 #[.int .i64 0, .int .i64 0, .int .i64 0, .bool false, .bool false, .bool false, .bool false, .bool false, .slice none 0 0, .slice none 0 0, .slice none 0 0, .slice none 0 0] 75
             obtain ⟨u1, hu1⟩ : ∃ z, w8.alloc (.cells #[.int .i64 0, .int .i64 0, .int .i64 0, .bool false, .bool false, .bool false, .bool false, .bool false, .slice none 0 0, .slice none 0 0, .slice none 0 0, .slice none 0 0] 75) = z := ⟨_, rfl⟩
             rw [hu1] at hba y0
             have HTH9 := Lib.hid (show (w8.alloc (.cells #[.int .i64 0, .int .i64 0, .int .i64 0, .bool false, .bool false, .bool false, .bool false, .bool false, .slice none 0 0, .slice none 0 0, .slice none 0 0, .slice none 0 0] 75)).there w8.heap.size 0 ([.int .i64 id, .int .i64 0, .int .i64 0, .bool qr, .bool false, .bool false, .bool false, .bool false, .slice (some ⟨gq, 0, none⟩) nq cq, .slice none 0 0, .slice none 0 0, .slice none 0 0] : List Value).toArray.size from by
               rw [hu1]
               intro j hj
               rw [Nat.zero_add]
               have hj9 : j < ([.int .i64 0, .int .i64 0, .int .i64 0, .bool false, .bool false, .bool false, .bool false, .bool false, .slice none 0 0, .slice none 0 0, .slice none 0 0, .slice none 0 0] : List Value).length := by have h9 : j < ([.int .i64 id, .int .i64 0, .int .i64 0, .bool qr, .bool false, .bool false, .bool false, .bool false, .slice (some ⟨gq, 0, none⟩) nq cq, .slice none 0 0, .slice none 0 0, .slice none 0 0] : List Value).length := hj; rw [show ([.int .i64 id, .int .i64 0, .int .i64 0, .bool qr, .bool false, .bool false, .bool false, .bool false, .slice (some ⟨gq, 0, none⟩) nq cq, .slice none 0 0, .slice none 0 0, .slice none 0 0] : List Value).length = 12 from rfl] at h9; exact h9
               obtain ⟨u, hu⟩ : ∃ u, ([.int .i64 0, .int .i64 0, .int .i64 0, .bool false, .bool false, .bool false, .bool false, .bool false, .slice none 0 0, .slice none 0 0, .slice none 0 0, .slice none 0 0] : List Value)[j]? = some u := ⟨_, List.getElem?_eq_getElem hj9⟩
               obtain ⟨h1, h2⟩ := y0.1 j u hu
               exact ⟨by rw [h1]; rfl, h2⟩)
             have HM1 := Lib.hid (show HeldT w8.heap.size [.int .i64 id, .int .i64 0, .int .i64 0, .bool qr, .bool false, .bool false, .bool false, .bool false, .slice (some ⟨gq, 0, none⟩) nq cq, .slice none 0 0, .slice none 0 0, .slice none 0 0] (u1.setCells w8.heap.size 0 [.int .i64 id, .int .i64 0, .int .i64 0, .bool qr, .bool false, .bool false, .bool false, .bool false, .slice (some ⟨gq, 0, none⟩) nq cq, .slice none 0 0, .slice none 0 0, .slice none 0 0]) from y0.into (by rw [show ([.int .i64 id, .int .i64 0, .int .i64 0, .bool qr, .bool false, .bool false, .bool false, .bool false, .slice (some ⟨gq, 0, none⟩) nq cq, .slice none 0 0, .slice none 0 0, .slice none 0 0] : List Value).length = 12 from rfl]; rfl))
             have hb9 := tb_sets hba (b := w8.heap.size) (Nat.le_refl _) 0 [.int .i64 id, .int .i64 0, .int .i64 0, .bool qr, .bool false, .bool false, .bool false, .bool false, .slice (some ⟨gq, 0, none⟩) nq cq, .slice none 0 0, .slice none 0 0, .slice none 0 0]
             obtain ⟨w9, hw5⟩ : ∃ z, u1.setCells w8.heap.size 0 [.int .i64 id, .int .i64 0, .int .i64 0, .bool qr, .bool false, .bool false, .bool false, .bool false, .slice (some ⟨gq, 0, none⟩) nq cq, .slice none 0 0, .slice none 0 0, .slice none 0 0] = z := ⟨_, rfl⟩
             rw [hw5] at HM1 hb9
             have HW9 := Lib.hid (show (w8.alloc (.cells #[.int .i64 0, .int .i64 0, .int .i64 0, .bool false, .bool false, .bool false, .bool false, .bool false, .slice none 0 0, .slice none 0 0, .slice none 0 0, .slice none 0 0] 75)).setCells w8.heap.size 0 ([.int .i64 id, .int .i64 0, .int .i64 0, .bool qr, .bool false, .bool false, .bool false, .bool false, .slice (some ⟨gq, 0, none⟩) nq cq, .slice none 0 0, .slice none 0 0, .slice none 0 0] : List Value).toArray.toList = w9 from by rw [hu1]; exact hw5)
             have hsz9 := hba.size
             obtain ⟨gM, hgO⟩ : ∃ z, w8.heap.size = z := ⟨_, rfl⟩
             have HG9 := Lib.hid hgO
             rw [hgO] at HM1
             clear hba y0 hu1 hw5 hgO hsz9
             have HP9 := Lib.hid (HP8.out.below hb9)
             have HOP9 := Lib.hid (HOP8.out.below hb9)
             have HW9' := Lib.hid (HW8.out.below hb9)
             have HQ9 := Lib.hid (HQ8.out.below hb9)
             have HQS := Lib.hid (show gq < w9.heap.size from Nat.lt_of_lt_of_le HQL.out hb9.size)
             have HGM := Lib.hid (show gM ∉ c ∧ gM ∉ d from ⟨fun e => by have := HP8.out.cd.lt gM e; have := HG9.out; omega, fun e => by have := HP8.out.dc.lt gM e; have := HG9.out; omega⟩)
             have HON := Lib.hid (show ∀ u ∈ ([.int .i64 id, .int .i64 0, .int .i64 0, .bool qr, .bool false, .bool false, .bool false, .bool false, .slice (some ⟨gq, 0, none⟩) nq cq, .slice none 0 0, .slice none 0 0, .slice none 0 0] : List Value), u.oneCell' = true from by simp [Value.oneCell'])
             clear hb9 HP8 HOP8 HW8 HQ8
             go_upto_region 23 with ((with_reducible show wpList _ _ _ (Oper.mk _ (Op.store _ _ _) _ _ _ _ :: _) _ _); refine wpList_store_mid rfl 75 (.tmp 19) (.tmp 140) rfl _ _ _ rfl rfl HTH9.out (by kernel_rfl) (all_oneCell_toArray HON.out) ?_; rw [HW9.out, HG9.out])
             clear HTH9 HW9 HG9 HON
             try simp only [Act.put]
             have hba := (Below.refl w9.heap.size w9).alloc (Nat.le_refl _) (.cells #[.int .i64 0, .int .i64 0, .string ⟨#[]⟩, .bool false] 69)
             have y0 := HeldT.new w9 #[.int .i64 0, .int .i64 0, .string ⟨#[]⟩, .bool false] 69
             obtain ⟨u1, hu1⟩ : ∃ z, w9.alloc (.cells #[.int .i64 0, .int .i64 0, .string ⟨#[]⟩, .bool false] 69) = z := ⟨_, rfl⟩
             rw [hu1] at hba y0
             have HTHA := Lib.hid (show (w9.alloc (.cells #[.int .i64 0, .int .i64 0, .string ⟨#[]⟩, .bool false] 69)).there w9.heap.size 0 ([.int .i64 ki, .int .i64 kp, .string kx, .bool kt] : List Value).toArray.size from by
               rw [hu1]
               intro j hj
               rw [Nat.zero_add]
               have hj9 : j < ([.int .i64 0, .int .i64 0, .string ⟨#[]⟩, .bool false] : List Value).length := by have h9 : j < ([.int .i64 ki, .int .i64 kp, .string kx, .bool kt] : List Value).length := hj; rw [show ([.int .i64 ki, .int .i64 kp, .string kx, .bool kt] : List Value).length = 4 from rfl] at h9; exact h9
               obtain ⟨u, hu⟩ : ∃ u, ([.int .i64 0, .int .i64 0, .string ⟨#[]⟩, .bool false] : List Value)[j]? = some u := ⟨_, List.getElem?_eq_getElem hj9⟩
               obtain ⟨h1, h2⟩ := y0.1 j u hu
               exact ⟨by rw [h1]; rfl, h2⟩)
             have HK1 := Lib.hid (show HeldT w9.heap.size [.int .i64 ki, .int .i64 kp, .string kx, .bool kt] (u1.setCells w9.heap.size 0 [.int .i64 ki, .int .i64 kp, .string kx, .bool kt]) from y0.into (by rw [show ([.int .i64 ki, .int .i64 kp, .string kx, .bool kt] : List Value).length = 4 from rfl]; rfl))
             have hbA := tb_sets hba (b := w9.heap.size) (Nat.le_refl _) 0 [.int .i64 ki, .int .i64 kp, .string kx, .bool kt]
             obtain ⟨wA, hw5⟩ : ∃ z, u1.setCells w9.heap.size 0 [.int .i64 ki, .int .i64 kp, .string kx, .bool kt] = z := ⟨_, rfl⟩
             rw [hw5] at HK1 hbA
             have HWA := Lib.hid (show (w9.alloc (.cells #[.int .i64 0, .int .i64 0, .string ⟨#[]⟩, .bool false] 69)).setCells w9.heap.size 0 ([.int .i64 ki, .int .i64 kp, .string kx, .bool kt] : List Value).toArray.toList = wA from by rw [hu1]; exact hw5)
             have hszA := hba.size
             obtain ⟨gK, hgO⟩ : ∃ z, w9.heap.size = z := ⟨_, rfl⟩
             have HGA := Lib.hid hgO
             rw [hgO] at HK1
             clear hba y0 hu1 hw5 hgO hszA
             have HPA := Lib.hid (HP9.out.below hbA)
             have HOPA := Lib.hid (HOP9.out.below hbA)
             have HMA := Lib.hid (HM1.out.below hbA)
             have HQA := Lib.hid (HQ9.out.below hbA)
             have HGK := Lib.hid (show gK ∉ c ∧ gK ∉ d ∧ w.heap.size ≤ gK ∧ gK ≠ gM ∧ gK ≠ gq ∧ gK ≠ gO from ⟨fun e => by have := HP9.out.cd.lt gK e; have := HGA.out; omega, fun e => by have := HP9.out.dc.lt gK e; have := HGA.out; omega, by rw [← HGA.out]; exact HP9.out.bel.size, by have := HM1.out.2; have := HGA.out; omega, by have h1 := HQS.out; have := HGA.out; omega, by have := HOP9.out.2; have := HGA.out; omega⟩)
             have HON := Lib.hid (show ∀ u ∈ ([.int .i64 ki, .int .i64 kp, .string kx, .bool kt] : List Value), u.oneCell' = true from by simp [Value.oneCell'])
             clear hbA HP9 HOP9 HM1 HQ9
             go_upto_region 24 with (first | ((with_reducible show wpList _ _ _ (Oper.mk _ (Op.load _ _) _ _ _ _ :: _) _ _); refine wpList_load_one rfl 3 (.tmp 142) rfl ⟨gW, 0, none⟩ rfl _ (HW9'.out.1 0 _ rfl).1 agg_int ?_) | ((with_reducible show wpList _ _ _ (Oper.mk _ (Op.load _ _) _ _ _ _ :: _) _ _); refine wpList_load_one rfl 3 (.tmp 145) rfl ⟨gW, 1, none⟩ rfl _ (HW9'.out.1 1 _ rfl).1 agg_int ?_) | ((with_reducible show wpList _ _ _ (Oper.mk _ (Op.load _ _) _ _ _ _ :: _) _ _); refine wpList_load_one rfl 9 (.tmp 148) rfl ⟨gW, 2, none⟩ rfl _ (HW9'.out.1 2 _ rfl).1 agg_str ?_) | ((with_reducible show wpList _ _ _ (Oper.mk _ (Op.load _ _) _ _ _ _ :: _) _ _); refine wpList_load_one rfl 4 (.tmp 151) rfl ⟨gW, 3, none⟩ rfl _ (HW9'.out.1 3 _ rfl).1 agg_bool ?_) | ((with_reducible show wpList _ _ _ (Oper.mk _ (Op.store _ _ _) _ _ _ _ :: _) _ _); refine wpList_store_mid rfl 69 (.tmp 20) (.tmp 153) rfl _ _ _ rfl rfl HTHA.out (by kernel_rfl) (all_oneCell_toArray HON.out) ?_; rw [HWA.out, HGA.out]))
             clear HTHA HWA HGA HON
             try simp only [Act.put]
             have x4 := (HOPA.out.1 4 _ HF4.out).1
             go_upto_if 156 with (fail)
             clear x4
             go_cut [] (fun wx => ∃ kp2 : Int, Hid (HeldT gK [.int .i64 ki, .int .i64 kp2, .string kx, .bool kt] wx) ∧ Hid (HeldT gM [.int .i64 id, .int .i64 0, .int .i64 0, .bool qr, .bool false, .bool false, .bool false, .bool false, .slice (some ⟨gq, 0, none⟩) nq cq, .slice none 0 0, .slice none 0 0, .slice none 0 0] wx) ∧ Hid (RowQs wx (some ⟨gq, 0, none⟩) nq Q) ∧ Hid (Pl w wx q p c d s s))
             case first =>
               by_cases g5 : nN = 5
               · have e5 : (nN == 5) = true := eT g5
                 clear g5
                 have k1 := (HK1.out.1 1 _ rfl).1
                 have kf := (HK1.out.1 1 _ rfl).2
                 obtain ⟨kp2, hkp2⟩ : ∃ z, IntKind.i64.wrap (kp + 1) = z := ⟨_, rfl⟩
                 have hfr := (Frm.refl wA [gK]).set gK 1 (Or.inl (by simp)) (.int .i64 kp2)
                 have HK2 := Lib.hid (show HeldT gK [.int .i64 ki, .int .i64 kp2, .string kx, .bool kt] (wA.setCell ⟨gK, 1, none⟩ (.int .i64 kp2)) from HK1.out.set (i := 1) (by simp) (.int .i64 kp2))
                 have HM2 := Lib.hid (HMA.out.frm hfr (by simp; exact fun e => HGK.out.2.2.2.1 e.symm))
                 have HQ2 := Lib.hid (HQA.out.frm hfr (fun b off e => by injection e with e; injection e with e; simp; exact fun e2 => HGK.out.2.2.2.2.1 (by omega)))
                 have HP2 := Lib.hid (HPA.out.frm hfr (fun b hb => by simp at hb; subst hb; exact ⟨HGK.out.1, HGK.out.2.1, HGK.out.2.2.1⟩))
                 clear hfr
                 go_wp2_with fail
                 go_meet
                 exact ⟨kp2, HK2, HM2, HQ2, HP2⟩
               · have e5 : (nN == 5) = false := eF g5
                 clear g5
                 go_wp2_with fail
                 go_meet
                 exact ⟨kp, HK1, HMA, HQA, HPA⟩
             obtain ⟨kp2, HK2, HM2, HQ2, HP2⟩ := hcut
             clear HK1 HMA HQA HPA HOPA HW9'
             obtain ⟨wB, hwB⟩ : ∃ z, wc = z := ⟨_, rfl⟩
             rw [hwB] at HK2 HM2 HQ2 HP2 ⊢
             clear hwB
             have HRK := Lib.hid (show wB.rangeAt gK 0 [.int .i64 ki, .int .i64 kp2, .string kx, .bool kt] from fun j v hj => by rw [Nat.zero_add]; exact (HK2.out.1 j v hj).1)
             have HRM := Lib.hid (show wB.rangeAt gM 0 [.int .i64 id, .int .i64 0, .int .i64 0, .bool qr, .bool false, .bool false, .bool false, .bool false, .slice (some ⟨gq, 0, none⟩) nq cq, .slice none 0 0, .slice none 0 0, .slice none 0 0] from fun j v hj => by rw [Nat.zero_add]; exact (HM2.out.1 j v hj).1)
             go_wp2_with (first | ((with_reducible show wpList _ _ _ (Oper.mk _ (Op.load _ _) _ _ _ _ :: _) _ _); refine wpList_load_mid rfl 69 (.tmp 20) rfl _ _ rfl _ _ HRK.out Try.underlying69 rfl (by kernel_rfl) ?_) | ((with_reducible show wpList _ _ _ (Oper.mk _ (Op.load _ _) _ _ _ _ :: _) _ _); refine wpList_load_mid rfl 75 (.tmp 19) rfl _ _ rfl _ _ HRM.out Try.underlying75 rfl (by kernel_rfl) ?_))
             refine (matchC_any c q s ki kp2 kx kt id 0 0 qr false false false false (some ⟨gq, 0, none⟩) none none none nq cq 0 0 0 0 0 0 Q wB HP2.out.cd (by omega) HQ2.out (by have := HNQ.out; omega)).mono ?_; rintro e wC ⟨r, ok, s2, rfl, hmx, hts, hfm⟩
             obtain ⟨⟨ri, rp, rx, rt⟩, ⟨rn, ry, rk⟩, rj, ru⟩ := r
             rw [show (encW ⟨⟨ri, rp, rx, rt⟩, ⟨rn, ry, rk⟩, rj, ru⟩).toArray = #[.int .i64 ri, .int .i64 rp, .string rx, .bool rt, .string rn, .int .i64 ry, .int .i64 rk, .int .i64 rj, .int .i64 ru] from rfl]
             have HMX := Lib.hid hmx
             have HP3 := Lib.hid (HP2.out.code hts (fun _ hx => Or.inl hx) hfm (fun _ hx => hx))
             have HK3 := Lib.hid (HK2.out.frm hfm HGK.out.1)
             have HM3 := Lib.hid (HM2.out.frm hfm HGM.out.1)
             have HQ3 := Lib.hid (HQ2.out.frm hfm (fun b off e => by injection e with e; injection e with e; rw [← e]; exact HGQ.out.1))
             clear hmx hts hfm HRK HRM HK2 HM2 HQ2 HP2
             have hba := (Below.refl wC.heap.size wC).alloc (Nat.le_refl _) (.cells #[.int .i64 0, .int .i64 0, .string ⟨#[]⟩, .bool false, .string ⟨#[]⟩, .int .i64 0, .int .i64 0, .int .i64 0, .int .i64 0] 79)
             have y0 := HeldT.new wC #[.int .i64 0, .int .i64 0, .string ⟨#[]⟩, .bool false, .string ⟨#[]⟩, .int .i64 0, .int .i64 0, .int .i64 0, .int .i64 0] 79
             obtain ⟨u1, hu1⟩ : ∃ z, wC.alloc (.cells #[.int .i64 0, .int .i64 0, .string ⟨#[]⟩, .bool false, .string ⟨#[]⟩, .int .i64 0, .int .i64 0, .int .i64 0, .int .i64 0] 79) = z := ⟨_, rfl⟩
             rw [hu1] at hba y0
             have HTHD := Lib.hid (show (wC.alloc (.cells #[.int .i64 0, .int .i64 0, .string ⟨#[]⟩, .bool false, .string ⟨#[]⟩, .int .i64 0, .int .i64 0, .int .i64 0, .int .i64 0] 79)).there wC.heap.size 0 ([.int .i64 ri, .int .i64 rp, .string rx, .bool rt, .string rn, .int .i64 ry, .int .i64 rk, .int .i64 rj, .int .i64 ru] : List Value).toArray.size from by
               rw [hu1]
               intro j hj
               rw [Nat.zero_add]
               have hj9 : j < ([.int .i64 0, .int .i64 0, .string ⟨#[]⟩, .bool false, .string ⟨#[]⟩, .int .i64 0, .int .i64 0, .int .i64 0, .int .i64 0] : List Value).length := by have h9 : j < ([.int .i64 ri, .int .i64 rp, .string rx, .bool rt, .string rn, .int .i64 ry, .int .i64 rk, .int .i64 rj, .int .i64 ru] : List Value).length := hj; rw [show ([.int .i64 ri, .int .i64 rp, .string rx, .bool rt, .string rn, .int .i64 ry, .int .i64 rk, .int .i64 rj, .int .i64 ru] : List Value).length = 9 from rfl] at h9; exact h9
               obtain ⟨u, hu⟩ : ∃ u, ([.int .i64 0, .int .i64 0, .string ⟨#[]⟩, .bool false, .string ⟨#[]⟩, .int .i64 0, .int .i64 0, .int .i64 0, .int .i64 0] : List Value)[j]? = some u := ⟨_, List.getElem?_eq_getElem hj9⟩
               obtain ⟨h1, h2⟩ := y0.1 j u hu
               exact ⟨by rw [h1]; rfl, h2⟩)
             have HA := Lib.hid (show HeldT wC.heap.size [.int .i64 ri, .int .i64 rp, .string rx, .bool rt, .string rn, .int .i64 ry, .int .i64 rk, .int .i64 rj, .int .i64 ru] (u1.setCells wC.heap.size 0 [.int .i64 ri, .int .i64 rp, .string rx, .bool rt, .string rn, .int .i64 ry, .int .i64 rk, .int .i64 rj, .int .i64 ru]) from y0.into (by rw [show ([.int .i64 ri, .int .i64 rp, .string rx, .bool rt, .string rn, .int .i64 ry, .int .i64 rk, .int .i64 rj, .int .i64 ru] : List Value).length = 9 from rfl]; rfl))
             have hbD := tb_sets hba (b := wC.heap.size) (Nat.le_refl _) 0 [.int .i64 ri, .int .i64 rp, .string rx, .bool rt, .string rn, .int .i64 ry, .int .i64 rk, .int .i64 rj, .int .i64 ru]
             obtain ⟨wD, hw5⟩ : ∃ z, u1.setCells wC.heap.size 0 [.int .i64 ri, .int .i64 rp, .string rx, .bool rt, .string rn, .int .i64 ry, .int .i64 rk, .int .i64 rj, .int .i64 ru] = z := ⟨_, rfl⟩
             rw [hw5] at HA hbD
             have HWD := Lib.hid (show (wC.alloc (.cells #[.int .i64 0, .int .i64 0, .string ⟨#[]⟩, .bool false, .string ⟨#[]⟩, .int .i64 0, .int .i64 0, .int .i64 0, .int .i64 0] 79)).setCells wC.heap.size 0 ([.int .i64 ri, .int .i64 rp, .string rx, .bool rt, .string rn, .int .i64 ry, .int .i64 rk, .int .i64 rj, .int .i64 ru] : List Value).toArray.toList = wD from by rw [hu1]; exact hw5)
             have hszD := hba.size
             obtain ⟨gA, hgO⟩ : ∃ z, wC.heap.size = z := ⟨_, rfl⟩
             have HGD := Lib.hid hgO
             rw [hgO] at HA
             clear hba y0 hu1 hw5 hgO hszD
             have HPC := Lib.hid (HP3.out.below hbD)
             have HK4 := Lib.hid (HK3.out.below hbD)
             have HM4 := Lib.hid (HM3.out.below hbD)
             have HQQ := Lib.hid (HQ3.out.below hbD)
             clear HM3 HQ3
             have HGAD := Lib.hid (show gA ∉ d from fun e => by have := HP3.out.dc.lt gA e; have := HGD.out; omega)
             have HON := Lib.hid (encW_one ⟨⟨ri, rp, rx, rt⟩, ⟨rn, ry, rk⟩, rj, ru⟩)
             clear hbD HP3 HK3
             go_upto_region 27 with ((with_reducible show wpList _ _ _ (Oper.mk _ (Op.store _ _ _) _ _ _ _ :: _) _ _); refine wpList_store_mid rfl 79 (.tmp 21) (.tmp 166) rfl _ _ _ rfl rfl HTHD.out (by kernel_rfl) (all_oneCell_toArray HON.out) ?_; rw [HWD.out, HGD.out])
             clear HTHD HWD HGD HON
             try simp only [Act.put]
             have HGD := Lib.hid (show gK ∉ d ∧ gM ∉ d ∧ gA ∉ d from ⟨HGK.out.2.1, HGM.out.2, HGAD.out⟩)
             have HSK := Lib.hid (show gK < wD.heap.size ∧ gM < wD.heap.size from ⟨HK4.out.2, HM4.out.2⟩)
             have HRK := Lib.hid (show wD.rangeAt gK 0 [.int .i64 ki, .int .i64 kp2, .string kx, .bool kt] from fun j v hj => by rw [Nat.zero_add]; exact (HK4.out.1 j v hj).1)
             have HRM := Lib.hid (show wD.rangeAt gM 0 [.int .i64 id, .int .i64 0, .int .i64 0, .bool qr, .bool false, .bool false, .bool false, .bool false, .slice (some ⟨gq, 0, none⟩) nq cq, .slice none 0 0, .slice none 0 0, .slice none 0 0] from fun j v hj => by rw [Nat.zero_add]; exact (HM4.out.1 j v hj).1)
             clear HK4 HM4
             go_cut [23, 24] (fun x v wx => ∃ (gB : Nat) (d2 : List Nat), x = .pointer (some ⟨gB, 0, none⟩) ∧ v = .bool ok ∧ Hid (Pl w wx q p c d2 s2 s2) ∧ Hid (HeldT gA [.int .i64 ri, .int .i64 rp, .string rx, .bool rt, .string rn, .int .i64 ry, .int .i64 rk, .int .i64 rj, .int .i64 ru] wx) ∧ Hid (HeldT gB [.int .i64 ri, .int .i64 rp, .string rx, .bool rt, .string rn, .int .i64 ry, .int .i64 rk, .int .i64 rj, .int .i64 ru] wx))
             case first =>
              as_aux_lemma =>
               refine wp_region_held_drew (S := (fun wx : World => wx.rangeAt gK 0 [.int .i64 ki, .int .i64 kp2, .string kx, .bool kt] ∧ wx.rangeAt gM 0 [.int .i64 id, .int .i64 0, .int .i64 0, .bool qr, .bool false, .bool false, .bool false, .bool false, .slice (some ⟨gq, 0, none⟩) nq cq, .slice none 0 0, .slice none 0 0, .slice none 0 0])) (by kernel_rfl) (⟨fun j v hj => cell_later (Below.refl _ _).drew (HRK.out j v hj), fun j v hj => cell_later (Below.refl _ _).drew (HRM.out j v hj)⟩) (fun hHeld => ?_)
               have hb := (Below.refl wD.heap.size wD).drew
               have HWS := Lib.hid hb.size
               replace HPC := Lib.hid (HPC.out.below hb)
               replace HA := Lib.hid (HA.out.below hb)
               replace HQQ := Lib.hid (HQQ.out.below hb)
               obtain ⟨z0, hwd⟩ : ∃ z, wD.drew = z := ⟨_, rfl⟩
               rw [hwd] at HWS HPC HA HQQ hHeld ⊢
               clear hwd hb
               refine wpAnyH_take (i := 0) (oi := { dst := some 169, op := Go.Op.move (Go.Operand.tmp 9), type := 62, pos := "law.go:110", after := #[], guard := none }) (v := ?v0_760101) rfl (by kernel_rfl) (by kernel_rfl) (by kernel_rfl) (fun _ _ _ h => h) (Or.inl ⟨by rfl, ?y0_760101⟩) hHeld ?r0_760101
               case y0_760101 => intro w hSw; (try dsimp only at hSw); go_simp; try with_reducible rfl
               try simp only [Act.put, List.setIfInBounds_toArray, List.set_cons_zero, List.set_cons_succ]
               refine wpAnyH_take (i := 1) (oi := { dst := some 170, op := Go.Op.load 69 (Go.Operand.tmp 20), type := 69, pos := "law.go:110", after := #[], guard := none }) (v := ?v1_760101) rfl (by kernel_rfl) (by kernel_rfl) (by kernel_rfl) (fun _ _ _ h => h) (Or.inl ⟨by rfl, ?y1_760101⟩) hHeld ?r1_760101
               case y1_760101 => intro w hSw; (try dsimp only at hSw); obtain ⟨s1, s2⟩ := hSw; have t0 : w.cell? ⟨gK, 0, none⟩ = some (.int .i64 ki) := s1 0 _ rfl; have t1 : w.cell? ⟨gK, 1, none⟩ = some (.int .i64 kp2) := s1 1 _ rfl; have t2 : w.cell? ⟨gK, 2, none⟩ = some (.string kx) := s1 2 _ rfl; have t3 : w.cell? ⟨gK, 3, none⟩ = some (.bool kt) := s1 3 _ rfl; clear s1 s2; go_simp; try with_reducible rfl
               try simp only [Act.put, List.setIfInBounds_toArray, List.set_cons_zero, List.set_cons_succ]
               refine wpAnyH_take (i := 3) (oi := { dst := some 172, op := Go.Op.load 75 (Go.Operand.tmp 19), type := 75, pos := "law.go:110", after := #[], guard := none }) (v := ?v3_760101) rfl (by kernel_rfl) (by kernel_rfl) (by kernel_rfl) (fun _ _ _ h => h) (Or.inl ⟨by rfl, ?y3_760101⟩) hHeld ?r3_760101
               case y3_760101 => intro w hSw; (try dsimp only at hSw); obtain ⟨s1, s2⟩ := hSw; have t0 : w.cell? ⟨gM, 0, none⟩ = some (.int .i64 id) := s2 0 _ rfl; have t1 : w.cell? ⟨gM, 1, none⟩ = some (.int .i64 0) := s2 1 _ rfl; have t2 : w.cell? ⟨gM, 2, none⟩ = some (.int .i64 0) := s2 2 _ rfl; have t3 : w.cell? ⟨gM, 3, none⟩ = some (.bool qr) := s2 3 _ rfl; have t4 : w.cell? ⟨gM, 4, none⟩ = some (.bool false) := s2 4 _ rfl; have t5 : w.cell? ⟨gM, 5, none⟩ = some (.bool false) := s2 5 _ rfl; have t6 : w.cell? ⟨gM, 6, none⟩ = some (.bool false) := s2 6 _ rfl; have t7 : w.cell? ⟨gM, 7, none⟩ = some (.bool false) := s2 7 _ rfl; have t8 : w.cell? ⟨gM, 8, none⟩ = some (.slice (some ⟨gq, 0, none⟩) nq cq) := s2 8 _ rfl; have t9 : w.cell? ⟨gM, 9, none⟩ = some (.slice none 0 0) := s2 9 _ rfl; have t10 : w.cell? ⟨gM, 10, none⟩ = some (.slice none 0 0) := s2 10 _ rfl; have t11 : w.cell? ⟨gM, 11, none⟩ = some (.slice none 0 0) := s2 11 _ rfl; clear s1 s2; go_simp; try with_reducible rfl
               try simp only [Act.put, List.setIfInBounds_toArray, List.set_cons_zero, List.set_cons_succ]
               refine wpAnyH_ready (rs := [2, 9]) (by kernel_rfl) (by simp) ?_
               refine AllReadyH.cons (o := { dst := some 171, op := Go.Op.call { callee := Go.Callee.value (Go.Operand.func 49), args := #[Go.Operand.tmp 170], argTypes := #[69] }, type := 82, pos := "law.go:110", after := #[{ on := 1, ground := Go.Ground.data }], guard := none }) rfl (fun K hK => ?_) (AllReadyH.cons (o := { dst := some 23, op := Go.Op.alloc 84, type := 0, pos := "law.go:110", after := #[], guard := none }) rfl (fun K hK => ?_) AllReadyH.nil)
               · go_simp
                 refine (markD_any ki kp2 kx kt z0).mono ?_; rintro e z1 ⟨rfl, hb⟩
                 have hnext : ((fun wx : World => wx.rangeAt gK 0 [.int .i64 ki, .int .i64 kp2, .string kx, .bool kt] ∧ wx.rangeAt gM 0 [.int .i64 id, .int .i64 0, .int .i64 0, .bool qr, .bool false, .bool false, .bool false, .bool false, .slice (some ⟨gq, 0, none⟩) nq cq, .slice none 0 0, .slice none 0 0, .slice none 0 0]) z1) := And.intro (fun j v hj => cell_later hb (hHeld.1 j v hj)) (fun j v hj => cell_later hb (hHeld.2 j v hj))
                 replace HPC := Lib.hid (HPC.out.below hb)
                 replace HA := Lib.hid (HA.out.below hb)
                 replace HQQ := Lib.hid (HQQ.out.below hb)
                 replace HWS := Lib.hid (Nat.le_trans HWS.out hb.size)
                 clear hb
                 refine hK.out _ _ (hnext) (fun hHeld2 => ?_)
                 clear hK K hHeld
                 have hHeld := hHeld2
                 clear hHeld2
                 try simp only [Act.put, List.setIfInBounds_toArray, List.set_cons_zero, List.set_cons_succ]
                 refine wpAnyH_ready (rs := [4, 9]) (by kernel_rfl) (by simp) ?_
                 refine AllReadyH.cons (o := { dst := some 173, op := Go.Op.call { callee := Go.Callee.value (Go.Operand.func 50), args := #[Go.Operand.tmp 172], argTypes := #[75] }, type := 99, pos := "law.go:110", after := #[{ on := 3, ground := Go.Ground.data }, { on := 2, ground := Go.Ground.chain }], guard := none }) rfl (fun K hK => ?_) (AllReadyH.cons (o := { dst := some 23, op := Go.Op.alloc 84, type := 0, pos := "law.go:110", after := #[], guard := none }) rfl (fun K hK => ?_) AllReadyH.nil)
                 · go_simp
                   refine (plainD_any id 0 0 qr false false false false (some ⟨gq, 0, none⟩) none none none nq cq 0 0 0 0 0 0 z1).mono ?_; rintro e z2 ⟨rfl, hb⟩
                   have hnext : ((fun wx : World => wx.rangeAt gK 0 [.int .i64 ki, .int .i64 kp2, .string kx, .bool kt] ∧ wx.rangeAt gM 0 [.int .i64 id, .int .i64 0, .int .i64 0, .bool qr, .bool false, .bool false, .bool false, .bool false, .slice (some ⟨gq, 0, none⟩) nq cq, .slice none 0 0, .slice none 0 0, .slice none 0 0]) z2) := And.intro (fun j v hj => cell_later hb (hHeld.1 j v hj)) (fun j v hj => cell_later hb (hHeld.2 j v hj))
                   replace HPC := Lib.hid (HPC.out.below hb)
                   replace HA := Lib.hid (HA.out.below hb)
                   replace HQQ := Lib.hid (HQQ.out.below hb)
                   replace HWS := Lib.hid (Nat.le_trans HWS.out hb.size)
                   clear hb
                   refine hK.out _ _ (hnext) (fun hHeld2 => ?_)
                   clear hK K hHeld
                   have hHeld := hHeld2
                   clear hHeld2
                   try simp only [Act.put, List.setIfInBounds_toArray, List.set_cons_zero, List.set_cons_succ]
                   refine wpAnyH_ready (rs := [5, 9]) (by kernel_rfl) (by simp) ?_
                   refine AllReadyH.cons (o := { dst := some 174, op := Go.Op.call { callee := Go.Callee.value (Go.Operand.func 48), args := #[Go.Operand.tmp 169, Go.Operand.tmp 171, Go.Operand.tmp 173], argTypes := #[62, 82, 99] }, type := 94, pos := "law.go:110", after := #[{ on := 0, ground := Go.Ground.data }, { on := 2, ground := Go.Ground.data }, { on := 4, ground := Go.Ground.data }, { on := 4, ground := Go.Ground.chain }], guard := none }) rfl (fun K hK => ?_) (AllReadyH.cons (o := { dst := some 23, op := Go.Op.alloc 84, type := 0, pos := "law.go:110", after := #[], guard := none }) rfl (fun K hK => ?_) AllReadyH.nil)
                   · go_simp
                     refine (matchDX_any d p s ki kp2 kx kt id 0 0 qr false false false false (some ⟨gq, 0, none⟩) none none none nq cq 0 0 0 0 0 0 Q z2 HPC.out.dc HI.out.ok (by omega) HQQ.out (by have := HNQ.out; omega)).mono ?_; rintro e z3 ⟨r9, ok9, s9, rfl, hmx9, ⟨d2, hs3, hd2⟩, hf3⟩
                     obtain ⟨rfl, rfl, rfl⟩ := hmx9.one HMX.out
                     rw [show (encW ⟨⟨ri, rp, rx, rt⟩, ⟨rn, ry, rk⟩, rj, ru⟩).toArray = #[.int .i64 ri, .int .i64 rp, .string rx, .bool rt, .string rn, .int .i64 ry, .int .i64 rk, .int .i64 rj, .int .i64 ru] from rfl]
                     replace HPC := Lib.hid (HPC.out.doc hs3 hd2 hf3 (fun _ hx => hx))
                     have hnext : ((fun wx : World => wx.rangeAt gK 0 [.int .i64 ki, .int .i64 kp2, .string kx, .bool kt] ∧ wx.rangeAt gM 0 [.int .i64 id, .int .i64 0, .int .i64 0, .bool qr, .bool false, .bool false, .bool false, .bool false, .slice (some ⟨gq, 0, none⟩) nq cq, .slice none 0 0, .slice none 0 0, .slice none 0 0]) z3) := And.intro (fun j v hj => hf3.cellT (hHeld.1 j v hj) HGD.out.1) (fun j v hj => hf3.cellT (hHeld.2 j v hj) HGD.out.2.1)
                     replace HA := Lib.hid (HA.out.frm hf3 HGD.out.2.2)
                     replace HWS := Lib.hid (Nat.le_trans HWS.out hf3.size)
                     clear hmx9 hs3 hd2 hf3
                     refine hK.out _ _ (hnext) (fun hHeld2 => ?_)
                     clear hK K hHeld
                     have hHeld := hHeld2
                     clear hHeld2
                     try simp only [Act.put, List.setIfInBounds_toArray, List.set_cons_zero, List.set_cons_succ]
                     refine wpAnyH_take (i := 6) (oi := { dst := some 168, op := Go.Op.move (Go.Operand.tmp 174), type := 94, pos := "law.go:110", after := #[{ on := 5, ground := Go.Ground.data }], guard := none }) (v := ?v6_760104) rfl (by kernel_rfl) (by kernel_rfl) (by kernel_rfl) (fun _ _ _ h => h) (Or.inl ⟨by rfl, ?y6_760104⟩) hHeld ?r6_760104
                     case y6_760104 => intro w hSw; (try dsimp only at hSw); go_simp; try with_reducible rfl
                     try simp only [Act.put, List.setIfInBounds_toArray, List.set_cons_zero, List.set_cons_succ]
                     refine wpAnyH_take (i := 7) (oi := { dst := some 175, op := Go.Op.extract (Go.Operand.tmp 168) 0, type := 84, pos := "law.go:110", after := #[{ on := 6, ground := Go.Ground.data }], guard := none }) (v := ?v7_760104) rfl (by kernel_rfl) (by kernel_rfl) (by kernel_rfl) (fun _ _ _ h => h) (Or.inl ⟨by rfl, ?y7_760104⟩) hHeld ?r7_760104
                     case y7_760104 => intro w hSw; (try dsimp only at hSw); go_simp; try with_reducible rfl
                     try simp only [Act.put, List.setIfInBounds_toArray, List.set_cons_zero, List.set_cons_succ]
                     refine wpAnyH_take (i := 8) (oi := { dst := some 176, op := Go.Op.extract (Go.Operand.tmp 168) 1, type := 4, pos := "law.go:110", after := #[{ on := 6, ground := Go.Ground.data }, { on := 10, ground := Go.Ground.gcOnly Go.Departure.lateStores }], guard := none }) (v := ?v8_760104) rfl (by kernel_rfl) (by kernel_rfl) (by kernel_rfl) (fun _ _ _ h => h) (Or.inl ⟨by rfl, ?y8_760104⟩) hHeld ?r8_760104
                     case y8_760104 => intro w hSw; (try dsimp only at hSw); go_simp; try with_reducible rfl
                     try simp only [Act.put, List.setIfInBounds_toArray, List.set_cons_zero, List.set_cons_succ]
                     refine wpAnyH_ready (rs := [9]) (by kernel_rfl) (by simp) ?_
                     refine AllReadyH.cons (o := { dst := some 23, op := Go.Op.alloc 84, type := 0, pos := "law.go:110", after := #[], guard := none }) rfl (fun K hK => ?_) AllReadyH.nil
                     go_simp
                     have hal := (Below.refl z3.heap.size z3).alloc (Nat.le_refl _) (.cells #[.int .i64 0, .int .i64 0, .string ⟨#[]⟩, .bool false, .string ⟨#[]⟩, .int .i64 0, .int .i64 0, .int .i64 0, .int .i64 0] 84)
                     have hnext : ((fun wx : World => wx.rangeAt gK 0 [.int .i64 ki, .int .i64 kp2, .string kx, .bool kt] ∧ wx.rangeAt gM 0 [.int .i64 id, .int .i64 0, .int .i64 0, .bool qr, .bool false, .bool false, .bool false, .bool false, .slice (some ⟨gq, 0, none⟩) nq cq, .slice none 0 0, .slice none 0 0, .slice none 0 0]) _) := And.intro (fun j v hj => cell_later hal (hHeld.1 j v hj)) (fun j v hj => cell_later hal (hHeld.2 j v hj))
                     have HZ := Lib.hid (HeldT.new z3 #[.int .i64 0, .int .i64 0, .string ⟨#[]⟩, .bool false, .string ⟨#[]⟩, .int .i64 0, .int .i64 0, .int .i64 0, .int .i64 0] 84)
                     have HGB := Lib.hid (show (gA < z3.heap.size ∧ gK < z3.heap.size ∧ gM < z3.heap.size ∧ w.heap.size ≤ z3.heap.size) ∧ z3.heap.size ∉ c ∧ z3.heap.size ∉ d2 from ⟨⟨HA.out.2, Nat.lt_of_lt_of_le HSK.out.1 HWS.out, Nat.lt_of_lt_of_le HSK.out.2 HWS.out, HPC.out.bel.size⟩, fun e => by have := HPC.out.cd.lt _ e; omega, fun e => by have := HPC.out.dc.lt _ e; omega⟩)
                     replace HPC := Lib.hid (HPC.out.below hal)
                     replace HA := Lib.hid (HA.out.below hal)
                     replace HWS := Lib.hid (Nat.le_trans HWS.out hal.size)
                     obtain ⟨z4, hwf⟩ : ∃ z, z3.alloc (.cells #[.int .i64 0, .int .i64 0, .string ⟨#[]⟩, .bool false, .string ⟨#[]⟩, .int .i64 0, .int .i64 0, .int .i64 0, .int .i64 0] 84) = z := ⟨_, rfl⟩
                     obtain ⟨gB, hgb⟩ : ∃ z, z3.heap.size = z := ⟨_, rfl⟩
                     rw [hwf] at hnext HWS HPC HA HZ ⊢
                     rw [hgb] at HZ HGB ⊢
                     have HZL := Lib.hid HZ.out.2
                     clear hwf hgb hal
                     have HGC2 := Lib.hid HGB.out.2.2
                     refine hK.out _ _ (hnext) (fun hHeld2 => ?_)
                     clear hK K hHeld
                     have hHeld := hHeld2
                     clear hHeld2
                     try simp only [Act.put, List.setIfInBounds_toArray, List.set_cons_zero, List.set_cons_succ]
                     refine wpAnyH_ready (rs := [10]) (by kernel_rfl) (by simp) ?_
                     refine AllReadyH.cons (o := { dst := none, op := Go.Op.store 84 (Go.Operand.tmp 23) (Go.Operand.tmp 175), type := 0, pos := "law.go:110", after := #[{ on := 9, ground := Go.Ground.data }, { on := 7, ground := Go.Ground.data }, { on := 5, ground := Go.Ground.chain }, { on := 0, ground := Go.Ground.phase }, { on := 1, ground := Go.Ground.phase }, { on := 2, ground := Go.Ground.phase }, { on := 3, ground := Go.Ground.phase }, { on := 4, ground := Go.Ground.phase }, { on := 5, ground := Go.Ground.phase }, { on := 6, ground := Go.Ground.phase }, { on := 7, ground := Go.Ground.phase }, { on := 8, ground := Go.Ground.textOnly Go.Departure.lateStores }, { on := 9, ground := Go.Ground.phase }], guard := none }) rfl (fun K hK => ?_) AllReadyH.nil
                     refine step_store_mid (by rfl) 84 (.tmp 23) (.tmp 175) (by rfl) gB 0 #[.int .i64 ri, .int .i64 rp, .string rx, .bool rt, .string rn, .int .i64 ry, .int .i64 rk, .int .i64 rj, .int .i64 ru] (by rfl) (by rfl) (fun j hj => by obtain ⟨u, hu⟩ : ∃ u, ([.int .i64 0, .int .i64 0, .string ⟨#[]⟩, .bool false, .string ⟨#[]⟩, .int .i64 0, .int .i64 0, .int .i64 0, .int .i64 0] : List Value)[j]? = some u := ⟨_, List.getElem?_eq_getElem (show j < List.length [.int .i64 0, .int .i64 0, .string ⟨#[]⟩, .bool false, .string ⟨#[]⟩, .int .i64 0, .int .i64 0, .int .i64 0, .int .i64 0] from hj)⟩; obtain ⟨h1, h2⟩ := HZ.out.1 j u hu; rw [Nat.zero_add]; exact ⟨by rw [h1]; rfl, h2⟩) (by kernel_rfl) (all_oneCell_toArray (encW_one ⟨⟨ri, rp, rx, rt⟩, ⟨rn, ry, rk⟩, rj, ru⟩)) ?_
                     simp only [Act.put]
                     have HBb := Lib.hid (show HeldT gB [.int .i64 ri, .int .i64 rp, .string rx, .bool rt, .string rn, .int .i64 ry, .int .i64 rk, .int .i64 rj, .int .i64 ru] (z4.setCells gB 0 [.int .i64 ri, .int .i64 rp, .string rx, .bool rt, .string rn, .int .i64 ry, .int .i64 rk, .int .i64 rj, .int .i64 ru]) from HZ.out.into rfl)
                     have hfr := (Frm.refl z4 [gB]).sets gB 0 (Or.inl (by simp)) [.int .i64 ri, .int .i64 rp, .string rx, .bool rt, .string rn, .int .i64 ry, .int .i64 rk, .int .i64 rj, .int .i64 ru]
                     have hnext : ((fun wx : World => wx.rangeAt gK 0 [.int .i64 ki, .int .i64 kp2, .string kx, .bool kt] ∧ wx.rangeAt gM 0 [.int .i64 id, .int .i64 0, .int .i64 0, .bool qr, .bool false, .bool false, .bool false, .bool false, .slice (some ⟨gq, 0, none⟩) nq cq, .slice none 0 0, .slice none 0 0, .slice none 0 0]) _) := And.intro (fun j v hj => hfr.cellT (hHeld.1 j v hj) (by simp; have := HGB.out.1; omega)) (fun j v hj => hfr.cellT (hHeld.2 j v hj) (by simp; have := HGB.out.1; omega))
                     replace HA := Lib.hid (HA.out.frm hfr (by simp; have := HGB.out.1; omega))
                     replace HPC := Lib.hid (HPC.out.frm hfr (fun b hb => by simp at hb; subst hb; exact ⟨HGB.out.2.1, HGC2.out, HGB.out.1.2.2.2⟩))
                     obtain ⟨z5, hwh⟩ : ∃ z, z4.setCells gB 0 [.int .i64 ri, .int .i64 rp, .string rx, .bool rt, .string rn, .int .i64 ry, .int .i64 rk, .int .i64 rj, .int .i64 ru] = z := ⟨_, rfl⟩
                     rw [hwh] at HBb hnext HA HPC
                     rw [show z4.setCells gB 0 (#[.int .i64 ri, .int .i64 rp, .string rx, .bool rt, .string rn, .int .i64 ry, .int .i64 rk, .int .i64 rj, .int .i64 ru] : Array Value).toList = z5 from hwh]
                     clear hwh hfr HZ
                     refine hK.out _ _ (hnext) (fun hHeld2 => ?_)
                     clear hK K hHeld
                     have hHeld := hHeld2
                     clear hHeld2
                     try simp only [Act.put, List.setIfInBounds_toArray, List.set_cons_zero, List.set_cons_succ]
                     refine wpAnyH_take (i := 11) (oi := { dst := some 24, op := Go.Op.assign (Go.Operand.tmp 176), type := 4, pos := "law.go:110", after := #[{ on := 8, ground := Go.Ground.data }, { on := 10, ground := Go.Ground.chain }, { on := 0, ground := Go.Ground.phase }, { on := 1, ground := Go.Ground.phase }, { on := 2, ground := Go.Ground.phase }, { on := 3, ground := Go.Ground.phase }, { on := 4, ground := Go.Ground.phase }, { on := 5, ground := Go.Ground.phase }, { on := 6, ground := Go.Ground.phase }, { on := 7, ground := Go.Ground.phase }, { on := 8, ground := Go.Ground.phase }, { on := 9, ground := Go.Ground.phase }, { on := 10, ground := Go.Ground.phase }], guard := none }) (v := ?v11_760106) rfl (by kernel_rfl) (by kernel_rfl) (by kernel_rfl) (fun _ _ _ h => h) (Or.inl ⟨by rfl, ?y11_760106⟩) hHeld ?r11_760106
                     case y11_760106 => intro w hSw; (try dsimp only at hSw); go_simp; try with_reducible rfl
                     try simp only [Act.put, List.setIfInBounds_toArray, List.set_cons_zero, List.set_cons_succ]
                     refine wpAnyH_done (by kernel_rfl) ?_ _
                     go_wp2_with fail
                     go_meet
                     exact ⟨gB, d2, rfl, rfl, HPC, HA, HBb⟩
                   · go_simp
                     have hal := (Below.refl z2.heap.size z2).alloc (Nat.le_refl _) (.cells #[.int .i64 0, .int .i64 0, .string ⟨#[]⟩, .bool false, .string ⟨#[]⟩, .int .i64 0, .int .i64 0, .int .i64 0, .int .i64 0] 84)
                     have hnext : ((fun wx : World => wx.rangeAt gK 0 [.int .i64 ki, .int .i64 kp2, .string kx, .bool kt] ∧ wx.rangeAt gM 0 [.int .i64 id, .int .i64 0, .int .i64 0, .bool qr, .bool false, .bool false, .bool false, .bool false, .slice (some ⟨gq, 0, none⟩) nq cq, .slice none 0 0, .slice none 0 0, .slice none 0 0]) _) := And.intro (fun j v hj => cell_later hal (hHeld.1 j v hj)) (fun j v hj => cell_later hal (hHeld.2 j v hj))
                     have HZ := Lib.hid (HeldT.new z2 #[.int .i64 0, .int .i64 0, .string ⟨#[]⟩, .bool false, .string ⟨#[]⟩, .int .i64 0, .int .i64 0, .int .i64 0, .int .i64 0] 84)
                     have HGB := Lib.hid (show (gA < z2.heap.size ∧ gK < z2.heap.size ∧ gM < z2.heap.size ∧ w.heap.size ≤ z2.heap.size) ∧ z2.heap.size ∉ c ∧ z2.heap.size ∉ d from ⟨⟨HA.out.2, Nat.lt_of_lt_of_le HSK.out.1 HWS.out, Nat.lt_of_lt_of_le HSK.out.2 HWS.out, HPC.out.bel.size⟩, fun e => by have := HPC.out.cd.lt _ e; omega, fun e => by have := HPC.out.dc.lt _ e; omega⟩)
                     replace HPC := Lib.hid (HPC.out.below hal)
                     replace HA := Lib.hid (HA.out.below hal)
                     replace HQQ := Lib.hid (HQQ.out.below hal)
                     replace HWS := Lib.hid (Nat.le_trans HWS.out hal.size)
                     obtain ⟨z3, hwf⟩ : ∃ z, z2.alloc (.cells #[.int .i64 0, .int .i64 0, .string ⟨#[]⟩, .bool false, .string ⟨#[]⟩, .int .i64 0, .int .i64 0, .int .i64 0, .int .i64 0] 84) = z := ⟨_, rfl⟩
                     obtain ⟨gB, hgb⟩ : ∃ z, z2.heap.size = z := ⟨_, rfl⟩
                     rw [hwf] at hnext HWS HPC HA HZ HQQ ⊢
                     rw [hgb] at HZ HGB ⊢
                     have HZL := Lib.hid HZ.out.2
                     clear hwf hgb hal
                     refine hK.out _ _ (hnext) (fun hHeld2 => ?_)
                     clear hK K hHeld
                     have hHeld := hHeld2
                     clear hHeld2
                     try simp only [Act.put, List.setIfInBounds_toArray, List.set_cons_zero, List.set_cons_succ]
                     refine wpAnyH_ready (rs := [5]) (by kernel_rfl) (by simp) ?_
                     refine AllReadyH.cons (o := { dst := some 174, op := Go.Op.call { callee := Go.Callee.value (Go.Operand.func 48), args := #[Go.Operand.tmp 169, Go.Operand.tmp 171, Go.Operand.tmp 173], argTypes := #[62, 82, 99] }, type := 94, pos := "law.go:110", after := #[{ on := 0, ground := Go.Ground.data }, { on := 2, ground := Go.Ground.data }, { on := 4, ground := Go.Ground.data }, { on := 4, ground := Go.Ground.chain }], guard := none }) rfl (fun K hK => ?_) AllReadyH.nil
                     go_simp
                     refine (matchDX_any d p s ki kp2 kx kt id 0 0 qr false false false false (some ⟨gq, 0, none⟩) none none none nq cq 0 0 0 0 0 0 Q z3 HPC.out.dc HI.out.ok (by omega) HQQ.out (by have := HNQ.out; omega)).mono ?_; rintro e z4 ⟨r9, ok9, s9, rfl, hmx9, ⟨d2, hs3, hd2⟩, hf3⟩
                     obtain ⟨rfl, rfl, rfl⟩ := hmx9.one HMX.out
                     rw [show (encW ⟨⟨ri, rp, rx, rt⟩, ⟨rn, ry, rk⟩, rj, ru⟩).toArray = #[.int .i64 ri, .int .i64 rp, .string rx, .bool rt, .string rn, .int .i64 ry, .int .i64 rk, .int .i64 rj, .int .i64 ru] from rfl]
                     replace HPC := Lib.hid (HPC.out.doc hs3 hd2 hf3 (fun _ hx => hx))
                     have hnext : ((fun wx : World => wx.rangeAt gK 0 [.int .i64 ki, .int .i64 kp2, .string kx, .bool kt] ∧ wx.rangeAt gM 0 [.int .i64 id, .int .i64 0, .int .i64 0, .bool qr, .bool false, .bool false, .bool false, .bool false, .slice (some ⟨gq, 0, none⟩) nq cq, .slice none 0 0, .slice none 0 0, .slice none 0 0]) z4) := And.intro (fun j v hj => hf3.cellT (hHeld.1 j v hj) HGD.out.1) (fun j v hj => hf3.cellT (hHeld.2 j v hj) HGD.out.2.1)
                     replace HA := Lib.hid (HA.out.frm hf3 HGD.out.2.2)
                     have HGC2 := Lib.hid (show gB ∉ d2 from out_of hd2 HGB.out.2.2 HZ.out.2)
                     replace HZ := Lib.hid (HZ.out.frm hf3 HGB.out.2.2)
                     replace HWS := Lib.hid (Nat.le_trans HWS.out hf3.size)
                     clear hmx9 hs3 hd2 hf3
                     refine hK.out _ _ (hnext) (fun hHeld2 => ?_)
                     clear hK K hHeld
                     have hHeld := hHeld2
                     clear hHeld2
                     try simp only [Act.put, List.setIfInBounds_toArray, List.set_cons_zero, List.set_cons_succ]
                     refine wpAnyH_take (i := 6) (oi := { dst := some 168, op := Go.Op.move (Go.Operand.tmp 174), type := 94, pos := "law.go:110", after := #[{ on := 5, ground := Go.Ground.data }], guard := none }) (v := ?v6_760108) rfl (by kernel_rfl) (by kernel_rfl) (by kernel_rfl) (fun _ _ _ h => h) (Or.inl ⟨by rfl, ?y6_760108⟩) hHeld ?r6_760108
                     case y6_760108 => intro w hSw; (try dsimp only at hSw); go_simp; try with_reducible rfl
                     try simp only [Act.put, List.setIfInBounds_toArray, List.set_cons_zero, List.set_cons_succ]
                     refine wpAnyH_take (i := 7) (oi := { dst := some 175, op := Go.Op.extract (Go.Operand.tmp 168) 0, type := 84, pos := "law.go:110", after := #[{ on := 6, ground := Go.Ground.data }], guard := none }) (v := ?v7_760108) rfl (by kernel_rfl) (by kernel_rfl) (by kernel_rfl) (fun _ _ _ h => h) (Or.inl ⟨by rfl, ?y7_760108⟩) hHeld ?r7_760108
                     case y7_760108 => intro w hSw; (try dsimp only at hSw); go_simp; try with_reducible rfl
                     try simp only [Act.put, List.setIfInBounds_toArray, List.set_cons_zero, List.set_cons_succ]
                     refine wpAnyH_take (i := 8) (oi := { dst := some 176, op := Go.Op.extract (Go.Operand.tmp 168) 1, type := 4, pos := "law.go:110", after := #[{ on := 6, ground := Go.Ground.data }, { on := 10, ground := Go.Ground.gcOnly Go.Departure.lateStores }], guard := none }) (v := ?v8_760108) rfl (by kernel_rfl) (by kernel_rfl) (by kernel_rfl) (fun _ _ _ h => h) (Or.inl ⟨by rfl, ?y8_760108⟩) hHeld ?r8_760108
                     case y8_760108 => intro w hSw; (try dsimp only at hSw); go_simp; try with_reducible rfl
                     try simp only [Act.put, List.setIfInBounds_toArray, List.set_cons_zero, List.set_cons_succ]
                     refine wpAnyH_ready (rs := [10]) (by kernel_rfl) (by simp) ?_
                     refine AllReadyH.cons (o := { dst := none, op := Go.Op.store 84 (Go.Operand.tmp 23) (Go.Operand.tmp 175), type := 0, pos := "law.go:110", after := #[{ on := 9, ground := Go.Ground.data }, { on := 7, ground := Go.Ground.data }, { on := 5, ground := Go.Ground.chain }, { on := 0, ground := Go.Ground.phase }, { on := 1, ground := Go.Ground.phase }, { on := 2, ground := Go.Ground.phase }, { on := 3, ground := Go.Ground.phase }, { on := 4, ground := Go.Ground.phase }, { on := 5, ground := Go.Ground.phase }, { on := 6, ground := Go.Ground.phase }, { on := 7, ground := Go.Ground.phase }, { on := 8, ground := Go.Ground.textOnly Go.Departure.lateStores }, { on := 9, ground := Go.Ground.phase }], guard := none }) rfl (fun K hK => ?_) AllReadyH.nil
                     refine step_store_mid (by rfl) 84 (.tmp 23) (.tmp 175) (by rfl) gB 0 #[.int .i64 ri, .int .i64 rp, .string rx, .bool rt, .string rn, .int .i64 ry, .int .i64 rk, .int .i64 rj, .int .i64 ru] (by rfl) (by rfl) (fun j hj => by obtain ⟨u, hu⟩ : ∃ u, ([.int .i64 0, .int .i64 0, .string ⟨#[]⟩, .bool false, .string ⟨#[]⟩, .int .i64 0, .int .i64 0, .int .i64 0, .int .i64 0] : List Value)[j]? = some u := ⟨_, List.getElem?_eq_getElem (show j < List.length [.int .i64 0, .int .i64 0, .string ⟨#[]⟩, .bool false, .string ⟨#[]⟩, .int .i64 0, .int .i64 0, .int .i64 0, .int .i64 0] from hj)⟩; obtain ⟨h1, h2⟩ := HZ.out.1 j u hu; rw [Nat.zero_add]; exact ⟨by rw [h1]; rfl, h2⟩) (by kernel_rfl) (all_oneCell_toArray (encW_one ⟨⟨ri, rp, rx, rt⟩, ⟨rn, ry, rk⟩, rj, ru⟩)) ?_
                     simp only [Act.put]
                     have HBb := Lib.hid (show HeldT gB [.int .i64 ri, .int .i64 rp, .string rx, .bool rt, .string rn, .int .i64 ry, .int .i64 rk, .int .i64 rj, .int .i64 ru] (z4.setCells gB 0 [.int .i64 ri, .int .i64 rp, .string rx, .bool rt, .string rn, .int .i64 ry, .int .i64 rk, .int .i64 rj, .int .i64 ru]) from HZ.out.into rfl)
                     have hfr := (Frm.refl z4 [gB]).sets gB 0 (Or.inl (by simp)) [.int .i64 ri, .int .i64 rp, .string rx, .bool rt, .string rn, .int .i64 ry, .int .i64 rk, .int .i64 rj, .int .i64 ru]
                     have hnext : ((fun wx : World => wx.rangeAt gK 0 [.int .i64 ki, .int .i64 kp2, .string kx, .bool kt] ∧ wx.rangeAt gM 0 [.int .i64 id, .int .i64 0, .int .i64 0, .bool qr, .bool false, .bool false, .bool false, .bool false, .slice (some ⟨gq, 0, none⟩) nq cq, .slice none 0 0, .slice none 0 0, .slice none 0 0]) _) := And.intro (fun j v hj => hfr.cellT (hHeld.1 j v hj) (by simp; have := HGB.out.1; omega)) (fun j v hj => hfr.cellT (hHeld.2 j v hj) (by simp; have := HGB.out.1; omega))
                     replace HA := Lib.hid (HA.out.frm hfr (by simp; have := HGB.out.1; omega))
                     replace HPC := Lib.hid (HPC.out.frm hfr (fun b hb => by simp at hb; subst hb; exact ⟨HGB.out.2.1, HGC2.out, HGB.out.1.2.2.2⟩))
                     obtain ⟨z5, hwh⟩ : ∃ z, z4.setCells gB 0 [.int .i64 ri, .int .i64 rp, .string rx, .bool rt, .string rn, .int .i64 ry, .int .i64 rk, .int .i64 rj, .int .i64 ru] = z := ⟨_, rfl⟩
                     rw [hwh] at HBb hnext HA HPC
                     rw [show z4.setCells gB 0 (#[.int .i64 ri, .int .i64 rp, .string rx, .bool rt, .string rn, .int .i64 ry, .int .i64 rk, .int .i64 rj, .int .i64 ru] : Array Value).toList = z5 from hwh]
                     clear hwh hfr HZ
                     refine hK.out _ _ (hnext) (fun hHeld2 => ?_)
                     clear hK K hHeld
                     have hHeld := hHeld2
                     clear hHeld2
                     try simp only [Act.put, List.setIfInBounds_toArray, List.set_cons_zero, List.set_cons_succ]
                     refine wpAnyH_take (i := 11) (oi := { dst := some 24, op := Go.Op.assign (Go.Operand.tmp 176), type := 4, pos := "law.go:110", after := #[{ on := 8, ground := Go.Ground.data }, { on := 10, ground := Go.Ground.chain }, { on := 0, ground := Go.Ground.phase }, { on := 1, ground := Go.Ground.phase }, { on := 2, ground := Go.Ground.phase }, { on := 3, ground := Go.Ground.phase }, { on := 4, ground := Go.Ground.phase }, { on := 5, ground := Go.Ground.phase }, { on := 6, ground := Go.Ground.phase }, { on := 7, ground := Go.Ground.phase }, { on := 8, ground := Go.Ground.phase }, { on := 9, ground := Go.Ground.phase }, { on := 10, ground := Go.Ground.phase }], guard := none }) (v := ?v11_760109) rfl (by kernel_rfl) (by kernel_rfl) (by kernel_rfl) (fun _ _ _ h => h) (Or.inl ⟨by rfl, ?y11_760109⟩) hHeld ?r11_760109
                     case y11_760109 => intro w hSw; (try dsimp only at hSw); go_simp; try with_reducible rfl
                     try simp only [Act.put, List.setIfInBounds_toArray, List.set_cons_zero, List.set_cons_succ]
                     refine wpAnyH_done (by kernel_rfl) ?_ _
                     go_wp2_with fail
                     go_meet
                     exact ⟨gB, d2, rfl, rfl, HPC, HA, HBb⟩
                 · go_simp
                   have hal := (Below.refl z1.heap.size z1).alloc (Nat.le_refl _) (.cells #[.int .i64 0, .int .i64 0, .string ⟨#[]⟩, .bool false, .string ⟨#[]⟩, .int .i64 0, .int .i64 0, .int .i64 0, .int .i64 0] 84)
                   have hnext : ((fun wx : World => wx.rangeAt gK 0 [.int .i64 ki, .int .i64 kp2, .string kx, .bool kt] ∧ wx.rangeAt gM 0 [.int .i64 id, .int .i64 0, .int .i64 0, .bool qr, .bool false, .bool false, .bool false, .bool false, .slice (some ⟨gq, 0, none⟩) nq cq, .slice none 0 0, .slice none 0 0, .slice none 0 0]) _) := And.intro (fun j v hj => cell_later hal (hHeld.1 j v hj)) (fun j v hj => cell_later hal (hHeld.2 j v hj))
                   have HZ := Lib.hid (HeldT.new z1 #[.int .i64 0, .int .i64 0, .string ⟨#[]⟩, .bool false, .string ⟨#[]⟩, .int .i64 0, .int .i64 0, .int .i64 0, .int .i64 0] 84)
                   have HGB := Lib.hid (show (gA < z1.heap.size ∧ gK < z1.heap.size ∧ gM < z1.heap.size ∧ w.heap.size ≤ z1.heap.size) ∧ z1.heap.size ∉ c ∧ z1.heap.size ∉ d from ⟨⟨HA.out.2, Nat.lt_of_lt_of_le HSK.out.1 HWS.out, Nat.lt_of_lt_of_le HSK.out.2 HWS.out, HPC.out.bel.size⟩, fun e => by have := HPC.out.cd.lt _ e; omega, fun e => by have := HPC.out.dc.lt _ e; omega⟩)
                   replace HPC := Lib.hid (HPC.out.below hal)
                   replace HA := Lib.hid (HA.out.below hal)
                   replace HQQ := Lib.hid (HQQ.out.below hal)
                   replace HWS := Lib.hid (Nat.le_trans HWS.out hal.size)
                   obtain ⟨z2, hwf⟩ : ∃ z, z1.alloc (.cells #[.int .i64 0, .int .i64 0, .string ⟨#[]⟩, .bool false, .string ⟨#[]⟩, .int .i64 0, .int .i64 0, .int .i64 0, .int .i64 0] 84) = z := ⟨_, rfl⟩
                   obtain ⟨gB, hgb⟩ : ∃ z, z1.heap.size = z := ⟨_, rfl⟩
                   rw [hwf] at hnext HWS HPC HA HZ HQQ ⊢
                   rw [hgb] at HZ HGB ⊢
                   have HZL := Lib.hid HZ.out.2
                   clear hwf hgb hal
                   refine hK.out _ _ (hnext) (fun hHeld2 => ?_)
                   clear hK K hHeld
                   have hHeld := hHeld2
                   clear hHeld2
                   try simp only [Act.put, List.setIfInBounds_toArray, List.set_cons_zero, List.set_cons_succ]
                   refine wpAnyH_ready (rs := [4]) (by kernel_rfl) (by simp) ?_
                   refine AllReadyH.cons (o := { dst := some 173, op := Go.Op.call { callee := Go.Callee.value (Go.Operand.func 50), args := #[Go.Operand.tmp 172], argTypes := #[75] }, type := 99, pos := "law.go:110", after := #[{ on := 3, ground := Go.Ground.data }, { on := 2, ground := Go.Ground.chain }], guard := none }) rfl (fun K hK => ?_) AllReadyH.nil
                   go_simp
                   refine (plainD_any id 0 0 qr false false false false (some ⟨gq, 0, none⟩) none none none nq cq 0 0 0 0 0 0 z2).mono ?_; rintro e z3 ⟨rfl, hb⟩
                   have hnext : ((fun wx : World => wx.rangeAt gK 0 [.int .i64 ki, .int .i64 kp2, .string kx, .bool kt] ∧ wx.rangeAt gM 0 [.int .i64 id, .int .i64 0, .int .i64 0, .bool qr, .bool false, .bool false, .bool false, .bool false, .slice (some ⟨gq, 0, none⟩) nq cq, .slice none 0 0, .slice none 0 0, .slice none 0 0]) z3) := And.intro (fun j v hj => cell_later hb (hHeld.1 j v hj)) (fun j v hj => cell_later hb (hHeld.2 j v hj))
                   replace HPC := Lib.hid (HPC.out.below hb)
                   replace HA := Lib.hid (HA.out.below hb)
                   replace HQQ := Lib.hid (HQQ.out.below hb)
                   replace HZ := Lib.hid (HZ.out.below hb)
                   replace HWS := Lib.hid (Nat.le_trans HWS.out hb.size)
                   clear hb
                   refine hK.out _ _ (hnext) (fun hHeld2 => ?_)
                   clear hK K hHeld
                   have hHeld := hHeld2
                   clear hHeld2
                   try simp only [Act.put, List.setIfInBounds_toArray, List.set_cons_zero, List.set_cons_succ]
                   refine wpAnyH_ready (rs := [5]) (by kernel_rfl) (by simp) ?_
                   refine AllReadyH.cons (o := { dst := some 174, op := Go.Op.call { callee := Go.Callee.value (Go.Operand.func 48), args := #[Go.Operand.tmp 169, Go.Operand.tmp 171, Go.Operand.tmp 173], argTypes := #[62, 82, 99] }, type := 94, pos := "law.go:110", after := #[{ on := 0, ground := Go.Ground.data }, { on := 2, ground := Go.Ground.data }, { on := 4, ground := Go.Ground.data }, { on := 4, ground := Go.Ground.chain }], guard := none }) rfl (fun K hK => ?_) AllReadyH.nil
                   go_simp
                   refine (matchDX_any d p s ki kp2 kx kt id 0 0 qr false false false false (some ⟨gq, 0, none⟩) none none none nq cq 0 0 0 0 0 0 Q z3 HPC.out.dc HI.out.ok (by omega) HQQ.out (by have := HNQ.out; omega)).mono ?_; rintro e z4 ⟨r9, ok9, s9, rfl, hmx9, ⟨d2, hs3, hd2⟩, hf3⟩
                   obtain ⟨rfl, rfl, rfl⟩ := hmx9.one HMX.out
                   rw [show (encW ⟨⟨ri, rp, rx, rt⟩, ⟨rn, ry, rk⟩, rj, ru⟩).toArray = #[.int .i64 ri, .int .i64 rp, .string rx, .bool rt, .string rn, .int .i64 ry, .int .i64 rk, .int .i64 rj, .int .i64 ru] from rfl]
                   replace HPC := Lib.hid (HPC.out.doc hs3 hd2 hf3 (fun _ hx => hx))
                   have hnext : ((fun wx : World => wx.rangeAt gK 0 [.int .i64 ki, .int .i64 kp2, .string kx, .bool kt] ∧ wx.rangeAt gM 0 [.int .i64 id, .int .i64 0, .int .i64 0, .bool qr, .bool false, .bool false, .bool false, .bool false, .slice (some ⟨gq, 0, none⟩) nq cq, .slice none 0 0, .slice none 0 0, .slice none 0 0]) z4) := And.intro (fun j v hj => hf3.cellT (hHeld.1 j v hj) HGD.out.1) (fun j v hj => hf3.cellT (hHeld.2 j v hj) HGD.out.2.1)
                   replace HA := Lib.hid (HA.out.frm hf3 HGD.out.2.2)
                   have HGC2 := Lib.hid (show gB ∉ d2 from out_of hd2 HGB.out.2.2 HZ.out.2)
                   replace HZ := Lib.hid (HZ.out.frm hf3 HGB.out.2.2)
                   replace HWS := Lib.hid (Nat.le_trans HWS.out hf3.size)
                   clear hmx9 hs3 hd2 hf3
                   refine hK.out _ _ (hnext) (fun hHeld2 => ?_)
                   clear hK K hHeld
                   have hHeld := hHeld2
                   clear hHeld2
                   try simp only [Act.put, List.setIfInBounds_toArray, List.set_cons_zero, List.set_cons_succ]
                   refine wpAnyH_take (i := 6) (oi := { dst := some 168, op := Go.Op.move (Go.Operand.tmp 174), type := 94, pos := "law.go:110", after := #[{ on := 5, ground := Go.Ground.data }], guard := none }) (v := ?v6_760112) rfl (by kernel_rfl) (by kernel_rfl) (by kernel_rfl) (fun _ _ _ h => h) (Or.inl ⟨by rfl, ?y6_760112⟩) hHeld ?r6_760112
                   case y6_760112 => intro w hSw; (try dsimp only at hSw); go_simp; try with_reducible rfl
                   try simp only [Act.put, List.setIfInBounds_toArray, List.set_cons_zero, List.set_cons_succ]
                   refine wpAnyH_take (i := 7) (oi := { dst := some 175, op := Go.Op.extract (Go.Operand.tmp 168) 0, type := 84, pos := "law.go:110", after := #[{ on := 6, ground := Go.Ground.data }], guard := none }) (v := ?v7_760112) rfl (by kernel_rfl) (by kernel_rfl) (by kernel_rfl) (fun _ _ _ h => h) (Or.inl ⟨by rfl, ?y7_760112⟩) hHeld ?r7_760112
                   case y7_760112 => intro w hSw; (try dsimp only at hSw); go_simp; try with_reducible rfl
                   try simp only [Act.put, List.setIfInBounds_toArray, List.set_cons_zero, List.set_cons_succ]
                   refine wpAnyH_take (i := 8) (oi := { dst := some 176, op := Go.Op.extract (Go.Operand.tmp 168) 1, type := 4, pos := "law.go:110", after := #[{ on := 6, ground := Go.Ground.data }, { on := 10, ground := Go.Ground.gcOnly Go.Departure.lateStores }], guard := none }) (v := ?v8_760112) rfl (by kernel_rfl) (by kernel_rfl) (by kernel_rfl) (fun _ _ _ h => h) (Or.inl ⟨by rfl, ?y8_760112⟩) hHeld ?r8_760112
                   case y8_760112 => intro w hSw; (try dsimp only at hSw); go_simp; try with_reducible rfl
                   try simp only [Act.put, List.setIfInBounds_toArray, List.set_cons_zero, List.set_cons_succ]
                   refine wpAnyH_ready (rs := [10]) (by kernel_rfl) (by simp) ?_
                   refine AllReadyH.cons (o := { dst := none, op := Go.Op.store 84 (Go.Operand.tmp 23) (Go.Operand.tmp 175), type := 0, pos := "law.go:110", after := #[{ on := 9, ground := Go.Ground.data }, { on := 7, ground := Go.Ground.data }, { on := 5, ground := Go.Ground.chain }, { on := 0, ground := Go.Ground.phase }, { on := 1, ground := Go.Ground.phase }, { on := 2, ground := Go.Ground.phase }, { on := 3, ground := Go.Ground.phase }, { on := 4, ground := Go.Ground.phase }, { on := 5, ground := Go.Ground.phase }, { on := 6, ground := Go.Ground.phase }, { on := 7, ground := Go.Ground.phase }, { on := 8, ground := Go.Ground.textOnly Go.Departure.lateStores }, { on := 9, ground := Go.Ground.phase }], guard := none }) rfl (fun K hK => ?_) AllReadyH.nil
                   refine step_store_mid (by rfl) 84 (.tmp 23) (.tmp 175) (by rfl) gB 0 #[.int .i64 ri, .int .i64 rp, .string rx, .bool rt, .string rn, .int .i64 ry, .int .i64 rk, .int .i64 rj, .int .i64 ru] (by rfl) (by rfl) (fun j hj => by obtain ⟨u, hu⟩ : ∃ u, ([.int .i64 0, .int .i64 0, .string ⟨#[]⟩, .bool false, .string ⟨#[]⟩, .int .i64 0, .int .i64 0, .int .i64 0, .int .i64 0] : List Value)[j]? = some u := ⟨_, List.getElem?_eq_getElem (show j < List.length [.int .i64 0, .int .i64 0, .string ⟨#[]⟩, .bool false, .string ⟨#[]⟩, .int .i64 0, .int .i64 0, .int .i64 0, .int .i64 0] from hj)⟩; obtain ⟨h1, h2⟩ := HZ.out.1 j u hu; rw [Nat.zero_add]; exact ⟨by rw [h1]; rfl, h2⟩) (by kernel_rfl) (all_oneCell_toArray (encW_one ⟨⟨ri, rp, rx, rt⟩, ⟨rn, ry, rk⟩, rj, ru⟩)) ?_
                   simp only [Act.put]
                   have HBb := Lib.hid (show HeldT gB [.int .i64 ri, .int .i64 rp, .string rx, .bool rt, .string rn, .int .i64 ry, .int .i64 rk, .int .i64 rj, .int .i64 ru] (z4.setCells gB 0 [.int .i64 ri, .int .i64 rp, .string rx, .bool rt, .string rn, .int .i64 ry, .int .i64 rk, .int .i64 rj, .int .i64 ru]) from HZ.out.into rfl)
                   have hfr := (Frm.refl z4 [gB]).sets gB 0 (Or.inl (by simp)) [.int .i64 ri, .int .i64 rp, .string rx, .bool rt, .string rn, .int .i64 ry, .int .i64 rk, .int .i64 rj, .int .i64 ru]
                   have hnext : ((fun wx : World => wx.rangeAt gK 0 [.int .i64 ki, .int .i64 kp2, .string kx, .bool kt] ∧ wx.rangeAt gM 0 [.int .i64 id, .int .i64 0, .int .i64 0, .bool qr, .bool false, .bool false, .bool false, .bool false, .slice (some ⟨gq, 0, none⟩) nq cq, .slice none 0 0, .slice none 0 0, .slice none 0 0]) _) := And.intro (fun j v hj => hfr.cellT (hHeld.1 j v hj) (by simp; have := HGB.out.1; omega)) (fun j v hj => hfr.cellT (hHeld.2 j v hj) (by simp; have := HGB.out.1; omega))
                   replace HA := Lib.hid (HA.out.frm hfr (by simp; have := HGB.out.1; omega))
                   replace HPC := Lib.hid (HPC.out.frm hfr (fun b hb => by simp at hb; subst hb; exact ⟨HGB.out.2.1, HGC2.out, HGB.out.1.2.2.2⟩))
                   obtain ⟨z5, hwh⟩ : ∃ z, z4.setCells gB 0 [.int .i64 ri, .int .i64 rp, .string rx, .bool rt, .string rn, .int .i64 ry, .int .i64 rk, .int .i64 rj, .int .i64 ru] = z := ⟨_, rfl⟩
                   rw [hwh] at HBb hnext HA HPC
                   rw [show z4.setCells gB 0 (#[.int .i64 ri, .int .i64 rp, .string rx, .bool rt, .string rn, .int .i64 ry, .int .i64 rk, .int .i64 rj, .int .i64 ru] : Array Value).toList = z5 from hwh]
                   clear hwh hfr HZ
                   refine hK.out _ _ (hnext) (fun hHeld2 => ?_)
                   clear hK K hHeld
                   have hHeld := hHeld2
                   clear hHeld2
                   try simp only [Act.put, List.setIfInBounds_toArray, List.set_cons_zero, List.set_cons_succ]
                   refine wpAnyH_take (i := 11) (oi := { dst := some 24, op := Go.Op.assign (Go.Operand.tmp 176), type := 4, pos := "law.go:110", after := #[{ on := 8, ground := Go.Ground.data }, { on := 10, ground := Go.Ground.chain }, { on := 0, ground := Go.Ground.phase }, { on := 1, ground := Go.Ground.phase }, { on := 2, ground := Go.Ground.phase }, { on := 3, ground := Go.Ground.phase }, { on := 4, ground := Go.Ground.phase }, { on := 5, ground := Go.Ground.phase }, { on := 6, ground := Go.Ground.phase }, { on := 7, ground := Go.Ground.phase }, { on := 8, ground := Go.Ground.phase }, { on := 9, ground := Go.Ground.phase }, { on := 10, ground := Go.Ground.phase }], guard := none }) (v := ?v11_760113) rfl (by kernel_rfl) (by kernel_rfl) (by kernel_rfl) (fun _ _ _ h => h) (Or.inl ⟨by rfl, ?y11_760113⟩) hHeld ?r11_760113
                   case y11_760113 => intro w hSw; (try dsimp only at hSw); go_simp; try with_reducible rfl
                   try simp only [Act.put, List.setIfInBounds_toArray, List.set_cons_zero, List.set_cons_succ]
                   refine wpAnyH_done (by kernel_rfl) ?_ _
                   go_wp2_with fail
                   go_meet
                   exact ⟨gB, d2, rfl, rfl, HPC, HA, HBb⟩
               · go_simp
                 have hal := (Below.refl z0.heap.size z0).alloc (Nat.le_refl _) (.cells #[.int .i64 0, .int .i64 0, .string ⟨#[]⟩, .bool false, .string ⟨#[]⟩, .int .i64 0, .int .i64 0, .int .i64 0, .int .i64 0] 84)
                 have hnext : ((fun wx : World => wx.rangeAt gK 0 [.int .i64 ki, .int .i64 kp2, .string kx, .bool kt] ∧ wx.rangeAt gM 0 [.int .i64 id, .int .i64 0, .int .i64 0, .bool qr, .bool false, .bool false, .bool false, .bool false, .slice (some ⟨gq, 0, none⟩) nq cq, .slice none 0 0, .slice none 0 0, .slice none 0 0]) _) := And.intro (fun j v hj => cell_later hal (hHeld.1 j v hj)) (fun j v hj => cell_later hal (hHeld.2 j v hj))
                 have HZ := Lib.hid (HeldT.new z0 #[.int .i64 0, .int .i64 0, .string ⟨#[]⟩, .bool false, .string ⟨#[]⟩, .int .i64 0, .int .i64 0, .int .i64 0, .int .i64 0] 84)
                 have HGB := Lib.hid (show (gA < z0.heap.size ∧ gK < z0.heap.size ∧ gM < z0.heap.size ∧ w.heap.size ≤ z0.heap.size) ∧ z0.heap.size ∉ c ∧ z0.heap.size ∉ d from ⟨⟨HA.out.2, Nat.lt_of_lt_of_le HSK.out.1 HWS.out, Nat.lt_of_lt_of_le HSK.out.2 HWS.out, HPC.out.bel.size⟩, fun e => by have := HPC.out.cd.lt _ e; omega, fun e => by have := HPC.out.dc.lt _ e; omega⟩)
                 replace HPC := Lib.hid (HPC.out.below hal)
                 replace HA := Lib.hid (HA.out.below hal)
                 replace HQQ := Lib.hid (HQQ.out.below hal)
                 replace HWS := Lib.hid (Nat.le_trans HWS.out hal.size)
                 obtain ⟨z1, hwf⟩ : ∃ z, z0.alloc (.cells #[.int .i64 0, .int .i64 0, .string ⟨#[]⟩, .bool false, .string ⟨#[]⟩, .int .i64 0, .int .i64 0, .int .i64 0, .int .i64 0] 84) = z := ⟨_, rfl⟩
                 obtain ⟨gB, hgb⟩ : ∃ z, z0.heap.size = z := ⟨_, rfl⟩
                 rw [hwf] at hnext HWS HPC HA HZ HQQ ⊢
                 rw [hgb] at HZ HGB ⊢
                 have HZL := Lib.hid HZ.out.2
                 clear hwf hgb hal
                 refine hK.out _ _ (hnext) (fun hHeld2 => ?_)
                 clear hK K hHeld
                 have hHeld := hHeld2
                 clear hHeld2
                 try simp only [Act.put, List.setIfInBounds_toArray, List.set_cons_zero, List.set_cons_succ]
                 refine wpAnyH_ready (rs := [2]) (by kernel_rfl) (by simp) ?_
                 refine AllReadyH.cons (o := { dst := some 171, op := Go.Op.call { callee := Go.Callee.value (Go.Operand.func 49), args := #[Go.Operand.tmp 170], argTypes := #[69] }, type := 82, pos := "law.go:110", after := #[{ on := 1, ground := Go.Ground.data }], guard := none }) rfl (fun K hK => ?_) AllReadyH.nil
                 go_simp
                 refine (markD_any ki kp2 kx kt z1).mono ?_; rintro e z2 ⟨rfl, hb⟩
                 have hnext : ((fun wx : World => wx.rangeAt gK 0 [.int .i64 ki, .int .i64 kp2, .string kx, .bool kt] ∧ wx.rangeAt gM 0 [.int .i64 id, .int .i64 0, .int .i64 0, .bool qr, .bool false, .bool false, .bool false, .bool false, .slice (some ⟨gq, 0, none⟩) nq cq, .slice none 0 0, .slice none 0 0, .slice none 0 0]) z2) := And.intro (fun j v hj => cell_later hb (hHeld.1 j v hj)) (fun j v hj => cell_later hb (hHeld.2 j v hj))
                 replace HPC := Lib.hid (HPC.out.below hb)
                 replace HA := Lib.hid (HA.out.below hb)
                 replace HQQ := Lib.hid (HQQ.out.below hb)
                 replace HZ := Lib.hid (HZ.out.below hb)
                 replace HWS := Lib.hid (Nat.le_trans HWS.out hb.size)
                 clear hb
                 refine hK.out _ _ (hnext) (fun hHeld2 => ?_)
                 clear hK K hHeld
                 have hHeld := hHeld2
                 clear hHeld2
                 try simp only [Act.put, List.setIfInBounds_toArray, List.set_cons_zero, List.set_cons_succ]
                 refine wpAnyH_ready (rs := [4]) (by kernel_rfl) (by simp) ?_
                 refine AllReadyH.cons (o := { dst := some 173, op := Go.Op.call { callee := Go.Callee.value (Go.Operand.func 50), args := #[Go.Operand.tmp 172], argTypes := #[75] }, type := 99, pos := "law.go:110", after := #[{ on := 3, ground := Go.Ground.data }, { on := 2, ground := Go.Ground.chain }], guard := none }) rfl (fun K hK => ?_) AllReadyH.nil
                 go_simp
                 refine (plainD_any id 0 0 qr false false false false (some ⟨gq, 0, none⟩) none none none nq cq 0 0 0 0 0 0 z2).mono ?_; rintro e z3 ⟨rfl, hb⟩
                 have hnext : ((fun wx : World => wx.rangeAt gK 0 [.int .i64 ki, .int .i64 kp2, .string kx, .bool kt] ∧ wx.rangeAt gM 0 [.int .i64 id, .int .i64 0, .int .i64 0, .bool qr, .bool false, .bool false, .bool false, .bool false, .slice (some ⟨gq, 0, none⟩) nq cq, .slice none 0 0, .slice none 0 0, .slice none 0 0]) z3) := And.intro (fun j v hj => cell_later hb (hHeld.1 j v hj)) (fun j v hj => cell_later hb (hHeld.2 j v hj))
                 replace HPC := Lib.hid (HPC.out.below hb)
                 replace HA := Lib.hid (HA.out.below hb)
                 replace HQQ := Lib.hid (HQQ.out.below hb)
                 replace HZ := Lib.hid (HZ.out.below hb)
                 replace HWS := Lib.hid (Nat.le_trans HWS.out hb.size)
                 clear hb
                 refine hK.out _ _ (hnext) (fun hHeld2 => ?_)
                 clear hK K hHeld
                 have hHeld := hHeld2
                 clear hHeld2
                 try simp only [Act.put, List.setIfInBounds_toArray, List.set_cons_zero, List.set_cons_succ]
                 refine wpAnyH_ready (rs := [5]) (by kernel_rfl) (by simp) ?_
                 refine AllReadyH.cons (o := { dst := some 174, op := Go.Op.call { callee := Go.Callee.value (Go.Operand.func 48), args := #[Go.Operand.tmp 169, Go.Operand.tmp 171, Go.Operand.tmp 173], argTypes := #[62, 82, 99] }, type := 94, pos := "law.go:110", after := #[{ on := 0, ground := Go.Ground.data }, { on := 2, ground := Go.Ground.data }, { on := 4, ground := Go.Ground.data }, { on := 4, ground := Go.Ground.chain }], guard := none }) rfl (fun K hK => ?_) AllReadyH.nil
                 go_simp
                 refine (matchDX_any d p s ki kp2 kx kt id 0 0 qr false false false false (some ⟨gq, 0, none⟩) none none none nq cq 0 0 0 0 0 0 Q z3 HPC.out.dc HI.out.ok (by omega) HQQ.out (by have := HNQ.out; omega)).mono ?_; rintro e z4 ⟨r9, ok9, s9, rfl, hmx9, ⟨d2, hs3, hd2⟩, hf3⟩
                 obtain ⟨rfl, rfl, rfl⟩ := hmx9.one HMX.out
                 rw [show (encW ⟨⟨ri, rp, rx, rt⟩, ⟨rn, ry, rk⟩, rj, ru⟩).toArray = #[.int .i64 ri, .int .i64 rp, .string rx, .bool rt, .string rn, .int .i64 ry, .int .i64 rk, .int .i64 rj, .int .i64 ru] from rfl]
                 replace HPC := Lib.hid (HPC.out.doc hs3 hd2 hf3 (fun _ hx => hx))
                 have hnext : ((fun wx : World => wx.rangeAt gK 0 [.int .i64 ki, .int .i64 kp2, .string kx, .bool kt] ∧ wx.rangeAt gM 0 [.int .i64 id, .int .i64 0, .int .i64 0, .bool qr, .bool false, .bool false, .bool false, .bool false, .slice (some ⟨gq, 0, none⟩) nq cq, .slice none 0 0, .slice none 0 0, .slice none 0 0]) z4) := And.intro (fun j v hj => hf3.cellT (hHeld.1 j v hj) HGD.out.1) (fun j v hj => hf3.cellT (hHeld.2 j v hj) HGD.out.2.1)
                 replace HA := Lib.hid (HA.out.frm hf3 HGD.out.2.2)
                 have HGC2 := Lib.hid (show gB ∉ d2 from out_of hd2 HGB.out.2.2 HZ.out.2)
                 replace HZ := Lib.hid (HZ.out.frm hf3 HGB.out.2.2)
                 replace HWS := Lib.hid (Nat.le_trans HWS.out hf3.size)
                 clear hmx9 hs3 hd2 hf3
                 refine hK.out _ _ (hnext) (fun hHeld2 => ?_)
                 clear hK K hHeld
                 have hHeld := hHeld2
                 clear hHeld2
                 try simp only [Act.put, List.setIfInBounds_toArray, List.set_cons_zero, List.set_cons_succ]
                 refine wpAnyH_take (i := 6) (oi := { dst := some 168, op := Go.Op.move (Go.Operand.tmp 174), type := 94, pos := "law.go:110", after := #[{ on := 5, ground := Go.Ground.data }], guard := none }) (v := ?v6_760117) rfl (by kernel_rfl) (by kernel_rfl) (by kernel_rfl) (fun _ _ _ h => h) (Or.inl ⟨by rfl, ?y6_760117⟩) hHeld ?r6_760117
                 case y6_760117 => intro w hSw; (try dsimp only at hSw); go_simp; try with_reducible rfl
                 try simp only [Act.put, List.setIfInBounds_toArray, List.set_cons_zero, List.set_cons_succ]
                 refine wpAnyH_take (i := 7) (oi := { dst := some 175, op := Go.Op.extract (Go.Operand.tmp 168) 0, type := 84, pos := "law.go:110", after := #[{ on := 6, ground := Go.Ground.data }], guard := none }) (v := ?v7_760117) rfl (by kernel_rfl) (by kernel_rfl) (by kernel_rfl) (fun _ _ _ h => h) (Or.inl ⟨by rfl, ?y7_760117⟩) hHeld ?r7_760117
                 case y7_760117 => intro w hSw; (try dsimp only at hSw); go_simp; try with_reducible rfl
                 try simp only [Act.put, List.setIfInBounds_toArray, List.set_cons_zero, List.set_cons_succ]
                 refine wpAnyH_take (i := 8) (oi := { dst := some 176, op := Go.Op.extract (Go.Operand.tmp 168) 1, type := 4, pos := "law.go:110", after := #[{ on := 6, ground := Go.Ground.data }, { on := 10, ground := Go.Ground.gcOnly Go.Departure.lateStores }], guard := none }) (v := ?v8_760117) rfl (by kernel_rfl) (by kernel_rfl) (by kernel_rfl) (fun _ _ _ h => h) (Or.inl ⟨by rfl, ?y8_760117⟩) hHeld ?r8_760117
                 case y8_760117 => intro w hSw; (try dsimp only at hSw); go_simp; try with_reducible rfl
                 try simp only [Act.put, List.setIfInBounds_toArray, List.set_cons_zero, List.set_cons_succ]
                 refine wpAnyH_ready (rs := [10]) (by kernel_rfl) (by simp) ?_
                 refine AllReadyH.cons (o := { dst := none, op := Go.Op.store 84 (Go.Operand.tmp 23) (Go.Operand.tmp 175), type := 0, pos := "law.go:110", after := #[{ on := 9, ground := Go.Ground.data }, { on := 7, ground := Go.Ground.data }, { on := 5, ground := Go.Ground.chain }, { on := 0, ground := Go.Ground.phase }, { on := 1, ground := Go.Ground.phase }, { on := 2, ground := Go.Ground.phase }, { on := 3, ground := Go.Ground.phase }, { on := 4, ground := Go.Ground.phase }, { on := 5, ground := Go.Ground.phase }, { on := 6, ground := Go.Ground.phase }, { on := 7, ground := Go.Ground.phase }, { on := 8, ground := Go.Ground.textOnly Go.Departure.lateStores }, { on := 9, ground := Go.Ground.phase }], guard := none }) rfl (fun K hK => ?_) AllReadyH.nil
                 refine step_store_mid (by rfl) 84 (.tmp 23) (.tmp 175) (by rfl) gB 0 #[.int .i64 ri, .int .i64 rp, .string rx, .bool rt, .string rn, .int .i64 ry, .int .i64 rk, .int .i64 rj, .int .i64 ru] (by rfl) (by rfl) (fun j hj => by obtain ⟨u, hu⟩ : ∃ u, ([.int .i64 0, .int .i64 0, .string ⟨#[]⟩, .bool false, .string ⟨#[]⟩, .int .i64 0, .int .i64 0, .int .i64 0, .int .i64 0] : List Value)[j]? = some u := ⟨_, List.getElem?_eq_getElem (show j < List.length [.int .i64 0, .int .i64 0, .string ⟨#[]⟩, .bool false, .string ⟨#[]⟩, .int .i64 0, .int .i64 0, .int .i64 0, .int .i64 0] from hj)⟩; obtain ⟨h1, h2⟩ := HZ.out.1 j u hu; rw [Nat.zero_add]; exact ⟨by rw [h1]; rfl, h2⟩) (by kernel_rfl) (all_oneCell_toArray (encW_one ⟨⟨ri, rp, rx, rt⟩, ⟨rn, ry, rk⟩, rj, ru⟩)) ?_
                 simp only [Act.put]
                 have HBb := Lib.hid (show HeldT gB [.int .i64 ri, .int .i64 rp, .string rx, .bool rt, .string rn, .int .i64 ry, .int .i64 rk, .int .i64 rj, .int .i64 ru] (z4.setCells gB 0 [.int .i64 ri, .int .i64 rp, .string rx, .bool rt, .string rn, .int .i64 ry, .int .i64 rk, .int .i64 rj, .int .i64 ru]) from HZ.out.into rfl)
                 have hfr := (Frm.refl z4 [gB]).sets gB 0 (Or.inl (by simp)) [.int .i64 ri, .int .i64 rp, .string rx, .bool rt, .string rn, .int .i64 ry, .int .i64 rk, .int .i64 rj, .int .i64 ru]
                 have hnext : ((fun wx : World => wx.rangeAt gK 0 [.int .i64 ki, .int .i64 kp2, .string kx, .bool kt] ∧ wx.rangeAt gM 0 [.int .i64 id, .int .i64 0, .int .i64 0, .bool qr, .bool false, .bool false, .bool false, .bool false, .slice (some ⟨gq, 0, none⟩) nq cq, .slice none 0 0, .slice none 0 0, .slice none 0 0]) _) := And.intro (fun j v hj => hfr.cellT (hHeld.1 j v hj) (by simp; have := HGB.out.1; omega)) (fun j v hj => hfr.cellT (hHeld.2 j v hj) (by simp; have := HGB.out.1; omega))
                 replace HA := Lib.hid (HA.out.frm hfr (by simp; have := HGB.out.1; omega))
                 replace HPC := Lib.hid (HPC.out.frm hfr (fun b hb => by simp at hb; subst hb; exact ⟨HGB.out.2.1, HGC2.out, HGB.out.1.2.2.2⟩))
                 obtain ⟨z5, hwh⟩ : ∃ z, z4.setCells gB 0 [.int .i64 ri, .int .i64 rp, .string rx, .bool rt, .string rn, .int .i64 ry, .int .i64 rk, .int .i64 rj, .int .i64 ru] = z := ⟨_, rfl⟩
                 rw [hwh] at HBb hnext HA HPC
                 rw [show z4.setCells gB 0 (#[.int .i64 ri, .int .i64 rp, .string rx, .bool rt, .string rn, .int .i64 ry, .int .i64 rk, .int .i64 rj, .int .i64 ru] : Array Value).toList = z5 from hwh]
                 clear hwh hfr HZ
                 refine hK.out _ _ (hnext) (fun hHeld2 => ?_)
                 clear hK K hHeld
                 have hHeld := hHeld2
                 clear hHeld2
                 try simp only [Act.put, List.setIfInBounds_toArray, List.set_cons_zero, List.set_cons_succ]
                 refine wpAnyH_take (i := 11) (oi := { dst := some 24, op := Go.Op.assign (Go.Operand.tmp 176), type := 4, pos := "law.go:110", after := #[{ on := 8, ground := Go.Ground.data }, { on := 10, ground := Go.Ground.chain }, { on := 0, ground := Go.Ground.phase }, { on := 1, ground := Go.Ground.phase }, { on := 2, ground := Go.Ground.phase }, { on := 3, ground := Go.Ground.phase }, { on := 4, ground := Go.Ground.phase }, { on := 5, ground := Go.Ground.phase }, { on := 6, ground := Go.Ground.phase }, { on := 7, ground := Go.Ground.phase }, { on := 8, ground := Go.Ground.phase }, { on := 9, ground := Go.Ground.phase }, { on := 10, ground := Go.Ground.phase }], guard := none }) (v := ?v11_760118) rfl (by kernel_rfl) (by kernel_rfl) (by kernel_rfl) (fun _ _ _ h => h) (Or.inl ⟨by rfl, ?y11_760118⟩) hHeld ?r11_760118
                 case y11_760118 => intro w hSw; (try dsimp only at hSw); go_simp; try with_reducible rfl
                 try simp only [Act.put, List.setIfInBounds_toArray, List.set_cons_zero, List.set_cons_succ]
                 refine wpAnyH_done (by kernel_rfl) ?_ _
                 go_wp2_with fail
                 go_meet
                 exact ⟨gB, d2, rfl, rfl, HPC, HA, HBb⟩
             obtain ⟨gB, d2, rfl, rfl, HPE, HA9, HBb⟩ := hcut
             clear HPC HA HRK HRM HQQ HGD HSK
             obtain ⟨wE, hwE⟩ : ∃ z, wc = z := ⟨_, rfl⟩
             rw [hwE] at HPE HA9 HBb ⊢
             clear hwE
             have hrw := fun W => rw_eql ri rp rx rt rn ry rk rj ru W
             have HI2 := Lib.hid (HI.out.mx HMX.out)
             go_upto_region 28 with (fail)
             have hee : (ok == ok) = true := by simp
             as_aux_lemma =>
              refine wp_region_held_drew (S := (fun wx => HeldT gA [.int .i64 ri, .int .i64 rp, .string rx, .bool rt, .string rn, .int .i64 ry, .int .i64 rk, .int .i64 rj, .int .i64 ru] wx ∧ HeldT gB [.int .i64 ri, .int .i64 rp, .string rx, .bool rt, .string rn, .int .i64 ry, .int .i64 rk, .int .i64 rj, .int .i64 ru] wx)) (by kernel_rfl) (⟨HA9.out.below (Below.refl _ _).drew, HBb.out.below (Below.refl _ _).drew⟩) (fun hHeld => ?_)
              have hb := (Below.refl wE.heap.size wE).drew
              replace HPE := Lib.hid (HPE.out.below hb)
              obtain ⟨y0, hwd⟩ : ∃ z, wE.drew = z := ⟨_, rfl⟩
              rw [hwd] at HPE hHeld ⊢
              clear hwd hb HA9 HBb
              refine wpAnyH_take (i := 0) (oi := { dst := some 177, op := Go.Op.load 79 (Go.Operand.tmp 21), type := 79, pos := "law.go:111", after := #[], guard := none }) (v := ?v0_770101) rfl (by kernel_rfl) (by kernel_rfl) (by kernel_rfl) (fun _ _ _ h => h) (Or.inl ⟨by rfl, ?y0_770101⟩) hHeld ?r0_770101
              case y0_770101 => intro w hSw; (try dsimp only at hSw); obtain ⟨⟨s1, _⟩, ⟨s2, _⟩⟩ := hSw; have t0 := (s1 0 _ rfl).1; have t1 := (s1 1 _ rfl).1; have t2 := (s1 2 _ rfl).1; have t3 := (s1 3 _ rfl).1; have t4 := (s1 4 _ rfl).1; have t5 := (s1 5 _ rfl).1; have t6 := (s1 6 _ rfl).1; have t7 := (s1 7 _ rfl).1; have t8 := (s1 8 _ rfl).1; clear s1 s2; go_simp; try with_reducible rfl
              try simp only [Act.put, List.setIfInBounds_toArray, List.set_cons_zero, List.set_cons_succ]
              refine wpAnyH_take (i := 2) (oi := { dst := some 179, op := Go.Op.load 84 (Go.Operand.tmp 23), type := 84, pos := "law.go:111", after := #[], guard := none }) (v := ?v2_770101) rfl (by kernel_rfl) (by kernel_rfl) (by kernel_rfl) (fun _ _ _ h => h) (Or.inl ⟨by rfl, ?y2_770101⟩) hHeld ?r2_770101
              case y2_770101 => intro w hSw; (try dsimp only at hSw); obtain ⟨⟨s1, _⟩, ⟨s2, _⟩⟩ := hSw; have t0 := (s2 0 _ rfl).1; have t1 := (s2 1 _ rfl).1; have t2 := (s2 2 _ rfl).1; have t3 := (s2 3 _ rfl).1; have t4 := (s2 4 _ rfl).1; have t5 := (s2 5 _ rfl).1; have t6 := (s2 6 _ rfl).1; have t7 := (s2 7 _ rfl).1; have t8 := (s2 8 _ rfl).1; clear s1 s2; go_simp; try with_reducible rfl
              try simp only [Act.put, List.setIfInBounds_toArray, List.set_cons_zero, List.set_cons_succ]
              refine wpAnyH_ready (rs := [1]) (by kernel_rfl) (by simp) ?_
              refine AllReadyH.cons (o := { dst := some 178, op := Go.Op.call { callee := Go.Callee.value (Go.Operand.func 45), args := #[Go.Operand.tmp 177], argTypes := #[79] }, type := 84, pos := "law.go:111", after := #[{ on := 0, ground := Go.Ground.data }], guard := none }) rfl (fun K hK => ?_) AllReadyH.nil
              go_simp
              refine (waitD_any ri rp rx rt rn ry rk rj ru y0).mono ?_; rintro e y1 ⟨rfl, hb⟩
              have hnext := And.intro (hHeld.1.below hb) (hHeld.2.below hb)
              replace HPE := Lib.hid (HPE.out.below hb)
              clear hb
              refine hK.out _ _ (hnext) (fun hHeld2 => ?_)
              clear hK K hHeld
              have hHeld := hHeld2
              clear hHeld2
              try simp only [Act.put, List.setIfInBounds_toArray, List.set_cons_zero, List.set_cons_succ]
              refine wpAnyH_take (i := 3) (oi := { dst := some 180, op := Go.Op.binOp Go.BinOp.eql 84 (Go.Operand.tmp 178) (Go.Operand.tmp 179) 84, type := 4, pos := "law.go:111", after := #[{ on := 1, ground := Go.Ground.data }, { on := 2, ground := Go.Ground.data }], guard := none }) (v := ?v3_770102) rfl (by kernel_rfl) (by kernel_rfl) (by kernel_rfl) (fun _ _ _ h => h) (Or.inl ⟨by rfl, ?y3_770102⟩) hHeld ?r3_770102
              case y3_770102 => intro w hSw; (try dsimp only at hSw); go_simp; try with_reducible rfl
              try simp only [Act.put, List.setIfInBounds_toArray, List.set_cons_zero, List.set_cons_succ]
              refine wpAnyH_take (i := 4) (oi := { dst := some 181, op := Go.Op.move (Go.Operand.tmp 180), type := 4, pos := "law.go:111", after := #[{ on := 3, ground := Go.Ground.data }, { on := 1, ground := Go.Ground.chain }], guard := none }) (v := ?v4_770102) rfl (by kernel_rfl) (by kernel_rfl) (by kernel_rfl) (fun _ _ _ h => h) (Or.inl ⟨by rfl, ?y4_770102⟩) hHeld ?r4_770102
              case y4_770102 => intro w hSw; (try dsimp only at hSw); go_simp; try with_reducible rfl
              try simp only [Act.put, List.setIfInBounds_toArray, List.set_cons_zero, List.set_cons_succ]
              refine wpAnyH_take (i := 5) (oi := { dst := some 182, op := Go.Op.move (Go.Operand.tmp 22), type := 4, pos := "law.go:111", after := #[{ on := 4, ground := Go.Ground.guard }], guard := some (4, true) }) (v := ?v5_770102) rfl (by kernel_rfl) (by kernel_rfl) (by kernel_rfl) (fun _ _ _ h => h) (Or.inl ⟨by rfl, ?y5_770102⟩) hHeld ?r5_770102
              case y5_770102 => intro w hSw; (try dsimp only at hSw); go_simp; try with_reducible rfl
              try simp only [Act.put, List.setIfInBounds_toArray, List.set_cons_zero, List.set_cons_succ]
              refine wpAnyH_take (i := 6) (oi := { dst := some 183, op := Go.Op.move (Go.Operand.tmp 24), type := 4, pos := "law.go:111", after := #[{ on := 4, ground := Go.Ground.guard }], guard := some (4, true) }) (v := ?v6_770102) rfl (by kernel_rfl) (by kernel_rfl) (by kernel_rfl) (fun _ _ _ h => h) (Or.inl ⟨by rfl, ?y6_770102⟩) hHeld ?r6_770102
              case y6_770102 => intro w hSw; (try dsimp only at hSw); go_simp; try with_reducible rfl
              try simp only [Act.put, List.setIfInBounds_toArray, List.set_cons_zero, List.set_cons_succ]
              refine wpAnyH_take (i := 7) (oi := { dst := some 184, op := Go.Op.binOp Go.BinOp.eql 4 (Go.Operand.tmp 182) (Go.Operand.tmp 183) 4, type := 4, pos := "law.go:111", after := #[{ on := 5, ground := Go.Ground.data }, { on := 6, ground := Go.Ground.data }, { on := 4, ground := Go.Ground.guard }], guard := some (4, true) }) (v := ?v7_770102) rfl (by kernel_rfl) (by kernel_rfl) (by kernel_rfl) (fun _ _ _ h => h) (Or.inl ⟨by rfl, ?y7_770102⟩) hHeld ?r7_770102
              case y7_770102 => intro w hSw; (try dsimp only at hSw); go_simp; try with_reducible rfl
              try simp only [Act.put, List.setIfInBounds_toArray, List.set_cons_zero, List.set_cons_succ]
              refine wpAnyH_take (i := 8) (oi := { dst := some 185, op := Go.Op.pick (Go.Operand.tmp 181) (Go.Operand.tmp 184) (Go.Operand.const (Go.Value.bool false)), type := 4, pos := "law.go:111", after := #[{ on := 4, ground := Go.Ground.data }, { on := 7, ground := Go.Ground.data }], guard := none }) (v := ?v8_770102) rfl (by kernel_rfl) (by kernel_rfl) (by kernel_rfl) (fun _ _ _ h => h) (Or.inl ⟨by rfl, ?y8_770102⟩) hHeld ?r8_770102
              case y8_770102 => intro w hSw; (try dsimp only at hSw); go_simp; try with_reducible rfl
              try simp only [Act.put, List.setIfInBounds_toArray, List.set_cons_zero, List.set_cons_succ]
              refine wpAnyH_take (i := 9) (oi := { dst := some 13, op := Go.Op.assign (Go.Operand.tmp 185), type := 4, pos := "law.go:111", after := #[{ on := 8, ground := Go.Ground.data }, { on := 4, ground := Go.Ground.chain }, { on := 0, ground := Go.Ground.phase }, { on := 1, ground := Go.Ground.phase }, { on := 2, ground := Go.Ground.phase }, { on := 3, ground := Go.Ground.phase }, { on := 4, ground := Go.Ground.phase }, { on := 5, ground := Go.Ground.phase }, { on := 6, ground := Go.Ground.phase }, { on := 7, ground := Go.Ground.phase }, { on := 8, ground := Go.Ground.phase }], guard := none }) (v := ?v9_770102) rfl (by kernel_rfl) (by kernel_rfl) (by kernel_rfl) (fun _ _ _ h => h) (Or.inl ⟨by rfl, ?y9_770102⟩) hHeld ?r9_770102
              case y9_770102 => intro w hSw; (try dsimp only at hSw); go_simp; try with_reducible rfl
              try simp only [Act.put, List.setIfInBounds_toArray, List.set_cons_zero, List.set_cons_succ]
              refine wpAnyH_done (by kernel_rfl) ?_ _
              clear hHeld
              go_wp2_with fail
              go_meet
              exact ⟨c, d2, s2, rfl, HPE, HI2⟩
          have e1 : (kd == 1) = false := eF k1
          have n1 := k1
          clear k1
          by_cases k2 : kd = 2
          · have e2 : (kd == 2) = true := eT k2
            clear k2 n0 n1
            as_aux_lemma =>
             have x1 := (HOP.out.1 1 _ HF.out.2.1).1
             obtain ⟨X, hX⟩ : ∃ z, (s.ws.filter (fun x => decide (x.until_ ≤ nw))).length = z := ⟨_, rfl⟩
             have HX := Lib.hid hX
             have hXl : X ≤ 1000 := by have := List.length_filter_le (fun x => decide (x.until_ ≤ nw)) s.ws; omega
             clear hX
             go_upto_region 30 with (fail)
             refine wp_region_held_drew (S := (fun wx => wx.cell? ⟨gO, 1, none⟩ = some (.int .i64 nw))) (by kernel_rfl) (cell_later (Below.refl _ _).drew x1) (fun hHeld => ?_)
             have hb := (Below.refl w5.heap.size w5).drew
             replace HP5 := Lib.hid (HP5.out.below hb)
             obtain ⟨y0, hwd⟩ : ∃ z, w5.drew = z := ⟨_, rfl⟩
             rw [hwd] at HP5 hHeld ⊢
             clear hwd hb x1
             refine wpAnyH_take (i := 0) (oi := { dst := some 188, op := Go.Op.move (Go.Operand.tmp 7), type := 59, pos := "law.go:113", after := #[], guard := none }) (v := ?v0_730101) rfl (by kernel_rfl) (by kernel_rfl) (by kernel_rfl) (fun _ _ _ h => h) (Or.inl ⟨by rfl, ?y0_730101⟩) hHeld ?r0_730101
             case y0_730101 => intro w hSw; (try dsimp only at hSw); go_simp; try with_reducible rfl
             try simp only [Act.put, List.setIfInBounds_toArray, List.set_cons_zero, List.set_cons_succ]
             refine wpAnyH_take (i := 1) (oi := { dst := some 189, op := Go.Op.fieldAddr 77 (Go.Operand.tmp 12) 1, type := 0, pos := "law.go:113", after := #[], guard := none }) (v := ?v1_730101) rfl (by kernel_rfl) (by kernel_rfl) (by kernel_rfl) (fun _ _ _ h => h) (Or.inl ⟨by rfl, ?y1_730101⟩) hHeld ?r1_730101
             case y1_730101 => intro w hSw; (try dsimp only at hSw); go_simp; try with_reducible rfl
             try simp only [Act.put, List.setIfInBounds_toArray, List.set_cons_zero, List.set_cons_succ]
             refine wpAnyH_take (i := 2) (oi := { dst := some 190, op := Go.Op.load 3 (Go.Operand.tmp 189), type := 3, pos := "law.go:113", after := #[{ on := 1, ground := Go.Ground.data }], guard := none }) (v := ?v2_730101) rfl (by kernel_rfl) (by kernel_rfl) (by kernel_rfl) (fun _ _ _ h => h) (Or.inl ⟨by rfl, ?y2_730101⟩) hHeld ?r2_730101
             case y2_730101 => intro w hSw; (try dsimp only at hSw); go_simp; try with_reducible rfl
             try simp only [Act.put, List.setIfInBounds_toArray, List.set_cons_zero, List.set_cons_succ]
             refine wpAnyH_take (i := 4) (oi := { dst := some 192, op := Go.Op.move (Go.Operand.tmp 9), type := 62, pos := "law.go:113", after := #[], guard := none }) (v := ?v4_730101) rfl (by kernel_rfl) (by kernel_rfl) (by kernel_rfl) (fun _ _ _ h => h) (Or.inl ⟨by rfl, ?y4_730101⟩) hHeld ?r4_730101
             case y4_730101 => intro w hSw; (try dsimp only at hSw); go_simp; try with_reducible rfl
             try simp only [Act.put, List.setIfInBounds_toArray, List.set_cons_zero, List.set_cons_succ]
             refine wpAnyH_take (i := 5) (oi := { dst := some 193, op := Go.Op.fieldAddr 77 (Go.Operand.tmp 12) 1, type := 0, pos := "law.go:113", after := #[], guard := none }) (v := ?v5_730101) rfl (by kernel_rfl) (by kernel_rfl) (by kernel_rfl) (fun _ _ _ h => h) (Or.inl ⟨by rfl, ?y5_730101⟩) hHeld ?r5_730101
             case y5_730101 => intro w hSw; (try dsimp only at hSw); go_simp; try with_reducible rfl
             try simp only [Act.put, List.setIfInBounds_toArray, List.set_cons_zero, List.set_cons_succ]
             refine wpAnyH_take (i := 6) (oi := { dst := some 194, op := Go.Op.load 3 (Go.Operand.tmp 193), type := 3, pos := "law.go:113", after := #[{ on := 5, ground := Go.Ground.data }], guard := none }) (v := ?v6_730101) rfl (by kernel_rfl) (by kernel_rfl) (by kernel_rfl) (fun _ _ _ h => h) (Or.inl ⟨by rfl, ?y6_730101⟩) hHeld ?r6_730101
             case y6_730101 => intro w hSw; (try dsimp only at hSw); go_simp; try with_reducible rfl
             try simp only [Act.put, List.setIfInBounds_toArray, List.set_cons_zero, List.set_cons_succ]
             refine wpAnyH_ready (rs := [3]) (by kernel_rfl) (by simp) ?_
             refine AllReadyH.cons (o := { dst := some 191, op := Go.Op.call { callee := Go.Callee.value (Go.Operand.func 52), args := #[Go.Operand.tmp 188, Go.Operand.tmp 190], argTypes := #[59, 3] }, type := 102, pos := "law.go:113", after := #[{ on := 0, ground := Go.Ground.data }, { on := 2, ground := Go.Ground.data }], guard := none }) rfl (fun K hK => ?_) AllReadyH.nil
             go_simp
             refine (expire_any c q s nw y0 HP5.out.cd (by omega)).mono ?_; rintro e y1 ⟨v1, rfl, hv1, ⟨c2, hs2, hc2, -⟩, hf2⟩
             rw [HX.out] at hv1
             have HP6 := Lib.hid (HP5.out.code hs2 hc2 hf2 (fun x hx => by simp at hx; subst hx; exact HP5.out.cd.choose_spec.2.1.1))
             have hnext := hf2.cellT hHeld (by simp; exact fun e => HGO.out.1 (e ▸ HP5.out.cd.choose_spec.2.1.1))
             have HV1 := Lib.hid hv1
             have HPD := Lib.hid (show p < y0.heap.size from HP5.out.dc.lt p HP5.out.dc.q)
             obtain ⟨a1, c1, rfl, -, -⟩ := cellsK_own hv1
             clear hv1 hs2 hc2 hf2 HP5
             refine hK.out _ _ (hnext) (fun hHeld2 => ?_)
             clear hK K hHeld
             have hHeld := hHeld2
             clear hHeld2
             try simp only [Act.put, List.setIfInBounds_toArray, List.set_cons_zero, List.set_cons_succ]
             refine wpAnyH_ready (rs := [7]) (by kernel_rfl) (by simp) ?_
             refine AllReadyH.cons (o := { dst := some 195, op := Go.Op.call { callee := Go.Callee.value (Go.Operand.func 53), args := #[Go.Operand.tmp 192, Go.Operand.tmp 194], argTypes := #[62, 3] }, type := 88, pos := "law.go:113", after := #[{ on := 4, ground := Go.Ground.data }, { on := 6, ground := Go.Ground.data }, { on := 3, ground := Go.Ground.chain }], guard := none }) rfl (fun K hK => ?_) AllReadyH.nil
             go_simp
             refine (expireR_any d p s nw y1 HP6.out.dc (by omega)).mono ?_; rintro e y2 ⟨v2, rfl, hv2, ⟨d2, hs3, hd2, -⟩, hf3⟩
             rw [HX.out] at hv2
             have HP7 := Lib.hid (HP6.out.doc hs3 hd2 hf3 (fun x hx => by simp at hx; subst hx; exact HP6.out.dc.q))
             have hnext := hf3.cellT hHeld (by simp; exact fun e => HGO.out.2 (e ▸ HP6.out.dc.q))
             obtain ⟨a3, c3, rfl, h3, -⟩ := cellsK_own hv2
             have HC2 := Lib.hid h3
             have HC1 := Lib.hid (show CellsAt y2 a1 (X * 9) (flatW (s.ws.filter (fun x => decide (x.until_ ≤ nw)))) from by obtain ⟨_, _, e, h9, -⟩ := cellsK_own (own_kept HV1.out (fun g hg => hf3.block g (HV1.out.lt g hg).2 (by have := (HV1.out.lt g hg).1; have := HPD.out; simp; omega))); injection e with e _ _; subst e; exact h9)
             clear hv2 h3 hs3 hd2 hf3 HP6 HV1
             refine hK.out _ _ (hnext) (fun hHeld2 => ?_)
             clear hK K hHeld
             have hHeld := hHeld2
             clear hHeld2
             try simp only [Act.put, List.setIfInBounds_toArray, List.set_cons_zero, List.set_cons_succ]
             refine wpAnyH_ready (rs := [8]) (by kernel_rfl) (by simp) ?_
             refine AllReadyH.cons (o := { dst := some 196, op := Go.Op.call { callee := Go.Callee.value (Go.Operand.func 51), args := #[Go.Operand.tmp 191, Go.Operand.tmp 195], argTypes := #[102, 88] }, type := 4, pos := "law.go:113", after := #[{ on := 3, ground := Go.Ground.data }, { on := 7, ground := Go.Ground.data }, { on := 7, ground := Go.Ground.chain }], guard := none }) rfl (fun K hK => ?_) AllReadyH.nil
             go_simp
             refine (sameR_any a1 a3 c1 c3 X (s.ws.filter (fun x => decide (x.until_ ≤ nw))) y2 HC1.out HC2.out HX.out (by omega)).mono ?_; rintro e y3 ⟨rfl, hb⟩
             have hnext := cell_later hb hHeld
             replace HP7 := Lib.hid (HP7.out.below hb)
             clear hb
             refine hK.out _ _ (hnext) (fun hHeld2 => ?_)
             clear hK K hHeld
             have hHeld := hHeld2
             clear hHeld2
             try simp only [Act.put, List.setIfInBounds_toArray, List.set_cons_zero, List.set_cons_succ]
             refine wpAnyH_take (i := 9) (oi := { dst := some 13, op := Go.Op.assign (Go.Operand.tmp 196), type := 4, pos := "law.go:113", after := #[{ on := 8, ground := Go.Ground.data }, { on := 8, ground := Go.Ground.chain }, { on := 0, ground := Go.Ground.phase }, { on := 1, ground := Go.Ground.phase }, { on := 2, ground := Go.Ground.phase }, { on := 3, ground := Go.Ground.phase }, { on := 4, ground := Go.Ground.phase }, { on := 5, ground := Go.Ground.phase }, { on := 6, ground := Go.Ground.phase }, { on := 7, ground := Go.Ground.phase }, { on := 8, ground := Go.Ground.phase }], guard := none }) (v := ?v9_730104) rfl (by kernel_rfl) (by kernel_rfl) (by kernel_rfl) (fun _ _ _ h => h) (Or.inl ⟨by rfl, ?y9_730104⟩) hHeld ?r9_730104
             case y9_730104 => intro w hSw; (try dsimp only at hSw); go_simp; try with_reducible rfl
             try simp only [Act.put, List.setIfInBounds_toArray, List.set_cons_zero, List.set_cons_succ]
             refine wpAnyH_done (by kernel_rfl) ?_ _
             clear hHeld
             go_wp2_with fail
             go_meet
             exact ⟨c2, d2, _, rfl, HP7, Lib.hid (HI.out.sub rfl rfl List.filter_sublist)⟩
          have e2 : (kd == 2) = false := eF k2
          have n2 := k2
          clear k2
          by_cases k3 : kd = 3
          · have e3 : (kd == 3) = true := eT k3
            clear k3 n0 n1 n2
            as_aux_lemma =>
             have x10 := (HOP.out.1 10 _ HF.out.2.2.2.2.2.2.2.2.2).1
             obtain ⟨X, hX⟩ : ∃ z : Int, ((s.ws.filter (fun x => decide (x.job ∈ J))).length : Int) = z := ⟨_, rfl⟩
             have HX := Lib.hid hX
             have hee : (X == X) = true := by simp
             clear hX
             go_upto_region 32 with (fail)
             refine wp_region_held_drew (S := (fun wx => wx.cell? ⟨gO, 10, none⟩ = some (.slice ja jn jc))) (by kernel_rfl) (cell_later (Below.refl _ _).drew x10) (fun hHeld => ?_)
             have hb := (Below.refl w5.heap.size w5).drew
             replace HP5 := Lib.hid (HP5.out.below hb)
             obtain ⟨y0, hwd⟩ : ∃ z, w5.drew = z := ⟨_, rfl⟩
             rw [hwd] at HP5 hHeld ⊢
             clear hwd hb x10
             refine wpAnyH_take (i := 0) (oi := { dst := some 199, op := Go.Op.move (Go.Operand.tmp 7), type := 59, pos := "law.go:115", after := #[], guard := none }) (v := ?v0_740101) rfl (by kernel_rfl) (by kernel_rfl) (by kernel_rfl) (fun _ _ _ h => h) (Or.inl ⟨by rfl, ?y0_740101⟩) hHeld ?r0_740101
             case y0_740101 => intro w hSw; (try dsimp only at hSw); go_simp; try with_reducible rfl
             try simp only [Act.put, List.setIfInBounds_toArray, List.set_cons_zero, List.set_cons_succ]
             refine wpAnyH_take (i := 1) (oi := { dst := some 200, op := Go.Op.fieldAddr 77 (Go.Operand.tmp 12) 8, type := 0, pos := "law.go:115", after := #[], guard := none }) (v := ?v1_740101) rfl (by kernel_rfl) (by kernel_rfl) (by kernel_rfl) (fun _ _ _ h => h) (Or.inl ⟨by rfl, ?y1_740101⟩) hHeld ?r1_740101
             case y1_740101 => intro w hSw; (try dsimp only at hSw); go_simp; try with_reducible rfl
             try simp only [Act.put, List.setIfInBounds_toArray, List.set_cons_zero, List.set_cons_succ]
             refine wpAnyH_take (i := 2) (oi := { dst := some 201, op := Go.Op.load 67 (Go.Operand.tmp 200), type := 67, pos := "law.go:115", after := #[{ on := 1, ground := Go.Ground.data }], guard := none }) (v := ?v2_740101) rfl (by kernel_rfl) (by kernel_rfl) (by kernel_rfl) (fun _ _ _ h => h) (Or.inl ⟨by rfl, ?y2_740101⟩) hHeld ?r2_740101
             case y2_740101 => intro w hSw; (try dsimp only at hSw); go_simp; try with_reducible rfl
             try simp only [Act.put, List.setIfInBounds_toArray, List.set_cons_zero, List.set_cons_succ]
             refine wpAnyH_take (i := 4) (oi := { dst := some 203, op := Go.Op.move (Go.Operand.tmp 9), type := 62, pos := "law.go:115", after := #[], guard := none }) (v := ?v4_740101) rfl (by kernel_rfl) (by kernel_rfl) (by kernel_rfl) (fun _ _ _ h => h) (Or.inl ⟨by rfl, ?y4_740101⟩) hHeld ?r4_740101
             case y4_740101 => intro w hSw; (try dsimp only at hSw); go_simp; try with_reducible rfl
             try simp only [Act.put, List.setIfInBounds_toArray, List.set_cons_zero, List.set_cons_succ]
             refine wpAnyH_take (i := 5) (oi := { dst := some 204, op := Go.Op.fieldAddr 77 (Go.Operand.tmp 12) 8, type := 0, pos := "law.go:115", after := #[], guard := none }) (v := ?v5_740101) rfl (by kernel_rfl) (by kernel_rfl) (by kernel_rfl) (fun _ _ _ h => h) (Or.inl ⟨by rfl, ?y5_740101⟩) hHeld ?r5_740101
             case y5_740101 => intro w hSw; (try dsimp only at hSw); go_simp; try with_reducible rfl
             try simp only [Act.put, List.setIfInBounds_toArray, List.set_cons_zero, List.set_cons_succ]
             refine wpAnyH_take (i := 6) (oi := { dst := some 205, op := Go.Op.load 67 (Go.Operand.tmp 204), type := 67, pos := "law.go:115", after := #[{ on := 5, ground := Go.Ground.data }], guard := none }) (v := ?v6_740101) rfl (by kernel_rfl) (by kernel_rfl) (by kernel_rfl) (fun _ _ _ h => h) (Or.inl ⟨by rfl, ?y6_740101⟩) hHeld ?r6_740101
             case y6_740101 => intro w hSw; (try dsimp only at hSw); go_simp; try with_reducible rfl
             try simp only [Act.put, List.setIfInBounds_toArray, List.set_cons_zero, List.set_cons_succ]
             refine wpAnyH_ready (rs := [3]) (by kernel_rfl) (by simp) ?_
             refine AllReadyH.cons (o := { dst := some 202, op := Go.Op.call { callee := Go.Callee.value (Go.Operand.func 54), args := #[Go.Operand.tmp 199, Go.Operand.tmp 201], argTypes := #[59, 67] }, type := 3, pos := "law.go:115", after := #[{ on := 0, ground := Go.Ground.data }, { on := 2, ground := Go.Ground.data }], guard := none }) rfl (fun K hK => ?_) AllReadyH.nil
             go_simp
             refine (drop_any c q s ja jn jc J y0 HP5.out.cd (by omega) (HJR.out.below HP5.out.bel) (by have := HJN.out; omega)).mono ?_; rintro e y1 ⟨v1, rfl, -, ⟨c2, hs2, hc2, -⟩, hf2⟩
             rw [HX.out]
             have HP6 := Lib.hid (HP5.out.code hs2 hc2 hf2 (fun x hx => by simp at hx; subst hx; exact HP5.out.cd.choose_spec.2.1.1))
             have hnext := hf2.cellT hHeld (by simp; exact fun e => HGO.out.1 (e ▸ HP5.out.cd.choose_spec.2.1.1))
             clear hs2 hc2 hf2 HP5
             refine hK.out _ _ (hnext) (fun hHeld2 => ?_)
             clear hK K hHeld
             have hHeld := hHeld2
             clear hHeld2
             try simp only [Act.put, List.setIfInBounds_toArray, List.set_cons_zero, List.set_cons_succ]
             refine wpAnyH_ready (rs := [7]) (by kernel_rfl) (by simp) ?_
             refine AllReadyH.cons (o := { dst := some 206, op := Go.Op.call { callee := Go.Callee.value (Go.Operand.func 55), args := #[Go.Operand.tmp 203, Go.Operand.tmp 205], argTypes := #[62, 67] }, type := 3, pos := "law.go:115", after := #[{ on := 4, ground := Go.Ground.data }, { on := 6, ground := Go.Ground.data }, { on := 3, ground := Go.Ground.chain }], guard := none }) rfl (fun K hK => ?_) AllReadyH.nil
             go_simp
             refine (dropR_any d p s ja jn jc J y1 HP6.out.dc (by omega) (HJR.out.below HP6.out.bel) (by have := HJN.out; omega)).mono ?_; rintro e y2 ⟨rfl, ⟨d2, hs3, hd2⟩, hf3⟩
             rw [HX.out]
             have HP7 := Lib.hid (HP6.out.doc hs3 hd2 hf3 (fun x hx => by simp at hx; subst hx; exact HP6.out.dc.q))
             have hnext := hf3.cellT hHeld (by simp; exact fun e => HGO.out.2 (e ▸ HP6.out.dc.q))
             clear hs3 hd2 hf3 HP6
             refine hK.out _ _ (hnext) (fun hHeld2 => ?_)
             clear hK K hHeld
             have hHeld := hHeld2
             clear hHeld2
             try simp only [Act.put, List.setIfInBounds_toArray, List.set_cons_zero, List.set_cons_succ]
             refine wpAnyH_take (i := 8) (oi := { dst := some 207, op := Go.Op.binOp Go.BinOp.eql 3 (Go.Operand.tmp 202) (Go.Operand.tmp 206) 3, type := 4, pos := "law.go:115", after := #[{ on := 3, ground := Go.Ground.data }, { on := 7, ground := Go.Ground.data }], guard := none }) (v := ?v8_740103) rfl (by kernel_rfl) (by kernel_rfl) (by kernel_rfl) (fun _ _ _ h => h) (Or.inl ⟨by rfl, ?y8_740103⟩) hHeld ?r8_740103
             case y8_740103 => intro w hSw; (try dsimp only at hSw); go_simp; try with_reducible rfl
             try simp only [Act.put, List.setIfInBounds_toArray, List.set_cons_zero, List.set_cons_succ]
             refine wpAnyH_take (i := 9) (oi := { dst := some 13, op := Go.Op.assign (Go.Operand.tmp 207), type := 4, pos := "law.go:115", after := #[{ on := 8, ground := Go.Ground.data }, { on := 7, ground := Go.Ground.chain }, { on := 0, ground := Go.Ground.phase }, { on := 1, ground := Go.Ground.phase }, { on := 2, ground := Go.Ground.phase }, { on := 3, ground := Go.Ground.phase }, { on := 4, ground := Go.Ground.phase }, { on := 5, ground := Go.Ground.phase }, { on := 6, ground := Go.Ground.phase }, { on := 7, ground := Go.Ground.phase }, { on := 8, ground := Go.Ground.phase }], guard := none }) (v := ?v9_740103) rfl (by kernel_rfl) (by kernel_rfl) (by kernel_rfl) (fun _ _ _ h => h) (Or.inl ⟨by rfl, ?y9_740103⟩) hHeld ?r9_740103
             case y9_740103 => intro w hSw; (try dsimp only at hSw); go_simp; try with_reducible rfl
             try simp only [Act.put, List.setIfInBounds_toArray, List.set_cons_zero, List.set_cons_succ]
             refine wpAnyH_done (by kernel_rfl) ?_ _
             clear hHeld
             go_wp2_with fail
             go_meet
             exact ⟨c2, d2, _, rfl, HP7, Lib.hid (HI.out.sub rfl rfl List.filter_sublist)⟩
          have e3 : (kd == 3) = false := eF k3
          have n3 := k3
          clear k3
          by_cases k4 : kd = 4
          · have e4 : (kd == 4) = true := eT k4
            clear k4 n0 n1 n2 n3
            as_aux_lemma =>
             have HRK := Lib.hid (show w5.rangeAt gO 11 [.int .i64 vi, .int .i64 vp, .string vx, .bool vt] from fun j v hj => (HOP.out.1 (11 + j) v (HFK.out j v hj)).1)
             have HRM := Lib.hid (show w5.rangeAt gO 15 [.int .i64 xi, .int .i64 xo, .int .i64 xr, .bool y0, .bool y1, .bool y2, .bool y3, .bool y4, .slice qa lq qc, .slice na la nc, .slice sa ln sc, .slice xa lx xc] from fun j v hj => (HOP.out.1 (15 + j) v (HFM.out j v hj)).1)
             go_wp2_with (first | ((with_reducible show wpList _ _ _ (Oper.mk _ (Op.load _ _) _ _ _ _ :: _) _ _); refine wpList_load_mid rfl 69 (.tmp 212) rfl _ _ rfl _ _ HRK.out Try.underlying69 rfl (by kernel_rfl) ?_) | ((with_reducible show wpList _ _ _ (Oper.mk _ (Op.load _ _) _ _ _ _ :: _) _ _); refine wpList_load_mid rfl 75 (.tmp 214) rfl _ _ rfl _ _ HRM.out Try.underlying75 rfl (by kernel_rfl) ?_))
             refine (matchC_any c q s vi vp vx vt xi xo xr y0 y1 y2 y3 y4 qa na sa xa lq qc la nc ln sc lx xc (mq.map toQ) w5 HP5.out.cd (by omega) (HMQ.out.1.below HP5.out.bel) HMQ.out.2).mono ?_; rintro e wC ⟨r, ok, s2, rfl, hmx, hts, hfm⟩
             obtain ⟨⟨ri, rp, rx, rt⟩, ⟨rn, ry, rk⟩, rj, ru⟩ := r
             rw [show (encW ⟨⟨ri, rp, rx, rt⟩, ⟨rn, ry, rk⟩, rj, ru⟩).toArray = #[.int .i64 ri, .int .i64 rp, .string rx, .bool rt, .string rn, .int .i64 ry, .int .i64 rk, .int .i64 rj, .int .i64 ru] from rfl]
             have HMX := Lib.hid hmx
             have HP3 := Lib.hid (HP5.out.code hts (fun _ hx => Or.inl hx) hfm (fun _ hx => hx))
             have HK3 := Lib.hid (HOP.out.frm hfm HGO.out.1)
             clear hmx hts hfm HRK HRM HOP HP5
             have hba := (Below.refl wC.heap.size wC).alloc (Nat.le_refl _) (.cells #[.int .i64 0, .int .i64 0, .string ⟨#[]⟩, .bool false, .string ⟨#[]⟩, .int .i64 0, .int .i64 0, .int .i64 0, .int .i64 0] 79)
             have y0 := HeldT.new wC #[.int .i64 0, .int .i64 0, .string ⟨#[]⟩, .bool false, .string ⟨#[]⟩, .int .i64 0, .int .i64 0, .int .i64 0, .int .i64 0] 79
             obtain ⟨u1, hu1⟩ : ∃ z, wC.alloc (.cells #[.int .i64 0, .int .i64 0, .string ⟨#[]⟩, .bool false, .string ⟨#[]⟩, .int .i64 0, .int .i64 0, .int .i64 0, .int .i64 0] 79) = z := ⟨_, rfl⟩
             rw [hu1] at hba y0
             have HTHD := Lib.hid (show (wC.alloc (.cells #[.int .i64 0, .int .i64 0, .string ⟨#[]⟩, .bool false, .string ⟨#[]⟩, .int .i64 0, .int .i64 0, .int .i64 0, .int .i64 0] 79)).there wC.heap.size 0 ([.int .i64 ri, .int .i64 rp, .string rx, .bool rt, .string rn, .int .i64 ry, .int .i64 rk, .int .i64 rj, .int .i64 ru] : List Value).toArray.size from by
               rw [hu1]
               intro j hj
               rw [Nat.zero_add]
               have hj9 : j < ([.int .i64 0, .int .i64 0, .string ⟨#[]⟩, .bool false, .string ⟨#[]⟩, .int .i64 0, .int .i64 0, .int .i64 0, .int .i64 0] : List Value).length := by have h9 : j < ([.int .i64 ri, .int .i64 rp, .string rx, .bool rt, .string rn, .int .i64 ry, .int .i64 rk, .int .i64 rj, .int .i64 ru] : List Value).length := hj; rw [show ([.int .i64 ri, .int .i64 rp, .string rx, .bool rt, .string rn, .int .i64 ry, .int .i64 rk, .int .i64 rj, .int .i64 ru] : List Value).length = 9 from rfl] at h9; exact h9
               obtain ⟨u, hu⟩ : ∃ u, ([.int .i64 0, .int .i64 0, .string ⟨#[]⟩, .bool false, .string ⟨#[]⟩, .int .i64 0, .int .i64 0, .int .i64 0, .int .i64 0] : List Value)[j]? = some u := ⟨_, List.getElem?_eq_getElem hj9⟩
               obtain ⟨h1, h2⟩ := y0.1 j u hu
               exact ⟨by rw [h1]; rfl, h2⟩)
             have HA := Lib.hid (show HeldT wC.heap.size [.int .i64 ri, .int .i64 rp, .string rx, .bool rt, .string rn, .int .i64 ry, .int .i64 rk, .int .i64 rj, .int .i64 ru] (u1.setCells wC.heap.size 0 [.int .i64 ri, .int .i64 rp, .string rx, .bool rt, .string rn, .int .i64 ry, .int .i64 rk, .int .i64 rj, .int .i64 ru]) from y0.into (by rw [show ([.int .i64 ri, .int .i64 rp, .string rx, .bool rt, .string rn, .int .i64 ry, .int .i64 rk, .int .i64 rj, .int .i64 ru] : List Value).length = 9 from rfl]; rfl))
             have hbD := tb_sets hba (b := wC.heap.size) (Nat.le_refl _) 0 [.int .i64 ri, .int .i64 rp, .string rx, .bool rt, .string rn, .int .i64 ry, .int .i64 rk, .int .i64 rj, .int .i64 ru]
             obtain ⟨wD, hw5⟩ : ∃ z, u1.setCells wC.heap.size 0 [.int .i64 ri, .int .i64 rp, .string rx, .bool rt, .string rn, .int .i64 ry, .int .i64 rk, .int .i64 rj, .int .i64 ru] = z := ⟨_, rfl⟩
             rw [hw5] at HA hbD
             have HWD := Lib.hid (show (wC.alloc (.cells #[.int .i64 0, .int .i64 0, .string ⟨#[]⟩, .bool false, .string ⟨#[]⟩, .int .i64 0, .int .i64 0, .int .i64 0, .int .i64 0] 79)).setCells wC.heap.size 0 ([.int .i64 ri, .int .i64 rp, .string rx, .bool rt, .string rn, .int .i64 ry, .int .i64 rk, .int .i64 rj, .int .i64 ru] : List Value).toArray.toList = wD from by rw [hu1]; exact hw5)
             have hszD := hba.size
             obtain ⟨gA, hgO⟩ : ∃ z, wC.heap.size = z := ⟨_, rfl⟩
             have HGD := Lib.hid hgO
             rw [hgO] at HA
             clear hba y0 hu1 hw5 hgO hszD
             have HPC := Lib.hid (HP3.out.below hbD)
             have HK4 := Lib.hid (HK3.out.below hbD)
             skip
             have HGAD := Lib.hid (show gA ∉ d from fun e => by have := HP3.out.dc.lt gA e; have := HGD.out; omega)
             have HON := Lib.hid (encW_one ⟨⟨ri, rp, rx, rt⟩, ⟨rn, ry, rk⟩, rj, ru⟩)
             clear hbD HP3 HK3
             go_upto_region 35 with ((with_reducible show wpList _ _ _ (Oper.mk _ (Op.store _ _ _) _ _ _ _ :: _) _ _); refine wpList_store_mid rfl 79 (.tmp 25) (.tmp 217) rfl _ _ _ rfl rfl HTHD.out (by kernel_rfl) (all_oneCell_toArray HON.out) ?_; rw [HWD.out, HGD.out])
             clear HTHD HWD HGD HON
             try simp only [Act.put]
             have HGD := Lib.hid (show gO ∉ d ∧ gO ∉ d ∧ gA ∉ d from ⟨HGO.out.2, HGO.out.2, HGAD.out⟩)
             have HSK := Lib.hid (show gO < wD.heap.size ∧ gO < wD.heap.size from ⟨HK4.out.2, HK4.out.2⟩)
             have HRK := Lib.hid (show wD.rangeAt gO 11 [.int .i64 vi, .int .i64 vp, .string vx, .bool vt] from fun j v hj => (HK4.out.1 (11 + j) v (HFK.out j v hj)).1)
             have HRM := Lib.hid (show wD.rangeAt gO 15 [.int .i64 xi, .int .i64 xo, .int .i64 xr, .bool y0, .bool y1, .bool y2, .bool y3, .bool y4, .slice qa lq qc, .slice na la nc, .slice sa ln sc, .slice xa lx xc] from fun j v hj => (HK4.out.1 (15 + j) v (HFM.out j v hj)).1)
             clear HK4
             go_cut [27, 28] (fun x v wx => ∃ (gB : Nat) (d2 : List Nat), x = .pointer (some ⟨gB, 0, none⟩) ∧ v = .bool ok ∧ Hid (Pl w wx q p c d2 s2 s2) ∧ Hid (HeldT gA [.int .i64 ri, .int .i64 rp, .string rx, .bool rt, .string rn, .int .i64 ry, .int .i64 rk, .int .i64 rj, .int .i64 ru] wx) ∧ Hid (HeldT gB [.int .i64 ri, .int .i64 rp, .string rx, .bool rt, .string rn, .int .i64 ry, .int .i64 rk, .int .i64 rj, .int .i64 ru] wx) ∧ Hid (wx.rangeAt gO 11 [.int .i64 vi, .int .i64 vp, .string vx, .bool vt]))
             case first =>
              as_aux_lemma =>
               refine wp_region_held_drew (S := (fun wx : World => wx.rangeAt gO 11 [.int .i64 vi, .int .i64 vp, .string vx, .bool vt] ∧ wx.rangeAt gO 15 [.int .i64 xi, .int .i64 xo, .int .i64 xr, .bool y0, .bool y1, .bool y2, .bool y3, .bool y4, .slice qa lq qc, .slice na la nc, .slice sa ln sc, .slice xa lx xc])) (by kernel_rfl) (⟨fun j v hj => cell_later (Below.refl _ _).drew (HRK.out j v hj), fun j v hj => cell_later (Below.refl _ _).drew (HRM.out j v hj)⟩) (fun hHeld => ?_)
               have hb := (Below.refl wD.heap.size wD).drew
               have HWS := Lib.hid hb.size
               replace HPC := Lib.hid (HPC.out.below hb)
               replace HA := Lib.hid (HA.out.below hb)
               obtain ⟨z0, hwd⟩ : ∃ z, wD.drew = z := ⟨_, rfl⟩
               rw [hwd] at HWS HPC HA hHeld ⊢
               clear hwd hb
               refine wpAnyH_take (i := 0) (oi := { dst := some 220, op := Go.Op.move (Go.Operand.tmp 9), type := 62, pos := "law.go:118", after := #[], guard := none }) (v := ?v0_780101) rfl (by kernel_rfl) (by kernel_rfl) (by kernel_rfl) (fun _ _ _ h => h) (Or.inl ⟨by rfl, ?y0_780101⟩) hHeld ?r0_780101
               case y0_780101 => intro w hSw; (try dsimp only at hSw); go_simp; try with_reducible rfl
               try simp only [Act.put, List.setIfInBounds_toArray, List.set_cons_zero, List.set_cons_succ]
               refine wpAnyH_take (i := 1) (oi := { dst := some 221, op := Go.Op.fieldAddr 77 (Go.Operand.tmp 12) 9, type := 0, pos := "law.go:118", after := #[], guard := none }) (v := ?v1_780101) rfl (by kernel_rfl) (by kernel_rfl) (by kernel_rfl) (fun _ _ _ h => h) (Or.inl ⟨by rfl, ?y1_780101⟩) hHeld ?r1_780101
               case y1_780101 => intro w hSw; (try dsimp only at hSw); go_simp; try with_reducible rfl
               try simp only [Act.put, List.setIfInBounds_toArray, List.set_cons_zero, List.set_cons_succ]
               refine wpAnyH_take (i := 2) (oi := { dst := some 222, op := Go.Op.load 69 (Go.Operand.tmp 221), type := 69, pos := "law.go:118", after := #[{ on := 1, ground := Go.Ground.data }], guard := none }) (v := ?v2_780101) rfl (by kernel_rfl) (by kernel_rfl) (by kernel_rfl) (fun _ _ _ h => h) (Or.inl ⟨by rfl, ?y2_780101⟩) hHeld ?r2_780101
               case y2_780101 => intro w hSw; (try dsimp only at hSw); obtain ⟨s1, s2⟩ := hSw; have t0 : w.cell? ⟨gO, 11, none⟩ = some (.int .i64 vi) := s1 0 _ rfl; have t1 : w.cell? ⟨gO, 12, none⟩ = some (.int .i64 vp) := s1 1 _ rfl; have t2 : w.cell? ⟨gO, 13, none⟩ = some (.string vx) := s1 2 _ rfl; have t3 : w.cell? ⟨gO, 14, none⟩ = some (.bool vt) := s1 3 _ rfl; clear s1 s2; go_simp; try with_reducible rfl
               try simp only [Act.put, List.setIfInBounds_toArray, List.set_cons_zero, List.set_cons_succ]
               refine wpAnyH_take (i := 4) (oi := { dst := some 224, op := Go.Op.fieldAddr 77 (Go.Operand.tmp 12) 10, type := 0, pos := "law.go:118", after := #[], guard := none }) (v := ?v4_780101) rfl (by kernel_rfl) (by kernel_rfl) (by kernel_rfl) (fun _ _ _ h => h) (Or.inl ⟨by rfl, ?y4_780101⟩) hHeld ?r4_780101
               case y4_780101 => intro w hSw; (try dsimp only at hSw); go_simp; try with_reducible rfl
               try simp only [Act.put, List.setIfInBounds_toArray, List.set_cons_zero, List.set_cons_succ]
               refine wpAnyH_take (i := 5) (oi := { dst := some 225, op := Go.Op.load 75 (Go.Operand.tmp 224), type := 75, pos := "law.go:118", after := #[{ on := 4, ground := Go.Ground.data }], guard := none }) (v := ?v5_780101) rfl (by kernel_rfl) (by kernel_rfl) (by kernel_rfl) (fun _ _ _ h => h) (Or.inl ⟨by rfl, ?y5_780101⟩) hHeld ?r5_780101
               case y5_780101 => intro w hSw; (try dsimp only at hSw); obtain ⟨s1, s2⟩ := hSw; have t0 : w.cell? ⟨gO, 15, none⟩ = some (.int .i64 xi) := s2 0 _ rfl; have t1 : w.cell? ⟨gO, 16, none⟩ = some (.int .i64 xo) := s2 1 _ rfl; have t2 : w.cell? ⟨gO, 17, none⟩ = some (.int .i64 xr) := s2 2 _ rfl; have t3 : w.cell? ⟨gO, 18, none⟩ = some (.bool y0) := s2 3 _ rfl; have t4 : w.cell? ⟨gO, 19, none⟩ = some (.bool y1) := s2 4 _ rfl; have t5 : w.cell? ⟨gO, 20, none⟩ = some (.bool y2) := s2 5 _ rfl; have t6 : w.cell? ⟨gO, 21, none⟩ = some (.bool y3) := s2 6 _ rfl; have t7 : w.cell? ⟨gO, 22, none⟩ = some (.bool y4) := s2 7 _ rfl; have t8 : w.cell? ⟨gO, 23, none⟩ = some (.slice qa lq qc) := s2 8 _ rfl; have t9 : w.cell? ⟨gO, 24, none⟩ = some (.slice na la nc) := s2 9 _ rfl; have t10 : w.cell? ⟨gO, 25, none⟩ = some (.slice sa ln sc) := s2 10 _ rfl; have t11 : w.cell? ⟨gO, 26, none⟩ = some (.slice xa lx xc) := s2 11 _ rfl; clear s1 s2; go_simp; try with_reducible rfl
               try simp only [Act.put, List.setIfInBounds_toArray, List.set_cons_zero, List.set_cons_succ]
               refine wpAnyH_ready (rs := [3, 11]) (by kernel_rfl) (by simp) ?_
               refine AllReadyH.cons (o := { dst := some 223, op := Go.Op.call { callee := Go.Callee.value (Go.Operand.func 49), args := #[Go.Operand.tmp 222], argTypes := #[69] }, type := 82, pos := "law.go:118", after := #[{ on := 2, ground := Go.Ground.data }], guard := none }) rfl (fun K hK => ?_) (AllReadyH.cons (o := { dst := some 27, op := Go.Op.alloc 84, type := 0, pos := "law.go:118", after := #[], guard := none }) rfl (fun K hK => ?_) AllReadyH.nil)
               · go_simp
                 refine (markD_any vi vp vx vt z0).mono ?_; rintro e z1 ⟨rfl, hb⟩
                 have hnext : ((fun wx : World => wx.rangeAt gO 11 [.int .i64 vi, .int .i64 vp, .string vx, .bool vt] ∧ wx.rangeAt gO 15 [.int .i64 xi, .int .i64 xo, .int .i64 xr, .bool y0, .bool y1, .bool y2, .bool y3, .bool y4, .slice qa lq qc, .slice na la nc, .slice sa ln sc, .slice xa lx xc]) z1) := And.intro (fun j v hj => cell_later hb (hHeld.1 j v hj)) (fun j v hj => cell_later hb (hHeld.2 j v hj))
                 replace HPC := Lib.hid (HPC.out.below hb)
                 replace HA := Lib.hid (HA.out.below hb)
                 replace HWS := Lib.hid (Nat.le_trans HWS.out hb.size)
                 clear hb
                 refine hK.out _ _ (hnext) (fun hHeld2 => ?_)
                 clear hK K hHeld
                 have hHeld := hHeld2
                 clear hHeld2
                 try simp only [Act.put, List.setIfInBounds_toArray, List.set_cons_zero, List.set_cons_succ]
                 refine wpAnyH_ready (rs := [6, 11]) (by kernel_rfl) (by simp) ?_
                 refine AllReadyH.cons (o := { dst := some 226, op := Go.Op.call { callee := Go.Callee.value (Go.Operand.func 50), args := #[Go.Operand.tmp 225], argTypes := #[75] }, type := 99, pos := "law.go:118", after := #[{ on := 5, ground := Go.Ground.data }, { on := 3, ground := Go.Ground.chain }], guard := none }) rfl (fun K hK => ?_) (AllReadyH.cons (o := { dst := some 27, op := Go.Op.alloc 84, type := 0, pos := "law.go:118", after := #[], guard := none }) rfl (fun K hK => ?_) AllReadyH.nil)
                 · go_simp
                   refine (plainD_any xi xo xr y0 y1 y2 y3 y4 qa na sa xa lq qc la nc ln sc lx xc z1).mono ?_; rintro e z2 ⟨rfl, hb⟩
                   have hnext : ((fun wx : World => wx.rangeAt gO 11 [.int .i64 vi, .int .i64 vp, .string vx, .bool vt] ∧ wx.rangeAt gO 15 [.int .i64 xi, .int .i64 xo, .int .i64 xr, .bool y0, .bool y1, .bool y2, .bool y3, .bool y4, .slice qa lq qc, .slice na la nc, .slice sa ln sc, .slice xa lx xc]) z2) := And.intro (fun j v hj => cell_later hb (hHeld.1 j v hj)) (fun j v hj => cell_later hb (hHeld.2 j v hj))
                   replace HPC := Lib.hid (HPC.out.below hb)
                   replace HA := Lib.hid (HA.out.below hb)
                   replace HWS := Lib.hid (Nat.le_trans HWS.out hb.size)
                   clear hb
                   refine hK.out _ _ (hnext) (fun hHeld2 => ?_)
                   clear hK K hHeld
                   have hHeld := hHeld2
                   clear hHeld2
                   try simp only [Act.put, List.setIfInBounds_toArray, List.set_cons_zero, List.set_cons_succ]
                   refine wpAnyH_ready (rs := [7, 11]) (by kernel_rfl) (by simp) ?_
                   refine AllReadyH.cons (o := { dst := some 227, op := Go.Op.call { callee := Go.Callee.value (Go.Operand.func 48), args := #[Go.Operand.tmp 220, Go.Operand.tmp 223, Go.Operand.tmp 226], argTypes := #[62, 82, 99] }, type := 94, pos := "law.go:118", after := #[{ on := 0, ground := Go.Ground.data }, { on := 3, ground := Go.Ground.data }, { on := 6, ground := Go.Ground.data }, { on := 6, ground := Go.Ground.chain }], guard := none }) rfl (fun K hK => ?_) (AllReadyH.cons (o := { dst := some 27, op := Go.Op.alloc 84, type := 0, pos := "law.go:118", after := #[], guard := none }) rfl (fun K hK => ?_) AllReadyH.nil)
                   · go_simp
                     refine (matchDX_any d p s vi vp vx vt xi xo xr y0 y1 y2 y3 y4 qa na sa xa lq qc la nc ln sc lx xc (mq.map toQ) z2 HPC.out.dc HI.out.ok (by omega) (HMQ.out.1.below HPC.out.bel) HMQ.out.2).mono ?_; rintro e z3 ⟨r9, ok9, s9, rfl, hmx9, ⟨d2, hs3, hd2⟩, hf3⟩
                     obtain ⟨rfl, rfl, rfl⟩ := hmx9.one HMX.out
                     rw [show (encW ⟨⟨ri, rp, rx, rt⟩, ⟨rn, ry, rk⟩, rj, ru⟩).toArray = #[.int .i64 ri, .int .i64 rp, .string rx, .bool rt, .string rn, .int .i64 ry, .int .i64 rk, .int .i64 rj, .int .i64 ru] from rfl]
                     replace HPC := Lib.hid (HPC.out.doc hs3 hd2 hf3 (fun _ hx => hx))
                     have hnext : ((fun wx : World => wx.rangeAt gO 11 [.int .i64 vi, .int .i64 vp, .string vx, .bool vt] ∧ wx.rangeAt gO 15 [.int .i64 xi, .int .i64 xo, .int .i64 xr, .bool y0, .bool y1, .bool y2, .bool y3, .bool y4, .slice qa lq qc, .slice na la nc, .slice sa ln sc, .slice xa lx xc]) z3) := And.intro (fun j v hj => hf3.cellT (hHeld.1 j v hj) HGD.out.1) (fun j v hj => hf3.cellT (hHeld.2 j v hj) HGD.out.2.1)
                     replace HA := Lib.hid (HA.out.frm hf3 HGD.out.2.2)
                     replace HWS := Lib.hid (Nat.le_trans HWS.out hf3.size)
                     clear hmx9 hs3 hd2 hf3
                     refine hK.out _ _ (hnext) (fun hHeld2 => ?_)
                     clear hK K hHeld
                     have hHeld := hHeld2
                     clear hHeld2
                     try simp only [Act.put, List.setIfInBounds_toArray, List.set_cons_zero, List.set_cons_succ]
                     refine wpAnyH_take (i := 8) (oi := { dst := some 219, op := Go.Op.move (Go.Operand.tmp 227), type := 94, pos := "law.go:118", after := #[{ on := 7, ground := Go.Ground.data }], guard := none }) (v := ?v8_780104) rfl (by kernel_rfl) (by kernel_rfl) (by kernel_rfl) (fun _ _ _ h => h) (Or.inl ⟨by rfl, ?y8_780104⟩) hHeld ?r8_780104
                     case y8_780104 => intro w hSw; (try dsimp only at hSw); go_simp; try with_reducible rfl
                     try simp only [Act.put, List.setIfInBounds_toArray, List.set_cons_zero, List.set_cons_succ]
                     refine wpAnyH_take (i := 9) (oi := { dst := some 228, op := Go.Op.extract (Go.Operand.tmp 219) 0, type := 84, pos := "law.go:118", after := #[{ on := 8, ground := Go.Ground.data }], guard := none }) (v := ?v9_780104) rfl (by kernel_rfl) (by kernel_rfl) (by kernel_rfl) (fun _ _ _ h => h) (Or.inl ⟨by rfl, ?y9_780104⟩) hHeld ?r9_780104
                     case y9_780104 => intro w hSw; (try dsimp only at hSw); go_simp; try with_reducible rfl
                     try simp only [Act.put, List.setIfInBounds_toArray, List.set_cons_zero, List.set_cons_succ]
                     refine wpAnyH_take (i := 10) (oi := { dst := some 229, op := Go.Op.extract (Go.Operand.tmp 219) 1, type := 4, pos := "law.go:118", after := #[{ on := 8, ground := Go.Ground.data }, { on := 12, ground := Go.Ground.gcOnly Go.Departure.lateStores }], guard := none }) (v := ?v10_780104) rfl (by kernel_rfl) (by kernel_rfl) (by kernel_rfl) (fun _ _ _ h => h) (Or.inl ⟨by rfl, ?y10_780104⟩) hHeld ?r10_780104
                     case y10_780104 => intro w hSw; (try dsimp only at hSw); go_simp; try with_reducible rfl
                     try simp only [Act.put, List.setIfInBounds_toArray, List.set_cons_zero, List.set_cons_succ]
                     refine wpAnyH_ready (rs := [11]) (by kernel_rfl) (by simp) ?_
                     refine AllReadyH.cons (o := { dst := some 27, op := Go.Op.alloc 84, type := 0, pos := "law.go:118", after := #[], guard := none }) rfl (fun K hK => ?_) AllReadyH.nil
                     go_simp
                     have hal := (Below.refl z3.heap.size z3).alloc (Nat.le_refl _) (.cells #[.int .i64 0, .int .i64 0, .string ⟨#[]⟩, .bool false, .string ⟨#[]⟩, .int .i64 0, .int .i64 0, .int .i64 0, .int .i64 0] 84)
                     have hnext : ((fun wx : World => wx.rangeAt gO 11 [.int .i64 vi, .int .i64 vp, .string vx, .bool vt] ∧ wx.rangeAt gO 15 [.int .i64 xi, .int .i64 xo, .int .i64 xr, .bool y0, .bool y1, .bool y2, .bool y3, .bool y4, .slice qa lq qc, .slice na la nc, .slice sa ln sc, .slice xa lx xc]) _) := And.intro (fun j v hj => cell_later hal (hHeld.1 j v hj)) (fun j v hj => cell_later hal (hHeld.2 j v hj))
                     have HZ := Lib.hid (HeldT.new z3 #[.int .i64 0, .int .i64 0, .string ⟨#[]⟩, .bool false, .string ⟨#[]⟩, .int .i64 0, .int .i64 0, .int .i64 0, .int .i64 0] 84)
                     have HGB := Lib.hid (show (gA < z3.heap.size ∧ gO < z3.heap.size ∧ gO < z3.heap.size ∧ w.heap.size ≤ z3.heap.size) ∧ z3.heap.size ∉ c ∧ z3.heap.size ∉ d2 from ⟨⟨HA.out.2, Nat.lt_of_lt_of_le HSK.out.1 HWS.out, Nat.lt_of_lt_of_le HSK.out.2 HWS.out, HPC.out.bel.size⟩, fun e => by have := HPC.out.cd.lt _ e; omega, fun e => by have := HPC.out.dc.lt _ e; omega⟩)
                     replace HPC := Lib.hid (HPC.out.below hal)
                     replace HA := Lib.hid (HA.out.below hal)
                     replace HWS := Lib.hid (Nat.le_trans HWS.out hal.size)
                     obtain ⟨z4, hwf⟩ : ∃ z, z3.alloc (.cells #[.int .i64 0, .int .i64 0, .string ⟨#[]⟩, .bool false, .string ⟨#[]⟩, .int .i64 0, .int .i64 0, .int .i64 0, .int .i64 0] 84) = z := ⟨_, rfl⟩
                     obtain ⟨gB, hgb⟩ : ∃ z, z3.heap.size = z := ⟨_, rfl⟩
                     rw [hwf] at hnext HWS HPC HA HZ ⊢
                     rw [hgb] at HZ HGB ⊢
                     have HZL := Lib.hid HZ.out.2
                     clear hwf hgb hal
                     have HGC2 := Lib.hid HGB.out.2.2
                     refine hK.out _ _ (hnext) (fun hHeld2 => ?_)
                     clear hK K hHeld
                     have hHeld := hHeld2
                     clear hHeld2
                     try simp only [Act.put, List.setIfInBounds_toArray, List.set_cons_zero, List.set_cons_succ]
                     refine wpAnyH_ready (rs := [12]) (by kernel_rfl) (by simp) ?_
                     refine AllReadyH.cons (o := { dst := none, op := Go.Op.store 84 (Go.Operand.tmp 27) (Go.Operand.tmp 228), type := 0, pos := "law.go:118", after := #[{ on := 11, ground := Go.Ground.data }, { on := 9, ground := Go.Ground.data }, { on := 7, ground := Go.Ground.chain }, { on := 0, ground := Go.Ground.phase }, { on := 1, ground := Go.Ground.phase }, { on := 2, ground := Go.Ground.phase }, { on := 3, ground := Go.Ground.phase }, { on := 4, ground := Go.Ground.phase }, { on := 5, ground := Go.Ground.phase }, { on := 6, ground := Go.Ground.phase }, { on := 7, ground := Go.Ground.phase }, { on := 8, ground := Go.Ground.phase }, { on := 9, ground := Go.Ground.phase }, { on := 10, ground := Go.Ground.textOnly Go.Departure.lateStores }, { on := 11, ground := Go.Ground.phase }], guard := none }) rfl (fun K hK => ?_) AllReadyH.nil
                     refine step_store_mid (by rfl) 84 (.tmp 27) (.tmp 228) (by rfl) gB 0 #[.int .i64 ri, .int .i64 rp, .string rx, .bool rt, .string rn, .int .i64 ry, .int .i64 rk, .int .i64 rj, .int .i64 ru] (by rfl) (by rfl) (fun j hj => by obtain ⟨u, hu⟩ : ∃ u, ([.int .i64 0, .int .i64 0, .string ⟨#[]⟩, .bool false, .string ⟨#[]⟩, .int .i64 0, .int .i64 0, .int .i64 0, .int .i64 0] : List Value)[j]? = some u := ⟨_, List.getElem?_eq_getElem (show j < List.length [.int .i64 0, .int .i64 0, .string ⟨#[]⟩, .bool false, .string ⟨#[]⟩, .int .i64 0, .int .i64 0, .int .i64 0, .int .i64 0] from hj)⟩; obtain ⟨h1, h2⟩ := HZ.out.1 j u hu; rw [Nat.zero_add]; exact ⟨by rw [h1]; rfl, h2⟩) (by kernel_rfl) (all_oneCell_toArray (encW_one ⟨⟨ri, rp, rx, rt⟩, ⟨rn, ry, rk⟩, rj, ru⟩)) ?_
                     simp only [Act.put]
                     have HBb := Lib.hid (show HeldT gB [.int .i64 ri, .int .i64 rp, .string rx, .bool rt, .string rn, .int .i64 ry, .int .i64 rk, .int .i64 rj, .int .i64 ru] (z4.setCells gB 0 [.int .i64 ri, .int .i64 rp, .string rx, .bool rt, .string rn, .int .i64 ry, .int .i64 rk, .int .i64 rj, .int .i64 ru]) from HZ.out.into rfl)
                     have hfr := (Frm.refl z4 [gB]).sets gB 0 (Or.inl (by simp)) [.int .i64 ri, .int .i64 rp, .string rx, .bool rt, .string rn, .int .i64 ry, .int .i64 rk, .int .i64 rj, .int .i64 ru]
                     have hnext : ((fun wx : World => wx.rangeAt gO 11 [.int .i64 vi, .int .i64 vp, .string vx, .bool vt] ∧ wx.rangeAt gO 15 [.int .i64 xi, .int .i64 xo, .int .i64 xr, .bool y0, .bool y1, .bool y2, .bool y3, .bool y4, .slice qa lq qc, .slice na la nc, .slice sa ln sc, .slice xa lx xc]) _) := And.intro (fun j v hj => hfr.cellT (hHeld.1 j v hj) (by simp; have := HGB.out.1; omega)) (fun j v hj => hfr.cellT (hHeld.2 j v hj) (by simp; have := HGB.out.1; omega))
                     replace HA := Lib.hid (HA.out.frm hfr (by simp; have := HGB.out.1; omega))
                     replace HPC := Lib.hid (HPC.out.frm hfr (fun b hb => by simp at hb; subst hb; exact ⟨HGB.out.2.1, HGC2.out, HGB.out.1.2.2.2⟩))
                     obtain ⟨z5, hwh⟩ : ∃ z, z4.setCells gB 0 [.int .i64 ri, .int .i64 rp, .string rx, .bool rt, .string rn, .int .i64 ry, .int .i64 rk, .int .i64 rj, .int .i64 ru] = z := ⟨_, rfl⟩
                     rw [hwh] at HBb hnext HA HPC
                     rw [show z4.setCells gB 0 (#[.int .i64 ri, .int .i64 rp, .string rx, .bool rt, .string rn, .int .i64 ry, .int .i64 rk, .int .i64 rj, .int .i64 ru] : Array Value).toList = z5 from hwh]
                     clear hwh hfr HZ
                     refine hK.out _ _ (hnext) (fun hHeld2 => ?_)
                     clear hK K hHeld
                     have hHeld := hHeld2
                     clear hHeld2
                     try simp only [Act.put, List.setIfInBounds_toArray, List.set_cons_zero, List.set_cons_succ]
                     refine wpAnyH_take (i := 13) (oi := { dst := some 28, op := Go.Op.assign (Go.Operand.tmp 229), type := 4, pos := "law.go:118", after := #[{ on := 10, ground := Go.Ground.data }, { on := 12, ground := Go.Ground.chain }, { on := 0, ground := Go.Ground.phase }, { on := 1, ground := Go.Ground.phase }, { on := 2, ground := Go.Ground.phase }, { on := 3, ground := Go.Ground.phase }, { on := 4, ground := Go.Ground.phase }, { on := 5, ground := Go.Ground.phase }, { on := 6, ground := Go.Ground.phase }, { on := 7, ground := Go.Ground.phase }, { on := 8, ground := Go.Ground.phase }, { on := 9, ground := Go.Ground.phase }, { on := 10, ground := Go.Ground.phase }, { on := 11, ground := Go.Ground.phase }, { on := 12, ground := Go.Ground.phase }], guard := none }) (v := ?v13_780106) rfl (by kernel_rfl) (by kernel_rfl) (by kernel_rfl) (fun _ _ _ h => h) (Or.inl ⟨by rfl, ?y13_780106⟩) hHeld ?r13_780106
                     case y13_780106 => intro w hSw; (try dsimp only at hSw); go_simp; try with_reducible rfl
                     try simp only [Act.put, List.setIfInBounds_toArray, List.set_cons_zero, List.set_cons_succ]
                     refine wpAnyH_done (by kernel_rfl) ?_ _
                     go_wp2_with fail
                     go_meet
                     exact ⟨gB, d2, rfl, rfl, HPC, HA, HBb, Lib.hid hHeld.1⟩
                   · go_simp
                     have hal := (Below.refl z2.heap.size z2).alloc (Nat.le_refl _) (.cells #[.int .i64 0, .int .i64 0, .string ⟨#[]⟩, .bool false, .string ⟨#[]⟩, .int .i64 0, .int .i64 0, .int .i64 0, .int .i64 0] 84)
                     have hnext : ((fun wx : World => wx.rangeAt gO 11 [.int .i64 vi, .int .i64 vp, .string vx, .bool vt] ∧ wx.rangeAt gO 15 [.int .i64 xi, .int .i64 xo, .int .i64 xr, .bool y0, .bool y1, .bool y2, .bool y3, .bool y4, .slice qa lq qc, .slice na la nc, .slice sa ln sc, .slice xa lx xc]) _) := And.intro (fun j v hj => cell_later hal (hHeld.1 j v hj)) (fun j v hj => cell_later hal (hHeld.2 j v hj))
                     have HZ := Lib.hid (HeldT.new z2 #[.int .i64 0, .int .i64 0, .string ⟨#[]⟩, .bool false, .string ⟨#[]⟩, .int .i64 0, .int .i64 0, .int .i64 0, .int .i64 0] 84)
                     have HGB := Lib.hid (show (gA < z2.heap.size ∧ gO < z2.heap.size ∧ gO < z2.heap.size ∧ w.heap.size ≤ z2.heap.size) ∧ z2.heap.size ∉ c ∧ z2.heap.size ∉ d from ⟨⟨HA.out.2, Nat.lt_of_lt_of_le HSK.out.1 HWS.out, Nat.lt_of_lt_of_le HSK.out.2 HWS.out, HPC.out.bel.size⟩, fun e => by have := HPC.out.cd.lt _ e; omega, fun e => by have := HPC.out.dc.lt _ e; omega⟩)
                     replace HPC := Lib.hid (HPC.out.below hal)
                     replace HA := Lib.hid (HA.out.below hal)
                     replace HWS := Lib.hid (Nat.le_trans HWS.out hal.size)
                     obtain ⟨z3, hwf⟩ : ∃ z, z2.alloc (.cells #[.int .i64 0, .int .i64 0, .string ⟨#[]⟩, .bool false, .string ⟨#[]⟩, .int .i64 0, .int .i64 0, .int .i64 0, .int .i64 0] 84) = z := ⟨_, rfl⟩
                     obtain ⟨gB, hgb⟩ : ∃ z, z2.heap.size = z := ⟨_, rfl⟩
                     rw [hwf] at hnext HWS HPC HA HZ ⊢
                     rw [hgb] at HZ HGB ⊢
                     have HZL := Lib.hid HZ.out.2
                     clear hwf hgb hal
                     refine hK.out _ _ (hnext) (fun hHeld2 => ?_)
                     clear hK K hHeld
                     have hHeld := hHeld2
                     clear hHeld2
                     try simp only [Act.put, List.setIfInBounds_toArray, List.set_cons_zero, List.set_cons_succ]
                     refine wpAnyH_ready (rs := [7]) (by kernel_rfl) (by simp) ?_
                     refine AllReadyH.cons (o := { dst := some 227, op := Go.Op.call { callee := Go.Callee.value (Go.Operand.func 48), args := #[Go.Operand.tmp 220, Go.Operand.tmp 223, Go.Operand.tmp 226], argTypes := #[62, 82, 99] }, type := 94, pos := "law.go:118", after := #[{ on := 0, ground := Go.Ground.data }, { on := 3, ground := Go.Ground.data }, { on := 6, ground := Go.Ground.data }, { on := 6, ground := Go.Ground.chain }], guard := none }) rfl (fun K hK => ?_) AllReadyH.nil
                     go_simp
                     refine (matchDX_any d p s vi vp vx vt xi xo xr y0 y1 y2 y3 y4 qa na sa xa lq qc la nc ln sc lx xc (mq.map toQ) z3 HPC.out.dc HI.out.ok (by omega) (HMQ.out.1.below HPC.out.bel) HMQ.out.2).mono ?_; rintro e z4 ⟨r9, ok9, s9, rfl, hmx9, ⟨d2, hs3, hd2⟩, hf3⟩
                     obtain ⟨rfl, rfl, rfl⟩ := hmx9.one HMX.out
                     rw [show (encW ⟨⟨ri, rp, rx, rt⟩, ⟨rn, ry, rk⟩, rj, ru⟩).toArray = #[.int .i64 ri, .int .i64 rp, .string rx, .bool rt, .string rn, .int .i64 ry, .int .i64 rk, .int .i64 rj, .int .i64 ru] from rfl]
                     replace HPC := Lib.hid (HPC.out.doc hs3 hd2 hf3 (fun _ hx => hx))
                     have hnext : ((fun wx : World => wx.rangeAt gO 11 [.int .i64 vi, .int .i64 vp, .string vx, .bool vt] ∧ wx.rangeAt gO 15 [.int .i64 xi, .int .i64 xo, .int .i64 xr, .bool y0, .bool y1, .bool y2, .bool y3, .bool y4, .slice qa lq qc, .slice na la nc, .slice sa ln sc, .slice xa lx xc]) z4) := And.intro (fun j v hj => hf3.cellT (hHeld.1 j v hj) HGD.out.1) (fun j v hj => hf3.cellT (hHeld.2 j v hj) HGD.out.2.1)
                     replace HA := Lib.hid (HA.out.frm hf3 HGD.out.2.2)
                     have HGC2 := Lib.hid (show gB ∉ d2 from out_of hd2 HGB.out.2.2 HZ.out.2)
                     replace HZ := Lib.hid (HZ.out.frm hf3 HGB.out.2.2)
                     replace HWS := Lib.hid (Nat.le_trans HWS.out hf3.size)
                     clear hmx9 hs3 hd2 hf3
                     refine hK.out _ _ (hnext) (fun hHeld2 => ?_)
                     clear hK K hHeld
                     have hHeld := hHeld2
                     clear hHeld2
                     try simp only [Act.put, List.setIfInBounds_toArray, List.set_cons_zero, List.set_cons_succ]
                     refine wpAnyH_take (i := 8) (oi := { dst := some 219, op := Go.Op.move (Go.Operand.tmp 227), type := 94, pos := "law.go:118", after := #[{ on := 7, ground := Go.Ground.data }], guard := none }) (v := ?v8_780108) rfl (by kernel_rfl) (by kernel_rfl) (by kernel_rfl) (fun _ _ _ h => h) (Or.inl ⟨by rfl, ?y8_780108⟩) hHeld ?r8_780108
                     case y8_780108 => intro w hSw; (try dsimp only at hSw); go_simp; try with_reducible rfl
                     try simp only [Act.put, List.setIfInBounds_toArray, List.set_cons_zero, List.set_cons_succ]
                     refine wpAnyH_take (i := 9) (oi := { dst := some 228, op := Go.Op.extract (Go.Operand.tmp 219) 0, type := 84, pos := "law.go:118", after := #[{ on := 8, ground := Go.Ground.data }], guard := none }) (v := ?v9_780108) rfl (by kernel_rfl) (by kernel_rfl) (by kernel_rfl) (fun _ _ _ h => h) (Or.inl ⟨by rfl, ?y9_780108⟩) hHeld ?r9_780108
                     case y9_780108 => intro w hSw; (try dsimp only at hSw); go_simp; try with_reducible rfl
                     try simp only [Act.put, List.setIfInBounds_toArray, List.set_cons_zero, List.set_cons_succ]
                     refine wpAnyH_take (i := 10) (oi := { dst := some 229, op := Go.Op.extract (Go.Operand.tmp 219) 1, type := 4, pos := "law.go:118", after := #[{ on := 8, ground := Go.Ground.data }, { on := 12, ground := Go.Ground.gcOnly Go.Departure.lateStores }], guard := none }) (v := ?v10_780108) rfl (by kernel_rfl) (by kernel_rfl) (by kernel_rfl) (fun _ _ _ h => h) (Or.inl ⟨by rfl, ?y10_780108⟩) hHeld ?r10_780108
                     case y10_780108 => intro w hSw; (try dsimp only at hSw); go_simp; try with_reducible rfl
                     try simp only [Act.put, List.setIfInBounds_toArray, List.set_cons_zero, List.set_cons_succ]
                     refine wpAnyH_ready (rs := [12]) (by kernel_rfl) (by simp) ?_
                     refine AllReadyH.cons (o := { dst := none, op := Go.Op.store 84 (Go.Operand.tmp 27) (Go.Operand.tmp 228), type := 0, pos := "law.go:118", after := #[{ on := 11, ground := Go.Ground.data }, { on := 9, ground := Go.Ground.data }, { on := 7, ground := Go.Ground.chain }, { on := 0, ground := Go.Ground.phase }, { on := 1, ground := Go.Ground.phase }, { on := 2, ground := Go.Ground.phase }, { on := 3, ground := Go.Ground.phase }, { on := 4, ground := Go.Ground.phase }, { on := 5, ground := Go.Ground.phase }, { on := 6, ground := Go.Ground.phase }, { on := 7, ground := Go.Ground.phase }, { on := 8, ground := Go.Ground.phase }, { on := 9, ground := Go.Ground.phase }, { on := 10, ground := Go.Ground.textOnly Go.Departure.lateStores }, { on := 11, ground := Go.Ground.phase }], guard := none }) rfl (fun K hK => ?_) AllReadyH.nil
                     refine step_store_mid (by rfl) 84 (.tmp 27) (.tmp 228) (by rfl) gB 0 #[.int .i64 ri, .int .i64 rp, .string rx, .bool rt, .string rn, .int .i64 ry, .int .i64 rk, .int .i64 rj, .int .i64 ru] (by rfl) (by rfl) (fun j hj => by obtain ⟨u, hu⟩ : ∃ u, ([.int .i64 0, .int .i64 0, .string ⟨#[]⟩, .bool false, .string ⟨#[]⟩, .int .i64 0, .int .i64 0, .int .i64 0, .int .i64 0] : List Value)[j]? = some u := ⟨_, List.getElem?_eq_getElem (show j < List.length [.int .i64 0, .int .i64 0, .string ⟨#[]⟩, .bool false, .string ⟨#[]⟩, .int .i64 0, .int .i64 0, .int .i64 0, .int .i64 0] from hj)⟩; obtain ⟨h1, h2⟩ := HZ.out.1 j u hu; rw [Nat.zero_add]; exact ⟨by rw [h1]; rfl, h2⟩) (by kernel_rfl) (all_oneCell_toArray (encW_one ⟨⟨ri, rp, rx, rt⟩, ⟨rn, ry, rk⟩, rj, ru⟩)) ?_
                     simp only [Act.put]
                     have HBb := Lib.hid (show HeldT gB [.int .i64 ri, .int .i64 rp, .string rx, .bool rt, .string rn, .int .i64 ry, .int .i64 rk, .int .i64 rj, .int .i64 ru] (z4.setCells gB 0 [.int .i64 ri, .int .i64 rp, .string rx, .bool rt, .string rn, .int .i64 ry, .int .i64 rk, .int .i64 rj, .int .i64 ru]) from HZ.out.into rfl)
                     have hfr := (Frm.refl z4 [gB]).sets gB 0 (Or.inl (by simp)) [.int .i64 ri, .int .i64 rp, .string rx, .bool rt, .string rn, .int .i64 ry, .int .i64 rk, .int .i64 rj, .int .i64 ru]
                     have hnext : ((fun wx : World => wx.rangeAt gO 11 [.int .i64 vi, .int .i64 vp, .string vx, .bool vt] ∧ wx.rangeAt gO 15 [.int .i64 xi, .int .i64 xo, .int .i64 xr, .bool y0, .bool y1, .bool y2, .bool y3, .bool y4, .slice qa lq qc, .slice na la nc, .slice sa ln sc, .slice xa lx xc]) _) := And.intro (fun j v hj => hfr.cellT (hHeld.1 j v hj) (by simp; have := HGB.out.1; omega)) (fun j v hj => hfr.cellT (hHeld.2 j v hj) (by simp; have := HGB.out.1; omega))
                     replace HA := Lib.hid (HA.out.frm hfr (by simp; have := HGB.out.1; omega))
                     replace HPC := Lib.hid (HPC.out.frm hfr (fun b hb => by simp at hb; subst hb; exact ⟨HGB.out.2.1, HGC2.out, HGB.out.1.2.2.2⟩))
                     obtain ⟨z5, hwh⟩ : ∃ z, z4.setCells gB 0 [.int .i64 ri, .int .i64 rp, .string rx, .bool rt, .string rn, .int .i64 ry, .int .i64 rk, .int .i64 rj, .int .i64 ru] = z := ⟨_, rfl⟩
                     rw [hwh] at HBb hnext HA HPC
                     rw [show z4.setCells gB 0 (#[.int .i64 ri, .int .i64 rp, .string rx, .bool rt, .string rn, .int .i64 ry, .int .i64 rk, .int .i64 rj, .int .i64 ru] : Array Value).toList = z5 from hwh]
                     clear hwh hfr HZ
                     refine hK.out _ _ (hnext) (fun hHeld2 => ?_)
                     clear hK K hHeld
                     have hHeld := hHeld2
                     clear hHeld2
                     try simp only [Act.put, List.setIfInBounds_toArray, List.set_cons_zero, List.set_cons_succ]
                     refine wpAnyH_take (i := 13) (oi := { dst := some 28, op := Go.Op.assign (Go.Operand.tmp 229), type := 4, pos := "law.go:118", after := #[{ on := 10, ground := Go.Ground.data }, { on := 12, ground := Go.Ground.chain }, { on := 0, ground := Go.Ground.phase }, { on := 1, ground := Go.Ground.phase }, { on := 2, ground := Go.Ground.phase }, { on := 3, ground := Go.Ground.phase }, { on := 4, ground := Go.Ground.phase }, { on := 5, ground := Go.Ground.phase }, { on := 6, ground := Go.Ground.phase }, { on := 7, ground := Go.Ground.phase }, { on := 8, ground := Go.Ground.phase }, { on := 9, ground := Go.Ground.phase }, { on := 10, ground := Go.Ground.phase }, { on := 11, ground := Go.Ground.phase }, { on := 12, ground := Go.Ground.phase }], guard := none }) (v := ?v13_780109) rfl (by kernel_rfl) (by kernel_rfl) (by kernel_rfl) (fun _ _ _ h => h) (Or.inl ⟨by rfl, ?y13_780109⟩) hHeld ?r13_780109
                     case y13_780109 => intro w hSw; (try dsimp only at hSw); go_simp; try with_reducible rfl
                     try simp only [Act.put, List.setIfInBounds_toArray, List.set_cons_zero, List.set_cons_succ]
                     refine wpAnyH_done (by kernel_rfl) ?_ _
                     go_wp2_with fail
                     go_meet
                     exact ⟨gB, d2, rfl, rfl, HPC, HA, HBb, Lib.hid hHeld.1⟩
                 · go_simp
                   have hal := (Below.refl z1.heap.size z1).alloc (Nat.le_refl _) (.cells #[.int .i64 0, .int .i64 0, .string ⟨#[]⟩, .bool false, .string ⟨#[]⟩, .int .i64 0, .int .i64 0, .int .i64 0, .int .i64 0] 84)
                   have hnext : ((fun wx : World => wx.rangeAt gO 11 [.int .i64 vi, .int .i64 vp, .string vx, .bool vt] ∧ wx.rangeAt gO 15 [.int .i64 xi, .int .i64 xo, .int .i64 xr, .bool y0, .bool y1, .bool y2, .bool y3, .bool y4, .slice qa lq qc, .slice na la nc, .slice sa ln sc, .slice xa lx xc]) _) := And.intro (fun j v hj => cell_later hal (hHeld.1 j v hj)) (fun j v hj => cell_later hal (hHeld.2 j v hj))
                   have HZ := Lib.hid (HeldT.new z1 #[.int .i64 0, .int .i64 0, .string ⟨#[]⟩, .bool false, .string ⟨#[]⟩, .int .i64 0, .int .i64 0, .int .i64 0, .int .i64 0] 84)
                   have HGB := Lib.hid (show (gA < z1.heap.size ∧ gO < z1.heap.size ∧ gO < z1.heap.size ∧ w.heap.size ≤ z1.heap.size) ∧ z1.heap.size ∉ c ∧ z1.heap.size ∉ d from ⟨⟨HA.out.2, Nat.lt_of_lt_of_le HSK.out.1 HWS.out, Nat.lt_of_lt_of_le HSK.out.2 HWS.out, HPC.out.bel.size⟩, fun e => by have := HPC.out.cd.lt _ e; omega, fun e => by have := HPC.out.dc.lt _ e; omega⟩)
                   replace HPC := Lib.hid (HPC.out.below hal)
                   replace HA := Lib.hid (HA.out.below hal)
                   replace HWS := Lib.hid (Nat.le_trans HWS.out hal.size)
                   obtain ⟨z2, hwf⟩ : ∃ z, z1.alloc (.cells #[.int .i64 0, .int .i64 0, .string ⟨#[]⟩, .bool false, .string ⟨#[]⟩, .int .i64 0, .int .i64 0, .int .i64 0, .int .i64 0] 84) = z := ⟨_, rfl⟩
                   obtain ⟨gB, hgb⟩ : ∃ z, z1.heap.size = z := ⟨_, rfl⟩
                   rw [hwf] at hnext HWS HPC HA HZ ⊢
                   rw [hgb] at HZ HGB ⊢
                   have HZL := Lib.hid HZ.out.2
                   clear hwf hgb hal
                   refine hK.out _ _ (hnext) (fun hHeld2 => ?_)
                   clear hK K hHeld
                   have hHeld := hHeld2
                   clear hHeld2
                   try simp only [Act.put, List.setIfInBounds_toArray, List.set_cons_zero, List.set_cons_succ]
                   refine wpAnyH_ready (rs := [6]) (by kernel_rfl) (by simp) ?_
                   refine AllReadyH.cons (o := { dst := some 226, op := Go.Op.call { callee := Go.Callee.value (Go.Operand.func 50), args := #[Go.Operand.tmp 225], argTypes := #[75] }, type := 99, pos := "law.go:118", after := #[{ on := 5, ground := Go.Ground.data }, { on := 3, ground := Go.Ground.chain }], guard := none }) rfl (fun K hK => ?_) AllReadyH.nil
                   go_simp
                   refine (plainD_any xi xo xr y0 y1 y2 y3 y4 qa na sa xa lq qc la nc ln sc lx xc z2).mono ?_; rintro e z3 ⟨rfl, hb⟩
                   have hnext : ((fun wx : World => wx.rangeAt gO 11 [.int .i64 vi, .int .i64 vp, .string vx, .bool vt] ∧ wx.rangeAt gO 15 [.int .i64 xi, .int .i64 xo, .int .i64 xr, .bool y0, .bool y1, .bool y2, .bool y3, .bool y4, .slice qa lq qc, .slice na la nc, .slice sa ln sc, .slice xa lx xc]) z3) := And.intro (fun j v hj => cell_later hb (hHeld.1 j v hj)) (fun j v hj => cell_later hb (hHeld.2 j v hj))
                   replace HPC := Lib.hid (HPC.out.below hb)
                   replace HA := Lib.hid (HA.out.below hb)
                   replace HZ := Lib.hid (HZ.out.below hb)
                   replace HWS := Lib.hid (Nat.le_trans HWS.out hb.size)
                   clear hb
                   refine hK.out _ _ (hnext) (fun hHeld2 => ?_)
                   clear hK K hHeld
                   have hHeld := hHeld2
                   clear hHeld2
                   try simp only [Act.put, List.setIfInBounds_toArray, List.set_cons_zero, List.set_cons_succ]
                   refine wpAnyH_ready (rs := [7]) (by kernel_rfl) (by simp) ?_
                   refine AllReadyH.cons (o := { dst := some 227, op := Go.Op.call { callee := Go.Callee.value (Go.Operand.func 48), args := #[Go.Operand.tmp 220, Go.Operand.tmp 223, Go.Operand.tmp 226], argTypes := #[62, 82, 99] }, type := 94, pos := "law.go:118", after := #[{ on := 0, ground := Go.Ground.data }, { on := 3, ground := Go.Ground.data }, { on := 6, ground := Go.Ground.data }, { on := 6, ground := Go.Ground.chain }], guard := none }) rfl (fun K hK => ?_) AllReadyH.nil
                   go_simp
                   refine (matchDX_any d p s vi vp vx vt xi xo xr y0 y1 y2 y3 y4 qa na sa xa lq qc la nc ln sc lx xc (mq.map toQ) z3 HPC.out.dc HI.out.ok (by omega) (HMQ.out.1.below HPC.out.bel) HMQ.out.2).mono ?_; rintro e z4 ⟨r9, ok9, s9, rfl, hmx9, ⟨d2, hs3, hd2⟩, hf3⟩
                   obtain ⟨rfl, rfl, rfl⟩ := hmx9.one HMX.out
                   rw [show (encW ⟨⟨ri, rp, rx, rt⟩, ⟨rn, ry, rk⟩, rj, ru⟩).toArray = #[.int .i64 ri, .int .i64 rp, .string rx, .bool rt, .string rn, .int .i64 ry, .int .i64 rk, .int .i64 rj, .int .i64 ru] from rfl]
                   replace HPC := Lib.hid (HPC.out.doc hs3 hd2 hf3 (fun _ hx => hx))
                   have hnext : ((fun wx : World => wx.rangeAt gO 11 [.int .i64 vi, .int .i64 vp, .string vx, .bool vt] ∧ wx.rangeAt gO 15 [.int .i64 xi, .int .i64 xo, .int .i64 xr, .bool y0, .bool y1, .bool y2, .bool y3, .bool y4, .slice qa lq qc, .slice na la nc, .slice sa ln sc, .slice xa lx xc]) z4) := And.intro (fun j v hj => hf3.cellT (hHeld.1 j v hj) HGD.out.1) (fun j v hj => hf3.cellT (hHeld.2 j v hj) HGD.out.2.1)
                   replace HA := Lib.hid (HA.out.frm hf3 HGD.out.2.2)
                   have HGC2 := Lib.hid (show gB ∉ d2 from out_of hd2 HGB.out.2.2 HZ.out.2)
                   replace HZ := Lib.hid (HZ.out.frm hf3 HGB.out.2.2)
                   replace HWS := Lib.hid (Nat.le_trans HWS.out hf3.size)
                   clear hmx9 hs3 hd2 hf3
                   refine hK.out _ _ (hnext) (fun hHeld2 => ?_)
                   clear hK K hHeld
                   have hHeld := hHeld2
                   clear hHeld2
                   try simp only [Act.put, List.setIfInBounds_toArray, List.set_cons_zero, List.set_cons_succ]
                   refine wpAnyH_take (i := 8) (oi := { dst := some 219, op := Go.Op.move (Go.Operand.tmp 227), type := 94, pos := "law.go:118", after := #[{ on := 7, ground := Go.Ground.data }], guard := none }) (v := ?v8_780112) rfl (by kernel_rfl) (by kernel_rfl) (by kernel_rfl) (fun _ _ _ h => h) (Or.inl ⟨by rfl, ?y8_780112⟩) hHeld ?r8_780112
                   case y8_780112 => intro w hSw; (try dsimp only at hSw); go_simp; try with_reducible rfl
                   try simp only [Act.put, List.setIfInBounds_toArray, List.set_cons_zero, List.set_cons_succ]
                   refine wpAnyH_take (i := 9) (oi := { dst := some 228, op := Go.Op.extract (Go.Operand.tmp 219) 0, type := 84, pos := "law.go:118", after := #[{ on := 8, ground := Go.Ground.data }], guard := none }) (v := ?v9_780112) rfl (by kernel_rfl) (by kernel_rfl) (by kernel_rfl) (fun _ _ _ h => h) (Or.inl ⟨by rfl, ?y9_780112⟩) hHeld ?r9_780112
                   case y9_780112 => intro w hSw; (try dsimp only at hSw); go_simp; try with_reducible rfl
                   try simp only [Act.put, List.setIfInBounds_toArray, List.set_cons_zero, List.set_cons_succ]
                   refine wpAnyH_take (i := 10) (oi := { dst := some 229, op := Go.Op.extract (Go.Operand.tmp 219) 1, type := 4, pos := "law.go:118", after := #[{ on := 8, ground := Go.Ground.data }, { on := 12, ground := Go.Ground.gcOnly Go.Departure.lateStores }], guard := none }) (v := ?v10_780112) rfl (by kernel_rfl) (by kernel_rfl) (by kernel_rfl) (fun _ _ _ h => h) (Or.inl ⟨by rfl, ?y10_780112⟩) hHeld ?r10_780112
                   case y10_780112 => intro w hSw; (try dsimp only at hSw); go_simp; try with_reducible rfl
                   try simp only [Act.put, List.setIfInBounds_toArray, List.set_cons_zero, List.set_cons_succ]
                   refine wpAnyH_ready (rs := [12]) (by kernel_rfl) (by simp) ?_
                   refine AllReadyH.cons (o := { dst := none, op := Go.Op.store 84 (Go.Operand.tmp 27) (Go.Operand.tmp 228), type := 0, pos := "law.go:118", after := #[{ on := 11, ground := Go.Ground.data }, { on := 9, ground := Go.Ground.data }, { on := 7, ground := Go.Ground.chain }, { on := 0, ground := Go.Ground.phase }, { on := 1, ground := Go.Ground.phase }, { on := 2, ground := Go.Ground.phase }, { on := 3, ground := Go.Ground.phase }, { on := 4, ground := Go.Ground.phase }, { on := 5, ground := Go.Ground.phase }, { on := 6, ground := Go.Ground.phase }, { on := 7, ground := Go.Ground.phase }, { on := 8, ground := Go.Ground.phase }, { on := 9, ground := Go.Ground.phase }, { on := 10, ground := Go.Ground.textOnly Go.Departure.lateStores }, { on := 11, ground := Go.Ground.phase }], guard := none }) rfl (fun K hK => ?_) AllReadyH.nil
                   refine step_store_mid (by rfl) 84 (.tmp 27) (.tmp 228) (by rfl) gB 0 #[.int .i64 ri, .int .i64 rp, .string rx, .bool rt, .string rn, .int .i64 ry, .int .i64 rk, .int .i64 rj, .int .i64 ru] (by rfl) (by rfl) (fun j hj => by obtain ⟨u, hu⟩ : ∃ u, ([.int .i64 0, .int .i64 0, .string ⟨#[]⟩, .bool false, .string ⟨#[]⟩, .int .i64 0, .int .i64 0, .int .i64 0, .int .i64 0] : List Value)[j]? = some u := ⟨_, List.getElem?_eq_getElem (show j < List.length [.int .i64 0, .int .i64 0, .string ⟨#[]⟩, .bool false, .string ⟨#[]⟩, .int .i64 0, .int .i64 0, .int .i64 0, .int .i64 0] from hj)⟩; obtain ⟨h1, h2⟩ := HZ.out.1 j u hu; rw [Nat.zero_add]; exact ⟨by rw [h1]; rfl, h2⟩) (by kernel_rfl) (all_oneCell_toArray (encW_one ⟨⟨ri, rp, rx, rt⟩, ⟨rn, ry, rk⟩, rj, ru⟩)) ?_
                   simp only [Act.put]
                   have HBb := Lib.hid (show HeldT gB [.int .i64 ri, .int .i64 rp, .string rx, .bool rt, .string rn, .int .i64 ry, .int .i64 rk, .int .i64 rj, .int .i64 ru] (z4.setCells gB 0 [.int .i64 ri, .int .i64 rp, .string rx, .bool rt, .string rn, .int .i64 ry, .int .i64 rk, .int .i64 rj, .int .i64 ru]) from HZ.out.into rfl)
                   have hfr := (Frm.refl z4 [gB]).sets gB 0 (Or.inl (by simp)) [.int .i64 ri, .int .i64 rp, .string rx, .bool rt, .string rn, .int .i64 ry, .int .i64 rk, .int .i64 rj, .int .i64 ru]
                   have hnext : ((fun wx : World => wx.rangeAt gO 11 [.int .i64 vi, .int .i64 vp, .string vx, .bool vt] ∧ wx.rangeAt gO 15 [.int .i64 xi, .int .i64 xo, .int .i64 xr, .bool y0, .bool y1, .bool y2, .bool y3, .bool y4, .slice qa lq qc, .slice na la nc, .slice sa ln sc, .slice xa lx xc]) _) := And.intro (fun j v hj => hfr.cellT (hHeld.1 j v hj) (by simp; have := HGB.out.1; omega)) (fun j v hj => hfr.cellT (hHeld.2 j v hj) (by simp; have := HGB.out.1; omega))
                   replace HA := Lib.hid (HA.out.frm hfr (by simp; have := HGB.out.1; omega))
                   replace HPC := Lib.hid (HPC.out.frm hfr (fun b hb => by simp at hb; subst hb; exact ⟨HGB.out.2.1, HGC2.out, HGB.out.1.2.2.2⟩))
                   obtain ⟨z5, hwh⟩ : ∃ z, z4.setCells gB 0 [.int .i64 ri, .int .i64 rp, .string rx, .bool rt, .string rn, .int .i64 ry, .int .i64 rk, .int .i64 rj, .int .i64 ru] = z := ⟨_, rfl⟩
                   rw [hwh] at HBb hnext HA HPC
                   rw [show z4.setCells gB 0 (#[.int .i64 ri, .int .i64 rp, .string rx, .bool rt, .string rn, .int .i64 ry, .int .i64 rk, .int .i64 rj, .int .i64 ru] : Array Value).toList = z5 from hwh]
                   clear hwh hfr HZ
                   refine hK.out _ _ (hnext) (fun hHeld2 => ?_)
                   clear hK K hHeld
                   have hHeld := hHeld2
                   clear hHeld2
                   try simp only [Act.put, List.setIfInBounds_toArray, List.set_cons_zero, List.set_cons_succ]
                   refine wpAnyH_take (i := 13) (oi := { dst := some 28, op := Go.Op.assign (Go.Operand.tmp 229), type := 4, pos := "law.go:118", after := #[{ on := 10, ground := Go.Ground.data }, { on := 12, ground := Go.Ground.chain }, { on := 0, ground := Go.Ground.phase }, { on := 1, ground := Go.Ground.phase }, { on := 2, ground := Go.Ground.phase }, { on := 3, ground := Go.Ground.phase }, { on := 4, ground := Go.Ground.phase }, { on := 5, ground := Go.Ground.phase }, { on := 6, ground := Go.Ground.phase }, { on := 7, ground := Go.Ground.phase }, { on := 8, ground := Go.Ground.phase }, { on := 9, ground := Go.Ground.phase }, { on := 10, ground := Go.Ground.phase }, { on := 11, ground := Go.Ground.phase }, { on := 12, ground := Go.Ground.phase }], guard := none }) (v := ?v13_780113) rfl (by kernel_rfl) (by kernel_rfl) (by kernel_rfl) (fun _ _ _ h => h) (Or.inl ⟨by rfl, ?y13_780113⟩) hHeld ?r13_780113
                   case y13_780113 => intro w hSw; (try dsimp only at hSw); go_simp; try with_reducible rfl
                   try simp only [Act.put, List.setIfInBounds_toArray, List.set_cons_zero, List.set_cons_succ]
                   refine wpAnyH_done (by kernel_rfl) ?_ _
                   go_wp2_with fail
                   go_meet
                   exact ⟨gB, d2, rfl, rfl, HPC, HA, HBb, Lib.hid hHeld.1⟩
               · go_simp
                 have hal := (Below.refl z0.heap.size z0).alloc (Nat.le_refl _) (.cells #[.int .i64 0, .int .i64 0, .string ⟨#[]⟩, .bool false, .string ⟨#[]⟩, .int .i64 0, .int .i64 0, .int .i64 0, .int .i64 0] 84)
                 have hnext : ((fun wx : World => wx.rangeAt gO 11 [.int .i64 vi, .int .i64 vp, .string vx, .bool vt] ∧ wx.rangeAt gO 15 [.int .i64 xi, .int .i64 xo, .int .i64 xr, .bool y0, .bool y1, .bool y2, .bool y3, .bool y4, .slice qa lq qc, .slice na la nc, .slice sa ln sc, .slice xa lx xc]) _) := And.intro (fun j v hj => cell_later hal (hHeld.1 j v hj)) (fun j v hj => cell_later hal (hHeld.2 j v hj))
                 have HZ := Lib.hid (HeldT.new z0 #[.int .i64 0, .int .i64 0, .string ⟨#[]⟩, .bool false, .string ⟨#[]⟩, .int .i64 0, .int .i64 0, .int .i64 0, .int .i64 0] 84)
                 have HGB := Lib.hid (show (gA < z0.heap.size ∧ gO < z0.heap.size ∧ gO < z0.heap.size ∧ w.heap.size ≤ z0.heap.size) ∧ z0.heap.size ∉ c ∧ z0.heap.size ∉ d from ⟨⟨HA.out.2, Nat.lt_of_lt_of_le HSK.out.1 HWS.out, Nat.lt_of_lt_of_le HSK.out.2 HWS.out, HPC.out.bel.size⟩, fun e => by have := HPC.out.cd.lt _ e; omega, fun e => by have := HPC.out.dc.lt _ e; omega⟩)
                 replace HPC := Lib.hid (HPC.out.below hal)
                 replace HA := Lib.hid (HA.out.below hal)
                 replace HWS := Lib.hid (Nat.le_trans HWS.out hal.size)
                 obtain ⟨z1, hwf⟩ : ∃ z, z0.alloc (.cells #[.int .i64 0, .int .i64 0, .string ⟨#[]⟩, .bool false, .string ⟨#[]⟩, .int .i64 0, .int .i64 0, .int .i64 0, .int .i64 0] 84) = z := ⟨_, rfl⟩
                 obtain ⟨gB, hgb⟩ : ∃ z, z0.heap.size = z := ⟨_, rfl⟩
                 rw [hwf] at hnext HWS HPC HA HZ ⊢
                 rw [hgb] at HZ HGB ⊢
                 have HZL := Lib.hid HZ.out.2
                 clear hwf hgb hal
                 refine hK.out _ _ (hnext) (fun hHeld2 => ?_)
                 clear hK K hHeld
                 have hHeld := hHeld2
                 clear hHeld2
                 try simp only [Act.put, List.setIfInBounds_toArray, List.set_cons_zero, List.set_cons_succ]
                 refine wpAnyH_ready (rs := [3]) (by kernel_rfl) (by simp) ?_
                 refine AllReadyH.cons (o := { dst := some 223, op := Go.Op.call { callee := Go.Callee.value (Go.Operand.func 49), args := #[Go.Operand.tmp 222], argTypes := #[69] }, type := 82, pos := "law.go:118", after := #[{ on := 2, ground := Go.Ground.data }], guard := none }) rfl (fun K hK => ?_) AllReadyH.nil
                 go_simp
                 refine (markD_any vi vp vx vt z1).mono ?_; rintro e z2 ⟨rfl, hb⟩
                 have hnext : ((fun wx : World => wx.rangeAt gO 11 [.int .i64 vi, .int .i64 vp, .string vx, .bool vt] ∧ wx.rangeAt gO 15 [.int .i64 xi, .int .i64 xo, .int .i64 xr, .bool y0, .bool y1, .bool y2, .bool y3, .bool y4, .slice qa lq qc, .slice na la nc, .slice sa ln sc, .slice xa lx xc]) z2) := And.intro (fun j v hj => cell_later hb (hHeld.1 j v hj)) (fun j v hj => cell_later hb (hHeld.2 j v hj))
                 replace HPC := Lib.hid (HPC.out.below hb)
                 replace HA := Lib.hid (HA.out.below hb)
                 replace HZ := Lib.hid (HZ.out.below hb)
                 replace HWS := Lib.hid (Nat.le_trans HWS.out hb.size)
                 clear hb
                 refine hK.out _ _ (hnext) (fun hHeld2 => ?_)
                 clear hK K hHeld
                 have hHeld := hHeld2
                 clear hHeld2
                 try simp only [Act.put, List.setIfInBounds_toArray, List.set_cons_zero, List.set_cons_succ]
                 refine wpAnyH_ready (rs := [6]) (by kernel_rfl) (by simp) ?_
                 refine AllReadyH.cons (o := { dst := some 226, op := Go.Op.call { callee := Go.Callee.value (Go.Operand.func 50), args := #[Go.Operand.tmp 225], argTypes := #[75] }, type := 99, pos := "law.go:118", after := #[{ on := 5, ground := Go.Ground.data }, { on := 3, ground := Go.Ground.chain }], guard := none }) rfl (fun K hK => ?_) AllReadyH.nil
                 go_simp
                 refine (plainD_any xi xo xr y0 y1 y2 y3 y4 qa na sa xa lq qc la nc ln sc lx xc z2).mono ?_; rintro e z3 ⟨rfl, hb⟩
                 have hnext : ((fun wx : World => wx.rangeAt gO 11 [.int .i64 vi, .int .i64 vp, .string vx, .bool vt] ∧ wx.rangeAt gO 15 [.int .i64 xi, .int .i64 xo, .int .i64 xr, .bool y0, .bool y1, .bool y2, .bool y3, .bool y4, .slice qa lq qc, .slice na la nc, .slice sa ln sc, .slice xa lx xc]) z3) := And.intro (fun j v hj => cell_later hb (hHeld.1 j v hj)) (fun j v hj => cell_later hb (hHeld.2 j v hj))
                 replace HPC := Lib.hid (HPC.out.below hb)
                 replace HA := Lib.hid (HA.out.below hb)
                 replace HZ := Lib.hid (HZ.out.below hb)
                 replace HWS := Lib.hid (Nat.le_trans HWS.out hb.size)
                 clear hb
                 refine hK.out _ _ (hnext) (fun hHeld2 => ?_)
                 clear hK K hHeld
                 have hHeld := hHeld2
                 clear hHeld2
                 try simp only [Act.put, List.setIfInBounds_toArray, List.set_cons_zero, List.set_cons_succ]
                 refine wpAnyH_ready (rs := [7]) (by kernel_rfl) (by simp) ?_
                 refine AllReadyH.cons (o := { dst := some 227, op := Go.Op.call { callee := Go.Callee.value (Go.Operand.func 48), args := #[Go.Operand.tmp 220, Go.Operand.tmp 223, Go.Operand.tmp 226], argTypes := #[62, 82, 99] }, type := 94, pos := "law.go:118", after := #[{ on := 0, ground := Go.Ground.data }, { on := 3, ground := Go.Ground.data }, { on := 6, ground := Go.Ground.data }, { on := 6, ground := Go.Ground.chain }], guard := none }) rfl (fun K hK => ?_) AllReadyH.nil
                 go_simp
                 refine (matchDX_any d p s vi vp vx vt xi xo xr y0 y1 y2 y3 y4 qa na sa xa lq qc la nc ln sc lx xc (mq.map toQ) z3 HPC.out.dc HI.out.ok (by omega) (HMQ.out.1.below HPC.out.bel) HMQ.out.2).mono ?_; rintro e z4 ⟨r9, ok9, s9, rfl, hmx9, ⟨d2, hs3, hd2⟩, hf3⟩
                 obtain ⟨rfl, rfl, rfl⟩ := hmx9.one HMX.out
                 rw [show (encW ⟨⟨ri, rp, rx, rt⟩, ⟨rn, ry, rk⟩, rj, ru⟩).toArray = #[.int .i64 ri, .int .i64 rp, .string rx, .bool rt, .string rn, .int .i64 ry, .int .i64 rk, .int .i64 rj, .int .i64 ru] from rfl]
                 replace HPC := Lib.hid (HPC.out.doc hs3 hd2 hf3 (fun _ hx => hx))
                 have hnext : ((fun wx : World => wx.rangeAt gO 11 [.int .i64 vi, .int .i64 vp, .string vx, .bool vt] ∧ wx.rangeAt gO 15 [.int .i64 xi, .int .i64 xo, .int .i64 xr, .bool y0, .bool y1, .bool y2, .bool y3, .bool y4, .slice qa lq qc, .slice na la nc, .slice sa ln sc, .slice xa lx xc]) z4) := And.intro (fun j v hj => hf3.cellT (hHeld.1 j v hj) HGD.out.1) (fun j v hj => hf3.cellT (hHeld.2 j v hj) HGD.out.2.1)
                 replace HA := Lib.hid (HA.out.frm hf3 HGD.out.2.2)
                 have HGC2 := Lib.hid (show gB ∉ d2 from out_of hd2 HGB.out.2.2 HZ.out.2)
                 replace HZ := Lib.hid (HZ.out.frm hf3 HGB.out.2.2)
                 replace HWS := Lib.hid (Nat.le_trans HWS.out hf3.size)
                 clear hmx9 hs3 hd2 hf3
                 refine hK.out _ _ (hnext) (fun hHeld2 => ?_)
                 clear hK K hHeld
                 have hHeld := hHeld2
                 clear hHeld2
                 try simp only [Act.put, List.setIfInBounds_toArray, List.set_cons_zero, List.set_cons_succ]
                 refine wpAnyH_take (i := 8) (oi := { dst := some 219, op := Go.Op.move (Go.Operand.tmp 227), type := 94, pos := "law.go:118", after := #[{ on := 7, ground := Go.Ground.data }], guard := none }) (v := ?v8_780117) rfl (by kernel_rfl) (by kernel_rfl) (by kernel_rfl) (fun _ _ _ h => h) (Or.inl ⟨by rfl, ?y8_780117⟩) hHeld ?r8_780117
                 case y8_780117 => intro w hSw; (try dsimp only at hSw); go_simp; try with_reducible rfl
                 try simp only [Act.put, List.setIfInBounds_toArray, List.set_cons_zero, List.set_cons_succ]
                 refine wpAnyH_take (i := 9) (oi := { dst := some 228, op := Go.Op.extract (Go.Operand.tmp 219) 0, type := 84, pos := "law.go:118", after := #[{ on := 8, ground := Go.Ground.data }], guard := none }) (v := ?v9_780117) rfl (by kernel_rfl) (by kernel_rfl) (by kernel_rfl) (fun _ _ _ h => h) (Or.inl ⟨by rfl, ?y9_780117⟩) hHeld ?r9_780117
                 case y9_780117 => intro w hSw; (try dsimp only at hSw); go_simp; try with_reducible rfl
                 try simp only [Act.put, List.setIfInBounds_toArray, List.set_cons_zero, List.set_cons_succ]
                 refine wpAnyH_take (i := 10) (oi := { dst := some 229, op := Go.Op.extract (Go.Operand.tmp 219) 1, type := 4, pos := "law.go:118", after := #[{ on := 8, ground := Go.Ground.data }, { on := 12, ground := Go.Ground.gcOnly Go.Departure.lateStores }], guard := none }) (v := ?v10_780117) rfl (by kernel_rfl) (by kernel_rfl) (by kernel_rfl) (fun _ _ _ h => h) (Or.inl ⟨by rfl, ?y10_780117⟩) hHeld ?r10_780117
                 case y10_780117 => intro w hSw; (try dsimp only at hSw); go_simp; try with_reducible rfl
                 try simp only [Act.put, List.setIfInBounds_toArray, List.set_cons_zero, List.set_cons_succ]
                 refine wpAnyH_ready (rs := [12]) (by kernel_rfl) (by simp) ?_
                 refine AllReadyH.cons (o := { dst := none, op := Go.Op.store 84 (Go.Operand.tmp 27) (Go.Operand.tmp 228), type := 0, pos := "law.go:118", after := #[{ on := 11, ground := Go.Ground.data }, { on := 9, ground := Go.Ground.data }, { on := 7, ground := Go.Ground.chain }, { on := 0, ground := Go.Ground.phase }, { on := 1, ground := Go.Ground.phase }, { on := 2, ground := Go.Ground.phase }, { on := 3, ground := Go.Ground.phase }, { on := 4, ground := Go.Ground.phase }, { on := 5, ground := Go.Ground.phase }, { on := 6, ground := Go.Ground.phase }, { on := 7, ground := Go.Ground.phase }, { on := 8, ground := Go.Ground.phase }, { on := 9, ground := Go.Ground.phase }, { on := 10, ground := Go.Ground.textOnly Go.Departure.lateStores }, { on := 11, ground := Go.Ground.phase }], guard := none }) rfl (fun K hK => ?_) AllReadyH.nil
                 refine step_store_mid (by rfl) 84 (.tmp 27) (.tmp 228) (by rfl) gB 0 #[.int .i64 ri, .int .i64 rp, .string rx, .bool rt, .string rn, .int .i64 ry, .int .i64 rk, .int .i64 rj, .int .i64 ru] (by rfl) (by rfl) (fun j hj => by obtain ⟨u, hu⟩ : ∃ u, ([.int .i64 0, .int .i64 0, .string ⟨#[]⟩, .bool false, .string ⟨#[]⟩, .int .i64 0, .int .i64 0, .int .i64 0, .int .i64 0] : List Value)[j]? = some u := ⟨_, List.getElem?_eq_getElem (show j < List.length [.int .i64 0, .int .i64 0, .string ⟨#[]⟩, .bool false, .string ⟨#[]⟩, .int .i64 0, .int .i64 0, .int .i64 0, .int .i64 0] from hj)⟩; obtain ⟨h1, h2⟩ := HZ.out.1 j u hu; rw [Nat.zero_add]; exact ⟨by rw [h1]; rfl, h2⟩) (by kernel_rfl) (all_oneCell_toArray (encW_one ⟨⟨ri, rp, rx, rt⟩, ⟨rn, ry, rk⟩, rj, ru⟩)) ?_
                 simp only [Act.put]
                 have HBb := Lib.hid (show HeldT gB [.int .i64 ri, .int .i64 rp, .string rx, .bool rt, .string rn, .int .i64 ry, .int .i64 rk, .int .i64 rj, .int .i64 ru] (z4.setCells gB 0 [.int .i64 ri, .int .i64 rp, .string rx, .bool rt, .string rn, .int .i64 ry, .int .i64 rk, .int .i64 rj, .int .i64 ru]) from HZ.out.into rfl)
                 have hfr := (Frm.refl z4 [gB]).sets gB 0 (Or.inl (by simp)) [.int .i64 ri, .int .i64 rp, .string rx, .bool rt, .string rn, .int .i64 ry, .int .i64 rk, .int .i64 rj, .int .i64 ru]
                 have hnext : ((fun wx : World => wx.rangeAt gO 11 [.int .i64 vi, .int .i64 vp, .string vx, .bool vt] ∧ wx.rangeAt gO 15 [.int .i64 xi, .int .i64 xo, .int .i64 xr, .bool y0, .bool y1, .bool y2, .bool y3, .bool y4, .slice qa lq qc, .slice na la nc, .slice sa ln sc, .slice xa lx xc]) _) := And.intro (fun j v hj => hfr.cellT (hHeld.1 j v hj) (by simp; have := HGB.out.1; omega)) (fun j v hj => hfr.cellT (hHeld.2 j v hj) (by simp; have := HGB.out.1; omega))
                 replace HA := Lib.hid (HA.out.frm hfr (by simp; have := HGB.out.1; omega))
                 replace HPC := Lib.hid (HPC.out.frm hfr (fun b hb => by simp at hb; subst hb; exact ⟨HGB.out.2.1, HGC2.out, HGB.out.1.2.2.2⟩))
                 obtain ⟨z5, hwh⟩ : ∃ z, z4.setCells gB 0 [.int .i64 ri, .int .i64 rp, .string rx, .bool rt, .string rn, .int .i64 ry, .int .i64 rk, .int .i64 rj, .int .i64 ru] = z := ⟨_, rfl⟩
                 rw [hwh] at HBb hnext HA HPC
                 rw [show z4.setCells gB 0 (#[.int .i64 ri, .int .i64 rp, .string rx, .bool rt, .string rn, .int .i64 ry, .int .i64 rk, .int .i64 rj, .int .i64 ru] : Array Value).toList = z5 from hwh]
                 clear hwh hfr HZ
                 refine hK.out _ _ (hnext) (fun hHeld2 => ?_)
                 clear hK K hHeld
                 have hHeld := hHeld2
                 clear hHeld2
                 try simp only [Act.put, List.setIfInBounds_toArray, List.set_cons_zero, List.set_cons_succ]
                 refine wpAnyH_take (i := 13) (oi := { dst := some 28, op := Go.Op.assign (Go.Operand.tmp 229), type := 4, pos := "law.go:118", after := #[{ on := 10, ground := Go.Ground.data }, { on := 12, ground := Go.Ground.chain }, { on := 0, ground := Go.Ground.phase }, { on := 1, ground := Go.Ground.phase }, { on := 2, ground := Go.Ground.phase }, { on := 3, ground := Go.Ground.phase }, { on := 4, ground := Go.Ground.phase }, { on := 5, ground := Go.Ground.phase }, { on := 6, ground := Go.Ground.phase }, { on := 7, ground := Go.Ground.phase }, { on := 8, ground := Go.Ground.phase }, { on := 9, ground := Go.Ground.phase }, { on := 10, ground := Go.Ground.phase }, { on := 11, ground := Go.Ground.phase }, { on := 12, ground := Go.Ground.phase }], guard := none }) (v := ?v13_780118) rfl (by kernel_rfl) (by kernel_rfl) (by kernel_rfl) (fun _ _ _ h => h) (Or.inl ⟨by rfl, ?y13_780118⟩) hHeld ?r13_780118
                 case y13_780118 => intro w hSw; (try dsimp only at hSw); go_simp; try with_reducible rfl
                 try simp only [Act.put, List.setIfInBounds_toArray, List.set_cons_zero, List.set_cons_succ]
                 refine wpAnyH_done (by kernel_rfl) ?_ _
                 go_wp2_with fail
                 go_meet
                 exact ⟨gB, d2, rfl, rfl, HPC, HA, HBb, Lib.hid hHeld.1⟩
             obtain ⟨gB, d2, rfl, rfl, HPE, HA9, HBb, HRK9⟩ := hcut
             clear HPC HA HRK HRM HGD HSK
             obtain ⟨wE, hwE⟩ : ∃ z, wc = z := ⟨_, rfl⟩
             rw [hwE] at HPE HA9 HBb HRK9 ⊢
             clear hwE
             have hrw := fun W => rw_eql ri rp rx rt rn ry rk rj ru W
             have HI2 := Lib.hid (HI.out.mx HMX.out)
             obtain ⟨sm, hsm⟩ : ∃ z, sameM ⟨vi, vp, vx, vt⟩ ⟨ri, rp, rx, rt⟩ = z := ⟨_, rfl⟩
             have HSM := Lib.hid hsm
             have HOS := Lib.hid (show sm = false → ok = false from fun h => by
               cases ok
               · rfl
               · have := HMX.out.mark
                 rw [show sameM (⟨vi, vp, vx, vt⟩ : MkP) ⟨ri, rp, rx, rt⟩ = sm from hsm, h] at this
                 cases this)
             clear hsm
             have hee : (ok == ok) = true := by simp
             go_upto_region 36 with (fail)
             refine wp_region_held_drew (S := (fun wx : World => HeldT gA [.int .i64 ri, .int .i64 rp, .string rx, .bool rt, .string rn, .int .i64 ry, .int .i64 rk, .int .i64 rj, .int .i64 ru] wx ∧ HeldT gB [.int .i64 ri, .int .i64 rp, .string rx, .bool rt, .string rn, .int .i64 ry, .int .i64 rk, .int .i64 rj, .int .i64 ru] wx ∧ wx.rangeAt gO 11 [.int .i64 vi, .int .i64 vp, .string vx, .bool vt])) (by kernel_rfl) (⟨HA9.out.below (Below.refl _ _).drew, HBb.out.below (Below.refl _ _).drew, fun j v hj => cell_later (Below.refl _ _).drew (HRK9.out j v hj)⟩) (fun hHeld => ?_)
             have hb := (Below.refl wE.heap.size wE).drew
             replace HPE := Lib.hid (HPE.out.below hb)
             obtain ⟨z0, hwd⟩ : ∃ z, wE.drew = z := ⟨_, rfl⟩
             rw [hwd] at HPE hHeld ⊢
             clear hwd hb HA9 HBb HRK9
             refine wpAnyH_take (i := 0) (oi := { dst := some 230, op := Go.Op.load 79 (Go.Operand.tmp 25), type := 79, pos := "law.go:119", after := #[], guard := none }) (v := ?v0_790101) rfl (by kernel_rfl) (by kernel_rfl) (by kernel_rfl) (fun _ _ _ h => h) (Or.inl ⟨by rfl, ?y0_790101⟩) hHeld ?r0_790101
             case y0_790101 => intro w hSw; (try dsimp only at hSw); obtain ⟨⟨s1, _⟩, ⟨s2, _⟩, s3⟩ := hSw; have t0 := (s1 0 _ rfl).1; have t1 := (s1 1 _ rfl).1; have t2 := (s1 2 _ rfl).1; have t3 := (s1 3 _ rfl).1; have t4 := (s1 4 _ rfl).1; have t5 := (s1 5 _ rfl).1; have t6 := (s1 6 _ rfl).1; have t7 := (s1 7 _ rfl).1; have t8 := (s1 8 _ rfl).1; clear s1 s2 s3; go_simp; try with_reducible rfl
             try simp only [Act.put, List.setIfInBounds_toArray, List.set_cons_zero, List.set_cons_succ]
             refine wpAnyH_take (i := 2) (oi := { dst := some 232, op := Go.Op.load 84 (Go.Operand.tmp 27), type := 84, pos := "law.go:119", after := #[], guard := none }) (v := ?v2_790101) rfl (by kernel_rfl) (by kernel_rfl) (by kernel_rfl) (fun _ _ _ h => h) (Or.inl ⟨by rfl, ?y2_790101⟩) hHeld ?r2_790101
             case y2_790101 => intro w hSw; (try dsimp only at hSw); obtain ⟨⟨s1, _⟩, ⟨s2, _⟩, s3⟩ := hSw; have t0 := (s2 0 _ rfl).1; have t1 := (s2 1 _ rfl).1; have t2 := (s2 2 _ rfl).1; have t3 := (s2 3 _ rfl).1; have t4 := (s2 4 _ rfl).1; have t5 := (s2 5 _ rfl).1; have t6 := (s2 6 _ rfl).1; have t7 := (s2 7 _ rfl).1; have t8 := (s2 8 _ rfl).1; clear s1 s2 s3; go_simp; try with_reducible rfl
             try simp only [Act.put, List.setIfInBounds_toArray, List.set_cons_zero, List.set_cons_succ]
             refine wpAnyH_ready (rs := [1]) (by kernel_rfl) (by simp) ?_
             refine AllReadyH.cons (o := { dst := some 231, op := Go.Op.call { callee := Go.Callee.value (Go.Operand.func 45), args := #[Go.Operand.tmp 230], argTypes := #[79] }, type := 84, pos := "law.go:119", after := #[{ on := 0, ground := Go.Ground.data }], guard := none }) rfl (fun K hK => ?_) AllReadyH.nil
             go_simp
             refine (waitD_any ri rp rx rt rn ry rk rj ru z0).mono ?_; rintro e z1 ⟨rfl, hb⟩
             have hnext : ((fun wx : World => HeldT gA [.int .i64 ri, .int .i64 rp, .string rx, .bool rt, .string rn, .int .i64 ry, .int .i64 rk, .int .i64 rj, .int .i64 ru] wx ∧ HeldT gB [.int .i64 ri, .int .i64 rp, .string rx, .bool rt, .string rn, .int .i64 ry, .int .i64 rk, .int .i64 rj, .int .i64 ru] wx ∧ wx.rangeAt gO 11 [.int .i64 vi, .int .i64 vp, .string vx, .bool vt]) z1) := ⟨hHeld.1.below hb, hHeld.2.1.below hb, fun j v hj => cell_later hb (hHeld.2.2 j v hj)⟩
             replace HPE := Lib.hid (HPE.out.below hb)
             clear hb
             refine hK.out _ _ (hnext) (fun hHeld2 => ?_)
             clear hK K hHeld
             have hHeld := hHeld2
             clear hHeld2
             try simp only [Act.put, List.setIfInBounds_toArray, List.set_cons_zero, List.set_cons_succ]
             refine wpAnyH_take (i := 3) (oi := { dst := some 233, op := Go.Op.binOp Go.BinOp.eql 84 (Go.Operand.tmp 231) (Go.Operand.tmp 232) 84, type := 4, pos := "law.go:119", after := #[{ on := 1, ground := Go.Ground.data }, { on := 2, ground := Go.Ground.data }], guard := none }) (v := ?v3_790102) rfl (by kernel_rfl) (by kernel_rfl) (by kernel_rfl) (fun _ _ _ h => h) (Or.inl ⟨by rfl, ?y3_790102⟩) hHeld ?r3_790102
             case y3_790102 => intro w hSw; (try dsimp only at hSw); go_simp; try with_reducible rfl
             try simp only [Act.put, List.setIfInBounds_toArray, List.set_cons_zero, List.set_cons_succ]
             refine wpAnyH_take (i := 4) (oi := { dst := some 234, op := Go.Op.move (Go.Operand.tmp 233), type := 4, pos := "law.go:119", after := #[{ on := 3, ground := Go.Ground.data }, { on := 1, ground := Go.Ground.chain }], guard := none }) (v := ?v4_790102) rfl (by kernel_rfl) (by kernel_rfl) (by kernel_rfl) (fun _ _ _ h => h) (Or.inl ⟨by rfl, ?y4_790102⟩) hHeld ?r4_790102
             case y4_790102 => intro w hSw; (try dsimp only at hSw); go_simp; try with_reducible rfl
             try simp only [Act.put, List.setIfInBounds_toArray, List.set_cons_zero, List.set_cons_succ]
             refine wpAnyH_take (i := 5) (oi := { dst := some 235, op := Go.Op.move (Go.Operand.tmp 26), type := 4, pos := "law.go:119", after := #[{ on := 4, ground := Go.Ground.guard }], guard := some (4, true) }) (v := ?v5_790102) rfl (by kernel_rfl) (by kernel_rfl) (by kernel_rfl) (fun _ _ _ h => h) (Or.inl ⟨by rfl, ?y5_790102⟩) hHeld ?r5_790102
             case y5_790102 => intro w hSw; (try dsimp only at hSw); go_simp; try with_reducible rfl
             try simp only [Act.put, List.setIfInBounds_toArray, List.set_cons_zero, List.set_cons_succ]
             refine wpAnyH_take (i := 6) (oi := { dst := some 236, op := Go.Op.move (Go.Operand.tmp 28), type := 4, pos := "law.go:119", after := #[{ on := 4, ground := Go.Ground.guard }], guard := some (4, true) }) (v := ?v6_790102) rfl (by kernel_rfl) (by kernel_rfl) (by kernel_rfl) (fun _ _ _ h => h) (Or.inl ⟨by rfl, ?y6_790102⟩) hHeld ?r6_790102
             case y6_790102 => intro w hSw; (try dsimp only at hSw); go_simp; try with_reducible rfl
             try simp only [Act.put, List.setIfInBounds_toArray, List.set_cons_zero, List.set_cons_succ]
             refine wpAnyH_take (i := 7) (oi := { dst := some 237, op := Go.Op.binOp Go.BinOp.eql 4 (Go.Operand.tmp 235) (Go.Operand.tmp 236) 4, type := 4, pos := "law.go:119", after := #[{ on := 5, ground := Go.Ground.data }, { on := 6, ground := Go.Ground.data }, { on := 4, ground := Go.Ground.guard }], guard := some (4, true) }) (v := ?v7_790102) rfl (by kernel_rfl) (by kernel_rfl) (by kernel_rfl) (fun _ _ _ h => h) (Or.inl ⟨by rfl, ?y7_790102⟩) hHeld ?r7_790102
             case y7_790102 => intro w hSw; (try dsimp only at hSw); go_simp; try with_reducible rfl
             try simp only [Act.put, List.setIfInBounds_toArray, List.set_cons_zero, List.set_cons_succ]
             refine wpAnyH_take (i := 8) (oi := { dst := some 238, op := Go.Op.pick (Go.Operand.tmp 234) (Go.Operand.tmp 237) (Go.Operand.const (Go.Value.bool false)), type := 4, pos := "law.go:119", after := #[{ on := 4, ground := Go.Ground.data }, { on := 7, ground := Go.Ground.data }], guard := none }) (v := ?v8_790102) rfl (by kernel_rfl) (by kernel_rfl) (by kernel_rfl) (fun _ _ _ h => h) (Or.inl ⟨by rfl, ?y8_790102⟩) hHeld ?r8_790102
             case y8_790102 => intro w hSw; (try dsimp only at hSw); go_simp; try with_reducible rfl
             try simp only [Act.put, List.setIfInBounds_toArray, List.set_cons_zero, List.set_cons_succ]
             refine wpAnyH_take (i := 9) (oi := { dst := some 239, op := Go.Op.move (Go.Operand.tmp 238), type := 4, pos := "law.go:119", after := #[{ on := 8, ground := Go.Ground.data }, { on := 4, ground := Go.Ground.chain }], guard := none }) (v := ?v9_790102) rfl (by kernel_rfl) (by kernel_rfl) (by kernel_rfl) (fun _ _ _ h => h) (Or.inl ⟨by rfl, ?y9_790102⟩) hHeld ?r9_790102
             case y9_790102 => intro w hSw; (try dsimp only at hSw); go_simp; try with_reducible rfl
             try simp only [Act.put, List.setIfInBounds_toArray, List.set_cons_zero, List.set_cons_succ]
             refine wpAnyH_take (i := 10) (oi := { dst := some 240, op := Go.Op.fieldAddr 77 (Go.Operand.tmp 12) 9, type := 0, pos := "law.go:119", after := #[{ on := 9, ground := Go.Ground.guard }], guard := some (9, true) }) (v := ?v10_790102) rfl (by kernel_rfl) (by kernel_rfl) (by kernel_rfl) (fun _ _ _ h => h) (Or.inl ⟨by rfl, ?y10_790102⟩) hHeld ?r10_790102
             case y10_790102 => intro w hSw; (try dsimp only at hSw); go_simp; try with_reducible rfl
             try simp only [Act.put, List.setIfInBounds_toArray, List.set_cons_zero, List.set_cons_succ]
             refine wpAnyH_take (i := 11) (oi := { dst := some 241, op := Go.Op.load 69 (Go.Operand.tmp 240), type := 69, pos := "law.go:119", after := #[{ on := 10, ground := Go.Ground.data }, { on := 9, ground := Go.Ground.guard }], guard := some (9, true) }) (v := ?v11_790102) rfl (by kernel_rfl) (by kernel_rfl) (by kernel_rfl) (fun _ _ _ h => h) (Or.inl ⟨by rfl, ?y11_790102⟩) hHeld ?r11_790102
             case y11_790102 => intro w hSw; (try dsimp only at hSw); obtain ⟨⟨s1, _⟩, ⟨s2, _⟩, s3⟩ := hSw; have t0 : w.cell? ⟨gO, 11, none⟩ = some (.int .i64 vi) := s3 0 _ rfl; have t1 : w.cell? ⟨gO, 12, none⟩ = some (.int .i64 vp) := s3 1 _ rfl; have t2 : w.cell? ⟨gO, 13, none⟩ = some (.string vx) := s3 2 _ rfl; have t3 : w.cell? ⟨gO, 14, none⟩ = some (.bool vt) := s3 3 _ rfl; clear s1 s2 s3; go_simp; try with_reducible rfl
             try simp only [Act.put, List.setIfInBounds_toArray, List.set_cons_zero, List.set_cons_succ]
             refine wpAnyH_take (i := 12) (oi := { dst := some 242, op := Go.Op.fieldAddr 79 (Go.Operand.tmp 25) 0, type := 0, pos := "law.go:119", after := #[{ on := 9, ground := Go.Ground.guard }], guard := some (9, true) }) (v := ?v12_790102) rfl (by kernel_rfl) (by kernel_rfl) (by kernel_rfl) (fun _ _ _ h => h) (Or.inl ⟨by rfl, ?y12_790102⟩) hHeld ?r12_790102
             case y12_790102 => intro w hSw; (try dsimp only at hSw); go_simp; try with_reducible rfl
             try simp only [Act.put, List.setIfInBounds_toArray, List.set_cons_zero, List.set_cons_succ]
             refine wpAnyH_take (i := 13) (oi := { dst := some 243, op := Go.Op.load 69 (Go.Operand.tmp 242), type := 69, pos := "law.go:119", after := #[{ on := 12, ground := Go.Ground.data }, { on := 9, ground := Go.Ground.guard }], guard := some (9, true) }) (v := ?v13_790102) rfl (by kernel_rfl) (by kernel_rfl) (by kernel_rfl) (fun _ _ _ h => h) (Or.inl ⟨by rfl, ?y13_790102⟩) hHeld ?r13_790102
             case y13_790102 => intro w hSw; (try dsimp only at hSw); obtain ⟨⟨s1, _⟩, ⟨s2, _⟩, s3⟩ := hSw; have t0 := (s1 0 _ rfl).1; have t1 := (s1 1 _ rfl).1; have t2 := (s1 2 _ rfl).1; have t3 := (s1 3 _ rfl).1; clear s1 s2 s3; go_simp; try with_reducible rfl
             try simp only [Act.put, List.setIfInBounds_toArray, List.set_cons_zero, List.set_cons_succ]
             refine wpAnyH_ready (rs := [14]) (by kernel_rfl) (by simp) ?_
             refine AllReadyH.cons (o := { dst := some 244, op := Go.Op.call { callee := Go.Callee.value (Go.Operand.func 56), args := #[Go.Operand.tmp 241, Go.Operand.tmp 243], argTypes := #[69, 69] }, type := 4, pos := "law.go:119", after := #[{ on := 11, ground := Go.Ground.data }, { on := 13, ground := Go.Ground.data }, { on := 9, ground := Go.Ground.chain }, { on := 9, ground := Go.Ground.guard }], guard := some (9, true) }) rfl (fun K hK => ?_) AllReadyH.nil
             go_simp
             refine (same_mark vi vp vx vt ri rp rx rt z1).mono ?_; rintro e z2 ⟨rfl, hb⟩
             rw [HSM.out]
             have hnext : ((fun wx : World => HeldT gA [.int .i64 ri, .int .i64 rp, .string rx, .bool rt, .string rn, .int .i64 ry, .int .i64 rk, .int .i64 rj, .int .i64 ru] wx ∧ HeldT gB [.int .i64 ri, .int .i64 rp, .string rx, .bool rt, .string rn, .int .i64 ry, .int .i64 rk, .int .i64 rj, .int .i64 ru] wx ∧ wx.rangeAt gO 11 [.int .i64 vi, .int .i64 vp, .string vx, .bool vt]) z2) := ⟨hHeld.1.below hb, hHeld.2.1.below hb, fun j v hj => cell_later hb (hHeld.2.2 j v hj)⟩
             replace HPE := Lib.hid (HPE.out.below hb)
             clear hb
             refine hK.out _ _ (hnext) (fun hHeld2 => ?_)
             clear hK K hHeld
             have hHeld := hHeld2
             clear hHeld2
             try simp only [Act.put, List.setIfInBounds_toArray, List.set_cons_zero, List.set_cons_succ]
             refine wpAnyH_take (i := 15) (oi := { dst := some 245, op := Go.Op.move (Go.Operand.tmp 244), type := 4, pos := "law.go:119", after := #[{ on := 14, ground := Go.Ground.data }, { on := 14, ground := Go.Ground.chain }, { on := 9, ground := Go.Ground.guard }], guard := some (9, true) }) (v := ?v15_790103) rfl (by kernel_rfl) (by kernel_rfl) (by kernel_rfl) (fun _ _ _ h => h) (Or.inl ⟨by rfl, ?y15_790103⟩) hHeld ?r15_790103
             case y15_790103 => intro w hSw; (try dsimp only at hSw); go_simp; try with_reducible rfl
             try simp only [Act.put, List.setIfInBounds_toArray, List.set_cons_zero, List.set_cons_succ]
             cases sm
             · skip
               refine wpAnyH_take (i := 16) (oi := { dst := some 246, op := Go.Op.move (Go.Operand.tmp 26), type := 4, pos := "law.go:119", after := #[{ on := 15, ground := Go.Ground.guard }], guard := some (15, false) }) (v := ?v16_790104) rfl (by kernel_rfl) (by kernel_rfl) (by kernel_rfl) (fun _ _ _ h => h) (Or.inl ⟨by rfl, ?y16_790104⟩) hHeld ?r16_790104
               case y16_790104 => intro w hSw; (try dsimp only at hSw); go_simp; try with_reducible rfl
               try simp only [Act.put, List.setIfInBounds_toArray, List.set_cons_zero, List.set_cons_succ]
               refine wpAnyH_take (i := 17) (oi := { dst := some 247, op := Go.Op.unOp Go.UnOp.not 4 (Go.Operand.tmp 246), type := 4, pos := "law.go:119", after := #[{ on := 16, ground := Go.Ground.data }, { on := 15, ground := Go.Ground.guard }], guard := some (15, false) }) (v := ?v17_790104) rfl (by kernel_rfl) (by kernel_rfl) (by kernel_rfl) (fun _ _ _ h => h) (Or.inl ⟨by rfl, ?y17_790104⟩) hHeld ?r17_790104
               case y17_790104 => intro w hSw; (try dsimp only at hSw); go_simp; try with_reducible rfl
               try simp only [Act.put, List.setIfInBounds_toArray, List.set_cons_zero, List.set_cons_succ]
               refine wpAnyH_take (i := 18) (oi := { dst := some 248, op := Go.Op.pick (Go.Operand.tmp 245) (Go.Operand.const (Go.Value.bool true)) (Go.Operand.tmp 247), type := 4, pos := "law.go:119", after := #[{ on := 15, ground := Go.Ground.data }, { on := 17, ground := Go.Ground.data }, { on := 9, ground := Go.Ground.guard }], guard := some (9, true) }) (v := ?v18_790104) rfl (by kernel_rfl) (by kernel_rfl) (by kernel_rfl) (fun _ _ _ h => h) (Or.inl ⟨by rfl, ?y18_790104⟩) hHeld ?r18_790104
               case y18_790104 => intro w hSw; (try dsimp only at hSw); go_simp; try with_reducible rfl
               try simp only [Act.put, List.setIfInBounds_toArray, List.set_cons_zero, List.set_cons_succ]
               refine wpAnyH_take (i := 19) (oi := { dst := some 249, op := Go.Op.pick (Go.Operand.tmp 239) (Go.Operand.tmp 248) (Go.Operand.const (Go.Value.bool false)), type := 4, pos := "law.go:119", after := #[{ on := 9, ground := Go.Ground.data }, { on := 18, ground := Go.Ground.data }], guard := none }) (v := ?v19_790104) rfl (by kernel_rfl) (by kernel_rfl) (by kernel_rfl) (fun _ _ _ h => h) (Or.inl ⟨by rfl, ?y19_790104⟩) hHeld ?r19_790104
               case y19_790104 => intro w hSw; (try dsimp only at hSw); go_simp; try with_reducible rfl
               try simp only [Act.put, List.setIfInBounds_toArray, List.set_cons_zero, List.set_cons_succ]
               refine wpAnyH_take (i := 20) (oi := { dst := some 13, op := Go.Op.assign (Go.Operand.tmp 249), type := 4, pos := "law.go:119", after := #[{ on := 19, ground := Go.Ground.data }, { on := 15, ground := Go.Ground.chain }, { on := 0, ground := Go.Ground.phase }, { on := 1, ground := Go.Ground.phase }, { on := 2, ground := Go.Ground.phase }, { on := 3, ground := Go.Ground.phase }, { on := 4, ground := Go.Ground.phase }, { on := 5, ground := Go.Ground.phase }, { on := 6, ground := Go.Ground.phase }, { on := 7, ground := Go.Ground.phase }, { on := 8, ground := Go.Ground.phase }, { on := 9, ground := Go.Ground.phase }, { on := 10, ground := Go.Ground.phase }, { on := 11, ground := Go.Ground.phase }, { on := 12, ground := Go.Ground.phase }, { on := 13, ground := Go.Ground.phase }, { on := 14, ground := Go.Ground.phase }, { on := 15, ground := Go.Ground.phase }, { on := 16, ground := Go.Ground.phase }, { on := 17, ground := Go.Ground.phase }, { on := 18, ground := Go.Ground.phase }, { on := 19, ground := Go.Ground.phase }], guard := none }) (v := ?v20_790104) rfl (by kernel_rfl) (by kernel_rfl) (by kernel_rfl) (fun _ _ _ h => h) (Or.inl ⟨by rfl, ?y20_790104⟩) hHeld ?r20_790104
               case y20_790104 => intro w hSw; (try dsimp only at hSw); go_simp; try with_reducible rfl
               try simp only [Act.put, List.setIfInBounds_toArray, List.set_cons_zero, List.set_cons_succ]
               refine wpAnyH_done (by kernel_rfl) ?_ _
               clear hHeld
               go_wp2_with fail
               go_meet
               first | exact ⟨c, d2, s2, rfl, HPE, HI2⟩ | exact ⟨c, d2, s2, by rw [HOS.out (by first | rfl | trivial)]; rfl, HPE, HI2⟩
             · skip
               refine wpAnyH_take (i := 16) (oi := { dst := some 246, op := Go.Op.move (Go.Operand.tmp 26), type := 4, pos := "law.go:119", after := #[{ on := 15, ground := Go.Ground.guard }], guard := some (15, false) }) (v := undef) rfl (by kernel_rfl) (by kernel_rfl) (by kernel_rfl) (fun _ _ _ h => h) (Or.inr ⟨by rfl, rfl⟩) hHeld ?_
               try simp only [Act.put, List.setIfInBounds_toArray, List.set_cons_zero, List.set_cons_succ]
               refine wpAnyH_take (i := 17) (oi := { dst := some 247, op := Go.Op.unOp Go.UnOp.not 4 (Go.Operand.tmp 246), type := 4, pos := "law.go:119", after := #[{ on := 16, ground := Go.Ground.data }, { on := 15, ground := Go.Ground.guard }], guard := some (15, false) }) (v := undef) rfl (by kernel_rfl) (by kernel_rfl) (by kernel_rfl) (fun _ _ _ h => h) (Or.inr ⟨by rfl, rfl⟩) hHeld ?_
               try simp only [Act.put, List.setIfInBounds_toArray, List.set_cons_zero, List.set_cons_succ]
               refine wpAnyH_take (i := 18) (oi := { dst := some 248, op := Go.Op.pick (Go.Operand.tmp 245) (Go.Operand.const (Go.Value.bool true)) (Go.Operand.tmp 247), type := 4, pos := "law.go:119", after := #[{ on := 15, ground := Go.Ground.data }, { on := 17, ground := Go.Ground.data }, { on := 9, ground := Go.Ground.guard }], guard := some (9, true) }) (v := ?v18_790105) rfl (by kernel_rfl) (by kernel_rfl) (by kernel_rfl) (fun _ _ _ h => h) (Or.inl ⟨by rfl, ?y18_790105⟩) hHeld ?r18_790105
               case y18_790105 => intro w hSw; (try dsimp only at hSw); go_simp; try with_reducible rfl
               try simp only [Act.put, List.setIfInBounds_toArray, List.set_cons_zero, List.set_cons_succ]
               refine wpAnyH_take (i := 19) (oi := { dst := some 249, op := Go.Op.pick (Go.Operand.tmp 239) (Go.Operand.tmp 248) (Go.Operand.const (Go.Value.bool false)), type := 4, pos := "law.go:119", after := #[{ on := 9, ground := Go.Ground.data }, { on := 18, ground := Go.Ground.data }], guard := none }) (v := ?v19_790105) rfl (by kernel_rfl) (by kernel_rfl) (by kernel_rfl) (fun _ _ _ h => h) (Or.inl ⟨by rfl, ?y19_790105⟩) hHeld ?r19_790105
               case y19_790105 => intro w hSw; (try dsimp only at hSw); go_simp; try with_reducible rfl
               try simp only [Act.put, List.setIfInBounds_toArray, List.set_cons_zero, List.set_cons_succ]
               refine wpAnyH_take (i := 20) (oi := { dst := some 13, op := Go.Op.assign (Go.Operand.tmp 249), type := 4, pos := "law.go:119", after := #[{ on := 19, ground := Go.Ground.data }, { on := 15, ground := Go.Ground.chain }, { on := 0, ground := Go.Ground.phase }, { on := 1, ground := Go.Ground.phase }, { on := 2, ground := Go.Ground.phase }, { on := 3, ground := Go.Ground.phase }, { on := 4, ground := Go.Ground.phase }, { on := 5, ground := Go.Ground.phase }, { on := 6, ground := Go.Ground.phase }, { on := 7, ground := Go.Ground.phase }, { on := 8, ground := Go.Ground.phase }, { on := 9, ground := Go.Ground.phase }, { on := 10, ground := Go.Ground.phase }, { on := 11, ground := Go.Ground.phase }, { on := 12, ground := Go.Ground.phase }, { on := 13, ground := Go.Ground.phase }, { on := 14, ground := Go.Ground.phase }, { on := 15, ground := Go.Ground.phase }, { on := 16, ground := Go.Ground.phase }, { on := 17, ground := Go.Ground.phase }, { on := 18, ground := Go.Ground.phase }, { on := 19, ground := Go.Ground.phase }], guard := none }) (v := ?v20_790105) rfl (by kernel_rfl) (by kernel_rfl) (by kernel_rfl) (fun _ _ _ h => h) (Or.inl ⟨by rfl, ?y20_790105⟩) hHeld ?r20_790105
               case y20_790105 => intro w hSw; (try dsimp only at hSw); go_simp; try with_reducible rfl
               try simp only [Act.put, List.setIfInBounds_toArray, List.set_cons_zero, List.set_cons_succ]
               refine wpAnyH_done (by kernel_rfl) ?_ _
               clear hHeld
               go_wp2_with fail
               go_meet
               first | exact ⟨c, d2, s2, rfl, HPE, HI2⟩ | exact ⟨c, d2, s2, by rw [HOS.out (by first | rfl | trivial)]; rfl, HPE, HI2⟩
          have e4 : (kd == 4) = false := eF k4
          have n4 := k4
          clear k4
          clear n0 n1 n2 n3 n4
          go_wp2_with fail
          go_meet
          exact ⟨c, d, s, rfl, HP5, HI⟩
        · have dd : decide ((k : Int) < (n : Int)) = false := dF (by omega)
          have dn : decide (k < n) = false := dF hlt
          clear hlt hk
          go_wp2_with fail
          refine (first20 wr).mono ?_; rintro e wz ⟨rfl, hbz⟩
          have HBZ := Lib.hid (HP.out.bel.trans (hbz.mono HP.out.bel.size))
          clear hbz
          go_wp2
          go_ret
          exact ⟨rfl, HBZ.out⟩
end Go.Proofs.Ytocfphijheidbaa
