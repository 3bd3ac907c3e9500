/- The document's table: Match (written by mktce.py). -/
import Derived.Test.YtocfphijheidbaaMgZ
import Derived.Deep.CutBlock
import Derived.Deep.DeepCutAuto
namespace Go.Proofs.Ytocfphijheidbaa
open Go.RowKit

theorem own_capR {w : World} {g n c : Nat} {B : Nat} {T : TypeId} {xs : List Value} (h : w.ownsRow B T 9 (.slice (some ⟨g, 0, none⟩) n c) n xs) : n ≤ c := by
  rcases h.2 with ⟨e, _⟩ | ⟨g', cap, cur, e, _, _, h1, _⟩
  · cases e
  · injection e with _ _ e
    rw [e]
    exact h1
theorem qs_eqlG (x y : ByteArray) (t c u d : Int) (W : World) : (binOp .eql 66 (.agg #[.string x, .int .i64 t, .int .i64 c]) (.agg #[.string y, .int .i64 u, .int .i64 d])).run Try.prog W = .ok (.bool (sameQ ⟨x, t, c⟩ ⟨y, u, d⟩)) W := by
  have u3 := Try.underlying3
  have a3 := Try.isAgg3
  have z3 := Try.sizeOf3
  have u9 := Try.underlying9
  have a9 := Try.isAgg9
  have z9 := Try.sizeOf9
  have hS : Try.prog.underlying 66 = some (.struct (Try.prog.fieldsOf 66)) := by
    simp [Program.fieldsOf, Try.underlying66]
  rw [run_eql_struct, show (10000 : Nat) = 9999 + 1 from rfl, run_equalIn_agg W 9999 66 _ _ hS (by kernel_rfl)]
  simp only [Program.fieldsOf, Try.underlying66, sameQ]
  go_simp
  by_cases h0 : x.toList = y.toList <;> by_cases h1 : t = u <;> by_cases h2 : c = d <;> simp [h0, h1, h2]
/-- All that the document asks of a Wait. -/
def FitsM (k : MkP) (id op : Int) (qr : Bool) (Q : List QsP) (r : WtP) : Prop := sameM r.m k = true ∧ GoodM k id op qr Q r
set_option maxRecDepth 100000 in
set_option maxHeartbeats 16000000 in
theorem matchD_any (bs : List Nat) (q : Nat) (s : TbP) (ki kp : Int) (kx : ByteArray) (kt : Bool) (xi xo xc : Int) (b0 b1 b2 b3 b4 : Bool) (qa s1 s2 s3 : Option Addr) (qn qc n1 c1 n2 c2 n3 c3 : Nat) (Q : List QsP) (w : World) (h : RTs w bs q s) (hok : WsOk s.ws) (hn : s.ws.length ≤ 5000) (hQ : RowQs w qa qn Q) (hqn : qn ≤ 1000000) :
    Calls Try.prog 48 #[.pointer (some ⟨q, 0, none⟩), .agg #[.int .i64 ki, .int .i64 kp, .string kx, .bool kt], .agg #[.int .i64 xi, .int .i64 xo, .int .i64 xc, .bool b0, .bool b1, .bool b2, .bool b3, .bool b4, .slice qa qn qc, .slice s1 n1 c1, .slice s2 n2 c2, .slice s3 n3 c3]] w fun e w' =>
      ((∃ i r, FirstM s.ws ⟨ki, kp, kx, kt⟩ i r ∧ GoodM ⟨ki, kp, kx, kt⟩ xi xo b0 Q r ∧ e = .returned (.tuple #[.agg (encW r).toArray, .bool true]) ∧ ∃ cs, RTs w' cs q { s with ws := s.ws.eraseIdx i } ∧ ∀ g ∈ cs, g ∈ bs ∨ w.heap.size ≤ g) ∨
       ((∀ i r, FirstM s.ws ⟨ki, kp, kx, kt⟩ i r → ¬ GoodM ⟨ki, kp, kx, kt⟩ xi xo b0 Q r) ∧ e = .returned (.tuple #[.agg #[.int .i64 0, .int .i64 0, .string ⟨#[]⟩, .bool false, .string ⟨#[]⟩, .int .i64 0, .int .i64 0, .int .i64 0, .int .i64 0], .bool false]) ∧ RTs w' bs q s)) ∧ Frm w w' bs := by
  have HOK := Lib.hid hok
  clear hok
  have HNN := Lib.hid hn
  have hqb := h.q
  have HQB := Lib.hid (show q ∈ bs ∧ ∀ b ∈ bs, b < w.heap.size from ⟨hqb, h.lt⟩)
  have HQQ := Lib.hid hQ
  have HQN := Lib.hid hqn
  have y1 := (Below.refl w.heap.size w).alloc (Nat.le_refl _) (.cells #[.int .i64 ki, .int .i64 kp, .string kx, .bool kt] 82)
  have m1 := HeldT.new w #[.int .i64 ki, .int .i64 kp, .string kx, .bool kt] 82
  obtain ⟨u1, hu1⟩ : ∃ z, w.alloc (.cells #[.int .i64 ki, .int .i64 kp, .string kx, .bool kt] 82) = z := ⟨_, rfl⟩
  have z1 : u1.heap.size = w.heap.size + 1 := by rw [← hu1, World.size_alloc]
  rw [hu1] at y1 m1
  have y2 := (Below.refl u1.heap.size u1).alloc (Nat.le_refl _) (.cells #[.int .i64 xi, .int .i64 xo, .int .i64 xc, .bool b0, .bool b1, .bool b2, .bool b3, .bool b4, .slice qa qn qc, .slice s1 n1 c1, .slice s2 n2 c2, .slice s3 n3 c3] 99)
  have m2 := m1.below y2
  have x2 := HeldT.new u1 #[.int .i64 xi, .int .i64 xo, .int .i64 xc, .bool b0, .bool b1, .bool b2, .bool b3, .bool b4, .slice qa qn qc, .slice s1 n1 c1, .slice s2 n2 c2, .slice s3 n3 c3] 99
  obtain ⟨u2, hu2⟩ : ∃ z, u1.alloc (.cells #[.int .i64 xi, .int .i64 xo, .int .i64 xc, .bool b0, .bool b1, .bool b2, .bool b3, .bool b4, .slice qa qn qc, .slice s1 n1 c1, .slice s2 n2 c2, .slice s3 n3 c3] 99) = z := ⟨_, rfl⟩
  have z2 : u2.heap.size = w.heap.size + 1 + 1 := by rw [← hu2, World.size_alloc, z1]
  rw [hu2] at y2 m2 x2
  have y3 := (Below.refl u2.heap.size u2).alloc (Nat.le_refl _) (.cells #[.int .i64 0, .int .i64 0, .string ⟨#[]⟩, .bool false, .string ⟨#[]⟩, .int .i64 0, .int .i64 0, .int .i64 0, .int .i64 0] 84)
  have m3 := m2.below y3
  have x3 := x2.below y3
  have r3 := HeldT.new u2 #[.int .i64 0, .int .i64 0, .string ⟨#[]⟩, .bool false, .string ⟨#[]⟩, .int .i64 0, .int .i64 0, .int .i64 0, .int .i64 0] 84
  obtain ⟨w0, hw0⟩ : ∃ z, u2.alloc (.cells #[.int .i64 0, .int .i64 0, .string ⟨#[]⟩, .bool false, .string ⟨#[]⟩, .int .i64 0, .int .i64 0, .int .i64 0, .int .i64 0] 84) = z := ⟨_, rfl⟩
  rw [hw0] at y3 m3 x3 r3
  rw [z1] at x3
  rw [z2] at r3
  have HB := Lib.hid ((y1.trans (y2.mono y1.size)).trans (y3.mono (y1.trans (y2.mono y1.size)).size))
  have HW0 := Lib.hid (show ((w.alloc (.cells #[.int .i64 ki, .int .i64 kp, .string kx, .bool kt] 82)).alloc (.cells #[.int .i64 xi, .int .i64 xo, .int .i64 xc, .bool b0, .bool b1, .bool b2, .bool b3, .bool b4, .slice qa qn qc, .slice s1 n1 c1, .slice s2 n2 c2, .slice s3 n3 c3] 99)).alloc (.cells #[.int .i64 0, .int .i64 0, .string ⟨#[]⟩, .bool false, .string ⟨#[]⟩, .int .i64 0, .int .i64 0, .int .i64 0, .int .i64 0] 84) = w0 by rw [hu1, hu2, hw0])
  obtain ⟨gR, hgR⟩ : ∃ z, w.heap.size + 1 + 1 = z := ⟨_, rfl⟩
  obtain ⟨gX, hgX⟩ : ∃ z, w.heap.size + 1 = z := ⟨_, rfl⟩
  obtain ⟨gM, hgM⟩ : ∃ z, w.heap.size = z := ⟨_, rfl⟩
  rw [hgM] at m3
  rw [hgX] at x3
  rw [hgR] at r3
  have HM := Lib.hid m3
  have HX := Lib.hid x3
  have HR := Lib.hid r3
  have HGR := Lib.hid hgR
  have HGX := Lib.hid hgX
  have HGM := Lib.hid hgM
  have HT := Lib.hid (h.frm (Frm.below (Frm.refl w []) HB.out (Nat.le_refl _)) (fun _ _ h => by simp at h))
  have HF := Lib.hid ((Frm.refl w bs).below HB.out (Nat.le_refl _))
  have HNE := Lib.hid (show w.heap.size = gM ∧ gX = gM + 1 ∧ gR = gM + 2 by omega)
  have HGC := Lib.hid (show gR ∉ bs from fun e => by have := HQB.out.2 gR e; omega)
  clear y1 m1 hu1 z1 y2 m2 x2 hu2 z2 y3 m3 x3 r3 hw0 hgR hgX hgM hqb h hn hQ hqn
  go_enter Try.func48, Try.ntmps48
  go_upto_region 1 with (fail)
  rw [HW0.out, show w.heap.size + 1 + 1 = gR from HGR.out, HGX.out, HGM.out]
  clear HW0 HGR HGX HGM
  obtain ⟨l, hl⟩ : ∃ z, s.ws = z := ⟨_, rfl⟩
  have HWS := Lib.hid hl
  obtain ⟨n, hln⟩ : ∃ z, l.length = z := ⟨_, rfl⟩
  have HL := Lib.hid hln
  have hn2 : n ≤ 5000 := by rw [← hln, ← hl]; exact HNN.out
  obtain ⟨w1, hw1⟩ : ∃ z, w0 = z := ⟨_, rfl⟩
  rw [hw1] at HM HX HR HT HF HB ⊢
  clear hl hln hw1
  go_wp2_with fail
  go_loopw [8] (fun i wr => ∃ k : Nat, k ≤ n ∧ i = .int .i64 k ∧ Hid (∀ j r, j < k → l[j]? = some r → ¬ FitsM ⟨ki, kp, kx, kt⟩ xi xo b0 Q r) ∧ Hid (Below w1.heap.size w1 wr)) (fun i _ => n - (intOf i).toNat)
  case atStart => exact ⟨0, Nat.zero_le _, rfl, Lib.hid (fun j r hj => by omega), Lib.hid (Below.refl _ _)⟩
  case round =>
    obtain ⟨k, hk, rfl, HNF, HBK⟩ := hrel
    have HT2 := Lib.hid (HT.out.below HBK.out)
    obtain ⟨a, c, c0, -, -, f9, -, hrow⟩ := HT2.out.parts
    rw [HWS.out, HL.out] at c0 hrow
    by_cases hlt : k < n
    · clear f9
      obtain ⟨gb, c', e, -, hgb⟩ := own_shp' hrow (by omega)
      injection e with e1 _ e3
      subst e1
      subst e3
      obtain ⟨x, hs⟩ : ∃ s, l[k]? = some s := ⟨_, List.getElem?_eq_getElem (by have := HL.out; omega)⟩
      obtain ⟨⟨mi, mp, mx, mt⟩, ⟨mn, my, mc⟩, mj, mu⟩ := x
      have HS := Lib.hid hs
      have i1 : (0 : Int) ≤ (k : Int) := by omega
      have i2 : (k : Int) < (n : Int) := by omega
      have d0 : decide (k < n) = true := dT hlt
      have HLT := Lib.hid hlt
      have HRG := Lib.hid (show wr.rangeAt gb (k * 9) [.int .i64 mi, .int .i64 mp, .string mx, .bool mt, .string mn, .int .i64 my, .int .i64 mc, .int .i64 mj, .int .i64 mu] from fun j v hj => ownsRow_at hrow _ _ (by rw [flatW_at _ k j _ hs (List.getElem?_eq_some_iff.1 hj).1]; exact hj))
      have HROW := Lib.hid hrow
      clear hs hlt hk hrow hgb
      have hba := (Below.refl wr.heap.size wr).alloc (Nat.le_refl _) (.cells #[.int .i64 0, .int .i64 0, .string ⟨#[]⟩, .bool false, .string ⟨#[]⟩, .int .i64 0, .int .i64 0, .int .i64 0, .int .i64 0] 84)
      have y0 := HeldT.new wr #[.int .i64 0, .int .i64 0, .string ⟨#[]⟩, .bool false, .string ⟨#[]⟩, .int .i64 0, .int .i64 0, .int .i64 0, .int .i64 0] 84
      obtain ⟨u1, hu1⟩ : ∃ z, wr.alloc (.cells #[.int .i64 0, .int .i64 0, .string ⟨#[]⟩, .bool false, .string ⟨#[]⟩, .int .i64 0, .int .i64 0, .int .i64 0, .int .i64 0] 84) = z := ⟨_, rfl⟩
      rw [hu1] at hba y0
      have HTH7 := Lib.hid (show (wr.alloc (.cells #[.int .i64 0, .int .i64 0, .string ⟨#[]⟩, .bool false, .string ⟨#[]⟩, .int .i64 0, .int .i64 0, .int .i64 0, .int .i64 0] 84)).there wr.heap.size 0 ([.int .i64 mi, .int .i64 mp, .string mx, .bool mt, .string mn, .int .i64 my, .int .i64 mc, .int .i64 mj, .int .i64 mu] : List Value).toArray.size from by
        rw [hu1]
        intro j hj
        rw [Nat.zero_add]
        have hj9 : j < ([.int .i64 0, .int .i64 0, .string ⟨#[]⟩, .bool false, .string ⟨#[]⟩, .int .i64 0, .int .i64 0, .int .i64 0, .int .i64 0] : List Value).length := by have h9 : j < ([.int .i64 mi, .int .i64 mp, .string mx, .bool mt, .string mn, .int .i64 my, .int .i64 mc, .int .i64 mj, .int .i64 mu] : List Value).length := hj; rw [show ([.int .i64 mi, .int .i64 mp, .string mx, .bool mt, .string mn, .int .i64 my, .int .i64 mc, .int .i64 mj, .int .i64 mu] : List Value).length = 9 from rfl] at h9; exact h9
        obtain ⟨u, hu⟩ : ∃ u, ([.int .i64 0, .int .i64 0, .string ⟨#[]⟩, .bool false, .string ⟨#[]⟩, .int .i64 0, .int .i64 0, .int .i64 0, .int .i64 0] : List Value)[j]? = some u := ⟨_, List.getElem?_eq_getElem hj9⟩
        obtain ⟨h1, h2⟩ := y0.1 j u hu
        exact ⟨by rw [h1]; rfl, h2⟩)
      have HW0 := Lib.hid (show HeldT wr.heap.size [.int .i64 mi, .int .i64 mp, .string mx, .bool mt, .string mn, .int .i64 my, .int .i64 mc, .int .i64 mj, .int .i64 mu] (u1.setCells wr.heap.size 0 [.int .i64 mi, .int .i64 mp, .string mx, .bool mt, .string mn, .int .i64 my, .int .i64 mc, .int .i64 mj, .int .i64 mu]) from y0.into (by rw [show ([.int .i64 mi, .int .i64 mp, .string mx, .bool mt, .string mn, .int .i64 my, .int .i64 mc, .int .i64 mj, .int .i64 mu] : List Value).length = 9 from rfl]; rfl))
      have hb7 := tb_sets hba (b := wr.heap.size) (Nat.le_refl _) 0 [.int .i64 mi, .int .i64 mp, .string mx, .bool mt, .string mn, .int .i64 my, .int .i64 mc, .int .i64 mj, .int .i64 mu]
      obtain ⟨w7, hw5⟩ : ∃ z, u1.setCells wr.heap.size 0 [.int .i64 mi, .int .i64 mp, .string mx, .bool mt, .string mn, .int .i64 my, .int .i64 mc, .int .i64 mj, .int .i64 mu] = z := ⟨_, rfl⟩
      rw [hw5] at HW0 hb7
      have HW7 := Lib.hid (show (wr.alloc (.cells #[.int .i64 0, .int .i64 0, .string ⟨#[]⟩, .bool false, .string ⟨#[]⟩, .int .i64 0, .int .i64 0, .int .i64 0, .int .i64 0] 84)).setCells wr.heap.size 0 ([.int .i64 mi, .int .i64 mp, .string mx, .bool mt, .string mn, .int .i64 my, .int .i64 mc, .int .i64 mj, .int .i64 mu] : List Value).toArray.toList = w7 from by rw [hu1]; exact hw5)
      have hsz7 := hba.size
      obtain ⟨gW, hgO⟩ : ∃ z, wr.heap.size = z := ⟨_, rfl⟩
      have HG7 := Lib.hid hgO
      rw [hgO] at HW0
      clear hba y0 hu1 hw5 hgO hsz7
      have HB7 := Lib.hid (HBK.out.trans (hb7.mono HBK.out.size))
      have HQW := Lib.hid (show gW ∉ bs from fun e => by have := HT2.out.lt gW e; have := HG7.out; omega)
      have HT7 := Lib.hid (HT2.out.below hb7)
      have HON := Lib.hid (encW_one ⟨⟨mi, mp, mx, mt⟩, ⟨mn, my, mc⟩, mj, mu⟩)
      clear hb7 HT2
      go_upto_region 4 with (fail)
      have C0 := c0
      go_upto_region 5 with (first | (refine wpList_load_mid rfl 84 (.tmp 24) rfl _ _ rfl _ _ HRG.out Try.underlying84 rfl (by kernel_rfl) ?_) | (refine wpList_store_mid rfl 84 (.tmp 9) (.tmp 25) rfl _ _ _ rfl rfl HTH7.out (by kernel_rfl) (all_oneCell_toArray HON.out) ?_; rw [HW7.out, HG7.out]))
      clear HTH7 HW7 HG7 HRG HON c0 C0 i1 i2 HROW
      simp only [Act.put]
      obtain ⟨G, hG⟩ : ∃ G : Bool, G = true ↔ FitsM ⟨ki, kp, kx, kt⟩ xi xo b0 Q ⟨⟨mi, mp, mx, mt⟩, ⟨mn, my, mc⟩, mj, mu⟩ := by
        classical
        exact ⟨decide (FitsM ⟨ki, kp, kx, kt⟩ xi xo b0 Q ⟨⟨mi, mp, mx, mt⟩, ⟨mn, my, mc⟩, mj, mu⟩), by simp⟩
      have HG := Lib.hid hG
      clear hG
      go_cut [63] (fun v wx => ∃ nq : Nat, v = .bool G ∧ wx = w7.drewN nq)
      case first =>
        have hm := HM.out.below HB7.out
        have hx := HX.out.below HB7.out
        have m0 := (hm.1 0 _ rfl).1
        have m1 := (hm.1 1 _ rfl).1
        have m2 := (hm.1 2 _ rfl).1
        have m3 := (hm.1 3 _ rfl).1
        have x0 := (hx.1 0 _ rfl).1
        have x1 := (hx.1 1 _ rfl).1
        have x3 := (hx.1 3 _ rfl).1
        have x8 := (hx.1 8 _ rfl).1
        have w0 := (HW0.out.1 0 _ rfl).1
        have w1 := (HW0.out.1 1 _ rfl).1
        have w2 := (HW0.out.1 2 _ rfl).1
        have w3 := (HW0.out.1 3 _ rfl).1
        have w4 := (HW0.out.1 4 _ rfl).1
        have w5 := (HW0.out.1 5 _ rfl).1
        have w6 := (HW0.out.1 6 _ rfl).1
        have hql := HQQ.out.1
        obtain ⟨sm, hsm⟩ : ∃ z, sameM ⟨mi, mp, mx, mt⟩ ⟨ki, kp, kx, kt⟩ = z := ⟨_, rfl⟩
        have he := fun W => mkD_eql ⟨mi, mp, mx, mt⟩ ⟨ki, kp, kx, kt⟩ W
        rw [hsm] at he
        have HGF := Lib.hid (show ∀ P : Prop, (FitsM ⟨ki, kp, kx, kt⟩ xi xo b0 Q ⟨⟨mi, mp, mx, mt⟩, ⟨mn, my, mc⟩, mj, mu⟩ → P) → ¬ P → G = false from fun P h1 h2 => by
          cases e : G
          · rfl
          · exact absurd (h1 (HG.out.1 e)) h2)
        clear hm hx
        cases sm
        · obtain rfl : G = false := HGF.out _ (fun h => h.1) (by rw [hsm]; exact Bool.false_ne_true)
          clear hsm
          go_wp2_with fail
          go_quiet (fail)
          go_wp2_with fail
          go_meet
          exact ⟨_, rfl, rfl⟩
        have HSM := Lib.hid hsm
        clear hsm
        cases b0
        · obtain rfl : G = false := HGF.out _ (fun h => h.2.1) (by simp)
          go_wp2_with fail
          go_quiet (fail)
          go_wp2_with fail
          go_meet
          exact ⟨_, rfl, rfl⟩
        rcases (Decidable.em (xi = ki)).symm with g1 | g1
        · have e1 : (xi == ki) = false := eF g1
          obtain rfl : G = false := HGF.out _ (fun h => h.2.2.1) g1
          clear g1
          go_wp2_with fail
          go_quiet (fail)
          go_wp2_with fail
          go_meet
          exact ⟨_, rfl, rfl⟩
        have e1 : (xi == ki) = true := eT g1
        have HG1 := Lib.hid g1
        clear g1
        rcases (Decidable.em (xo = 0)).symm with g2 | g2
        · have e2 : (xo == 0) = false := eF g2
          obtain rfl : G = false := HGF.out _ (fun h => h.2.2.2.1) g2
          clear g2
          go_wp2_with fail
          go_quiet (fail)
          go_wp2_with fail
          go_meet
          exact ⟨_, rfl, rfl⟩
        have e2 : (xo == 0) = true := eT g2
        have HG2 := Lib.hid g2
        clear g2
        rcases (Decidable.em (qn = 1)).symm with g3 | g3
        · have e3 : (qn == 1) = false := by simp; exact g3
          have e4 : ((qn : Int) == 1) = false := eF (by omega)
          obtain rfl : G = false := HGF.out _ (fun h => show qn = 1 from by have := congrArg List.length h.2.2.2.2; rw [hql] at this; exact this) g3
          clear g3
          go_wp2_with fail
          go_quiet (fail)
          go_wp2_with fail
          go_meet
          exact ⟨_, rfl, rfl⟩
        subst g3
        obtain ⟨qb, qo, y, rfl, hy, q0, q1, q2⟩ := (HQQ.out.below (HB.out.trans (HB7.out.mono HB.out.size))).at 0 (by decide)
        obtain ⟨yn, yt, yc⟩ := y
        have hQ1 : Q = [⟨yn, yt, yc⟩] := by
          match Q, hql, hy with
          | [z], _, hy => exact congrArg (fun t => [t]) (Option.some.inj hy)
        replace q0 : w7.cell? ⟨qb, qo, none⟩ = some (.string yn) := by simpa using q0
        replace q1 : w7.cell? ⟨qb, qo + 1, none⟩ = some (.int .i64 yt) := by simpa using q1
        replace q2 : w7.cell? ⟨qb, qo + 2, none⟩ = some (.int .i64 yc) := by simpa using q2
        have hqe := fun W => qs_eqlG yn mn yt yc my mc W
        have hGQ : G = sameQ ⟨yn, yt, yc⟩ ⟨mn, my, mc⟩ := by
          rw [Bool.eq_iff_iff, HG.out, FitsM, GoodM, hQ1]
          constructor
          · rintro ⟨-, -, -, -, h⟩
            injection h with h _
            rw [h]
            simp [sameQ]
          · intro h
            refine ⟨HSM.out, rfl, HG1.out, HG2.out, ?_⟩
            rw [(sameQ_iff _ _).1 h]
        rw [← hGQ] at hqe
        clear hGQ hQ1 hy hql
        go_wp2_with fail
        go_quiet (fail)
        go_wp2_with fail
        go_meet
        exact ⟨_, rfl, rfl⟩
      case rest =>
        obtain ⟨nq, rfl, rfl⟩ := hcut
        have hb := below_drewN (Below.refl w7.heap.size w7) nq
        have HB8 := Lib.hid (HB7.out.trans (hb.mono HB7.out.size))
        have HW8 := Lib.hid (HW0.out.below hb)
        have HT8 := Lib.hid (HT7.out.below hb)
        obtain ⟨w8, hw8⟩ : ∃ z, w7.drewN nq = z := ⟨_, rfl⟩
        rw [hw8] at HB8 HW8 HT8 ⊢
        clear hb hw8 HB7 HW0 HT7
        cases G
        · have HNF2 := Lib.hid (show ∀ j r, j < k + 1 → l[j]? = some r → ¬ FitsM ⟨ki, kp, kx, kt⟩ xi xo b0 Q r from fun j r hj hr hf => by
            rcases Nat.lt_succ_iff_lt_or_eq.1 hj with h | rfl
            · exact HNF.out j r h hr hf
            · rw [HS.out] at hr
              obtain rfl := (Option.some.inj hr).symm
              exact Bool.false_ne_true (HG.out.2 hf))
          have i1 : (0 : Int) ≤ (k : Int) := by omega
          have i2 : (k : Int) < (n : Int) := by have := HLT.out; omega
          go_wp2
          go_roundw
          case rel => exact ⟨k + 1, HLT.out, by go_num, HNF2, HB8⟩
          case measure =>
            simp only [intOf]
            have := HLT.out
            omega
        · have hfit := HG.out.1 rfl
          have hke := (sameM_iff _ _).1 hfit.1
          have hsk : s.ws[k]? = some ⟨⟨mi, mp, mx, mt⟩, ⟨mn, my, mc⟩, mj, mu⟩ := by rw [HWS.out]; exact HS.out
          have HFM := Lib.hid (show FirstM s.ws ⟨ki, kp, kx, kt⟩ k ⟨⟨mi, mp, mx, mt⟩, ⟨mn, my, mc⟩, mj, mu⟩ from ⟨hsk, hfit.1, fun j r' hj hr' => sameM_no (fun e => HOK.out.ne hr' hsk (Nat.ne_of_lt hj) (e.trans hke.symm))⟩)
          have HGD := Lib.hid hfit.2
          clear hfit hke hsk
          have HR8 := Lib.hid (HR.out.below HB8.out)
          have HF8 := Lib.hid (HF.out.below HB8.out HF.out.size)
          obtain ⟨wv, ⟨hdc, hrow⟩, ⟨hq1, hq2⟩, hq3⟩ := HT8.out
          rw [HWS.out, HL.out] at hrow
          obtain ⟨gl, cl, rfl, -, hgl⟩ := own_shp' hrow (by have := HLT.out; omega)
          have hncl := own_capR hrow
          have HDC := Lib.hid hdc
          have HROW := Lib.hid hrow
          have HQ1 := Lib.hid (show q ∈ bs ∧ gl ∈ bs ∧ gl ≠ q from ⟨hq1, hq2 gl rfl⟩)
          have HBD := Lib.hid (show gW < w8.heap.size ∧ gR < w8.heap.size ∧ (∀ b ∈ bs, b < w8.heap.size) ∧ w.heap.size ≤ w8.heap.size from ⟨HW8.out.2, HR8.out.2, hq3, HF8.out.size⟩)
          have c0 := (hdc 0 _ rfl).1
          obtain ⟨B8, hB8⟩ : ∃ z, w8.heap.size = z := ⟨_, rfl⟩
          rw [hB8] at HBD
          have HB8E := Lib.hid hB8
          obtain ⟨i0, hi, hz0, hz1, hz2⟩ := info_parts infoWd
          have HI := Lib.hid hi
          have HZ0 := Lib.hid hz0
          have HZ1 := Lib.hid hz1
          have HZ2 := Lib.hid hz2
          obtain ⟨k1, hk1⟩ : ∃ z, k + 1 = z := ⟨_, rfl⟩
          have wk : IntKind.i64.wrap ((k : Int) + 1) = (k1 : Int) := by rw [IntKind.wrap_i64]; have := HLT.out; omega
          have hs1 := slice_headT Try.underlying88 hi hz1 gl n cl k (by have := HLT.out; omega)
          obtain ⟨ad, hs2, ⟨adx, rfl⟩, had⟩ := slice_tailT Try.underlying88 hi hz1 gl n cl k1 (by have := HLT.out; omega) hncl
          obtain ⟨n2, hn22⟩ : ∃ z, n - k1 = z := ⟨_, rfl⟩
          obtain ⟨c2x, hc2x⟩ : ∃ z, cl - k1 = z := ⟨_, rfl⟩
          rw [hn22, hc2x] at hs2
          have HAD := Lib.hid (show n2 ≠ 0 → adx = ⟨gl, k1 * 9, none⟩ from fun h => Option.some.inj (had (by omega)))
          have HN2 := Lib.hid (show k + 1 = k1 ∧ k1 + n2 = n from ⟨hk1, by have := HLT.out; omega⟩)
          have HLE := Lib.hid (show (l.eraseIdx k).length = k + n2 ∧ flatW (l.take k) ++ flatW (l.drop k1) = flatW (l.eraseIdx k) from ⟨by rw [List.length_eraseIdx, if_pos (by rw [HL.out]; exact HLT.out), HL.out]; have := HLT.out; omega, by rw [← flatW_app, ← hk1, List.eraseIdx_eq_take_drop_succ]⟩)
          clear hi hz0 hz1 hz2 hdc hrow hq1 hq2 hq3 hgl hncl hB8 hk1 hn22 hc2x had HB8 HT8 HG
          go_upto_region 6 with (fail)
          refine wp_region_last_drew (S := (fun wx => wx.cell? ⟨q, 0, none⟩ = some (.slice (some ⟨gl, 0, none⟩) n cl))) (L := 19) (by kernel_rfl) ((cell_later (Below.refl _ _).drew c0)) (fun hHeld => ?_)
          have hb := (Below.refl w8.heap.size w8).drew
          replace HROW := Lib.hid (own_below' HROW.out hb)
          replace HDC := Lib.hid (HDC.out.kept (hb.block q (by have h1 := HBD.out.2.2.1 q HQ1.out.1; have h2 := HB8E.out; omega)))
          replace HW8 := Lib.hid (HW8.out.below hb)
          replace HR8 := Lib.hid (HR8.out.below hb)
          replace HF8 := Lib.hid (HF8.out.below hb HF8.out.size)
          have HSZ := Lib.hid (show B8 ≤ w8.drew.heap.size from by rw [← HB8E.out]; exact hb.size)
          obtain ⟨y0, hwd⟩ : ∃ z, w8.drew = z := ⟨_, rfl⟩
          rw [hwd] at HROW HDC HW8 HR8 HF8 HSZ hHeld ⊢
          clear hwd hb c0
          refine wpAnyL_take (i := 0) (oi := { dst := some 64, op := Go.Op.move (Go.Operand.tmp 0), type := 62, pos := "ref.go:599", after := #[], guard := none }) (v := ?v0_630101) rfl (by kernel_rfl) (by kernel_rfl) (by kernel_rfl) (by kernel_rfl) (by kernel_rfl) (fun _ _ _ h => h) (Or.inl ⟨by rfl, ?y0_630101⟩) hHeld ?r0_630101
          case y0_630101 => intro w hSw; (try dsimp only at hSw); go_simp; try with_reducible rfl
          try simp only [Act.put, List.setIfInBounds_toArray, List.set_cons_zero, List.set_cons_succ]
          refine wpAnyL_take (i := 2) (oi := { dst := some 66, op := Go.Op.move (Go.Operand.tmp 0), type := 62, pos := "ref.go:599", after := #[], guard := none }) (v := ?v2_630101) rfl (by kernel_rfl) (by kernel_rfl) (by kernel_rfl) (by kernel_rfl) (by kernel_rfl) (fun _ _ _ h => h) (Or.inl ⟨by rfl, ?y2_630101⟩) hHeld ?r2_630101
          case y2_630101 => intro w hSw; (try dsimp only at hSw); go_simp; try with_reducible rfl
          try simp only [Act.put, List.setIfInBounds_toArray, List.set_cons_zero, List.set_cons_succ]
          refine wpAnyL_take (i := 3) (oi := { dst := some 67, op := Go.Op.nilCheck (Go.Operand.tmp 66), type := 0, pos := "ref.go:599", after := #[{ on := 2, ground := Go.Ground.data }], guard := none }) (v := ?v3_630101) rfl (by kernel_rfl) (by kernel_rfl) (by kernel_rfl) (by kernel_rfl) (by kernel_rfl) (fun _ _ _ h => h) (Or.inl ⟨by rfl, ?y3_630101⟩) hHeld ?r3_630101
          case y3_630101 => intro w hSw; (try dsimp only at hSw); go_simp; try with_reducible rfl
          try simp only [Act.put, List.setIfInBounds_toArray, List.set_cons_zero, List.set_cons_succ]
          refine wpAnyL_take (i := 4) (oi := { dst := some 68, op := Go.Op.fieldAddr 90 (Go.Operand.tmp 67) 0, type := 0, pos := "ref.go:599", after := #[{ on := 3, ground := Go.Ground.data }], guard := none }) (v := ?v4_630101) rfl (by kernel_rfl) (by kernel_rfl) (by kernel_rfl) (by kernel_rfl) (by kernel_rfl) (fun _ _ _ h => h) (Or.inl ⟨by rfl, ?y4_630101⟩) hHeld ?r4_630101
          case y4_630101 => intro w hSw; (try dsimp only at hSw); go_simp; try with_reducible rfl
          try simp only [Act.put, List.setIfInBounds_toArray, List.set_cons_zero, List.set_cons_succ]
          refine wpAnyL_take (i := 5) (oi := { dst := some 69, op := Go.Op.load 88 (Go.Operand.tmp 68), type := 88, pos := "ref.go:599", after := #[{ on := 4, ground := Go.Ground.data }], guard := none }) (v := ?v5_630101) rfl (by kernel_rfl) (by kernel_rfl) (by kernel_rfl) (by kernel_rfl) (by kernel_rfl) (fun _ _ _ h => h) (Or.inl ⟨by rfl, ?y5_630101⟩) hHeld ?r5_630101
          case y5_630101 => intro w hSw; (try dsimp only at hSw); go_simp; try with_reducible rfl
          try simp only [Act.put, List.setIfInBounds_toArray, List.set_cons_zero, List.set_cons_succ]
          refine wpAnyL_take (i := 6) (oi := { dst := some 70, op := Go.Op.move (Go.Operand.tmp 8), type := 3, pos := "ref.go:599", after := #[], guard := none }) (v := ?v6_630101) rfl (by kernel_rfl) (by kernel_rfl) (by kernel_rfl) (by kernel_rfl) (by kernel_rfl) (fun _ _ _ h => h) (Or.inl ⟨by rfl, ?y6_630101⟩) hHeld ?r6_630101
          case y6_630101 => intro w hSw; (try dsimp only at hSw); go_simp; try with_reducible rfl
          try simp only [Act.put, List.setIfInBounds_toArray, List.set_cons_zero, List.set_cons_succ]
          refine wpAnyL_take (i := 7) (oi := { dst := some 71, op := Go.Op.slice 88 (Go.Operand.tmp 69) none (some (Go.Operand.tmp 70)) none, type := 88, pos := "ref.go:599", after := #[{ on := 5, ground := Go.Ground.data }, { on := 6, ground := Go.Ground.data }], guard := none }) (v := ?v7_630101) rfl (by kernel_rfl) (by kernel_rfl) (by kernel_rfl) (by kernel_rfl) (by kernel_rfl) (fun _ _ _ h => h) (Or.inl ⟨by rfl, ?y7_630101⟩) hHeld ?r7_630101
          case y7_630101 => intro w hSw; (try dsimp only at hSw); go_simp; try with_reducible rfl
          try simp only [Act.put, List.setIfInBounds_toArray, List.set_cons_zero, List.set_cons_succ]
          refine wpAnyL_take (i := 9) (oi := { dst := some 73, op := Go.Op.move (Go.Operand.tmp 0), type := 62, pos := "ref.go:599", after := #[], guard := none }) (v := ?v9_630101) rfl (by kernel_rfl) (by kernel_rfl) (by kernel_rfl) (by kernel_rfl) (by kernel_rfl) (fun _ _ _ h => h) (Or.inl ⟨by rfl, ?y9_630101⟩) hHeld ?r9_630101
          case y9_630101 => intro w hSw; (try dsimp only at hSw); go_simp; try with_reducible rfl
          try simp only [Act.put, List.setIfInBounds_toArray, List.set_cons_zero, List.set_cons_succ]
          refine wpAnyL_take (i := 10) (oi := { dst := some 74, op := Go.Op.nilCheck (Go.Operand.tmp 73), type := 0, pos := "ref.go:599", after := #[{ on := 9, ground := Go.Ground.data }], guard := none }) (v := ?v10_630101) rfl (by kernel_rfl) (by kernel_rfl) (by kernel_rfl) (by kernel_rfl) (by kernel_rfl) (fun _ _ _ h => h) (Or.inl ⟨by rfl, ?y10_630101⟩) hHeld ?r10_630101
          case y10_630101 => intro w hSw; (try dsimp only at hSw); go_simp; try with_reducible rfl
          try simp only [Act.put, List.setIfInBounds_toArray, List.set_cons_zero, List.set_cons_succ]
          refine wpAnyL_take (i := 11) (oi := { dst := some 75, op := Go.Op.fieldAddr 90 (Go.Operand.tmp 74) 0, type := 0, pos := "ref.go:599", after := #[{ on := 10, ground := Go.Ground.data }], guard := none }) (v := ?v11_630101) rfl (by kernel_rfl) (by kernel_rfl) (by kernel_rfl) (by kernel_rfl) (by kernel_rfl) (fun _ _ _ h => h) (Or.inl ⟨by rfl, ?y11_630101⟩) hHeld ?r11_630101
          case y11_630101 => intro w hSw; (try dsimp only at hSw); go_simp; try with_reducible rfl
          try simp only [Act.put, List.setIfInBounds_toArray, List.set_cons_zero, List.set_cons_succ]
          refine wpAnyL_take (i := 12) (oi := { dst := some 76, op := Go.Op.load 88 (Go.Operand.tmp 75), type := 88, pos := "ref.go:599", after := #[{ on := 11, ground := Go.Ground.data }], guard := none }) (v := ?v12_630101) rfl (by kernel_rfl) (by kernel_rfl) (by kernel_rfl) (by kernel_rfl) (by kernel_rfl) (fun _ _ _ h => h) (Or.inl ⟨by rfl, ?y12_630101⟩) hHeld ?r12_630101
          case y12_630101 => intro w hSw; (try dsimp only at hSw); go_simp; try with_reducible rfl
          try simp only [Act.put, List.setIfInBounds_toArray, List.set_cons_zero, List.set_cons_succ]
          refine wpAnyL_take (i := 13) (oi := { dst := some 77, op := Go.Op.move (Go.Operand.tmp 8), type := 3, pos := "ref.go:599", after := #[], guard := none }) (v := ?v13_630101) rfl (by kernel_rfl) (by kernel_rfl) (by kernel_rfl) (by kernel_rfl) (by kernel_rfl) (fun _ _ _ h => h) (Or.inl ⟨by rfl, ?y13_630101⟩) hHeld ?r13_630101
          case y13_630101 => intro w hSw; (try dsimp only at hSw); go_simp; try with_reducible rfl
          try simp only [Act.put, List.setIfInBounds_toArray, List.set_cons_zero, List.set_cons_succ]
          refine wpAnyL_take (i := 14) (oi := { dst := some 78, op := Go.Op.binOp Go.BinOp.add 3 (Go.Operand.tmp 77) (Go.Operand.const (Go.Value.int Go.IntKind.i64 1)) 3, type := 3, pos := "ref.go:599", after := #[{ on := 13, ground := Go.Ground.data }], guard := none }) (v := ?v14_630101) rfl (by kernel_rfl) (by kernel_rfl) (by kernel_rfl) (by kernel_rfl) (by kernel_rfl) (fun _ _ _ h => h) (Or.inl ⟨by rfl, ?y14_630101⟩) hHeld ?r14_630101
          case y14_630101 => intro w hSw; (try dsimp only at hSw); go_simp; try with_reducible rfl
          try simp only [Act.put, List.setIfInBounds_toArray, List.set_cons_zero, List.set_cons_succ]
          refine wpAnyL_take (i := 15) (oi := { dst := some 79, op := Go.Op.slice 88 (Go.Operand.tmp 76) (some (Go.Operand.tmp 78)) none none, type := 88, pos := "ref.go:599", after := #[{ on := 12, ground := Go.Ground.data }, { on := 14, ground := Go.Ground.data }], guard := none }) (v := ?v15_630101) rfl (by kernel_rfl) (by kernel_rfl) (by kernel_rfl) (by kernel_rfl) (by kernel_rfl) (fun _ _ _ h => h) (Or.inl ⟨by rfl, ?y15_630101⟩) hHeld ?r15_630101
          case y15_630101 => intro w hSw; (try dsimp only at hSw); go_simp; try with_reducible rfl
          try simp only [Act.put, List.setIfInBounds_toArray, List.set_cons_zero, List.set_cons_succ]
          refine wpAnyL_ready (rs := [1]) (by kernel_rfl) (by simp) ?_
          refine AllReadyL.cons (o := { dst := some 65, op := Go.Op.buildSlice 88 0 #[], type := 88, pos := "ref.go:599", after := #[], guard := none }) rfl (by decide) (fun K hK => ?_) AllReadyL.nil
          go_simp
          have hal := (Below.refl y0.heap.size y0).alloc (Nat.le_refl _) (.cells #[] 84)
          have hnext := cell_later hal hHeld
          have HE := Lib.hid (World.ownsRow_made (base := 0) (size := 9) (e := 84) y0 #[] 0 (Nat.zero_le _) (by decide) (by rfl))
          have HGE := Lib.hid (show B8 ≤ y0.heap.size from HSZ.out)
          replace HROW := Lib.hid (own_below' HROW.out hal)
          replace HDC := Lib.hid (HDC.out.kept (hal.block q (Nat.lt_of_lt_of_le (HBD.out.2.2.1 q HQ1.out.1) HSZ.out)))
          replace HW8 := Lib.hid (HW8.out.below hal)
          replace HR8 := Lib.hid (HR8.out.below hal)
          replace HF8 := Lib.hid (HF8.out.below hal HF8.out.size)
          obtain ⟨y1, hwf⟩ : ∃ z, y0.alloc (.cells #[] 84) = z := ⟨_, rfl⟩
          obtain ⟨gE, hgE⟩ : ∃ z, y0.heap.size = z := ⟨_, rfl⟩
          replace HSZ := Lib.hid (show B8 ≤ y1.heap.size from by have h1 := hal.size; have h2 := HSZ.out; rw [hwf] at h1; omega)
          rw [hwf] at hnext HE HROW HDC HW8 HR8 HF8 ⊢
          rw [hgE] at HE HGE ⊢
          clear hwf hgE hal
          have HCA1 := Lib.hid (show CellsAt y1 (some ⟨gl, 0, none⟩) (k * 9) (flatW (l.take k)) from ⟨by rw [flatW_len, List.length_take, HL.out]; have := HLT.out; omega, Or.inr ⟨gl, 0, rfl, Nat.lt_of_lt_of_le (HBD.out.2.2.1 gl HQ1.out.2.1) HSZ.out, fun j u hj => by rw [Nat.zero_add]; refine ownsRow_at HROW.out j u ?_; rw [← flatW_take, List.getElem?_take] at hj; split at hj; exact hj; cases hj⟩⟩)
          refine hK.out _ _ (hnext) (fun hHeld2 => ?_)
          clear hK K hHeld
          have hHeld := hHeld2
          clear hHeld2
          try simp only [Act.put, List.setIfInBounds_toArray, List.set_cons_zero, List.set_cons_succ]
          refine wpAnyL_ready (rs := [8]) (by kernel_rfl) (by simp) ?_
          refine AllReadyL.cons (o := { dst := some 72, op := Go.Op.call { callee := Go.Callee.builtin Go.Builtin.append, args := #[Go.Operand.tmp 65, Go.Operand.tmp 71], argTypes := #[88, 88] }, type := 88, pos := "ref.go:599", after := #[{ on := 1, ground := Go.Ground.data }, { on := 7, ground := Go.Ground.data }], guard := none }) rfl (by decide) (fun K hK => ?_) AllReadyL.nil
          refine step_append_fr (by rfl) (.tmp 65) (.tmp 71) 88 84 (by rfl) i0 zWt 9 88 Try.underlying88 HI.out HZ0.out HZ1.out HZ2.out rfl (by decide) (.slice (some ⟨gE, 0, none⟩) 0 0) 0 [] (by rfl) HE.out ⟨gl, 0, none⟩ k cl (flatW (l.take k)) (by rfl) HCA1.out (flatW_one _) (by have := HLT.out; omega) (by decide) ?_
          intro v1 y2 g1 g2 g3
          rw [Nat.zero_add, List.nil_append] at g1
          obtain ⟨a1, c1, rfl, -, -⟩ := cellsK_own g1
          have hge : ∀ g, (Value.slice (some ⟨gE, 0, none⟩) 0 0).ownBlock = some g → B8 ≤ g := fun g hg => by have h9 : gE = g := Option.some.inj hg; have := HGE.out; omega
          have hnext := g2.cell hHeld (fun e => by have := hge q e.symm; have := HBD.out.2.2.1 q HQ1.out.1; omega)
          have HO1 := Lib.hid g1
          have HBE := Lib.hid (show ∀ g, (Value.slice a1 k c1).ownBlock = some g → B8 ≤ g from fun g hg => by rcases g3 g hg with h1 | h1; exact hge g h1; exact Nat.le_trans HSZ.out h1)
          replace HROW := Lib.hid (HROW.out.kept g2 (Or.inr (fun e => by have := hge gl e.symm; have := HBD.out.2.2.1 gl HQ1.out.2.1; omega)))
          replace HDC := Lib.hid (HDC.out.kept (g2.block q (Nat.lt_of_lt_of_le (HBD.out.2.2.1 q HQ1.out.1) HSZ.out) (fun e => by have := hge q e.symm; have := HBD.out.2.2.1 q HQ1.out.1; omega)))
          replace HW8 := Lib.hid (HW8.out.grown g2 (fun g hg e => by have := hge g hg; have := HBD.out.1; omega))
          replace HR8 := Lib.hid (HR8.out.grown g2 (fun g hg e => by have := hge g hg; have := HBD.out.2.1; omega))
          replace HF8 := Lib.hid (HF8.out.grown g2 (fun g hg => Or.inr (Nat.le_trans HBD.out.2.2.2 (hge g hg))))
          replace HSZ := Lib.hid (show B8 ≤ y2.heap.size from Nat.le_trans HSZ.out g2.size)
          have HCA2 := Lib.hid (show CellsAt y2 (some adx) (n2 * 9) (flatW (l.drop k1)) from ⟨by rw [flatW_len, List.length_drop, HL.out]; have := HN2.out; omega, by by_cases h0 : n2 = 0; exact Or.inl (by rw [h0, Nat.zero_mul]); exact Or.inr ⟨gl, k1 * 9, by rw [HAD.out h0], Nat.lt_of_lt_of_le (HBD.out.2.2.1 gl HQ1.out.2.1) HSZ.out, fun j u hj => by refine ownsRow_at HROW.out _ u ?_; rw [← flatW_drop, List.getElem?_drop] at hj; exact hj⟩⟩)
          clear g1 g2 g3 hge HE HCA1 HGE
          refine hK.out _ _ (hnext) (fun hHeld2 => ?_)
          clear hK K hHeld
          have hHeld := hHeld2
          clear hHeld2
          try simp only [Act.put, List.setIfInBounds_toArray, List.set_cons_zero, List.set_cons_succ]
          refine wpAnyL_ready (rs := [16]) (by kernel_rfl) (by simp) ?_
          refine AllReadyL.cons (o := { dst := some 80, op := Go.Op.call { callee := Go.Callee.builtin Go.Builtin.append, args := #[Go.Operand.tmp 72, Go.Operand.tmp 79], argTypes := #[88, 88] }, type := 88, pos := "ref.go:599", after := #[{ on := 8, ground := Go.Ground.data }, { on := 15, ground := Go.Ground.data }, { on := 8, ground := Go.Ground.chain }], guard := none }) rfl (by decide) (fun K hK => ?_) AllReadyL.nil
          refine step_append_fr (by rfl) (.tmp 72) (.tmp 79) 88 84 (by rfl) i0 zWt 9 88 Try.underlying88 HI.out HZ0.out HZ1.out HZ2.out rfl (by decide) (.slice a1 k c1) k (flatW (l.take k)) (by rfl) HO1.out adx n2 c2x (flatW (l.drop k1)) (by rfl) HCA2.out (flatW_one _) (by have := HN2.out; omega) (by decide) ?_
          intro v2 y3 g1 g2 g3
          rw [HLE.out.2] at g1
          obtain ⟨a2, c2, rfl, -, -⟩ := cellsK_own g1
          have hnext := g2.cell hHeld (fun e => by have := HBE.out q e.symm; have := HBD.out.2.2.1 q HQ1.out.1; omega)
          have HO2 := Lib.hid g1
          have HBF := Lib.hid (show ∀ g, (Value.slice a2 (k + n2) c2).ownBlock = some g → B8 ≤ g from fun g hg => by rcases g3 g hg with h1 | h1; exact HBE.out g h1; exact Nat.le_trans HSZ.out h1)
          replace HDC := Lib.hid (HDC.out.kept (g2.block q (Nat.lt_of_lt_of_le (HBD.out.2.2.1 q HQ1.out.1) HSZ.out) (fun e => by have := HBE.out q e.symm; have := HBD.out.2.2.1 q HQ1.out.1; omega)))
          replace HW8 := Lib.hid (HW8.out.grown g2 (fun g hg e => by have := HBE.out g hg; have := HBD.out.1; omega))
          replace HR8 := Lib.hid (HR8.out.grown g2 (fun g hg e => by have := HBE.out g hg; have := HBD.out.2.1; omega))
          replace HF8 := Lib.hid (HF8.out.grown g2 (fun g hg => Or.inr (Nat.le_trans HBD.out.2.2.2 (HBE.out g hg))))
          replace HSZ := Lib.hid (show B8 ≤ y3.heap.size from Nat.le_trans HSZ.out g2.size)
          clear g1 g2 g3 HCA2 HO1 HBE HROW
          refine hK.out _ _ (hnext) (fun hHeld2 => ?_)
          clear hK K hHeld
          have hHeld := hHeld2
          clear hHeld2
          try simp only [Act.put, List.setIfInBounds_toArray, List.set_cons_zero, List.set_cons_succ]
          refine wpAnyL_take (i := 17) (oi := { dst := some 81, op := Go.Op.nilCheck (Go.Operand.tmp 64), type := 0, pos := "ref.go:599", after := #[{ on := 0, ground := Go.Ground.data }, { on := 0, ground := Go.Ground.phase }, { on := 1, ground := Go.Ground.phase }, { on := 2, ground := Go.Ground.phase }, { on := 3, ground := Go.Ground.phase }, { on := 4, ground := Go.Ground.phase }, { on := 5, ground := Go.Ground.phase }, { on := 6, ground := Go.Ground.phase }, { on := 7, ground := Go.Ground.phase }, { on := 8, ground := Go.Ground.phase }, { on := 9, ground := Go.Ground.phase }, { on := 10, ground := Go.Ground.phase }, { on := 11, ground := Go.Ground.phase }, { on := 12, ground := Go.Ground.phase }, { on := 13, ground := Go.Ground.phase }, { on := 14, ground := Go.Ground.phase }, { on := 15, ground := Go.Ground.phase }, { on := 16, ground := Go.Ground.phase }], guard := none }) (v := ?v17_630104) rfl (by kernel_rfl) (by kernel_rfl) (by kernel_rfl) (by kernel_rfl) (by kernel_rfl) (fun _ _ _ h => h) (Or.inl ⟨by rfl, ?y17_630104⟩) hHeld ?r17_630104
          case y17_630104 => intro w hSw; (try dsimp only at hSw); go_simp; try with_reducible rfl
          try simp only [Act.put, List.setIfInBounds_toArray, List.set_cons_zero, List.set_cons_succ]
          refine wpAnyL_take (i := 18) (oi := { dst := some 82, op := Go.Op.fieldAddr 90 (Go.Operand.tmp 81) 0, type := 0, pos := "ref.go:599", after := #[{ on := 17, ground := Go.Ground.data }, { on := 0, ground := Go.Ground.phase }, { on := 1, ground := Go.Ground.phase }, { on := 2, ground := Go.Ground.phase }, { on := 3, ground := Go.Ground.phase }, { on := 4, ground := Go.Ground.phase }, { on := 5, ground := Go.Ground.phase }, { on := 6, ground := Go.Ground.phase }, { on := 7, ground := Go.Ground.phase }, { on := 8, ground := Go.Ground.phase }, { on := 9, ground := Go.Ground.phase }, { on := 10, ground := Go.Ground.phase }, { on := 11, ground := Go.Ground.phase }, { on := 12, ground := Go.Ground.phase }, { on := 13, ground := Go.Ground.phase }, { on := 14, ground := Go.Ground.phase }, { on := 15, ground := Go.Ground.phase }, { on := 16, ground := Go.Ground.phase }], guard := none }) (v := ?v18_630104) rfl (by kernel_rfl) (by kernel_rfl) (by kernel_rfl) (by kernel_rfl) (by kernel_rfl) (fun _ _ _ h => h) (Or.inl ⟨by rfl, ?y18_630104⟩) hHeld ?r18_630104
          case y18_630104 => intro w hSw; (try dsimp only at hSw); go_simp; try with_reducible rfl
          try simp only [Act.put, List.setIfInBounds_toArray, List.set_cons_zero, List.set_cons_succ]
          refine wpAnyL_ready (rs := [19]) (by kernel_rfl) (by simp) ?_
          refine AllReadyL.last (o := { dst := none, op := Go.Op.store 88 (Go.Operand.tmp 82) (Go.Operand.tmp 80), type := 0, pos := "ref.go:599", after := #[{ on := 18, ground := Go.Ground.data }, { on := 16, ground := Go.Ground.data }, { on := 16, ground := Go.Ground.chain }, { on := 0, ground := Go.Ground.phase }, { on := 1, ground := Go.Ground.phase }, { on := 2, ground := Go.Ground.phase }, { on := 3, ground := Go.Ground.phase }, { on := 4, ground := Go.Ground.phase }, { on := 5, ground := Go.Ground.phase }, { on := 6, ground := Go.Ground.phase }, { on := 7, ground := Go.Ground.phase }, { on := 8, ground := Go.Ground.phase }, { on := 9, ground := Go.Ground.phase }, { on := 10, ground := Go.Ground.phase }, { on := 11, ground := Go.Ground.phase }, { on := 12, ground := Go.Ground.phase }, { on := 13, ground := Go.Ground.phase }, { on := 14, ground := Go.Ground.phase }, { on := 15, ground := Go.Ground.phase }, { on := 16, ground := Go.Ground.phase }], guard := none }) rfl (by decide) (fun K hK => ?_) AllReadyL.nil
          have cf := (HDC.out 0 _ rfl).2
          have cc := (HDC.out 0 _ rfl).1
          go_simp
          refine hK.out _ _ trivial (fun _ => ?_)
          clear hK K
          try simp only [Act.put, List.setIfInBounds_toArray, List.set_cons_zero, List.set_cons_succ]
          refine wpAnyL_done (by kernel_rfl) ?_ _
          have hWq : gW ≠ q := fun e => HQW.out (e ▸ HQ1.out.1)
          have HW9 := Lib.hid (HW8.out.other (p := q) (i := 0) hWq (.slice a2 (k + n2) c2))
          have HR9 := Lib.hid (HR8.out.other (p := q) (i := 0) (fun e => HGC.out (e ▸ HQ1.out.1)) (.slice a2 (k + n2) c2))
          have HF9 := Lib.hid (HF8.out.set q 0 (Or.inl HQ1.out.1) (.slice a2 (k + n2) c2))
          have HT9 := Lib.hid (show ∃ cs, RTs (y3.setCell ⟨q, 0, none⟩ (.slice a2 (k + n2) c2)) cs q { s with ws := s.ws.eraseIdx k } ∧ (∀ g ∈ cs, g ∈ bs ∨ w.heap.size ≤ g) ∧ gR ∉ cs from by
            have hmm : ∀ x, x ∈ bs ++ (Value.slice a2 (k + n2) c2).ownBlock.toList ↔ x ∈ bs ∨ (Value.slice a2 (k + n2) c2).ownBlock = some x := by
              intro x
              simp [Option.mem_toList]
            have hfq : ∀ g, (Value.slice a2 (k + n2) c2).ownBlock = some g → g ≠ q := fun g hg e => by have := HBF.out g hg; have := HBD.out.2.2.1 q HQ1.out.1; omega
            refine ⟨bs ++ (Value.slice a2 (k + n2) c2).ownBlock.toList, ⟨(.slice a2 (k + n2) c2), ⟨HDC.out.set 0 (by simp) _, ?_⟩, ⟨(hmm _).2 (Or.inl HQ1.out.1), fun g hg => ⟨(hmm _).2 (Or.inr hg), hfq g hg⟩⟩, fun b hb => ?_⟩, fun g hg => ?_, fun hg => ?_⟩
            · have h1 := own_kept HO2.out (w' := y3.setCell ⟨q, 0, none⟩ (.slice a2 (k + n2) c2)) (fun g hg => Below.heap_setCell _ _ _ _ (hfq g hg))
              show World.ownsRow _ 0 _ 9 _ (s.ws.eraseIdx k).length (flatW (s.ws.eraseIdx k))
              rw [HWS.out, HLE.out.1]
              exact h1
            · rw [show (y3.setCell ⟨q, 0, none⟩ (.slice a2 (k + n2) c2)).heap.size = y3.heap.size by simp]
              rcases (hmm b).1 hb with h1 | h1
              · exact Nat.lt_of_lt_of_le (HBD.out.2.2.1 b h1) HSZ.out
              · exact (HO2.out.lt b h1).2
            · rcases (hmm g).1 hg with h1 | h1
              · exact Or.inl h1
              · exact Or.inr (Nat.le_trans HBD.out.2.2.2 (HBF.out g h1))
            · rcases (hmm gR).1 hg with h1 | h1
              · exact HGC.out h1
              · have := HBF.out gR h1; have := HBD.out.2.1; omega)
          obtain ⟨y4, hy4⟩ : ∃ z, y3.setCell ⟨q, 0, none⟩ (.slice a2 (k + n2) c2) = z := ⟨_, rfl⟩
          rw [hy4] at HW9 HR9 HF9 HT9 ⊢
          clear hy4 hHeld HR8 HF8 HDC HO2 HBF HSZ HW8 cf cc hWq hs1 hs2 wk
          have HR8 := HR9
          have HF8 := HF9
          have HRN := Lib.hid (show y4.rangeAt gW 0 [.int .i64 mi, .int .i64 mp, .string mx, .bool mt, .string mn, .int .i64 my, .int .i64 mc, .int .i64 mj, .int .i64 mu] from fun j v hj => by rw [Nat.zero_add]; exact (HW9.out.1 j v hj).1)
          have HTX := HT9
          clear HR9 HF9 HT9 HW9
          have HTH := Lib.hid (show y4.there gR 0 ([.int .i64 mi, .int .i64 mp, .string mx, .bool mt, .string mn, .int .i64 my, .int .i64 mc, .int .i64 mj, .int .i64 mu] : List Value).toArray.size from fun j hj => by
            rw [Nat.zero_add]
            have hj9 : j < ([.int .i64 0, .int .i64 0, .string ⟨#[]⟩, .bool false, .string ⟨#[]⟩, .int .i64 0, .int .i64 0, .int .i64 0, .int .i64 0] : List Value).length := hj
            obtain ⟨u, hu⟩ : ∃ u, ([.int .i64 0, .int .i64 0, .string ⟨#[]⟩, .bool false, .string ⟨#[]⟩, .int .i64 0, .int .i64 0, .int .i64 0, .int .i64 0] : List Value)[j]? = some u := ⟨_, List.getElem?_eq_getElem hj9⟩
            obtain ⟨h1, h2⟩ := HR8.out.1 j u hu
            exact ⟨by rw [h1]; rfl, h2⟩)
          have HRS := Lib.hid (World.rangeAt_setCells_same y4 gR 0 ([.int .i64 mi, .int .i64 mp, .string mx, .bool mt, .string mn, .int .i64 my, .int .i64 mc, .int .i64 mj, .int .i64 mu] : List Value) HTH.out)
          have HF9 := Lib.hid (HF8.out.sets gR 0 (Or.inr (by have := HNE.out; omega)) [.int .i64 mi, .int .i64 mp, .string mx, .bool mt, .string mn, .int .i64 my, .int .i64 mc, .int .i64 mj, .int .i64 mu])
          have HT9 := Lib.hid (show ∃ cs, RTs (y4.setCells gR 0 [.int .i64 mi, .int .i64 mp, .string mx, .bool mt, .string mn, .int .i64 my, .int .i64 mc, .int .i64 mj, .int .i64 mu]) cs q { s with ws := s.ws.eraseIdx k } ∧ ∀ g ∈ cs, g ∈ bs ∨ w.heap.size ≤ g from by obtain ⟨cs, h1, h2, h3⟩ := HTX.out; exact ⟨cs, h1.frm ((Frm.refl y4 [gR]).sets gR 0 (Or.inl (by simp)) _) (fun b hb e => h3 (by simp at e; exact e ▸ hb)), h2⟩)
          obtain ⟨w9, hw9⟩ : ∃ z, y4.setCells gR 0 [.int .i64 mi, .int .i64 mp, .string mx, .bool mt, .string mn, .int .i64 my, .int .i64 mc, .int .i64 mj, .int .i64 mu] = z := ⟨_, rfl⟩
          rw [hw9] at HRS HF9 HT9
          have HW9 := Lib.hid (show y4.setCells gR 0 ([.int .i64 mi, .int .i64 mp, .string mx, .bool mt, .string mn, .int .i64 my, .int .i64 mc, .int .i64 mj, .int .i64 mu] : List Value).toArray.toList = w9 from hw9)
          have HON := Lib.hid (show ∀ u ∈ ([.int .i64 mi, .int .i64 mp, .string mx, .bool mt, .string mn, .int .i64 my, .int .i64 mc, .int .i64 mj, .int .i64 mu] : List Value), u.oneCell' = true from encW_one ⟨⟨mi, mp, mx, mt⟩, ⟨mn, my, mc⟩, mj, mu⟩)
          clear hw9
          go_wp2_with (first | (refine wpList_load_mid rfl 84 (.tmp 9) rfl _ _ rfl _ _ HRN.out Try.underlying84 rfl (by kernel_rfl) ?_) | (refine wpList_store_mid rfl 84 (.tmp 6) (.tmp 83) rfl _ _ _ rfl rfl HTH.out (by kernel_rfl) (all_oneCell_toArray HON.out) ?_; rw [HW9.out]))
          refine bodyPost_ret (v := .tuple #[.agg ([.int .i64 mi, .int .i64 mp, .string mx, .bool mt, .string mn, .int .i64 my, .int .i64 mc, .int .i64 mj, .int .i64 mu] : List Value).toArray, .bool true]) ?_ rfl ⟨Or.inl ⟨k, _, HFM.out, HGD.out, rfl, HT9.out⟩, HF9.out⟩
          rw [results_cell_tmp Try.results48]
          have hr := run_loadVar_mid (P := Try.prog) _ gR 0 84 [.int .i64 mi, .int .i64 mp, .string mx, .bool mt, .string mn, .int .i64 my, .int .i64 mc, .int .i64 mj, .int .i64 mu] _ HRS.out Try.underlying84 rfl (by kernel_rfl)
          simp [asAddr, hr]
    · have d0 : decide (k < n) = false := dF hlt
      obtain rfl : k = n := by omega
      have HNO := Lib.hid (show ∀ i r, FirstM s.ws ⟨ki, kp, kx, kt⟩ i r → ¬ GoodM ⟨ki, kp, kx, kt⟩ xi xo b0 Q r from fun i r h1 h2 => by
        have hi := h1.1
        rw [HWS.out] at hi
        exact HNF.out i r (by rw [← HL.out]; exact (List.getElem?_eq_some_iff.1 hi).1) hi ⟨h1.2.1, h2⟩)
      have HR8 := Lib.hid (HR.out.below HBK.out)
      have HF8 := Lib.hid (HF.out.below HBK.out HF.out.size)
      clear hlt hk hrow
      go_upto_region 8 with (fail)
      clear c0 f9 d0
      have HTH := Lib.hid (show wr.there gR 0 ([.int .i64 0, .int .i64 0, .string ⟨#[]⟩, .bool false, .string ⟨#[]⟩, .int .i64 0, .int .i64 0, .int .i64 0, .int .i64 0] : List Value).toArray.size from fun j hj => by
        rw [Nat.zero_add]
        have hj9 : j < ([.int .i64 0, .int .i64 0, .string ⟨#[]⟩, .bool false, .string ⟨#[]⟩, .int .i64 0, .int .i64 0, .int .i64 0, .int .i64 0] : List Value).length := hj
        obtain ⟨u, hu⟩ : ∃ u, ([.int .i64 0, .int .i64 0, .string ⟨#[]⟩, .bool false, .string ⟨#[]⟩, .int .i64 0, .int .i64 0, .int .i64 0, .int .i64 0] : List Value)[j]? = some u := ⟨_, List.getElem?_eq_getElem hj9⟩
        obtain ⟨h1, h2⟩ := HR8.out.1 j u hu
        exact ⟨by rw [h1]; rfl, h2⟩)
      have HRS := Lib.hid (World.rangeAt_setCells_same wr gR 0 ([.int .i64 0, .int .i64 0, .string ⟨#[]⟩, .bool false, .string ⟨#[]⟩, .int .i64 0, .int .i64 0, .int .i64 0, .int .i64 0] : List Value) HTH.out)
      have HF9 := Lib.hid (HF8.out.sets gR 0 (Or.inr (by have := HNE.out; omega)) [.int .i64 0, .int .i64 0, .string ⟨#[]⟩, .bool false, .string ⟨#[]⟩, .int .i64 0, .int .i64 0, .int .i64 0, .int .i64 0])
      have HT9 := Lib.hid (HT2.out.frm ((Frm.refl wr [gR]).sets gR 0 (Or.inl (by simp)) [.int .i64 0, .int .i64 0, .string ⟨#[]⟩, .bool false, .string ⟨#[]⟩, .int .i64 0, .int .i64 0, .int .i64 0, .int .i64 0]) (fun b hb e => HGC.out (by simp at e; exact e ▸ hb)))
      obtain ⟨w9, hw9⟩ : ∃ z, wr.setCells gR 0 [.int .i64 0, .int .i64 0, .string ⟨#[]⟩, .bool false, .string ⟨#[]⟩, .int .i64 0, .int .i64 0, .int .i64 0, .int .i64 0] = z := ⟨_, rfl⟩
      rw [hw9] at HRS HF9 HT9
      have HW9 := Lib.hid (show wr.setCells gR 0 ([.int .i64 0, .int .i64 0, .string ⟨#[]⟩, .bool false, .string ⟨#[]⟩, .int .i64 0, .int .i64 0, .int .i64 0, .int .i64 0] : List Value).toArray.toList = w9 from hw9)
      have HON := Lib.hid (show ∀ u ∈ ([.int .i64 0, .int .i64 0, .string ⟨#[]⟩, .bool false, .string ⟨#[]⟩, .int .i64 0, .int .i64 0, .int .i64 0, .int .i64 0] : List Value), u.oneCell' = true from encW_one ⟨⟨0, 0, ⟨#[]⟩, false⟩, ⟨⟨#[]⟩, 0, 0⟩, 0, 0⟩)
      clear hw9
      go_wp2_with (first | (refine wpList_store_mid rfl 84 (.tmp 6) (.tmp 84) rfl _ _ _ rfl rfl HTH.out (by kernel_rfl) (all_oneCell_toArray HON.out) ?_; rw [HW9.out]))
      refine bodyPost_ret (v := .tuple #[.agg ([.int .i64 0, .int .i64 0, .string ⟨#[]⟩, .bool false, .string ⟨#[]⟩, .int .i64 0, .int .i64 0, .int .i64 0, .int .i64 0] : List Value).toArray, .bool false]) ?_ rfl ⟨Or.inr ⟨HNO.out, rfl, HT9.out⟩, HF9.out⟩
      rw [results_cell_tmp Try.results48]
      have hr := run_loadVar_mid (P := Try.prog) _ gR 0 84 [.int .i64 0, .int .i64 0, .string ⟨#[]⟩, .bool false, .string ⟨#[]⟩, .int .i64 0, .int .i64 0, .int .i64 0, .int .i64 0] _ HRS.out Try.underlying84 rfl (by kernel_rfl)
      simp [asAddr, hr]
end Go.Proofs.Ytocfphijheidbaa
