/- A message matched with the questions that are out: contract of Match (written by mktbm.py). -/
import Derived.Test.YtocfphijheidbaaTbL
namespace Go.Proofs.Ytocfphijheidbaa
open Go.RowKit

theorem own_shp' {w : World} {B n size : Nat} {e : TypeId} {v : Value} {xs : List Value} (h : w.ownsRow B e size v n xs) (hn : n ≠ 0) : ∃ g c, v = .slice (some ⟨g, 0, none⟩) n c ∧ B ≤ g ∧ g < w.heap.size := by
  rcases h.2 with ⟨_, h1⟩ | ⟨g, cap, cur, rfl, hb, hg, _⟩
  · exact absurd h1 hn
  · exact ⟨g, cap, rfl, hb, (Array.getElem?_eq_some_iff.1 hg).1⟩
theorem HeldT.frm' {q : Nat} {cs : List Value} {w w' : World} {bs : List Nat} (h : HeldT q cs w) (hf : Frm w w' bs) (hq : q ∉ bs) : HeldT q cs w' := ⟨h.1.kept (hf.block q h.2 hq), Nat.lt_of_lt_of_le h.2 hf.size⟩
/-- The first Wait that bears a mark. -/
def FirstM (ws : List WtP) (k : MkP) (i : Nat) (r : WtP) : Prop := ws[i]? = some r ∧ sameM r.m k = true ∧ ∀ j r', j < i → ws[j]? = some r' → sameM r'.m k = false
/-- What a message must be. -/
def GoodM (k : MkP) (id op : Int) (qr : Bool) (Q : List QsP) (r : WtP) : Prop := qr = true ∧ id = k.id ∧ op = 0 ∧ Q = [r.q]
theorem FirstM.one {ws : List WtP} {k : MkP} {i j : Nat} {r s : WtP} (h : FirstM ws k i r) (g : FirstM ws k j s) : i = j ∧ r = s := by
  have e : i = j := by
    rcases Nat.lt_trichotomy i j with h1 | h1 | h1
    · have := g.2.2 i r h1 h.1; rw [h.2.1] at this; cases this
    · exact h1
    · have := h.2.2 j s h1 g.1; rw [g.2.1] at this; cases this
  subst e
  have := h.1.symm.trans g.1
  exact ⟨rfl, Option.some.inj this⟩
theorem TbS.cut {w w' : World} {bs : List Nat} {q g n c i : Nat} {s : TbP} (h : TbS w bs q s) (hc : w.cell? ⟨q, 2, none⟩ = some (.slice (some ⟨g, 0, none⟩) n c)) (hf : Frm w w' [g]) (hr : w'.ownsRow 0 79 9 (.slice (some ⟨g, 0, none⟩) (n - 1) c) (n - 1) (flatW (s.ws.eraseIdx i))) (hl : (s.ws.eraseIdx i).length = n - 1) :
    TbS (w'.setCell ⟨q, 2, none⟩ (.slice (some ⟨g, 0, none⟩) (n - 1) c)) bs q { s with ws := s.ws.eraseIdx i } := by
  obtain ⟨wv, ⟨h1, h2⟩, ⟨a1, a2⟩, a3⟩ := h
  obtain rfl : wv = .slice (some ⟨g, 0, none⟩) n c := by
    have := h1.u3.2.2.1
    rw [hc] at this
    exact (Option.some.inj this).symm
  obtain ⟨hg1, hg2⟩ := a2 g rfl
  have hk : w'.heap[q]? = w.heap[q]? := hf.block q (a3 q a1) (by simp; exact fun e => hg2 e.symm)
  refine ⟨.slice (some ⟨g, 0, none⟩) (n - 1) c, ⟨(h1.kept hk).set 2 (by simp) _, ?_⟩, ⟨a1, fun g' hg' => ?_⟩, fun b hb => by simpa using Nat.lt_of_lt_of_le (a3 b hb) hf.size⟩
  · show World.ownsRow _ 0 _ 9 _ (s.ws.eraseIdx i).length _
    rw [hl]
    exact own_kept hr (fun g' hg' => Below.heap_setCell _ _ _ _ (by have e : g = g' := (by simpa [Value.ownBlock] using hg'); subst e; exact hg2))
  · have e : g = g' := by simpa [Value.ownBlock] using hg'
    subst e
    exact ⟨hg1, hg2⟩
set_option maxRecDepth 100000 in
set_option maxHeartbeats 8000000 in
theorem match_any (bs : List Nat) (q : Nat) (s : TbP) (ki kp : Int) (kx : ByteArray) (kt : Bool) (xi xo xc : Int) (b0 b1 b2 b3 b4 : Bool) (qa s1 s2 s3 : Option Addr) (qn qc n1 c1 n2 c2 n3 c3 : Nat) (Q : List QsP) (w : World) (h : TbS w bs q s) (hn : s.ws.length ≤ 5000) (hQ : RowQs w qa qn Q) (hqn : qn ≤ 1000000) :
    Calls Try.prog 47 #[.pointer (some ⟨q, 0, none⟩), .agg #[.int .i64 ki, .int .i64 kp, .string kx, .bool kt], .agg #[.int .i64 xi, .int .i64 xo, .int .i64 xc, .bool b0, .bool b1, .bool b2, .bool b3, .bool b4, .slice qa qn qc, .slice s1 n1 c1, .slice s2 n2 c2, .slice s3 n3 c3]] w fun e w' =>
      ((∃ i r, FirstM s.ws ⟨ki, kp, kx, kt⟩ i r ∧ GoodM ⟨ki, kp, kx, kt⟩ xi xo b0 Q r ∧ e = .returned (.tuple #[.agg (encW r).toArray, .bool true]) ∧ TbS w' bs q { s with ws := s.ws.eraseIdx i }) ∨
       ((∀ i r, FirstM s.ws ⟨ki, kp, kx, kt⟩ i r → ¬ GoodM ⟨ki, kp, kx, kt⟩ xi xo b0 Q r) ∧ e = .returned (.tuple #[.agg #[.int .i64 0, .int .i64 0, .string ⟨#[]⟩, .bool false, .string ⟨#[]⟩, .int .i64 0, .int .i64 0, .int .i64 0, .int .i64 0], .bool false]) ∧ TbS w' bs q s)) ∧ Frm w w' bs := by
  have HNN := Lib.hid hn
  have hqb := h.choose_spec.2.1.1
  have HQB := Lib.hid (show q ∈ bs ∧ ∀ b ∈ bs, b < w.heap.size from ⟨hqb, h.lt⟩)
  have HQQ := Lib.hid hQ
  have HQN := Lib.hid hqn
  have y1 := (Below.refl w.heap.size w).alloc (Nat.le_refl _) (.cells #[.int .i64 ki, .int .i64 kp, .string kx, .bool kt] 69)
  have m1 := HeldT.new w #[.int .i64 ki, .int .i64 kp, .string kx, .bool kt] 69
  obtain ⟨u1, hu1⟩ : ∃ z, w.alloc (.cells #[.int .i64 ki, .int .i64 kp, .string kx, .bool kt] 69) = z := ⟨_, rfl⟩
  have z1 : u1.heap.size = w.heap.size + 1 := by rw [← hu1, World.size_alloc]
  rw [hu1] at y1 m1
  have y2 := (Below.refl u1.heap.size u1).alloc (Nat.le_refl _) (.cells #[.int .i64 xi, .int .i64 xo, .int .i64 xc, .bool b0, .bool b1, .bool b2, .bool b3, .bool b4, .slice qa qn qc, .slice s1 n1 c1, .slice s2 n2 c2, .slice s3 n3 c3] 75)
  have m2 := m1.below y2
  have x2 := HeldT.new u1 #[.int .i64 xi, .int .i64 xo, .int .i64 xc, .bool b0, .bool b1, .bool b2, .bool b3, .bool b4, .slice qa qn qc, .slice s1 n1 c1, .slice s2 n2 c2, .slice s3 n3 c3] 75
  obtain ⟨u2, hu2⟩ : ∃ z, u1.alloc (.cells #[.int .i64 xi, .int .i64 xo, .int .i64 xc, .bool b0, .bool b1, .bool b2, .bool b3, .bool b4, .slice qa qn qc, .slice s1 n1 c1, .slice s2 n2 c2, .slice s3 n3 c3] 75) = z := ⟨_, rfl⟩
  have z2 : u2.heap.size = w.heap.size + 1 + 1 := by rw [← hu2, World.size_alloc, z1]
  rw [hu2] at y2 m2 x2
  have y3 := (Below.refl u2.heap.size u2).alloc (Nat.le_refl _) (.cells #[.int .i64 0, .int .i64 0, .string ⟨#[]⟩, .bool false, .string ⟨#[]⟩, .int .i64 0, .int .i64 0, .int .i64 0, .int .i64 0] 79)
  have m3 := m2.below y3
  have x3 := x2.below y3
  have r3 := HeldT.new u2 #[.int .i64 0, .int .i64 0, .string ⟨#[]⟩, .bool false, .string ⟨#[]⟩, .int .i64 0, .int .i64 0, .int .i64 0, .int .i64 0] 79
  obtain ⟨w0, hw0⟩ : ∃ z, u2.alloc (.cells #[.int .i64 0, .int .i64 0, .string ⟨#[]⟩, .bool false, .string ⟨#[]⟩, .int .i64 0, .int .i64 0, .int .i64 0, .int .i64 0] 79) = z := ⟨_, rfl⟩
  rw [hw0] at y3 m3 x3 r3
  rw [z1] at x3
  rw [z2] at r3
  have HB := Lib.hid ((y1.trans (y2.mono y1.size)).trans (y3.mono (y1.trans (y2.mono y1.size)).size))
  have HW0 := Lib.hid (show ((w.alloc (.cells #[.int .i64 ki, .int .i64 kp, .string kx, .bool kt] 69)).alloc (.cells #[.int .i64 xi, .int .i64 xo, .int .i64 xc, .bool b0, .bool b1, .bool b2, .bool b3, .bool b4, .slice qa qn qc, .slice s1 n1 c1, .slice s2 n2 c2, .slice s3 n3 c3] 75)).alloc (.cells #[.int .i64 0, .int .i64 0, .string ⟨#[]⟩, .bool false, .string ⟨#[]⟩, .int .i64 0, .int .i64 0, .int .i64 0, .int .i64 0] 79) = w0 by rw [hu1, hu2, hw0])
  obtain ⟨gR, hgR⟩ : ∃ z, w.heap.size + 1 + 1 = z := ⟨_, rfl⟩
  obtain ⟨gX, hgX⟩ : ∃ z, w.heap.size + 1 = z := ⟨_, rfl⟩
  obtain ⟨gM, hgM⟩ : ∃ z, w.heap.size = z := ⟨_, rfl⟩
  rw [hgM] at m3
  rw [hgX] at x3
  rw [hgR] at r3
  have HM := Lib.hid m3
  have HX := Lib.hid x3
  have HR := Lib.hid r3
  have HGR := Lib.hid hgR
  have HGX := Lib.hid hgX
  have HGM := Lib.hid hgM
  have HT := Lib.hid (h.frm (Frm.below (Frm.refl w []) HB.out (Nat.le_refl _)) (fun _ _ h => by simp at h))
  have HF := Lib.hid ((Frm.refl w bs).below HB.out (Nat.le_refl _))
  have HNE := Lib.hid (show w.heap.size = gM ∧ gX = gM + 1 ∧ gR = gM + 2 by omega)
  have HGC := Lib.hid (show gR ∉ bs from fun e => by have := HQB.out.2 gR e; omega)
  clear y1 m1 hu1 z1 y2 m2 x2 hu2 z2 y3 m3 x3 r3 hw0 hgR hgX hgM hqb h hn hQ hqn
  go_enter Try.func47, Try.ntmps47
  go_upto_region 1 with (fail)
  rw [HW0.out, show w.heap.size + 1 + 1 = gR from HGR.out, HGX.out, HGM.out]
  clear HW0 HGR HGX HGM
  have e0 := (HM.out.1 0 _ rfl).1
  have e1 := (HM.out.1 1 _ rfl).1
  have e2 := (HM.out.1 2 _ rfl).1
  have e3 := (HM.out.1 3 _ rfl).1
  go_wp2_with fail
  refine (find_any bs q s ki kp kx kt w0 HT.out (by have := HNN.out; omega)).mono ?_; rintro e w1 ⟨hfd, hb⟩
  have HB1 := Lib.hid (HB.out.trans (hb.mono HB.out.size))
  replace HT := Lib.hid (HT.out.below hb)
  replace HM := Lib.hid (HM.out.below hb)
  replace HX := Lib.hid (HX.out.below hb)
  replace HR := Lib.hid (HR.out.below hb)
  replace HF := Lib.hid (HF.out.below hb HF.out.size)
  clear hb e0 e1 e2 e3 HB
  rcases hfd with ⟨rfl, hfree⟩ | ⟨k, x, rfl, hx1, hx2, hx3⟩
  · have HNO := Lib.hid (show ∀ i r, FirstM s.ws ⟨ki, kp, kx, kt⟩ i r → ¬ GoodM ⟨ki, kp, kx, kt⟩ xi xo b0 Q r from fun i r h _ => by
      have h1 := hfree r (List.mem_of_getElem? h.1)
      rw [h.2.1] at h1
      cases h1)
    clear hfree
    have HTH := Lib.hid (show w1.there gR 0 ([.int .i64 0, .int .i64 0, .string ⟨#[]⟩, .bool false, .string ⟨#[]⟩, .int .i64 0, .int .i64 0, .int .i64 0, .int .i64 0] : List Value).toArray.size from fun j hj => by
      rw [Nat.zero_add]
      have hj9 : j < ([.int .i64 0, .int .i64 0, .string ⟨#[]⟩, .bool false, .string ⟨#[]⟩, .int .i64 0, .int .i64 0, .int .i64 0, .int .i64 0] : List Value).length := hj
      obtain ⟨u, hu⟩ : ∃ u, ([.int .i64 0, .int .i64 0, .string ⟨#[]⟩, .bool false, .string ⟨#[]⟩, .int .i64 0, .int .i64 0, .int .i64 0, .int .i64 0] : List Value)[j]? = some u := ⟨_, List.getElem?_eq_getElem hj9⟩
      obtain ⟨h1, h2⟩ := HR.out.1 j u hu
      exact ⟨by rw [h1]; rfl, h2⟩)
    have HRS := Lib.hid (World.rangeAt_setCells_same w1 gR 0 ([.int .i64 0, .int .i64 0, .string ⟨#[]⟩, .bool false, .string ⟨#[]⟩, .int .i64 0, .int .i64 0, .int .i64 0, .int .i64 0] : List Value) HTH.out)
    have HF9 := Lib.hid (HF.out.sets gR 0 (Or.inr (by have := HNE.out; omega)) [.int .i64 0, .int .i64 0, .string ⟨#[]⟩, .bool false, .string ⟨#[]⟩, .int .i64 0, .int .i64 0, .int .i64 0, .int .i64 0])
    have HT9 := Lib.hid (HT.out.frm ((Frm.refl w1 [gR]).sets gR 0 (Or.inl (by simp)) [.int .i64 0, .int .i64 0, .string ⟨#[]⟩, .bool false, .string ⟨#[]⟩, .int .i64 0, .int .i64 0, .int .i64 0, .int .i64 0]) (fun b hb e => HGC.out (by simp at e; exact e ▸ hb)))
    obtain ⟨w9, hw9⟩ : ∃ z, w1.setCells gR 0 [.int .i64 0, .int .i64 0, .string ⟨#[]⟩, .bool false, .string ⟨#[]⟩, .int .i64 0, .int .i64 0, .int .i64 0, .int .i64 0] = z := ⟨_, rfl⟩
    rw [hw9] at HRS HF9 HT9
    have HW9 := Lib.hid (show w1.setCells gR 0 ([.int .i64 0, .int .i64 0, .string ⟨#[]⟩, .bool false, .string ⟨#[]⟩, .int .i64 0, .int .i64 0, .int .i64 0, .int .i64 0] : List Value).toArray.toList = w9 from hw9)
    have HON := Lib.hid (show ∀ u ∈ ([.int .i64 0, .int .i64 0, .string ⟨#[]⟩, .bool false, .string ⟨#[]⟩, .int .i64 0, .int .i64 0, .int .i64 0, .int .i64 0] : List Value), u.oneCell' = true from encW_one ⟨⟨0, 0, ⟨#[]⟩, false⟩, ⟨⟨#[]⟩, 0, 0⟩, 0, 0⟩)
    clear hw9
    go_wp2_with (first | (refine wpList_store_mid rfl 79 (.tmp 6) (.tmp 15) rfl _ _ _ rfl rfl HTH.out (by kernel_rfl) (all_oneCell_toArray HON.out) ?_; rw [HW9.out]))
    refine bodyPost_ret (v := .tuple #[.agg ([.int .i64 0, .int .i64 0, .string ⟨#[]⟩, .bool false, .string ⟨#[]⟩, .int .i64 0, .int .i64 0, .int .i64 0, .int .i64 0] : List Value).toArray, .bool false]) ?_ rfl ⟨Or.inr ⟨HNO.out, rfl, HT9.out⟩, HF9.out⟩
    rw [results_cell_tmp Try.results47]
    have hr := run_loadVar_mid (P := Try.prog) _ gR 0 79 [.int .i64 0, .int .i64 0, .string ⟨#[]⟩, .bool false, .string ⟨#[]⟩, .int .i64 0, .int .i64 0, .int .i64 0, .int .i64 0] _ HRS.out Try.underlying79 rfl (by kernel_rfl)
    simp [asAddr, hr]
  · have HFX := Lib.hid (show FirstM s.ws ⟨ki, kp, kx, kt⟩ k x from ⟨hx1, hx2, hx3⟩)
    have hkl : k < s.ws.length := (List.getElem?_eq_some_iff.1 hx1).1
    obtain ⟨wv, ⟨hdc, how⟩, hta, -⟩ := id HT.out
    have ct := hdc.u3.2.2.1
    obtain ⟨gw, cw, e, -, -⟩ := own_shp' how (by omega)
    subst e
    obtain ⟨n, hln⟩ : ∃ z, s.ws.length = z := ⟨_, rfl⟩
    rw [hln] at ct how hkl
    have HOW := Lib.hid how
    have HLN := Lib.hid hln
    have HGW := Lib.hid (hta.2 gw rfl)
    obtain ⟨f0, f1, f2, f3, f4, f5, f6, f7, f8⟩ := row_cellsW how hx1
    obtain ⟨⟨mi, mp, mx, mt⟩, ⟨mn, my, mc⟩, mj, mu⟩ := x
    have dk : decide ((k : Int) < 0) = false := dF (by omega)
    have i1 : (0 : Int) ≤ (k : Int) := by omega
    have i2 : (k : Int) < (n : Int) := by omega
    have d0 : decide (k < n) = true := dT hkl
    have HKL := Lib.hid hkl
    have hb := (Below.refl w1.heap.size w1).alloc (Nat.le_refl _) (.cells #[.int .i64 mi, .int .i64 mp, .string mx, .bool mt, .string mn, .int .i64 my, .int .i64 mc, .int .i64 mj, .int .i64 mu] 79)
    have HV := Lib.hid (HeldT.new w1 #[.int .i64 mi, .int .i64 mp, .string mx, .bool mt, .string mn, .int .i64 my, .int .i64 mc, .int .i64 mj, .int .i64 mu] 79)
    have HB2 := Lib.hid (HB1.out.trans (hb.mono HB1.out.size))
    replace HT := Lib.hid (HT.out.below hb)
    replace HM := Lib.hid (HM.out.below hb)
    replace HX := Lib.hid (HX.out.below hb)
    replace HR := Lib.hid (HR.out.below hb)
    replace HF := Lib.hid (HF.out.below hb HF.out.size)
    replace HOW := Lib.hid (own_below' HOW.out hb)
    have HCT := Lib.hid (cell_later hb ct)
    obtain ⟨w2, hw2⟩ : ∃ z, w1.alloc (.cells #[.int .i64 mi, .int .i64 mp, .string mx, .bool mt, .string mn, .int .i64 my, .int .i64 mc, .int .i64 mj, .int .i64 mu] 79) = z := ⟨_, rfl⟩
    obtain ⟨gV, hgV⟩ : ∃ z, w1.heap.size = z := ⟨_, rfl⟩
    rw [hw2] at HV HB2 HT HM HX HR HF HOW HCT
    rw [hgV] at HV
    have HW2 := Lib.hid hw2
    have HGV := Lib.hid hgV
    have HVG := Lib.hid (show w.heap.size ≤ gV from by rw [← hgV]; exact HB1.out.size)
    clear hx1 hx2 hx3 hdc how hta hln hb hw2 hgV hkl HB1
    go_upto_region 5 with (fail)
    rw [HW2.out, HGV.out]
    clear HW2 HGV f0 f1 f2 f3 f4 f5 f6 f7 f8 ct dk
    have x0 := (HX.out.1 0 _ rfl).1
    have x1 := (HX.out.1 1 _ rfl).1
    have x3 := (HX.out.1 3 _ rfl).1
    have x8 := (HX.out.1 8 _ rfl).1
    have v4 := (HV.out.1 4 _ rfl).1
    have v5 := (HV.out.1 5 _ rfl).1
    have v6 := (HV.out.1 6 _ rfl).1
    have e0 := (HM.out.1 0 _ rfl).1
    by_cases hbad : b0 = true ∧ xi = ki ∧ xo = 0
    · obtain ⟨rfl, rfl, rfl⟩ := hbad
      have t1 : (xi != xi) = false := by simp
      have hb := (Below.refl w2.heap.size w2).alloc (Nat.le_refl _) (.cells #[.string mn, .int .i64 my, .int .i64 mc] 66)
      have HRQ := Lib.hid (show RowQs (w2.alloc (.cells #[.string mn, .int .i64 my, .int .i64 mc] 66)) (some ⟨w2.heap.size, 0, none⟩) 1 [⟨mn, my, mc⟩] from ⟨rfl, Or.inr ⟨_, _, rfl, by rw [World.size_alloc]; omega, fun j r hj => by
        have hj0 : j = 0 := by have := (List.getElem?_eq_some_iff.1 hj).1; simp at this; omega
        subst hj0
        obtain rfl := (Option.some.inj hj).symm
        exact ⟨by rw [World.cell?_alloc_new]; rfl, by rw [World.cell?_alloc_new]; rfl, by rw [World.cell?_alloc_new]; rfl⟩⟩⟩)
      have HEQ := Lib.hid (eqQ_any qa (some ⟨w2.heap.size, 0, none⟩) qn qc 1 1 Q [⟨mn, my, mc⟩] _ (HQQ.out.below (HB2.out.trans (hb.mono HB2.out.size))) HRQ.out HQN.out)
      go_wp2_with fail
      refine HEQ.out.mono ?_; rintro e w3 ⟨hres, hb3⟩
      have hb13 := hb.trans (hb3.mono hb.size)
      replace HT := Lib.hid (HT.out.below hb13)
      replace HX := Lib.hid (HX.out.below hb13)
      replace HR := Lib.hid (HR.out.below hb13)
      replace HF := Lib.hid (HF.out.below hb13 HF.out.size)
      replace HV := Lib.hid (HV.out.below hb13)
      replace HOW := Lib.hid (own_below' HOW.out hb13)
      replace HCT := Lib.hid (cell_later hb13 HCT.out)
      clear hb hb3 hb13 x0 x1 x3 x8 v4 v5 v6 e0 HEQ HRQ t1
      rcases hres with ⟨rfl, hq⟩ | ⟨rfl, hq⟩
      · have ct := HCT.out
        obtain ⟨k1, hk1⟩ : ∃ z, k + 1 = z := ⟨_, rfl⟩
        have wk : IntKind.i64.wrap ((k : Int) + 1) = (k1 : Int) := by rw [IntKind.wrap_i64]; have := HKL.out; have := HLN.out; have := HNN.out; omega
        have HGD := Lib.hid hq
        have HK1 := Lib.hid hk1.symm
        clear hq hk1
        go_wp2_with fail
        refine (delete_any gw n cw k k1 s.ws w3 HOW.out HLN.out HKL.out HK1.out (by have := HLN.out; have := HNN.out; omega)).mono ?_; rintro e w4 ⟨rfl, how4, hf4⟩
        have hgb := HQB.out.2 gw HGW.out.1
        have HC4 := Lib.hid (HT.out.cut (i := k) HCT.out hf4 how4 (by rw [List.length_eraseIdx_of_lt (by rw [HLN.out]; exact HKL.out), HLN.out]))
        have HR4 := Lib.hid ((HR.out.frm' hf4 (by simp; have := HNE.out; omega)).other (p := q) (i := 2) (fun e => by have := HQB.out.2 q HQB.out.1; have := HNE.out; omega) (.slice (some ⟨gw, 0, none⟩) (n - 1) cw))
        have HV4 := Lib.hid ((HV.out.frm' hf4 (by simp; have := HVG.out; omega)).other (p := q) (i := 2) (fun e => by have := HQB.out.2 q HQB.out.1; have := HVG.out; omega) (.slice (some ⟨gw, 0, none⟩) (n - 1) cw))
        have HF4 := Lib.hid ((HF.out.trans hf4 (fun b hb => Or.inl (by simp at hb; subst hb; exact HGW.out.1))).set q 2 (Or.inl HQB.out.1) (.slice (some ⟨gw, 0, none⟩) (n - 1) cw))
        have kq := (World.cell?_of_block (a := ⟨q, 2, none⟩) (hf4.block q (HT.out.lt q HQB.out.1) (by simp; exact fun e => HGW.out.2 e.symm))).trans HCT.out
        have kf := (World.frozen?_of_block (a := ⟨q, 2, none⟩) (hf4.block q (HT.out.lt q HQB.out.1) (by simp; exact fun e => HGW.out.2 e.symm))).trans HT.out.parts.choose_spec.choose_spec.2.2.2.2
        obtain ⟨n9, hn9⟩ : ∃ z, n - 1 = z := ⟨_, rfl⟩
        rw [hn9] at HC4 HR4 HV4 HF4 ⊢
        obtain ⟨w5, hw5⟩ : ∃ z, w4.setCell ⟨q, 2, none⟩ (.slice (some ⟨gw, 0, none⟩) n9 cw) = z := ⟨_, rfl⟩
        rw [hw5] at HC4 HR4 HV4 HF4
        have HW5 := Lib.hid hw5
        clear hw5 how4 hf4 hgb hn9 ct HT HR HV HF HX HM HOW HCT
        have HT := HC4
        have HR := HR4
        have HF := HF4
        go_upto_region 8 with (fail)
        rw [HW5.out]
        clear HW5 kq kf wk HC4 HR4 HF4
        have HRN := Lib.hid (show w5.rangeAt gV 0 [.int .i64 mi, .int .i64 mp, .string mx, .bool mt, .string mn, .int .i64 my, .int .i64 mc, .int .i64 mj, .int .i64 mu] from fun j v hj => by rw [Nat.zero_add]; exact (HV4.out.1 j v hj).1)
        have HTH := Lib.hid (show w5.there gR 0 ([.int .i64 mi, .int .i64 mp, .string mx, .bool mt, .string mn, .int .i64 my, .int .i64 mc, .int .i64 mj, .int .i64 mu] : List Value).toArray.size from fun j hj => by
          rw [Nat.zero_add]
          have hj9 : j < ([.int .i64 0, .int .i64 0, .string ⟨#[]⟩, .bool false, .string ⟨#[]⟩, .int .i64 0, .int .i64 0, .int .i64 0, .int .i64 0] : List Value).length := hj
          obtain ⟨u, hu⟩ : ∃ u, ([.int .i64 0, .int .i64 0, .string ⟨#[]⟩, .bool false, .string ⟨#[]⟩, .int .i64 0, .int .i64 0, .int .i64 0, .int .i64 0] : List Value)[j]? = some u := ⟨_, List.getElem?_eq_getElem hj9⟩
          obtain ⟨h1, h2⟩ := HR.out.1 j u hu
          exact ⟨by rw [h1]; rfl, h2⟩)
        have HRS := Lib.hid (World.rangeAt_setCells_same w5 gR 0 ([.int .i64 mi, .int .i64 mp, .string mx, .bool mt, .string mn, .int .i64 my, .int .i64 mc, .int .i64 mj, .int .i64 mu] : List Value) HTH.out)
        have HF9 := Lib.hid (HF.out.sets gR 0 (Or.inr (by have := HNE.out; omega)) [.int .i64 mi, .int .i64 mp, .string mx, .bool mt, .string mn, .int .i64 my, .int .i64 mc, .int .i64 mj, .int .i64 mu])
        have HT9 := Lib.hid (HT.out.frm ((Frm.refl w5 [gR]).sets gR 0 (Or.inl (by simp)) [.int .i64 mi, .int .i64 mp, .string mx, .bool mt, .string mn, .int .i64 my, .int .i64 mc, .int .i64 mj, .int .i64 mu]) (fun b hb e => HGC.out (by simp at e; exact e ▸ hb)))
        obtain ⟨w9, hw9⟩ : ∃ z, w5.setCells gR 0 [.int .i64 mi, .int .i64 mp, .string mx, .bool mt, .string mn, .int .i64 my, .int .i64 mc, .int .i64 mj, .int .i64 mu] = z := ⟨_, rfl⟩
        rw [hw9] at HRS HF9 HT9
        have HW9 := Lib.hid (show w5.setCells gR 0 ([.int .i64 mi, .int .i64 mp, .string mx, .bool mt, .string mn, .int .i64 my, .int .i64 mc, .int .i64 mj, .int .i64 mu] : List Value).toArray.toList = w9 from hw9)
        have HON := Lib.hid (show ∀ u ∈ ([.int .i64 mi, .int .i64 mp, .string mx, .bool mt, .string mn, .int .i64 my, .int .i64 mc, .int .i64 mj, .int .i64 mu] : List Value), u.oneCell' = true from encW_one ⟨⟨mi, mp, mx, mt⟩, ⟨mn, my, mc⟩, mj, mu⟩)
        clear hw9
        go_wp2_with (first | (refine wpList_load_mid rfl 79 (.tmp 9) rfl _ _ rfl _ _ HRN.out Try.underlying79 rfl (by kernel_rfl) ?_) | (refine wpList_store_mid rfl 79 (.tmp 6) (.tmp 62) rfl _ _ _ rfl rfl HTH.out (by kernel_rfl) (all_oneCell_toArray HON.out) ?_; rw [HW9.out]))
        refine bodyPost_ret (v := .tuple #[.agg ([.int .i64 mi, .int .i64 mp, .string mx, .bool mt, .string mn, .int .i64 my, .int .i64 mc, .int .i64 mj, .int .i64 mu] : List Value).toArray, .bool true]) ?_ rfl ⟨Or.inl ⟨k, _, HFX.out, ⟨rfl, rfl, rfl, HGD.out⟩, rfl, HT9.out⟩, HF9.out⟩
        rw [results_cell_tmp Try.results47]
        have hr := run_loadVar_mid (P := Try.prog) _ gR 0 79 [.int .i64 mi, .int .i64 mp, .string mx, .bool mt, .string mn, .int .i64 my, .int .i64 mc, .int .i64 mj, .int .i64 mu] _ HRS.out Try.underlying79 rfl (by kernel_rfl)
        simp [asAddr, hr]
      · have HNO := Lib.hid (show ∀ i r, FirstM s.ws ⟨xi, kp, kx, kt⟩ i r → ¬ GoodM ⟨xi, kp, kx, kt⟩ xi 0 true Q r from fun i r h g => hq (by
          have h1 := (HFX.out.one h).2
          rw [g.2.2.2, ← h1]))
        clear hq
        have HTH := Lib.hid (show w3.there gR 0 ([.int .i64 0, .int .i64 0, .string ⟨#[]⟩, .bool false, .string ⟨#[]⟩, .int .i64 0, .int .i64 0, .int .i64 0, .int .i64 0] : List Value).toArray.size from fun j hj => by
          rw [Nat.zero_add]
          have hj9 : j < ([.int .i64 0, .int .i64 0, .string ⟨#[]⟩, .bool false, .string ⟨#[]⟩, .int .i64 0, .int .i64 0, .int .i64 0, .int .i64 0] : List Value).length := hj
          obtain ⟨u, hu⟩ : ∃ u, ([.int .i64 0, .int .i64 0, .string ⟨#[]⟩, .bool false, .string ⟨#[]⟩, .int .i64 0, .int .i64 0, .int .i64 0, .int .i64 0] : List Value)[j]? = some u := ⟨_, List.getElem?_eq_getElem hj9⟩
          obtain ⟨h1, h2⟩ := HR.out.1 j u hu
          exact ⟨by rw [h1]; rfl, h2⟩)
        have HRS := Lib.hid (World.rangeAt_setCells_same w3 gR 0 ([.int .i64 0, .int .i64 0, .string ⟨#[]⟩, .bool false, .string ⟨#[]⟩, .int .i64 0, .int .i64 0, .int .i64 0, .int .i64 0] : List Value) HTH.out)
        have HF9 := Lib.hid (HF.out.sets gR 0 (Or.inr (by have := HNE.out; omega)) [.int .i64 0, .int .i64 0, .string ⟨#[]⟩, .bool false, .string ⟨#[]⟩, .int .i64 0, .int .i64 0, .int .i64 0, .int .i64 0])
        have HT9 := Lib.hid (HT.out.frm ((Frm.refl w3 [gR]).sets gR 0 (Or.inl (by simp)) [.int .i64 0, .int .i64 0, .string ⟨#[]⟩, .bool false, .string ⟨#[]⟩, .int .i64 0, .int .i64 0, .int .i64 0, .int .i64 0]) (fun b hb e => HGC.out (by simp at e; exact e ▸ hb)))
        obtain ⟨w9, hw9⟩ : ∃ z, w3.setCells gR 0 [.int .i64 0, .int .i64 0, .string ⟨#[]⟩, .bool false, .string ⟨#[]⟩, .int .i64 0, .int .i64 0, .int .i64 0, .int .i64 0] = z := ⟨_, rfl⟩
        rw [hw9] at HRS HF9 HT9
        have HW9 := Lib.hid (show w3.setCells gR 0 ([.int .i64 0, .int .i64 0, .string ⟨#[]⟩, .bool false, .string ⟨#[]⟩, .int .i64 0, .int .i64 0, .int .i64 0, .int .i64 0] : List Value).toArray.toList = w9 from hw9)
        have HON := Lib.hid (show ∀ u ∈ ([.int .i64 0, .int .i64 0, .string ⟨#[]⟩, .bool false, .string ⟨#[]⟩, .int .i64 0, .int .i64 0, .int .i64 0, .int .i64 0] : List Value), u.oneCell' = true from encW_one ⟨⟨0, 0, ⟨#[]⟩, false⟩, ⟨⟨#[]⟩, 0, 0⟩, 0, 0⟩)
        clear hw9
        go_wp2_with (first | (refine wpList_store_mid rfl 79 (.tmp 6) (.tmp 50) rfl _ _ _ rfl rfl HTH.out (by kernel_rfl) (all_oneCell_toArray HON.out) ?_; rw [HW9.out]))
        refine bodyPost_ret (v := .tuple #[.agg ([.int .i64 0, .int .i64 0, .string ⟨#[]⟩, .bool false, .string ⟨#[]⟩, .int .i64 0, .int .i64 0, .int .i64 0, .int .i64 0] : List Value).toArray, .bool false]) ?_ rfl ⟨Or.inr ⟨HNO.out, rfl, HT9.out⟩, HF9.out⟩
        rw [results_cell_tmp Try.results47]
        have hr := run_loadVar_mid (P := Try.prog) _ gR 0 79 [.int .i64 0, .int .i64 0, .string ⟨#[]⟩, .bool false, .string ⟨#[]⟩, .int .i64 0, .int .i64 0, .int .i64 0, .int .i64 0] _ HRS.out Try.underlying79 rfl (by kernel_rfl)
        simp [asAddr, hr]
    · have HNO := Lib.hid (show ∀ i r, FirstM s.ws ⟨ki, kp, kx, kt⟩ i r → ¬ GoodM ⟨ki, kp, kx, kt⟩ xi xo b0 Q r from fun i r _ g => hbad ⟨g.1, g.2.1, g.2.2.1⟩)
      have hd : b0 = false ∨ (b0 = true ∧ (xi != ki) = true) ∨ (b0 = true ∧ (xi != ki) = false ∧ (xo != 0) = true) := by
        cases b0
        · exact Or.inl rfl
        · right
          by_cases h1 : xi = ki
          · exact Or.inr ⟨rfl, nF h1, nT (fun h2 => hbad ⟨rfl, h1, h2⟩)⟩
          · exact Or.inl ⟨rfl, nT h1⟩
      clear hbad
      rcases hd with rfl | ⟨rfl, t1⟩ | ⟨rfl, t1, t2⟩
      all_goals
        go_upto_region 6 with (fail)
        clear x0 x1 x3 x8 v4 v5 v6 e0
        have HTH := Lib.hid (show w2.there gR 0 ([.int .i64 0, .int .i64 0, .string ⟨#[]⟩, .bool false, .string ⟨#[]⟩, .int .i64 0, .int .i64 0, .int .i64 0, .int .i64 0] : List Value).toArray.size from fun j hj => by
          rw [Nat.zero_add]
          have hj9 : j < ([.int .i64 0, .int .i64 0, .string ⟨#[]⟩, .bool false, .string ⟨#[]⟩, .int .i64 0, .int .i64 0, .int .i64 0, .int .i64 0] : List Value).length := hj
          obtain ⟨u, hu⟩ : ∃ u, ([.int .i64 0, .int .i64 0, .string ⟨#[]⟩, .bool false, .string ⟨#[]⟩, .int .i64 0, .int .i64 0, .int .i64 0, .int .i64 0] : List Value)[j]? = some u := ⟨_, List.getElem?_eq_getElem hj9⟩
          obtain ⟨h1, h2⟩ := HR.out.1 j u hu
          exact ⟨by rw [h1]; rfl, h2⟩)
        have HRS := Lib.hid (World.rangeAt_setCells_same w2 gR 0 ([.int .i64 0, .int .i64 0, .string ⟨#[]⟩, .bool false, .string ⟨#[]⟩, .int .i64 0, .int .i64 0, .int .i64 0, .int .i64 0] : List Value) HTH.out)
        have HF9 := Lib.hid (HF.out.sets gR 0 (Or.inr (by have := HNE.out; omega)) [.int .i64 0, .int .i64 0, .string ⟨#[]⟩, .bool false, .string ⟨#[]⟩, .int .i64 0, .int .i64 0, .int .i64 0, .int .i64 0])
        have HT9 := Lib.hid (HT.out.frm ((Frm.refl w2 [gR]).sets gR 0 (Or.inl (by simp)) [.int .i64 0, .int .i64 0, .string ⟨#[]⟩, .bool false, .string ⟨#[]⟩, .int .i64 0, .int .i64 0, .int .i64 0, .int .i64 0]) (fun b hb e => HGC.out (by simp at e; exact e ▸ hb)))
        obtain ⟨w9, hw9⟩ : ∃ z, w2.setCells gR 0 [.int .i64 0, .int .i64 0, .string ⟨#[]⟩, .bool false, .string ⟨#[]⟩, .int .i64 0, .int .i64 0, .int .i64 0, .int .i64 0] = z := ⟨_, rfl⟩
        rw [hw9] at HRS HF9 HT9
        have HW9 := Lib.hid (show w2.setCells gR 0 ([.int .i64 0, .int .i64 0, .string ⟨#[]⟩, .bool false, .string ⟨#[]⟩, .int .i64 0, .int .i64 0, .int .i64 0, .int .i64 0] : List Value).toArray.toList = w9 from hw9)
        have HON := Lib.hid (show ∀ u ∈ ([.int .i64 0, .int .i64 0, .string ⟨#[]⟩, .bool false, .string ⟨#[]⟩, .int .i64 0, .int .i64 0, .int .i64 0, .int .i64 0] : List Value), u.oneCell' = true from encW_one ⟨⟨0, 0, ⟨#[]⟩, false⟩, ⟨⟨#[]⟩, 0, 0⟩, 0, 0⟩)
        clear hw9
        go_wp2_with (first | (refine wpList_store_mid rfl 79 (.tmp 6) (.tmp 50) rfl _ _ _ rfl rfl HTH.out (by kernel_rfl) (all_oneCell_toArray HON.out) ?_; rw [HW9.out]))
        refine bodyPost_ret (v := .tuple #[.agg ([.int .i64 0, .int .i64 0, .string ⟨#[]⟩, .bool false, .string ⟨#[]⟩, .int .i64 0, .int .i64 0, .int .i64 0, .int .i64 0] : List Value).toArray, .bool false]) ?_ rfl ⟨Or.inr ⟨HNO.out, rfl, HT9.out⟩, HF9.out⟩
        rw [results_cell_tmp Try.results47]
        have hr := run_loadVar_mid (P := Try.prog) _ gR 0 79 [.int .i64 0, .int .i64 0, .string ⟨#[]⟩, .bool false, .string ⟨#[]⟩, .int .i64 0, .int .i64 0, .int .i64 0, .int .i64 0] _ HRS.out Try.underlying79 rfl (by kernel_rfl)
        simp [asAddr, hr]
end Go.Proofs.Ytocfphijheidbaa
