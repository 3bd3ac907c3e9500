/- Open where there is room: its contract (written by mktbg.py). -/
import Derived.Test.YtocfphijheidbaaTbF
import Derived.Test.YtocfphijheidbaaLst
import Derived.Laws.ResultCell
namespace Go.Proofs.Ytocfphijheidbaa
open Go.RowKit

def HeldT (q : Nat) (cs : List Value) (w : World) : Prop := DC w q cs ∧ q < w.heap.size
theorem HeldT.below {q : Nat} {cs : List Value} {w w' : World} (h : HeldT q cs w) (hb : Below w.heap.size w w') : HeldT q cs w' := ⟨h.1.kept (hb.block q h.2), Nat.lt_of_lt_of_le h.2 hb.size⟩
theorem HeldT.other {q p i : Nat} {cs : List Value} {w : World} (h : HeldT q cs w) (hp : q ≠ p) (v : Value) : HeldT q cs (w.setCell ⟨p, i, none⟩ v) := ⟨h.1.kept (Below.heap_setCell _ _ _ _ hp), by simpa using h.2⟩
theorem HeldT.set {q i : Nat} {cs : List Value} {w : World} (h : HeldT q cs w) (hi : i < cs.length) (v : Value) : HeldT q (cs.set i v) (w.setCell ⟨q, i, none⟩ v) := ⟨h.1.set i hi v, by simpa using h.2⟩
theorem HeldT.grown {q : Nat} {cs : List Value} {w w' : World} {row : Option Nat} (h : HeldT q cs w) (hg : w.grownBy w' row) (hr : ∀ g, row = some g → g ≠ q) : HeldT q cs w' := ⟨h.1.kept (hg.block q h.2 (fun e => hr q e.symm rfl)), Nat.lt_of_lt_of_le h.2 hg.size⟩
theorem HeldT.new (w : World) (cs : Array Value) (T : TypeId) : HeldT w.heap.size cs.toList (w.alloc (.cells cs T)) :=
  ⟨fun j c hj => by rw [World.cell?_alloc_new, World.frozen?_alloc_new, ← hj]; exact ⟨by simp, rfl⟩, by rw [World.size_alloc]; omega⟩
theorem TbS.setX {w : World} {bs : List Nat} {q : Nat} {s : TbP} (h : TbS w bs q s) (y : Int) : TbS (w.setCell ⟨q, 1, none⟩ (.int .u32 y)) bs q { s with x := y } := by
  obtain ⟨wv, ⟨h1, h2⟩, ⟨a1, a2⟩, a3⟩ := h
  exact ⟨wv, ⟨h1.set 1 (by simp) _, own_kept h2 (fun g hg => Below.heap_setCell _ _ _ _ (a2 g hg).2)⟩, ⟨a1, a2⟩, fun b hb => by simpa using a3 b hb⟩
theorem TbS.other {w : World} {bs : List Nat} {q p i : Nat} {s : TbP} (h : TbS w bs q s) (hp : p ∉ bs) (v : Value) : TbS (w.setCell ⟨p, i, none⟩ v) bs q s :=
  h.frm ((Frm.refl w [p]).set p i (Or.inl (by simp)) v) (fun b hb e => hp (by simp at e; exact e ▸ hb))
theorem TbS.parts {w : World} {bs : List Nat} {q : Nat} {s : TbP} (h : TbS w bs q s) : ∃ a c, w.cell? ⟨q, 0, none⟩ = some (.int .i64 s.most) ∧ w.cell? ⟨q, 1, none⟩ = some (.int .u32 s.x) ∧ w.cell? ⟨q, 2, none⟩ = some (.slice a s.ws.length c) ∧ w.frozen? ⟨q, 1, none⟩ = false ∧ w.frozen? ⟨q, 2, none⟩ = false := by
  obtain ⟨wv, ⟨h1, h2⟩, -, -⟩ := h
  obtain ⟨c0, c1, c2, f1, f2⟩ := h1.u3
  obtain ⟨a, c, rfl, -, -⟩ := cellsK_own h2
  exact ⟨a, c, c0, c1, c2, f1, f2⟩
def idOf (w : World) (g : Nat) : Int := match w.cell? ⟨g, 0, none⟩ with | some (.int _ n) => n | _ => 0
theorem idOf_held {w : World} {g : Nat} {id p : Int} {x : ByteArray} {t : Bool} (h : HeldT g [.int .i64 id, .int .i64 p, .string x, .bool t] w) : idOf w g = id := by
  rw [idOf, (h.1 0 _ rfl).1]
set_option maxRecDepth 100000 in
set_option maxHeartbeats 8000000 in
theorem open_yes (bs : List Nat) (q : Nat) (s : TbP) (now job : Int) (tx : ByteArray) (tcp : Bool) (nm : ByteArray) (ty cl : Int) (w : World) (h : TbS w bs q s) (hn : s.ws.length ≤ 5000) (hm : (s.ws.length : Int) < s.most) (hnow : 0 ≤ now ∧ now ≤ 1099511627776) :
    Calls Try.prog 43 #[.pointer (some ⟨q, 0, none⟩), .int .i64 now, .int .i64 job, .string tx, .bool tcp, .agg #[.string nm, .int .i64 ty, .int .i64 cl]] w fun e w' => e = .returned (.tuple #[.agg (encW (openW s now job tx tcp ⟨nm, ty, cl⟩)).toArray, .int .i64 0]) ∧ (∃ cs, TbS w' cs q (openP s now job tx tcp ⟨nm, ty, cl⟩) ∧ ∀ g ∈ cs, g ∈ bs ∨ w.heap.size ≤ g) ∧ Frm w w' bs := by
  have HNN := Lib.hid hn
  have hqb := h.choose_spec.2.1.1
  have hq := h.lt q hqb
  have HQB := Lib.hid (show q ∈ bs ∧ q < w.heap.size ∧ ∀ b ∈ bs, b < w.heap.size from ⟨hqb, hq, h.lt⟩)
  have b1 := (Below.refl w.heap.size w).alloc (Nat.le_refl _) (.cells #[.string nm, .int .i64 ty, .int .i64 cl] 66)
  have q1 := HeldT.new w #[.string nm, .int .i64 ty, .int .i64 cl] 66
  have b2 := (Below.refl (w.alloc (.cells #[.string nm, .int .i64 ty, .int .i64 cl] 66)).heap.size (w.alloc (.cells #[.string nm, .int .i64 ty, .int .i64 cl] 66))).alloc (Nat.le_refl _) (.cells #[.int .i64 0, .int .i64 0, .string ⟨#[]⟩, .bool false, .string ⟨#[]⟩, .int .i64 0, .int .i64 0, .int .i64 0, .int .i64 0] 79)
  have q2 := q1.below b2
  have r2 := HeldT.new (w.alloc (.cells #[.string nm, .int .i64 ty, .int .i64 cl] 66)) #[.int .i64 0, .int .i64 0, .string ⟨#[]⟩, .bool false, .string ⟨#[]⟩, .int .i64 0, .int .i64 0, .int .i64 0, .int .i64 0] 79
  rw [World.size_alloc] at r2
  have HB := Lib.hid (b1.trans (b2.mono b1.size))
  obtain ⟨w0, hw0⟩ : ∃ z, (w.alloc (.cells #[.string nm, .int .i64 ty, .int .i64 cl] 66)).alloc (.cells #[.int .i64 0, .int .i64 0, .string ⟨#[]⟩, .bool false, .string ⟨#[]⟩, .int .i64 0, .int .i64 0, .int .i64 0, .int .i64 0] 79) = z := ⟨_, rfl⟩
  obtain ⟨gR, hgR⟩ : ∃ z, w.heap.size + 1 = z := ⟨_, rfl⟩
  obtain ⟨gQ, hgQ⟩ : ∃ z, w.heap.size = z := ⟨_, rfl⟩
  rw [hw0] at q2 r2 HB
  rw [hgR] at r2
  rw [hgQ] at q2
  have HQ := Lib.hid q2
  have HR := Lib.hid r2
  have HW0 := Lib.hid hw0
  have HGR := Lib.hid hgR
  have HGQ := Lib.hid hgQ
  have HT := Lib.hid (h.frm (Frm.below (Frm.refl w []) HB.out (Nat.le_refl _)) (fun _ _ h => by simp at h))
  have HF := Lib.hid ((Frm.refl w bs).below HB.out (Nat.le_refl _))
  have HNE := Lib.hid (show w.heap.size = gQ ∧ gR = gQ + 1 ∧ q ≠ gQ ∧ q ≠ gR by omega)
  clear b1 b2 q1 q2 r2 hw0 hgR hgQ hqb hq
  obtain ⟨a, c, c0, c1, c2, f1, f2⟩ := HT.out.parts
  obtain ⟨L, hL⟩ : ∃ z, s.ws.length = z := ⟨_, rfl⟩
  rw [hL] at c2 hm
  have HL := Lib.hid hL
  obtain ⟨mo, hmo⟩ : ∃ z, s.most = z := ⟨_, rfl⟩
  rw [hmo] at c0 hm
  have d1 : decide (mo ≤ (L : Int)) = false := dF (by omega)
  have HMO := Lib.hid hmo
  have HNW := Lib.hid hnow
  clear hL hmo h hn
  go_enter Try.func43, Try.ntmps43
  go_upto_region 1 with (fail)
  rw [HW0.out, HGR.out, HGQ.out]
  clear HW0 HGR HGQ
  go_quiet (fail)
  rename_i nq
  have hb := below_drewN (Below.refl w0.heap.size w0) nq
  clear c0 c1 c2 f1 f2
  replace HT := Lib.hid (HT.out.below hb)
  replace HQ := Lib.hid (HQ.out.below hb)
  replace HR := Lib.hid (HR.out.below hb)
  replace HF := Lib.hid (HF.out.below hb HF.out.size)
  obtain ⟨w1, hw1⟩ : ∃ z, w0.drewN nq = z := ⟨_, rfl⟩
  rw [hw1] at HT HQ HR HF
  have HW1 := Lib.hid hw1
  clear hb hw1 hm
  have d2 : decide (now < 0) = false := dF (by have := HNW.out; omega)
  have d3 : decide (1099511627776 < now) = false := dF (by have := HNW.out; omega)
  go_upto_region 5 with (fail)
  rw [HW1.out]
  clear HW1 d1 d2 d3 hnow
  obtain ⟨-, -, -, c1, -, f1, -⟩ := HT.out.parts
  go_wp2_with fail
  refine (next_any q s.x w1 c1 f1).mono ?_; rintro e w2 ⟨rfl, hw2⟩
  replace HT := Lib.hid (HT.out.setX (nxD s.x))
  replace HQ := Lib.hid (HQ.out.other (p := q) (i := 1) (fun e => HNE.out.2.2.1 e.symm) (.int .u32 (nxD s.x)))
  replace HR := Lib.hid (HR.out.other (p := q) (i := 1) (fun e => HNE.out.2.2.2 e.symm) (.int .u32 (nxD s.x)))
  replace HF := Lib.hid (HF.out.set q 1 (Or.inl HQB.out.1) (.int .u32 (nxD s.x)))
  rw [← hw2] at HT HQ HR HF
  clear c1 f1 hw2
  have HS2 := Lib.hid (show w.heap.size + 2 ≤ w2.heap.size from by have h2 := HR.out.2; have := HNE.out; omega)
  obtain ⟨o1, ho1⟩ : ∃ z, outD s.x = z := ⟨_, rfl⟩
  have HO1 := Lib.hid ho1
  rw [ho1]
  clear ho1
  have hb := (Below.refl w2.heap.size w2).alloc (Nat.le_refl _) (.cells #[.int .i64 o1, .int .i64 0, .string tx, .bool tcp] 69)
  have HK := Lib.hid (HeldT.new w2 #[.int .i64 o1, .int .i64 0, .string tx, .bool tcp] 69)
  replace HT := Lib.hid (HT.out.below hb)
  replace HQ := Lib.hid (HQ.out.below hb)
  replace HR := Lib.hid (HR.out.below hb)
  replace HF := Lib.hid (HF.out.below hb HF.out.size)
  obtain ⟨w3, hw3⟩ : ∃ z, w2.alloc (.cells #[.int .i64 o1, .int .i64 0, .string tx, .bool tcp] 69) = z := ⟨_, rfl⟩
  obtain ⟨gk, hgk⟩ : ∃ z, w2.heap.size = z := ⟨_, rfl⟩
  rw [hw3] at HT HQ HR HF HK
  rw [hgk] at HK HS2
  have HW3 := Lib.hid hw3
  have HGK := Lib.hid hgk
  clear hb hw3 hgk
  go_upto_region 6 with (fail)
  rw [HW3.out, HGK.out]
  clear HW3 HGK
  have HKB := Lib.hid (show gk ∉ bs ∧ q ≠ gk ∧ gQ ≠ gk ∧ gR ≠ gk from ⟨fun e => by have := HQB.out.2.2 gk e; have := HS2.out; omega, by have := HQB.out.2.1; have := HS2.out; omega, by have := HNE.out; have := HS2.out; omega, by have := HNE.out; have := HS2.out; omega⟩)
  obtain ⟨-, -, -, c1, -, f1, -⟩ := HT.out.parts
  go_wp2_with fail
  refine (next_any q (nxD s.x) w3 c1 f1).mono ?_; rintro e w4 ⟨rfl, hw4⟩
  replace HT := Lib.hid (HT.out.setX (nxD (nxD s.x)))
  replace HQ := Lib.hid (HQ.out.other (p := q) (i := 1) (fun e => HNE.out.2.2.1 e.symm) (.int .u32 (nxD (nxD s.x))))
  replace HR := Lib.hid (HR.out.other (p := q) (i := 1) (fun e => HNE.out.2.2.2 e.symm) (.int .u32 (nxD (nxD s.x))))
  replace HK := Lib.hid (HK.out.other (p := q) (i := 1) (fun e => HKB.out.2.1 e.symm) (.int .u32 (nxD (nxD s.x))))
  replace HF := Lib.hid (HF.out.set q 1 (Or.inl HQB.out.1) (.int .u32 (nxD (nxD s.x))))
  rw [← hw4] at HT HQ HR HF HK
  clear c1 f1 hw4
  obtain ⟨po, hpo⟩ : ∃ z, portD s.x = z := ⟨_, rfl⟩
  obtain ⟨o2, ho2⟩ : ∃ z, outD (nxD s.x) = z := ⟨_, rfl⟩
  have ho2i := outD_in (nxD s.x)
  rw [ho2] at ho2i ⊢
  have hpo2 : 1024 + o2 % 64512 = po := by rw [← hpo, portD, ho2]
  have ht1 : o2.tmod 64512 = o2 % 64512 := by rw [Int.tmod_eq_emod_of_nonneg ho2i.1]
  obtain ⟨r2, hr2⟩ : ∃ z, o2 % 64512 = z := ⟨_, rfl⟩
  rw [hr2] at ht1 hpo2
  have wa : IntKind.i64.wrap (1024 + r2) = po := by rw [hpo2.symm, IntKind.wrap_i64]; omega
  have HPO := Lib.hid hpo
  clear hpo ho2 ho2i hpo2 hr2
  have k1 := (HK.out.1 1 _ rfl).1
  have kf := (HK.out.1 1 _ rfl).2
  replace HT := Lib.hid (HT.out.other (i := 1) HKB.out.1 (.int .i64 po))
  replace HQ := Lib.hid (HQ.out.other (p := gk) (i := 1) HKB.out.2.2.1 (.int .i64 po))
  replace HR := Lib.hid (HR.out.other (p := gk) (i := 1) HKB.out.2.2.2 (.int .i64 po))
  replace HF := Lib.hid (HF.out.set gk 1 (Or.inr (by have := HS2.out; omega)) (.int .i64 po))
  replace HK := Lib.hid (show HeldT gk [.int .i64 o1, .int .i64 po, .string tx, .bool tcp] (w4.setCell ⟨gk, 1, none⟩ (.int .i64 po)) from HK.out.set (i := 1) (by simp) (.int .i64 po))
  obtain ⟨w5, hw5⟩ : ∃ z, w4.setCell ⟨gk, 1, none⟩ (.int .i64 po) = z := ⟨_, rfl⟩
  rw [hw5] at HT HQ HR HF HK
  have HW5 := Lib.hid hw5
  clear hw5
  go_wp2_with fail
  rw [HW5.out]
  clear HW5 k1 kf wa ht1
  have HO1I := Lib.hid (show 0 ≤ o1 ∧ o1 < 65536 from by rw [← HO1.out]; exact outD_in s.x)
  go_loopw [] (fun wr => ∃ id : Int, Hid (0 ≤ id ∧ id < 65536 ∧ seekI s.ws po tx tcp (s.ws.length + 1) id = seekI s.ws po tx tcp (s.ws.length + 1) o1) ∧ Hid (TbS wr bs q ⟨s.most, nxD (nxD s.x), s.ws⟩) ∧ Hid (HeldT gk [.int .i64 id, .int .i64 po, .string tx, .bool tcp] wr) ∧ Hid (HeldT gQ [.string nm, .int .i64 ty, .int .i64 cl] wr) ∧ Hid (HeldT gR [.int .i64 0, .int .i64 0, .string ⟨#[]⟩, .bool false, .string ⟨#[]⟩, .int .i64 0, .int .i64 0, .int .i64 0, .int .i64 0] wr) ∧ Hid (Frm w wr bs)) (fun wr => stepsI s.ws po tx tcp (s.ws.length + 2) (idOf wr gk))
  case atStart => exact ⟨o1, Lib.hid ⟨HO1I.out.1, HO1I.out.2, rfl⟩, HT, HK, HQ, HR, HF⟩
  case round =>
    obtain ⟨id, HID, HT2, HK2, HQ2, HR2, HF2⟩ := hrel
    have m0 := (HK2.out.1 0 _ rfl).1
    have m1 := (HK2.out.1 1 _ rfl).1
    have m2 := (HK2.out.1 2 _ rfl).1
    have m3 := (HK2.out.1 3 _ rfl).1
    go_wp2_with fail
    refine (find_any bs q ⟨s.most, nxD (nxD s.x), s.ws⟩ id po tx tcp wr HT2.out (by have := HNN.out; show s.ws.length ≤ 100000; omega)).mono ?_; rintro e wf ⟨hfd, hb⟩
    have HT3 := Lib.hid (HT2.out.below hb)
    have HK3 := Lib.hid (HK2.out.below hb)
    have HQ3 := Lib.hid (HQ2.out.below hb)
    have HR3 := Lib.hid (HR2.out.below hb)
    have HF3 := Lib.hid (HF2.out.below hb HF2.out.size)
    clear hb m0 m1 m2 m3
    rcases hfd with ⟨rfl, hfree⟩ | ⟨kx, x, rfl, hx1, hx2, -⟩
    · have HTK := Lib.hid (taken_no hfree)
      clear hfree
      have dk : decide ((0 : Int) ≤ -1) = false := rfl
      obtain ⟨un, hun⟩ : ∃ z, now + 3 = z := ⟨_, rfl⟩
      have wa : IntKind.i64.wrap (now + 3) = un := by rw [IntKind.wrap_i64, hun]; have := HNW.out; omega
      have HUN := Lib.hid hun
      have HIDE := Lib.hid (show id = seekI s.ws po tx tcp (s.ws.length + 1) o1 from by rw [← HID.out.2.2]; exact (seek_stop _ HTK.out).symm)
      clear hun
      have n0 := (HK3.out.1 0 _ rfl).1
      have n1 := (HK3.out.1 1 _ rfl).1
      have n2 := (HK3.out.1 2 _ rfl).1
      have n3 := (HK3.out.1 3 _ rfl).1
      have p0 := (HQ3.out.1 0 _ rfl).1
      have p1 := (HQ3.out.1 1 _ rfl).1
      have p2 := (HQ3.out.1 2 _ rfl).1
      have hb := (Below.refl wf.heap.size wf).alloc (Nat.le_refl _) (.cells #[.int .i64 id, .int .i64 po, .string tx, .bool tcp, .string nm, .int .i64 ty, .int .i64 cl, .int .i64 job, .int .i64 un] 79)
      have HW6 := Lib.hid (HeldT.new wf #[.int .i64 id, .int .i64 po, .string tx, .bool tcp, .string nm, .int .i64 ty, .int .i64 cl, .int .i64 job, .int .i64 un] 79)
      have HT5 := Lib.hid (HT3.out.below hb)
      have HR5 := Lib.hid (HR3.out.below hb)
      have HF5 := Lib.hid (HF3.out.below hb HF3.out.size)
      have HGW := Lib.hid (show w.heap.size + 2 ≤ wf.heap.size from by have h1 := HF3.out.size; have h2 := HR3.out.2; have := HNE.out; omega)
      obtain ⟨w6, hw6⟩ : ∃ z, wf.alloc (.cells #[.int .i64 id, .int .i64 po, .string tx, .bool tcp, .string nm, .int .i64 ty, .int .i64 cl, .int .i64 job, .int .i64 un] 79) = z := ⟨_, rfl⟩
      obtain ⟨gW, hgW⟩ : ∃ z, wf.heap.size = z := ⟨_, rfl⟩
      rw [hw6] at HW6 HT5 HR5 HF5
      rw [hgW] at HW6 HGW
      have HW6E := Lib.hid hw6
      have HGWE := Lib.hid hgW
      clear hb hw6 hgW HT2 HK2 HQ2 HR2 HF2 HT HK HQ HR HF
      go_upto_region 10 with (fail)
      rw [HW6E.out, HGWE.out]
      clear HW6E HGWE n0 n1 n2 n3 p0 p1 p2 wa dk HK3 HQ3 HT3 HR3 HF3
      obtain ⟨i0, hi, hz0, hz1, hz2⟩ := info_parts infoWt
      have HI := Lib.hid hi
      have HZ0 := Lib.hid hz0
      have HZ1 := Lib.hid hz1
      have HZ2 := Lib.hid hz2
      have HLN := Lib.hid (show L + 1 ≤ 20000 from by have := HNN.out; have := HL.out; omega)
      clear hi hz0 hz1 hz2
      obtain ⟨a, c, -, -, c2, -, -⟩ := HT5.out.parts
      rw [show (⟨s.most, nxD (nxD s.x), s.ws⟩ : TbP).ws.length = L from HL.out] at c2
      refine wp_region_last_drew (S := (fun wx => wx.cell? ⟨q, 2, none⟩ = some (.slice a L c) ∧ HeldT gW [.int .i64 id, .int .i64 po, .string tx, .bool tcp, .string nm, .int .i64 ty, .int .i64 cl, .int .i64 job, .int .i64 un] wx)) (L := 10) (by kernel_rfl) (⟨c2, HW6.out⟩) (fun hHeld => ?_)
      have hb := (Below.refl w6.heap.size w6).drew
      replace HT5 := Lib.hid (HT5.out.below hb)
      replace HR5 := Lib.hid (HR5.out.below hb)
      replace HF5 := Lib.hid (HF5.out.below hb HF5.out.size)
      obtain ⟨wd, hwd⟩ : ∃ z, w6.drew = z := ⟨_, rfl⟩
      rw [hwd] at HT5 HR5 HF5 hHeld ⊢
      clear hwd hb c2
      refine wpAnyL_take (i := 0) (oi := { dst := some 63, op := Go.Op.move (Go.Operand.tmp 0), type := 59, pos := "table.go:63", after := #[], guard := none }) (v := ?v0_270101) rfl (by kernel_rfl) (by kernel_rfl) (by kernel_rfl) (by kernel_rfl) (by kernel_rfl) (fun _ _ _ h => h) (Or.inl ⟨by rfl, ?y0_270101⟩) hHeld ?r0_270101
      case y0_270101 => intro w hSw; (try dsimp only at hSw); go_simp; try with_reducible rfl
      try simp only [Act.put, List.setIfInBounds_toArray, List.set_cons_zero, List.set_cons_succ]
      refine wpAnyL_take (i := 1) (oi := { dst := some 64, op := Go.Op.move (Go.Operand.tmp 0), type := 59, pos := "table.go:63", after := #[], guard := none }) (v := ?v1_270101) rfl (by kernel_rfl) (by kernel_rfl) (by kernel_rfl) (by kernel_rfl) (by kernel_rfl) (fun _ _ _ h => h) (Or.inl ⟨by rfl, ?y1_270101⟩) hHeld ?r1_270101
      case y1_270101 => intro w hSw; (try dsimp only at hSw); go_simp; try with_reducible rfl
      try simp only [Act.put, List.setIfInBounds_toArray, List.set_cons_zero, List.set_cons_succ]
      refine wpAnyL_take (i := 2) (oi := { dst := some 65, op := Go.Op.nilCheck (Go.Operand.tmp 64), type := 0, pos := "table.go:63", after := #[{ on := 1, ground := Go.Ground.data }], guard := none }) (v := ?v2_270101) rfl (by kernel_rfl) (by kernel_rfl) (by kernel_rfl) (by kernel_rfl) (by kernel_rfl) (fun _ _ _ h => h) (Or.inl ⟨by rfl, ?y2_270101⟩) hHeld ?r2_270101
      case y2_270101 => intro w hSw; (try dsimp only at hSw); go_simp; try with_reducible rfl
      try simp only [Act.put, List.setIfInBounds_toArray, List.set_cons_zero, List.set_cons_succ]
      refine wpAnyL_take (i := 3) (oi := { dst := some 66, op := Go.Op.fieldAddr 144 (Go.Operand.tmp 65) 2, type := 0, pos := "table.go:63", after := #[{ on := 2, ground := Go.Ground.data }], guard := none }) (v := ?v3_270101) rfl (by kernel_rfl) (by kernel_rfl) (by kernel_rfl) (by kernel_rfl) (by kernel_rfl) (fun _ _ _ h => h) (Or.inl ⟨by rfl, ?y3_270101⟩) hHeld ?r3_270101
      case y3_270101 => intro w hSw; (try dsimp only at hSw); go_simp; try with_reducible rfl
      try simp only [Act.put, List.setIfInBounds_toArray, List.set_cons_zero, List.set_cons_succ]
      refine wpAnyL_take (i := 4) (oi := { dst := some 67, op := Go.Op.load 102 (Go.Operand.tmp 66), type := 102, pos := "table.go:63", after := #[{ on := 3, ground := Go.Ground.data }], guard := none }) (v := ?v4_270101) rfl (by kernel_rfl) (by kernel_rfl) (by kernel_rfl) (by kernel_rfl) (by kernel_rfl) (fun _ _ _ h => h) (Or.inl ⟨by rfl, ?y4_270101⟩) hHeld ?r4_270101
      case y4_270101 => intro w hSw; (try dsimp only at hSw); obtain ⟨s2, sw⟩ := hSw; have t0 := (sw.1 0 _ rfl).1; have t1 := (sw.1 1 _ rfl).1; have t2 := (sw.1 2 _ rfl).1; have t3 := (sw.1 3 _ rfl).1; have t4 := (sw.1 4 _ rfl).1; have t5 := (sw.1 5 _ rfl).1; have t6 := (sw.1 6 _ rfl).1; have t7 := (sw.1 7 _ rfl).1; have t8 := (sw.1 8 _ rfl).1; clear sw; go_simp; try with_reducible rfl
      try simp only [Act.put, List.setIfInBounds_toArray, List.set_cons_zero, List.set_cons_succ]
      refine wpAnyL_take (i := 5) (oi := { dst := some 68, op := Go.Op.load 79 (Go.Operand.tmp 15), type := 79, pos := "table.go:63", after := #[], guard := none }) (v := ?v5_270101) rfl (by kernel_rfl) (by kernel_rfl) (by kernel_rfl) (by kernel_rfl) (by kernel_rfl) (fun _ _ _ h => h) (Or.inl ⟨by rfl, ?y5_270101⟩) hHeld ?r5_270101
      case y5_270101 => intro w hSw; (try dsimp only at hSw); obtain ⟨s2, sw⟩ := hSw; have t0 := (sw.1 0 _ rfl).1; have t1 := (sw.1 1 _ rfl).1; have t2 := (sw.1 2 _ rfl).1; have t3 := (sw.1 3 _ rfl).1; have t4 := (sw.1 4 _ rfl).1; have t5 := (sw.1 5 _ rfl).1; have t6 := (sw.1 6 _ rfl).1; have t7 := (sw.1 7 _ rfl).1; have t8 := (sw.1 8 _ rfl).1; clear sw; go_simp; try with_reducible rfl
      try simp only [Act.put, List.setIfInBounds_toArray, List.set_cons_zero, List.set_cons_succ]
      refine wpAnyL_ready (rs := [6]) (by kernel_rfl) (by simp) ?_
      refine AllReadyL.cons (o := { dst := some 69, op := Go.Op.buildSlice 102 1 #[(0, Go.Operand.tmp 68)], type := 102, pos := "table.go:63", after := #[{ on := 5, ground := Go.Ground.data }], guard := none }) rfl (by decide) (fun K hK => ?_) AllReadyL.nil
      go_simp
      have hal := (Below.refl wd.heap.size wd).alloc (Nat.le_refl _) (.cells #[.int .i64 id, .int .i64 po, .string tx, .bool tcp, .string nm, .int .i64 ty, .int .i64 cl, .int .i64 job, .int .i64 un] 79)
      have hnext := And.intro (cell_later hal hHeld.1) (hHeld.2.below hal)
      have HCA := Lib.hid (show CellsAt (wd.alloc (.cells #[.int .i64 id, .int .i64 po, .string tx, .bool tcp, .string nm, .int .i64 ty, .int .i64 cl, .int .i64 job, .int .i64 un] 79)) (some ⟨wd.heap.size, 0, none⟩) (1 * 9) (encW ⟨⟨id, po, tx, tcp⟩, ⟨nm, ty, cl⟩, job, un⟩) from cells_lit wd #[.int .i64 id, .int .i64 po, .string tx, .bool tcp, .string nm, .int .i64 ty, .int .i64 cl, .int .i64 job, .int .i64 un] 79)
      replace HT5 := Lib.hid (HT5.out.below hal)
      replace HR5 := Lib.hid (HR5.out.below hal)
      replace HF5 := Lib.hid (HF5.out.below hal HF5.out.size)
      obtain ⟨we, hwe⟩ : ∃ z, wd.alloc (.cells #[.int .i64 id, .int .i64 po, .string tx, .bool tcp, .string nm, .int .i64 ty, .int .i64 cl, .int .i64 job, .int .i64 un] 79) = z := ⟨_, rfl⟩
      obtain ⟨gL, hgL⟩ : ∃ z, wd.heap.size = z := ⟨_, rfl⟩
      rw [hwe] at hnext HCA HT5 HR5 HF5 ⊢
      rw [hgL] at HCA ⊢
      clear hwe hgL hal
      obtain ⟨wv, hTB, hTA, hTL⟩ := HT5.out
      have hce := hTB.1.u3.2.2.1
      obtain rfl : wv = .slice a L c := by rw [hnext.1] at hce; exact (Option.some.inj hce).symm
      have HOW := Lib.hid (show we.ownsRow 0 79 9 (.slice a L c) L (flatW s.ws) from by have h := hTB.2; rw [HL.out] at h; exact h)
      have HTP := Lib.hid (And.intro hTB (And.intro hTA hTL))
      clear hTB hTA hTL hce HT5
      refine hK.out _ _ (hnext) (fun hHeld2 => ?_)
      clear hK K hHeld
      have hHeld := hHeld2
      clear hHeld2
      try simp only [Act.put, List.setIfInBounds_toArray, List.set_cons_zero, List.set_cons_succ]
      refine wpAnyL_ready (rs := [7]) (by kernel_rfl) (by simp) ?_
      refine AllReadyL.cons (o := { dst := some 70, op := Go.Op.call { callee := Go.Callee.builtin Go.Builtin.append, args := #[Go.Operand.tmp 67, Go.Operand.tmp 69], argTypes := #[102, 102] }, type := 102, pos := "table.go:63", after := #[{ on := 4, ground := Go.Ground.data }, { on := 6, ground := Go.Ground.data }], guard := none }) rfl (by decide) (fun K hK => ?_) AllReadyL.nil
      refine step_append_fr (by rfl) (.tmp 67) (.tmp 69) 102 79 (by rfl) i0 zWt 9 88 Try.underlying102 HI.out HZ0.out HZ1.out HZ2.out rfl (by decide) (.slice a L c) L (flatW s.ws) (by rfl) HOW.out ⟨gL, 0, none⟩ 1 1 (encW ⟨⟨id, po, tx, tcp⟩, ⟨nm, ty, cl⟩, job, un⟩) (by rfl) HCA.out (encW_one _) HLN.out (by decide) ?_
      intro v' wg g1 g2 g3
      obtain ⟨va, vc, rfl, -⟩ := cellsK_own g1
      have hrow : ∀ g, (Value.slice a L c).ownBlock = some g → g ∈ bs ∧ g ≠ q := fun g hg => HTP.out.2.1.2 g hg
      have hgq : we.heap[q]? = wg.heap[q]? := (g2.block q (HTP.out.2.2 q HTP.out.2.1.1) (fun e => (hrow q e.symm).2 rfl)).symm
      have hnext := And.intro ((World.cell?_of_block (a := ⟨q, 2, none⟩) hgq.symm).trans hHeld.1) (hHeld.2.grown g2 (fun g hg e => by have h1 := (hrow g hg).1; have h2 := HQB.out.2.2 g h1; have := HGW.out; omega))
      have hgr := HR5.out.2
      replace HR5 := Lib.hid (HR5.out.grown g2 (fun g hg e => by have h1 := (hrow g hg).1; have h2 := HQB.out.2.2 g h1; have := HNE.out; omega))
      have HF6 := Lib.hid (HF5.out.grown g2 (fun g hg => Or.inl (hrow g hg).1))
      have HDC := Lib.hid (HTP.out.1.1.kept hgq.symm)
      have HG1 := Lib.hid g1
      have HG3 := Lib.hid (show ∀ g, (Value.slice va (L + 1) vc).ownBlock = some g → g ≠ q ∧ (g ∈ bs ∨ w.heap.size ≤ g) ∧ g < wg.heap.size ∧ g ≠ gR from fun g hg => by rcases g3 g hg with h1 | h1; exact ⟨(hrow g h1).2, Or.inl (hrow g h1).1, (g1.lt g hg).2, fun e => by have := HQB.out.2.2 g (hrow g h1).1; have := HNE.out; omega⟩; exact ⟨fun e => by have := HTP.out.2.2 q HTP.out.2.1.1; omega, Or.inr (Nat.le_trans HF5.out.size h1), (g1.lt g hg).2, fun e => by omega⟩)
      have HBS := Lib.hid (show ∀ b ∈ bs, b < wg.heap.size from fun b hb => Nat.lt_of_lt_of_le (HTP.out.2.2 b hb) g2.size)
      clear g1 g2 g3 hrow hgq hgr HTP HF5 HCA HOW
      refine hK.out _ _ (hnext) (fun hHeld2 => ?_)
      clear hK K hHeld
      have hHeld := hHeld2
      clear hHeld2
      try simp only [Act.put, List.setIfInBounds_toArray, List.set_cons_zero, List.set_cons_succ]
      refine wpAnyL_take (i := 8) (oi := { dst := some 71, op := Go.Op.nilCheck (Go.Operand.tmp 63), type := 0, pos := "table.go:63", after := #[{ on := 0, ground := Go.Ground.data }, { on := 0, ground := Go.Ground.phase }, { on := 1, ground := Go.Ground.phase }, { on := 2, ground := Go.Ground.phase }, { on := 3, ground := Go.Ground.phase }, { on := 4, ground := Go.Ground.phase }, { on := 5, ground := Go.Ground.phase }, { on := 6, ground := Go.Ground.phase }, { on := 7, ground := Go.Ground.phase }], guard := none }) (v := ?v8_270103) rfl (by kernel_rfl) (by kernel_rfl) (by kernel_rfl) (by kernel_rfl) (by kernel_rfl) (fun _ _ _ h => h) (Or.inl ⟨by rfl, ?y8_270103⟩) hHeld ?r8_270103
      case y8_270103 => intro w hSw; (try dsimp only at hSw); go_simp; try with_reducible rfl
      try simp only [Act.put, List.setIfInBounds_toArray, List.set_cons_zero, List.set_cons_succ]
      refine wpAnyL_take (i := 9) (oi := { dst := some 72, op := Go.Op.fieldAddr 144 (Go.Operand.tmp 71) 2, type := 0, pos := "table.go:63", after := #[{ on := 8, ground := Go.Ground.data }, { on := 0, ground := Go.Ground.phase }, { on := 1, ground := Go.Ground.phase }, { on := 2, ground := Go.Ground.phase }, { on := 3, ground := Go.Ground.phase }, { on := 4, ground := Go.Ground.phase }, { on := 5, ground := Go.Ground.phase }, { on := 6, ground := Go.Ground.phase }, { on := 7, ground := Go.Ground.phase }], guard := none }) (v := ?v9_270103) rfl (by kernel_rfl) (by kernel_rfl) (by kernel_rfl) (by kernel_rfl) (by kernel_rfl) (fun _ _ _ h => h) (Or.inl ⟨by rfl, ?y9_270103⟩) hHeld ?r9_270103
      case y9_270103 => intro w hSw; (try dsimp only at hSw); go_simp; try with_reducible rfl
      try simp only [Act.put, List.setIfInBounds_toArray, List.set_cons_zero, List.set_cons_succ]
      refine wpAnyL_ready (rs := [10]) (by kernel_rfl) (by simp) ?_
      refine AllReadyL.last (o := { dst := none, op := Go.Op.store 102 (Go.Operand.tmp 72) (Go.Operand.tmp 70), type := 0, pos := "table.go:63", after := #[{ on := 9, ground := Go.Ground.data }, { on := 7, ground := Go.Ground.data }, { on := 7, ground := Go.Ground.chain }, { on := 0, ground := Go.Ground.phase }, { on := 1, ground := Go.Ground.phase }, { on := 2, ground := Go.Ground.phase }, { on := 3, ground := Go.Ground.phase }, { on := 4, ground := Go.Ground.phase }, { on := 5, ground := Go.Ground.phase }, { on := 6, ground := Go.Ground.phase }, { on := 7, ground := Go.Ground.phase }], guard := none }) rfl (by decide) (fun K hK => ?_) AllReadyL.nil
      have cf := (HDC.out 2 _ rfl).2
      have cc := (HDC.out 2 _ rfl).1
      go_simp
      refine hK.out _ _ trivial (fun _ => ?_)
      clear hK K
      try simp only [Act.put, List.setIfInBounds_toArray, List.set_cons_zero, List.set_cons_succ]
      refine wpAnyL_done (by kernel_rfl) ?_ _
      have hWq : gW ≠ q := by have := HQB.out.2.1; have := HGW.out; omega
      have HW7 := Lib.hid (hHeld.2.other (p := q) (i := 2) hWq (.slice va (L + 1) vc))
      have HR7 := Lib.hid (HR5.out.other (p := q) (i := 2) (fun e => HNE.out.2.2.2 e.symm) (.slice va (L + 1) vc))
      have HF7 := Lib.hid (HF6.out.set q 2 (Or.inl HQB.out.1) (.slice va (L + 1) vc))
      have HT7 := Lib.hid (show ∃ cs, TbS (wg.setCell ⟨q, 2, none⟩ (.slice va (L + 1) vc)) cs q ⟨s.most, nxD (nxD s.x), s.ws ++ [⟨⟨id, po, tx, tcp⟩, ⟨nm, ty, cl⟩, job, un⟩]⟩ ∧ (∀ g ∈ cs, g ∈ bs ∨ w.heap.size ≤ g) ∧ gR ∉ cs from by
        have hmm : ∀ x, x ∈ bs ++ (Value.slice va (L + 1) vc).ownBlock.toList ↔ x ∈ bs ∨ (Value.slice va (L + 1) vc).ownBlock = some x := by
          intro x
          simp [Option.mem_toList]
        refine ⟨bs ++ (Value.slice va (L + 1) vc).ownBlock.toList, ⟨.slice va (L + 1) vc, ⟨HDC.out.set 2 (by simp) _, ?_⟩, ⟨(hmm _).2 (Or.inl HQB.out.1), fun g hg => ⟨(hmm _).2 (Or.inr hg), (HG3.out g hg).1⟩⟩, fun b hb => ?_⟩, fun g hg => ?_, fun hg => ?_⟩
        · have h1 := own_kept HG1.out (w' := wg.setCell ⟨q, 2, none⟩ (.slice va (L + 1) vc)) (fun g hg => Below.heap_setCell _ _ _ _ (HG3.out g hg).1)
          show World.ownsRow _ 0 _ 9 _ (s.ws ++ [_]).length (flatW (s.ws ++ [_]))
          rw [List.length_append, List.length_singleton, HL.out, flatW_app, flatW_one1]
          exact h1
        · rw [show (wg.setCell ⟨q, 2, none⟩ (.slice va (L + 1) vc)).heap.size = wg.heap.size by simp]
          rcases (hmm b).1 hb with h1 | h1
          · exact HBS.out b h1
          · exact (HG3.out b h1).2.2.1
        · rcases (hmm g).1 hg with h1 | h1
          · exact Or.inl h1
          · exact (HG3.out g h1).2.1
        · rcases (hmm gR).1 hg with h1 | h1
          · have := HQB.out.2.2 gR h1; have := HNE.out; omega
          · exact (HG3.out gR h1).2.2.2 rfl)
      obtain ⟨w8, hw8⟩ : ∃ z, wg.setCell ⟨q, 2, none⟩ (.slice va (L + 1) vc) = z := ⟨_, rfl⟩
      rw [hw8] at HW7 HR7 HF7 HT7 ⊢
      clear hw8 hHeld HR5 HF6 HDC HG1 HG3 HBS cf cc hWq
      have HRN := Lib.hid (show w8.rangeAt gW 0 (encW ⟨⟨id, po, tx, tcp⟩, ⟨nm, ty, cl⟩, job, un⟩) from fun j v hj => by rw [Nat.zero_add]; exact (HW7.out.1 j v hj).1)
      have HTH := Lib.hid (show w8.there gR 0 (encW ⟨⟨id, po, tx, tcp⟩, ⟨nm, ty, cl⟩, job, un⟩).toArray.size from fun j hj => by
        rw [Nat.zero_add]
        have hj9 : j < ([.int .i64 0, .int .i64 0, .string ⟨#[]⟩, .bool false, .string ⟨#[]⟩, .int .i64 0, .int .i64 0, .int .i64 0, .int .i64 0] : List Value).length := hj
        obtain ⟨u, hu⟩ : ∃ u, ([.int .i64 0, .int .i64 0, .string ⟨#[]⟩, .bool false, .string ⟨#[]⟩, .int .i64 0, .int .i64 0, .int .i64 0, .int .i64 0] : List Value)[j]? = some u := ⟨_, List.getElem?_eq_getElem hj9⟩
        obtain ⟨h1, h2⟩ := HR7.out.1 j u hu
        exact ⟨by rw [h1]; rfl, h2⟩)
      have HRS := Lib.hid (World.rangeAt_setCells_same _ _ _ _ HTH.out)
      have HF8 := Lib.hid (HF7.out.sets gR 0 (Or.inr (by have := HNE.out; omega)) (encW ⟨⟨id, po, tx, tcp⟩, ⟨nm, ty, cl⟩, job, un⟩))
      have HT8 := Lib.hid (show ∃ cs, TbS (w8.setCells gR 0 (encW ⟨⟨id, po, tx, tcp⟩, ⟨nm, ty, cl⟩, job, un⟩)) cs q ⟨s.most, nxD (nxD s.x), s.ws ++ [⟨⟨id, po, tx, tcp⟩, ⟨nm, ty, cl⟩, job, un⟩]⟩ ∧ ∀ g ∈ cs, g ∈ bs ∨ w.heap.size ≤ g from by
        obtain ⟨cs, h1, h2, h3⟩ := HT7.out
        exact ⟨cs, h1.frm ((Frm.refl w8 [gR]).sets gR 0 (Or.inl (by simp)) _) (fun b hb e => h3 (by simp at e; exact e ▸ hb)), h2⟩)
      have HOW9 := Lib.hid (show openW s now job tx tcp ⟨nm, ty, cl⟩ = ⟨⟨id, po, tx, tcp⟩, ⟨nm, ty, cl⟩, job, un⟩ from by rw [openW, HPO.out, HO1.out, ← HIDE.out, HUN.out])
      obtain ⟨w9, hw9⟩ : ∃ z, w8.setCells gR 0 (encW ⟨⟨id, po, tx, tcp⟩, ⟨nm, ty, cl⟩, job, un⟩) = z := ⟨_, rfl⟩
      rw [hw9] at HRS HF8 HT8
      have HW9 := Lib.hid (show w8.setCells gR 0 (encW ⟨⟨id, po, tx, tcp⟩, ⟨nm, ty, cl⟩, job, un⟩).toArray.toList = w9 from hw9)
      clear hw9
      clear HW7 HR7 HF7 HT7
      go_wp2_with (first | (refine wpList_load_mid rfl 79 (.tmp 15) rfl _ _ rfl _ _ HRN.out Try.underlying79 rfl (by kernel_rfl) ?_) | (refine wpList_store_mid rfl 79 (.tmp 12) (.tmp 73) rfl _ _ _ rfl rfl HTH.out (by kernel_rfl) (all_oneCell_toArray (encW_one _)) ?_; rw [HW9.out]))
      refine bodyPost_ret (v := .tuple #[.agg (encW ⟨⟨id, po, tx, tcp⟩, ⟨nm, ty, cl⟩, job, un⟩).toArray, .int .i64 0]) ?_ rfl ⟨by rw [HOW9.out], by rw [openP, HOW9.out]; exact HT8.out, HF8.out⟩
      rw [results_cell_tmp Try.results43]
      have hr := run_loadVar_mid (P := Try.prog) _ gR 0 79 (encW ⟨⟨id, po, tx, tcp⟩, ⟨nm, ty, cl⟩, job, un⟩) _ HRS.out Try.underlying79 rfl (by kernel_rfl)
      simp [asAddr, hr]
    · have HTK := Lib.hid (taken_yes hx1 hx2)
      clear hx1 hx2
      have dk : decide ((0 : Int) ≤ (kx : Int)) = true := dT (by omega)
      have n0 := (HK3.out.1 0 _ rfl).1
      have nf := (HK3.out.1 0 _ rfl).2
      obtain ⟨id1, hid1⟩ : ∃ z, nid id = z := ⟨_, rfl⟩
      have wa : IntKind.i64.wrap (id + 1) = id + 1 := by rw [IntKind.wrap_i64]; have := HID.out; omega
      have wb : (id + 1).tmod 65536 = id1 := by rw [Int.tmod_eq_emod_of_nonneg (by have := HID.out; omega), ← hid1, nid]
      have HIE := Lib.hid hid1
      have HIE2 := Lib.hid (seek_go (ws := s.ws) (p := po) (x := tx) (t := tcp) (id := id) (by have := HNN.out; omega) HTK.out)
      have HT4 := Lib.hid (HT3.out.other (i := 0) HKB.out.1 (.int .i64 id1))
      have HQ4 := Lib.hid (HQ3.out.other (p := gk) (i := 0) HKB.out.2.2.1 (.int .i64 id1))
      have HR4 := Lib.hid (HR3.out.other (p := gk) (i := 0) HKB.out.2.2.2 (.int .i64 id1))
      have HF4 := Lib.hid (HF3.out.set gk 0 (Or.inr (by have := HS2.out; omega)) (.int .i64 id1))
      have HK4 := Lib.hid (show HeldT gk [.int .i64 id1, .int .i64 po, .string tx, .bool tcp] (wf.setCell ⟨gk, 0, none⟩ (.int .i64 id1)) from HK3.out.set (i := 0) (by simp) (.int .i64 id1))
      clear hid1
      go_wp2
      go_roundw
      case rel => exact ⟨id1, Lib.hid ⟨by rw [← HIE.out]; exact (nid_in id).1, by rw [← HIE.out]; exact (nid_in id).2, by rw [← HIE.out]; exact HIE2.out.1.trans HID.out.2.2⟩, HT4, HK4, HQ4, HR4, HF4⟩
      case measure =>
        have e1 := idOf_held HK4.out
        have e2 := idOf_held HK2.out
        rw [e1, e2, ← HIE.out]
        exact HIE2.out.2
end Go.Proofs.Ytocfphijheidbaa
