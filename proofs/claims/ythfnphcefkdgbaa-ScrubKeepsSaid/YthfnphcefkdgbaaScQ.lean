/- Scrub: an answer for the document; two answers held against each other. -/
import Derived.Test.YthfnphcefkdgbaaScF
import Derived.Test.YthfnphcefkdgbaaLst
namespace Go.Proofs.Ythfnphcefkdgbaa
open Go.RowKit

theorem infoRd : (Try.prog.info? 129).map (fun i => (i.zero, i.size, i.bytes)) = some (some (.agg #[.string ⟨#[]⟩, .int .i64 0, .int .i64 0, .int .i64 0, .slice none 0 0, .int .i64 0]), 6, 72) := by kernel_rfl
theorem RkUp.len {w : World} {B n : Nat} {a : Option Addr} {L : List (SetP × Int)} (h : RkUp w B a n L) : L.length = n := by
  obtain ⟨Lp, h1, h2, -, -⟩ := h
  rw [← h1, List.length_map, h2]
theorem RkUp.get {w : World} {B n : Nat} {a : Option Addr} {L : List (SetP × Int)} (h : RkUp w B a n L) (k : Nat) (hk : k < n) : ∃ g p da dc, a = some ⟨g, 0, none⟩ ∧ g < w.heap.size ∧ L[k]? = some p ∧ w.cell? ⟨g, k * 6, none⟩ = some (.string p.1.k.n) ∧ w.cell? ⟨g, k * 6 + 1, none⟩ = some (.int .i64 p.1.k.t) ∧ w.cell? ⟨g, k * 6 + 2, none⟩ = some (.int .i64 p.1.k.c) ∧ w.cell? ⟨g, k * 6 + 3, none⟩ = some (.int .i64 p.1.ttl) ∧ w.cell? ⟨g, k * 6 + 4, none⟩ = some (.slice da p.1.data.length dc) ∧ w.cell? ⟨g, k * 6 + 5, none⟩ = some (.int .i64 p.2) ∧ w.ownsRow B 9 1 (.slice da p.1.data.length dc) p.1.data.length (sc p.1.data) := by
  obtain ⟨Lp, h1, h2, h3, h4⟩ := h
  rcases h3 with h3 | ⟨g, h5, h6, h7, h8⟩
  · omega
  obtain ⟨p, hp⟩ : ∃ p, Lp[k]? = some p := ⟨Lp[k]'(by omega), List.getElem?_eq_getElem (by omega)⟩
  have hg : ∀ i, i < 6 → ∀ u, (encTk p)[i]? = some u → w.cell? ⟨g, k * 6 + i, none⟩ = some u := fun i hi u hu => by
    have := h8 (k * 6 + i) u (by
      rw [flatT, flatMap_get encTk 6 encTk_len (by omega), show (k * 6 + i) / 6 = k by omega, show (k * 6 + i) % 6 = i by omega, hp]
      exact hu)
    rw [Nat.zero_add] at this; exact this
  have hm := h4 p (List.mem_of_getElem? hp)
  obtain ⟨a', c', he, -, -⟩ := rowS_of_own hm
  rw [he] at hm
  exact ⟨g, fstT p, a', c', h5, h7, by rw [← h1, List.getElem?_map, hp]; rfl, hg 0 (by omega) _ rfl, hg 1 (by omega) _ rfl, hg 2 (by omega) _ rfl, hg 3 (by omega) _ rfl, (by have := hg 4 (by omega) _ rfl; rw [he] at this; exact this), hg 5 (by omega) _ rfl, hm⟩
/-- A row of ranked sets for the document. -/
def OwD (w : World) (B : Nat) (v : Value) (m : Nat) (Lp : List ((SetP × Value) × Int)) : Prop := w.ownsRow B 129 6 v m (flatT Lp)
theorem OwD.below {w w' : World} {B m : Nat} {v : Value} {Lp : List ((SetP × Value) × Int)} (h : OwD w B v m Lp) (hb : Below w.heap.size w w') : OwD w' B v m Lp := own_below' h hb
theorem OwD.far {w w' : World} {B m q : Nat} {v : Value} {Lp : List ((SetP × Value) × Int)} (h : OwD w B v m Lp) (hg : w.grownBy w' (some q)) (hq : q < B) : OwD w' B v m Lp :=
  own_apart7 h hg (fun k hk e => by have h1 := (World.ownsRow.lt h k hk).1; injection e with e; omega)
theorem OwD.shape {w : World} {B m : Nat} {v : Value} {Lp : List ((SetP × Value) × Int)} (h : OwD w B v m Lp) : ∃ a c, v = .slice a m c ∧ (a = none → m = 0 ∧ c = 0) := by
  rcases h.2 with ⟨rfl, h0⟩ | ⟨g, cap, cur, rfl, -⟩
  · exact ⟨none, 0, by rw [h0], fun _ => ⟨h0, rfl⟩⟩
  · exact ⟨some ⟨g, 0, none⟩, cap, rfl, fun e => by cases e⟩
theorem plain_data {w : World} {B : Nat} {Lp : List ((SetP × Value) × Int)} {s : SetP} {dv : Value} (h : ∀ p ∈ Lp, w.ownsRow B 9 1 p.1.2 p.1.1.data.length (sc p.1.1.data)) (hd : w.ownsRow B 9 1 dv s.data.length (sc s.data)) (rk : Int) : ∀ p ∈ Lp ++ [((s, dv), rk)], w.ownsRow B 9 1 p.1.2 p.1.1.data.length (sc p.1.1.data) := fun p hp => by
  rcases List.mem_append.1 hp with hp | hp
  · exact h p hp
  · obtain rfl := List.mem_singleton.1 hp; exact hd
theorem plain_row {w0 w : World} {B B1 n : Nat} {va : Option Addr} {vc : Nat} {Lp : List ((SetP × Value) × Int)} {os : List (SetP × Int)} (h : OwD w B1 (.slice va n vc) n Lp) (hn : Lp.length = n) (hd : ∀ p ∈ Lp, w0.ownsRow B 9 1 p.1.2 p.1.1.data.length (sc p.1.1.data)) (hB : B ≤ B1) (hb : Below w0.heap.size w0 w) (hm : Lp.map fstT = os) : RkUp w B va n os := by
  refine ⟨Lp, hm, hn, ?_, fun p hp => own_below' (hd p hp) hb⟩
  rcases h.2 with ⟨-, h0⟩ | ⟨g, cap, cur, he, hb, -⟩
  · exact Or.inl h0
  · injection he with he1 he2 he3
    subst he1
    exact Or.inr ⟨g, rfl, Nat.le_trans hB hb, (World.ownsRow.lt h g rfl).2, fun j u hj => by rw [Nat.zero_add]; exact ownsRow_at h j u hj⟩
def PlI (w0 w : World) (q1 q2 : Nat) (D1 D2 : List Value) : Prop := CN w q1 D1 ∧ CN w q2 D2 ∧ Below w0.heap.size w0 w
theorem PlI.below {w0 w w' : World} {q1 q2 : Nat} {D1 D2 : List Value} (h : PlI w0 w q1 q2 D1 D2) (hb : Below w.heap.size w w') : PlI w0 w' q1 q2 D1 D2 := ⟨h.1.below hb, h.2.1.below hb, h.2.2.trans (hb.mono h.2.2.size)⟩
theorem PlI.set {w0 w w' : World} {q1 q2 q3 : Nat} {D1 D2 : List Value} (h : PlI w0 w q1 q2 D1 D2) (hg : w.grownBy w' (some q3)) (hq : q1 < q3 ∧ q2 < q3 ∧ w0.heap.size ≤ q3) : PlI w0 w' q1 q2 D1 D2 :=
  ⟨h.1.grown hg (fun e => by injection e with e; omega), h.2.1.grown hg (fun e => by injection e with e; omega), h.2.2.grown hg h.2.2.size (fun k hk => by injection hk with hk; omega)⟩
def PlJ (w0 w : World) (q1 q2 q3 : Nat) (D1 D2 D3 : List Value) : Prop := PlI w0 w q1 q2 D1 D2 ∧ CN w q3 D3
theorem PlJ.below {w0 w w' : World} {q1 q2 q3 : Nat} {D1 D2 D3 : List Value} (h : PlJ w0 w q1 q2 q3 D1 D2 D3) (hb : Below w.heap.size w w') : PlJ w0 w' q1 q2 q3 D1 D2 D3 := ⟨h.1.below hb, h.2.below hb⟩
theorem PlJ.grow {w0 w w' : World} {q1 q2 q3 m : Nat} {D1 D2 D3 : List Value} {v : Value} {Lp : List ((SetP × Value) × Int)} (h : PlJ w0 w q1 q2 q3 D1 D2 D3) (hq : q1 < q3 ∧ q2 < q3 ∧ w0.heap.size ≤ q3) (ho : OwD w (q3 + 1) v m Lp) (hg : w.grownBy w' v.ownBlock) : PlJ w0 w' q1 q2 q3 D1 D2 D3 :=
  ⟨⟨h.1.1.grown hg (own_above ho (by omega)), h.1.2.1.grown hg (own_above ho (by omega)), h.1.2.2.grown hg h.1.2.2.size (fun k hk => by have h1 := (World.ownsRow.lt ho k hk).1; omega)⟩, h.2.grown hg (own_above ho (by omega))⟩
set_option maxRecDepth 100000 in
set_option maxHeartbeats 8000000 in
theorem plain_out (B : Nat) (o : OutP) (v : Value) (w : World) (h : OutUp w B v o) (hB : B ≤ w.heap.size) (hl : o.sets.length ≤ 10001) : Calls Try.prog 42 #[v] w fun e w' => (∃ v', e = .returned v' ∧ OutUp w' B v' o) ∧ Below w.heap.size w w' := by
  obtain ⟨ok, ot, os, ox⟩ := o
  obtain ⟨a, n, c, rfl, hr, hn⟩ := h
  dsimp only at hr hl ⊢
  have HR := Lib.hid hr
  have HN := Lib.hid hn
  have HBW := Lib.hid hB
  have HNL := Lib.hid (show n ≤ 10001 by rw [← hr.len]; exact hl)
  have HLN := Lib.hid hr.len
  obtain ⟨i0, hi, hz0, hz1, hz2⟩ := info_parts infoRd
  have HI0 := Lib.hid hi
  have HZ0 := Lib.hid hz0
  have HZ1 := Lib.hid hz1
  have HZ2 := Lib.hid hz2
  clear hr hn hl hB hi hz0 hz1 hz2
  have HB := Lib.hid (Below.refl w.heap.size w)
  go_enter Try.func42, Try.ntmps42
  have hba := (Below.refl _ _ : Below w.heap.size w w).alloc (Nat.le_refl _) (.cells #[.int .i64 ok, .int .i64 ot, .slice a n c, .string ox] 81)
  have C1 := Lib.hid (CN.new w #[.int .i64 ok, .int .i64 ot, .slice a n c, .string ox] 81)
  replace HB := Lib.hid (HB.out.trans (hba.mono HB.out.size))
  obtain ⟨w2, hw⟩ : ∃ x, w.alloc (.cells #[.int .i64 ok, .int .i64 ot, .slice a n c, .string ox] 81) = x := ⟨_, rfl⟩
  obtain ⟨q2, hq⟩ : ∃ x, w.heap.size = x := ⟨_, rfl⟩
  rw [hw, hq] at C1
  rw [hw] at HB
  have HWw2 := Lib.hid hw
  have HQq2 := Lib.hid hq
  clear hba hw hq
  have hba := (Below.refl _ _ : Below w2.heap.size w2 w2).alloc (Nat.le_refl _) (.cells #[.int .i64 0, .int .i64 0, .slice none 0 0, .string ⟨#[]⟩] 94)
  have C2 := Lib.hid (CN.new w2 #[.int .i64 0, .int .i64 0, .slice none 0 0, .string ⟨#[]⟩] 94)
  replace HB := Lib.hid (HB.out.trans (hba.mono HB.out.size))
  replace C1 := Lib.hid (C1.out.below hba)
  obtain ⟨w3, hw⟩ : ∃ x, w2.alloc (.cells #[.int .i64 0, .int .i64 0, .slice none 0 0, .string ⟨#[]⟩] 94) = x := ⟨_, rfl⟩
  obtain ⟨q3, hq⟩ : ∃ x, w2.heap.size = x := ⟨_, rfl⟩
  rw [hw, hq] at C2
  rw [hw] at HB C1
  have HSq3 := Lib.hid (show q2 + 1 = q3 by rw [← HQq2.out, ← hq, ← HWw2.out, World.size_alloc])
  have HWw3 := Lib.hid hw
  have HQq3 := Lib.hid hq
  clear hba hw hq
  go_upto_region 1 with (fail)
  rw [HWw2.out, HWw3.out]
  rw [show (Value.pointer (some { block := w.heap.size + 1, off := 0 })) = Value.pointer (some { block := q3, off := 0 }) by rw [HQq2.out, HSq3.out]]
  rw [show (Value.pointer (some { block := w.heap.size, off := 0 })) = Value.pointer (some { block := q2, off := 0 }) by rw [HQq2.out]]
  have HQZ := Lib.hid (show w.heap.size ≤ q3 by have h := HSq3.out; have h3 := HQq2.out; omega)
  obtain ⟨b0, b1, b2, b3, _⟩ := C1.out.o4
  have HQ12 := Lib.hid (show q2 < w3.heap.size ∧ q3 < w3.heap.size from ⟨C1.out.1, C2.out.1⟩)
  have hba := (Below.refl _ _ : Below w3.heap.size w3 w3).alloc (Nat.le_refl _) (.cells #[.int .i64 ok, .int .i64 ot, .slice none 0 0, .string ox] 94)
  have C3 := Lib.hid (CN.new w3 #[.int .i64 ok, .int .i64 ot, .slice none 0 0, .string ox] 94)
  replace HB := Lib.hid (HB.out.trans (hba.mono HB.out.size))
  replace C1 := Lib.hid (C1.out.below hba)
  replace C2 := Lib.hid (C2.out.below hba)
  obtain ⟨w4, hw⟩ : ∃ x, w3.alloc (.cells #[.int .i64 ok, .int .i64 ot, .slice none 0 0, .string ox] 94) = x := ⟨_, rfl⟩
  obtain ⟨q4, hq⟩ : ∃ x, w3.heap.size = x := ⟨_, rfl⟩
  rw [hq] at HQ12
  rw [hw, hq] at C3
  rw [hw] at HB C1 C2
  have HW := Lib.hid hw
  have HQ_ := Lib.hid hq
  clear hba hw hq
  go_upto_region 2 with (fail)
  rw [HW.out, HQ_.out]
  clear HW HQ_
  have HQ3 := Lib.hid (show q2 < q4 ∧ q3 < q4 ∧ w.heap.size ≤ q4 from ⟨HQ12.out.1, HQ12.out.2, Nat.le_trans HQZ.out (Nat.le_of_lt HQ12.out.2)⟩)
  have HP := Lib.hid (show PlI w w4 q2 q3 [.int .i64 ok, .int .i64 ot, .slice a n c, .string ox] [.int .i64 0, .int .i64 0, .slice none 0 0, .string ⟨#[]⟩] from ⟨C1.out, C2.out, HB.out⟩)
  clear C1 C2 HB HQ12
  clear b0 b1 b2 b3
  go_wp2_with fail
  go_loopw [4] (fun i wr => ∃ (k m : Nat) (v : Value) (Lp : List ((SetP × Value) × Int)), k ≤ n ∧ m = k ∧ i = .int .i64 k ∧ Hid (Lp.length = m) ∧ Hid (Lp.map fstT = os.take k) ∧ Hid (CN wr q4 [.int .i64 ok, .int .i64 ot, v, .string ox]) ∧ Hid (OwD wr (q4 + 1) v m Lp) ∧ Hid (∀ p ∈ Lp, w.ownsRow B 9 1 p.1.2 p.1.1.data.length (sc p.1.1.data)) ∧ Hid (PlI w wr q2 q3 [.int .i64 ok, .int .i64 ot, .slice a n c, .string ox] [.int .i64 0, .int .i64 0, .slice none 0 0, .string ⟨#[]⟩])) (fun i _ => n - (intOf i).toNat)
  case atStart => exact ⟨0, 0, .slice none 0 0, [], Nat.zero_le _, rfl, rfl, Lib.hid rfl, Lib.hid rfl, C3, Lib.hid (World.ownsRow_nil _ _ _ _), Lib.hid (fun p hp => by cases hp), HP⟩
  case round =>
    clear C3 HP
    obtain ⟨k, m, v, Lp, hk, rfl, rfl, HPL, HPM, C3, HO, HD, HP⟩ := hrel
    obtain ⟨b0, b1, b2, b3, _⟩ := HP.out.1.o4
    by_cases hlt : m < n
    · obtain ⟨gs, ⟨⟨⟨sn, st, sk⟩, su, sd⟩, rk⟩, da, dc, ha, hgs, hLk, x0, x1, x2, x3, x4, x5, hor⟩ := HR.out.get m hlt
      subst ha
      replace x0 : w.cell? ⟨gs, m * 6, none⟩ = some (.string sn) := x0
      replace x1 : w.cell? ⟨gs, m * 6 + 1, none⟩ = some (.int .i64 st) := x1
      replace x2 : w.cell? ⟨gs, m * 6 + 2, none⟩ = some (.int .i64 sk) := x2
      replace x3 : w.cell? ⟨gs, m * 6 + 3, none⟩ = some (.int .i64 su) := x3
      replace x4 : w.cell? ⟨gs, m * 6 + 4, none⟩ = some (.slice da sd.length dc) := x4
      replace x5 : w.cell? ⟨gs, m * 6 + 5, none⟩ = some (.int .i64 rk) := x5
      replace hor : w.ownsRow B 9 1 (.slice da sd.length dc) sd.length (sc sd) := hor
      obtain ⟨dl, hdl⟩ : ∃ x, sd.length = x := ⟨_, rfl⟩
      rw [hdl] at x4 hor
      have HDL := Lib.hid hdl
      have HLK := Lib.hid hLk
      have HOR := Lib.hid hor
      have HLT := Lib.hid hlt
      have i1 : (0 : Int) ≤ (m : Int) := by omega
      have i2 : (m : Int) < (n : Int) := by omega
      have X0 := Lib.hid x0
      have X1 := Lib.hid x1
      have X2 := Lib.hid x2
      have X3 := Lib.hid x3
      have X4 := Lib.hid x4
      have X5 := Lib.hid x5
      clear hdl hLk hor hgs x0 x1 x2 x3 x4 x5 hlt hk
      go_upto_region 5 with (fail)
      clear b0 b1 b2 b3
      have HPD := Lib.hid (show PlJ w wr.drew q2 q3 q4 [.int .i64 ok, .int .i64 ot, .slice (some ⟨gs, 0, none⟩) n c, .string ox] [.int .i64 0, .int .i64 0, .slice none 0 0, .string ⟨#[]⟩] [.int .i64 ok, .int .i64 ot, v, .string ox] from ⟨HP.out.below (Below.refl _ _).drew, C3.out.below (Below.refl _ _).drew⟩)
      have HO1 := Lib.hid (HO.out.below (Below.refl _ _).drew)
      obtain ⟨wd, hwd⟩ : ∃ x, wr.drew = x := ⟨_, rfl⟩
      rw [hwd] at HPD HO1
      refine wp_region_last_drew (S := (fun wx => Hid (PlJ w wx q2 q3 q4 [.int .i64 ok, .int .i64 ot, .slice (some ⟨gs, 0, none⟩) n c, .string ox] [.int .i64 0, .int .i64 0, .slice none 0 0, .string ⟨#[]⟩] [.int .i64 ok, .int .i64 ot, v, .string ox]))) (L := 19) (by kernel_rfl) (by rw [hwd]; exact HPD) (fun hHeld => ?_)
      rw [hwd] at hHeld ⊢
      clear hwd
      refine wpAnyL_take (i := 0) (oi := { dst := some 19, op := Go.Op.fieldAddr 94 (Go.Operand.tmp 3) 2, type := 0, pos := "law.go:24", after := #[], guard := none }) (v := ?v0_101) rfl (by kernel_rfl) (by kernel_rfl) (by kernel_rfl) (by kernel_rfl) (by kernel_rfl) (fun _ _ _ h => h) (Or.inl ⟨by rfl, ?y0_101⟩) hHeld ?r0_101
      case y0_101 => intro w hSw; (try dsimp only at hSw); obtain ⟨b0, b1, b2, b3, _⟩ := hSw.out.1.1.o4; obtain ⟨d0, d1, d2, d3, _⟩ := hSw.out.2.o4; have x0 := cell_later4 hSw.out.1.2.2 X0.out; have x1 := cell_later4 hSw.out.1.2.2 X1.out; have x2 := cell_later4 hSw.out.1.2.2 X2.out; have x3 := cell_later4 hSw.out.1.2.2 X3.out; have x4 := cell_later4 hSw.out.1.2.2 X4.out; have x5 := cell_later4 hSw.out.1.2.2 X5.out; go_simp; try with_reducible rfl
      try simp only [Act.put, List.setIfInBounds_toArray, List.set_cons_zero, List.set_cons_succ]
      refine wpAnyL_take (i := 1) (oi := { dst := some 20, op := Go.Op.load 92 (Go.Operand.tmp 19), type := 92, pos := "law.go:24", after := #[{ on := 0, ground := Go.Ground.data }], guard := none }) (v := ?v1_101) rfl (by kernel_rfl) (by kernel_rfl) (by kernel_rfl) (by kernel_rfl) (by kernel_rfl) (fun _ _ _ h => h) (Or.inl ⟨by rfl, ?y1_101⟩) hHeld ?r1_101
      case y1_101 => intro w hSw; (try dsimp only at hSw); obtain ⟨b0, b1, b2, b3, _⟩ := hSw.out.1.1.o4; obtain ⟨d0, d1, d2, d3, _⟩ := hSw.out.2.o4; have x0 := cell_later4 hSw.out.1.2.2 X0.out; have x1 := cell_later4 hSw.out.1.2.2 X1.out; have x2 := cell_later4 hSw.out.1.2.2 X2.out; have x3 := cell_later4 hSw.out.1.2.2 X3.out; have x4 := cell_later4 hSw.out.1.2.2 X4.out; have x5 := cell_later4 hSw.out.1.2.2 X5.out; go_simp; try with_reducible rfl
      try simp only [Act.put, List.setIfInBounds_toArray, List.set_cons_zero, List.set_cons_succ]
      refine wpAnyL_take (i := 2) (oi := { dst := some 21, op := Go.Op.fieldAddr 81 (Go.Operand.tmp 1) 2, type := 0, pos := "law.go:24", after := #[], guard := none }) (v := ?v2_101) rfl (by kernel_rfl) (by kernel_rfl) (by kernel_rfl) (by kernel_rfl) (by kernel_rfl) (fun _ _ _ h => h) (Or.inl ⟨by rfl, ?y2_101⟩) hHeld ?r2_101
      case y2_101 => intro w hSw; (try dsimp only at hSw); obtain ⟨b0, b1, b2, b3, _⟩ := hSw.out.1.1.o4; obtain ⟨d0, d1, d2, d3, _⟩ := hSw.out.2.o4; have x0 := cell_later4 hSw.out.1.2.2 X0.out; have x1 := cell_later4 hSw.out.1.2.2 X1.out; have x2 := cell_later4 hSw.out.1.2.2 X2.out; have x3 := cell_later4 hSw.out.1.2.2 X3.out; have x4 := cell_later4 hSw.out.1.2.2 X4.out; have x5 := cell_later4 hSw.out.1.2.2 X5.out; go_simp; try with_reducible rfl
      try simp only [Act.put, List.setIfInBounds_toArray, List.set_cons_zero, List.set_cons_succ]
      refine wpAnyL_take (i := 3) (oi := { dst := some 22, op := Go.Op.load 79 (Go.Operand.tmp 21), type := 79, pos := "law.go:24", after := #[{ on := 2, ground := Go.Ground.data }], guard := none }) (v := ?v3_101) rfl (by kernel_rfl) (by kernel_rfl) (by kernel_rfl) (by kernel_rfl) (by kernel_rfl) (fun _ _ _ h => h) (Or.inl ⟨by rfl, ?y3_101⟩) hHeld ?r3_101
      case y3_101 => intro w hSw; (try dsimp only at hSw); obtain ⟨b0, b1, b2, b3, _⟩ := hSw.out.1.1.o4; obtain ⟨d0, d1, d2, d3, _⟩ := hSw.out.2.o4; have x0 := cell_later4 hSw.out.1.2.2 X0.out; have x1 := cell_later4 hSw.out.1.2.2 X1.out; have x2 := cell_later4 hSw.out.1.2.2 X2.out; have x3 := cell_later4 hSw.out.1.2.2 X3.out; have x4 := cell_later4 hSw.out.1.2.2 X4.out; have x5 := cell_later4 hSw.out.1.2.2 X5.out; go_simp; try with_reducible rfl
      try simp only [Act.put, List.setIfInBounds_toArray, List.set_cons_zero, List.set_cons_succ]
      refine wpAnyL_take (i := 4) (oi := { dst := some 23, op := Go.Op.move (Go.Operand.tmp 4), type := 3, pos := "law.go:24", after := #[], guard := none }) (v := ?v4_101) rfl (by kernel_rfl) (by kernel_rfl) (by kernel_rfl) (by kernel_rfl) (by kernel_rfl) (fun _ _ _ h => h) (Or.inl ⟨by rfl, ?y4_101⟩) hHeld ?r4_101
      case y4_101 => intro w hSw; (try dsimp only at hSw); obtain ⟨b0, b1, b2, b3, _⟩ := hSw.out.1.1.o4; obtain ⟨d0, d1, d2, d3, _⟩ := hSw.out.2.o4; have x0 := cell_later4 hSw.out.1.2.2 X0.out; have x1 := cell_later4 hSw.out.1.2.2 X1.out; have x2 := cell_later4 hSw.out.1.2.2 X2.out; have x3 := cell_later4 hSw.out.1.2.2 X3.out; have x4 := cell_later4 hSw.out.1.2.2 X4.out; have x5 := cell_later4 hSw.out.1.2.2 X5.out; go_simp; try with_reducible rfl
      try simp only [Act.put, List.setIfInBounds_toArray, List.set_cons_zero, List.set_cons_succ]
      refine wpAnyL_take (i := 5) (oi := { dst := some 24, op := Go.Op.indexAddr 79 (Go.Operand.tmp 22) (Go.Operand.tmp 23), type := 0, pos := "law.go:24", after := #[{ on := 3, ground := Go.Ground.data }, { on := 4, ground := Go.Ground.data }], guard := none }) (v := ?v5_101) rfl (by kernel_rfl) (by kernel_rfl) (by kernel_rfl) (by kernel_rfl) (by kernel_rfl) (fun _ _ _ h => h) (Or.inl ⟨by rfl, ?y5_101⟩) hHeld ?r5_101
      case y5_101 => intro w hSw; (try dsimp only at hSw); obtain ⟨b0, b1, b2, b3, _⟩ := hSw.out.1.1.o4; obtain ⟨d0, d1, d2, d3, _⟩ := hSw.out.2.o4; have x0 := cell_later4 hSw.out.1.2.2 X0.out; have x1 := cell_later4 hSw.out.1.2.2 X1.out; have x2 := cell_later4 hSw.out.1.2.2 X2.out; have x3 := cell_later4 hSw.out.1.2.2 X3.out; have x4 := cell_later4 hSw.out.1.2.2 X4.out; have x5 := cell_later4 hSw.out.1.2.2 X5.out; go_simp; try with_reducible rfl
      try simp only [Act.put, List.setIfInBounds_toArray, List.set_cons_zero, List.set_cons_succ]
      refine wpAnyL_take (i := 6) (oi := { dst := some 25, op := Go.Op.fieldAddr 85 (Go.Operand.tmp 24) 0, type := 0, pos := "law.go:24", after := #[{ on := 5, ground := Go.Ground.data }], guard := none }) (v := ?v6_101) rfl (by kernel_rfl) (by kernel_rfl) (by kernel_rfl) (by kernel_rfl) (by kernel_rfl) (fun _ _ _ h => h) (Or.inl ⟨by rfl, ?y6_101⟩) hHeld ?r6_101
      case y6_101 => intro w hSw; (try dsimp only at hSw); obtain ⟨b0, b1, b2, b3, _⟩ := hSw.out.1.1.o4; obtain ⟨d0, d1, d2, d3, _⟩ := hSw.out.2.o4; have x0 := cell_later4 hSw.out.1.2.2 X0.out; have x1 := cell_later4 hSw.out.1.2.2 X1.out; have x2 := cell_later4 hSw.out.1.2.2 X2.out; have x3 := cell_later4 hSw.out.1.2.2 X3.out; have x4 := cell_later4 hSw.out.1.2.2 X4.out; have x5 := cell_later4 hSw.out.1.2.2 X5.out; go_simp; try with_reducible rfl
      try simp only [Act.put, List.setIfInBounds_toArray, List.set_cons_zero, List.set_cons_succ]
      refine wpAnyL_take (i := 7) (oi := { dst := some 26, op := Go.Op.load 39 (Go.Operand.tmp 25), type := 39, pos := "law.go:24", after := #[{ on := 6, ground := Go.Ground.data }], guard := none }) (v := ?v7_101) rfl (by kernel_rfl) (by kernel_rfl) (by kernel_rfl) (by kernel_rfl) (by kernel_rfl) (fun _ _ _ h => h) (Or.inl ⟨by rfl, ?y7_101⟩) hHeld ?r7_101
      case y7_101 => intro w hSw; (try dsimp only at hSw); obtain ⟨b0, b1, b2, b3, _⟩ := hSw.out.1.1.o4; obtain ⟨d0, d1, d2, d3, _⟩ := hSw.out.2.o4; have x0 := cell_later4 hSw.out.1.2.2 X0.out; have x1 := cell_later4 hSw.out.1.2.2 X1.out; have x2 := cell_later4 hSw.out.1.2.2 X2.out; have x3 := cell_later4 hSw.out.1.2.2 X3.out; have x4 := cell_later4 hSw.out.1.2.2 X4.out; have x5 := cell_later4 hSw.out.1.2.2 X5.out; go_simp; try with_reducible rfl
      try simp only [Act.put, List.setIfInBounds_toArray, List.set_cons_zero, List.set_cons_succ]
      refine wpAnyL_take (i := 9) (oi := { dst := some 28, op := Go.Op.fieldAddr 81 (Go.Operand.tmp 1) 2, type := 0, pos := "law.go:24", after := #[], guard := none }) (v := ?v9_101) rfl (by kernel_rfl) (by kernel_rfl) (by kernel_rfl) (by kernel_rfl) (by kernel_rfl) (fun _ _ _ h => h) (Or.inl ⟨by rfl, ?y9_101⟩) hHeld ?r9_101
      case y9_101 => intro w hSw; (try dsimp only at hSw); obtain ⟨b0, b1, b2, b3, _⟩ := hSw.out.1.1.o4; obtain ⟨d0, d1, d2, d3, _⟩ := hSw.out.2.o4; have x0 := cell_later4 hSw.out.1.2.2 X0.out; have x1 := cell_later4 hSw.out.1.2.2 X1.out; have x2 := cell_later4 hSw.out.1.2.2 X2.out; have x3 := cell_later4 hSw.out.1.2.2 X3.out; have x4 := cell_later4 hSw.out.1.2.2 X4.out; have x5 := cell_later4 hSw.out.1.2.2 X5.out; go_simp; try with_reducible rfl
      try simp only [Act.put, List.setIfInBounds_toArray, List.set_cons_zero, List.set_cons_succ]
      refine wpAnyL_take (i := 10) (oi := { dst := some 29, op := Go.Op.load 79 (Go.Operand.tmp 28), type := 79, pos := "law.go:24", after := #[{ on := 9, ground := Go.Ground.data }], guard := none }) (v := ?v10_101) rfl (by kernel_rfl) (by kernel_rfl) (by kernel_rfl) (by kernel_rfl) (by kernel_rfl) (fun _ _ _ h => h) (Or.inl ⟨by rfl, ?y10_101⟩) hHeld ?r10_101
      case y10_101 => intro w hSw; (try dsimp only at hSw); obtain ⟨b0, b1, b2, b3, _⟩ := hSw.out.1.1.o4; obtain ⟨d0, d1, d2, d3, _⟩ := hSw.out.2.o4; have x0 := cell_later4 hSw.out.1.2.2 X0.out; have x1 := cell_later4 hSw.out.1.2.2 X1.out; have x2 := cell_later4 hSw.out.1.2.2 X2.out; have x3 := cell_later4 hSw.out.1.2.2 X3.out; have x4 := cell_later4 hSw.out.1.2.2 X4.out; have x5 := cell_later4 hSw.out.1.2.2 X5.out; go_simp; try with_reducible rfl
      try simp only [Act.put, List.setIfInBounds_toArray, List.set_cons_zero, List.set_cons_succ]
      refine wpAnyL_take (i := 11) (oi := { dst := some 30, op := Go.Op.move (Go.Operand.tmp 4), type := 3, pos := "law.go:24", after := #[], guard := none }) (v := ?v11_101) rfl (by kernel_rfl) (by kernel_rfl) (by kernel_rfl) (by kernel_rfl) (by kernel_rfl) (fun _ _ _ h => h) (Or.inl ⟨by rfl, ?y11_101⟩) hHeld ?r11_101
      case y11_101 => intro w hSw; (try dsimp only at hSw); obtain ⟨b0, b1, b2, b3, _⟩ := hSw.out.1.1.o4; obtain ⟨d0, d1, d2, d3, _⟩ := hSw.out.2.o4; have x0 := cell_later4 hSw.out.1.2.2 X0.out; have x1 := cell_later4 hSw.out.1.2.2 X1.out; have x2 := cell_later4 hSw.out.1.2.2 X2.out; have x3 := cell_later4 hSw.out.1.2.2 X3.out; have x4 := cell_later4 hSw.out.1.2.2 X4.out; have x5 := cell_later4 hSw.out.1.2.2 X5.out; go_simp; try with_reducible rfl
      try simp only [Act.put, List.setIfInBounds_toArray, List.set_cons_zero, List.set_cons_succ]
      refine wpAnyL_take (i := 12) (oi := { dst := some 31, op := Go.Op.indexAddr 79 (Go.Operand.tmp 29) (Go.Operand.tmp 30), type := 0, pos := "law.go:24", after := #[{ on := 10, ground := Go.Ground.data }, { on := 11, ground := Go.Ground.data }], guard := none }) (v := ?v12_101) rfl (by kernel_rfl) (by kernel_rfl) (by kernel_rfl) (by kernel_rfl) (by kernel_rfl) (fun _ _ _ h => h) (Or.inl ⟨by rfl, ?y12_101⟩) hHeld ?r12_101
      case y12_101 => intro w hSw; (try dsimp only at hSw); obtain ⟨b0, b1, b2, b3, _⟩ := hSw.out.1.1.o4; obtain ⟨d0, d1, d2, d3, _⟩ := hSw.out.2.o4; have x0 := cell_later4 hSw.out.1.2.2 X0.out; have x1 := cell_later4 hSw.out.1.2.2 X1.out; have x2 := cell_later4 hSw.out.1.2.2 X2.out; have x3 := cell_later4 hSw.out.1.2.2 X3.out; have x4 := cell_later4 hSw.out.1.2.2 X4.out; have x5 := cell_later4 hSw.out.1.2.2 X5.out; go_simp; try with_reducible rfl
      try simp only [Act.put, List.setIfInBounds_toArray, List.set_cons_zero, List.set_cons_succ]
      refine wpAnyL_take (i := 13) (oi := { dst := some 32, op := Go.Op.fieldAddr 85 (Go.Operand.tmp 31) 1, type := 0, pos := "law.go:24", after := #[{ on := 12, ground := Go.Ground.data }], guard := none }) (v := ?v13_101) rfl (by kernel_rfl) (by kernel_rfl) (by kernel_rfl) (by kernel_rfl) (by kernel_rfl) (fun _ _ _ h => h) (Or.inl ⟨by rfl, ?y13_101⟩) hHeld ?r13_101
      case y13_101 => intro w hSw; (try dsimp only at hSw); obtain ⟨b0, b1, b2, b3, _⟩ := hSw.out.1.1.o4; obtain ⟨d0, d1, d2, d3, _⟩ := hSw.out.2.o4; have x0 := cell_later4 hSw.out.1.2.2 X0.out; have x1 := cell_later4 hSw.out.1.2.2 X1.out; have x2 := cell_later4 hSw.out.1.2.2 X2.out; have x3 := cell_later4 hSw.out.1.2.2 X3.out; have x4 := cell_later4 hSw.out.1.2.2 X4.out; have x5 := cell_later4 hSw.out.1.2.2 X5.out; go_simp; try with_reducible rfl
      try simp only [Act.put, List.setIfInBounds_toArray, List.set_cons_zero, List.set_cons_succ]
      refine wpAnyL_take (i := 14) (oi := { dst := some 33, op := Go.Op.load 3 (Go.Operand.tmp 32), type := 3, pos := "law.go:24", after := #[{ on := 13, ground := Go.Ground.data }], guard := none }) (v := ?v14_101) rfl (by kernel_rfl) (by kernel_rfl) (by kernel_rfl) (by kernel_rfl) (by kernel_rfl) (fun _ _ _ h => h) (Or.inl ⟨by rfl, ?y14_101⟩) hHeld ?r14_101
      case y14_101 => intro w hSw; (try dsimp only at hSw); obtain ⟨b0, b1, b2, b3, _⟩ := hSw.out.1.1.o4; obtain ⟨d0, d1, d2, d3, _⟩ := hSw.out.2.o4; have x0 := cell_later4 hSw.out.1.2.2 X0.out; have x1 := cell_later4 hSw.out.1.2.2 X1.out; have x2 := cell_later4 hSw.out.1.2.2 X2.out; have x3 := cell_later4 hSw.out.1.2.2 X3.out; have x4 := cell_later4 hSw.out.1.2.2 X4.out; have x5 := cell_later4 hSw.out.1.2.2 X5.out; go_simp; try with_reducible rfl
      try simp only [Act.put, List.setIfInBounds_toArray, List.set_cons_zero, List.set_cons_succ]
      refine wpAnyL_ready (rs := [8]) (by kernel_rfl) (by simp) ?_
      refine AllReadyL.cons (o := { dst := some 27, op := Go.Op.call { callee := Go.Callee.value (Go.Operand.func 32), args := #[Go.Operand.tmp 26], argTypes := #[39] }, type := 52, pos := "law.go:24", after := #[{ on := 7, ground := Go.Ground.data }], guard := none }) rfl (by decide) (fun K hK => ?_) AllReadyL.nil
      go_simp
      refine (plain_any sn st sk su da dl dc wd).mono ?_; rintro e wx1 ⟨rfl, hb⟩
      replace HO1 := Lib.hid (HO1.out.below hb)
      have HPE := Lib.hid (hHeld.out.below hb)
      clear hb
      go_wp2_with fail
      refine hK.out _ _ (HPE) (fun hHeld2 => ?_)
      clear hK K hHeld
      have hHeld := hHeld2
      clear hHeld2
      try simp only [Act.put, List.setIfInBounds_toArray, List.set_cons_zero, List.set_cons_succ]
      refine wpAnyL_take (i := 15) (oi := { dst := some 34, op := Go.Op.build 129 #[(0, Go.Operand.tmp 27), (1, Go.Operand.tmp 33)], type := 129, pos := "law.go:24", after := #[{ on := 8, ground := Go.Ground.data }, { on := 14, ground := Go.Ground.data }], guard := none }) (v := ?v15_102) rfl (by kernel_rfl) (by kernel_rfl) (by kernel_rfl) (by kernel_rfl) (by kernel_rfl) (fun _ _ _ h => h) (Or.inl ⟨by rfl, ?y15_102⟩) hHeld ?r15_102
      case y15_102 => intro w hSw; (try dsimp only at hSw); obtain ⟨b0, b1, b2, b3, _⟩ := hSw.out.1.1.o4; obtain ⟨d0, d1, d2, d3, _⟩ := hSw.out.2.o4; have x0 := cell_later4 hSw.out.1.2.2 X0.out; have x1 := cell_later4 hSw.out.1.2.2 X1.out; have x2 := cell_later4 hSw.out.1.2.2 X2.out; have x3 := cell_later4 hSw.out.1.2.2 X3.out; have x4 := cell_later4 hSw.out.1.2.2 X4.out; have x5 := cell_later4 hSw.out.1.2.2 X5.out; go_simp; try with_reducible rfl
      try simp only [Act.put, List.setIfInBounds_toArray, List.set_cons_zero, List.set_cons_succ]
      refine wpAnyL_ready (rs := [16]) (by kernel_rfl) (by simp) ?_
      refine AllReadyL.cons (o := { dst := some 35, op := Go.Op.buildSlice 92 1 #[(0, Go.Operand.tmp 34)], type := 92, pos := "law.go:24", after := #[{ on := 15, ground := Go.Ground.data }], guard := none }) rfl (by decide) (fun K hK => ?_) AllReadyL.nil
      go_simp
      have hb := (Below.refl _ _ : Below wx1.heap.size wx1 wx1).alloc (Nat.le_refl _) (.cells #[.string sn, .int .i64 st, .int .i64 sk, .int .i64 su, .slice da dl dc, .int .i64 rk] 129)
      have HCL := Lib.hid (cells_lit wx1 #[.string sn, .int .i64 st, .int .i64 sk, .int .i64 su, .slice da dl dc, .int .i64 rk] 129)
      replace HO1 := Lib.hid (HO1.out.below hb)
      have HPE2 := Lib.hid (hHeld.out.below hb)
      have HBA := Lib.hid (show q4 + 1 ≤ wx1.heap.size from hHeld.out.2.1)
      replace HBA := Lib.hid (Nat.le_trans HBA.out hb.size)
      clear hb
      obtain ⟨wx2, hwe⟩ : ∃ x, wx1.alloc (.cells #[.string sn, .int .i64 st, .int .i64 sk, .int .i64 su, .slice da dl dc, .int .i64 rk] 129) = x := ⟨_, rfl⟩
      obtain ⟨qe, hqe⟩ : ∃ x, wx1.heap.size = x := ⟨_, rfl⟩
      rw [hwe] at HCL HO1 HPE2 HBA ⊢
      rw [hqe] at HCL ⊢
      clear hwe hqe
      refine hK.out _ _ (HPE2) (fun hHeld2 => ?_)
      clear hK K hHeld
      have hHeld := hHeld2
      clear hHeld2
      try simp only [Act.put, List.setIfInBounds_toArray, List.set_cons_zero, List.set_cons_succ]
      refine wpAnyL_ready (rs := [17]) (by kernel_rfl) (by simp) ?_
      refine AllReadyL.cons (o := { dst := some 36, op := Go.Op.call { callee := Go.Callee.builtin Go.Builtin.append, args := #[Go.Operand.tmp 20, Go.Operand.tmp 35], argTypes := #[92, 92] }, type := 92, pos := "law.go:24", after := #[{ on := 1, ground := Go.Ground.data }, { on := 16, ground := Go.Ground.data }, { on := 8, ground := Go.Ground.chain }], guard := none }) rfl (by decide) (fun K hK => ?_) AllReadyL.nil
      refine step_append_cellsL (by rfl) _ _ 92 129 (by rfl) i0 _ 6 72 Try.underlying92 HI0.out HZ0.out HZ1.out HZ2.out rfl (by decide) (q4 + 1) _ m _ (by rfl) HO1.out (some ⟨qe, 0, none⟩) 1 1 (encTk ((⟨⟨sn, st, sk⟩, su, sd⟩, .slice da dl dc), rk)) (by rfl) (fun h => by cases h) HCL.out (encTk_one _ _ ⟨_, _, _, rfl⟩) (by have h1 := HNL.out; have h2 := HLT.out; omega) (by decide) HBA.out ?_
      intro v' w8 hown' hgrow'
      have HPE3 := Lib.hid (PlJ.grow hHeld.out HQ3.out HO1.out hgrow')
      have HO8 := Lib.hid (show OwD w8 (q4 + 1) v' (m + 1) (Lp ++ [((⟨⟨sn, st, sk⟩, su, sd⟩, .slice da dl dc), rk)]) by unfold OwD; rw [flatT_append]; simpa [flatT] using hown')
      clear hown' hgrow' HO1
      obtain ⟨a8, c8, hv8, -⟩ := HO8.out.shape
      subst hv8
      refine hK.out _ _ (HPE3) (fun hHeld2 => ?_)
      clear hK K hHeld
      have hHeld := hHeld2
      clear hHeld2
      try simp only [Act.put, List.setIfInBounds_toArray, List.set_cons_zero, List.set_cons_succ]
      refine wpAnyL_take (i := 18) (oi := { dst := some 37, op := Go.Op.fieldAddr 94 (Go.Operand.tmp 3) 2, type := 0, pos := "law.go:24", after := #[{ on := 0, ground := Go.Ground.phase }, { on := 1, ground := Go.Ground.phase }, { on := 2, ground := Go.Ground.phase }, { on := 3, ground := Go.Ground.phase }, { on := 4, ground := Go.Ground.phase }, { on := 5, ground := Go.Ground.phase }, { on := 6, ground := Go.Ground.phase }, { on := 7, ground := Go.Ground.phase }, { on := 8, ground := Go.Ground.phase }, { on := 9, ground := Go.Ground.phase }, { on := 10, ground := Go.Ground.phase }, { on := 11, ground := Go.Ground.phase }, { on := 12, ground := Go.Ground.phase }, { on := 13, ground := Go.Ground.phase }, { on := 14, ground := Go.Ground.phase }, { on := 15, ground := Go.Ground.phase }, { on := 16, ground := Go.Ground.phase }, { on := 17, ground := Go.Ground.phase }], guard := none }) (v := ?v18_104) rfl (by kernel_rfl) (by kernel_rfl) (by kernel_rfl) (by kernel_rfl) (by kernel_rfl) (fun _ _ _ h => h) (Or.inl ⟨by rfl, ?y18_104⟩) hHeld ?r18_104
      case y18_104 => intro w hSw; (try dsimp only at hSw); obtain ⟨b0, b1, b2, b3, _⟩ := hSw.out.1.1.o4; obtain ⟨d0, d1, d2, d3, _⟩ := hSw.out.2.o4; have x0 := cell_later4 hSw.out.1.2.2 X0.out; have x1 := cell_later4 hSw.out.1.2.2 X1.out; have x2 := cell_later4 hSw.out.1.2.2 X2.out; have x3 := cell_later4 hSw.out.1.2.2 X3.out; have x4 := cell_later4 hSw.out.1.2.2 X4.out; have x5 := cell_later4 hSw.out.1.2.2 X5.out; go_simp; try with_reducible rfl
      try simp only [Act.put, List.setIfInBounds_toArray, List.set_cons_zero, List.set_cons_succ]
      refine wpAnyL_ready (rs := [19]) (by kernel_rfl) (by simp) ?_
      refine AllReadyL.last (o := { dst := none, op := Go.Op.store 92 (Go.Operand.tmp 37) (Go.Operand.tmp 36), type := 0, pos := "law.go:24", after := #[{ on := 18, ground := Go.Ground.data }, { on := 17, ground := Go.Ground.data }, { on := 17, ground := Go.Ground.chain }, { on := 0, ground := Go.Ground.phase }, { on := 1, ground := Go.Ground.phase }, { on := 2, ground := Go.Ground.phase }, { on := 3, ground := Go.Ground.phase }, { on := 4, ground := Go.Ground.phase }, { on := 5, ground := Go.Ground.phase }, { on := 6, ground := Go.Ground.phase }, { on := 7, ground := Go.Ground.phase }, { on := 8, ground := Go.Ground.phase }, { on := 9, ground := Go.Ground.phase }, { on := 10, ground := Go.Ground.phase }, { on := 11, ground := Go.Ground.phase }, { on := 12, ground := Go.Ground.phase }, { on := 13, ground := Go.Ground.phase }, { on := 14, ground := Go.Ground.phase }, { on := 15, ground := Go.Ground.phase }, { on := 16, ground := Go.Ground.phase }, { on := 17, ground := Go.Ground.phase }], guard := none }) rfl (by decide) (fun K hK => ?_) AllReadyL.nil
      obtain ⟨d0, d1, d2, d3, e0, e1, e2, e3⟩ := HPE3.out.2.o4
      go_wp2_with fail
      refine hK.out _ _ trivial (fun _ => ?_)
      clear hK K
      try simp only [Act.put, List.setIfInBounds_toArray, List.set_cons_zero, List.set_cons_succ]
      refine wpAnyL_done (by kernel_rfl) ?_ _
      have hgz := grown_cell w8 q4 2 (.slice a8 (m + 1) c8)
      have C3Z := Lib.hid (show CN (w8.setCell ⟨q4, 2, none⟩ (.slice a8 (m + 1) c8)) q4 [.int .i64 ok, .int .i64 ot, .slice a8 (m + 1) c8, .string ox] from HPE3.out.2.set 2 (by simp) (.slice a8 (m + 1) c8))
      have HPZ := Lib.hid (HPE3.out.1.set hgz HQ3.out)
      have HOZ := Lib.hid (HO8.out.far hgz (Nat.lt_succ_self _))
      have HDZ := Lib.hid (plain_data HD.out (show w.ownsRow B 9 1 (.slice da dl dc) (⟨⟨sn, st, sk⟩, su, sd⟩ : SetP).data.length (sc sd) by rw [show (⟨⟨sn, st, sk⟩, su, sd⟩ : SetP).data.length = dl from HDL.out]; exact HOR.out) rk)
      clear hgz
      have hmn := HNL.out
      have hlt9 := HLT.out
      go_wp2
      go_roundw
      case rel => exact ⟨m + 1, m + 1, (.slice a8 (m + 1) c8), Lp ++ [((⟨⟨sn, st, sk⟩, su, sd⟩, .slice da dl dc), rk)], by have := HLT.out; omega, rfl, by have := HLT.out; go_num, Lib.hid (by rw [List.length_append, HPL.out]; rfl), Lib.hid (by rw [List.map_append, HPM.out, List.take_add_one, HLK.out]; rfl), C3Z, HOZ, HDZ, HPZ⟩
      case measure => have := HLT.out; simp [intOf]; omega
    · obtain rfl : m = n := by omega
      have HC2 := Lib.hid HP.out.2.1
      have HB := Lib.hid HP.out.2.2
      obtain ⟨va, vc, hva, hvn⟩ := HO.out.shape
      subst hva
      have HRN := Lib.hid hvn
      clear hlt hk hvn
      obtain ⟨d0, d1, d2, d3, _⟩ := C3.out.o4
      go_upto_region 6 with (fail)
      clear b0 b1 b2 b3
      obtain ⟨y0, y1, y2, y3, g0, g1, g2, g3⟩ := HC2.out.o4
      have KZ := Lib.hid (HC2.out.p4 (.int .i64 ok) (.int .i64 ot) (.slice va m vc) (.string ox))
      have HGZ := Lib.hid (grown_p4 wr q3 (.int .i64 ok) (.int .i64 ot) (.slice va m vc) (.string ox))
      have HBZ := Lib.hid (HB.out.grown HGZ.out HB.out.size (fun k hk => by injection hk with hk; rw [← hk]; exact HQZ.out))
      have HOZ := Lib.hid (HO.out.far HGZ.out (by have := HQ3.out; omega))
      repeat go_step
      obtain ⟨wz, hwz⟩ : ∃ x, ((((wr.setCell ⟨q3, 0, none⟩ (.int .i64 ok)).setCell ⟨q3, 1, none⟩ (.int .i64 ot)).setCell ⟨q3, 2, none⟩ (.slice va m vc)).setCell ⟨q3, 3, none⟩ (.string ox)) = x := ⟨_, rfl⟩
      rw [hwz] at KZ HBZ HOZ ⊢
      clear hwz HGZ y0 y1 y2 y3 g0 g1 g2 g3
      obtain ⟨z0, z1, z2, z3, _⟩ := KZ.out.o4
      refine bodyPost_ret (v := .agg #[.int .i64 ok, .int .i64 ot, .slice va m vc, .string ox]) (by simp [results, Try.results42, go_sem, z0, z1, z2, z3]) rfl ⟨⟨_, rfl, va, m, vc, rfl, plain_row HOZ.out HPL.out HD.out (show B ≤ q4 + 1 by have h1 := HBW.out; have h2 := HQ3.out; omega) HBZ.out (by have h := HPM.out; rw [List.take_of_length_le (by rw [HLN.out]; exact Nat.le_refl _)] at h; exact h), HRN.out⟩, HBZ.out⟩
end Go.Proofs.Ythfnphcefkdgbaa
