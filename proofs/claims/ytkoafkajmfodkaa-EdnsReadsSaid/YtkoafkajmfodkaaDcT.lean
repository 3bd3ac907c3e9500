/- The document's Strip. -/
import Derived.Test.YtkoafkajmfodkaaDcG
import Derived.Test.YtkoafkajmfodkaaTB
import Derived.Test.YtkoafkajmfodkaaLst
import Derived.Test.YtkoafkajmfodkaaWth
namespace Go.Proofs.Ytkoafkajmfodkaa
open Go.RowKit

theorem cell_bel {w w' : World} (hb : Below w.heap.size w w') {a : Addr} {v : Value} (h : w.cell? a = some v) : w'.cell? a = some v := (hb.cell (p := a) (World.block_lt_of_cell? w a h)).trans h
theorem grown_over {w3 wr w6 : World} {q3 : Nat} {row : Option Nat} (h : w3.grownBy wr (some q3)) (hg : wr.grownBy w6 row) (hr : ∀ k, row = some k → w3.heap.size ≤ k ∨ k = q3) : w3.grownBy w6 (some q3) :=
  ⟨hg.os.trans h.os, hg.tape.trans h.tape, hg.output.trans h.output, Nat.le_trans h.size hg.size, fun k hk hne => (hg.block k (Nat.lt_of_lt_of_le hk h.size) (fun e => by
    rcases hr k e.symm with h1 | h1
    · omega
    · exact hne (by rw [h1]))).trans (h.block k hk hne)⟩
/-- A message of the call's own; its last section stands above the others. -/
def MsgOw2 (w : World) (B : Nat) (v : Value) (m : MsgP) : Prop := ∃ (B' : Nat) (qa : Option Addr) (qc : Nat) (na : Option Addr) (nc : Nat) (sa : Option Addr) (sc : Nat) (xa : Option Addr) (xc : Nat), v = .agg #[.int .i64 m.i, .int .i64 m.o, .int .i64 m.r, .bool m.b1, .bool m.b2, .bool m.b3, .bool m.b4, .bool m.b5, .slice qa m.q.length qc, .slice na m.a.length nc, .slice sa m.n.length sc, .slice xa m.x.length xc] ∧ B ≤ B' ∧ B' ≤ w.heap.size ∧ w.ownsRow B 70 3 (.slice qa m.q.length qc) m.q.length (flatQ m.q) ∧ w.ownsRow B 75 5 (.slice na m.a.length nc) m.a.length (flatR m.a) ∧ w.ownsRow B 75 5 (.slice sa m.n.length sc) m.n.length (flatR m.n) ∧ w.ownsRow B' 75 5 (.slice xa m.x.length xc) m.x.length (flatR m.x) ∧ (∀ k, (Value.slice qa m.q.length qc).ownBlock = some k → k < B') ∧ (∀ k, (Value.slice na m.a.length nc).ownBlock = some k → k < B') ∧ (∀ k, (Value.slice sa m.n.length sc).ownBlock = some k → k < B')
theorem msgOw2_mk {w : World} {B B' : Nat} {mi mo mr : Int} {b1 b2 b3 b4 b5 : Bool} {qa na sa xa : Option Addr} {ql qc nl nc sl sc xl xc : Nat} {Q : List Ky} {A N X : List R5} (e1 : Q.length = ql) (e2 : A.length = nl) (e3 : N.length = sl) (e4 : X.length = xl) (hB : B ≤ B') (hB' : B' ≤ w.heap.size) (h1 : w.ownsRow B 70 3 (.slice qa ql qc) ql (flatQ Q)) (h2 : w.ownsRow B 75 5 (.slice na nl nc) nl (flatR A)) (h3 : w.ownsRow B 75 5 (.slice sa sl sc) sl (flatR N)) (h4 : w.ownsRow B' 75 5 (.slice xa xl xc) xl (flatR X)) (g1 : ∀ k, (Value.slice qa ql qc).ownBlock = some k → k < B') (g2 : ∀ k, (Value.slice na nl nc).ownBlock = some k → k < B') (g3 : ∀ k, (Value.slice sa sl sc).ownBlock = some k → k < B') : MsgOw2 w B (.agg #[.int .i64 mi, .int .i64 mo, .int .i64 mr, .bool b1, .bool b2, .bool b3, .bool b4, .bool b5, .slice qa ql qc, .slice na nl nc, .slice sa sl sc, .slice xa xl xc]) ⟨mi, mo, mr, b1, b2, b3, b4, b5, Q, A, N, X⟩ := by
  subst e1 e2 e3 e4
  exact ⟨B', qa, qc, na, nc, sa, sc, xa, xc, rfl, hB, hB', h1, h2, h3, h4, g1, g2, g3⟩
theorem MsgOw2.own {w : World} {B : Nat} {v : Value} {m : MsgP} (h : MsgOw2 w B v m) : MsgOwn w B v m := by
  obtain ⟨B', qa, qc, na, nc, sa, sc, xa, xc, hv, hB, hB', h1, h2, h3, h4, _, _, _⟩ := h
  exact ⟨qa, qc, na, nc, sa, sc, xa, xc, hv, h1, h2, h3, own_mono4 h4 hB⟩
theorem own_lowB {w w' : World} {B B' n size : Nat} {e : TypeId} {v : Value} {xs : List Value} (h : w.ownsRow B e size v n xs) (hlt : ∀ k, v.ownBlock = some k → k < B') (hb : Below B' w w') : w'.ownsRow B e size v n xs := by
  refine ⟨h.1, ?_⟩
  rcases h.2 with h0 | ⟨g, cap, cur, rfl, h1, hg, h2⟩
  · exact Or.inl h0
  · exact Or.inr ⟨g, cap, cur, rfl, h1, (hb.block g (hlt g rfl)).trans hg, h2⟩
/-- The message that is made, in its block. -/
def StC (w2 : World) (mi mo mr : Int) (b1 b2 b3 b4 b5 : Bool) (ql nl sl : Nat) (Q : List Ky) (A N : List R5) (v : Value) (wx : World) : Prop := ∃ (q3 : Nat) (qa2 na2 sa2 : Option Addr) (qc2 nc2 sc2 : Nat), v = .pointer (some ⟨q3, 0, none⟩) ∧ w2.heap.size ≤ q3 ∧ CN wx q3 [.int .i64 mi, .int .i64 mo, .int .i64 mr, .bool b1, .bool b2, .bool b3, .bool b4, .bool b5, .slice qa2 ql qc2, .slice na2 nl nc2, .slice sa2 sl sc2, .slice none 0 0] ∧ TB wx q3 32 ∧ wx.ownsRow w2.heap.size 70 3 (.slice qa2 ql qc2) ql (flatQ Q) ∧ wx.ownsRow w2.heap.size 75 5 (.slice na2 nl nc2) nl (flatR A) ∧ wx.ownsRow w2.heap.size 75 5 (.slice sa2 sl sc2) sl (flatR N) ∧ Below w2.heap.size w2 wx

set_option maxRecDepth 100000 in
set_option maxHeartbeats 8000000 in
theorem stripD_ex (mi mo mr : Int) (b1 b2 b3 b4 b5 : Bool) (qa na sa xa : Option Addr) (ql qc nl nc sl sc xl xc : Nat) (Q : List Ky) (A N X : List R5) (w : World) (hq : RowQ w qa ql Q) (hqn : qa = none → ql = 0 ∧ qc = 0) (ha : RowR w na nl A) (han : na = none → nl = 0 ∧ nc = 0) (hn : RowR w sa sl N) (hnn : sa = none → sl = 0 ∧ sc = 0) (hx : RowR w xa xl X) (hql : ql ≤ 100000) (hnl : nl ≤ 100000) (hsl : sl ≤ 100000) (hxl : xl ≤ 100000) :
    Calls Try.prog 51 #[.agg #[.int .i64 mi, .int .i64 mo, .int .i64 mr, .bool b1, .bool b2, .bool b3, .bool b4, .bool b5, .slice qa ql qc, .slice na nl nc, .slice sa sl sc, .slice xa xl xc]] w fun e w' => ∃ v', e = .returned v' ∧ MsgOw2 w' w.heap.size v' ⟨mi, mo, mr, b1, b2, b3, b4, b5, Q, A, N, keepR optB X⟩ ∧ Below w.heap.size w w' := by
  obtain ⟨i0, hi, hz0, hz1, hz2⟩ := info_parts infoQ
  have HI := Lib.hid hi
  have HZ0 := Lib.hid hz0
  have HZ1 := Lib.hid hz1
  have HZ2 := Lib.hid hz2
  have h1 := (Below.refl w.heap.size w).alloc (Nat.le_refl _) (.cells #[.int .i64 mi, .int .i64 mo, .int .i64 mr, .bool b1, .bool b2, .bool b3, .bool b4, .bool b5, .slice qa ql qc, .slice na nl nc, .slice sa sl sc, .slice xa xl xc] 32)
  have h2 := (Below.refl _ (w.alloc (.cells #[.int .i64 mi, .int .i64 mo, .int .i64 mr, .bool b1, .bool b2, .bool b3, .bool b4, .bool b5, .slice qa ql qc, .slice na nl nc, .slice sa sl sc, .slice xa xl xc] 32))).alloc (Nat.le_refl _) (.cells #[.int .i64 0, .int .i64 0, .int .i64 0, .bool false, .bool false, .bool false, .bool false, .bool false, .slice none 0 0, .slice none 0 0, .slice none 0 0, .slice none 0 0] 32)
  have hbw := h1.trans (h2.mono h1.size)
  have c1 := (CN.new w #[.int .i64 mi, .int .i64 mo, .int .i64 mr, .bool b1, .bool b2, .bool b3, .bool b4, .bool b5, .slice qa ql qc, .slice na nl nc, .slice sa sl sc, .slice xa xl xc] 32).below h2
  have c2 := CN.new (w.alloc (.cells #[.int .i64 mi, .int .i64 mo, .int .i64 mr, .bool b1, .bool b2, .bool b3, .bool b4, .bool b5, .slice qa ql qc, .slice na nl nc, .slice sa sl sc, .slice xa xl xc] 32)) #[.int .i64 0, .int .i64 0, .int .i64 0, .bool false, .bool false, .bool false, .bool false, .bool false, .slice none 0 0, .slice none 0 0, .slice none 0 0, .slice none 0 0] 32
  have t2 := TB.new (w.alloc (.cells #[.int .i64 mi, .int .i64 mo, .int .i64 mr, .bool b1, .bool b2, .bool b3, .bool b4, .bool b5, .slice qa ql qc, .slice na nl nc, .slice sa sl sc, .slice xa xl xc] 32)) #[.int .i64 0, .int .i64 0, .int .i64 0, .bool false, .bool false, .bool false, .bool false, .bool false, .slice none 0 0, .slice none 0 0, .slice none 0 0, .slice none 0 0] 32
  rw [World.size_alloc] at c2 t2
  have HB2 := Lib.hid hbw
  have HQI := Lib.hid (hq.below hbw)
  have HAI := Lib.hid (ha.below hbw)
  have HNI := Lib.hid (hn.below hbw)
  have HXI := Lib.hid (hx.below hbw)
  have HQL := Lib.hid hq.1
  have HAL := Lib.hid ha.1
  have HNL := Lib.hid hn.1
  have HXL := Lib.hid hx.1
  have HQN := Lib.hid hqn
  have HAN := Lib.hid han
  have HNN := Lib.hid hnn
  clear h1 h2 hbw hq hqn ha han hn hnn hx hi hz0 hz1 hz2
  go_enter Try.func51, Try.ntmps51
  go_upto_region 1 with fail
  obtain ⟨w2, hw2⟩ : ∃ x, (w.alloc (.cells #[.int .i64 mi, .int .i64 mo, .int .i64 mr, .bool b1, .bool b2, .bool b3, .bool b4, .bool b5, .slice qa ql qc, .slice na nl nc, .slice sa sl sc, .slice xa xl xc] 32)).alloc (.cells #[.int .i64 0, .int .i64 0, .int .i64 0, .bool false, .bool false, .bool false, .bool false, .bool false, .slice none 0 0, .slice none 0 0, .slice none 0 0, .slice none 0 0] 32) = x := ⟨_, rfl⟩
  obtain ⟨q1, hq1⟩ : ∃ x, w.heap.size = x := ⟨_, rfl⟩
  obtain ⟨q2, hq2⟩ : ∃ x, q1 + 1 = x := ⟨_, rfl⟩
  rw [hw2] at c1 c2 t2 HB2 HQI HAI HNI HXI ⊢
  rw [hq1] at c1 c2 t2
  rw [hq2] at c2 t2
  rw [show (Value.pointer (some { block := w.heap.size, off := 0 })) = Value.pointer (some { block := q1, off := 0 }) by rw [hq1], show (Value.pointer (some { block := w.heap.size + 1, off := 0 })) = Value.pointer (some { block := q2, off := 0 }) by rw [hq1, hq2]]
  have HQB := Lib.hid (show w.heap.size ≤ q2 ∧ q2 < w2.heap.size by exact ⟨by omega, c2.1⟩)
  have hfix : Fix w2 [(⟨q1, 0, none⟩, .int .i64 mi), (⟨q1, 1, none⟩, .int .i64 mo), (⟨q1, 2, none⟩, .int .i64 mr), (⟨q1, 3, none⟩, .bool b1), (⟨q1, 4, none⟩, .bool b2), (⟨q1, 5, none⟩, .bool b3), (⟨q1, 6, none⟩, .bool b4), (⟨q1, 7, none⟩, .bool b5), (⟨q1, 8, none⟩, .slice qa ql qc), (⟨q1, 9, none⟩, .slice na nl nc), (⟨q1, 10, none⟩, .slice sa sl sc), (⟨q1, 11, none⟩, .slice xa xl xc)] w2 := Fix.start (by
    intro c hc
    obtain ⟨y0, y1, y2, y3, y4, y5, y6, y7, y8, y9, y10, y11, _⟩ := c1.u12
    simp only [List.mem_cons, List.not_mem_nil, or_false] at hc
    rcases hc with rfl | rfl | rfl | rfl | rfl | rfl | rfl | rfl | rfl | rfl | rfl | rfl
    · exact ⟨c1.1, y0⟩
    · exact ⟨c1.1, y1⟩
    · exact ⟨c1.1, y2⟩
    · exact ⟨c1.1, y3⟩
    · exact ⟨c1.1, y4⟩
    · exact ⟨c1.1, y5⟩
    · exact ⟨c1.1, y6⟩
    · exact ⟨c1.1, y7⟩
    · exact ⟨c1.1, y8⟩
    · exact ⟨c1.1, y9⟩
    · exact ⟨c1.1, y10⟩
    · exact ⟨c1.1, y11⟩)
  have HFX := Lib.hid hfix.drew.all12
  have HSZ := Lib.hid (show w.heap.size ≤ w2.heap.size from HB2.out.size)
  have C1 := Lib.hid c1
  have C2 := Lib.hid c2
  have T2 := Lib.hid t2
  clear hfix c1 c2 t2 hw2 hq1 hq2
  go_cut [3] (fun v wx => StC w2 mi mo mr b1 b2 b3 b4 b5 ql nl sl Q A N v wx)
  case first =>
    refine wp_region_held_drew (S := (fun wx => Hid (Fix w2 [(⟨q1, 0, none⟩, .int .i64 mi), (⟨q1, 1, none⟩, .int .i64 mo), (⟨q1, 2, none⟩, .int .i64 mr), (⟨q1, 3, none⟩, .bool b1), (⟨q1, 4, none⟩, .bool b2), (⟨q1, 5, none⟩, .bool b3), (⟨q1, 6, none⟩, .bool b4), (⟨q1, 7, none⟩, .bool b5), (⟨q1, 8, none⟩, .slice qa ql qc), (⟨q1, 9, none⟩, .slice na nl nc), (⟨q1, 10, none⟩, .slice sa sl sc), (⟨q1, 11, none⟩, .slice xa xl xc)] wx) ∧ wx.cell? ⟨q1, 0, none⟩ = some (.int .i64 mi) ∧ wx.cell? ⟨q1, 1, none⟩ = some (.int .i64 mo) ∧ wx.cell? ⟨q1, 2, none⟩ = some (.int .i64 mr) ∧ wx.cell? ⟨q1, 3, none⟩ = some (.bool b1) ∧ wx.cell? ⟨q1, 4, none⟩ = some (.bool b2) ∧ wx.cell? ⟨q1, 5, none⟩ = some (.bool b3) ∧ wx.cell? ⟨q1, 6, none⟩ = some (.bool b4) ∧ wx.cell? ⟨q1, 7, none⟩ = some (.bool b5) ∧ wx.cell? ⟨q1, 8, none⟩ = some (.slice qa ql qc) ∧ wx.cell? ⟨q1, 9, none⟩ = some (.slice na nl nc) ∧ wx.cell? ⟨q1, 10, none⟩ = some (.slice sa sl sc) ∧ wx.cell? ⟨q1, 11, none⟩ = some (.slice xa xl xc))) (by kernel_rfl) (HFX.out) (fun hHeld => ?_)
    obtain ⟨wd, hwd⟩ : ∃ x, w2.drew = x := ⟨_, rfl⟩
    rw [hwd] at hHeld ⊢
    clear hwd
    refine wpAnyH_take (i := 0) (oi := { dst := some 5, op := Go.Op.fieldAddr 32 (Go.Operand.tmp 1) 0, type := 0, pos := "ref.go:361", after := #[], guard := none }) (v := ?v0_110101) rfl (by kernel_rfl) (by kernel_rfl) (by kernel_rfl) (fun _ _ _ h => h) (Or.inl ⟨by rfl, ?y0_110101⟩) hHeld ?r0_110101
    case y0_110101 => intro w hSw; (try dsimp only at hSw); go_simp; try with_reducible rfl
    try simp only [Act.put, List.setIfInBounds_toArray, List.set_cons_zero, List.set_cons_succ]
    refine wpAnyH_take (i := 1) (oi := { dst := some 6, op := Go.Op.load 30 (Go.Operand.tmp 5), type := 30, pos := "ref.go:361", after := #[{ on := 0, ground := Go.Ground.data }], guard := none }) (v := ?v1_110101) rfl (by kernel_rfl) (by kernel_rfl) (by kernel_rfl) (fun _ _ _ h => h) (Or.inl ⟨by rfl, ?y1_110101⟩) hHeld ?r1_110101
    case y1_110101 => intro w hSw; (try dsimp only at hSw); go_simp; try with_reducible rfl
    try simp only [Act.put, List.setIfInBounds_toArray, List.set_cons_zero, List.set_cons_succ]
    refine wpAnyH_take (i := 3) (oi := { dst := some 8, op := Go.Op.fieldAddr 32 (Go.Operand.tmp 1) 1, type := 0, pos := "ref.go:361", after := #[], guard := none }) (v := ?v3_110101) rfl (by kernel_rfl) (by kernel_rfl) (by kernel_rfl) (fun _ _ _ h => h) (Or.inl ⟨by rfl, ?y3_110101⟩) hHeld ?r3_110101
    case y3_110101 => intro w hSw; (try dsimp only at hSw); go_simp; try with_reducible rfl
    try simp only [Act.put, List.setIfInBounds_toArray, List.set_cons_zero, List.set_cons_succ]
    refine wpAnyH_take (i := 4) (oi := { dst := some 9, op := Go.Op.load 24 (Go.Operand.tmp 8), type := 24, pos := "ref.go:361", after := #[{ on := 3, ground := Go.Ground.data }], guard := none }) (v := ?v4_110101) rfl (by kernel_rfl) (by kernel_rfl) (by kernel_rfl) (fun _ _ _ h => h) (Or.inl ⟨by rfl, ?y4_110101⟩) hHeld ?r4_110101
    case y4_110101 => intro w hSw; (try dsimp only at hSw); go_simp; try with_reducible rfl
    try simp only [Act.put, List.setIfInBounds_toArray, List.set_cons_zero, List.set_cons_succ]
    refine wpAnyH_take (i := 6) (oi := { dst := some 11, op := Go.Op.fieldAddr 32 (Go.Operand.tmp 1) 2, type := 0, pos := "ref.go:361", after := #[], guard := none }) (v := ?v6_110101) rfl (by kernel_rfl) (by kernel_rfl) (by kernel_rfl) (fun _ _ _ h => h) (Or.inl ⟨by rfl, ?y6_110101⟩) hHeld ?r6_110101
    case y6_110101 => intro w hSw; (try dsimp only at hSw); go_simp; try with_reducible rfl
    try simp only [Act.put, List.setIfInBounds_toArray, List.set_cons_zero, List.set_cons_succ]
    refine wpAnyH_take (i := 7) (oi := { dst := some 12, op := Go.Op.load 25 (Go.Operand.tmp 11), type := 25, pos := "ref.go:361", after := #[{ on := 6, ground := Go.Ground.data }], guard := none }) (v := ?v7_110101) rfl (by kernel_rfl) (by kernel_rfl) (by kernel_rfl) (fun _ _ _ h => h) (Or.inl ⟨by rfl, ?y7_110101⟩) hHeld ?r7_110101
    case y7_110101 => intro w hSw; (try dsimp only at hSw); go_simp; try with_reducible rfl
    try simp only [Act.put, List.setIfInBounds_toArray, List.set_cons_zero, List.set_cons_succ]
    refine wpAnyH_take (i := 9) (oi := { dst := some 14, op := Go.Op.fieldAddr 32 (Go.Operand.tmp 1) 3, type := 0, pos := "ref.go:361", after := #[], guard := none }) (v := ?v9_110101) rfl (by kernel_rfl) (by kernel_rfl) (by kernel_rfl) (fun _ _ _ h => h) (Or.inl ⟨by rfl, ?y9_110101⟩) hHeld ?r9_110101
    case y9_110101 => intro w hSw; (try dsimp only at hSw); go_simp; try with_reducible rfl
    try simp only [Act.put, List.setIfInBounds_toArray, List.set_cons_zero, List.set_cons_succ]
    refine wpAnyH_take (i := 10) (oi := { dst := some 15, op := Go.Op.load 25 (Go.Operand.tmp 14), type := 25, pos := "ref.go:361", after := #[{ on := 9, ground := Go.Ground.data }], guard := none }) (v := ?v10_110101) rfl (by kernel_rfl) (by kernel_rfl) (by kernel_rfl) (fun _ _ _ h => h) (Or.inl ⟨by rfl, ?y10_110101⟩) hHeld ?r10_110101
    case y10_110101 => intro w hSw; (try dsimp only at hSw); go_simp; try with_reducible rfl
    try simp only [Act.put, List.setIfInBounds_toArray, List.set_cons_zero, List.set_cons_succ]
    refine wpAnyH_ready (rs := [2, 13]) (by kernel_rfl) (by simp) ?_
    refine AllReadyH.cons (o := { dst := some 7, op := Go.Op.buildSlice 24 0 #[], type := 24, pos := "ref.go:361", after := #[], guard := none }) rfl (fun K hK => ?_) (AllReadyH.cons (o := { dst := some 3, op := Go.Op.alloc 32, type := 0, pos := "ref.go:361", after := #[], guard := none }) rfl (fun K hK => ?_) AllReadyH.nil)
    · go_simp
      have hba := (Below.refl _ _ : Below wd.heap.size wd wd).alloc (Nat.le_refl _) (.cells #[] 70)
      have H0 := Lib.hid (own_mono4 (World.ownsRow_made (e := 70) (size := 3) wd #[] 0 (Nat.le_refl _) (by decide) rfl) (show w2.heap.size ≤ wd.heap.size from hHeld.1.out.1.size))
      have hsz : w2.heap.size ≤ wd.heap.size := hHeld.1.out.1.size
      obtain ⟨wa1, hwe⟩ : ∃ x, wd.alloc (.cells #[] 70) = x := ⟨_, rfl⟩
      rw [hwe] at hba H0 ⊢
      have hb := hba
      clear hba hwe
      obtain ⟨g0, hg0⟩ : ∃ x, wd.heap.size = x := ⟨_, rfl⟩
      rw [hg0] at H0 ⊢
      have HG0 := Lib.hid hg0
      clear hsz hg0
      refine hK.out _ _ (Fix.next12 hb hHeld) (fun hHeld2 => ?_)
      clear hK K hHeld
      have hHeld := hHeld2
      clear hHeld2
      try simp only [Act.put, List.setIfInBounds_toArray, List.set_cons_zero, List.set_cons_succ]
      refine wpAnyH_ready (rs := [5, 13]) (by kernel_rfl) (by simp) ?_
      refine AllReadyH.cons (o := { dst := some 10, op := Go.Op.call { callee := Go.Callee.builtin Go.Builtin.append, args := #[Go.Operand.tmp 7, Go.Operand.tmp 9], argTypes := #[24, 24] }, type := 24, pos := "ref.go:361", after := #[{ on := 2, ground := Go.Ground.data }, { on := 4, ground := Go.Ground.data }], guard := none }) rfl (fun K hK => ?_) (AllReadyH.cons (o := { dst := some 3, op := Go.Op.alloc 32, type := 0, pos := "ref.go:361", after := #[], guard := none }) rfl (fun K hK => ?_) AllReadyH.nil)
      · refine step_append_cellsK (by rfl) _ _ 24 70 (by rfl) i0 _ 3 32 Try.underlying24 HI.out HZ0.out HZ1.out HZ2.out rfl (by decide) w2.heap.size _ 0 _ (by rfl) H0.out qa ql qc (flatQ Q) (by rfl) HQN.out (HQI.out.below hHeld.1.out.1).2 (flatQ_one Q) (by omega) (by decide) hHeld.1.out.1.size ?_
        intro v5 wa2 hown hgrow
        rw [Nat.zero_add, List.nil_append] at hown
        obtain ⟨qa2, qc2, rfl, -⟩ := rowQ_own hown
        have HQ := Lib.hid hown
        have hrow : ∀ k, (Value.slice (some ⟨g0, 0, none⟩) 0 0).ownBlock = some k → w2.heap.size ≤ k := fun k hk => (H0.out.lt k hk).1
        clear hown H0
        refine hK.out _ _ ((Fix.grown hHeld.1.out hgrow hrow).all12) (fun hHeld2 => ?_)
        clear hK K hHeld
        have hHeld := hHeld2
        clear hHeld2
        try simp only [Act.put, List.setIfInBounds_toArray, List.set_cons_zero, List.set_cons_succ]
        refine wpAnyH_ready (rs := [8, 13]) (by kernel_rfl) (by simp) ?_
        refine AllReadyH.cons (o := { dst := some 13, op := Go.Op.call { callee := Go.Callee.value (Go.Operand.func 16), args := #[Go.Operand.tmp 12], argTypes := #[25] }, type := 25, pos := "ref.go:361", after := #[{ on := 7, ground := Go.Ground.data }, { on := 5, ground := Go.Ground.chain }], guard := none }) rfl (fun K hK => ?_) (AllReadyH.cons (o := { dst := some 3, op := Go.Op.alloc 32, type := 0, pos := "ref.go:361", after := #[], guard := none }) rfl (fun K hK => ?_) AllReadyH.nil)
        · go_simp
          refine (copyRR5 na nl nc A _ (HAI.out.below hHeld.1.out.1) HAN.out hnl).mono ?_; rintro e wa3 ⟨v8, rfl, ho, hb⟩
          obtain ⟨na2, nc2, rfl, -⟩ := rowR_own ho
          have HA := Lib.hid (own_mono4 ho (show w2.heap.size ≤ wa2.heap.size from hHeld.1.out.1.size))
          replace HQ := Lib.hid (own_below' HQ.out hb)
          clear ho
          go_wp2_with fail
          refine hK.out _ _ (Fix.next12 hb hHeld) (fun hHeld2 => ?_)
          clear hK K hHeld
          have hHeld := hHeld2
          clear hHeld2
          try simp only [Act.put, List.setIfInBounds_toArray, List.set_cons_zero, List.set_cons_succ]
          refine wpAnyH_ready (rs := [11, 13]) (by kernel_rfl) (by simp) ?_
          refine AllReadyH.cons (o := { dst := some 16, op := Go.Op.call { callee := Go.Callee.value (Go.Operand.func 16), args := #[Go.Operand.tmp 15], argTypes := #[25] }, type := 25, pos := "ref.go:361", after := #[{ on := 10, ground := Go.Ground.data }, { on := 8, ground := Go.Ground.chain }], guard := none }) rfl (fun K hK => ?_) (AllReadyH.cons (o := { dst := some 3, op := Go.Op.alloc 32, type := 0, pos := "ref.go:361", after := #[], guard := none }) rfl (fun K hK => ?_) AllReadyH.nil)
          · go_simp
            refine (copyRR5 sa sl sc N _ (HNI.out.below hHeld.1.out.1) HNN.out hsl).mono ?_; rintro e wa4 ⟨v11, rfl, ho, hb⟩
            obtain ⟨sa2, sc2, rfl, -⟩ := rowR_own ho
            have HN := Lib.hid (own_mono4 ho (show w2.heap.size ≤ wa3.heap.size from hHeld.1.out.1.size))
            replace HQ := Lib.hid (own_below' HQ.out hb)
            replace HA := Lib.hid (own_below' HA.out hb)
            clear ho
            go_wp2_with fail
            refine hK.out _ _ (Fix.next12 hb hHeld) (fun hHeld2 => ?_)
            clear hK K hHeld
            have hHeld := hHeld2
            clear hHeld2
            try simp only [Act.put, List.setIfInBounds_toArray, List.set_cons_zero, List.set_cons_succ]
            refine wpAnyH_take (i := 12) (oi := { dst := some 17, op := Go.Op.build 32 #[(0, Go.Operand.tmp 6), (1, Go.Operand.tmp 10), (2, Go.Operand.tmp 13), (3, Go.Operand.tmp 16)], type := 32, pos := "ref.go:361", after := #[{ on := 1, ground := Go.Ground.data }, { on := 5, ground := Go.Ground.data }, { on := 8, ground := Go.Ground.data }, { on := 11, ground := Go.Ground.data }], guard := none }) (v := ?v12_110105) rfl (by kernel_rfl) (by kernel_rfl) (by kernel_rfl) (fun _ _ _ h => h) (Or.inl ⟨by rfl, ?y12_110105⟩) hHeld ?r12_110105
            case y12_110105 => intro w hSw; (try dsimp only at hSw); go_simp; try with_reducible rfl
            try simp only [Act.put, List.setIfInBounds_toArray, List.set_cons_zero, List.set_cons_succ]
            refine wpAnyH_ready (rs := [13]) (by kernel_rfl) (by simp) ?_
            refine AllReadyH.cons (o := { dst := some 3, op := Go.Op.alloc 32, type := 0, pos := "ref.go:361", after := #[], guard := none }) rfl (fun K hK => ?_) AllReadyH.nil
            go_simp
            have hba := (Below.refl _ _ : Below wa4.heap.size wa4 wa4).alloc (Nat.le_refl _) (.cells #[.int .i64 0, .int .i64 0, .int .i64 0, .bool false, .bool false, .bool false, .bool false, .bool false, .slice none 0 0, .slice none 0 0, .slice none 0 0, .slice none 0 0] 32)
            replace HQ := Lib.hid (own_below' HQ.out hba)
            replace HA := Lib.hid (own_below' HA.out hba)
            replace HN := Lib.hid (own_below' HN.out hba)
            have HC3 := Lib.hid (CN.new wa4 #[.int .i64 0, .int .i64 0, .int .i64 0, .bool false, .bool false, .bool false, .bool false, .bool false, .slice none 0 0, .slice none 0 0, .slice none 0 0, .slice none 0 0] 32)
            have HT3 := Lib.hid (TB.new wa4 #[.int .i64 0, .int .i64 0, .int .i64 0, .bool false, .bool false, .bool false, .bool false, .bool false, .slice none 0 0, .slice none 0 0, .slice none 0 0, .slice none 0 0] 32)
            have hsz : w2.heap.size ≤ wa4.heap.size := hHeld.1.out.1.size
            obtain ⟨wa5, hwe⟩ : ∃ x, wa4.alloc (.cells #[.int .i64 0, .int .i64 0, .int .i64 0, .bool false, .bool false, .bool false, .bool false, .bool false, .slice none 0 0, .slice none 0 0, .slice none 0 0, .slice none 0 0] 32) = x := ⟨_, rfl⟩
            rw [hwe] at hba HQ HA HN HC3 HT3 ⊢
            have hb := hba
            clear hba hwe
            obtain ⟨q3, hq3⟩ : ∃ x, wa4.heap.size = x := ⟨_, rfl⟩
            have HQ3 := Lib.hid (show w2.heap.size ≤ q3 by rw [← hq3]; exact hsz)
            rw [hq3] at HC3 HT3 ⊢
            clear hsz hq3
            refine hK.out _ _ (Fix.next12 hb hHeld) (fun hHeld2 => ?_)
            clear hK K hHeld
            have hHeld := hHeld2
            clear hHeld2
            try simp only [Act.put, List.setIfInBounds_toArray, List.set_cons_zero, List.set_cons_succ]
            refine wpAnyH_ready (rs := [14]) (by kernel_rfl) (by simp) ?_
            refine AllReadyH.cons (o := { dst := none, op := Go.Op.store 32 (Go.Operand.tmp 3) (Go.Operand.tmp 17), type := 0, pos := "ref.go:361", after := #[{ on := 13, ground := Go.Ground.data }, { on := 12, ground := Go.Ground.data }, { on := 11, ground := Go.Ground.chain }, { on := 0, ground := Go.Ground.phase }, { on := 1, ground := Go.Ground.phase }, { on := 2, ground := Go.Ground.phase }, { on := 3, ground := Go.Ground.phase }, { on := 4, ground := Go.Ground.phase }, { on := 5, ground := Go.Ground.phase }, { on := 6, ground := Go.Ground.phase }, { on := 7, ground := Go.Ground.phase }, { on := 8, ground := Go.Ground.phase }, { on := 9, ground := Go.Ground.phase }, { on := 10, ground := Go.Ground.phase }, { on := 11, ground := Go.Ground.phase }, { on := 12, ground := Go.Ground.phase }, { on := 13, ground := Go.Ground.phase }], guard := none }) rfl (fun K hK => ?_) AllReadyH.nil
            obtain ⟨r0, r1, r2, r3, r4, r5, r6, r7, r8, r9, r10, r11, g0_, g1_, g2_, g3_, g4_, g5_, g6_, g7_, g8_, g9_, g10_, g11_⟩ := HC3.out.u12
            go_simp
            have HGS := Lib.hid (grown_s12 wa5 q3 (.int .i64 mi) (.int .i64 mo) (.int .i64 mr) (.bool b1) (.bool b2) (.bool b3) (.bool b4) (.bool b5) (.slice qa2 ql qc2) (.slice na2 nl nc2) (.slice sa2 sl sc2) (.slice none 0 0))
            have hnx := (hHeld.1.out.grown HGS.out (fun k hk => by injection hk with hk; have := HQ3.out; omega)).all12
            have HCZ := Lib.hid (HC3.out.s12 (.int .i64 mi) (.int .i64 mo) (.int .i64 mr) (.bool b1) (.bool b2) (.bool b3) (.bool b4) (.bool b5) (.slice qa2 ql qc2) (.slice na2 nl nc2) (.slice sa2 sl sc2) (.slice none 0 0))
            have HTZ := Lib.hid (HT3.out.s12 (.int .i64 mi) (.int .i64 mo) (.int .i64 mr) (.bool b1) (.bool b2) (.bool b3) (.bool b4) (.bool b5) (.slice qa2 ql qc2) (.slice na2 nl nc2) (.slice sa2 sl sc2) (.slice none 0 0))
            have HQZ := Lib.hid (own_keeps HQ.out HT3.out (by decide) HGS.out)
            have HAZ := Lib.hid (own_keeps HA.out HT3.out (by decide) HGS.out)
            have HNZ := Lib.hid (own_keeps HN.out HT3.out (by decide) HGS.out)
            clear r0 r1 r2 r3 r4 r5 r6 r7 r8 r9 r10 r11 g0_ g1_ g2_ g3_ g4_ g5_ g6_ g7_ g8_ g9_ g10_ g11_
            refine hK.out _ _ (hnx) (fun hHeld2 => ?_)
            clear hK K hHeld
            have hHeld := hHeld2
            clear hHeld2
            try simp only [Act.put, List.setIfInBounds_toArray, List.set_cons_zero, List.set_cons_succ]
            refine wpAnyH_done (by kernel_rfl) ?_ _
            go_wp2
            go_meet
            exact ⟨q3, qa2, na2, sa2, qc2, nc2, sc2, rfl, HQ3.out, HCZ.out, HTZ.out, HQZ.out, HAZ.out, HNZ.out, hHeld.1.out.1⟩
          · go_simp
            have hba := (Below.refl _ _ : Below wa3.heap.size wa3 wa3).alloc (Nat.le_refl _) (.cells #[.int .i64 0, .int .i64 0, .int .i64 0, .bool false, .bool false, .bool false, .bool false, .bool false, .slice none 0 0, .slice none 0 0, .slice none 0 0, .slice none 0 0] 32)
            replace HQ := Lib.hid (own_below' HQ.out hba)
            replace HA := Lib.hid (own_below' HA.out hba)
            have HC3 := Lib.hid (CN.new wa3 #[.int .i64 0, .int .i64 0, .int .i64 0, .bool false, .bool false, .bool false, .bool false, .bool false, .slice none 0 0, .slice none 0 0, .slice none 0 0, .slice none 0 0] 32)
            have HT3 := Lib.hid (TB.new wa3 #[.int .i64 0, .int .i64 0, .int .i64 0, .bool false, .bool false, .bool false, .bool false, .bool false, .slice none 0 0, .slice none 0 0, .slice none 0 0, .slice none 0 0] 32)
            have hsz : w2.heap.size ≤ wa3.heap.size := hHeld.1.out.1.size
            obtain ⟨wa4, hwe⟩ : ∃ x, wa3.alloc (.cells #[.int .i64 0, .int .i64 0, .int .i64 0, .bool false, .bool false, .bool false, .bool false, .bool false, .slice none 0 0, .slice none 0 0, .slice none 0 0, .slice none 0 0] 32) = x := ⟨_, rfl⟩
            rw [hwe] at hba HQ HA HC3 HT3 ⊢
            have hb := hba
            clear hba hwe
            obtain ⟨q3, hq3⟩ : ∃ x, wa3.heap.size = x := ⟨_, rfl⟩
            have HQ3 := Lib.hid (show w2.heap.size ≤ q3 by rw [← hq3]; exact hsz)
            rw [hq3] at HC3 HT3 ⊢
            clear hsz hq3
            refine hK.out _ _ (Fix.next12 hb hHeld) (fun hHeld2 => ?_)
            clear hK K hHeld
            have hHeld := hHeld2
            clear hHeld2
            try simp only [Act.put, List.setIfInBounds_toArray, List.set_cons_zero, List.set_cons_succ]
            refine wpAnyH_ready (rs := [11]) (by kernel_rfl) (by simp) ?_
            refine AllReadyH.cons (o := { dst := some 16, op := Go.Op.call { callee := Go.Callee.value (Go.Operand.func 16), args := #[Go.Operand.tmp 15], argTypes := #[25] }, type := 25, pos := "ref.go:361", after := #[{ on := 10, ground := Go.Ground.data }, { on := 8, ground := Go.Ground.chain }], guard := none }) rfl (fun K hK => ?_) AllReadyH.nil
            go_simp
            refine (copyRR5 sa sl sc N _ (HNI.out.below hHeld.1.out.1) HNN.out hsl).mono ?_; rintro e wa5 ⟨v11, rfl, ho, hb⟩
            obtain ⟨sa2, sc2, rfl, -⟩ := rowR_own ho
            have HN := Lib.hid (own_mono4 ho (show w2.heap.size ≤ wa4.heap.size from hHeld.1.out.1.size))
            replace HQ := Lib.hid (own_below' HQ.out hb)
            replace HA := Lib.hid (own_below' HA.out hb)
            replace HC3 := Lib.hid (HC3.out.below hb)
            replace HT3 := Lib.hid (HT3.out.below hb)
            clear ho
            go_wp2_with fail
            refine hK.out _ _ (Fix.next12 hb hHeld) (fun hHeld2 => ?_)
            clear hK K hHeld
            have hHeld := hHeld2
            clear hHeld2
            try simp only [Act.put, List.setIfInBounds_toArray, List.set_cons_zero, List.set_cons_succ]
            refine wpAnyH_take (i := 12) (oi := { dst := some 17, op := Go.Op.build 32 #[(0, Go.Operand.tmp 6), (1, Go.Operand.tmp 10), (2, Go.Operand.tmp 13), (3, Go.Operand.tmp 16)], type := 32, pos := "ref.go:361", after := #[{ on := 1, ground := Go.Ground.data }, { on := 5, ground := Go.Ground.data }, { on := 8, ground := Go.Ground.data }, { on := 11, ground := Go.Ground.data }], guard := none }) (v := ?v12_110109) rfl (by kernel_rfl) (by kernel_rfl) (by kernel_rfl) (fun _ _ _ h => h) (Or.inl ⟨by rfl, ?y12_110109⟩) hHeld ?r12_110109
            case y12_110109 => intro w hSw; (try dsimp only at hSw); go_simp; try with_reducible rfl
            try simp only [Act.put, List.setIfInBounds_toArray, List.set_cons_zero, List.set_cons_succ]
            refine wpAnyH_ready (rs := [14]) (by kernel_rfl) (by simp) ?_
            refine AllReadyH.cons (o := { dst := none, op := Go.Op.store 32 (Go.Operand.tmp 3) (Go.Operand.tmp 17), type := 0, pos := "ref.go:361", after := #[{ on := 13, ground := Go.Ground.data }, { on := 12, ground := Go.Ground.data }, { on := 11, ground := Go.Ground.chain }, { on := 0, ground := Go.Ground.phase }, { on := 1, ground := Go.Ground.phase }, { on := 2, ground := Go.Ground.phase }, { on := 3, ground := Go.Ground.phase }, { on := 4, ground := Go.Ground.phase }, { on := 5, ground := Go.Ground.phase }, { on := 6, ground := Go.Ground.phase }, { on := 7, ground := Go.Ground.phase }, { on := 8, ground := Go.Ground.phase }, { on := 9, ground := Go.Ground.phase }, { on := 10, ground := Go.Ground.phase }, { on := 11, ground := Go.Ground.phase }, { on := 12, ground := Go.Ground.phase }, { on := 13, ground := Go.Ground.phase }], guard := none }) rfl (fun K hK => ?_) AllReadyH.nil
            obtain ⟨r0, r1, r2, r3, r4, r5, r6, r7, r8, r9, r10, r11, g0_, g1_, g2_, g3_, g4_, g5_, g6_, g7_, g8_, g9_, g10_, g11_⟩ := HC3.out.u12
            go_simp
            have HGS := Lib.hid (grown_s12 wa5 q3 (.int .i64 mi) (.int .i64 mo) (.int .i64 mr) (.bool b1) (.bool b2) (.bool b3) (.bool b4) (.bool b5) (.slice qa2 ql qc2) (.slice na2 nl nc2) (.slice sa2 sl sc2) (.slice none 0 0))
            have hnx := (hHeld.1.out.grown HGS.out (fun k hk => by injection hk with hk; have := HQ3.out; omega)).all12
            have HCZ := Lib.hid (HC3.out.s12 (.int .i64 mi) (.int .i64 mo) (.int .i64 mr) (.bool b1) (.bool b2) (.bool b3) (.bool b4) (.bool b5) (.slice qa2 ql qc2) (.slice na2 nl nc2) (.slice sa2 sl sc2) (.slice none 0 0))
            have HTZ := Lib.hid (HT3.out.s12 (.int .i64 mi) (.int .i64 mo) (.int .i64 mr) (.bool b1) (.bool b2) (.bool b3) (.bool b4) (.bool b5) (.slice qa2 ql qc2) (.slice na2 nl nc2) (.slice sa2 sl sc2) (.slice none 0 0))
            have HQZ := Lib.hid (own_keeps HQ.out HT3.out (by decide) HGS.out)
            have HAZ := Lib.hid (own_keeps HA.out HT3.out (by decide) HGS.out)
            have HNZ := Lib.hid (own_keeps HN.out HT3.out (by decide) HGS.out)
            clear r0 r1 r2 r3 r4 r5 r6 r7 r8 r9 r10 r11 g0_ g1_ g2_ g3_ g4_ g5_ g6_ g7_ g8_ g9_ g10_ g11_
            refine hK.out _ _ (hnx) (fun hHeld2 => ?_)
            clear hK K hHeld
            have hHeld := hHeld2
            clear hHeld2
            try simp only [Act.put, List.setIfInBounds_toArray, List.set_cons_zero, List.set_cons_succ]
            refine wpAnyH_done (by kernel_rfl) ?_ _
            go_wp2
            go_meet
            exact ⟨q3, qa2, na2, sa2, qc2, nc2, sc2, rfl, HQ3.out, HCZ.out, HTZ.out, HQZ.out, HAZ.out, HNZ.out, hHeld.1.out.1⟩
        · go_simp
          have hba := (Below.refl _ _ : Below wa2.heap.size wa2 wa2).alloc (Nat.le_refl _) (.cells #[.int .i64 0, .int .i64 0, .int .i64 0, .bool false, .bool false, .bool false, .bool false, .bool false, .slice none 0 0, .slice none 0 0, .slice none 0 0, .slice none 0 0] 32)
          replace HQ := Lib.hid (own_below' HQ.out hba)
          have HC3 := Lib.hid (CN.new wa2 #[.int .i64 0, .int .i64 0, .int .i64 0, .bool false, .bool false, .bool false, .bool false, .bool false, .slice none 0 0, .slice none 0 0, .slice none 0 0, .slice none 0 0] 32)
          have HT3 := Lib.hid (TB.new wa2 #[.int .i64 0, .int .i64 0, .int .i64 0, .bool false, .bool false, .bool false, .bool false, .bool false, .slice none 0 0, .slice none 0 0, .slice none 0 0, .slice none 0 0] 32)
          have hsz : w2.heap.size ≤ wa2.heap.size := hHeld.1.out.1.size
          obtain ⟨wa3, hwe⟩ : ∃ x, wa2.alloc (.cells #[.int .i64 0, .int .i64 0, .int .i64 0, .bool false, .bool false, .bool false, .bool false, .bool false, .slice none 0 0, .slice none 0 0, .slice none 0 0, .slice none 0 0] 32) = x := ⟨_, rfl⟩
          rw [hwe] at hba HQ HC3 HT3 ⊢
          have hb := hba
          clear hba hwe
          obtain ⟨q3, hq3⟩ : ∃ x, wa2.heap.size = x := ⟨_, rfl⟩
          have HQ3 := Lib.hid (show w2.heap.size ≤ q3 by rw [← hq3]; exact hsz)
          rw [hq3] at HC3 HT3 ⊢
          clear hsz hq3
          refine hK.out _ _ (Fix.next12 hb hHeld) (fun hHeld2 => ?_)
          clear hK K hHeld
          have hHeld := hHeld2
          clear hHeld2
          try simp only [Act.put, List.setIfInBounds_toArray, List.set_cons_zero, List.set_cons_succ]
          refine wpAnyH_ready (rs := [8]) (by kernel_rfl) (by simp) ?_
          refine AllReadyH.cons (o := { dst := some 13, op := Go.Op.call { callee := Go.Callee.value (Go.Operand.func 16), args := #[Go.Operand.tmp 12], argTypes := #[25] }, type := 25, pos := "ref.go:361", after := #[{ on := 7, ground := Go.Ground.data }, { on := 5, ground := Go.Ground.chain }], guard := none }) rfl (fun K hK => ?_) AllReadyH.nil
          go_simp
          refine (copyRR5 na nl nc A _ (HAI.out.below hHeld.1.out.1) HAN.out hnl).mono ?_; rintro e wa4 ⟨v8, rfl, ho, hb⟩
          obtain ⟨na2, nc2, rfl, -⟩ := rowR_own ho
          have HA := Lib.hid (own_mono4 ho (show w2.heap.size ≤ wa3.heap.size from hHeld.1.out.1.size))
          replace HQ := Lib.hid (own_below' HQ.out hb)
          replace HC3 := Lib.hid (HC3.out.below hb)
          replace HT3 := Lib.hid (HT3.out.below hb)
          clear ho
          go_wp2_with fail
          refine hK.out _ _ (Fix.next12 hb hHeld) (fun hHeld2 => ?_)
          clear hK K hHeld
          have hHeld := hHeld2
          clear hHeld2
          try simp only [Act.put, List.setIfInBounds_toArray, List.set_cons_zero, List.set_cons_succ]
          refine wpAnyH_ready (rs := [11]) (by kernel_rfl) (by simp) ?_
          refine AllReadyH.cons (o := { dst := some 16, op := Go.Op.call { callee := Go.Callee.value (Go.Operand.func 16), args := #[Go.Operand.tmp 15], argTypes := #[25] }, type := 25, pos := "ref.go:361", after := #[{ on := 10, ground := Go.Ground.data }, { on := 8, ground := Go.Ground.chain }], guard := none }) rfl (fun K hK => ?_) AllReadyH.nil
          go_simp
          refine (copyRR5 sa sl sc N _ (HNI.out.below hHeld.1.out.1) HNN.out hsl).mono ?_; rintro e wa5 ⟨v11, rfl, ho, hb⟩
          obtain ⟨sa2, sc2, rfl, -⟩ := rowR_own ho
          have HN := Lib.hid (own_mono4 ho (show w2.heap.size ≤ wa4.heap.size from hHeld.1.out.1.size))
          replace HQ := Lib.hid (own_below' HQ.out hb)
          replace HA := Lib.hid (own_below' HA.out hb)
          replace HC3 := Lib.hid (HC3.out.below hb)
          replace HT3 := Lib.hid (HT3.out.below hb)
          clear ho
          go_wp2_with fail
          refine hK.out _ _ (Fix.next12 hb hHeld) (fun hHeld2 => ?_)
          clear hK K hHeld
          have hHeld := hHeld2
          clear hHeld2
          try simp only [Act.put, List.setIfInBounds_toArray, List.set_cons_zero, List.set_cons_succ]
          refine wpAnyH_take (i := 12) (oi := { dst := some 17, op := Go.Op.build 32 #[(0, Go.Operand.tmp 6), (1, Go.Operand.tmp 10), (2, Go.Operand.tmp 13), (3, Go.Operand.tmp 16)], type := 32, pos := "ref.go:361", after := #[{ on := 1, ground := Go.Ground.data }, { on := 5, ground := Go.Ground.data }, { on := 8, ground := Go.Ground.data }, { on := 11, ground := Go.Ground.data }], guard := none }) (v := ?v12_110113) rfl (by kernel_rfl) (by kernel_rfl) (by kernel_rfl) (fun _ _ _ h => h) (Or.inl ⟨by rfl, ?y12_110113⟩) hHeld ?r12_110113
          case y12_110113 => intro w hSw; (try dsimp only at hSw); go_simp; try with_reducible rfl
          try simp only [Act.put, List.setIfInBounds_toArray, List.set_cons_zero, List.set_cons_succ]
          refine wpAnyH_ready (rs := [14]) (by kernel_rfl) (by simp) ?_
          refine AllReadyH.cons (o := { dst := none, op := Go.Op.store 32 (Go.Operand.tmp 3) (Go.Operand.tmp 17), type := 0, pos := "ref.go:361", after := #[{ on := 13, ground := Go.Ground.data }, { on := 12, ground := Go.Ground.data }, { on := 11, ground := Go.Ground.chain }, { on := 0, ground := Go.Ground.phase }, { on := 1, ground := Go.Ground.phase }, { on := 2, ground := Go.Ground.phase }, { on := 3, ground := Go.Ground.phase }, { on := 4, ground := Go.Ground.phase }, { on := 5, ground := Go.Ground.phase }, { on := 6, ground := Go.Ground.phase }, { on := 7, ground := Go.Ground.phase }, { on := 8, ground := Go.Ground.phase }, { on := 9, ground := Go.Ground.phase }, { on := 10, ground := Go.Ground.phase }, { on := 11, ground := Go.Ground.phase }, { on := 12, ground := Go.Ground.phase }, { on := 13, ground := Go.Ground.phase }], guard := none }) rfl (fun K hK => ?_) AllReadyH.nil
          obtain ⟨r0, r1, r2, r3, r4, r5, r6, r7, r8, r9, r10, r11, g0_, g1_, g2_, g3_, g4_, g5_, g6_, g7_, g8_, g9_, g10_, g11_⟩ := HC3.out.u12
          go_simp
          have HGS := Lib.hid (grown_s12 wa5 q3 (.int .i64 mi) (.int .i64 mo) (.int .i64 mr) (.bool b1) (.bool b2) (.bool b3) (.bool b4) (.bool b5) (.slice qa2 ql qc2) (.slice na2 nl nc2) (.slice sa2 sl sc2) (.slice none 0 0))
          have hnx := (hHeld.1.out.grown HGS.out (fun k hk => by injection hk with hk; have := HQ3.out; omega)).all12
          have HCZ := Lib.hid (HC3.out.s12 (.int .i64 mi) (.int .i64 mo) (.int .i64 mr) (.bool b1) (.bool b2) (.bool b3) (.bool b4) (.bool b5) (.slice qa2 ql qc2) (.slice na2 nl nc2) (.slice sa2 sl sc2) (.slice none 0 0))
          have HTZ := Lib.hid (HT3.out.s12 (.int .i64 mi) (.int .i64 mo) (.int .i64 mr) (.bool b1) (.bool b2) (.bool b3) (.bool b4) (.bool b5) (.slice qa2 ql qc2) (.slice na2 nl nc2) (.slice sa2 sl sc2) (.slice none 0 0))
          have HQZ := Lib.hid (own_keeps HQ.out HT3.out (by decide) HGS.out)
          have HAZ := Lib.hid (own_keeps HA.out HT3.out (by decide) HGS.out)
          have HNZ := Lib.hid (own_keeps HN.out HT3.out (by decide) HGS.out)
          clear r0 r1 r2 r3 r4 r5 r6 r7 r8 r9 r10 r11 g0_ g1_ g2_ g3_ g4_ g5_ g6_ g7_ g8_ g9_ g10_ g11_
          refine hK.out _ _ (hnx) (fun hHeld2 => ?_)
          clear hK K hHeld
          have hHeld := hHeld2
          clear hHeld2
          try simp only [Act.put, List.setIfInBounds_toArray, List.set_cons_zero, List.set_cons_succ]
          refine wpAnyH_done (by kernel_rfl) ?_ _
          go_wp2
          go_meet
          exact ⟨q3, qa2, na2, sa2, qc2, nc2, sc2, rfl, HQ3.out, HCZ.out, HTZ.out, HQZ.out, HAZ.out, HNZ.out, hHeld.1.out.1⟩
      · go_simp
        have hba := (Below.refl _ _ : Below wa1.heap.size wa1 wa1).alloc (Nat.le_refl _) (.cells #[.int .i64 0, .int .i64 0, .int .i64 0, .bool false, .bool false, .bool false, .bool false, .bool false, .slice none 0 0, .slice none 0 0, .slice none 0 0, .slice none 0 0] 32)
        replace H0 := Lib.hid (own_below' H0.out hba)
        have HC3 := Lib.hid (CN.new wa1 #[.int .i64 0, .int .i64 0, .int .i64 0, .bool false, .bool false, .bool false, .bool false, .bool false, .slice none 0 0, .slice none 0 0, .slice none 0 0, .slice none 0 0] 32)
        have HT3 := Lib.hid (TB.new wa1 #[.int .i64 0, .int .i64 0, .int .i64 0, .bool false, .bool false, .bool false, .bool false, .bool false, .slice none 0 0, .slice none 0 0, .slice none 0 0, .slice none 0 0] 32)
        have hsz : w2.heap.size ≤ wa1.heap.size := hHeld.1.out.1.size
        obtain ⟨wa2, hwe⟩ : ∃ x, wa1.alloc (.cells #[.int .i64 0, .int .i64 0, .int .i64 0, .bool false, .bool false, .bool false, .bool false, .bool false, .slice none 0 0, .slice none 0 0, .slice none 0 0, .slice none 0 0] 32) = x := ⟨_, rfl⟩
        rw [hwe] at hba H0 HC3 HT3 ⊢
        have hb := hba
        clear hba hwe
        obtain ⟨q3, hq3⟩ : ∃ x, wa1.heap.size = x := ⟨_, rfl⟩
        have HQ3 := Lib.hid (show w2.heap.size ≤ q3 by rw [← hq3]; exact hsz)
        rw [hq3] at HC3 HT3 ⊢
        clear hsz hq3
        refine hK.out _ _ (Fix.next12 hb hHeld) (fun hHeld2 => ?_)
        clear hK K hHeld
        have hHeld := hHeld2
        clear hHeld2
        try simp only [Act.put, List.setIfInBounds_toArray, List.set_cons_zero, List.set_cons_succ]
        refine wpAnyH_ready (rs := [5]) (by kernel_rfl) (by simp) ?_
        refine AllReadyH.cons (o := { dst := some 10, op := Go.Op.call { callee := Go.Callee.builtin Go.Builtin.append, args := #[Go.Operand.tmp 7, Go.Operand.tmp 9], argTypes := #[24, 24] }, type := 24, pos := "ref.go:361", after := #[{ on := 2, ground := Go.Ground.data }, { on := 4, ground := Go.Ground.data }], guard := none }) rfl (fun K hK => ?_) AllReadyH.nil
        refine step_append_cellsK (by rfl) _ _ 24 70 (by rfl) i0 _ 3 32 Try.underlying24 HI.out HZ0.out HZ1.out HZ2.out rfl (by decide) w2.heap.size _ 0 _ (by rfl) H0.out qa ql qc (flatQ Q) (by rfl) HQN.out (HQI.out.below hHeld.1.out.1).2 (flatQ_one Q) (by omega) (by decide) hHeld.1.out.1.size ?_
        intro v5 wa3 hown hgrow
        rw [Nat.zero_add, List.nil_append] at hown
        obtain ⟨qa2, qc2, rfl, -⟩ := rowQ_own hown
        have HQ := Lib.hid hown
        have hrow : ∀ k, (Value.slice (some ⟨g0, 0, none⟩) 0 0).ownBlock = some k → w2.heap.size ≤ k := fun k hk => (H0.out.lt k hk).1
        have hne : (Value.slice (some ⟨g0, 0, none⟩) 0 0).ownBlock ≠ some q3 := own_ne H0.out HT3.out (by decide)
        replace HC3 := Lib.hid (HC3.out.grown hgrow (fun e => hne e.symm))
        replace HT3 := Lib.hid (HT3.out.grown hgrow hne)
        clear hown H0
        refine hK.out _ _ ((Fix.grown hHeld.1.out hgrow hrow).all12) (fun hHeld2 => ?_)
        clear hK K hHeld
        have hHeld := hHeld2
        clear hHeld2
        try simp only [Act.put, List.setIfInBounds_toArray, List.set_cons_zero, List.set_cons_succ]
        refine wpAnyH_ready (rs := [8]) (by kernel_rfl) (by simp) ?_
        refine AllReadyH.cons (o := { dst := some 13, op := Go.Op.call { callee := Go.Callee.value (Go.Operand.func 16), args := #[Go.Operand.tmp 12], argTypes := #[25] }, type := 25, pos := "ref.go:361", after := #[{ on := 7, ground := Go.Ground.data }, { on := 5, ground := Go.Ground.chain }], guard := none }) rfl (fun K hK => ?_) AllReadyH.nil
        go_simp
        refine (copyRR5 na nl nc A _ (HAI.out.below hHeld.1.out.1) HAN.out hnl).mono ?_; rintro e wa4 ⟨v8, rfl, ho, hb⟩
        obtain ⟨na2, nc2, rfl, -⟩ := rowR_own ho
        have HA := Lib.hid (own_mono4 ho (show w2.heap.size ≤ wa3.heap.size from hHeld.1.out.1.size))
        replace HQ := Lib.hid (own_below' HQ.out hb)
        replace HC3 := Lib.hid (HC3.out.below hb)
        replace HT3 := Lib.hid (HT3.out.below hb)
        clear ho
        go_wp2_with fail
        refine hK.out _ _ (Fix.next12 hb hHeld) (fun hHeld2 => ?_)
        clear hK K hHeld
        have hHeld := hHeld2
        clear hHeld2
        try simp only [Act.put, List.setIfInBounds_toArray, List.set_cons_zero, List.set_cons_succ]
        refine wpAnyH_ready (rs := [11]) (by kernel_rfl) (by simp) ?_
        refine AllReadyH.cons (o := { dst := some 16, op := Go.Op.call { callee := Go.Callee.value (Go.Operand.func 16), args := #[Go.Operand.tmp 15], argTypes := #[25] }, type := 25, pos := "ref.go:361", after := #[{ on := 10, ground := Go.Ground.data }, { on := 8, ground := Go.Ground.chain }], guard := none }) rfl (fun K hK => ?_) AllReadyH.nil
        go_simp
        refine (copyRR5 sa sl sc N _ (HNI.out.below hHeld.1.out.1) HNN.out hsl).mono ?_; rintro e wa5 ⟨v11, rfl, ho, hb⟩
        obtain ⟨sa2, sc2, rfl, -⟩ := rowR_own ho
        have HN := Lib.hid (own_mono4 ho (show w2.heap.size ≤ wa4.heap.size from hHeld.1.out.1.size))
        replace HQ := Lib.hid (own_below' HQ.out hb)
        replace HA := Lib.hid (own_below' HA.out hb)
        replace HC3 := Lib.hid (HC3.out.below hb)
        replace HT3 := Lib.hid (HT3.out.below hb)
        clear ho
        go_wp2_with fail
        refine hK.out _ _ (Fix.next12 hb hHeld) (fun hHeld2 => ?_)
        clear hK K hHeld
        have hHeld := hHeld2
        clear hHeld2
        try simp only [Act.put, List.setIfInBounds_toArray, List.set_cons_zero, List.set_cons_succ]
        refine wpAnyH_take (i := 12) (oi := { dst := some 17, op := Go.Op.build 32 #[(0, Go.Operand.tmp 6), (1, Go.Operand.tmp 10), (2, Go.Operand.tmp 13), (3, Go.Operand.tmp 16)], type := 32, pos := "ref.go:361", after := #[{ on := 1, ground := Go.Ground.data }, { on := 5, ground := Go.Ground.data }, { on := 8, ground := Go.Ground.data }, { on := 11, ground := Go.Ground.data }], guard := none }) (v := ?v12_110118) rfl (by kernel_rfl) (by kernel_rfl) (by kernel_rfl) (fun _ _ _ h => h) (Or.inl ⟨by rfl, ?y12_110118⟩) hHeld ?r12_110118
        case y12_110118 => intro w hSw; (try dsimp only at hSw); go_simp; try with_reducible rfl
        try simp only [Act.put, List.setIfInBounds_toArray, List.set_cons_zero, List.set_cons_succ]
        refine wpAnyH_ready (rs := [14]) (by kernel_rfl) (by simp) ?_
        refine AllReadyH.cons (o := { dst := none, op := Go.Op.store 32 (Go.Operand.tmp 3) (Go.Operand.tmp 17), type := 0, pos := "ref.go:361", after := #[{ on := 13, ground := Go.Ground.data }, { on := 12, ground := Go.Ground.data }, { on := 11, ground := Go.Ground.chain }, { on := 0, ground := Go.Ground.phase }, { on := 1, ground := Go.Ground.phase }, { on := 2, ground := Go.Ground.phase }, { on := 3, ground := Go.Ground.phase }, { on := 4, ground := Go.Ground.phase }, { on := 5, ground := Go.Ground.phase }, { on := 6, ground := Go.Ground.phase }, { on := 7, ground := Go.Ground.phase }, { on := 8, ground := Go.Ground.phase }, { on := 9, ground := Go.Ground.phase }, { on := 10, ground := Go.Ground.phase }, { on := 11, ground := Go.Ground.phase }, { on := 12, ground := Go.Ground.phase }, { on := 13, ground := Go.Ground.phase }], guard := none }) rfl (fun K hK => ?_) AllReadyH.nil
        obtain ⟨r0, r1, r2, r3, r4, r5, r6, r7, r8, r9, r10, r11, g0_, g1_, g2_, g3_, g4_, g5_, g6_, g7_, g8_, g9_, g10_, g11_⟩ := HC3.out.u12
        go_simp
        have HGS := Lib.hid (grown_s12 wa5 q3 (.int .i64 mi) (.int .i64 mo) (.int .i64 mr) (.bool b1) (.bool b2) (.bool b3) (.bool b4) (.bool b5) (.slice qa2 ql qc2) (.slice na2 nl nc2) (.slice sa2 sl sc2) (.slice none 0 0))
        have hnx := (hHeld.1.out.grown HGS.out (fun k hk => by injection hk with hk; have := HQ3.out; omega)).all12
        have HCZ := Lib.hid (HC3.out.s12 (.int .i64 mi) (.int .i64 mo) (.int .i64 mr) (.bool b1) (.bool b2) (.bool b3) (.bool b4) (.bool b5) (.slice qa2 ql qc2) (.slice na2 nl nc2) (.slice sa2 sl sc2) (.slice none 0 0))
        have HTZ := Lib.hid (HT3.out.s12 (.int .i64 mi) (.int .i64 mo) (.int .i64 mr) (.bool b1) (.bool b2) (.bool b3) (.bool b4) (.bool b5) (.slice qa2 ql qc2) (.slice na2 nl nc2) (.slice sa2 sl sc2) (.slice none 0 0))
        have HQZ := Lib.hid (own_keeps HQ.out HT3.out (by decide) HGS.out)
        have HAZ := Lib.hid (own_keeps HA.out HT3.out (by decide) HGS.out)
        have HNZ := Lib.hid (own_keeps HN.out HT3.out (by decide) HGS.out)
        clear r0 r1 r2 r3 r4 r5 r6 r7 r8 r9 r10 r11 g0_ g1_ g2_ g3_ g4_ g5_ g6_ g7_ g8_ g9_ g10_ g11_
        refine hK.out _ _ (hnx) (fun hHeld2 => ?_)
        clear hK K hHeld
        have hHeld := hHeld2
        clear hHeld2
        try simp only [Act.put, List.setIfInBounds_toArray, List.set_cons_zero, List.set_cons_succ]
        refine wpAnyH_done (by kernel_rfl) ?_ _
        go_wp2
        go_meet
        exact ⟨q3, qa2, na2, sa2, qc2, nc2, sc2, rfl, HQ3.out, HCZ.out, HTZ.out, HQZ.out, HAZ.out, HNZ.out, hHeld.1.out.1⟩
    · go_simp
      have hba := (Below.refl _ _ : Below wd.heap.size wd wd).alloc (Nat.le_refl _) (.cells #[.int .i64 0, .int .i64 0, .int .i64 0, .bool false, .bool false, .bool false, .bool false, .bool false, .slice none 0 0, .slice none 0 0, .slice none 0 0, .slice none 0 0] 32)
      have HC3 := Lib.hid (CN.new wd #[.int .i64 0, .int .i64 0, .int .i64 0, .bool false, .bool false, .bool false, .bool false, .bool false, .slice none 0 0, .slice none 0 0, .slice none 0 0, .slice none 0 0] 32)
      have HT3 := Lib.hid (TB.new wd #[.int .i64 0, .int .i64 0, .int .i64 0, .bool false, .bool false, .bool false, .bool false, .bool false, .slice none 0 0, .slice none 0 0, .slice none 0 0, .slice none 0 0] 32)
      have hsz : w2.heap.size ≤ wd.heap.size := hHeld.1.out.1.size
      obtain ⟨wa1, hwe⟩ : ∃ x, wd.alloc (.cells #[.int .i64 0, .int .i64 0, .int .i64 0, .bool false, .bool false, .bool false, .bool false, .bool false, .slice none 0 0, .slice none 0 0, .slice none 0 0, .slice none 0 0] 32) = x := ⟨_, rfl⟩
      rw [hwe] at hba HC3 HT3 ⊢
      have hb := hba
      clear hba hwe
      obtain ⟨q3, hq3⟩ : ∃ x, wd.heap.size = x := ⟨_, rfl⟩
      have HQ3 := Lib.hid (show w2.heap.size ≤ q3 by rw [← hq3]; exact hsz)
      rw [hq3] at HC3 HT3 ⊢
      clear hsz hq3
      refine hK.out _ _ (Fix.next12 hb hHeld) (fun hHeld2 => ?_)
      clear hK K hHeld
      have hHeld := hHeld2
      clear hHeld2
      try simp only [Act.put, List.setIfInBounds_toArray, List.set_cons_zero, List.set_cons_succ]
      refine wpAnyH_ready (rs := [2]) (by kernel_rfl) (by simp) ?_
      refine AllReadyH.cons (o := { dst := some 7, op := Go.Op.buildSlice 24 0 #[], type := 24, pos := "ref.go:361", after := #[], guard := none }) rfl (fun K hK => ?_) AllReadyH.nil
      go_simp
      have hba := (Below.refl _ _ : Below wa1.heap.size wa1 wa1).alloc (Nat.le_refl _) (.cells #[] 70)
      replace HC3 := Lib.hid (HC3.out.below hba)
      replace HT3 := Lib.hid (HT3.out.below hba)
      have H0 := Lib.hid (own_mono4 (World.ownsRow_made (e := 70) (size := 3) wa1 #[] 0 (Nat.le_refl _) (by decide) rfl) (show w2.heap.size ≤ wa1.heap.size from hHeld.1.out.1.size))
      have hsz : w2.heap.size ≤ wa1.heap.size := hHeld.1.out.1.size
      obtain ⟨wa2, hwe⟩ : ∃ x, wa1.alloc (.cells #[] 70) = x := ⟨_, rfl⟩
      rw [hwe] at hba HC3 HT3 H0 ⊢
      have hb := hba
      clear hba hwe
      obtain ⟨g0, hg0⟩ : ∃ x, wa1.heap.size = x := ⟨_, rfl⟩
      rw [hg0] at H0 ⊢
      have HG0 := Lib.hid hg0
      clear hsz hg0
      refine hK.out _ _ (Fix.next12 hb hHeld) (fun hHeld2 => ?_)
      clear hK K hHeld
      have hHeld := hHeld2
      clear hHeld2
      try simp only [Act.put, List.setIfInBounds_toArray, List.set_cons_zero, List.set_cons_succ]
      refine wpAnyH_ready (rs := [5]) (by kernel_rfl) (by simp) ?_
      refine AllReadyH.cons (o := { dst := some 10, op := Go.Op.call { callee := Go.Callee.builtin Go.Builtin.append, args := #[Go.Operand.tmp 7, Go.Operand.tmp 9], argTypes := #[24, 24] }, type := 24, pos := "ref.go:361", after := #[{ on := 2, ground := Go.Ground.data }, { on := 4, ground := Go.Ground.data }], guard := none }) rfl (fun K hK => ?_) AllReadyH.nil
      refine step_append_cellsK (by rfl) _ _ 24 70 (by rfl) i0 _ 3 32 Try.underlying24 HI.out HZ0.out HZ1.out HZ2.out rfl (by decide) w2.heap.size _ 0 _ (by rfl) H0.out qa ql qc (flatQ Q) (by rfl) HQN.out (HQI.out.below hHeld.1.out.1).2 (flatQ_one Q) (by omega) (by decide) hHeld.1.out.1.size ?_
      intro v5 wa3 hown hgrow
      rw [Nat.zero_add, List.nil_append] at hown
      obtain ⟨qa2, qc2, rfl, -⟩ := rowQ_own hown
      have HQ := Lib.hid hown
      have hrow : ∀ k, (Value.slice (some ⟨g0, 0, none⟩) 0 0).ownBlock = some k → w2.heap.size ≤ k := fun k hk => (H0.out.lt k hk).1
      have hne : (Value.slice (some ⟨g0, 0, none⟩) 0 0).ownBlock ≠ some q3 := own_ne H0.out HT3.out (by decide)
      replace HC3 := Lib.hid (HC3.out.grown hgrow (fun e => hne e.symm))
      replace HT3 := Lib.hid (HT3.out.grown hgrow hne)
      clear hown H0
      refine hK.out _ _ ((Fix.grown hHeld.1.out hgrow hrow).all12) (fun hHeld2 => ?_)
      clear hK K hHeld
      have hHeld := hHeld2
      clear hHeld2
      try simp only [Act.put, List.setIfInBounds_toArray, List.set_cons_zero, List.set_cons_succ]
      refine wpAnyH_ready (rs := [8]) (by kernel_rfl) (by simp) ?_
      refine AllReadyH.cons (o := { dst := some 13, op := Go.Op.call { callee := Go.Callee.value (Go.Operand.func 16), args := #[Go.Operand.tmp 12], argTypes := #[25] }, type := 25, pos := "ref.go:361", after := #[{ on := 7, ground := Go.Ground.data }, { on := 5, ground := Go.Ground.chain }], guard := none }) rfl (fun K hK => ?_) AllReadyH.nil
      go_simp
      refine (copyRR5 na nl nc A _ (HAI.out.below hHeld.1.out.1) HAN.out hnl).mono ?_; rintro e wa4 ⟨v8, rfl, ho, hb⟩
      obtain ⟨na2, nc2, rfl, -⟩ := rowR_own ho
      have HA := Lib.hid (own_mono4 ho (show w2.heap.size ≤ wa3.heap.size from hHeld.1.out.1.size))
      replace HQ := Lib.hid (own_below' HQ.out hb)
      replace HC3 := Lib.hid (HC3.out.below hb)
      replace HT3 := Lib.hid (HT3.out.below hb)
      clear ho
      go_wp2_with fail
      refine hK.out _ _ (Fix.next12 hb hHeld) (fun hHeld2 => ?_)
      clear hK K hHeld
      have hHeld := hHeld2
      clear hHeld2
      try simp only [Act.put, List.setIfInBounds_toArray, List.set_cons_zero, List.set_cons_succ]
      refine wpAnyH_ready (rs := [11]) (by kernel_rfl) (by simp) ?_
      refine AllReadyH.cons (o := { dst := some 16, op := Go.Op.call { callee := Go.Callee.value (Go.Operand.func 16), args := #[Go.Operand.tmp 15], argTypes := #[25] }, type := 25, pos := "ref.go:361", after := #[{ on := 10, ground := Go.Ground.data }, { on := 8, ground := Go.Ground.chain }], guard := none }) rfl (fun K hK => ?_) AllReadyH.nil
      go_simp
      refine (copyRR5 sa sl sc N _ (HNI.out.below hHeld.1.out.1) HNN.out hsl).mono ?_; rintro e wa5 ⟨v11, rfl, ho, hb⟩
      obtain ⟨sa2, sc2, rfl, -⟩ := rowR_own ho
      have HN := Lib.hid (own_mono4 ho (show w2.heap.size ≤ wa4.heap.size from hHeld.1.out.1.size))
      replace HQ := Lib.hid (own_below' HQ.out hb)
      replace HA := Lib.hid (own_below' HA.out hb)
      replace HC3 := Lib.hid (HC3.out.below hb)
      replace HT3 := Lib.hid (HT3.out.below hb)
      clear ho
      go_wp2_with fail
      refine hK.out _ _ (Fix.next12 hb hHeld) (fun hHeld2 => ?_)
      clear hK K hHeld
      have hHeld := hHeld2
      clear hHeld2
      try simp only [Act.put, List.setIfInBounds_toArray, List.set_cons_zero, List.set_cons_succ]
      refine wpAnyH_take (i := 12) (oi := { dst := some 17, op := Go.Op.build 32 #[(0, Go.Operand.tmp 6), (1, Go.Operand.tmp 10), (2, Go.Operand.tmp 13), (3, Go.Operand.tmp 16)], type := 32, pos := "ref.go:361", after := #[{ on := 1, ground := Go.Ground.data }, { on := 5, ground := Go.Ground.data }, { on := 8, ground := Go.Ground.data }, { on := 11, ground := Go.Ground.data }], guard := none }) (v := ?v12_110124) rfl (by kernel_rfl) (by kernel_rfl) (by kernel_rfl) (fun _ _ _ h => h) (Or.inl ⟨by rfl, ?y12_110124⟩) hHeld ?r12_110124
      case y12_110124 => intro w hSw; (try dsimp only at hSw); go_simp; try with_reducible rfl
      try simp only [Act.put, List.setIfInBounds_toArray, List.set_cons_zero, List.set_cons_succ]
      refine wpAnyH_ready (rs := [14]) (by kernel_rfl) (by simp) ?_
      refine AllReadyH.cons (o := { dst := none, op := Go.Op.store 32 (Go.Operand.tmp 3) (Go.Operand.tmp 17), type := 0, pos := "ref.go:361", after := #[{ on := 13, ground := Go.Ground.data }, { on := 12, ground := Go.Ground.data }, { on := 11, ground := Go.Ground.chain }, { on := 0, ground := Go.Ground.phase }, { on := 1, ground := Go.Ground.phase }, { on := 2, ground := Go.Ground.phase }, { on := 3, ground := Go.Ground.phase }, { on := 4, ground := Go.Ground.phase }, { on := 5, ground := Go.Ground.phase }, { on := 6, ground := Go.Ground.phase }, { on := 7, ground := Go.Ground.phase }, { on := 8, ground := Go.Ground.phase }, { on := 9, ground := Go.Ground.phase }, { on := 10, ground := Go.Ground.phase }, { on := 11, ground := Go.Ground.phase }, { on := 12, ground := Go.Ground.phase }, { on := 13, ground := Go.Ground.phase }], guard := none }) rfl (fun K hK => ?_) AllReadyH.nil
      obtain ⟨r0, r1, r2, r3, r4, r5, r6, r7, r8, r9, r10, r11, g0_, g1_, g2_, g3_, g4_, g5_, g6_, g7_, g8_, g9_, g10_, g11_⟩ := HC3.out.u12
      go_simp
      have HGS := Lib.hid (grown_s12 wa5 q3 (.int .i64 mi) (.int .i64 mo) (.int .i64 mr) (.bool b1) (.bool b2) (.bool b3) (.bool b4) (.bool b5) (.slice qa2 ql qc2) (.slice na2 nl nc2) (.slice sa2 sl sc2) (.slice none 0 0))
      have hnx := (hHeld.1.out.grown HGS.out (fun k hk => by injection hk with hk; have := HQ3.out; omega)).all12
      have HCZ := Lib.hid (HC3.out.s12 (.int .i64 mi) (.int .i64 mo) (.int .i64 mr) (.bool b1) (.bool b2) (.bool b3) (.bool b4) (.bool b5) (.slice qa2 ql qc2) (.slice na2 nl nc2) (.slice sa2 sl sc2) (.slice none 0 0))
      have HTZ := Lib.hid (HT3.out.s12 (.int .i64 mi) (.int .i64 mo) (.int .i64 mr) (.bool b1) (.bool b2) (.bool b3) (.bool b4) (.bool b5) (.slice qa2 ql qc2) (.slice na2 nl nc2) (.slice sa2 sl sc2) (.slice none 0 0))
      have HQZ := Lib.hid (own_keeps HQ.out HT3.out (by decide) HGS.out)
      have HAZ := Lib.hid (own_keeps HA.out HT3.out (by decide) HGS.out)
      have HNZ := Lib.hid (own_keeps HN.out HT3.out (by decide) HGS.out)
      clear r0 r1 r2 r3 r4 r5 r6 r7 r8 r9 r10 r11 g0_ g1_ g2_ g3_ g4_ g5_ g6_ g7_ g8_ g9_ g10_ g11_
      refine hK.out _ _ (hnx) (fun hHeld2 => ?_)
      clear hK K hHeld
      have hHeld := hHeld2
      clear hHeld2
      try simp only [Act.put, List.setIfInBounds_toArray, List.set_cons_zero, List.set_cons_succ]
      refine wpAnyH_done (by kernel_rfl) ?_ _
      go_wp2
      go_meet
      exact ⟨q3, qa2, na2, sa2, qc2, nc2, sc2, rfl, HQ3.out, HCZ.out, HTZ.out, HQZ.out, HAZ.out, HNZ.out, hHeld.1.out.1⟩
  case rest =>
    clear HFX HI HZ0 HZ1 HZ2 HQI HAI HNI
    obtain ⟨q3, qa2, na2, sa2, qc2, nc2, sc2, rfl, hq3, hc3, ht3, hqo, hao, hno, hb3⟩ := hcut
    obtain ⟨w3, hw3⟩ : ∃ x, wc = x := ⟨_, rfl⟩
    rw [hw3] at hc3 ht3 hqo hao hno hb3 ⊢
    obtain ⟨j0, hj, hj0, hj1, hj2⟩ := info_parts infoRR
    have HJ := Lib.hid hj
    have HJ0 := Lib.hid hj0
    have HJ1 := Lib.hid hj1
    have HJ2 := Lib.hid hj2
    have HC3 := Lib.hid hc3
    have HT3 := Lib.hid ht3
    have HQO := Lib.hid hqo
    have HAO := Lib.hid hao
    have HNO := Lib.hid hno
    have HB3 := Lib.hid hb3
    have HQ3 := Lib.hid hq3
    clear hj hj0 hj1 hj2 hc3 ht3 hqo hao hno hb3 hq3 hw3
    go_wp2_with fail
    go_loopw [4] (fun i wr => ∃ (k n : Nat) (xa2 : Option Addr) (xc2 : Nat), k ≤ xl ∧ n ≤ k ∧ i = .int .i64 k ∧ Hid ((keepR optB (X.take k)).length = n) ∧ Hid (CN wr q3 [.int .i64 mi, .int .i64 mo, .int .i64 mr, .bool b1, .bool b2, .bool b3, .bool b4, .bool b5, .slice qa2 ql qc2, .slice na2 nl nc2, .slice sa2 sl sc2, .slice xa2 n xc2]) ∧ Hid (TB wr q3 32) ∧ Hid (wr.ownsRow w3.heap.size 75 5 (.slice xa2 n xc2) n (flatR (keepR optB (X.take k)))) ∧ Hid (w3.grownBy wr (some q3))) (fun i _ => xl - (intOf i).toNat)
    case atStart => exact ⟨0, 0, none, 0, Nat.zero_le _, Nat.zero_le _, rfl, Lib.hid rfl, HC3, HT3, Lib.hid (by rw [List.take_zero]; exact ⟨rfl, Or.inl ⟨rfl, rfl⟩⟩), Lib.hid (World.grownBy.refl _ _)⟩
    case round =>
      obtain ⟨k, n, xa2, xc2, hk, hn, rfl, HKL, HC, HT, HO, HG⟩ := hrel
      have hbr : Below w2.heap.size w2 wr := HB3.out.grown HG.out HB3.out.size (fun k hk => by injection hk with hk; rw [← hk]; exact HQ3.out)
      have HBR := Lib.hid hbr
      clear hbr
      have C1r := Lib.hid (C1.out.below HBR.out)
      obtain ⟨-, -, -, -, -, -, -, -, -, -, -, y11, -⟩ := C1r.out.u12
      have x11 := (HC.out.2 11 _ rfl).1
      by_cases hlt : k < xl
      · obtain ⟨b, o, r, rfl, hbl, hr, x0, x1, x2, x3, x4⟩ := HXI.out.at k hlt
        have hbl0 := hbl
        replace x0 := cell_bel HBR.out x0
        replace x1 := cell_bel HBR.out x1
        replace x2 := cell_bel HBR.out x2
        replace x3 := cell_bel HBR.out x3
        replace x4 := cell_bel HBR.out x4
        have HLT := Lib.hid (show q1 < w3.heap.size ∧ b < w3.heap.size from ⟨Nat.lt_of_lt_of_le C1.out.1 HB3.out.size, Nat.lt_of_lt_of_le hbl HB3.out.size⟩)
        have HN := Lib.hid (keepR_next (p := optB) hr)
        obtain ⟨⟨rn, rt, rc⟩, ru, rd⟩ := r
        replace x0 : wr.cell? ⟨b, o + k * 5, none⟩ = some (.string rn) := x0
        replace x1 : wr.cell? ⟨b, o + k * 5 + 1, none⟩ = some (.int .i64 rt) := x1
        replace x2 : wr.cell? ⟨b, o + k * 5 + 2, none⟩ = some (.int .i64 rc) := x2
        replace x3 : wr.cell? ⟨b, o + k * 5 + 3, none⟩ = some (.int .i64 ru) := x3
        replace x4 : wr.cell? ⟨b, o + k * 5 + 4, none⟩ = some (.string rd) := x4
        have i1 : (0 : Int) ≤ (k : Int) := by omega
        have i2 : (k : Int) < (xl : Int) := by omega
        clear hr hlt hbl hbl0
        by_cases ht : rt = 41
        · have d1 := nF ht
          have HN2 := Lib.hid (show keepR optB (X.take (k + 1)) = keepR optB (X.take k) by rw [HN.out]; simp [optB, ht])
          clear ht
          go_wp2
          go_roundw
          case rel => exact ⟨k + 1, n, xa2, xc2, by omega, by omega, by go_num, Lib.hid (by rw [HN2.out]; exact HKL.out), HC, HT, Lib.hid (by rw [HN2.out]; exact HO.out), HG⟩
          case measure => simp [intOf]; omega
        · have d1 := nT ht
          have HN2 := Lib.hid (show keepR optB (X.take (k + 1)) = keepR optB (X.take k) ++ [⟨⟨rn, rt, rc⟩, ru, rd⟩] by rw [HN.out]; simp [optB, ht])
          clear ht
          go_upto_region 6 with fail
          refine wp_region_last_drew (S := (fun wx => wx.cell? ⟨q3, 11, none⟩ = some (.slice xa2 n xc2) ∧ wx.cell? ⟨q1, 11, none⟩ = some (.slice (some ⟨b, o, none⟩) xl xc) ∧ wx.cell? ⟨b, o + k * 5, none⟩ = some (.string rn) ∧ wx.cell? ⟨b, o + k * 5 + 1, none⟩ = some (.int .i64 rt) ∧ wx.cell? ⟨b, o + k * 5 + 2, none⟩ = some (.int .i64 rc) ∧ wx.cell? ⟨b, o + k * 5 + 3, none⟩ = some (.int .i64 ru) ∧ wx.cell? ⟨b, o + k * 5 + 4, none⟩ = some (.string rd))) (L := 10) (by kernel_rfl) (⟨x11, y11, x0, x1, x2, x3, x4⟩) (fun hHeld => ?_)
          have hbd := (Below.refl wr.heap.size wr).drew
          have HCd := Lib.hid (HC.out.below hbd)
          have HTd := Lib.hid (HT.out.below hbd)
          have HOd := Lib.hid (own_below' HO.out hbd)
          have HGd := Lib.hid (grown_over HG.out (bel_grown hbd none) (fun k hk => by cases hk))
          obtain ⟨wd, hwd⟩ : ∃ x, wr.drew = x := ⟨_, rfl⟩
          rw [hwd] at hHeld HCd HTd HOd HGd ⊢
          clear hwd hbd x11 y11 x0 x1 x2 x3 x4
          refine wpAnyL_take (i := 0) (oi := { dst := some 32, op := Go.Op.fieldAddr 32 (Go.Operand.tmp 3) 4, type := 0, pos := "ref.go:364", after := #[], guard := none }) (v := ?v0_120101) rfl (by kernel_rfl) (by kernel_rfl) (by kernel_rfl) (by kernel_rfl) (fun _ _ _ h => h) (Or.inl ⟨by rfl, ?y0_120101⟩) hHeld ?r0_120101
          case y0_120101 => intro w hSw; (try dsimp only at hSw); go_simp; try with_reducible rfl
          try simp only [Act.put, List.setIfInBounds_toArray, List.set_cons_zero, List.set_cons_succ]
          refine wpAnyL_take (i := 1) (oi := { dst := some 33, op := Go.Op.load 25 (Go.Operand.tmp 32), type := 25, pos := "ref.go:364", after := #[{ on := 0, ground := Go.Ground.data }], guard := none }) (v := ?v1_120101) rfl (by kernel_rfl) (by kernel_rfl) (by kernel_rfl) (by kernel_rfl) (fun _ _ _ h => h) (Or.inl ⟨by rfl, ?y1_120101⟩) hHeld ?r1_120101
          case y1_120101 => intro w hSw; (try dsimp only at hSw); go_simp; try with_reducible rfl
          try simp only [Act.put, List.setIfInBounds_toArray, List.set_cons_zero, List.set_cons_succ]
          refine wpAnyL_take (i := 2) (oi := { dst := some 34, op := Go.Op.fieldAddr 32 (Go.Operand.tmp 1) 4, type := 0, pos := "ref.go:364", after := #[], guard := none }) (v := ?v2_120101) rfl (by kernel_rfl) (by kernel_rfl) (by kernel_rfl) (by kernel_rfl) (fun _ _ _ h => h) (Or.inl ⟨by rfl, ?y2_120101⟩) hHeld ?r2_120101
          case y2_120101 => intro w hSw; (try dsimp only at hSw); go_simp; try with_reducible rfl
          try simp only [Act.put, List.setIfInBounds_toArray, List.set_cons_zero, List.set_cons_succ]
          refine wpAnyL_take (i := 3) (oi := { dst := some 35, op := Go.Op.load 25 (Go.Operand.tmp 34), type := 25, pos := "ref.go:364", after := #[{ on := 2, ground := Go.Ground.data }], guard := none }) (v := ?v3_120101) rfl (by kernel_rfl) (by kernel_rfl) (by kernel_rfl) (by kernel_rfl) (fun _ _ _ h => h) (Or.inl ⟨by rfl, ?y3_120101⟩) hHeld ?r3_120101
          case y3_120101 => intro w hSw; (try dsimp only at hSw); go_simp; try with_reducible rfl
          try simp only [Act.put, List.setIfInBounds_toArray, List.set_cons_zero, List.set_cons_succ]
          refine wpAnyL_take (i := 4) (oi := { dst := some 36, op := Go.Op.move (Go.Operand.tmp 4), type := 3, pos := "ref.go:364", after := #[], guard := none }) (v := ?v4_120101) rfl (by kernel_rfl) (by kernel_rfl) (by kernel_rfl) (by kernel_rfl) (fun _ _ _ h => h) (Or.inl ⟨by rfl, ?y4_120101⟩) hHeld ?r4_120101
          case y4_120101 => intro w hSw; (try dsimp only at hSw); go_simp; try with_reducible rfl
          try simp only [Act.put, List.setIfInBounds_toArray, List.set_cons_zero, List.set_cons_succ]
          refine wpAnyL_take (i := 5) (oi := { dst := some 37, op := Go.Op.indexAddr 25 (Go.Operand.tmp 35) (Go.Operand.tmp 36), type := 0, pos := "ref.go:364", after := #[{ on := 3, ground := Go.Ground.data }, { on := 4, ground := Go.Ground.data }], guard := none }) (v := ?v5_120101) rfl (by kernel_rfl) (by kernel_rfl) (by kernel_rfl) (by kernel_rfl) (fun _ _ _ h => h) (Or.inl ⟨by rfl, ?y5_120101⟩) hHeld ?r5_120101
          case y5_120101 => intro w hSw; (try dsimp only at hSw); go_simp; try with_reducible rfl
          try simp only [Act.put, List.setIfInBounds_toArray, List.set_cons_zero, List.set_cons_succ]
          refine wpAnyL_take (i := 6) (oi := { dst := some 38, op := Go.Op.load 75 (Go.Operand.tmp 37), type := 75, pos := "ref.go:364", after := #[{ on := 5, ground := Go.Ground.data }], guard := none }) (v := ?v6_120101) rfl (by kernel_rfl) (by kernel_rfl) (by kernel_rfl) (by kernel_rfl) (fun _ _ _ h => h) (Or.inl ⟨by rfl, ?y6_120101⟩) hHeld ?r6_120101
          case y6_120101 => intro w hSw; (try dsimp only at hSw); go_simp; try with_reducible rfl
          try simp only [Act.put, List.setIfInBounds_toArray, List.set_cons_zero, List.set_cons_succ]
          refine wpAnyL_ready (rs := [7]) (by kernel_rfl) (by simp) ?_
          refine AllReadyL.cons (o := { dst := some 39, op := Go.Op.buildSlice 25 1 #[(0, Go.Operand.tmp 38)], type := 25, pos := "ref.go:364", after := #[{ on := 6, ground := Go.Ground.data }], guard := none }) rfl (by decide) (fun K hK => ?_) AllReadyL.nil
          go_simp
          have hba := (Below.refl _ _ : Below wd.heap.size wd wd).alloc (Nat.le_refl _) (.cells #[.string rn, .int .i64 rt, .int .i64 rc, .int .i64 ru, .string rd] 75)
          have HE := Lib.hid (cells_lit wd #[.string rn, .int .i64 rt, .int .i64 rc, .int .i64 ru, .string rd] 75)
          replace HCd := Lib.hid (HCd.out.below hba)
          replace HTd := Lib.hid (HTd.out.below hba)
          replace HOd := Lib.hid (own_below' HOd.out hba)
          replace HGd := Lib.hid (grown_over HGd.out (bel_grown hba none) (fun k hk => by cases hk))
          obtain ⟨we, hwe⟩ : ∃ x, wd.alloc (.cells #[.string rn, .int .i64 rt, .int .i64 rc, .int .i64 ru, .string rd] 75) = x := ⟨_, rfl⟩
          obtain ⟨ge, hge⟩ : ∃ x, wd.heap.size = x := ⟨_, rfl⟩
          have hsz : w3.heap.size ≤ we.heap.size := by rw [hwe] at HGd; exact HGd.out.size
          rw [hwe] at hba HCd HTd HOd HGd HE ⊢
          rw [hge] at HE ⊢
          have HBA := Lib.hid hba
          clear hwe hge
          refine hK.out _ _ (⟨cell_bel HBA.out hHeld.1, cell_bel HBA.out hHeld.2.1, cell_bel HBA.out hHeld.2.2.1, cell_bel HBA.out hHeld.2.2.2.1, cell_bel HBA.out hHeld.2.2.2.2.1, cell_bel HBA.out hHeld.2.2.2.2.2.1, cell_bel HBA.out hHeld.2.2.2.2.2.2⟩) (fun hHeld2 => ?_)
          clear hK K hHeld
          have hHeld := hHeld2
          clear hHeld2
          try simp only [Act.put, List.setIfInBounds_toArray, List.set_cons_zero, List.set_cons_succ]
          refine wpAnyL_ready (rs := [8]) (by kernel_rfl) (by simp) ?_
          refine AllReadyL.cons (o := { dst := some 40, op := Go.Op.call { callee := Go.Callee.builtin Go.Builtin.append, args := #[Go.Operand.tmp 33, Go.Operand.tmp 39], argTypes := #[25, 25] }, type := 25, pos := "ref.go:364", after := #[{ on := 1, ground := Go.Ground.data }, { on := 7, ground := Go.Ground.data }], guard := none }) rfl (by decide) (fun K hK => ?_) AllReadyL.nil
          refine step_append_cellsK (by rfl) _ _ 25 75 (by rfl) j0 _ 5 56 Try.underlying25 HJ.out HJ0.out HJ1.out HJ2.out rfl (by decide) w3.heap.size _ n _ (by rfl) HOd.out (some ⟨ge, 0, none⟩) 1 1 (encR ⟨⟨rn, rt, rc⟩, ru, rd⟩) (by rfl) (fun h => by cases h) HE.out (fun u hu => flatR_one [⟨⟨rn, rt, rc⟩, ru, rd⟩] u (by simpa [flatR] using hu)) (by omega) (by decide) HGd.out.size ?_
          intro v8 w6 hown hgrow
          obtain ⟨xa3, xc3, rfl, -⟩ := cellsK_own hown
          have hlow : ∀ k, (Value.slice xa2 n xc2).ownBlock = some k → w3.heap.size ≤ k := fun k hk => (HOd.out.lt k hk).1
          have hn3 : (Value.slice xa2 n xc2).ownBlock ≠ some q3 := own_ne HOd.out HTd.out (by decide)
          have hn1 : some q1 ≠ (Value.slice xa2 n xc2).ownBlock := fun e => by have := hlow _ e.symm; have := HLT.out; omega
          have hnb : some b ≠ (Value.slice xa2 n xc2).ownBlock := fun e => by have := hlow _ e.symm; have := HLT.out; omega
          have HC6 := Lib.hid (HCd.out.grown hgrow (fun e => hn3 e.symm))
          have HT6 := Lib.hid (HTd.out.grown hgrow hn3)
          have HG6 := Lib.hid (grown_over HGd.out hgrow (fun k hk => Or.inl (hlow k hk)))
          have HO6 := Lib.hid hown
          have HN3 := Lib.hid hn3
          clear hown hn3
          refine hK.out _ _ (⟨hgrow.cell hHeld.1 (fun e => HN3.out e.symm), hgrow.cell hHeld.2.1 hn1, hgrow.cell hHeld.2.2.1 hnb, hgrow.cell hHeld.2.2.2.1 hnb, hgrow.cell hHeld.2.2.2.2.1 hnb, hgrow.cell hHeld.2.2.2.2.2.1 hnb, hgrow.cell hHeld.2.2.2.2.2.2 hnb⟩) (fun hHeld2 => ?_)
          clear hK K hHeld
          have hHeld := hHeld2
          clear hHeld2
          try simp only [Act.put, List.setIfInBounds_toArray, List.set_cons_zero, List.set_cons_succ]
          refine wpAnyL_take (i := 9) (oi := { dst := some 41, op := Go.Op.fieldAddr 32 (Go.Operand.tmp 3) 4, type := 0, pos := "ref.go:364", after := #[{ on := 0, ground := Go.Ground.phase }, { on := 1, ground := Go.Ground.phase }, { on := 2, ground := Go.Ground.phase }, { on := 3, ground := Go.Ground.phase }, { on := 4, ground := Go.Ground.phase }, { on := 5, ground := Go.Ground.phase }, { on := 6, ground := Go.Ground.phase }, { on := 7, ground := Go.Ground.phase }, { on := 8, ground := Go.Ground.phase }], guard := none }) (v := ?v9_120103) rfl (by kernel_rfl) (by kernel_rfl) (by kernel_rfl) (by kernel_rfl) (fun _ _ _ h => h) (Or.inl ⟨by rfl, ?y9_120103⟩) hHeld ?r9_120103
          case y9_120103 => intro w hSw; (try dsimp only at hSw); go_simp; try with_reducible rfl
          try simp only [Act.put, List.setIfInBounds_toArray, List.set_cons_zero, List.set_cons_succ]
          refine wpAnyL_ready (rs := [10]) (by kernel_rfl) (by simp) ?_
          refine AllReadyL.last (o := { dst := none, op := Go.Op.store 25 (Go.Operand.tmp 41) (Go.Operand.tmp 40), type := 0, pos := "ref.go:364", after := #[{ on := 9, ground := Go.Ground.data }, { on := 8, ground := Go.Ground.data }, { on := 8, ground := Go.Ground.chain }, { on := 0, ground := Go.Ground.phase }, { on := 1, ground := Go.Ground.phase }, { on := 2, ground := Go.Ground.phase }, { on := 3, ground := Go.Ground.phase }, { on := 4, ground := Go.Ground.phase }, { on := 5, ground := Go.Ground.phase }, { on := 6, ground := Go.Ground.phase }, { on := 7, ground := Go.Ground.phase }, { on := 8, ground := Go.Ground.phase }], guard := none }) rfl (by decide) (fun K hK => ?_) AllReadyL.nil
          have hc11 := (HC6.out.2 11 _ rfl).1
          have hf11 := (HC6.out.2 11 _ rfl).2
          go_simp
          refine hK.out _ _ trivial (fun _ => ?_)
          clear hK K
          try simp only [Act.put, List.setIfInBounds_toArray, List.set_cons_zero, List.set_cons_succ]
          refine wpAnyL_done (by kernel_rfl) ?_ _
          have HCZ := Lib.hid (HC6.out.set 11 (by simp) (.slice xa3 (n + 1) xc3))
          have HTZ := Lib.hid (HT6.out.set 11 (.slice xa3 (n + 1) xc3))
          have HOZ := Lib.hid (own_keeps HO6.out HT6.out (by decide) (grown_cell w6 q3 11 (.slice xa3 (n + 1) xc3)))
          have HGZ := Lib.hid (grown_over HG6.out (grown_cell w6 q3 11 (.slice xa3 (n + 1) xc3)) (fun k hk => by injection hk with hk; exact Or.inr hk.symm))
          go_wp2
          go_roundw
          case rel => exact ⟨k + 1, n + 1, xa3, xc3, by omega, by omega, by go_num, Lib.hid (by rw [HN2.out, List.length_append, HKL.out]; rfl), HCZ, HTZ, Lib.hid (by rw [HN2.out, flatR_app]; simpa [flatR] using HOZ.out), HGZ⟩
          case measure => simp [intOf]; omega
      · obtain rfl : k = xl := by omega
        have hfull : X.take k = X := by rw [List.take_of_length_le (by rw [HXL.out]; omega)]
        rw [hfull] at HO HKL
        clear hfull hlt hk
        have C2r := Lib.hid (C2.out.below HBR.out)
        have T2r := Lib.hid (T2.out.below HBR.out)
        have HQR := Lib.hid (own_keeps HQO.out HT3.out (by decide) HG.out)
        have HAR := Lib.hid (own_keeps HAO.out HT3.out (by decide) HG.out)
        have HNR := Lib.hid (own_keeps HNO.out HT3.out (by decide) HG.out)
        have HGS := Lib.hid (grown_s12 wr q2 (.int .i64 mi) (.int .i64 mo) (.int .i64 mr) (.bool b1) (.bool b2) (.bool b3) (.bool b4) (.bool b5) (.slice qa2 ql qc2) (.slice na2 nl nc2) (.slice sa2 sl sc2) (.slice xa2 n xc2))
        have HGS2 := Lib.hid (grown_s12 wr q2 (.int .i64 mi) (.int .i64 mo) (.int .i64 mr) (.bool b1) (.bool b2) (.bool b3) (.bool b4) (.bool b5) (.slice qa2 ql qc2) (.slice na2 nl nc2) (.slice sa2 sl sc2) (.slice xa2 n xc2))
        have HCZ := Lib.hid (C2r.out.s12 (.int .i64 mi) (.int .i64 mo) (.int .i64 mr) (.bool b1) (.bool b2) (.bool b3) (.bool b4) (.bool b5) (.slice qa2 ql qc2) (.slice na2 nl nc2) (.slice sa2 sl sc2) (.slice xa2 n xc2))
        have HQZ := Lib.hid (own_keeps HQR.out T2r.out (by decide) HGS.out)
        have HAZ := Lib.hid (own_keeps HAR.out T2r.out (by decide) HGS.out)
        have HNZ := Lib.hid (own_keeps HNR.out T2r.out (by decide) HGS.out)
        have HXZ := Lib.hid (own_keeps HO.out T2r.out (by decide) HGS.out)
        have hbw := HB2.out.trans (HBR.out.mono HB2.out.size)
        have HBZ := Lib.hid (hbw.grown HGS.out hbw.size (fun k hk => by injection hk with hk; have := HQB.out.1; omega))
        clear hbw y11 x11
        obtain ⟨-, -, -, -, -, -, -, -, -, -, -, v11, -⟩ := C1r.out.u12
        obtain ⟨x0, x1, x2, x3, x4, x5, x6, x7, x8, x9, x10, x11, -⟩ := HC.out.u12
        obtain ⟨y0, y1, y2, y3, y4, y5, y6, y7, y8, y9, y10, y11, g0, g1, g2, g3, g4, g5, g6, g7, g8, g9, g10, g11⟩ := C2r.out.u12
        go_wp2
        obtain ⟨wz, hwz⟩ : ∃ x, ((((((((((((wr.setCell ⟨q2, 0, none⟩ (.int .i64 mi)).setCell ⟨q2, 1, none⟩ (.int .i64 mo)).setCell ⟨q2, 2, none⟩ (.int .i64 mr)).setCell ⟨q2, 3, none⟩ (.bool b1)).setCell ⟨q2, 4, none⟩ (.bool b2)).setCell ⟨q2, 5, none⟩ (.bool b3)).setCell ⟨q2, 6, none⟩ (.bool b4)).setCell ⟨q2, 7, none⟩ (.bool b5)).setCell ⟨q2, 8, none⟩ (.slice qa2 ql qc2)).setCell ⟨q2, 9, none⟩ (.slice na2 nl nc2)).setCell ⟨q2, 10, none⟩ (.slice sa2 sl sc2)).setCell ⟨q2, 11, none⟩ (.slice xa2 n xc2)) = x := ⟨_, rfl⟩
        rw [hwz] at HCZ HBZ HQZ HAZ HNZ HXZ HGS2 ⊢
        clear hwz HGS y0 g0 y1 g1 y2 g2 y3 g3 y4 g4 y5 g5 y6 g6 y7 g7 y8 g8 y9 g9 y10 g10 y11 g11 x0 x1 x2 x3 x4 x5 x6 x7 x8 x9 x10 x11
        obtain ⟨z0, z1, z2, z3, z4, z5, z6, z7, z8, z9, z10, z11, _⟩ := HCZ.out.u12
        have e1 := HQL.out
        have e2 := HAL.out
        have e3 := HNL.out
        have e4 := HKL.out
        refine bodyPost_ret (v := .agg #[.int .i64 mi, .int .i64 mo, .int .i64 mr, .bool b1, .bool b2, .bool b3, .bool b4, .bool b5, .slice qa2 ql qc2, .slice na2 nl nc2, .slice sa2 sl sc2, .slice xa2 n xc2]) (by simp [results, Try.results51, go_sem, z0, z1, z2, z3, z4, z5, z6, z7, z8, z9, z10, z11]) rfl ⟨_, rfl, msgOw2_mk e1 e2 e3 e4 (Nat.le_trans HSZ.out HB3.out.size) (Nat.le_trans HG.out.size HGS2.out.size) (own_mono4 HQZ.out HSZ.out) (own_mono4 HAZ.out HSZ.out) (own_mono4 HNZ.out HSZ.out) HXZ.out (fun k hk => (HQO.out.lt k hk).2) (fun k hk => (HAO.out.lt k hk).2) (fun k hk => (HNO.out.lt k hk).2), HBZ.out⟩
theorem stripMD_any (v : Value) (m : MsgP) (w : World) (h : MsgAt w v m) (hs : SmM m) :
    Calls Try.prog 51 #[v] w fun e w' => ∃ v', e = .returned v' ∧ MsgOw2 w' w.heap.size v' { m with x := keepR optB m.x } ∧ Below w.heap.size w w' := by
  obtain ⟨qa, qc, na, nc, sa, sc, xa, xc, rfl, h1, h2, h3, h4⟩ := h
  exact stripD_ex _ _ _ _ _ _ _ _ _ _ _ _ _ _ _ _ _ _ _ _ m.q m.a m.n m.x w h1.1 h1.2 h2.1 h2.2 h3.1 h3.2 h4.1 hs.1 hs.2.1 hs.2.2.1 hs.2.2.2
end Go.Proofs.Ytkoafkajmfodkaa
