/- WireAdds: the walk. -/
import Derived.Test.YtkoafkajmfodkaaEc5
import Derived.Test.YtkoafkajmfodkaaDcS
import Derived.Test.YtkoafkajmfodkaaLst
import Derived.Test.YtkoafkajmfodkaaMgC
import Derived.Test.YtkoafkajmfodkaaPln5
namespace Go.Proofs.Ytkoafkajmfodkaa
open Go.RowKit

theorem MsgAt.open2 {w : World} {v : Value} {m : MsgP} (h : MsgAt w v m) : ∃ (mi mo mr : Int) (b1 b2 b3 b4 b5 : Bool) (qa na sa xa : Option Addr) (ql qc nl nc sl sc xl xc : Nat), v = .agg #[.int .i64 mi, .int .i64 mo, .int .i64 mr, .bool b1, .bool b2, .bool b3, .bool b4, .bool b5, .slice qa ql qc, .slice na nl nc, .slice sa sl sc, .slice xa xl xc] ∧ m.q.length = ql ∧ m.a.length = nl ∧ m.n.length = sl ∧ m.x.length = xl ∧ RowQ w qa ql m.q ∧ RowR w na nl m.a ∧ RowR w sa sl m.n ∧ RowR w xa xl m.x ∧ (qa = none → ql = 0 ∧ qc = 0) ∧ (na = none → nl = 0 ∧ nc = 0) ∧ (sa = none → sl = 0 ∧ sc = 0) ∧ (xa = none → xl = 0 ∧ xc = 0) := by
  obtain ⟨qa, qc, na, nc, sa, sc, xa, xc, rfl, h1, h2, h3, h4⟩ := h
  exact ⟨_, _, _, _, _, _, _, _, qa, na, sa, xa, _, qc, _, nc, _, sc, _, xc, rfl, rfl, rfl, rfl, rfl, h1.1, h2.1, h3.1, h4.1, h1.2, h2.2, h3.2, h4.2⟩
theorem few4B (a : Option Addr) (len cap : Nat) (l : List R5) (w : World) (h : RowR w a len l) (hlen : len ≤ 9223372036854775807) (hsz : ∀ r ∈ l, SzR r) :
    Calls Try.prog 34 #[.slice a len cap] w fun e w' => (e = .returned (.bool false) ∨ e = .returned (.bool true) ∧ len ≤ 400 ∧ ∀ r ∈ l, SmR r) ∧ Below w.heap.size w w' :=
  (few4 a len cap l w h hlen hsz).mono fun _ _ ⟨h1, m, h2⟩ => ⟨h1, by rw [h2]; exact below_drewN (Below.refl _ _) m⟩
/-- A message whose sections are copies, in its block. -/
def CpC (w2 : World) (mi mo mr : Int) (b1 b2 b3 b4 b5 : Bool) (qa : Option Addr) (ql qc nl sl xl : Nat) (A N X : List R5) (v : Value) (wx : World) : Prop := ∃ (q3 : Nat) (na3 sa3 xa3 : Option Addr) (nc3 sc3 xc3 : Nat), v = .pointer (some ⟨q3, 0, none⟩) ∧ w2.heap.size ≤ q3 ∧ CN wx q3 [.int .i64 mi, .int .i64 mo, .int .i64 mr, .bool b1, .bool b2, .bool b3, .bool b4, .bool b5, .slice qa ql qc, .slice na3 nl nc3, .slice sa3 sl sc3, .slice xa3 xl xc3] ∧ TB wx q3 27 ∧ wx.ownsRow w2.heap.size 75 5 (.slice na3 nl nc3) nl (flatR A) ∧ wx.ownsRow w2.heap.size 75 5 (.slice sa3 sl sc3) sl (flatR N) ∧ wx.ownsRow w2.heap.size 75 5 (.slice xa3 xl xc3) xl (flatR X) ∧ Below w2.heap.size w2 wx

theorem msgAt_mk {w : World} {mi mo mr : Int} {b1 b2 b3 b4 b5 : Bool} {qa na sa xa : Option Addr} {ql qc nl nc sl sc xl xc : Nat} {Q : List Ky} {A N X : List R5} (h1 : RowQ w qa ql Q) (n1 : qa = none → ql = 0 ∧ qc = 0) (h2 : RowR w na nl A) (n2 : na = none → nl = 0 ∧ nc = 0) (h3 : RowR w sa sl N) (n3 : sa = none → sl = 0 ∧ sc = 0) (h4 : RowR w xa xl X) (n4 : xa = none → xl = 0 ∧ xc = 0) : MsgAt w (.agg #[.int .i64 mi, .int .i64 mo, .int .i64 mr, .bool b1, .bool b2, .bool b3, .bool b4, .bool b5, .slice qa ql qc, .slice na nl nc, .slice sa sl sc, .slice xa xl xc]) ⟨mi, mo, mr, b1, b2, b3, b4, b5, Q, A, N, X⟩ := by
  have e1 := h1.1
  have e2 := h2.1
  have e3 := h3.1
  have e4 := h4.1
  subst e1 e2 e3 e4
  exact ⟨qa, qc, na, nc, sa, sc, xa, xc, rfl, ⟨h1, n1⟩, ⟨h2, n2⟩, ⟨h3, n3⟩, h4, n4⟩
theorem tb_ne {w : World} {q q' : Nat} {T T' : TypeId} (h : TB w q T) (h' : TB w q' T') (hne : T ≠ T') : q ≠ q' := by
  rintro rfl
  obtain ⟨c, h⟩ := h
  obtain ⟨c', h'⟩ := h'
  rw [h] at h'
  injection h' with h'
  injection h' with _ h'
  exact hne h'
theorem own_apart {w w' : World} {B n size : Nat} {e : TypeId} {v : Value} {xs : List Value} {row : Option Nat} (h : w.ownsRow B e size v n xs) (hg : w.grownBy w' row) (hne : ∀ k, v.ownBlock = some k → row ≠ some k) : w'.ownsRow B e size v n xs :=
  h.kept hg (by
    cases hv : v.ownBlock with
    | none => exact Or.inl rfl
    | some k => exact Or.inr (fun e2 => hne k hv (by first | exact e2 | exact e2.symm)))
set_option maxRecDepth 100000 in
set_option maxHeartbeats 4000000 in
theorem add0 (q : Nat) (s : Int) (la : Option Addr) (ll lc : Nat) (w : World) (h1 : s ≠ 1) (h2 : s ≠ 2) (h3 : s ≠ 3) :
    Calls Try.prog 36 #[.pointer (some ⟨q, 0, none⟩), .int .i64 s, .slice la ll lc] w fun e w' => e = .returned (.bool false) ∧ w = w' := by
  have d1 := eF h1
  have d2 := eF h2
  have d3 := eF h3
  clear h1 h2 h3
  go_enter Try.func36, Try.ntmps36
  go_wp2
  go_ret
  exact ⟨rfl, rfl⟩
set_option maxRecDepth 100000 in
set_option maxHeartbeats 4000000 in
theorem askD_any (i : Int) (qa : Option Addr) (ql qc : Nat) (Q : List Ky) (w : World) (hq : RowQ w qa ql Q) (hqn : qa = none → ql = 0 ∧ qc = 0) (hql : ql ≤ 100000) :
    Calls Try.prog 38 #[.int .i64 i, .slice qa ql qc] w fun e w' => ∃ v, e = .returned v ∧ MsgAt w' v (askM i Q) ∧ Below w.heap.size w w' := by
  obtain ⟨i0, hi, hz0, hz1, hz2⟩ := info_parts infoQ
  have hb1 := (Below.refl w.heap.size w).alloc (Nat.le_refl _) (.cells #[.int .i64 0, .int .i64 0, .int .i64 0, .bool false, .bool false, .bool false, .bool false, .bool false, .slice none 0 0, .slice none 0 0, .slice none 0 0, .slice none 0 0] 32)
  have hc := CN.new w #[.int .i64 0, .int .i64 0, .int .i64 0, .bool false, .bool false, .bool false, .bool false, .bool false, .slice none 0 0, .slice none 0 0, .slice none 0 0, .slice none 0 0] 32
  obtain ⟨w1, hw1⟩ : ∃ x, w.alloc (.cells #[.int .i64 0, .int .i64 0, .int .i64 0, .bool false, .bool false, .bool false, .bool false, .bool false, .slice none 0 0, .slice none 0 0, .slice none 0 0, .slice none 0 0] 32) = x := ⟨_, rfl⟩
  rw [hw1] at hb1 hc
  have hb2 := (Below.refl w1.heap.size w1).alloc (Nat.le_refl _) (.cells #[] 70)
  have HI := Lib.hid hi
  have HZ0 := Lib.hid hz0
  have HZ1 := Lib.hid hz1
  have HZ2 := Lib.hid hz2
  have HQ := Lib.hid ((hq.below hb1).below hb2)
  have HQN := Lib.hid hqn
  have HC := Lib.hid (hc.below hb2)
  have HB := Lib.hid (hb1.trans (hb2.mono hb1.size))
  have HW1 := Lib.hid hw1
  have HM := Lib.hid (World.ownsRow_made (e := 70) (size := 3) w1 #[] 0 (Nat.le_refl _) (by decide) rfl)
  have HS1 := Lib.hid (show w.heap.size + 1 = w1.heap.size by rw [← hw1, World.size_alloc])
  clear hi hz0 hz1 hz2 hb1 hb2 hq hqn hc hw1
  go_enter Try.func38, Try.ntmps38
  go_upto_region 1 with (fail)
  rw [HW1.out]
  go_wp2_with (at_builtin; refine append_cellsK rfl _ _ 24 70 rfl i0 _ 3 32 Try.underlying24 HI.out HZ0.out HZ1.out HZ2.out rfl (by decide) w1.heap.size _ 0 [] rfl HM.out qa ql qc (flatQ Q) rfl HQN.out HQ.out.2 (flatQ_one Q) (by omega) (by decide) (by simp) ?_)
  intro v' w3 hown hgrow
  try simp only [Nat.zero_add, List.nil_append] at hown
  obtain ⟨qa2, qc2, rfl, -⟩ := rowQ_own hown
  have hrow : ∀ k, (Value.slice (some ⟨w1.heap.size, 0, none⟩) 0 0).ownBlock = some k → w1.heap.size ≤ k := fun k hk => (HM.out.lt k hk).1
  have HC3 := Lib.hid (HC.out.grown hgrow (fun e => by have := hrow _ e.symm; have := HS1.out; omega))
  have HB3 := Lib.hid (HB.out.grown hgrow HB.out.size (fun k hk => by have := hrow k hk; have := HS1.out; omega))
  have HO3 := Lib.hid hown
  have HG := Lib.hid (grown_s12 w3 w.heap.size (.int .i64 i) (.int .i64 0) (.int .i64 0) (.bool false) (.bool false) (.bool false) (.bool false) (.bool false) (.slice qa2 ql qc2) (.slice none 0 0) (.slice none 0 0) (.slice none 0 0))
  have HCZ := Lib.hid (HC3.out.s12 (.int .i64 i) (.int .i64 0) (.int .i64 0) (.bool false) (.bool false) (.bool false) (.bool false) (.bool false) (.slice qa2 ql qc2) (.slice none 0 0) (.slice none 0 0) (.slice none 0 0))
  have HBZ := Lib.hid (HB3.out.grown HG.out HB3.out.size (fun k hk => by injection hk with hk; omega))
  have HOZ := Lib.hid (own_apart HO3.out HG.out (fun k hk e => by injection e with e; have := (HO3.out.lt k hk).1; have := HS1.out; omega))
  obtain ⟨y0, y1, y2, y3, y4, y5, y6, y7, y8, y9, y10, y11, g0, g1, g2, g3, g4, g5, g6, g7, g8, g9, g10, g11⟩ := HC3.out.u12
  clear hown hgrow hrow
  go_wp2
  obtain ⟨wz, hwz⟩ : ∃ x, ((((((((((((w3.setCell ⟨w.heap.size, 0, none⟩ (.int .i64 i)).setCell ⟨w.heap.size, 1, none⟩ (.int .i64 0)).setCell ⟨w.heap.size, 2, none⟩ (.int .i64 0)).setCell ⟨w.heap.size, 3, none⟩ (.bool false)).setCell ⟨w.heap.size, 4, none⟩ (.bool false)).setCell ⟨w.heap.size, 5, none⟩ (.bool false)).setCell ⟨w.heap.size, 6, none⟩ (.bool false)).setCell ⟨w.heap.size, 7, none⟩ (.bool false)).setCell ⟨w.heap.size, 8, none⟩ (.slice qa2 ql qc2)).setCell ⟨w.heap.size, 9, none⟩ (.slice none 0 0)).setCell ⟨w.heap.size, 10, none⟩ (.slice none 0 0)).setCell ⟨w.heap.size, 11, none⟩ (.slice none 0 0)) = x := ⟨_, rfl⟩
  rw [hwz] at HCZ HBZ HOZ ⊢
  clear hwz HG y0 g0 y1 g1 y2 g2 y3 g3 y4 g4 y5 g5 y6 g6 y7 g7 y8 g8 y9 g9 y10 g10 y11 g11
  obtain ⟨z0, z1, z2, z3, z4, z5, z6, z7, z8, z9, z10, z11, _⟩ := HCZ.out.u12
  refine bodyPost_ret (v := .agg #[.int .i64 i, .int .i64 0, .int .i64 0, .bool false, .bool false, .bool false, .bool false, .bool false, .slice qa2 ql qc2, .slice none 0 0, .slice none 0 0, .slice none 0 0]) (by simp [results, Try.results38, go_sem, z0, z1, z2, z3, z4, z5, z6, z7, z8, z9, z10, z11]) rfl ⟨_, rfl, msgAt_mk (rowQ_own2 HOZ.out).1 (rowQ_own2 HOZ.out).2 (rowR_nil _) (fun _ => ⟨rfl, rfl⟩) (rowR_nil _) (fun _ => ⟨rfl, rfl⟩) (rowR_nil _) (fun _ => ⟨rfl, rfl⟩), HBZ.out⟩

end Go.Proofs.Ytkoafkajmfodkaa
