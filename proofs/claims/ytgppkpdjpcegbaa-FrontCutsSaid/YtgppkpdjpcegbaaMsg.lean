/- Messages. -/
import Derived.Test.YtgppkpdjpcegbaaAskA
import Derived.Test.YtgppkpdjpcegbaaPtO
namespace Go.Proofs.Ytgppkpdjpcegbaa
open Go.RowKit

/-- A message. -/
structure MsgP where
  i : Int
  o : Int
  r : Int
  b1 : Bool
  b2 : Bool
  b3 : Bool
  b4 : Bool
  b5 : Bool
  q : List Ky
  a : List R5
  n : List R5
  x : List R5
/-- A value reads as a message. -/
def MsgAt (w : World) (v : Value) (m : MsgP) : Prop := ∃ (qa : Option Addr) (qc : Nat) (na : Option Addr) (nc : Nat) (sa : Option Addr) (sc : Nat) (xa : Option Addr) (xc : Nat), v = .agg #[.int .i64 m.i, .int .i64 m.o, .int .i64 m.r, .bool m.b1, .bool m.b2, .bool m.b3, .bool m.b4, .bool m.b5, .slice qa m.q.length qc, .slice na m.a.length nc, .slice sa m.n.length sc, .slice xa m.x.length xc] ∧ (RowQ w qa m.q.length m.q ∧ (qa = none → m.q.length = 0 ∧ qc = 0)) ∧ (RowR w na m.a.length m.a ∧ (na = none → m.a.length = 0 ∧ nc = 0)) ∧ (RowR w sa m.n.length m.n ∧ (sa = none → m.n.length = 0 ∧ sc = 0)) ∧ (RowR w xa m.x.length m.x ∧ (xa = none → m.x.length = 0 ∧ xc = 0))
/-- A message whose rows are made from block B on. -/
def MsgOwn (w : World) (B : Nat) (v : Value) (m : MsgP) : Prop := ∃ (qa : Option Addr) (qc : Nat) (na : Option Addr) (nc : Nat) (sa : Option Addr) (sc : Nat) (xa : Option Addr) (xc : Nat), v = .agg #[.int .i64 m.i, .int .i64 m.o, .int .i64 m.r, .bool m.b1, .bool m.b2, .bool m.b3, .bool m.b4, .bool m.b5, .slice qa m.q.length qc, .slice na m.a.length nc, .slice sa m.n.length sc, .slice xa m.x.length xc] ∧ w.ownsRow B 27 3 (.slice qa m.q.length qc) m.q.length (flatQ m.q) ∧ w.ownsRow B 77 5 (.slice na m.a.length nc) m.a.length (flatR m.a) ∧ w.ownsRow B 77 5 (.slice sa m.n.length sc) m.n.length (flatR m.n) ∧ w.ownsRow B 77 5 (.slice xa m.x.length xc) m.x.length (flatR m.x)
theorem MsgOwn.at {w : World} {B : Nat} {v : Value} {m : MsgP} (h : MsgOwn w B v m) : MsgAt w v m := by
  obtain ⟨qa, qc, na, nc, sa, sc, xa, xc, rfl, h1, h2, h3, h4⟩ := h
  exact ⟨qa, qc, na, nc, sa, sc, xa, xc, rfl, rowQ_own2 h1, rowR_own2 h2, rowR_own2 h3, rowR_own2 h4⟩
theorem MsgAt.below {w w' : World} {v : Value} {m : MsgP} (h : MsgAt w v m) (hb : Below w.heap.size w w') : MsgAt w' v m := by
  obtain ⟨qa, qc, na, nc, sa, sc, xa, xc, rfl, h1, h2, h3, h4⟩ := h
  exact ⟨qa, qc, na, nc, sa, sc, xa, xc, rfl, ⟨h1.1.below hb, h1.2⟩, ⟨h2.1.below hb, h2.2⟩, ⟨h3.1.below hb, h3.2⟩, ⟨h4.1.below hb, h4.2⟩⟩
theorem own_keep {w w' : World} {e : TypeId} {size n B q : Nat} {v : Value} {xs : List Value} (h : w.ownsRow B e size v n xs) (hg : w.grownBy w' (some q)) (hq : q < B) : w'.ownsRow B e size v n xs :=
  h.kept hg (by
    cases hv : v.ownBlock with
    | none => exact Or.inl rfl
    | some k => exact Or.inr (fun e => by have := (h.lt k hv).1; injection e with e; omega))
theorem MsgOwn.below {w w' : World} {B : Nat} {v : Value} {m : MsgP} (h : MsgOwn w B v m) (hb : Below w.heap.size w w') : MsgOwn w' B v m := by
  obtain ⟨qa, qc, na, nc, sa, sc, xa, xc, rfl, h1, h2, h3, h4⟩ := h
  exact ⟨qa, qc, na, nc, sa, sc, xa, xc, rfl, own_below' h1 hb, own_below' h2 hb, own_below' h3 hb, own_below' h4 hb⟩
theorem MsgOwn.mono {w : World} {B B' : Nat} {v : Value} {m : MsgP} (h : MsgOwn w B v m) (hb : B' ≤ B) : MsgOwn w B' v m := by
  obtain ⟨qa, qc, na, nc, sa, sc, xa, xc, rfl, h1, h2, h3, h4⟩ := h
  exact ⟨qa, qc, na, nc, sa, sc, xa, xc, rfl, own_mono4 h1 hb, own_mono4 h2 hb, own_mono4 h3 hb, own_mono4 h4 hb⟩
def SmM (m : MsgP) : Prop := m.q.length ≤ 100000 ∧ m.a.length ≤ 100000 ∧ m.n.length ≤ 100000 ∧ m.x.length ≤ 100000

theorem getM_any (v : Value) (m : MsgP) (w : World) (h : MsgAt w v m) (hs : m.x.length ≤ 100000) :
    Calls Try.prog 11 #[v] w fun e w' => e = .returned (.tuple #[optV (getO m.x).1, .bool (getO m.x).2.1, .int .i64 (getO m.x).2.2]) ∧ Below w.heap.size w w' := by
  obtain ⟨qa, qc, na, nc, sa, sc, xa, xc, rfl, _, _, _, h4⟩ := h
  exact get_any _ _ _ _ _ _ _ _ _ _ _ _ _ _ _ _ _ _ _ _ m.x w h4.1 h4.2 hs
theorem stripM_any (v : Value) (m : MsgP) (w : World) (h : MsgAt w v m) (hs : SmM m) :
    Calls Try.prog 41 #[v] w fun e w' => ∃ v', e = .returned v' ∧ MsgOwn w' w.heap.size v' { m with x := keepR optB m.x } ∧ Below w.heap.size w w' := by
  obtain ⟨qa, qc, na, nc, sa, sc, xa, xc, rfl, h1, h2, h3, h4⟩ := h
  refine (strip_ex _ _ _ _ _ _ _ _ _ _ _ _ _ _ _ _ _ _ _ _ m.q m.a m.n m.x w h1.1 h1.2 h2.1 h2.2 h3.1 h3.2 h4.1 h4.2 hs.1 hs.2.1 hs.2.2.1 hs.2.2.2 _ rfl).mono ?_
  rintro e w' ⟨qa2, na2, sa2, xa2, qc2, nc2, sc2, xc2, rfl, g1, g2, g3, g4, hb⟩
  exact ⟨_, rfl, ⟨qa2, qc2, na2, nc2, sa2, sc2, xa2, xc2, rfl, g1, g2, g3, g4⟩, hb⟩
def askM (i : Int) (Q : List Ky) : MsgP := ⟨i, 0, 0, false, false, false, false, false, Q, [], [], []⟩
theorem askM_any (i : Int) (qa : Option Addr) (ql qc : Nat) (Q : List Ky) (w : World) (hq : RowQ w qa ql Q) (hqn : qa = none → ql = 0 ∧ qc = 0) (hql : ql ≤ 100000) :
    Calls Try.prog 15 #[.int .i64 i, .slice qa ql qc] w fun e w' => ∃ v, e = .returned v ∧ MsgOwn w' w.heap.size v (askM i Q) ∧ Below w.heap.size w w' := by
  refine (ask_ex i qa ql qc Q w hq hqn hql).mono ?_
  rintro e w' ⟨qa2, qc2, rfl, h, hb⟩
  have hl : Q.length = ql := hq.1
  subst hl
  exact ⟨_, rfl, ⟨qa2, qc2, none, 0, none, 0, none, 0, rfl, h, World.ownsRow_nil _ _ _ _, World.ownsRow_nil _ _ _ _, World.ownsRow_nil _ _ _ _⟩, hb⟩
/-- How large an answer may be. -/
def sizeO (X : List R5) (l k : Int) : Int := if (getO X).2.1 = true then (if k < (if (getO X).1.size < l then l else (getO X).1.size) then k else (if (getO X).1.size < l then l else (getO X).1.size)) else l
set_option maxRecDepth 100000 in
set_option maxHeartbeats 4000000 in
theorem sizeM_any (v : Value) (m : MsgP) (w : World) (l k : Int) (h : MsgAt w v m) (hs : m.x.length ≤ 100000) :
    Calls Try.prog 26 #[v, .int .i64 l, .int .i64 k] w fun e w' => e = .returned (.int .i64 (sizeO m.x l k)) ∧ Below w.heap.size w w' := by
  obtain ⟨qa, qc, na, nc, sa, sc, xa, xc, hv, h1, h2, h3, h4⟩ := h
  obtain ⟨Z, hZ⟩ : ∃ Z, sizeO m.x l k = Z := ⟨_, rfl⟩
  rw [hZ]
  rw [sizeO] at hZ
  obtain ⟨⟨⟨os, ov, orc, od, odt⟩, ok, oe⟩, hg⟩ : ∃ y, getO m.x = y := ⟨_, rfl⟩
  rw [hg] at hZ
  have hm : MsgAt w v m := ⟨qa, qc, na, nc, sa, sc, xa, xc, hv, h1, h2, h3, h4⟩
  obtain ⟨mi, mo, mr, b1, b2, b3, b4, b5, Q, A, N, X⟩ := m
  simp only at hv hg hs
  obtain ⟨ql, hql⟩ : ∃ y, Q.length = y := ⟨_, rfl⟩
  obtain ⟨nl, hnl⟩ : ∃ y, A.length = y := ⟨_, rfl⟩
  obtain ⟨sl, hsl⟩ : ∃ y, N.length = y := ⟨_, rfl⟩
  obtain ⟨xl, hxl⟩ : ∃ y, X.length = y := ⟨_, rfl⟩
  rw [hql, hnl, hsl, hxl] at hv
  have hb1 := (Below.refl w.heap.size w).alloc (Nat.le_refl _) (.cells #[.int .i64 mi, .int .i64 mo, .int .i64 mr, .bool b1, .bool b2, .bool b3, .bool b4, .bool b5, .slice qa ql qc, .slice na nl nc, .slice sa sl sc, .slice xa xl xc] 37)
  have HB1 := Lib.hid hb1
  have HM := Lib.hid (hm.below hb1)
  rw [hv] at HM
  have HG := Lib.hid hg
  have HS := Lib.hid hs
  have HZ := Lib.hid hZ
  clear hb1 hm h1 h2 h3 h4 hql hnl hsl hxl hg hs hZ
  subst hv
  go_enter Try.func26, Try.ntmps26
  go_wp2_with fail
  refine (getM_any _ _ _ HM.out HS.out).mono ?_; rintro e w2 ⟨rfl, hb⟩
  simp only [HG.out, optV]
  have HB2 := Lib.hid (HB1.out.trans (hb.mono HB1.out.size))
  have HB3 := Lib.hid (HB2.out.alloc HB2.out.size (.cells #[.int .i64 os, .int .i64 ov, .int .i64 orc, .bool od, .string odt] 42))
  clear hb
  cases ok with
  | false =>
    obtain rfl : l = Z := by have := HZ.out; simpa using this
    go_wp2
    go_ret
    exact ⟨rfl, HB3.out⟩
  | true =>
    have hz := HZ.out
    rw [if_pos rfl] at hz
    try simp only at hz
    by_cases c1 : os < l
    · rw [if_pos c1] at hz
      by_cases c2 : k < l
      · rw [if_pos c2] at hz
        subst hz
        go_wp2
        go_ret
        exact ⟨rfl, HB3.out⟩
      · rw [if_neg c2] at hz
        subst hz
        go_wp2
        go_ret
        exact ⟨rfl, HB3.out⟩
    · rw [if_neg c1] at hz
      by_cases c2 : k < os
      · rw [if_pos c2] at hz
        subst hz
        go_wp2
        go_ret
        exact ⟨rfl, HB3.out⟩
      · rw [if_neg c2] at hz
        subst hz
        go_wp2
        go_ret
        exact ⟨rfl, HB3.out⟩
end Go.Proofs.Ytgppkpdjpcegbaa
