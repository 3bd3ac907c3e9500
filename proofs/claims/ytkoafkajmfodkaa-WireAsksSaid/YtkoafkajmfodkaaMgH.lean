/- Texts that others rest on, one behind the other: AsP, AsM, AsN. -/
import Derived.Test.YtkoafkajmfodkaaRtD
import Derived.BigQuiet
import Derived.Deep.QuietTactic
import Derived.Deep.CutBlock
section
namespace Go.Proofs.Ytkoafkajmfodkaa
open Go.RowKit

/-- Section r (0, 1, 2) of a message, with more behind it. -/
def sec3 (m : MsgP) (r : Nat) (L : List R5) : MsgP := if r = 0 then { m with a := m.a ++ L } else if r = 1 then { m with n := m.n ++ L } else { m with x := m.x ++ L }
def Apt (v : Value) (q : Nat) : Prop := ∀ k, v.ownBlock = some k → (some q : Option Nat) ≠ some k
/-- A message in block q; its rows stand elsewhere. -/
def MsB (w : World) (B q : Nat) (m : MsgP) : Prop := ∃ (qa : Option Addr) (qc : Nat) (na : Option Addr) (nc : Nat) (sa : Option Addr) (sc : Nat) (xa : Option Addr) (xc : Nat),
  CN w q [.int .i64 m.i, .int .i64 m.o, .int .i64 m.r, .bool m.b1, .bool m.b2, .bool m.b3, .bool m.b4, .bool m.b5, .slice qa m.q.length qc, .slice na m.a.length nc, .slice sa m.n.length sc, .slice xa m.x.length xc] ∧
  (w.ownsRow B 70 3 (.slice qa m.q.length qc) m.q.length (flatQ m.q) ∧ Apt (.slice qa m.q.length qc) q) ∧ (w.ownsRow B 75 5 (.slice na m.a.length nc) m.a.length (flatR m.a) ∧ Apt (.slice na m.a.length nc) q) ∧ (w.ownsRow B 75 5 (.slice sa m.n.length sc) m.n.length (flatR m.n) ∧ Apt (.slice sa m.n.length sc) q) ∧ w.ownsRow B 75 5 (.slice xa m.x.length xc) m.x.length (flatR m.x) ∧ Apt (.slice xa m.x.length xc) q
theorem MsB.below {w w' : World} {B q : Nat} {m : MsgP} (h : MsB w B q m) (hb : Below w.heap.size w w') : MsB w' B q m := by
  obtain ⟨qa, qc, na, nc, sa, sc, xa, xc, h0, h1, h2, h3, h4⟩ := h
  exact ⟨qa, qc, na, nc, sa, sc, xa, xc, h0.below hb, ⟨own_below' h1.1 hb, h1.2⟩, ⟨own_below' h2.1 hb, h2.2⟩, ⟨own_below' h3.1 hb, h3.2⟩, own_below' h4.1 hb, h4.2⟩
theorem apt_new {w : World} {B q n size : Nat} {e : TypeId} {v : Value} {xs : List Value} (h : w.ownsRow B e size v n xs) (hq : q < B) : Apt v q := fun k hk e2 => by
  have := (h.lt k hk).1
  injection e2 with e2
  omega
theorem addS (B q r s : Nat) (hr : r < 3) (hs : s = r + 1) (m : MsgP) (la : Option Addr) (ll lc : Nat) (L : List R5) (w : World) (h : MsB w B q m) (hB : B ≤ w.heap.size) (hl : RowR w la ll L) (hln : la = none → ll = 0 ∧ lc = 0) (hz : m.a.length + ll ≤ 100000 ∧ m.n.length + ll ≤ 100000 ∧ m.x.length + ll ≤ 100000) :
    Calls Try.prog 36 #[.pointer (some ⟨q, 0, none⟩), .int .i64 (s : Int), .slice la ll lc] w fun e w' => e = .returned (.bool true) ∧ MsB w' B q (sec3 m r L) ∧ w.grownBy w' (some q) := by
  obtain ⟨qa, qc, na, nc, sa, sc, xa, xc, h0, h1, h2, h3, h4⟩ := h
  have hq : q < w.heap.size := h0.1
  have hle : L.length = ll := hl.1
  subst hs
  match r, hr with
  | 0, _ =>
    refine (add1 q _ _ _ _ _ _ _ _ _ _ _ na la m.a.length nc ll lc m.a L w h0 (rowR_own2 h2.1).1 (rowR_own2 h2.1).2 hl hln hz.1).mono ?_
    rintro e w' ⟨v, rfl, g0, g1, g2⟩
    have e : m.a.length + ll = (m.a ++ L).length := by rw [List.length_append, hle]
    rw [e] at g1
    obtain ⟨a2, c2, rfl, -⟩ := rowR_own g1
    exact ⟨rfl, ⟨qa, qc, a2, c2, sa, sc, xa, xc, g0, ⟨own_apart h1.1 g2 h1.2, h1.2⟩, ⟨own_mono4 g1 hB, apt_new g1 hq⟩, ⟨own_apart h3.1 g2 h3.2, h3.2⟩, own_apart h4.1 g2 h4.2, h4.2⟩, g2⟩
  | 1, _ =>
    refine (add2 q _ _ _ _ _ _ _ _ _ _ _ sa la m.n.length sc ll lc m.n L w h0 (rowR_own2 h3.1).1 (rowR_own2 h3.1).2 hl hln hz.2.1).mono ?_
    rintro e w' ⟨v, rfl, g0, g1, g2⟩
    have e : m.n.length + ll = (m.n ++ L).length := by rw [List.length_append, hle]
    rw [e] at g1
    obtain ⟨a2, c2, rfl, -⟩ := rowR_own g1
    exact ⟨rfl, ⟨qa, qc, na, nc, a2, c2, xa, xc, g0, ⟨own_apart h1.1 g2 h1.2, h1.2⟩, ⟨own_apart h2.1 g2 h2.2, h2.2⟩, ⟨own_mono4 g1 hB, apt_new g1 hq⟩, own_apart h4.1 g2 h4.2, h4.2⟩, g2⟩
  | 2, _ =>
    refine (add3 q _ _ _ _ _ _ _ _ _ _ _ xa la m.x.length xc ll lc m.x L w h0 (rowR_own2 h4.1).1 (rowR_own2 h4.1).2 hl hln hz.2.2).mono ?_
    rintro e w' ⟨v, rfl, g0, g1, g2⟩
    have e : m.x.length + ll = (m.x ++ L).length := by rw [List.length_append, hle]
    rw [e] at g1
    obtain ⟨a2, c2, rfl, -⟩ := rowR_own g1
    exact ⟨rfl, ⟨qa, qc, na, nc, sa, sc, a2, c2, g0, ⟨own_apart h1.1 g2 h1.2, h1.2⟩, ⟨own_apart h2.1 g2 h2.2, h2.2⟩, ⟨own_apart h3.1 g2 h3.2, h3.2⟩, own_mono4 g1 hB, apt_new g1 hq⟩, g2⟩
def r50 : R5 := ⟨⟨⟨#[]⟩, 0, 0⟩, 0, ⟨#[]⟩⟩
/-- The first k records, laid into the sections by turns. -/
def asg (m : MsgP) (L : List R5) : Nat → MsgP
  | 0 => m
  | k + 1 => sec3 (asg m L k) (k % 3) [L.getD k r50]
theorem asg_parts (m : MsgP) (L : List R5) (hm : m.a = [] ∧ m.n = [] ∧ m.x = []) : ∀ k, (asg m L k).a.length = (k + 2) / 3 ∧ (asg m L k).n.length = (k + 1) / 3 ∧ (asg m L k).x.length = k / 3 ∧
    (∀ j, 3 * j < k → (asg m L k).a[j]? = some (L.getD (3 * j) r50)) ∧ (∀ j, 3 * j + 1 < k → (asg m L k).n[j]? = some (L.getD (3 * j + 1) r50)) ∧ (∀ j, 3 * j + 2 < k → (asg m L k).x[j]? = some (L.getD (3 * j + 2) r50))
  | 0 => by
    obtain ⟨h1, h2, h3⟩ := hm
    refine ⟨by rw [asg, h1]; rfl, by rw [asg, h2]; rfl, by rw [asg, h3]; rfl, fun j hj => by omega, fun j hj => by omega, fun j hj => by omega⟩
  | k + 1 => by
    obtain ⟨l1, l2, l3, g1, g2, g3⟩ := asg_parts m L hm k
    have hk3 : k % 3 = 0 ∨ k % 3 = 1 ∨ k % 3 = 2 := by omega
    rcases hk3 with e | e | e
    · have ea : asg m L (k + 1) = { asg m L k with a := (asg m L k).a ++ [L.getD k r50] } := by rw [asg, sec3, if_pos e]
      rw [ea]
      refine ⟨?_, ?_, ?_, fun j hj => ?_, fun j hj => ?_, fun j hj => ?_⟩
      · show ((asg m L k).a ++ [L.getD k r50]).length = _
        rw [List.length_append, l1, List.length_singleton]; omega
      · show (asg m L k).n.length = _
        omega
      · show (asg m L k).x.length = _
        omega
      · show ((asg m L k).a ++ [L.getD k r50])[j]? = _
        by_cases hj2 : 3 * j < k
        · rw [List.getElem?_append_left (by omega)]; exact g1 j hj2
        · rw [List.getElem?_append_right (by omega), show j - (asg m L k).a.length = 0 by omega, show k = 3 * j by omega]; rfl
      · exact g2 j (by omega)
      · exact g3 j (by omega)
    · have ea : asg m L (k + 1) = { asg m L k with n := (asg m L k).n ++ [L.getD k r50] } := by rw [asg, sec3, if_neg (by omega), if_pos e]
      rw [ea]
      refine ⟨?_, ?_, ?_, fun j hj => ?_, fun j hj => ?_, fun j hj => ?_⟩
      · show (asg m L k).a.length = _
        omega
      · show ((asg m L k).n ++ [L.getD k r50]).length = _
        rw [List.length_append, l2, List.length_singleton]; omega
      · show (asg m L k).x.length = _
        omega
      · exact g1 j (by omega)
      · show ((asg m L k).n ++ [L.getD k r50])[j]? = _
        by_cases hj2 : 3 * j + 1 < k
        · rw [List.getElem?_append_left (by omega)]; exact g2 j hj2
        · rw [List.getElem?_append_right (by omega), show j - (asg m L k).n.length = 0 by omega, show k = 3 * j + 1 by omega]; rfl
      · exact g3 j (by omega)
    · have ea : asg m L (k + 1) = { asg m L k with x := (asg m L k).x ++ [L.getD k r50] } := by rw [asg, sec3, if_neg (by omega), if_neg (by omega)]
      rw [ea]
      refine ⟨?_, ?_, ?_, fun j hj => ?_, fun j hj => ?_, fun j hj => ?_⟩
      · show (asg m L k).a.length = _
        omega
      · show (asg m L k).n.length = _
        omega
      · show ((asg m L k).x ++ [L.getD k r50]).length = _
        rw [List.length_append, l3, List.length_singleton]; omega
      · exact g1 j (by omega)
      · exact g2 j (by omega)
      · show ((asg m L k).x ++ [L.getD k r50])[j]? = _
        by_cases hj2 : 3 * j + 2 < k
        · rw [List.getElem?_append_left (by omega)]; exact g3 j hj2
        · rw [List.getElem?_append_right (by omega), show j - (asg m L k).x.length = 0 by omega, show k = 3 * j + 2 by omega]; rfl
/-- Where the records of section s begin, all told one behind the other. -/
def secAt (n s : Nat) : Nat := if s = 0 then 0 else if s = 1 then (n + 2) / 3 else if s = 2 then (n + 2) / 3 + (n + 1) / 3 else n
theorem asg_all (m : MsgP) (L : List R5) (hm : m.a = [] ∧ m.n = [] ∧ m.x = []) (s j : Nat) (hs : s < 3) (hj : s + 3 * j < L.length) :
    ((asg m L L.length).a ++ ((asg m L L.length).n ++ (asg m L L.length).x))[secAt L.length s + j]? = some (L.getD (s + 3 * j) r50) := by
  obtain ⟨l1, l2, l3, g1, g2, g3⟩ := asg_parts m L hm L.length
  match s, hs with
  | 0, _ =>
    rw [show secAt L.length 0 + j = j by simp [secAt], List.getElem?_append_left (by omega), Nat.zero_add]
    exact g1 j (by omega)
  | 1, _ =>
    rw [show secAt L.length 1 + j = (L.length + 2) / 3 + j by simp [secAt], List.getElem?_append_right (by omega), show (L.length + 2) / 3 + j - (asg m L L.length).a.length = j by omega, List.getElem?_append_left (by omega), Nat.add_comm 1]
    exact g2 j (by omega)
  | 2, _ =>
    rw [show secAt L.length 2 + j = (L.length + 2) / 3 + (L.length + 1) / 3 + j by simp [secAt], List.getElem?_append_right (by omega), List.getElem?_append_right (by omega), show (L.length + 2) / 3 + (L.length + 1) / 3 + j - (asg m L L.length).a.length - (asg m L L.length).n.length = j by omega, Nat.add_comm 2]
    exact g3 j (by omega)
theorem asg_len (m : MsgP) (L : List R5) (hm : m.a = [] ∧ m.n = [] ∧ m.x = []) : (asg m L L.length).a.length + (asg m L L.length).n.length + (asg m L L.length).x.length = L.length := by
  obtain ⟨l1, l2, l3, -⟩ := asg_parts m L hm L.length
  omega
theorem asg_head (m : MsgP) (L : List R5) : ∀ k, (asg m L k).i = m.i ∧ (asg m L k).o = m.o ∧ (asg m L k).r = m.r ∧ (asg m L k).b1 = m.b1 ∧ (asg m L k).b2 = m.b2 ∧ (asg m L k).b3 = m.b3 ∧ (asg m L k).b4 = m.b4 ∧ (asg m L k).b5 = m.b5 ∧ (asg m L k).q = m.q
  | 0 => ⟨rfl, rfl, rfl, rfl, rfl, rfl, rfl, rfl, rfl⟩
  | k + 1 => by
    have h := asg_head m L k
    rw [asg, sec3]
    split
    · exact h
    · split
      · exact h
      · exact h
end Go.Proofs.Ytkoafkajmfodkaa
end

section
namespace Go.Proofs.Ytkoafkajmfodkaa
open Go.RowKit

theorem nmay_all (s : ByteArray) (w : World) (hs : s.size ≤ 9223372036854775807) : Calls Try.prog 90 #[.string s] w fun e w' => e = .returned (.bool (mayN s)) ∧ w = w' := by
  by_cases h : s.size ≤ 1000000
  · exact nmay_any s w h
  · have e1 : ((s.size : Int) == 0) = false := eF (by omega)
    have e2 := dT (p := (255 : Int) < (s.size : Int)) (by omega)
    have HN := Lib.hid (may_256 (s := s) (by omega))
    clear h hs
    go_enter Try.func90, Try.ntmps90
    go_wp2
    go_ret
    exact ⟨ret_bool HN.out.symm, rfl⟩
set_option maxRecDepth 100000 in
set_option maxHeartbeats 2000000 in
theorem mayAsk_all (n : ByteArray) (t c : Int) (w : World) (hn : n.size ≤ 9223372036854775807) : Calls Try.prog 60 #[.agg #[.string n, .int .i64 t, .int .i64 c]] w fun e w' => e = .returned (.bool (mayK ⟨n, t, c⟩)) ∧ Below w.heap.size w w' := by
  have HB := Lib.hid ((Below.refl w.heap.size w).alloc (Nat.le_refl _) (.cells #[.string n, .int .i64 t, .int .i64 c] 70))
  have HV := Lib.hid (show mayK ⟨n, t, c⟩ = (mayN n && (inR t 65535 && inR c 65535)) from rfl)
  rw [HV.out]
  clear HV
  cases h1 : mayN n
  · have H1 := Lib.hid h1
    clear h1
    go_enter Try.func60, Try.ntmps60
    go_wp2_with fail
    refine (nmay_all n _ hn).mono ?_; rintro e w1 ⟨rfl, rfl⟩
    rw [H1.out]
    go_wp2
    go_ret
    exact ⟨rfl, HB.out⟩
  · have H1 := Lib.hid h1
    clear h1
    cases h2 : inR t 65535
    · have H2 := Lib.hid h2
      clear h2
      go_enter Try.func60, Try.ntmps60
      go_wp2_with fail
      refine (nmay_all n _ hn).mono ?_; rintro e w1 ⟨rfl, rfl⟩
      rw [H1.out]
      go_wp2_with fail
      refine (wfits_any _ _ _).mono ?_; rintro e w1 ⟨rfl, rfl⟩
      rw [H2.out]
      go_wp2
      go_ret
      exact ⟨rfl, HB.out⟩
    · have H2 := Lib.hid h2
      clear h2
      go_enter Try.func60, Try.ntmps60
      go_wp2_with fail
      refine (nmay_all n _ hn).mono ?_; rintro e w1 ⟨rfl, rfl⟩
      rw [H1.out]
      go_wp2_with fail
      refine (wfits_any _ _ _).mono ?_; rintro e w1 ⟨rfl, rfl⟩
      rw [H2.out]
      go_wp2_with fail
      refine (wfits_any _ _ _).mono ?_; rintro e w1 ⟨rfl, rfl⟩
      go_wp2
      go_ret
      exact ⟨rfl, HB.out⟩
set_option maxRecDepth 100000 in
set_option maxHeartbeats 8000000 in
theorem may_all5 (mi mo mr : Int) (b1 b2 b3 b4 b5 : Bool) (qa na sa xa : Option Addr) (ql qc nl nc sl sc xl xc : Nat) (Q : List Ky) (A N X : List R5) (w : World) (hq : RowQ w qa ql Q) (ha : RowR w na nl A) (hn : RowR w sa sl N) (hx : RowR w xa xl X) (hl : ql ≤ 100000 ∧ nl ≤ 100000 ∧ sl ≤ 100000 ∧ xl ≤ 100000) (hz : ∀ r ∈ Q, r.n.size ≤ 9223372036854775807) (hza : SzN A) (hzn : SzN N) (hzx : SzN X) :
    Calls Try.prog 23 #[.agg #[.int .i64 mi, .int .i64 mo, .int .i64 mr, .bool b1, .bool b2, .bool b3, .bool b4, .bool b5, .slice qa ql qc, .slice na nl nc, .slice sa sl sc, .slice xa xl xc]] w fun e w' => e = .returned (.bool (mayM mi mo mr Q A N X)) ∧ Below w.heap.size w w' := by
  have hb1 := (Below.refl w.heap.size w).alloc (Nat.le_refl _) (.cells #[.int .i64 mi, .int .i64 mo, .int .i64 mr, .bool b1, .bool b2, .bool b3, .bool b4, .bool b5, .slice qa ql qc, .slice na nl nc, .slice sa sl sc, .slice xa xl xc] 27)
  have HC := Lib.hid (CN.new w #[.int .i64 mi, .int .i64 mo, .int .i64 mr, .bool b1, .bool b2, .bool b3, .bool b4, .bool b5, .slice qa ql qc, .slice na nl nc, .slice sa sl sc, .slice xa xl xc] 27)
  have HQ := Lib.hid (hq.below hb1)
  have HRA := Lib.hid (ha.below hb1)
  have HRN := Lib.hid (hn.below hb1)
  have HRX := Lib.hid (hx.below hb1)
  have HB := Lib.hid hb1
  have HZ := Lib.hid hz
  have HZX := Lib.hid hzx
  have HZA := Lib.hid hza
  have HZN := Lib.hid hzn
  have HLS := Lib.hid (show Q.length = ql ∧ A.length = nl ∧ N.length = sl ∧ X.length = xl from ⟨hq.1, ha.1, hn.1, hx.1⟩)
  have HLL := Lib.hid hl
  clear hb1 hq ha hn hx hz hza hzn hzx
  have HV := Lib.hid (show mayM mi mo mr Q A N X = (headM mi mo mr && (decide (Q.length + A.length + N.length + X.length ≤ 300) && (Q.all mayK && (X.all mayX && (A.all mayRr && N.all mayRr))))) from rfl)
  cases g1 : inR mi 65535
  · have HE := Lib.hid (show mayM mi mo mr Q A N X = false by rw [HV.out, headM, g1]; rfl)
    have G1 := Lib.hid g1
    clear g1
    go_enter Try.func23, Try.ntmps23
    go_wp2_with fail
    refine (wfits_any _ _ _).mono ?_; rintro e w1 ⟨rfl, rfl⟩
    rw [G1.out]
    go_wp2
    go_ret
    exact ⟨ret_bool HE.out.symm, HB.out⟩
  have G1 := Lib.hid g1
  cases g2 : inR mo 15
  · have HE := Lib.hid (show mayM mi mo mr Q A N X = false by rw [HV.out, headM, g1, g2]; rfl)
    have G2 := Lib.hid g2
    clear g1 g2
    go_enter Try.func23, Try.ntmps23
    go_wp2_with fail
    refine (wfits_any _ _ _).mono ?_; rintro e w1 ⟨rfl, rfl⟩
    rw [G1.out]
    go_wp2_with fail
    refine (wfits_any _ _ _).mono ?_; rintro e w1 ⟨rfl, rfl⟩
    rw [G2.out]
    go_wp2
    go_ret
    exact ⟨ret_bool HE.out.symm, HB.out⟩
  have G2 := Lib.hid g2
  cases g3 : inR mr 15
  · have HE := Lib.hid (show mayM mi mo mr Q A N X = false by rw [HV.out, headM, g1, g2, g3]; rfl)
    have G3 := Lib.hid g3
    clear g1 g2 g3
    go_enter Try.func23, Try.ntmps23
    go_wp2_with fail
    refine (wfits_any _ _ _).mono ?_; rintro e w1 ⟨rfl, rfl⟩
    rw [G1.out]
    go_wp2_with fail
    refine (wfits_any _ _ _).mono ?_; rintro e w1 ⟨rfl, rfl⟩
    rw [G2.out]
    go_wp2_with fail
    refine (wfits_any _ _ _).mono ?_; rintro e w1 ⟨rfl, rfl⟩
    rw [G3.out]
    go_wp2
    go_ret
    exact ⟨ret_bool HE.out.symm, HB.out⟩
  have G3 := Lib.hid g3
  have HHD := Lib.hid (show headM mi mo mr = true by rw [headM, g1, g2, g3]; rfl)
  clear g1 g2 g3
  obtain ⟨t1, ht1⟩ : ∃ x, ql + nl = x := ⟨_, rfl⟩
  obtain ⟨t2, ht2⟩ : ∃ x, t1 + sl = x := ⟨_, rfl⟩
  obtain ⟨t3, ht3⟩ : ∃ x, t2 + xl = x := ⟨_, rfl⟩
  have p1 : IntKind.i64.wrap ((ql : Int) + (nl : Int)) = (t1 : Int) := by have := HLL.out; rw [IntKind.wrap_i64]; omega
  have p2 : IntKind.i64.wrap ((t1 : Int) + (sl : Int)) = (t2 : Int) := by have := HLL.out; rw [IntKind.wrap_i64]; omega
  have p3 : IntKind.i64.wrap ((t2 : Int) + (xl : Int)) = (t3 : Int) := by have := HLL.out; rw [IntKind.wrap_i64]; omega
  have HT3 := Lib.hid (show Q.length + A.length + N.length + X.length = t3 by have := HLS.out; omega)
  clear ht1 ht2 ht3
  by_cases g4 : 300 < t3
  · have HE := Lib.hid (show mayM mi mo mr Q A N X = false by rw [HV.out, HHD.out, dF (p := Q.length + A.length + N.length + X.length ≤ 300) (by have := HT3.out; omega)]; rfl)
    have d4 := dT (p := (300 : Int) < (t3 : Int)) (by omega)
    clear g4
    go_enter Try.func23, Try.ntmps23
    go_wp2_with fail
    refine (wfits_any _ _ _).mono ?_; rintro e w1 ⟨rfl, rfl⟩
    rw [G1.out]
    go_wp2_with fail
    refine (wfits_any _ _ _).mono ?_; rintro e w1 ⟨rfl, rfl⟩
    rw [G2.out]
    go_wp2_with fail
    refine (wfits_any _ _ _).mono ?_; rintro e w1 ⟨rfl, rfl⟩
    rw [G3.out]
    go_wp2
    go_ret
    exact ⟨ret_bool HE.out.symm, HB.out⟩
  have HE := Lib.hid (show mayM mi mo mr Q A N X = (Q.all mayK && (X.all mayX && (A.all mayRr && N.all mayRr))) by rw [HV.out, HHD.out, dT (p := Q.length + A.length + N.length + X.length ≤ 300) (by have := HT3.out; omega)]; rfl)
  have d4 := dF (p := (300 : Int) < (t3 : Int)) (by omega)
  clear g4 HV
  go_enter Try.func23, Try.ntmps23
  go_wp2_with fail
  refine (wfits_any _ _ _).mono ?_; rintro e w1 ⟨rfl, rfl⟩
  rw [G1.out]
  go_wp2_with fail
  refine (wfits_any _ _ _).mono ?_; rintro e w1 ⟨rfl, rfl⟩
  rw [G2.out]
  go_wp2_with fail
  refine (wfits_any _ _ _).mono ?_; rintro e w1 ⟨rfl, rfl⟩
  rw [G3.out]
  go_wp2_with fail
  clear p1 p2 p3 d4
  obtain ⟨w1, hw1⟩ : ∃ x, w.alloc (.cells #[.int .i64 mi, .int .i64 mo, .int .i64 mr, .bool b1, .bool b2, .bool b3, .bool b4, .bool b5, .slice qa ql qc, .slice na nl nc, .slice sa sl sc, .slice xa xl xc] 27) = x := ⟨_, rfl⟩
  obtain ⟨q, hq⟩ : ∃ x, w.heap.size = x := ⟨_, rfl⟩
  rw [hw1] at HC HQ HB HRA HRN HRX ⊢
  rw [hq] at HC
  rw [show (Value.pointer (some { block := w.heap.size, off := 0 })) = Value.pointer (some { block := q, off := 0 }) by rw [hq]]
  clear hw1 hq
  have hql := HLL.out.1
  go_loopw [45] (fun i wr => ∃ k : Nat, k ≤ ql ∧ i = .int .i64 k ∧ Hid (Below w1.heap.size w1 wr) ∧ Hid (∀ j r, j < k → Q[j]? = some r → mayK r = true)) (fun i _ => ql - (intOf i).toNat)
  case atStart => exact ⟨0, by omega, rfl, Lib.hid (Below.refl _ _), Lib.hid (fun j r hj _ => absurd hj (by omega))⟩
  case round =>
    obtain ⟨k, hk, rfl, HW, HA⟩ := hrel
    by_cases hlt : k < ql
    · obtain ⟨b, o, r, rfl, hbl, hr, c0, c1, c2⟩ := (HQ.out.below HW.out).at k hlt
      obtain ⟨n, t, c⟩ := r
      have hsz : n.size ≤ 9223372036854775807 := HZ.out ⟨n, t, c⟩ (List.mem_of_getElem? hr)
      have HR := Lib.hid hr
      have hba := (Below.refl _ _ : Below wr.heap.size wr wr).alloc (Nat.le_refl _) (.cells #[.string n, .int .i64 t, .int .i64 c] 70)
      have HW2 := Lib.hid (HW.out.trans (hba.mono HW.out.size))
      replace c0 : wr.cell? ⟨b, o + k * 3, none⟩ = some (.string n) := c0
      replace c1 : wr.cell? ⟨b, o + k * 3 + 1, none⟩ = some (.int .i64 t) := c1
      replace c2 : wr.cell? ⟨b, o + k * 3 + 2, none⟩ = some (.int .i64 c) := c2
      clear hr hba hbl
      cases hm : mayK ⟨n, t, c⟩
      · have HNN := Lib.hid (show mayM mi mo mr Q A N X = false by
          rw [HE.out]
          cases h2 : Q.all mayK
          · rfl
          · have := List.all_eq_true.1 h2 _ (List.mem_of_getElem? HR.out)
            rw [hm] at this; cases this)
        have HM := Lib.hid hm
        clear hm
        go_wp2_with fail
        refine (mayAsk_all n t c _ hsz).mono ?_; rintro e w3 ⟨rfl, hb⟩
        have HW3 := Lib.hid (HB.out.trans ((HW2.out.trans (hb.mono HW2.out.size)).mono HB.out.size))
        rw [HM.out]
        clear hb c0 c1 c2
        go_wp2
        go_ret
        exact ⟨ret_bool HNN.out.symm, HW3.out⟩
      · have HM := Lib.hid hm
        have HA2 := Lib.hid (show ∀ j r, j < k + 1 → Q[j]? = some r → mayK r = true from fun j r hj h2 => by
          by_cases e : j = k
          · subst e; rw [HR.out] at h2; obtain rfl := Option.some.inj h2; exact hm
          · exact HA.out j r (by omega) h2)
        clear hm
        go_wp2_with fail
        refine (mayAsk_all n t c _ hsz).mono ?_; rintro e w3 ⟨rfl, hb⟩
        have HW3 := Lib.hid (HW2.out.trans (hb.mono HW2.out.size))
        rw [HM.out]
        clear hb c0 c1 c2
        go_wp2
        go_roundw
        case rel => exact ⟨k + 1, by omega, by go_num, HW3, HA2⟩
        case measure => simp [intOf]; omega
    · obtain rfl : k = ql := by omega
      have HN := Lib.hid (show Q.all mayK = true from List.all_eq_true.2 (fun r hr => by
        obtain ⟨j, hj, rfl⟩ := List.mem_iff_getElem.1 hr
        exact HA.out j _ (by have := HLS.out; omega) (List.getElem?_eq_getElem hj)))
      have HE2 := Lib.hid (show mayM mi mo mr Q A N X = (X.all mayX && (A.all mayRr && N.all mayRr)) by rw [HE.out, HN.out, Bool.true_and])
      clear hlt hk hql
      obtain ⟨y0, y1, y2, y3, y4, y5, y6, y7, y8, y9, y10, y11, -⟩ := (HC.out.below HW.out).u12
      go_wp2_with fail
      clear y0 y1 y2 y3 y4 y5 y6 y7 y8 y9 y10 y11
      have hxl := HLL.out.2.2.2
      obtain ⟨v0, hv0⟩ : ∃ x, wr = x := ⟨_, rfl⟩
      rw [hv0] at HW ⊢
      clear hv0
      go_loopw [56] (fun i wx => ∃ j : Nat, j ≤ xl ∧ i = .int .i64 j ∧ Hid (Below v0.heap.size v0 wx) ∧ Hid (∀ i r, i < j → X[i]? = some r → mayX r = true)) (fun i _ => xl - (intOf i).toNat)
      case atStart => exact ⟨0, by omega, rfl, Lib.hid (Below.refl _ _), Lib.hid (fun j r hj _ => absurd hj (by omega))⟩
      case round =>
        obtain ⟨j, hj, rfl, HV, HA⟩ := hrel
        have HWV := Lib.hid (HW.out.trans (HV.out.mono HW.out.size))
        by_cases hlt : j < xl
        · obtain ⟨b, o, r, rfl, hbl, hr, c0, c1, c2, c3, c4⟩ := (HRX.out.below HWV.out).at j hlt
          obtain ⟨⟨rn, rt, rc⟩, ru, rd⟩ := r
          obtain ⟨z1, z2⟩ := HZX.out _ (List.mem_of_getElem? hr)
          replace z1 : rn.size ≤ 1000000 := z1
          replace z2 : rd.size ≤ 1000000 := z2
          have HRK := Lib.hid hr
          have hba := (Below.refl _ _ : Below wr.heap.size wr wr).alloc (Nat.le_refl _) (.cells #[.string rn, .int .i64 rt, .int .i64 rc, .int .i64 ru, .string rd] 75)
          have HE5 := Lib.hid (CN.new wr #[.string rn, .int .i64 rt, .int .i64 rc, .int .i64 ru, .string rd] 75)
          have HV2 := Lib.hid (HV.out.trans (hba.mono HV.out.size))
          obtain ⟨g5, hg5⟩ : ∃ x, wr.heap.size = x := ⟨_, rfl⟩
          obtain ⟨w5, hw5⟩ : ∃ x, wr.alloc (.cells #[.string rn, .int .i64 rt, .int .i64 rc, .int .i64 ru, .string rd] 75) = x := ⟨_, rfl⟩
          rw [hw5] at HE5 HV2
          rw [hg5] at HE5
          replace c0 : wr.cell? ⟨b, o + j * 5, none⟩ = some (.string rn) := c0
          replace c1 : wr.cell? ⟨b, o + j * 5 + 1, none⟩ = some (.int .i64 rt) := c1
          replace c2 : wr.cell? ⟨b, o + j * 5 + 2, none⟩ = some (.int .i64 rc) := c2
          replace c3 : wr.cell? ⟨b, o + j * 5 + 3, none⟩ = some (.int .i64 ru) := c3
          replace c4 : wr.cell? ⟨b, o + j * 5 + 4, none⟩ = some (.string rd) := c4
          clear hr hbl hba
          cases hm : mayRr ⟨⟨rn, rt, rc⟩, ru, rd⟩
          · cases hm2 : mayO ⟨⟨rn, rt, rc⟩, ru, rd⟩
            · have HNN := Lib.hid (show mayM mi mo mr Q A N X = false by
                rw [HE2.out]
                cases h2 : X.all mayX
                · rfl
                · have := List.all_eq_true.1 h2 _ (List.mem_of_getElem? HRK.out)
                  unfold mayX at this
                  rw [hm, hm2] at this; cases this)
              have HM := Lib.hid (show mayR rn rt rc ru rd = false from hm)
              have HM2 := Lib.hid hm2
              clear hm hm2
              obtain ⟨e0, e1, e2, e3, e4⟩ := cn5m HE5.out
              go_wp2_with fail
              refine (mayRR_any rn rt rc ru rd _ z1 z2).mono ?_; rintro e w3 ⟨rfl, hb⟩
              have HV3 := Lib.hid (HV2.out.trans (hb.mono HV2.out.size))
              replace HE5 := Lib.hid (HE5.out.below hb)
              rw [HM.out]
              clear hb c0 c1 c2 c3 c4 hw5 hg5 e0 e1 e2 e3 e4
              obtain ⟨e0, e1, e2, e3, e4⟩ := cn5m HE5.out
              go_wp2_with fail
              refine (mayOpt_any rn rt rc ru rd _).mono ?_; rintro e w4 ⟨rfl, hb⟩
              have HV4 := Lib.hid (HV3.out.trans (hb.mono HV3.out.size))
              rw [HM2.out]
              clear hb e0 e1 e2 e3 e4
              go_wp2
              go_ret
              exact ⟨ret_bool HNN.out.symm, HB.out.trans ((HW.out.trans (HV4.out.mono HW.out.size)).mono HB.out.size)⟩
            · have HM := Lib.hid (show mayR rn rt rc ru rd = false from hm)
              have HM2 := Lib.hid hm2
              have HA2 := Lib.hid (show ∀ i r, i < j + 1 → X[i]? = some r → mayX r = true from fun i r hj h2 => by
                by_cases e : i = j
                · subst e; rw [HRK.out] at h2; obtain rfl := Option.some.inj h2; unfold mayX; rw [hm, hm2]; rfl
                · exact HA.out i r (by omega) h2)
              clear hm hm2
              obtain ⟨e0, e1, e2, e3, e4⟩ := cn5m HE5.out
              go_wp2_with fail
              refine (mayRR_any rn rt rc ru rd _ z1 z2).mono ?_; rintro e w3 ⟨rfl, hb⟩
              have HV3 := Lib.hid (HV2.out.trans (hb.mono HV2.out.size))
              replace HE5 := Lib.hid (HE5.out.below hb)
              rw [HM.out]
              clear hb c0 c1 c2 c3 c4 hw5 hg5 e0 e1 e2 e3 e4
              obtain ⟨e0, e1, e2, e3, e4⟩ := cn5m HE5.out
              go_wp2_with fail
              refine (mayOpt_any rn rt rc ru rd _).mono ?_; rintro e w4 ⟨rfl, hb⟩
              have HV4 := Lib.hid (HV3.out.trans (hb.mono HV3.out.size))
              rw [HM2.out]
              clear hb e0 e1 e2 e3 e4
              go_wp2
              go_roundw
              case rel => exact ⟨j + 1, by omega, by go_num, HV4, HA2⟩
              case measure => simp [intOf]; omega
          · have HM := Lib.hid (show mayR rn rt rc ru rd = true from hm)
            have HA2 := Lib.hid (show ∀ i r, i < j + 1 → X[i]? = some r → mayX r = true from fun i r hj h2 => by
              by_cases e : i = j
              · subst e; rw [HRK.out] at h2; obtain rfl := Option.some.inj h2; unfold mayX; rw [hm]; rfl
              · exact HA.out i r (by omega) h2)
            clear hm
            obtain ⟨e0, e1, e2, e3, e4⟩ := cn5m HE5.out
            go_wp2_with fail
            refine (mayRR_any rn rt rc ru rd _ z1 z2).mono ?_; rintro e w3 ⟨rfl, hb⟩
            clear e0 e1 e2 e3 e4
            have HV3 := Lib.hid (HV2.out.trans (hb.mono HV2.out.size))
            rw [HM.out]
            clear hb c0 c1 c2 c3 c4 hw5 hg5
            go_wp2
            go_roundw
            case rel => exact ⟨j + 1, by omega, by go_num, HV3, HA2⟩
            case measure => simp [intOf]; omega
        · obtain rfl : j = xl := by omega
          have HNX := Lib.hid (show X.all mayX = true from List.all_eq_true.2 (fun r hr => by
            obtain ⟨i, hi, rfl⟩ := List.mem_iff_getElem.1 hr
            exact HA.out i _ (by have := HLS.out; omega) (List.getElem?_eq_getElem hi)))
          have HE3 := Lib.hid (show mayM mi mo mr Q A N X = (A.all mayRr && N.all mayRr) by rw [HE2.out, HNX.out, Bool.true_and])
          clear hlt hj hxl
          obtain ⟨y0, y1, y2, y3, y4, y5, y6, y7, y8, y9, y10, y11, -⟩ := (HC.out.below HWV.out).u12
          go_wp2_with fail
          refine (mayAll_any na nl nc A _ (HRA.out.below HWV.out) HLL.out.2.1 HZA.out).mono ?_; rintro e w4 ⟨rfl, hb⟩
          have HW4 := Lib.hid (HWV.out.trans (hb.mono HWV.out.size))
          clear hb y0 y1 y2 y3 y4 y5 y6 y7 y8 y9 y10 y11
          cases ha : A.all mayRr
          · have HNN := Lib.hid (show mayM mi mo mr Q A N X = false by rw [HE3.out, ha]; rfl)
            clear ha
            go_wp2
            go_ret
            exact ⟨ret_bool HNN.out.symm, HB.out.trans (HW4.out.mono HB.out.size)⟩
          · have HNN := Lib.hid (show mayM mi mo mr Q A N X = N.all mayRr by rw [HE3.out, ha]; rfl)
            clear ha
            obtain ⟨y0, y1, y2, y3, y4, y5, y6, y7, y8, y9, y10, y11, -⟩ := (HC.out.below HW4.out).u12
            go_wp2_with fail
            refine (mayAll_any sa sl sc N _ (HRN.out.below HW4.out) HLL.out.2.2.1 HZN.out).mono ?_; rintro e w5 ⟨rfl, hb⟩
            have HW5 := Lib.hid (HW4.out.trans (hb.mono HW4.out.size))
            clear hb y0 y1 y2 y3 y4 y5 y6 y7 y8 y9 y10 y11
            go_wp2
            go_ret
            exact ⟨ret_bool HNN.out.symm, HB.out.trans (HW5.out.mono HB.out.size)⟩
set_option maxRecDepth 100000 in
set_option maxHeartbeats 8000000 in
theorem encode_bad (mi mo mr : Int) (b1 b2 b3 b4 b5 : Bool) (most : Int) (qa na sa xa : Option Addr) (ql qc nl nc sl sc xl xc : Nat) (Q : List Ky) (A N X : List R5) (w : World) (hq : RowQ w qa ql Q) (ha : RowR w na nl A) (han : na = none → nl = 0 ∧ nc = 0) (hn : RowR w sa sl N) (hnn : sa = none → sl = 0 ∧ sc = 0) (hx : RowR w xa xl X) (hxn : xa = none → xl = 0 ∧ xc = 0) (hl : ql ≤ 100000 ∧ nl ≤ 30000 ∧ sl ≤ 30000 ∧ xl ≤ 30000) (hz : ∀ r ∈ Q, r.n.size ≤ 9223372036854775807) (hmay : mayM mi mo mr Q A N X = false) (hza : SzN A) (hzn : SzN N) (hzx : SzN X) :
    Calls Try.prog 17 #[.agg #[.int .i64 mi, .int .i64 mo, .int .i64 mr, .bool b1, .bool b2, .bool b3, .bool b4, .bool b5, .slice qa ql qc, .slice na nl nc, .slice sa sl sc, .slice xa xl xc], .int .i64 most] w fun e w' => ∃ v, e = .returned (.tuple #[v, .int .i64 (encEG mi mo mr b1 b2 b3 b4 b5 Q A N X most)]) ∧ w'.ownsRow w.heap.size 5 1 v (encLG mi mo mr b1 b2 b3 b4 b5 Q A N X most).length (bc (encLG mi mo mr b1 b2 b3 b4 b5 Q A N X most)) ∧ Below w.heap.size w w' := by
  have HMY := Lib.hid hmay
  clear hmay
  have hb1 := (Below.refl w.heap.size w).alloc (Nat.le_refl _) (.cells #[.int .i64 mi, .int .i64 mo, .int .i64 mr, .bool b1, .bool b2, .bool b3, .bool b4, .bool b5, .slice qa ql qc, .slice na nl nc, .slice sa sl sc, .slice xa xl xc] 27)
  have HC := Lib.hid (CN.new w #[.int .i64 mi, .int .i64 mo, .int .i64 mr, .bool b1, .bool b2, .bool b3, .bool b4, .bool b5, .slice qa ql qc, .slice na nl nc, .slice sa sl sc, .slice xa xl xc] 27)
  have HQ := Lib.hid (hq.below hb1)
  have HB := Lib.hid hb1
  have HRA := Lib.hid (ha.below hb1)
  have HRN := Lib.hid (hn.below hb1)
  have HRX := Lib.hid (hx.below hb1)
  have HNO := Lib.hid (show (na = none → nl = 0 ∧ nc = 0) ∧ (sa = none → sl = 0 ∧ sc = 0) ∧ (xa = none → xl = 0 ∧ xc = 0) from ⟨han, hnn, hxn⟩)
  have HLL := Lib.hid hl
  have HZ := Lib.hid hz
  have HZA := Lib.hid (show SzN A ∧ SzN N ∧ SzN X from ⟨hza, hzn, hzx⟩)
  have HQL := Lib.hid (show Q.length = ql ∧ A.length = nl ∧ N.length = sl ∧ X.length = xl from ⟨hq.1, ha.1, hn.1, hx.1⟩)
  clear hb1 hq ha han hn hnn hx hxn hl hz hza hzn hzx
  have hmm := @run_makeMap Try.prog
  go_enter Try.func17, Try.ntmps17
  go_wp2_with fail
  refine (may_all5 mi mo mr b1 b2 b3 b4 b5 qa na sa xa ql qc nl nc sl sc xl xc Q A N X _ HQ.out HRA.out HRN.out HRX.out (by have := HLL.out; omega) HZ.out HZA.out.1 HZA.out.2.1 HZA.out.2.2).mono ?_; rintro e w2 ⟨rfl, hb⟩
  obtain ⟨q, hq⟩ : ∃ x, w.heap.size = x := ⟨_, rfl⟩
  rw [hq] at HC
  rw [show (Value.pointer (some { block := w.heap.size, off := 0 })) = Value.pointer (some { block := q, off := 0 }) by rw [hq]]
  replace HC := Lib.hid (HC.out.below hb)
  replace HQ := Lib.hid (HQ.out.below hb)
  replace HRA := Lib.hid (HRA.out.below hb)
  replace HRN := Lib.hid (HRN.out.below hb)
  replace HRX := Lib.hid (HRX.out.below hb)
  replace HB := Lib.hid (HB.out.trans (hb.mono HB.out.size))
  clear hb hq
  have HE := Lib.hid (encG_no (b1 := b1) (b2 := b2) (b3 := b3) (b4 := b4) (b5 := b5) (most := most) HMY.out)
  rw [HMY.out]
  go_wp2
  go_ret2
  refine ⟨.slice none 0 0, ret_vi5 (v := .slice none 0 0) HE.out.1.symm, by rw [HE.out.2]; exact World.ownsRow_nil _ _ _ _, HB.out⟩
/-- Sizes that Encode takes; the names of questions are of any size. -/
def Mok2 (m : MsgP) : Prop := (m.q.length ≤ 100000 ∧ m.a.length ≤ 30000 ∧ m.n.length ≤ 30000 ∧ m.x.length ≤ 30000) ∧ (∀ r ∈ m.q, r.n.size ≤ 9223372036854775807) ∧ SzN m.a ∧ SzN m.n ∧ SzN m.x
theorem mok2_may {m : MsgP} (h : Mok2 m) (hm : mayP m = true) : Mok m := by
  refine ⟨h.1, fun r hr => ?_, h.2.2⟩
  have hq := List.all_eq_true.1 (mayM_parts hm).2.2.1 r hr
  simp only [mayK, Bool.and_eq_true] at hq
  by_cases hz : r.n.size ≤ 1000000
  · exact hz
  · rw [may_256 (s := r.n) (by omega)] at hq
    exact absurd hq.1 (by decide)
theorem enc_z (v : Value) (m : MsgP) (most : Int) (w : World) (h : MsgAt w v m) (hm : Mok2 m) :
    Calls Try.prog 17 #[v, .int .i64 most] w fun e w' => ∃ u, e = .returned (.tuple #[u, .int .i64 (encE2 m most)]) ∧ w'.ownsRow w.heap.size 5 1 u (encL2 m most).length (bc (encL2 m most)) ∧ Below w.heap.size w w' := by
  cases hp : mayP m
  · obtain ⟨qa, qc, na, nc, sa, sc, xa, xc, rfl, h1, h2, h3, h4⟩ := h
    exact encode_bad _ _ _ _ _ _ _ _ most _ _ _ _ _ _ _ _ _ _ _ _ m.q m.a m.n m.x w h1.1 h2.1 h2.2 h3.1 h3.2 h4.1 h4.2 hm.1 hm.2.1 hp hm.2.2.1 hm.2.2.2.1 hm.2.2.2.2
  · exact enc_y v m most w h (mok2_may hm hp)
end Go.Proofs.Ytkoafkajmfodkaa
end

section
namespace Go.Proofs.Ytkoafkajmfodkaa
open Go.RowKit

theorem rowR_one (w : World) (n : ByteArray) (t c u : Int) (d : ByteArray) : RowR (w.alloc (.cells #[.string n, .int .i64 t, .int .i64 c, .int .i64 u, .string d] 75)) (some ⟨w.heap.size, 0, none⟩) 1 [⟨⟨n, t, c⟩, u, d⟩] := ⟨rfl, cells_lit w _ _⟩
theorem apt_nil (q : Nat) : Apt (.slice none 0 0) q := fun k hk => by simp [Value.ownBlock] at hk
theorem msB_ask {w : World} {B q lq qc : Nat} {id : Int} {qa : Option Addr} {Q : List Ky} (hc : CN w q [.int .i64 id, .int .i64 0, .int .i64 0, .bool false, .bool false, .bool false, .bool false, .bool false, .slice qa lq qc, .slice none 0 0, .slice none 0 0, .slice none 0 0]) (ho : w.ownsRow B 70 3 (.slice qa lq qc) lq (flatQ Q)) (ha : Apt (.slice qa lq qc) q) (e : Q.length = lq) : MsB w B q (askM id Q) := by
  subst e
  exact ⟨qa, qc, none, 0, none, 0, none, 0, hc, ⟨ho, ha⟩, ⟨World.ownsRow_nil _ _ _ _, apt_nil q⟩, ⟨World.ownsRow_nil _ _ _ _, apt_nil q⟩, World.ownsRow_nil _ _ _ _, apt_nil q⟩
theorem sec3_nil (m : MsgP) : sec3 m 1 [] = m := by
  rw [sec3, if_neg (by decide), if_pos rfl, List.append_nil]
theorem asg_sz {P : R5 → Prop} (m : MsgP) (L : List R5) (hm : m.a = [] ∧ m.n = [] ∧ m.x = []) (hL : ∀ r ∈ L, P r) : ∀ k, k ≤ L.length → (∀ r ∈ (asg m L k).a, P r) ∧ (∀ r ∈ (asg m L k).n, P r) ∧ ∀ r ∈ (asg m L k).x, P r
  | 0, _ => by
    obtain ⟨h1, h2, h3⟩ := hm
    refine ⟨fun r hr => ?_, fun r hr => ?_, fun r hr => ?_⟩
    · have hr2 : r ∈ m.a := hr
      rw [h1] at hr2
      cases hr2
    · have hr2 : r ∈ m.n := hr
      rw [h2] at hr2
      cases hr2
    · have hr2 : r ∈ m.x := hr
      rw [h3] at hr2
      cases hr2
  | k + 1, hk => by
    obtain ⟨h1, h2, h3⟩ := asg_sz m L hm hL k (by omega)
    have hP : P (L.getD k r50) := by
      rw [List.getD_eq_getElem?_getD, List.getElem?_eq_getElem (by omega)]
      exact hL _ (List.getElem_mem _)
    have hadd : ∀ (l : List R5), (∀ r ∈ l, P r) → ∀ r ∈ l ++ [L.getD k r50], P r := fun l hl r hr => by
      rcases List.mem_append.1 hr with h | h
      · exact hl r h
      · rw [List.mem_singleton.1 h]; exact hP
    rw [asg, sec3]
    split
    · exact ⟨hadd _ h1, h2, h3⟩
    · split
      · exact ⟨h1, hadd _ h2, h3⟩
      · exact ⟨h1, h2, hadd _ h3⟩
theorem sec_end {n s j : Nat} (hs : s < 3) (h : ¬ s + 3 * j < n) (hj : j = 0 ∨ s + 3 * (j - 1) < n) : secAt n s + j = secAt n (s + 1) := by
  match s, hs with
  | 0, _ => simp only [secAt]; simp; omega
  | 1, _ => simp only [secAt]; simp; omega
  | 2, _ => simp only [secAt]; simp; omega
theorem MsB.open2 {w : World} {B q lq : Nat} {mi mo mr : Int} {b1 b2 b3 b4 b5 : Bool} {Q : List Ky} {A N X : List R5} (h : MsB w B q ⟨mi, mo, mr, b1, b2, b3, b4, b5, Q, A, N, X⟩) (e : Q.length = lq) :
    ∃ (qa : Option Addr) (qc : Nat) (na : Option Addr) (nl nc : Nat) (sa : Option Addr) (sl sc : Nat) (xa : Option Addr) (xl xc : Nat), CN w q [.int .i64 mi, .int .i64 mo, .int .i64 mr, .bool b1, .bool b2, .bool b3, .bool b4, .bool b5, .slice qa lq qc, .slice na nl nc, .slice sa sl sc, .slice xa xl xc] ∧ (A.length = nl ∧ N.length = sl ∧ X.length = xl) ∧ MsgAt w (.agg #[.int .i64 mi, .int .i64 mo, .int .i64 mr, .bool b1, .bool b2, .bool b3, .bool b4, .bool b5, .slice qa lq qc, .slice na nl nc, .slice sa sl sc, .slice xa xl xc]) ⟨mi, mo, mr, b1, b2, b3, b4, b5, Q, A, N, X⟩ ∧ (RowR w na nl A ∧ (na = none → nl = 0 ∧ nc = 0)) ∧ (RowR w sa sl N ∧ (sa = none → sl = 0 ∧ sc = 0)) ∧ RowR w xa xl X ∧ (xa = none → xl = 0 ∧ xc = 0) := by
  subst e
  obtain ⟨qa, qc, na, nc, sa, sc, xa, xc, h0, h1, h2, h3, h4⟩ := h
  exact ⟨qa, qc, na, _, nc, sa, _, sc, xa, _, xc, h0, ⟨rfl, rfl, rfl⟩, ⟨qa, qc, na, nc, sa, sc, xa, xc, rfl, rowQ_own2 h1.1, rowR_own2 h2.1, rowR_own2 h3.1, rowR_own2 h4.1⟩, rowR_own2 h2.1, rowR_own2 h3.1, rowR_own2 h4.1⟩
theorem MsgAt.ql {w : World} {mi mo mr : Int} {b1 b2 b3 b4 b5 : Bool} {Q : List Ky} {A N X : List R5} {qa na sa xa : Option Addr} {lq qc nl nc sl sc xl xc : Nat} (h : MsgAt w (.agg #[.int .i64 mi, .int .i64 mo, .int .i64 mr, .bool b1, .bool b2, .bool b3, .bool b4, .bool b5, .slice qa lq qc, .slice na nl nc, .slice sa sl sc, .slice xa xl xc]) ⟨mi, mo, mr, b1, b2, b3, b4, b5, Q, A, N, X⟩) : Q.length = lq := by
  obtain ⟨qa', qc', na', nc', sa', sc', xa', xc', e, _⟩ := h
  simp at e
  omega
end Go.Proofs.Ytkoafkajmfodkaa
end
