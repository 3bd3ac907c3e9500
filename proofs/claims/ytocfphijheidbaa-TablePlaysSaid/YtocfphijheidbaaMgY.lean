/- Texts that others rest on, one behind the other: MsT, TbV, TbW, TbX, TbY. -/
import Derived.Test.YtocfphijheidbaaMgX
import Derived.Test.YtocfphijheidbaaMgW
import Derived.Deep.RegionHeld3
import Derived.Deep.DeepCutAuto
import Derived.Deep.Slices
import Derived.Deep.Fields
import Derived.ChangeSame
import Derived.WalkKit
import Derived.ProofKit
import Derived.OpenShut
import Derived.SliceStrings
import Derived.ChangeOld
section
namespace Go.Proofs.Ytocfphijheidbaa
open Go.RowKit

/-- A key, a question. -/
structure Ky where
  n : ByteArray
  t : Int
  c : Int
/-- A record. -/
structure R5 where
  k : Ky
  ttl : Int
  d : ByteArray
def encK (k : Ky) : List Value := [.string k.n, .int .i64 k.t, .int .i64 k.c]
def encR (r : R5) : List Value := [.string r.k.n, .int .i64 r.k.t, .int .i64 r.k.c, .int .i64 r.ttl, .string r.d]
def flatR (l : List R5) : List Value := l.flatMap encR
theorem encR_len (r : R5) : (encR r).length = 5 := rfl
theorem flatR_len (l : List R5) : (flatR l).length = l.length * 5 := by
  induction l with
  | nil => rfl
  | cons x l ih => rw [flatR, List.flatMap_cons, List.length_append, encR_len]; show 5 + (flatR l).length = _; rw [ih, List.length_cons]; omega
theorem flatMap_get {α : Type} (enc : α → List Value) (k : Nat) (hk : ∀ x, (enc x).length = k) (k0 : 0 < k) : ∀ (l : List α) (t : Nat), (l.flatMap enc)[t]? = (l[t / k]?).bind (fun x => (enc x)[t % k]?) := by
  intro l
  induction l with
  | nil => intro t; simp
  | cons x l ih =>
    intro t
    rw [List.flatMap_cons]
    by_cases h : t < k
    · rw [List.getElem?_append_left (by rw [hk]; exact h), Nat.div_eq_of_lt h, Nat.mod_eq_of_lt h]
      simp
    · rw [List.getElem?_append_right (by rw [hk]; omega), hk, ih]
      obtain ⟨s, rfl⟩ : ∃ s, t = s + k := ⟨t - k, by omega⟩
      rw [Nat.add_sub_cancel, Nat.add_div_right _ k0, Nat.add_mod_right]
      simp
/-- The records of a slice. -/
def RowR (w : World) (a : Option Addr) (n : Nat) (l : List R5) : Prop := l.length = n ∧ CellsAt w a (n * 5) (flatR l)
theorem RowR.below {w w' : World} {a : Option Addr} {n : Nat} {l : List R5} (h : RowR w a n l) (hb : Below w.heap.size w w') : RowR w' a n l := ⟨h.1, h.2.below hb⟩
theorem RowR.at {w : World} {a : Option Addr} {n : Nat} {l : List R5} (h : RowR w a n l) (j : Nat) (hj : j < n) : ∃ b off r, a = some ⟨b, off, none⟩ ∧ b < w.heap.size ∧ l[j]? = some r ∧ w.cell? ⟨b, off + j * 5, none⟩ = some (.string r.k.n) ∧ w.cell? ⟨b, off + j * 5 + 1, none⟩ = some (.int .i64 r.k.t) ∧ w.cell? ⟨b, off + j * 5 + 2, none⟩ = some (.int .i64 r.k.c) ∧ w.cell? ⟨b, off + j * 5 + 3, none⟩ = some (.int .i64 r.ttl) ∧ w.cell? ⟨b, off + j * 5 + 4, none⟩ = some (.string r.d) := by
  obtain ⟨h1, h2, h3⟩ := h
  rcases h3 with h0 | ⟨b, off, rfl, hlt, hc⟩
  · omega
  obtain ⟨r, hr⟩ : ∃ r, l[j]? = some r := ⟨l[j]'(by omega), List.getElem?_eq_getElem (by omega)⟩
  have hg : ∀ i, i < 5 → ∀ u, (encR r)[i]? = some u → w.cell? ⟨b, off + j * 5 + i, none⟩ = some u := fun i hi u hu => by
    have h4 := hc (j * 5 + i) u (by
      rw [flatR, flatMap_get encR 5 encR_len (by omega), show (j * 5 + i) / 5 = j by omega, show (j * 5 + i) % 5 = i by omega, hr]
      exact hu)
    rw [Nat.add_assoc]; exact h4
  exact ⟨b, off, r, rfl, hlt, hr, hg 0 (by omega) _ rfl, hg 1 (by omega) _ rfl, hg 2 (by omega) _ rfl, hg 3 (by omega) _ rfl, hg 4 (by omega) _ rfl⟩
theorem flatR_one (l : List R5) : ∀ u ∈ flatR l, u.oneCell' = true := by
  intro u hu
  obtain ⟨r, _, hr⟩ := List.mem_flatMap.1 hu
  simp only [encR, List.mem_cons, List.not_mem_nil, or_false] at hr
  rcases hr with rfl | rfl | rfl | rfl | rfl <;> rfl
def flatQ (l : List Ky) : List Value := l.flatMap encK
theorem encK_len (r : Ky) : (encK r).length = 3 := rfl
theorem flatQ_len (l : List Ky) : (flatQ l).length = l.length * 3 := by
  induction l with
  | nil => rfl
  | cons x l ih => rw [flatQ, List.flatMap_cons, List.length_append, encK_len]; show 3 + (flatQ l).length = _; rw [ih, List.length_cons]; omega
/-- The questions of a slice. -/
def RowQ (w : World) (a : Option Addr) (n : Nat) (l : List Ky) : Prop := l.length = n ∧ CellsAt w a (n * 3) (flatQ l)
theorem RowQ.below {w w' : World} {a : Option Addr} {n : Nat} {l : List Ky} (h : RowQ w a n l) (hb : Below w.heap.size w w') : RowQ w' a n l := ⟨h.1, h.2.below hb⟩
theorem RowQ.at {w : World} {a : Option Addr} {n : Nat} {l : List Ky} (h : RowQ w a n l) (j : Nat) (hj : j < n) : ∃ b off r, a = some ⟨b, off, none⟩ ∧ b < w.heap.size ∧ l[j]? = some r ∧ w.cell? ⟨b, off + j * 3, none⟩ = some (.string r.n) ∧ w.cell? ⟨b, off + j * 3 + 1, none⟩ = some (.int .i64 r.t) ∧ w.cell? ⟨b, off + j * 3 + 2, none⟩ = some (.int .i64 r.c) := by
  obtain ⟨h1, h2, h3⟩ := h
  rcases h3 with h0 | ⟨b, off, rfl, hlt, hc⟩
  · omega
  obtain ⟨r, hr⟩ : ∃ r, l[j]? = some r := ⟨l[j]'(by omega), List.getElem?_eq_getElem (by omega)⟩
  have hg : ∀ i, i < 3 → ∀ u, (encK r)[i]? = some u → w.cell? ⟨b, off + j * 3 + i, none⟩ = some u := fun i hi u hu => by
    have h4 := hc (j * 3 + i) u (by
      rw [flatQ, flatMap_get encK 3 encK_len (by omega), show (j * 3 + i) / 3 = j by omega, show (j * 3 + i) % 3 = i by omega, hr]
      exact hu)
    rw [Nat.add_assoc]; exact h4
  exact ⟨b, off, r, rfl, hlt, hr, hg 0 (by omega) _ rfl, hg 1 (by omega) _ rfl, hg 2 (by omega) _ rfl⟩
theorem flatQ_one (l : List Ky) : ∀ u ∈ flatQ l, u.oneCell' = true := by
  intro u hu
  obtain ⟨r, _, hr⟩ := List.mem_flatMap.1 hu
  simp only [encK, List.mem_cons, List.not_mem_nil, or_false] at hr
  rcases hr with rfl | rfl | rfl <;> rfl
theorem min60 (s : ByteArray) : ∃ v : Nat, (if (60001 : Int) < (s.size : Int) then (60001 : Int) else (s.size : Int)) = (v : Int) ∧ v ≤ 60001 ∧ (v ≤ 60000 → s.size ≤ 60000) := by
  by_cases h : 60001 < s.size
  · exact ⟨60001, by rw [if_pos (by omega)]; rfl, Nat.le_refl _, fun h => by omega⟩
  · exact ⟨s.size, by rw [if_neg (by omega)], by omega, fun h => h⟩
/-- Small records. -/
def SmR (r : R5) : Prop := r.k.n.size ≤ 60000 ∧ r.d.size ≤ 60000
def SzR (r : R5) : Prop := r.k.n.size ≤ 9223372036854775807 ∧ r.d.size ≤ 9223372036854775807

set_option maxRecDepth 100000 in
set_option maxHeartbeats 1600000 in
theorem few4 (a : Option Addr) (len cap : Nat) (l : List R5) (w : World) (h : RowR w a len l) (hlen : len ≤ 9223372036854775807) (hsz : ∀ r ∈ l, SzR r) :
    Calls Try.prog 97 #[.slice a len cap] w fun e w' => (e = .returned (.bool false) ∨ e = .returned (.bool true) ∧ len ≤ 400 ∧ ∀ r ∈ l, SmR r) ∧ ∃ m, w' = w.drewN m := by
  have HR := Lib.hid h
  have HSZ := Lib.hid hsz
  have HL := Lib.hid h.1
  clear h hsz
  go_enter Try.func97, Try.ntmps97
  go_wp2
  go_loopw [3, 4] (fun n i wr => ∃ k S m : Nat, k ≤ len ∧ k ≤ 400 ∧ S ≤ 60000 ∧ n = .int .i64 S ∧ i = .int .i64 k ∧ Hid (∀ r ∈ l.take k, SmR r) ∧ wr = w.drewN m) (fun _ i _ => len - (intOf i).toNat)
  case atStart => exact ⟨0, 0, 0, Nat.zero_le _, Nat.zero_le _, Nat.zero_le _, rfl, rfl, (fun r hr => by simp at hr), rfl⟩
  case round =>
    obtain ⟨k, S, m, hk, hk60, hS, rfl, rfl, hall, rfl⟩ := hrel
    by_cases hlt : k < len ∧ k < 400
    · obtain ⟨l1, l2⟩ := hlt
      obtain ⟨b, o, r, rfl, hbl, hr, c0, c1, c2, c3, c4⟩ := HR.out.at k l1
      have hz := HSZ.out r (List.mem_of_getElem? hr)
      obtain ⟨⟨rn, rt, rc⟩, ru, rd⟩ := r
      replace c0 : w.cell? ⟨b, o + k * 5, none⟩ = some (.string rn) := c0
      replace c4 : w.cell? ⟨b, o + k * 5 + 4, none⟩ = some (.string rd) := c4
      have z1 : rn.size ≤ 9223372036854775807 := hz.1
      have z2 : rd.size ≤ 9223372036854775807 := hz.2
      obtain ⟨v, hv, hv1, hv2⟩ := min60 rn
      obtain ⟨u, hu, hu1, hu2⟩ := min60 rd
      have HV2 := Lib.hid hv2
      have HU2 := Lib.hid hu2
      have HN := Lib.hid (show S + v + u ≤ 60000 → ∀ r ∈ l.take (k + 1), SmR r from fun h r hr2 => by
        rw [List.take_succ_eq_append_getElem (by have := HL.out; omega)] at hr2
        rcases List.mem_append.1 hr2 with h1 | h1
        · exact hall.out r h1
        · obtain rfl := List.mem_singleton.1 h1
          have hkl : k < l.length := by have := HL.out; omega
          have h2 : l[k]? = some (l[k]'hkl) := List.getElem?_eq_getElem hkl
          rw [hr] at h2
          rw [← Option.some.inj h2]
          exact ⟨HV2.out (by omega), HU2.out (by omega)⟩)
      clear c1 c2 c3 hr hz hv2 hu2
      have i1 : (0 : Int) ≤ (k : Int) := by omega
      have i2 : (k : Int) < (len : Int) := by omega
      by_cases hov : 60000 < S + v + u
      · have d5 := dT (p := (60000 : Int) < (S : Int) + (v : Int) + (u : Int)) (by omega)
        go_wp2_with fail
        go_quiet (fail)
        go_wp2
        go_ret
        rename_i nq
        exact ⟨Or.inl rfl, ⟨m + nq, by first | rfl | exact drewN_add _ _ _⟩⟩
      · have d5 := dF (p := (60000 : Int) < (S : Int) + (v : Int) + (u : Int)) (by omega)
        go_wp2_with fail
        go_quiet (fail)
        go_wp2
        rename_i nq
        go_roundw
        case rel => exact ⟨k + 1, S + v + u, m + nq, by omega, by omega, by omega, by go_num, by go_num, HN.out (by omega), by first | rfl | exact drewN_add _ _ _⟩
        case measure => simp [intOf]; omega
    · have hd : decide (k < len) = false ∨ decide (k < len) = true ∧ decide ((k : Int) < 400) = false := by
        simp only [decide_eq_true_eq, decide_eq_false_iff_not]; omega
      by_cases h6 : len ≤ 400
      · have e6 := dT (p := (len : Int) ≤ 400) (by omega)
        have HF := Lib.hid (show ∀ r ∈ l, SmR r from fun r hr => by
          have h1 := hall.out r
          rw [show k = len by omega, ← HL.out, List.take_length] at h1
          exact h1 hr)
        rcases hd with d1 | ⟨d1, d2⟩
        all_goals
          go_wp2
          go_ret
          exact ⟨by first | exact Or.inr ⟨rfl, h6, HF.out⟩ | exact Or.inr ⟨rfl, HF.out⟩, ⟨m, rfl⟩⟩
      · have e6 := dF (p := (len : Int) ≤ 400) (by omega)
        rcases hd with d1 | ⟨d1, d2⟩
        all_goals
          go_wp2
          go_ret
          exact ⟨by first | exact Or.inl rfl | rfl, ⟨m, rfl⟩⟩
/-- A block's cells, none frozen. -/
def CN (w : World) (q : Nat) (cs : List Value) : Prop := q < w.heap.size ∧ ∀ j c, cs[j]? = some c → w.cell? ⟨q, j, none⟩ = some c ∧ w.frozen? ⟨q, j, none⟩ = false
theorem CN.below {w w' : World} {q : Nat} {cs : List Value} (h : CN w q cs) (hb : Below w.heap.size w w') : CN w' q cs :=
  ⟨Nat.lt_of_lt_of_le h.1 hb.size, fun j c hj => ⟨(hb.cell (p := ⟨q, j, none⟩) h.1).trans (h.2 j c hj).1, (hb.frozen (p := ⟨q, j, none⟩) h.1).trans (h.2 j c hj).2⟩⟩
theorem CN.new (w : World) (cs : Array Value) (T : TypeId) : CN (w.alloc (.cells cs T)) w.heap.size cs.toList :=
  ⟨by simp, fun j c hj => ⟨by rw [World.cell?_alloc_new]; rw [Array.getElem?_toList] at hj; exact hj, World.frozen?_alloc_new _ _ _ _⟩⟩
theorem CN.u12 {w : World} {q : Nat} {c0 c1 c2 c3 c4 c5 c6 c7 c8 c9 c10 c11 : Value} (h : CN w q [c0, c1, c2, c3, c4, c5, c6, c7, c8, c9, c10, c11]) : w.cell? ⟨q, 0, none⟩ = some c0 ∧ w.cell? ⟨q, 1, none⟩ = some c1 ∧ w.cell? ⟨q, 2, none⟩ = some c2 ∧ w.cell? ⟨q, 3, none⟩ = some c3 ∧ w.cell? ⟨q, 4, none⟩ = some c4 ∧ w.cell? ⟨q, 5, none⟩ = some c5 ∧ w.cell? ⟨q, 6, none⟩ = some c6 ∧ w.cell? ⟨q, 7, none⟩ = some c7 ∧ w.cell? ⟨q, 8, none⟩ = some c8 ∧ w.cell? ⟨q, 9, none⟩ = some c9 ∧ w.cell? ⟨q, 10, none⟩ = some c10 ∧ w.cell? ⟨q, 11, none⟩ = some c11 ∧ w.frozen? ⟨q, 0, none⟩ = false ∧ w.frozen? ⟨q, 1, none⟩ = false ∧ w.frozen? ⟨q, 2, none⟩ = false ∧ w.frozen? ⟨q, 3, none⟩ = false ∧ w.frozen? ⟨q, 4, none⟩ = false ∧ w.frozen? ⟨q, 5, none⟩ = false ∧ w.frozen? ⟨q, 6, none⟩ = false ∧ w.frozen? ⟨q, 7, none⟩ = false ∧ w.frozen? ⟨q, 8, none⟩ = false ∧ w.frozen? ⟨q, 9, none⟩ = false ∧ w.frozen? ⟨q, 10, none⟩ = false ∧ w.frozen? ⟨q, 11, none⟩ = false :=
  ⟨(h.2 0 _ rfl).1, (h.2 1 _ rfl).1, (h.2 2 _ rfl).1, (h.2 3 _ rfl).1, (h.2 4 _ rfl).1, (h.2 5 _ rfl).1, (h.2 6 _ rfl).1, (h.2 7 _ rfl).1, (h.2 8 _ rfl).1, (h.2 9 _ rfl).1, (h.2 10 _ rfl).1, (h.2 11 _ rfl).1, (h.2 0 _ rfl).2, (h.2 1 _ rfl).2, (h.2 2 _ rfl).2, (h.2 3 _ rfl).2, (h.2 4 _ rfl).2, (h.2 5 _ rfl).2, (h.2 6 _ rfl).2, (h.2 7 _ rfl).2, (h.2 8 _ rfl).2, (h.2 9 _ rfl).2, (h.2 10 _ rfl).2, (h.2 11 _ rfl).2⟩
/-- A message. -/
structure MsgP where
  i : Int
  o : Int
  r : Int
  b1 : Bool
  b2 : Bool
  b3 : Bool
  b4 : Bool
  b5 : Bool
  q : List Ky
  a : List R5
  n : List R5
  x : List R5
/-- A value reads as a message. -/
def MsgAt (w : World) (v : Value) (m : MsgP) : Prop := ∃ (qa : Option Addr) (qc : Nat) (na : Option Addr) (nc : Nat) (sa : Option Addr) (sc : Nat) (xa : Option Addr) (xc : Nat), v = .agg #[.int .i64 m.i, .int .i64 m.o, .int .i64 m.r, .bool m.b1, .bool m.b2, .bool m.b3, .bool m.b4, .bool m.b5, .slice qa m.q.length qc, .slice na m.a.length nc, .slice sa m.n.length sc, .slice xa m.x.length xc] ∧ (RowQ w qa m.q.length m.q ∧ (qa = none → m.q.length = 0 ∧ qc = 0)) ∧ (RowR w na m.a.length m.a ∧ (na = none → m.a.length = 0 ∧ nc = 0)) ∧ (RowR w sa m.n.length m.n ∧ (sa = none → m.n.length = 0 ∧ sc = 0)) ∧ (RowR w xa m.x.length m.x ∧ (xa = none → m.x.length = 0 ∧ xc = 0))
theorem MsgAt.below {w w' : World} {v : Value} {m : MsgP} (h : MsgAt w v m) (hb : Below w.heap.size w w') : MsgAt w' v m := by
  obtain ⟨qa, qc, na, nc, sa, sc, xa, xc, rfl, h1, h2, h3, h4⟩ := h
  exact ⟨qa, qc, na, nc, sa, sc, xa, xc, rfl, ⟨h1.1.below hb, h1.2⟩, ⟨h2.1.below hb, h2.2⟩, ⟨h3.1.below hb, h3.2⟩, ⟨h4.1.below hb, h4.2⟩⟩
def SmM (m : MsgP) : Prop := m.q.length ≤ 100000 ∧ m.a.length ≤ 100000 ∧ m.n.length ≤ 100000 ∧ m.x.length ≤ 100000

def SzM (m : MsgP) : Prop := (m.q.length ≤ 9223372036854775807 ∧ ∀ k ∈ m.q, k.n.size ≤ 9223372036854775807) ∧ (m.a.length ≤ 9223372036854775807 ∧ ∀ r ∈ m.a, SzR r) ∧ (m.n.length ≤ 9223372036854775807 ∧ ∀ r ∈ m.n, SzR r) ∧ (m.x.length ≤ 9223372036854775807 ∧ ∀ r ∈ m.x, SzR r)
def SmallM (m : MsgP) : Prop := (m.q.length ≤ 310 ∧ ∀ k ∈ m.q, k.n.size ≤ 60000) ∧ (m.a.length ≤ 400 ∧ ∀ r ∈ m.a, SmR r) ∧ (m.n.length ≤ 400 ∧ ∀ r ∈ m.n, SmR r) ∧ (m.x.length ≤ 400 ∧ ∀ r ∈ m.x, SmR r)
theorem SmallM.sm {m : MsgP} (h : SmallM m) : SmM m := ⟨by have := h.1.1; omega, by have := h.2.1.1; omega, by have := h.2.2.1.1; omega, by have := h.2.2.2.1; omega⟩
set_option maxRecDepth 100000 in
set_option maxHeartbeats 4000000 in
theorem few5_ex (mi mo mr : Int) (b1 b2 b3 b4 b5 : Bool) (qa na sa xa : Option Addr) (ql qc nl nc sl sc xl xc : Nat) (Q : List Ky) (A N X : List R5) (w : World) (hq : RowQ w qa ql Q) (ha : RowR w na nl A) (hn : RowR w sa sl N) (hx : RowR w xa xl X) (hql : ql ≤ 9223372036854775807) (hqz : ∀ k ∈ Q, k.n.size ≤ 9223372036854775807) (hnl : nl ≤ 9223372036854775807) (haz : ∀ r ∈ A, SzR r) (hsl : sl ≤ 9223372036854775807) (hnz : ∀ r ∈ N, SzR r) (hxl : xl ≤ 9223372036854775807) (hxz : ∀ r ∈ X, SzR r) :
    Calls Try.prog 76 #[.agg #[.int .i64 mi, .int .i64 mo, .int .i64 mr, .bool b1, .bool b2, .bool b3, .bool b4, .bool b5, .slice qa ql qc, .slice na nl nc, .slice sa sl sc, .slice xa xl xc]] w fun e w' => (e = .returned (.bool false) ∨ e = .returned (.bool true) ∧ (ql ≤ 310 ∧ ∀ k ∈ Q, k.n.size ≤ 60000) ∧ (nl ≤ 400 ∧ ∀ r ∈ A, SmR r) ∧ (sl ≤ 400 ∧ ∀ r ∈ N, SmR r) ∧ (xl ≤ 400 ∧ ∀ r ∈ X, SmR r)) ∧ Below w.heap.size w w' := by
  have hb1 := (Below.refl w.heap.size w).alloc (Nat.le_refl _) (.cells #[.int .i64 mi, .int .i64 mo, .int .i64 mr, .bool b1, .bool b2, .bool b3, .bool b4, .bool b5, .slice qa ql qc, .slice na nl nc, .slice sa sl sc, .slice xa xl xc] 75)
  have hc := CN.new w #[.int .i64 mi, .int .i64 mo, .int .i64 mr, .bool b1, .bool b2, .bool b3, .bool b4, .bool b5, .slice qa ql qc, .slice na nl nc, .slice sa sl sc, .slice xa xl xc] 75
  have HB := Lib.hid hb1
  have HC := Lib.hid hc
  have HQ := Lib.hid (hq.below hb1)
  have HA := Lib.hid (ha.below hb1)
  have HN := Lib.hid (hn.below hb1)
  have HX := Lib.hid (hx.below hb1)
  have HQZ := Lib.hid hqz
  have HAZ := Lib.hid haz
  have HNZ := Lib.hid hnz
  have HXZ := Lib.hid hxz
  have HQL := Lib.hid hq.1
  clear hb1 hc hq ha hn hx hqz haz hnz hxz
  go_enter Try.func76, Try.ntmps76
  go_wp2_with fail
  obtain ⟨w1, hw1⟩ : ∃ x, w.alloc (.cells #[.int .i64 mi, .int .i64 mo, .int .i64 mr, .bool b1, .bool b2, .bool b3, .bool b4, .bool b5, .slice qa ql qc, .slice na nl nc, .slice sa sl sc, .slice xa xl xc] 75) = x := ⟨_, rfl⟩
  rw [hw1] at HB HC HQ HA HN HX ⊢
  clear hw1
  obtain ⟨q, hqq⟩ : ∃ x, w.heap.size = x := ⟨_, rfl⟩
  have HC' := HC.out
  rw [hqq] at HC' ⊢
  replace HC := Lib.hid HC'
  have HQQ := Lib.hid hqq
  clear hqq HC'
  obtain ⟨y0, y1, y2, y3, y4, y5, y6, y7, y8, y9, y10, y11, _⟩ := HC.out.u12
  go_loopw [3, 4] (fun n i wr => ∃ k S : Nat, k ≤ ql ∧ k ≤ 310 ∧ S ≤ 60000 ∧ n = .int .i64 S ∧ i = .int .i64 k ∧ Hid (∀ r ∈ Q.take k, r.n.size ≤ 60000) ∧ w1 = wr) (fun _ i _ => ql - (intOf i).toNat)
  case atStart => exact ⟨0, 0, Nat.zero_le _, Nat.zero_le _, Nat.zero_le _, rfl, rfl, (fun r hr => by simp at hr), rfl⟩
  case round =>
    obtain ⟨k, S, hk, hk60, hS, rfl, rfl, hall, rfl⟩ := hrel
    by_cases hlt : k < ql ∧ k < 310
    · obtain ⟨l1, l2⟩ := hlt
      obtain ⟨b, o, r, rfl, hbl, hr, c0, _, _⟩ := HQ.out.at k l1
      have z1 := HQZ.out r (List.mem_of_getElem? hr)
      obtain ⟨rn, rt, rc⟩ := r
      replace c0 : w1.cell? ⟨b, o + k * 3, none⟩ = some (.string rn) := c0
      replace z1 : rn.size ≤ 9223372036854775807 := z1
      obtain ⟨v, hv, hv1, hv2⟩ := min60 rn
      have HN1 := Lib.hid (show S + v ≤ 60000 → ∀ r ∈ Q.take (k + 1), r.n.size ≤ 60000 from fun h r hr2 => by
        rw [List.take_add_one, hr] at hr2
        rcases List.mem_append.1 hr2 with h1 | h1
        · exact hall.out r h1
        · obtain rfl : r = ⟨rn, rt, rc⟩ := by simpa using h1
          exact hv2 (by omega))
      clear hr hv2
      have i1 : (0 : Int) ≤ (k : Int) := by omega
      have i2 : (k : Int) < (ql : Int) := by omega
      by_cases hov : 60000 < S + v
      · have d5 := dT (p := (60000 : Int) < (S : Int) + (v : Int)) (by omega)
        go_wp2
        go_ret
        exact ⟨Or.inl rfl, HB.out⟩
      · have d5 := dF (p := (60000 : Int) < (S : Int) + (v : Int)) (by omega)
        go_wp2
        go_roundw
        case rel => exact ⟨k + 1, S + v, by omega, by omega, by omega, by go_num, by go_num, HN1.out (by omega), trivial⟩
        case measure => simp [intOf]; omega
    · have hd : decide (k < ql) = false ∨ decide (k < ql) = true ∧ decide ((k : Int) < 310) = false := by
        simp only [decide_eq_true_eq, decide_eq_false_iff_not]; omega
      by_cases h6 : ql ≤ 310
      · have HF := Lib.hid (show ∀ r ∈ Q, r.n.size ≤ 60000 from fun r hr => by
          have h1 := hall.out r
          rw [show k = ql by omega, ← HQL.out, List.take_length] at h1
          exact h1 hr)
        obtain rfl : k = ql := by omega
        have e6 := dT (p := (k : Int) ≤ 310) (by omega)
        clear hd hlt hall
        go_wp2_with fail
        refine (few4 _ _ _ _ _ HA.out hnl HAZ.out).mono ?_; rintro e w2 ⟨he, m1, rfl⟩
        have HB2 := Lib.hid (below_drewN HB.out m1)
        have HC2 := Lib.hid (HC.out.below (below_drewN (Below.refl _ _) m1))
        have HN2 := Lib.hid (HN.out.below (below_drewN (Below.refl _ _) m1))
        have HX2 := Lib.hid (HX.out.below (below_drewN (Below.refl _ _) m1))
        obtain ⟨w2, hw2⟩ : ∃ x, w1.drewN m1 = x := ⟨_, rfl⟩
        rw [hw2] at HB2 HC2 HN2 HX2 ⊢
        clear hw2 y0 y1 y2 y3 y4 y5 y6 y7 y8 y9 y10 y11
        obtain ⟨y0, y1, y2, y3, y4, y5, y6, y7, y8, y9, y10, y11, _⟩ := HC2.out.u12
        rcases he with rfl | ⟨rfl, ha1, ha2⟩
        · go_wp2
          go_ret
          exact ⟨Or.inl rfl, HB2.out⟩
        have HA2 := Lib.hid ha2
        clear ha2
        go_wp2_with fail
        refine (few4 _ _ _ _ _ HN2.out hsl HNZ.out).mono ?_; rintro e w3 ⟨he, m2, rfl⟩
        have HB3 := Lib.hid (below_drewN HB2.out m2)
        have HC3 := Lib.hid (HC2.out.below (below_drewN (Below.refl _ _) m2))
        have HX3 := Lib.hid (HX2.out.below (below_drewN (Below.refl _ _) m2))
        obtain ⟨w3, hw3⟩ : ∃ x, w2.drewN m2 = x := ⟨_, rfl⟩
        rw [hw3] at HB3 HC3 HX3 ⊢
        clear hw3 y0 y1 y2 y3 y4 y5 y6 y7 y8 y9 y10 y11
        obtain ⟨y0, y1, y2, y3, y4, y5, y6, y7, y8, y9, y10, y11, _⟩ := HC3.out.u12
        rcases he with rfl | ⟨rfl, hb1, hb2⟩
        · go_wp2
          go_ret
          exact ⟨Or.inl rfl, HB3.out⟩
        have HN3 := Lib.hid hb2
        clear hb2
        go_wp2_with fail
        refine (few4 _ _ _ _ _ HX3.out hxl HXZ.out).mono ?_; rintro e w4 ⟨he, m3, rfl⟩
        have HB4 := Lib.hid (below_drewN HB3.out m3)
        obtain ⟨w4, hw4⟩ : ∃ x, w3.drewN m3 = x := ⟨_, rfl⟩
        rw [hw4] at HB4 ⊢
        clear hw4
        rcases he with rfl | ⟨rfl, hx1, hx2⟩
        · go_wp2
          go_ret
          exact ⟨Or.inl rfl, HB4.out⟩
        have HX4 := Lib.hid hx2
        clear hx2
        go_wp2
        go_ret
        refine ⟨?_, HB4.out⟩
        exact Or.inr ⟨rfl, ⟨h6, HF.out⟩, ⟨ha1, HA2.out⟩, ⟨hb1, HN3.out⟩, ⟨hx1, HX4.out⟩⟩
      · have e6 := dF (p := (ql : Int) ≤ 310) (by omega)
        rcases hd with d1 | ⟨d1, d2⟩
        all_goals
          go_wp2
          go_ret
          exact ⟨by first | exact Or.inl rfl | rfl, HB.out⟩
theorem few5_any (v : Value) (m : MsgP) (w : World) (h : MsgAt w v m) (hz : SzM m) :
    Calls Try.prog 76 #[v] w fun e w' => (e = .returned (.bool false) ∨ e = .returned (.bool true) ∧ SmallM m) ∧ Below w.heap.size w w' := by
  obtain ⟨qa, qc, na, nc, sa, sc, xa, xc, rfl, h1, h2, h3, h4⟩ := h
  exact few5_ex _ _ _ _ _ _ _ _ _ _ _ _ _ _ _ _ _ _ _ _ m.q m.a m.n m.x w h1.1 h2.1 h3.1 h4.1 hz.1.1 hz.1.2 hz.2.1.1 hz.2.1.2 hz.2.2.1.1 hz.2.2.1.2 hz.2.2.2.1 hz.2.2.2.2
open Go.ChangeShapes Go.WideShapes Go.RowKit Go.Deep

/-- A struct's cells, each with its field's reading. -/
theorem open_fields {H : Type} {enc : TypeId × Value → H} {P : Program} {w : World} {base : Nat} {spare : Nat → Bool} {held : Bool} {fuel : Nat} {t : TypeId} {fs : Array Field} {cs : List Value} {y : DataW H × List MemPlace}
    (hs : P.underlying t = some (.struct fs)) (hone : oneCellFields P fs = true) (hl : cs.length = fs.size) (h : DataW.trod enc P w base spare held fuel t cs = some y) :
    ∀ (j : Nat) (f : Field) (c : Value), fs[j]? = some f → cs[j]? = some c → ∃ y n, DataW.trod enc P w base spare held n f.type [c] = some y := by
  obtain ⟨xs, n, _, _, hcl, hlen, hg⟩ := DataW.trod_struct hs h
  intro j f c hj hc
  obtain ⟨ho, hk⟩ := hone_of hone j f hj
  have hjl : j < fs.size := (Array.getElem?_eq_some_iff.1 hj).1
  have h1 := hg j f hj
  rw [ho, hk] at h1
  obtain ⟨hlt, he⟩ := List.getElem?_eq_some_iff.1 hc
  have e : (cs.drop j).take 1 = [c] := by rw [List.drop_eq_getElem_cons hlt, he]; rfl
  rw [e] at h1
  have hys : xs[j]? = some (xs[j]'(by omega)) := List.getElem?_eq_getElem (by omega)
  exact ⟨_, n, h1.trans hys⟩
/-- A record out of its cells' readings. -/
theorem open_rr {H : Type} {enc : TypeId × Value → H} {w : World} {base : Nat} {spare : Nat → Bool} {held : Bool} {fuel : Nat} {cs : List Value} {y : DataW H × List MemPlace} (hl : cs.length = 5) (h : DataW.trod enc Try.prog w base spare held fuel 170 cs = some y) : ∃ r : R5, cs = encR r ∧ SzR r := by
  obtain ⟨c0, c1, c2, c3, c4, rfl⟩ : ∃ a b c d e, cs = [a, b, c, d, e] := by
    match cs, hl with
    | [a, b, c, d, e], _ => exact ⟨a, b, c, d, e, rfl⟩
  have hf := open_fields Try.underlying170 (by kernel_rfl) rfl h
  obtain ⟨_, _, h0⟩ := hf 0 _ _ rfl rfl
  obtain ⟨_, _, h1⟩ := hf 1 _ _ rfl rfl
  obtain ⟨_, _, h2⟩ := hf 2 _ _ rfl rfl
  obtain ⟨_, _, h3⟩ := hf 3 _ _ rfl rfl
  obtain ⟨_, _, h4⟩ := hf 4 _ _ rfl rfl
  obtain ⟨s0, e0, _, z0⟩ := DataW.trod_string Try.underlying9 h0
  obtain ⟨s1, e1, _, z1⟩ := DataW.trod_int Try.underlying3 h1
  obtain ⟨s2, e2, _, z2⟩ := DataW.trod_int Try.underlying3 h2
  obtain ⟨s3, e3, _, z3⟩ := DataW.trod_int Try.underlying3 h3
  obtain ⟨s4, e4, _, z4⟩ := DataW.trod_string Try.underlying9 h4
  obtain rfl : c0 = .string s0 := by simpa using e0
  obtain rfl : c1 = .int .i64 s1 := by simpa using e1
  obtain rfl : c2 = .int .i64 s2 := by simpa using e2
  obtain rfl : c3 = .int .i64 s3 := by simpa using e3
  obtain rfl : c4 = .string s4 := by simpa using e4
  unfold maxLen at z0 z4
  exact ⟨⟨⟨s0, s1, s2⟩, s3, s4⟩, rfl, z0, z4⟩
theorem list_choose {α : Type} (P : Nat → α → Prop) : ∀ (n : Nat), (∀ i, i < n → ∃ x, P i x) → ∃ l : List α, l.length = n ∧ ∀ i x, l[i]? = some x → P i x := by
  intro n
  induction n with
  | zero => intro _; exact ⟨[], rfl, fun i x h => by simp at h⟩
  | succ n ih =>
    intro h
    obtain ⟨l, hl, hp⟩ := ih (fun i hi => h i (by omega))
    obtain ⟨x, hx⟩ := h n (by omega)
    refine ⟨l ++ [x], by simp [hl], fun i y hy => ?_⟩
    by_cases hi : i < n
    · rw [List.getElem?_append_left (by omega)] at hy
      exact hp i y hy
    · have hlt := (List.getElem?_eq_some_iff.1 hy).1
      simp only [List.length_append, List.length_singleton] at hlt
      have : i = n := by omega
      subst this
      rw [List.getElem?_append_right (by omega), hl, Nat.sub_self] at hy
      have : x = y := by simpa using hy
      rw [← this]; exact hx
theorem open_rowsR {H : Type} {enc : TypeId × Value → H} {w : World} {base : Nat} {held : Bool} {fuel : Nat} {a : Option Addr} {len cap : Nat} {x : DataW H × List MemPlace} (h : DataW.trod enc Try.prog w base (fun _ => true) held fuel 73 (Value.slice a len cap).cells.toList = some x) :
    ∃ l, RowR w a len l ∧ (a = none → len = 0 ∧ cap = 0) ∧ len ≤ maxLen ∧ ∀ r ∈ l, SzR r := by
  have hc5 : Try.prog.cellsOf 170 = 5 := by kernel_rfl
  rcases open_slice Try.underlying73 h with ⟨hcs, _⟩ | ⟨a', len', cap', m, n, D, Pl, hcs, _, hl, hm, hmm, _, hi⟩
  · simp [Value.cells] at hcs
    obtain ⟨rfl, rfl, rfl⟩ := hcs
    exact ⟨[], ⟨rfl, ⟨rfl, Or.inl rfl⟩⟩, fun _ => ⟨rfl, rfl⟩, Nat.zero_le _, by simp⟩
  · simp [Value.cells] at hcs
    obtain ⟨rfl, rfl, rfl⟩ := hcs
    rw [hc5] at hi
    have hlm : len ≤ m := by
      rw [hmm]; split <;> omega
    have hr : ∀ i, i < len → ∃ r : R5, SzR r ∧ ∀ j, j < 5 → w.cell? ((a'.add (i * 5)).add j) = (encR r)[j]? := fun i hil => by
      obtain ⟨cs', hc, ht⟩ := hi i (by omega)
      obtain ⟨_, hcl, hat⟩ := World.cells?_some hc
      obtain ⟨r, rfl, hz⟩ := open_rr hcl ht
      exact ⟨r, hz, fun j hj => hat j hj⟩
    obtain ⟨l, hll, hlp⟩ := list_choose _ len hr
    refine ⟨l, ⟨hll, by rw [flatR_len, hll], ?_⟩, (fun h => by cases h), by omega, ?_⟩
    · by_cases h0 : len = 0
      · exact Or.inl (by rw [h0])
      right
      obtain ⟨b, off, spot⟩ := a'
      obtain ⟨r0, hr0⟩ : ∃ r, l[0]? = some r := ⟨_, List.getElem?_eq_getElem (by omega)⟩
      have hc0 := (hlp 0 r0 hr0).2 0 (by omega)
      have hc0' : w.cell? (((⟨b, off, spot⟩ : Addr).add (0 * 5)).add 0) = some (.string r0.k.n) := hc0
      have hspot : spot = none := by simpa [Addr.add] using World.cell?_spot hc0'
      subst hspot
      refine ⟨b, off, rfl, ?_, fun j u hj => ?_⟩
      · have := block_lt_of_cell hc0'
        simpa [Addr.add] using this
      · rw [flatR, flatMap_get encR 5 encR_len (by omega)] at hj
        cases hr1 : l[j / 5]? with
        | none => rw [hr1] at hj; cases hj
        | some r =>
          rw [hr1] at hj
          have h1 := (hlp (j / 5) r hr1).2 (j % 5) (Nat.mod_lt _ (by omega))
          rw [Go.Deep.add_add, show j / 5 * 5 + j % 5 = j by omega] at h1
          rw [show (⟨b, off + j, none⟩ : Addr) = (⟨b, off, none⟩ : Addr).add j by simp only [Addr.add]; split <;> simp_all, h1]
          exact hj
    · intro r hr'
      obtain ⟨i, hi'⟩ := List.getElem?_of_mem hr'
      exact (hlp i r hi').1
/-- A question out of its cells' readings. -/
theorem open_qq {H : Type} {enc : TypeId × Value → H} {w : World} {base : Nat} {spare : Nat → Bool} {held : Bool} {fuel : Nat} {cs : List Value} {y : DataW H × List MemPlace} (hl : cs.length = 3) (h : DataW.trod enc Try.prog w base spare held fuel 66 cs = some y) : ∃ r : Ky, cs = encK r ∧ r.n.size ≤ 9223372036854775807 := by
  obtain ⟨c0, c1, c2, rfl⟩ : ∃ a b c, cs = [a, b, c] := by
    match cs, hl with
    | [a, b, c], _ => exact ⟨a, b, c, rfl⟩
  have hf := open_fields Try.underlying66 (by kernel_rfl) rfl h
  obtain ⟨_, _, h0⟩ := hf 0 _ _ rfl rfl
  obtain ⟨_, _, h1⟩ := hf 1 _ _ rfl rfl
  obtain ⟨_, _, h2⟩ := hf 2 _ _ rfl rfl
  obtain ⟨s0, e0, _, z0⟩ := DataW.trod_string Try.underlying9 h0
  obtain ⟨s1, e1, _, z1⟩ := DataW.trod_int Try.underlying3 h1
  obtain ⟨s2, e2, _, z2⟩ := DataW.trod_int Try.underlying3 h2
  obtain rfl : c0 = .string s0 := by simpa using e0
  obtain rfl : c1 = .int .i64 s1 := by simpa using e1
  obtain rfl : c2 = .int .i64 s2 := by simpa using e2
  unfold maxLen at z0
  exact ⟨⟨s0, s1, s2⟩, rfl, z0⟩
theorem open_rowsQ {H : Type} {enc : TypeId × Value → H} {w : World} {base : Nat} {held : Bool} {fuel : Nat} {a : Option Addr} {len cap : Nat} {x : DataW H × List MemPlace} (h : DataW.trod enc Try.prog w base (fun _ => true) held fuel 72 (Value.slice a len cap).cells.toList = some x) :
    ∃ l, RowQ w a len l ∧ (a = none → len = 0 ∧ cap = 0) ∧ len ≤ maxLen ∧ ∀ r ∈ l, r.n.size ≤ 9223372036854775807 := by
  have hc3 : Try.prog.cellsOf 66 = 3 := by kernel_rfl
  rcases open_slice Try.underlying72 h with ⟨hcs, _⟩ | ⟨a', len', cap', m, n, D, Pl, hcs, _, hl, hm, hmm, _, hi⟩
  · simp [Value.cells] at hcs
    obtain ⟨rfl, rfl, rfl⟩ := hcs
    exact ⟨[], ⟨rfl, ⟨rfl, Or.inl rfl⟩⟩, fun _ => ⟨rfl, rfl⟩, Nat.zero_le _, by simp⟩
  · simp [Value.cells] at hcs
    obtain ⟨rfl, rfl, rfl⟩ := hcs
    rw [hc3] at hi
    have hlm : len ≤ m := by
      rw [hmm]; split <;> omega
    have hr : ∀ i, i < len → ∃ r : Ky, r.n.size ≤ 9223372036854775807 ∧ ∀ j, j < 3 → w.cell? ((a'.add (i * 3)).add j) = (encK r)[j]? := fun i hil => by
      obtain ⟨cs', hc, ht⟩ := hi i (by omega)
      obtain ⟨_, hcl, hat⟩ := World.cells?_some hc
      obtain ⟨r, rfl, hz⟩ := open_qq hcl ht
      exact ⟨r, hz, fun j hj => hat j hj⟩
    obtain ⟨l, hll, hlp⟩ := list_choose _ len hr
    refine ⟨l, ⟨hll, by rw [flatQ_len, hll], ?_⟩, (fun h => by cases h), by omega, ?_⟩
    · by_cases h0 : len = 0
      · exact Or.inl (by rw [h0])
      right
      obtain ⟨b, off, spot⟩ := a'
      obtain ⟨r0, hr0⟩ : ∃ r, l[0]? = some r := ⟨_, List.getElem?_eq_getElem (by omega)⟩
      have hc0 := (hlp 0 r0 hr0).2 0 (by omega)
      have hc0' : w.cell? (((⟨b, off, spot⟩ : Addr).add (0 * 3)).add 0) = some (.string r0.n) := hc0
      have hspot : spot = none := by simpa [Addr.add] using World.cell?_spot hc0'
      subst hspot
      refine ⟨b, off, rfl, ?_, fun j u hj => ?_⟩
      · have := block_lt_of_cell hc0'
        simpa [Addr.add] using this
      · rw [flatQ, flatMap_get encK 3 encK_len (by omega)] at hj
        cases hr1 : l[j / 3]? with
        | none => rw [hr1] at hj; cases hj
        | some r =>
          rw [hr1] at hj
          have h1 := (hlp (j / 3) r hr1).2 (j % 3) (Nat.mod_lt _ (by omega))
          rw [Go.Deep.add_add, show j / 3 * 3 + j % 3 = j by omega] at h1
          rw [show (⟨b, off + j, none⟩ : Addr) = (⟨b, off, none⟩ : Addr).add j by simp only [Addr.add]; split <;> simp_all, h1]
          exact hj
    · intro r hr'
      obtain ⟨i, hi'⟩ := List.getElem?_of_mem hr'
      exact (hlp i r hi').1
theorem slice_shape {H : Type} {enc : TypeId × Value → H} {w : World} {base : Nat} {held : Bool} {fuel : Nat} {T E : TypeId} {c : Value} {x : DataW H × List MemPlace} (hu : Try.prog.underlying T = some (.slice E)) (h : DataW.trod enc Try.prog w base (fun _ => true) held fuel T [c] = some x) : ∃ a l k, c = .slice a l k := by
  rcases open_slice hu h with ⟨hcs, _⟩ | ⟨a, l, k, _, _, _, _, hcs, _⟩
  · exact ⟨none, 0, 0, by simpa using hcs⟩
  · exact ⟨some a, l, k, by simpa using hcs⟩
theorem open_hd {H : Type} {enc : TypeId × Value → H} {w : World} {base : Nat} {spare : Nat → Bool} {held : Bool} {fuel : Nat} {cs : List Value} {y : DataW H × List MemPlace} (hl : cs.length = 8) (h : DataW.trod enc Try.prog w base spare held fuel 71 cs = some y) : ∃ (i o r : Int) (b1 b2 b3 b4 b5 : Bool), cs = [.int .i64 i, .int .i64 o, .int .i64 r, .bool b1, .bool b2, .bool b3, .bool b4, .bool b5] := by
  obtain ⟨c0, c1, c2, c3, c4, c5, c6, c7, rfl⟩ : ∃ a b c d e f g h, cs = [a, b, c, d, e, f, g, h] := by
    match cs, hl with
    | [a, b, c, d, e, f, g, h], _ => exact ⟨a, b, c, d, e, f, g, h, rfl⟩
  have hf := open_fields Try.underlying71 (by kernel_rfl) rfl h
  obtain ⟨_, _, h0⟩ := hf 0 _ _ rfl rfl
  obtain ⟨_, _, h1⟩ := hf 1 _ _ rfl rfl
  obtain ⟨_, _, h2⟩ := hf 2 _ _ rfl rfl
  obtain ⟨_, _, h3⟩ := hf 3 _ _ rfl rfl
  obtain ⟨_, _, h4⟩ := hf 4 _ _ rfl rfl
  obtain ⟨_, _, h5⟩ := hf 5 _ _ rfl rfl
  obtain ⟨_, _, h6⟩ := hf 6 _ _ rfl rfl
  obtain ⟨_, _, h7⟩ := hf 7 _ _ rfl rfl
  obtain ⟨s0, e0, _, _⟩ := DataW.trod_int Try.underlying3 h0
  obtain ⟨s1, e1, _, _⟩ := DataW.trod_int Try.underlying3 h1
  obtain ⟨s2, e2, _, _⟩ := DataW.trod_int Try.underlying3 h2
  obtain ⟨s3, e3, _⟩ := DataW.trod_bool Try.underlying4 h3
  obtain ⟨s4, e4, _⟩ := DataW.trod_bool Try.underlying4 h4
  obtain ⟨s5, e5, _⟩ := DataW.trod_bool Try.underlying4 h5
  obtain ⟨s6, e6, _⟩ := DataW.trod_bool Try.underlying4 h6
  obtain ⟨s7, e7, _⟩ := DataW.trod_bool Try.underlying4 h7
  obtain rfl : c0 = .int .i64 s0 := by simpa using e0
  obtain rfl : c1 = .int .i64 s1 := by simpa using e1
  obtain rfl : c2 = .int .i64 s2 := by simpa using e2
  obtain rfl : c3 = .bool s3 := by simpa using e3
  obtain rfl : c4 = .bool s4 := by simpa using e4
  obtain rfl : c5 = .bool s5 := by simpa using e5
  obtain rfl : c6 = .bool s6 := by simpa using e6
  obtain rfl : c7 = .bool s7 := by simpa using e7
  exact ⟨s0, s1, s2, s3, s4, s5, s6, s7, rfl⟩
/-- A message out of its cells' readings. -/
theorem open_msgCells {H : Type} {enc : TypeId × Value → H} {w : World} {base : Nat} {held : Bool} {fuel : Nat} {cs : List Value} {y : DataW H × List MemPlace} (hl : cs.length = 12) (h : DataW.trod enc Try.prog w base (fun _ => true) held fuel 75 cs = some y) :
    ∃ m : MsgP, MsgAt w (.agg cs.toArray) m ∧ SzM m := by
  obtain ⟨c0, c1, c2, c3, c4, c5, c6, c7, c8, c9, c10, c11, rfl⟩ : ∃ c0 c1 c2 c3 c4 c5 c6 c7 c8 c9 c10 c11, cs = [c0, c1, c2, c3, c4, c5, c6, c7, c8, c9, c10, c11] := by
    match cs, hl with
    | [c0, c1, c2, c3, c4, c5, c6, c7, c8, c9, c10, c11], _ => exact ⟨c0, c1, c2, c3, c4, c5, c6, c7, c8, c9, c10, c11, rfl⟩
  have hcH : Try.prog.cellsOf 71 = 8 := by kernel_rfl
  have hcQ : Try.prog.cellsOf 72 = 1 := by kernel_rfl
  have hcR : Try.prog.cellsOf 73 = 1 := by kernel_rfl
  obtain ⟨xs, n, _, _, hcl, hlen, hg⟩ := DataW.trod_struct Try.underlying75 h
  have hlen : xs.length = 5 := hlen
  have f0 := hg 0 _ rfl
  have f1 := hg 1 _ rfl
  have f2 := hg 2 _ rfl
  have f3 := hg 3 _ rfl
  have f4 := hg 4 _ rfl
  have e0 : (([c0, c1, c2, c3, c4, c5, c6, c7, c8, c9, c10, c11] : List Value).drop 0).take (Try.prog.cellsOf 71) = [c0, c1, c2, c3, c4, c5, c6, c7] := by rw [hcH]; rfl
  have e1 : (([c0, c1, c2, c3, c4, c5, c6, c7, c8, c9, c10, c11] : List Value).drop 8).take (Try.prog.cellsOf 72) = [c8] := by rw [hcQ]; rfl
  have e2 : (([c0, c1, c2, c3, c4, c5, c6, c7, c8, c9, c10, c11] : List Value).drop 9).take (Try.prog.cellsOf 73) = [c9] := by rw [hcR]; rfl
  have e3 : (([c0, c1, c2, c3, c4, c5, c6, c7, c8, c9, c10, c11] : List Value).drop 10).take (Try.prog.cellsOf 73) = [c10] := by rw [hcR]; rfl
  have e4 : (([c0, c1, c2, c3, c4, c5, c6, c7, c8, c9, c10, c11] : List Value).drop 11).take (Try.prog.cellsOf 73) = [c11] := by rw [hcR]; rfl
  have g0 : DataW.trod enc Try.prog w base (fun _ => true) held n 71 [c0, c1, c2, c3, c4, c5, c6, c7] = xs[0]? := by rw [← e0]; exact f0
  have g1 : DataW.trod enc Try.prog w base (fun _ => true) held n 72 [c8] = xs[1]? := by rw [← e1]; exact f1
  have g2 : DataW.trod enc Try.prog w base (fun _ => true) held n 73 [c9] = xs[2]? := by rw [← e2]; exact f2
  have g3 : DataW.trod enc Try.prog w base (fun _ => true) held n 73 [c10] = xs[3]? := by rw [← e3]; exact f3
  have g4 : DataW.trod enc Try.prog w base (fun _ => true) held n 73 [c11] = xs[4]? := by rw [← e4]; exact f4
  rw [List.getElem?_eq_getElem (by omega)] at g0 g1 g2 g3 g4
  obtain ⟨i, o, r, b1, b2, b3, b4, b5, hh⟩ := open_hd rfl g0
  injection hh with e hh; subst e
  injection hh with e hh; subst e
  injection hh with e hh; subst e
  injection hh with e hh; subst e
  injection hh with e hh; subst e
  injection hh with e hh; subst e
  injection hh with e hh; subst e
  injection hh with e hh; subst e
  obtain ⟨qa, ql, qc, rfl⟩ := slice_shape Try.underlying72 g1
  obtain ⟨na, nl, nc, rfl⟩ := slice_shape Try.underlying73 g2
  obtain ⟨sa, sl, sc, rfl⟩ := slice_shape Try.underlying73 g3
  obtain ⟨xa, xl, xc, rfl⟩ := slice_shape Try.underlying73 g4
  obtain ⟨Q, q1, q2, q3, q4⟩ := open_rowsQ (a := qa) (len := ql) (cap := qc) (by simpa [Value.cells] using g1)
  obtain ⟨A, a1, a2, a3, a4⟩ := open_rowsR (a := na) (len := nl) (cap := nc) (by simpa [Value.cells] using g2)
  obtain ⟨N, n1, n2, n3, n4⟩ := open_rowsR (a := sa) (len := sl) (cap := sc) (by simpa [Value.cells] using g3)
  obtain ⟨X, x1, x2, x3, x4⟩ := open_rowsR (a := xa) (len := xl) (cap := xc) (by simpa [Value.cells] using g4)
  unfold maxLen at q3 a3 n3 x3
  have l1 := q1.1
  have l2 := a1.1
  have l3 := n1.1
  have l4 := x1.1
  subst l1 l2 l3 l4
  exact ⟨⟨i, o, r, b1, b2, b3, b4, b5, Q, A, N, X⟩, ⟨qa, qc, na, nc, sa, sc, xa, xc, rfl, ⟨q1, q2⟩, ⟨a1, a2⟩, ⟨n1, n2⟩, ⟨x1, x2⟩⟩, ⟨q3, q4⟩, ⟨a3, a4⟩, ⟨n3, n4⟩, ⟨x3, x4⟩⟩
set_option maxRecDepth 100000 in
theorem open_msgV {H : Type} {enc : TypeId × Value → H} {w : World} {base b0 : Nat} {held : Bool} {r : Reach} {v : Value} {d : DataW H} {p : List MemPlace} (hv : Value.okWide Try.prog w r b0 75 v) (h : DataW.Trod enc Try.prog w base (fun _ => true) held 75 v d p) :
    ∃ m : MsgP, MsgAt w v m ∧ SzM m := by
  obtain ⟨cs, rfl, hsz⟩ := okWide_struct Try.underlying75 hv
  obtain ⟨fuel, hf⟩ := h
  have hc5 : Try.prog.cellsOf 75 = 12 := by kernel_rfl
  obtain ⟨l⟩ := cs
  have hl : l.length = 12 := hsz.trans hc5
  exact open_msgCells hl (by simpa [Value.cells] using hf)
end Go.Proofs.Ytocfphijheidbaa
end

section
namespace Go.Proofs.Ytocfphijheidbaa
open Go.RowKit

structure O20 where
  kind : Int
  now : Int
  job : Int
  which : Int
  n : Int
  tx : ByteArray
  tcp : Bool
  q : QsP
  J : List Int
  k : MkP
  m : MsgP
def o20D : O20 := ⟨0, 0, 0, 0, 0, ⟨#[]⟩, false, ⟨⟨#[]⟩, 0, 0⟩, [], ⟨0, 0, ⟨#[]⟩, false⟩, ⟨0, 0, 0, false, false, false, false, false, [], [], [], []⟩⟩
/-- A call's cells, but for its message. -/
def o20L (o : O20) (ja : Option Addr) (jc : Nat) : List Value := [.int .i64 o.kind, .int .i64 o.now, .int .i64 o.job, .int .i64 o.which, .int .i64 o.n, .string o.tx, .bool o.tcp, .string o.q.name, .int .i64 o.q.ty, .int .i64 o.q.cl, .slice ja o.J.length jc, .int .i64 o.k.id, .int .i64 o.k.port, .string o.k.tx, .bool o.k.tcp]
/-- A message's cells. -/
def msgL (m : MsgP) (qa : Option Addr) (qc : Nat) (na : Option Addr) (nc : Nat) (sa : Option Addr) (sc : Nat) (xa : Option Addr) (xc : Nat) : List Value := [.int .i64 m.i, .int .i64 m.o, .int .i64 m.r, .bool m.b1, .bool m.b2, .bool m.b3, .bool m.b4, .bool m.b5, .slice qa m.q.length qc, .slice na m.a.length nc, .slice sa m.n.length sc, .slice xa m.x.length xc]
structure O20z (o : O20) : Prop where
  tx : o.tx.size ≤ 9223372036854775807
  qn : o.q.name.size ≤ 9223372036854775807
  jn : o.J.length ≤ 9223372036854775807
  mx : o.k.tx.size ≤ 9223372036854775807
  sz : SzM o.m
def Op20 (w : World) (b off j : Nat) (o : O20) : Prop := ∃ (ja : Option Addr) (jc : Nat) (qa : Option Addr) (qc : Nat) (na : Option Addr) (nc : Nat) (sa : Option Addr) (sc : Nat) (xa : Option Addr) (xc : Nat), w.rangeAt b (off + j * 27) (o20L o ja jc ++ msgL o.m qa qc na nc sa sc xa xc) ∧ Row w ja o.J.length o.J ∧ MsgAt w (.agg (msgL o.m qa qc na nc sa sc xa xc).toArray) o.m ∧ O20z o
def Row20 (w : World) (a : Option Addr) (n : Nat) (L : List O20) : Prop := L.length = n ∧ (n = 0 ∨ ∃ b off, a = some ⟨b, off, none⟩ ∧ b < w.heap.size ∧ ∀ j, j < n → Op20 w b off j (L.getD j o20D))
theorem Op20.below {w w' : World} {b off j : Nat} {o : O20} (h : Op20 w b off j o) (hb : Below w.heap.size w w') : Op20 w' b off j o := by
  obtain ⟨ja, jc, qa, qc, na, nc, sa, sc, xa, xc, h0, h1, h2, h3⟩ := h
  exact ⟨ja, jc, qa, qc, na, nc, sa, sc, xa, xc, fun j v hj => cell_later hb (h0 j v hj), h1.below hb, h2.below hb, h3⟩
theorem Row20.below {w w' : World} {a : Option Addr} {n : Nat} {L : List O20} (h : Row20 w a n L) (hb : Below w.heap.size w w') : Row20 w' a n L := by
  refine ⟨h.1, h.2.imp id ?_⟩
  rintro ⟨b, off, e, hlt, hc⟩
  exact ⟨b, off, e, Nat.lt_of_lt_of_le hlt hb.size, fun j hj => (hc j hj).below hb⟩
theorem Row20.at {w : World} {a : Option Addr} {n : Nat} {L : List O20} (h : Row20 w a n L) (j : Nat) (hj : j < n) : ∃ b off, a = some ⟨b, off, none⟩ ∧ Op20 w b off j (L.getD j o20D) := by
  rcases h.2 with h0 | ⟨b, off, e, _, hc⟩
  · omega
  · exact ⟨b, off, e, hc j hj⟩
set_option maxRecDepth 100000 in
set_option maxHeartbeats 4000000 in
theorem few20 (a : Option Addr) (n c : Nat) (L : List O20) (w : World) (h : Row20 w a n L) (hn : n ≤ 9223372036854775807) :
    Calls Try.prog 40 #[.slice a n c] w fun e w' => (e = .returned (.bool false) ∨ e = .returned (.bool true) ∧ n ≤ 100 ∧ ∀ j, j < n → (L.getD j o20D).J.length ≤ 100) ∧ Below w.heap.size w w' := by
  have HR := Lib.hid h
  clear h
  go_enter Try.func40, Try.ntmps40
  go_wp2_with fail
  go_loopw [3] (fun i wr => ∃ k : Nat, k ≤ n ∧ k ≤ 100 ∧ i = .int .i64 k ∧ Hid (∀ j, j < k → (L.getD j o20D).J.length ≤ 100) ∧ Hid (Below w.heap.size w wr)) (fun i _ => n - (intOf i).toNat)
  case atStart => exact ⟨0, Nat.zero_le _, Nat.zero_le _, rfl, Lib.hid (fun j hj => by omega), Lib.hid (Below.refl _ _)⟩
  case round =>
    obtain ⟨k, hk, hk60, rfl, HS, HB⟩ := hrel
    by_cases hlt : k < n ∧ k < 100
    · obtain ⟨l1, l2⟩ := hlt
      obtain ⟨b, off, rfl, h9⟩ := (HR.out.below HB.out).at k l1
      obtain ⟨o, ho⟩ : ∃ z, L.getD k o20D = z := ⟨_, rfl⟩
      rw [ho] at h9
      obtain ⟨ja, jc, qa, qc, na, nc, sa, sc, xa, xc, h0, h1, h2, h3⟩ := h9
      have HO := Lib.hid ho
      have HM := Lib.hid (show MsgAt wr (.agg #[.int .i64 o.m.i, .int .i64 o.m.o, .int .i64 o.m.r, .bool o.m.b1, .bool o.m.b2, .bool o.m.b3, .bool o.m.b4, .bool o.m.b5, .slice qa o.m.q.length qc, .slice na o.m.a.length nc, .slice sa o.m.n.length sc, .slice xa o.m.x.length xc]) o.m from h2)
      have HZ := Lib.hid h3
      have c5 := h0 5 _ rfl
      have c7 := h0 7 _ rfl
      have c10 := h0 10 _ rfl
      have c13 := h0 13 _ rfl
      have HRG := Lib.hid (show wr.rangeAt b (off + k * 27 + 15) (msgL o.m qa qc na nc sa sc xa xc) from fun j v hj => by
        rw [Nat.add_assoc (off + k * 27) 15 j]
        exact h0 (15 + j) v (by rw [List.getElem?_append_right (by show 15 ≤ 15 + j; omega)]; show (msgL o.m qa qc na nc sa sc xa xc)[15 + j - 15]? = _; rw [Nat.add_sub_cancel_left]; exact hj))
      clear h0 h1 h2 h3 ho
      have i1 : (0 : Int) ≤ (k : Int) := by omega
      have i2 : (k : Int) < (n : Int) := by omega
      have d1 : decide (k < n) = true := dT l1
      have d2 : decide ((k : Int) < 100) = true := dT (by omega)
      go_upto_region 4 with (fail)
      have z5 := HZ.out.tx
      have z7 := HZ.out.qn
      have z10 := HZ.out.jn
      have z13 := HZ.out.mx
      replace c5 : wr.cell? ⟨b, off + k * 27 + 5, none⟩ = some (.string o.tx) := c5
      replace c7 : wr.cell? ⟨b, off + k * 27 + 7, none⟩ = some (.string o.q.name) := c7
      replace c10 : wr.cell? ⟨b, off + k * 27 + 10, none⟩ = some (.slice ja o.J.length jc) := c10
      replace c13 : wr.cell? ⟨b, off + k * 27 + 13, none⟩ = some (.string o.k.tx) := c13
      by_cases h5 : 1000 < o.tx.size
      · have d5 : decide ((1000 : Int) < (o.tx.size : Int)) = true := dT (by omega)
        go_wp2
        go_ret
        exact ⟨Or.inl rfl, HB.out⟩
      have d5 : decide ((1000 : Int) < (o.tx.size : Int)) = false := dF (by omega)
      by_cases h7 : 1000 < o.q.name.size
      · have d7 : decide ((1000 : Int) < (o.q.name.size : Int)) = true := dT (by omega)
        go_wp2
        go_ret
        exact ⟨Or.inl rfl, HB.out⟩
      have d7 : decide ((1000 : Int) < (o.q.name.size : Int)) = false := dF (by omega)
      by_cases h10 : 100 < o.J.length
      · have d10 : decide ((100 : Int) < (o.J.length : Int)) = true := dT (by omega)
        go_wp2
        go_ret
        exact ⟨Or.inl rfl, HB.out⟩
      have d10 : decide ((100 : Int) < (o.J.length : Int)) = false := dF (by omega)
      have HJ := Lib.hid (show o.J.length ≤ 100 by omega)
      clear h5 h7 h10
      have hrg := HRG.out
      have m0 : wr.cell? ⟨b, off + k * 27 + 15, none⟩ = some (.int .i64 o.m.i) := hrg 0 _ rfl
      have m1 : wr.cell? ⟨b, off + k * 27 + 15 + 1, none⟩ = some (.int .i64 o.m.o) := hrg 1 _ rfl
      have m2 : wr.cell? ⟨b, off + k * 27 + 15 + 2, none⟩ = some (.int .i64 o.m.r) := hrg 2 _ rfl
      have m3 : wr.cell? ⟨b, off + k * 27 + 15 + 3, none⟩ = some (.bool o.m.b1) := hrg 3 _ rfl
      have m4 : wr.cell? ⟨b, off + k * 27 + 15 + 4, none⟩ = some (.bool o.m.b2) := hrg 4 _ rfl
      have m5 : wr.cell? ⟨b, off + k * 27 + 15 + 5, none⟩ = some (.bool o.m.b3) := hrg 5 _ rfl
      have m6 : wr.cell? ⟨b, off + k * 27 + 15 + 6, none⟩ = some (.bool o.m.b4) := hrg 6 _ rfl
      have m7 : wr.cell? ⟨b, off + k * 27 + 15 + 7, none⟩ = some (.bool o.m.b5) := hrg 7 _ rfl
      have m8 : wr.cell? ⟨b, off + k * 27 + 15 + 8, none⟩ = some (.slice qa o.m.q.length qc) := hrg 8 _ rfl
      have m9 : wr.cell? ⟨b, off + k * 27 + 15 + 9, none⟩ = some (.slice na o.m.a.length nc) := hrg 9 _ rfl
      have m10 : wr.cell? ⟨b, off + k * 27 + 15 + 10, none⟩ = some (.slice sa o.m.n.length sc) := hrg 10 _ rfl
      have m11 : wr.cell? ⟨b, off + k * 27 + 15 + 11, none⟩ = some (.slice xa o.m.x.length xc) := hrg 11 _ rfl
      clear hrg
      go_wp2_with fail
      clear m0 m1 m2 m3 m4 m5 m6 m7 m8 m9 m10 m11
      refine (few5_any _ o.m wr HM.out HZ.out.sz).mono ?_; rintro e w2 ⟨he, hb2⟩
      have HB2 := Lib.hid (HB.out.trans (hb2.mono HB.out.size))
      have hc13 := cell_later hb2 c13
      clear c5 c7 c10 c13 hb2 HRG HM
      have c13 := hc13
      clear hc13
      rcases he with rfl | ⟨rfl, -⟩
      · go_wp2
        go_ret
        exact ⟨Or.inl rfl, HB2.out⟩
      by_cases h13 : 1000 < o.k.tx.size
      · have d13 : decide ((1000 : Int) < (o.k.tx.size : Int)) = true := dT (by omega)
        go_wp2
        go_ret
        exact ⟨Or.inl rfl, HB2.out⟩
      have d13 : decide ((1000 : Int) < (o.k.tx.size : Int)) = false := dF (by omega)
      go_wp2
      go_roundw
      case rel => exact ⟨k + 1, by omega, by omega, by go_num, Lib.hid (fun j hj => by
        rcases Nat.lt_succ_iff_lt_or_eq.1 hj with h | rfl
        · exact HS.out j h
        · rw [HO.out]; exact HJ.out), HB2⟩
      case measure => simp [intOf]; omega
    · have hd : decide (k < n) = false ∨ decide (k < n) = true ∧ decide ((k : Int) < 100) = false := by
        simp only [decide_eq_true_eq, decide_eq_false_iff_not]; omega
      by_cases h6 : n ≤ 100
      · have e6 : decide ((n : Int) ≤ 100) = true := dT (by omega)
        have HF := Lib.hid (show ∀ j, j < n → (L.getD j o20D).J.length ≤ 100 from fun j hj => HS.out j (by omega))
        rcases hd with d1 | ⟨d1, d2⟩
        all_goals
          go_wp2
          go_ret
          exact ⟨Or.inr ⟨rfl, h6, HF.out⟩, HB.out⟩
      · have e6 : decide ((n : Int) ≤ 100) = false := dF (by omega)
        rcases hd with d1 | ⟨d1, d2⟩
        all_goals
          go_wp2
          go_ret
          exact ⟨Or.inl rfl, HB.out⟩
end Go.Proofs.Ytocfphijheidbaa
end

section
namespace Go.Proofs.Ytocfphijheidbaa
open Go.ChangeShapes Go.WideShapes Go.RowKit Go.Deep

theorem open_mk {H : Type} {enc : TypeId × Value → H} {w : World} {base : Nat} {spare : Nat → Bool} {held : Bool} {fuel : Nat} {cs : List Value} {y : DataW H × List MemPlace} (hl : cs.length = 4) (h : DataW.trod enc Try.prog w base spare held fuel 69 cs = some y) : ∃ k : MkP, cs = encM k ∧ k.tx.size ≤ 9223372036854775807 := by
  obtain ⟨c0, c1, c2, c3, rfl⟩ : ∃ a b c d, cs = [a, b, c, d] := by
    match cs, hl with
    | [a, b, c, d], _ => exact ⟨a, b, c, d, rfl⟩
  have hf := open_fields Try.underlying69 (by kernel_rfl) rfl h
  obtain ⟨_, _, h0⟩ := hf 0 _ _ rfl rfl
  obtain ⟨_, _, h1⟩ := hf 1 _ _ rfl rfl
  obtain ⟨_, _, h2⟩ := hf 2 _ _ rfl rfl
  obtain ⟨_, _, h3⟩ := hf 3 _ _ rfl rfl
  obtain ⟨s0, e0, _, z0⟩ := DataW.trod_int Try.underlying3 h0
  obtain ⟨s1, e1, _, z1⟩ := DataW.trod_int Try.underlying3 h1
  obtain ⟨s2, e2, _, z2⟩ := DataW.trod_string Try.underlying9 h2
  obtain ⟨s3, e3, _⟩ := DataW.trod_bool Try.underlying4 h3
  obtain rfl : c0 = .int .i64 s0 := by simpa using e0
  obtain rfl : c1 = .int .i64 s1 := by simpa using e1
  obtain rfl : c2 = .string s2 := by simpa using e2
  obtain rfl : c3 = .bool s3 := by simpa using e3
  unfold maxLen at z2
  exact ⟨⟨s0, s1, s2, s3⟩, rfl, z2⟩
set_option maxRecDepth 100000 in
theorem open_op20 {H : Type} {enc : TypeId × Value → H} {w : World} {base : Nat} {held : Bool} {fuel : Nat} {cs : List Value} {y : DataW H × List MemPlace} (hl : cs.length = 27) (h : DataW.trod enc Try.prog w base (fun _ => true) held fuel 77 cs = some y) :
    ∃ (o : O20) (ja : Option Addr) (jc : Nat) (qa : Option Addr) (qc : Nat) (na : Option Addr) (nc : Nat) (sa : Option Addr) (sc : Nat) (xa : Option Addr) (xc : Nat), cs = o20L o ja jc ++ msgL o.m qa qc na nc sa sc xa xc ∧ Row w ja o.J.length o.J ∧ MsgAt w (.agg (msgL o.m qa qc na nc sa sc xa xc).toArray) o.m ∧ O20z o := by
  obtain ⟨c0, c1, c2, c3, c4, c5, c6, c7, c8, c9, c10, c11, c12, c13, c14, c15, c16, c17, c18, c19, c20, c21, c22, c23, c24, c25, c26, rfl⟩ : ∃ c0 c1 c2 c3 c4 c5 c6 c7 c8 c9 c10 c11 c12 c13 c14 c15 c16 c17 c18 c19 c20 c21 c22 c23 c24 c25 c26, cs = [c0, c1, c2, c3, c4, c5, c6, c7, c8, c9, c10, c11, c12, c13, c14, c15, c16, c17, c18, c19, c20, c21, c22, c23, c24, c25, c26] := by
    match cs, hl with
    | [c0, c1, c2, c3, c4, c5, c6, c7, c8, c9, c10, c11, c12, c13, c14, c15, c16, c17, c18, c19, c20, c21, c22, c23, c24, c25, c26], _ => exact ⟨c0, c1, c2, c3, c4, c5, c6, c7, c8, c9, c10, c11, c12, c13, c14, c15, c16, c17, c18, c19, c20, c21, c22, c23, c24, c25, c26, rfl⟩
  obtain ⟨xs, n, _, _, hcl, hlen, hg⟩ := DataW.trod_struct Try.underlying77 h
  have hlen : xs.length = 11 := hlen
  have g0 : DataW.trod enc Try.prog w base (fun _ => true) held n 3 [c0] = xs[0]? := by
    have e : (([c0, c1, c2, c3, c4, c5, c6, c7, c8, c9, c10, c11, c12, c13, c14, c15, c16, c17, c18, c19, c20, c21, c22, c23, c24, c25, c26] : List Value).drop 0).take (Try.prog.cellsOf 3) = [c0] := by rw [show Try.prog.cellsOf 3 = 1 by kernel_rfl]; rfl
    rw [← e]; exact hg 0 _ rfl
  have g1 : DataW.trod enc Try.prog w base (fun _ => true) held n 3 [c1] = xs[1]? := by
    have e : (([c0, c1, c2, c3, c4, c5, c6, c7, c8, c9, c10, c11, c12, c13, c14, c15, c16, c17, c18, c19, c20, c21, c22, c23, c24, c25, c26] : List Value).drop 1).take (Try.prog.cellsOf 3) = [c1] := by rw [show Try.prog.cellsOf 3 = 1 by kernel_rfl]; rfl
    rw [← e]; exact hg 1 _ rfl
  have g2 : DataW.trod enc Try.prog w base (fun _ => true) held n 3 [c2] = xs[2]? := by
    have e : (([c0, c1, c2, c3, c4, c5, c6, c7, c8, c9, c10, c11, c12, c13, c14, c15, c16, c17, c18, c19, c20, c21, c22, c23, c24, c25, c26] : List Value).drop 2).take (Try.prog.cellsOf 3) = [c2] := by rw [show Try.prog.cellsOf 3 = 1 by kernel_rfl]; rfl
    rw [← e]; exact hg 2 _ rfl
  have g3 : DataW.trod enc Try.prog w base (fun _ => true) held n 3 [c3] = xs[3]? := by
    have e : (([c0, c1, c2, c3, c4, c5, c6, c7, c8, c9, c10, c11, c12, c13, c14, c15, c16, c17, c18, c19, c20, c21, c22, c23, c24, c25, c26] : List Value).drop 3).take (Try.prog.cellsOf 3) = [c3] := by rw [show Try.prog.cellsOf 3 = 1 by kernel_rfl]; rfl
    rw [← e]; exact hg 3 _ rfl
  have g4 : DataW.trod enc Try.prog w base (fun _ => true) held n 3 [c4] = xs[4]? := by
    have e : (([c0, c1, c2, c3, c4, c5, c6, c7, c8, c9, c10, c11, c12, c13, c14, c15, c16, c17, c18, c19, c20, c21, c22, c23, c24, c25, c26] : List Value).drop 4).take (Try.prog.cellsOf 3) = [c4] := by rw [show Try.prog.cellsOf 3 = 1 by kernel_rfl]; rfl
    rw [← e]; exact hg 4 _ rfl
  have g5 : DataW.trod enc Try.prog w base (fun _ => true) held n 9 [c5] = xs[5]? := by
    have e : (([c0, c1, c2, c3, c4, c5, c6, c7, c8, c9, c10, c11, c12, c13, c14, c15, c16, c17, c18, c19, c20, c21, c22, c23, c24, c25, c26] : List Value).drop 5).take (Try.prog.cellsOf 9) = [c5] := by rw [show Try.prog.cellsOf 9 = 1 by kernel_rfl]; rfl
    rw [← e]; exact hg 5 _ rfl
  have g6 : DataW.trod enc Try.prog w base (fun _ => true) held n 4 [c6] = xs[6]? := by
    have e : (([c0, c1, c2, c3, c4, c5, c6, c7, c8, c9, c10, c11, c12, c13, c14, c15, c16, c17, c18, c19, c20, c21, c22, c23, c24, c25, c26] : List Value).drop 6).take (Try.prog.cellsOf 4) = [c6] := by rw [show Try.prog.cellsOf 4 = 1 by kernel_rfl]; rfl
    rw [← e]; exact hg 6 _ rfl
  have g7 : DataW.trod enc Try.prog w base (fun _ => true) held n 66 [c7, c8, c9] = xs[7]? := by
    have e : (([c0, c1, c2, c3, c4, c5, c6, c7, c8, c9, c10, c11, c12, c13, c14, c15, c16, c17, c18, c19, c20, c21, c22, c23, c24, c25, c26] : List Value).drop 7).take (Try.prog.cellsOf 66) = [c7, c8, c9] := by rw [show Try.prog.cellsOf 66 = 3 by kernel_rfl]; rfl
    rw [← e]; exact hg 7 _ rfl
  have g8 : DataW.trod enc Try.prog w base (fun _ => true) held n 67 [c10] = xs[8]? := by
    have e : (([c0, c1, c2, c3, c4, c5, c6, c7, c8, c9, c10, c11, c12, c13, c14, c15, c16, c17, c18, c19, c20, c21, c22, c23, c24, c25, c26] : List Value).drop 10).take (Try.prog.cellsOf 67) = [c10] := by rw [show Try.prog.cellsOf 67 = 1 by kernel_rfl]; rfl
    rw [← e]; exact hg 8 _ rfl
  have g9 : DataW.trod enc Try.prog w base (fun _ => true) held n 69 [c11, c12, c13, c14] = xs[9]? := by
    have e : (([c0, c1, c2, c3, c4, c5, c6, c7, c8, c9, c10, c11, c12, c13, c14, c15, c16, c17, c18, c19, c20, c21, c22, c23, c24, c25, c26] : List Value).drop 11).take (Try.prog.cellsOf 69) = [c11, c12, c13, c14] := by rw [show Try.prog.cellsOf 69 = 4 by kernel_rfl]; rfl
    rw [← e]; exact hg 9 _ rfl
  have g10 : DataW.trod enc Try.prog w base (fun _ => true) held n 75 [c15, c16, c17, c18, c19, c20, c21, c22, c23, c24, c25, c26] = xs[10]? := by
    have e : (([c0, c1, c2, c3, c4, c5, c6, c7, c8, c9, c10, c11, c12, c13, c14, c15, c16, c17, c18, c19, c20, c21, c22, c23, c24, c25, c26] : List Value).drop 15).take (Try.prog.cellsOf 75) = [c15, c16, c17, c18, c19, c20, c21, c22, c23, c24, c25, c26] := by rw [show Try.prog.cellsOf 75 = 12 by kernel_rfl]; rfl
    rw [← e]; exact hg 10 _ rfl
  rw [List.getElem?_eq_getElem (by omega)] at g0 g1 g2 g3 g4 g5 g6 g7 g8 g9 g10
  obtain ⟨s0, e0, _, z0⟩ := DataW.trod_int Try.underlying3 g0
  obtain ⟨s1, e1, _, z1⟩ := DataW.trod_int Try.underlying3 g1
  obtain ⟨s2, e2, _, z2⟩ := DataW.trod_int Try.underlying3 g2
  obtain ⟨s3, e3, _, z3⟩ := DataW.trod_int Try.underlying3 g3
  obtain ⟨s4, e4, _, z4⟩ := DataW.trod_int Try.underlying3 g4
  obtain ⟨s5, e5, _, z5⟩ := DataW.trod_string Try.underlying9 g5
  obtain ⟨s6, e6, _⟩ := DataW.trod_bool Try.underlying4 g6
  obtain rfl : c0 = .int .i64 s0 := by simpa using e0
  obtain rfl : c1 = .int .i64 s1 := by simpa using e1
  obtain rfl : c2 = .int .i64 s2 := by simpa using e2
  obtain rfl : c3 = .int .i64 s3 := by simpa using e3
  obtain rfl : c4 = .int .i64 s4 := by simpa using e4
  obtain rfl : c5 = .string s5 := by simpa using e5
  obtain rfl : c6 = .bool s6 := by simpa using e6
  obtain ⟨⟨qn, qt, qk⟩, hq, zq⟩ := open_qq rfl g7
  injection hq with e hq; subst e
  injection hq with e hq; subst e
  injection hq with e hq; subst e
  obtain ⟨km, hk, zk⟩ := open_mk rfl g9
  injection hk with e hk; subst e
  injection hk with e hk; subst e
  injection hk with e hk; subst e
  injection hk with e hk; subst e
  obtain ⟨ja, jn, jc, zs, rfl, hrow⟩ : ∃ a n c zs, c10 = .slice a n c ∧ IsRow .i64 w a n c zs := by
    rcases open_ints Try.underlying67 Try.underlying3 (by kernel_rfl) g8 with ⟨hcs, _⟩ | ⟨x, l, c, zs, hcs, _, hl, hm, hz, _, hcell, hwz⟩
    · exact ⟨none, 0, 0, [], by simpa using hcs, .inl ⟨rfl, rfl, rfl, rfl⟩⟩
    · exact ⟨some x, l, c, zs, by simpa using hcs, .inr ⟨_, rfl, hl, hm, by simpa using hz, hcell, hwz⟩⟩
  have hjl : jn ≤ 9223372036854775807 := by
    rcases hrow with ⟨_, h, _, _⟩ | ⟨_, _, h1, h2, _⟩
    · omega
    · unfold maxLen at h2; omega
  have hR := Row.of hrow
  have hRl := hR.1
  obtain ⟨m, hm, zm⟩ := open_msgCells rfl g10
  obtain ⟨qa, qc, na, nc, sa, sc, xa, xc, hv, hm1⟩ := id hm
  have hv' : [c15, c16, c17, c18, c19, c20, c21, c22, c23, c24, c25, c26] = msgL m qa qc na nc sa sc xa xc := by
    have := congrArg (fun v => match v with | .agg a => a.toList | _ => []) hv
    exact this
  unfold maxLen at z5
  refine ⟨⟨s0, s1, s2, s3, s4, s5, s6, ⟨qn, qt, qk⟩, zs.take jn, km, m⟩, ja, jc, qa, qc, na, nc, sa, sc, xa, xc, ?_, ?_, ?_, ⟨z5, zq, by show (zs.take jn).length ≤ _; omega, zk, zm⟩⟩
  · rw [← hv']
    show _ = [Value.int .i64 s0, .int .i64 s1, .int .i64 s2, .int .i64 s3, .int .i64 s4, .string s5, .bool s6, .string qn, .int .i64 qt, .int .i64 qk, .slice ja (zs.take jn).length jc, .int .i64 km.id, .int .i64 km.port, .string km.tx, .bool km.tcp] ++ _
    rw [hRl]
    rfl
  · show Row w ja (zs.take jn).length (zs.take jn)
    rw [hRl]
    exact hR
  · show MsgAt w (.agg (msgL m qa qc na nc sa sc xa xc).toArray) m
    rw [← hv']
    exact hm
theorem open_rows20 {H : Type} {enc : TypeId × Value → H} {w : World} {base : Nat} {held : Bool} {fuel : Nat} {a : Option Addr} {len cap : Nat} {x : DataW H × List MemPlace} (h : DataW.trod enc Try.prog w base (fun _ => true) held fuel 57 (Value.slice a len cap).cells.toList = some x) :
    ∃ l, Row20 w a len l ∧ (a = none → len = 0 ∧ cap = 0) ∧ len ≤ maxLen := by
  have hc3 : Try.prog.cellsOf 77 = 27 := by kernel_rfl
  rcases open_slice Try.underlying57 h with ⟨hcs, _⟩ | ⟨a', len', cap', m, n, D, Pl, hcs, _, hl, hm, hmm, _, hi⟩
  · simp [Value.cells] at hcs
    obtain ⟨rfl, rfl, rfl⟩ := hcs
    exact ⟨[], ⟨rfl, Or.inl rfl⟩, fun _ => ⟨rfl, rfl⟩, Nat.zero_le _⟩
  · simp [Value.cells] at hcs
    obtain ⟨rfl, rfl, rfl⟩ := hcs
    rw [hc3] at hi
    have hlm : len ≤ m := by
      rw [hmm]; split <;> omega
    have hr : ∀ i, i < len → ∃ o : O20, ∃ (ja : Option Addr) (jc : Nat) (qa : Option Addr) (qc : Nat) (na : Option Addr) (nc : Nat) (sa : Option Addr) (sc : Nat) (xa : Option Addr) (xc : Nat), Row w ja o.J.length o.J ∧ MsgAt w (.agg (msgL o.m qa qc na nc sa sc xa xc).toArray) o.m ∧ O20z o ∧ ∀ j, j < 27 → w.cell? ((a'.add (i * 27)).add j) = (o20L o ja jc ++ msgL o.m qa qc na nc sa sc xa xc)[j]? := fun i hil => by
      obtain ⟨cs', hc, ht⟩ := hi i (by omega)
      obtain ⟨_, hcl, hat⟩ := World.cells?_some hc
      obtain ⟨o, ja, jc, qa, qc, na, nc, sa, sc, xa, xc, rfl, h1, h2, h3⟩ := open_op20 hcl ht
      exact ⟨o, ja, jc, qa, qc, na, nc, sa, sc, xa, xc, h1, h2, h3, fun j hj => hat j hj⟩
    obtain ⟨l, hll, hlp⟩ := list_choose _ len hr
    refine ⟨l, ⟨hll, ?_⟩, (fun h => by cases h), by omega⟩
    by_cases h0 : len = 0
    · exact Or.inl h0
    right
    obtain ⟨b, off, spot⟩ := a'
    obtain ⟨r0, hr0⟩ : ∃ r, l[0]? = some r := ⟨_, List.getElem?_eq_getElem (by omega)⟩
    obtain ⟨_, _, _, _, _, _, _, _, _, _, _, _, _, hz0⟩ := hlp 0 r0 hr0
    have hc0 := hz0 0 (by omega)
    have hc0' : w.cell? (((⟨b, off, spot⟩ : Addr).add (0 * 27)).add 0) = some (.int .i64 r0.kind) := hc0
    have hspot : spot = none := by simpa [Addr.add] using World.cell?_spot hc0'
    subst hspot
    refine ⟨b, off, rfl, ?_, fun j hj => ?_⟩
    · have := block_lt_of_cell hc0'
      simpa [Addr.add] using this
    · obtain ⟨r, hr1⟩ : ∃ r, l[j]? = some r := ⟨_, List.getElem?_eq_getElem (by omega)⟩
      obtain ⟨ja, jc, qa, qc, na, nc, sa, sc, xa, xc, h1, h2, h3, hat⟩ := hlp j r hr1
      have e : l.getD j o20D = r := by rw [List.getD_eq_getElem?_getD, hr1]; rfl
      rw [e]
      refine ⟨ja, jc, qa, qc, na, nc, sa, sc, xa, xc, fun i u hu => ?_, h1, h2, h3⟩
      have hi27 : i < 27 := (List.getElem?_eq_some_iff.1 hu).1
      have h9 := hat i hi27
      rw [Go.Deep.add_add] at h9
      rw [show (⟨b, off + j * 27 + i, none⟩ : Addr) = (⟨b, off, none⟩ : Addr).add (j * 27 + i) by rw [Nat.add_assoc]; simp only [Addr.add]; split <;> simp_all, h9]
      exact hu
end Go.Proofs.Ytocfphijheidbaa
end

section
namespace Go.Proofs.Ytocfphijheidbaa
open Go.RowKit

theorem seek_free {ws : List WtP} {p : Int} {x : ByteArray} {t : Bool} : ∀ (f : Nat) (id : Int), 0 ≤ id ∧ id < 65536 → FreeI ws p x t id f → takenB ws ⟨seekI ws p x t (f + 1) id, p, x, t⟩ = false
  | 0, id, hid, h => by
    obtain ⟨j, hj, h1⟩ := h
    obtain rfl : j = 0 := by omega
    rw [show (id + ((0 : Nat) : Int)) % 65536 = id by omega] at h1
    rw [seek_stop 0 h1]
    exact h1
  | f + 1, id, hid, h => by
    by_cases ht : takenB ws ⟨id, p, x, t⟩ = true
    · rw [seekI_yes (f + 1) ht]
      exact seek_free f (nid id) (nid_in id) (free_next hid h ht)
    · rw [seekI_no (f + 1) ht]
      cases e : takenB ws ⟨id, p, x, t⟩
      · rfl
      · exact absurd e ht
theorem open_free (s : TbP) (now job : Int) (tx : ByteArray) (tcp : Bool) (q : QsP) (hl : s.ws.length ≤ 60000) : takenB s.ws (openW s now job tx tcp q).m = false :=
  seek_free s.ws.length _ (outD_in s.x) (freeI s.ws _ tx tcp _ hl)
structure WsOk (ws : List WtP) : Prop where
  ids : ∀ r ∈ ws, 0 ≤ r.m.id ∧ r.m.id < 65536
  apart : ws.Pairwise (fun a b => a.m ≠ b.m)
theorem WsOk.nil : WsOk [] := ⟨by simp, List.Pairwise.nil⟩
theorem WsOk.sub {ws vs : List WtP} (h : WsOk ws) (hs : vs.Sublist ws) : WsOk vs := ⟨fun r hr => h.ids r (hs.subset hr), h.apart.sublist hs⟩
theorem WsOk.opened {s : TbP} (h : WsOk s.ws) (now job : Int) (tx : ByteArray) (tcp : Bool) (q : QsP) (hl : s.ws.length ≤ 60000) : WsOk (openP s now job tx tcp q).ws := by
  have hf := open_free s now job tx tcp q hl
  refine ⟨fun r hr => ?_, ?_⟩
  · rcases List.mem_append.1 hr with h1 | h1
    · exact h.ids r h1
    · obtain rfl := List.mem_singleton.1 h1
      exact seek_in _ _ (outD_in s.x)
  · refine List.pairwise_append.2 ⟨h.apart, List.pairwise_singleton _ _, fun a ha b hb e => ?_⟩
    obtain rfl := List.mem_singleton.1 hb
    simp only [takenB, List.any_eq_false] at hf
    exact hf a ha ((sameM_iff _ _).2 e)
theorem WsOk.ne {ws : List WtP} (h : WsOk ws) {i j : Nat} {a b : WtP} (hi : ws[i]? = some a) (hj : ws[j]? = some b) (hij : i ≠ j) : a.m ≠ b.m := by
  obtain ⟨hi1, hi2⟩ := List.getElem?_eq_some_iff.1 hi
  obtain ⟨hj1, hj2⟩ := List.getElem?_eq_some_iff.1 hj
  rcases Nat.lt_or_gt_of_ne hij with h1 | h1
  · have := List.pairwise_iff_getElem.1 h.apart i j hi1 hj1 h1
    rw [hi2, hj2] at this
    exact this
  · have := List.pairwise_iff_getElem.1 h.apart j i hj1 hi1 h1
    rw [hi2, hj2] at this
    exact fun e => this e.symm
theorem sameM_no {a b : MkP} (h : a ≠ b) : sameM a b = false := by
  cases e : sameM a b
  · rfl
  · exact absurd ((sameM_iff a b).1 e) h
theorem WsOk.first {ws : List WtP} (h : WsOk ws) {i : Nat} {r : WtP} (hi : ws[i]? = some r) : FirstM ws r.m i r :=
  ⟨hi, (sameM_iff _ _).2 rfl, fun _ _ hj hr' => sameM_no (h.ne hr' hi (Nat.ne_of_lt hj))⟩
theorem WsOk.parted {ws : List WtP} (h : WsOk ws) (p : WtP → Bool) {r : WtP} (hr : r ∈ ws.filter p) : ∀ i r', ¬ FirstM (ws.filter (fun x => !p x)) r.m i r' := by
  rintro i r' ⟨h1, h2, -⟩
  obtain ⟨m1, m2⟩ := List.mem_filter.1 hr
  obtain ⟨n1, n2⟩ := List.mem_filter.1 (List.mem_of_getElem? h1)
  obtain ⟨a, ha⟩ := List.getElem?_of_mem m1
  obtain ⟨b, hb⟩ := List.getElem?_of_mem n1
  have e := (sameM_iff _ _).1 h2
  by_cases hab : a = b
  · subst hab
    rw [ha] at hb
    obtain rfl := Option.some.inj hb
    rw [m2] at n2
    cases n2
  · exact h.ne ha hb hab e.symm
theorem WsOk.erased {ws : List WtP} (h : WsOk ws) {i : Nat} {r : WtP} (hi : ws[i]? = some r) : ∀ j r', ¬ FirstM (ws.eraseIdx i) r.m j r' := by
  rintro j r' ⟨h1, h2, -⟩
  have e := (sameM_iff _ _).1 h2
  rw [List.getElem?_eraseIdx] at h1
  split at h1
  · exact h.ne h1 hi (by omega) e
  · exact h.ne h1 hi (by omega) e
def zWL : List Value := [.int .i64 0, .int .i64 0, .string ⟨#[]⟩, .bool false, .string ⟨#[]⟩, .int .i64 0, .int .i64 0, .int .i64 0, .int .i64 0]
/-- What Match makes of an answer to r, turned by n. -/
def MRes (s : TbP) (r : WtP) (n : Int) (C : List Value) (ok : Bool) (s' : TbP) : Prop :=
  (∃ i r', FirstM s.ws r.m i r' ∧ (r' = r → n = 0) ∧ ok = true ∧ C = encW r' ∧ s' = { s with ws := s.ws.eraseIdx i }) ∨ ((∀ i, FirstM s.ws r.m i r → n ≠ 0) ∧ ok = false ∧ C = zWL ∧ s' = s)
theorem MRes.no {s s' : TbP} {r : WtP} {n : Int} {C : List Value} {ok : Bool} (h : MRes s r n C ok s') (hn : ∀ i r', ¬ FirstM s.ws r.m i r') : ok = false ∧ s' = s := by
  rcases h with ⟨i, r', h1, _⟩ | ⟨_, h2, _, h4⟩
  · exact absurd h1 (hn i r')
  · exact ⟨h2, h4⟩
theorem MRes.wrong {s s' : TbP} {r : WtP} {n : Int} {C : List Value} {ok : Bool} {i : Nat} (h : MRes s r n C ok s') (hr : FirstM s.ws r.m i r) (hn : n ≠ 0) : ok = false ∧ s' = s := by
  rcases h with ⟨j, r', h1, h2, _⟩ | ⟨_, h2, _, h4⟩
  · exact absurd (h2 (h1.one hr).2) hn
  · exact ⟨h2, h4⟩
theorem MRes.right {s s' : TbP} {r : WtP} {C : List Value} {ok : Bool} {i : Nat} (h : MRes s r 0 C ok s') (hr : FirstM s.ws r.m i r) : ok = true ∧ C = encW r ∧ s' = { s with ws := s.ws.eraseIdx i } := by
  rcases h with ⟨j, r', h1, _, h3, h4, h5⟩ | ⟨h1, _⟩
  · obtain ⟨rfl, rfl⟩ := h1.one hr
    exact ⟨h3, h4, h5⟩
  · exact absurd rfl (h1 i hr)
theorem wrap_ne (my : Int) : IntKind.i64.wrap (my + 1) ≠ my := by
  intro e
  rw [IntKind.wrap_i64] at e
  omega
theorem ans_any (ki kp : Int) (kx : ByteArray) (kt : Bool) (mn : ByteArray) (my mc mj mu : Int) (n : Int) (w : World) (hk : 0 ≤ ki ∧ ki < 65536) (hn : 0 ≤ n ∧ n ≤ 4) :
    Calls Try.prog 46 #[.agg #[.int .i64 ki, .int .i64 kp, .string kx, .bool kt, .string mn, .int .i64 my, .int .i64 mc, .int .i64 mj, .int .i64 mu], .int .i64 n] w fun e w' =>
      ∃ (id : Int) (qr : Bool) (a : Option Addr) (nq cq : Nat) (Q : List QsP), e = .returned (.agg #[.int .i64 id, .int .i64 0, .int .i64 0, .bool qr, .bool false, .bool false, .bool false, .bool false, .slice a nq cq, .slice none 0 0, .slice none 0 0, .slice none 0 0]) ∧ RowQs w' a nq Q ∧ nq ≤ 2 ∧ (GoodM ⟨ki, kp, kx, kt⟩ id 0 qr Q ⟨⟨ki, kp, kx, kt⟩, ⟨mn, my, mc⟩, mj, mu⟩ ↔ n = 0) ∧ Below w.heap.size w w' := by
  have hc : (n = 0 ∨ n = 1 ∨ n = 3) ∨ n = 2 ∨ n = 4 := by omega
  rcases hc with hc | rfl | rfl
  · obtain ⟨id, qr, h1, h2⟩ : ∃ id qr, ((n = 0 ∧ id = ki ∧ qr = true) ∨ (n = 1 ∧ id = (ki + 1) % 65536 ∧ qr = true) ∨ (n = 3 ∧ id = ki ∧ qr = false)) ∧ ((qr = true ∧ id = ki) ↔ n = 0) := by
      rcases hc with rfl | rfl | rfl
      · exact ⟨ki, true, Or.inl ⟨rfl, rfl, rfl⟩, by simp⟩
      · refine ⟨_, true, Or.inr (Or.inl ⟨rfl, rfl, rfl⟩), ?_⟩
        simp
        omega
      · exact ⟨ki, false, Or.inr (Or.inr ⟨rfl, rfl, rfl⟩), by simp⟩
    refine (answer_any ki kp kx kt mn my mc mj mu n id qr w hk h1).mono ?_
    rintro e w' ⟨gQ, rfl, hq, hb⟩
    exact ⟨id, qr, _, 1, 1, [⟨mn, my, mc⟩], rfl, hq, by decide, by simp only [GoodM, and_true]; exact h2, hb⟩
  · refine (answer2_any ki kp kx kt mn my mc mj mu _ w rfl).mono ?_
    rintro e w' ⟨gQ, rfl, hq, hb⟩
    refine ⟨ki, true, _, 1, 1, _, rfl, hq, by decide, ?_, hb⟩
    constructor
    · rintro ⟨-, -, -, h⟩
      injection h with h _
      injection h with _ h _
      exact absurd h (wrap_ne my)
    · intro h; cases h
  · refine (answer4_any ki kp kx kt mn my mc mj mu w).mono ?_
    rintro e w' ⟨gQ, cN, rfl, hq, hb⟩
    refine ⟨ki, true, _, 2, cN, _, rfl, hq, by decide, ?_, hb⟩
    constructor
    · rintro ⟨-, -, -, h⟩
      injection h with _ h
      cases h
    · intro h; cases h
theorem matchR_any (bs : List Nat) (q : Nat) (s : TbP) (ki kp : Int) (kx : ByteArray) (kt : Bool) (mn : ByteArray) (my mc mj mu : Int) (n id : Int) (qr : Bool) (a : Option Addr) (nq cq : Nat) (Q : List QsP) (w : World) (h : TbS w bs q s) (hn : s.ws.length ≤ 5000) (hQ : RowQs w a nq Q) (hqn : nq ≤ 2)
    (hg : GoodM ⟨ki, kp, kx, kt⟩ id 0 qr Q ⟨⟨ki, kp, kx, kt⟩, ⟨mn, my, mc⟩, mj, mu⟩ ↔ n = 0) :
    Calls Try.prog 47 #[.pointer (some ⟨q, 0, none⟩), .agg #[.int .i64 ki, .int .i64 kp, .string kx, .bool kt], .agg #[.int .i64 id, .int .i64 0, .int .i64 0, .bool qr, .bool false, .bool false, .bool false, .bool false, .slice a nq cq, .slice none 0 0, .slice none 0 0, .slice none 0 0]] w fun e w' =>
      ∃ (C : List Value) (ok : Bool) (s' : TbP), e = .returned (.tuple #[.agg C.toArray, .bool ok]) ∧ C.length = 9 ∧ (∀ u ∈ C, u.oneCell' = true) ∧ MRes s ⟨⟨ki, kp, kx, kt⟩, ⟨mn, my, mc⟩, mj, mu⟩ n C ok s' ∧ TbS w' bs q s' ∧ Frm w w' bs := by
  refine (match_any bs q s ki kp kx kt id 0 0 qr false false false false a none none none nq cq 0 0 0 0 0 0 Q w h hn hQ (by omega)).mono ?_
  rintro e w' ⟨hc, hf⟩
  rcases hc with ⟨i, r, h1, h2, rfl, h4⟩ | ⟨h1, rfl, h4⟩
  · exact ⟨encW r, true, _, rfl, rfl, encW_one r, Or.inl ⟨i, r, h1, fun e => hg.1 (e ▸ h2), rfl, rfl, rfl⟩, h4, hf⟩
  · exact ⟨zWL, false, s, rfl, rfl, by simp [zWL, Value.oneCell'], Or.inr ⟨fun i hi e => h1 i _ hi (hg.2 e), rfl, rfl, rfl⟩, h4, hf⟩
end Go.Proofs.Ytocfphijheidbaa
end

section
namespace Go.Proofs.Ytocfphijheidbaa
open Go.RowKit

structure St20 (w wx : World) (q : Nat) (c : List Nat) (most : Int) (k : Nat) (s : TbP) : Prop where
  one : OneT w wx q c s
  mst : s.most = most
  ok : WsOk s.ws
  len : (s.ws.length : Int) ≤ most
  few : s.ws.length ≤ k
theorem St20.below {w wx wy : World} {q : Nat} {c : List Nat} {most : Int} {k : Nat} {s : TbP} (h : St20 w wx q c most k s) (hb : Below wx.heap.size wx wy) : St20 w wy q c most k s := ⟨h.one.below hb, h.mst, h.ok, h.len, h.few⟩
theorem St20.next {w wx : World} {q : Nat} {c : List Nat} {most : Int} {k : Nat} {s : TbP} (h : St20 w wx q c most k s) : St20 w wx q c most (k + 1) s := ⟨h.one, h.mst, h.ok, h.len, Nat.le_succ_of_le h.few⟩
theorem St20.put {w wx wy : World} {q : Nat} {c d bs : List Nat} {most : Int} {k : Nat} {s t : TbP} (h : St20 w wx q c most k s) (hs : TbS wy d q t) (hd : ∀ x ∈ d, x ∈ c ∨ wx.heap.size ≤ x) (hf : Frm wx wy bs) (hb : ∀ x ∈ bs, x ∈ c) (hm : t.most = s.most) (hsub : t.ws.Sublist s.ws) : St20 w wy q d most k t :=
  ⟨h.one.put hs hd hf hb, hm.trans h.mst, h.ok.sub hsub, by have := h.len; have := hsub.length_le; omega, Nat.le_trans hsub.length_le h.few⟩
theorem St20.opened {w wx wy : World} {q : Nat} {c d : List Nat} {most : Int} {k : Nat} {s : TbP} {now job : Int} {tx : ByteArray} {tcp : Bool} {qq : QsP} (h : St20 w wx q c most k s) (hs : TbS wy d q (openP s now job tx tcp qq)) (hd : ∀ x ∈ d, x ∈ c ∨ wx.heap.size ≤ x) (hf : Frm wx wy c) (hlt : (s.ws.length : Int) < most) (hm : most ≤ 1000) : St20 w wy q d most (k + 1) (openP s now job tx tcp qq) :=
  ⟨h.one.put hs hd hf (fun _ hx => hx), h.mst, h.ok.opened now job tx tcp qq (by omega), by show ((s.ws ++ [_]).length : Int) ≤ most; rw [List.length_append, List.length_singleton]; omega, by show (s.ws ++ [_]).length ≤ k + 1; rw [List.length_append, List.length_singleton]; have := h.few; omega⟩
theorem St20.few5 {w wx : World} {q : Nat} {c : List Nat} {most : Int} {k : Nat} {s : TbP} (h : St20 w wx q c most k s) (hm : most ≤ 1000) : s.ws.length ≤ 1000 := by have := h.len; omega
theorem St20.q {w wx : World} {q : Nat} {c : List Nat} {most : Int} {k : Nat} {s : TbP} (h : St20 w wx q c most k s) : q ∈ c := h.one.tb.choose_spec.2.1.1
theorem MRes.sub {s s' : TbP} {r : WtP} {n : Int} {C : List Value} {ok : Bool} (h : MRes s r n C ok s') : s'.most = s.most ∧ s'.ws.Sublist s.ws := by
  rcases h with ⟨i, r', _, _, _, _, rfl⟩ | ⟨_, _, _, rfl⟩
  · exact ⟨rfl, List.eraseIdx_sublist _ _⟩
  · exact ⟨rfl, List.Sublist.refl _⟩
theorem out_of {c d : List Nat} {wx : World} {g : Nat} (hd : ∀ x ∈ d, x ∈ c ∨ wx.heap.size ≤ x) (h : g ∉ c) (hlt : g < wx.heap.size) : g ∉ d := fun e => by
  rcases hd g e with h1 | h1
  · exact h h1
  · omega
set_option maxRecDepth 100000 in
theorem rw_neq (i p : Int) (x : ByteArray) (t : Bool) (n : ByteArray) (y c j u : Int) (W : World) : (binOp .neq 84 (.agg #[.int .i64 i, .int .i64 p, .string x, .bool t, .string n, .int .i64 y, .int .i64 c, .int .i64 j, .int .i64 u]) (.agg #[.int .i64 i, .int .i64 p, .string x, .bool t, .string n, .int .i64 y, .int .i64 c, .int .i64 j, .int .i64 u])).run Try.prog W = .ok (.bool false) W := by
  have u3 := Try.underlying3
  have a3 := Try.isAgg3
  have z3 := Try.sizeOf3
  have u9 := Try.underlying9
  have a9 := Try.isAgg9
  have z9 := Try.sizeOf9
  have u4 := Try.underlying4
  have a4 := Try.isAgg4
  have z4 := Try.sizeOf4
  have hS : Try.prog.underlying 84 = some (.struct (Try.prog.fieldsOf 84)) := by
    simp [Program.fieldsOf, Try.underlying84]
  rw [run_neq_struct, show (10000 : Nat) = 9999 + 1 from rfl, run_equalIn_agg W 9999 84 _ _ hS (by kernel_rfl)]
  simp only [Program.fieldsOf, Try.underlying84]
  go_simp
end Go.Proofs.Ytocfphijheidbaa
end
