/- Texts that others rest on, one behind the other: FtE, FtS, FtA, FtB. -/
import Derived.Test.YtgppkpdjpcegbaaRtD
import Derived.Test.YtgppkpdjpcegbaaMgJ
import Derived.BigQuiet
import Derived.Deep.QuietTactic
section
namespace Go.Proofs.Ytgppkpdjpcegbaa
open Go.RowKit

theorem flatO_app (A B : List OptP) : flatO (A ++ B) = flatO A ++ flatO B := List.flatMap_append
theorem encO_one (r : OptP) : ∀ u ∈ encO r, u.oneCell' = true := by
  intro u hu
  simp only [encO, List.mem_cons, List.not_mem_nil, or_false] at hu
  rcases hu with rfl | rfl | rfl | rfl | rfl <;> rfl
theorem flatO_len (l : List OptP) : (flatO l).length = l.length * 5 := by
  induction l with
  | nil => rfl
  | cons a l ih => simp only [flatO, List.flatMap_cons, List.length_append, encO_len] at ih ⊢; rw [ih]; simp; omega
theorem rowO_own {w : World} {B n c : Nat} {a : Option Addr} {T : TypeId} {l : List OptP} (h : w.ownsRow B T 5 (.slice a n c) n (flatO l)) : RowO w a n l := by
  have h0 := h.1
  obtain ⟨a', c', e, h1, _⟩ := cellsK_own h
  injection e with e1 _ e3
  subst e1 e3
  rw [flatO_len] at h0
  exact ⟨by omega, h1⟩
/-- A message with OPTs, or none. -/
def withP (m : MsgP) (L : List OptP) : MsgP := if withE L = 0 then { m with x := keepR optB m.x ++ L.map putR } else askM 0 []
theorem msgAt_zero (w : World) : MsgAt w (.agg #[.int .i64 0, .int .i64 0, .int .i64 0, .bool false, .bool false, .bool false, .bool false, .bool false, .slice none 0 0, .slice none 0 0, .slice none 0 0, .slice none 0 0]) (askM 0 []) := ⟨none, 0, none, 0, none, 0, none, 0, rfl, ⟨⟨rfl, rfl, Or.inl rfl⟩, fun _ => ⟨rfl, rfl⟩⟩, ⟨⟨rfl, rfl, Or.inl rfl⟩, fun _ => ⟨rfl, rfl⟩⟩, ⟨⟨rfl, rfl, Or.inl rfl⟩, fun _ => ⟨rfl, rfl⟩⟩, ⟨rfl, rfl, Or.inl rfl⟩, fun _ => ⟨rfl, rfl⟩⟩
theorem smM_withP {m : MsgP} {L : List OptP} (h : SmallM m) (hl : L.length ≤ 100) : SmM (withP m L) := by
  rw [withP]
  split
  · refine ⟨by have := h.1.1; show m.q.length ≤ 100000; omega, by have := h.2.1.1; show m.a.length ≤ 100000; omega, by have := h.2.2.1.1; show m.n.length ≤ 100000; omega, ?_⟩
    show (keepR optB m.x ++ L.map putR).length ≤ 100000
    have h1 := List.length_filter_le (fun r => !optB r) m.x
    have h2 := h.2.2.2.1
    rw [List.length_append, List.length_map, keepR]; omega
  · exact (small_ask 0).sm
theorem withMA_any (v : Value) (m : MsgP) (la : Option Addr) (n lc : Nat) (L : List OptP) (w : World) (h : MsgAt w v m) (hs : SmallM m) (hl : RowO w la n L) (hln : n ≤ 1000) (hlz : ∀ o ∈ L, o.data.size ≤ 9223372036854775807) :
    Calls Try.prog 19 #[v, .slice la n lc] w fun e w' => (∃ v', e = .returned (.tuple #[v', .int .i64 (withE L)]) ∧ MsgAt w' v' (withP m L)) ∧ Below w.heap.size w w' :=
  (withM_any v m la n lc L w h hs hl hln hlz).mono fun e w' ⟨he, hb⟩ => ⟨by
    rcases he with ⟨h0, v', rfl, ho⟩ | ⟨h0, rfl⟩
    · exact ⟨v', by rw [h0], by rw [withP, if_pos h0]; exact ho.at⟩
    · exact ⟨_, rfl, by rw [withP, if_neg h0]; exact msgAt_zero w'⟩, hb⟩
theorem getM_is (v : Value) (m : MsgP) (w : World) (s a c : Int) (d : Bool) (t : ByteArray) (k : Bool) (r : Int) (h : MsgAt w v m) (hs : m.x.length ≤ 100000) (hg : getO m.x = (⟨s, a, c, d, t⟩, k, r)) :
    Calls Try.prog 11 #[v] w fun e w' => e = .returned (.tuple #[.agg #[.int .i64 s, .int .i64 a, .int .i64 c, .bool d, .string t], .bool k, .int .i64 r]) ∧ Below w.heap.size w w' := by
  refine (getM_any v m w h hs).mono ?_
  rintro e w' ⟨rfl, hb⟩
  rw [hg]
  exact ⟨rfl, hb⟩
theorem MsgAt.open {w : World} {v : Value} {m : MsgP} (h : MsgAt w v m) : ∃ (mi mo mr : Int) (b1 b2 b3 b4 b5 : Bool) (qa na sa xa : Option Addr) (ql qc nl nc sl sc xl xc : Nat), v = .agg #[.int .i64 mi, .int .i64 mo, .int .i64 mr, .bool b1, .bool b2, .bool b3, .bool b4, .bool b5, .slice qa ql qc, .slice na nl nc, .slice sa sl sc, .slice xa xl xc] ∧ m.q.length = ql ∧ m.a.length = nl ∧ m.n.length = sl ∧ m.x.length = xl ∧ RowQ w qa ql m.q ∧ RowR w na nl m.a ∧ RowR w sa sl m.n ∧ RowR w xa xl m.x := by
  obtain ⟨qa, qc, na, nc, sa, sc, xa, xc, rfl, h1, h2, h3, h4⟩ := h
  exact ⟨_, _, _, _, _, _, _, _, qa, na, sa, xa, _, qc, _, nc, _, sc, _, xc, rfl, rfl, rfl, rfl, rfl, h1.1, h2.1, h3.1, h4.1⟩
end Go.Proofs.Ytgppkpdjpcegbaa
end

section
namespace Go.Proofs.Ytgppkpdjpcegbaa
open Go.RowKit

/-- A set. -/
structure SetP where
  k : Ky
  ttl : Int
  data : List ByteArray
def encS (p : SetP × Value) : List Value := [.string p.1.k.n, .int .i64 p.1.k.t, .int .i64 p.1.k.c, .int .i64 p.1.ttl, p.2]
def flatS (L : List (SetP × Value)) : List Value := L.flatMap encS
theorem encS_len (p : SetP × Value) : (encS p).length = 5 := rfl
theorem flatS_len (L : List (SetP × Value)) : (flatS L).length = L.length * 5 := by
  induction L with
  | nil => rfl
  | cons x l ih => rw [flatS, List.flatMap_cons, List.length_append, encS_len]; show 5 + (flatS l).length = _; rw [ih, List.length_cons]; omega
theorem flatS_append (A B : List (SetP × Value)) : flatS (A ++ B) = flatS A ++ flatS B := List.flatMap_append
/-- The records of sets. -/
def recs (s : SetP) : List R5 := s.data.map fun d => ⟨s.k, s.ttl, d⟩
def flatP (S : List SetP) : List R5 := S.flatMap recs
theorem C5.far {w : World} {q : Nat} {c0 c1 c2 c3 c4 : Value} (h : C5 w q c0 c1 c2 c3 c4) (p : Addr) (hp : p.block ≠ q) (v : Value) : C5 (w.setCell p v) q c0 c1 c2 c3 c4 := by
  obtain ⟨h0, h1, h2, h3, h4, h5, f0, f1, f2, f3, f4⟩ := h
  exact ⟨by simpa using h0, (World.cell?_setCell_far _ _ _ _ hp).trans h1, (World.cell?_setCell_far _ _ _ _ hp).trans h2, (World.cell?_setCell_far _ _ _ _ hp).trans h3, (World.cell?_setCell_far _ _ _ _ hp).trans h4, (World.cell?_setCell_far _ _ _ _ hp).trans h5, by simpa using f0, by simpa using f1, by simpa using f2, by simpa using f3, by simpa using f4⟩
theorem C5.set {w : World} {q : Nat} {c0 c1 c2 c3 c4 : Value} (h : C5 w q c0 c1 c2 c3 c4) (v0 v1 v2 v3 v4 : Value) : C5 (((((w.setCell ⟨q, 0, none⟩ v0).setCell ⟨q, 1, none⟩ v1).setCell ⟨q, 2, none⟩ v2).setCell ⟨q, 3, none⟩ v3).setCell ⟨q, 4, none⟩ v4) q v0 v1 v2 v3 v4 := by
  obtain ⟨h0, h1, h2, h3, h4, h5, f0, f1, f2, f3, f4⟩ := h
  refine ⟨by simpa using h0, ?_, ?_, ?_, ?_, ?_, ?_, ?_, ?_, ?_, ?_⟩ <;> go_simp
theorem below_set5 {B : Nat} {w w1 : World} (h : Below B w w1) {q : Nat} (hp : B ≤ q) (v0 v1 v2 v3 v4 : Value) : Below B w (((((w1.setCell ⟨q, 0, none⟩ v0).setCell ⟨q, 1, none⟩ v1).setCell ⟨q, 2, none⟩ v2).setCell ⟨q, 3, none⟩ v3).setCell ⟨q, 4, none⟩ v4) :=
  ((((h.setCell hp _).setCell hp _).setCell hp _).setCell hp _).setCell hp _
def ssD : SetP := ⟨⟨ByteArray.empty, 0, 0⟩, 0, []⟩
/-- A set at five cells. -/
def SetAt (w : World) (b o : Nat) (s : SetP) (p : Option Addr) (c : Nat) : Prop := w.cell? ⟨b, o, none⟩ = some (.string s.k.n) ∧ w.cell? ⟨b, o + 1, none⟩ = some (.int .i64 s.k.t) ∧ w.cell? ⟨b, o + 2, none⟩ = some (.int .i64 s.k.c) ∧ w.cell? ⟨b, o + 3, none⟩ = some (.int .i64 s.ttl) ∧ w.cell? ⟨b, o + 4, none⟩ = some (.slice p s.data.length c) ∧ RowS w p s.data.length s.data ∧ (p = none → s.data.length = 0 ∧ c = 0)
/-- A row of sets. -/
def SetsAt (w : World) (a : Option Addr) (n : Nat) (L : List SetP) : Prop := L.length = n ∧ (n = 0 ∨ ∃ b off, a = some ⟨b, off, none⟩ ∧ b < w.heap.size ∧ ∀ k, k < n → ∃ p c, SetAt w b (off + k * 5) (L.getD k ssD) p c)
theorem SetAt.below {w w' : World} {b o : Nat} {s : SetP} {p : Option Addr} {c : Nat} (h : SetAt w b o s p c) (hlt : b < w.heap.size) (hb : Below w.heap.size w w') : SetAt w' b o s p c := by
  obtain ⟨h0, h1, h2, h3, h4, h5, h6⟩ := h
  exact ⟨(hb.cell hlt).trans h0, (hb.cell hlt).trans h1, (hb.cell hlt).trans h2, (hb.cell hlt).trans h3, (hb.cell hlt).trans h4, h5.below hb, h6⟩
theorem SetsAt.below {w w' : World} {a : Option Addr} {n : Nat} {L : List SetP} (h : SetsAt w a n L) (hb : Below w.heap.size w w') : SetsAt w' a n L := by
  refine ⟨h.1, ?_⟩
  rcases h.2 with h0 | ⟨b, off, rfl, hlt, hc⟩
  · exact Or.inl h0
  · exact Or.inr ⟨b, off, rfl, Nat.lt_of_lt_of_le hlt hb.size, fun k hk => by
      obtain ⟨p, c, h⟩ := hc k hk
      exact ⟨p, c, h.below hlt hb⟩⟩
/-- Small. -/
def SmS (s : SetP) : Prop := s.k.n.size ≤ 60000 ∧ s.data.length ≤ 200 ∧ ∀ j, j < s.data.length → (s.data.getD j ByteArray.empty).size ≤ 60000
/-- Sizes that may be. -/
def SzS (s : SetP) : Prop := s.k.n.size ≤ 9223372036854775807 ∧ s.data.length ≤ 9223372036854775807 ∧ ∀ j, j < s.data.length → (s.data.getD j ByteArray.empty).size ≤ 9223372036854775807
set_option maxRecDepth 100000 in
set_option maxHeartbeats 1600000 in
theorem fewSets_any (a : Option Addr) (len cap : Nat) (L : List SetP) (w : World) (h : SetsAt w a len L) (hlen : len ≤ 9223372036854775807) (hsz : ∀ k, k < len → SzS (L.getD k ssD)) :
    Calls Try.prog 8 #[.slice a len cap] w fun e w' => (e = .returned (.bool false) ∨ e = .returned (.bool true) ∧ len ≤ 100 ∧ ∀ j, j < len → SmS (L.getD j ssD)) ∧ w = w' := by
  have HR := Lib.hid h
  have HSZ := Lib.hid hsz
  clear h hsz
  go_enter Try.func8, Try.ntmps8
  go_wp2
  go_loop [3, 4] (fun n i => ∃ k S : Nat, k ≤ len ∧ k ≤ 100 ∧ S ≤ 60000 ∧ n = .int .i64 S ∧ i = .int .i64 k ∧ Hid (∀ j, j < k → SmS (L.getD j ssD))) (fun _ i => len - (intOf i).toNat)
  case atStart => exact ⟨0, 0, Nat.zero_le _, Nat.zero_le _, Nat.zero_le _, rfl, rfl, fun j hj => absurd hj (by omega)⟩
  case round =>
    obtain ⟨k, S, hk, hk60, hS, rfl, rfl, hall⟩ := hrel
    by_cases hlt : k < len ∧ k < 100
    · obtain ⟨l1, l2⟩ := hlt
      rcases HR.out.2 with h9 | ⟨b, o, rfl, hbl, hc⟩
      · omega
      obtain ⟨p, c, hs⟩ := hc k l1
      have hz := HSZ.out k l1
      obtain ⟨s, hss⟩ : ∃ s, L.getD k ssD = s := ⟨_, rfl⟩
      rw [hss] at hs hz
      have HS := Lib.hid hss
      clear hc hss
      obtain ⟨⟨sn, st, sc1⟩, su, sd⟩ := s
      obtain ⟨dl, hdl⟩ : ∃ x, sd.length = x := ⟨_, rfl⟩
      obtain ⟨c0, -, -, -, c4, hrow, -⟩ := hs
      replace c0 : w.cell? ⟨b, o + k * 5, none⟩ = some (.string sn) := c0
      replace c4 : w.cell? ⟨b, o + k * 5 + 4, none⟩ = some (.slice p sd.length c) := c4
      replace hrow : RowS w p sd.length sd := hrow
      obtain ⟨z1, z2, z3⟩ := hz
      replace z1 : sn.size ≤ 9223372036854775807 := z1
      replace z2 : sd.length ≤ 9223372036854775807 := z2
      replace z3 : ∀ j, j < sd.length → (sd.getD j ByteArray.empty).size ≤ 9223372036854775807 := z3
      rw [hdl] at c4 hrow z2 z3
      have HDL := Lib.hid hdl
      have HROW := Lib.hid hrow
      have HZ3 := Lib.hid z3
      obtain ⟨v, hv, hv1, hv2⟩ := min60 sn
      have HV2 := Lib.hid hv2
      clear hdl hrow z3 hv2
      go_wp2
      go_loop [3, 5] (fun n j => ∃ q S2 : Nat, q ≤ dl ∧ q ≤ 200 ∧ S2 ≤ 120001 + q * 60002 ∧ n = .int .i64 S2 ∧ j = .int .i64 q ∧ Hid (S2 ≤ 60000 → sn.size ≤ 60000 ∧ ∀ i, i < q → (sd.getD i ByteArray.empty).size ≤ 60000)) (fun _ j => dl - (intOf j).toNat)
      case atStart => exact ⟨0, S + v, Nat.zero_le _, Nat.zero_le _, by omega, by first | rfl | go_num, rfl, fun h => ⟨HV2.out (by omega), fun i hi => absurd hi (by omega)⟩⟩
      case round =>
        obtain ⟨q, S2, hq, hq2, hS2, rfl, rfl, hin⟩ := hrel
        by_cases hlt : q < dl ∧ q < 200
        · obtain ⟨m1, m2⟩ := hlt
          rcases HROW.out.2 with h9 | ⟨b2, o2, rfl, hbl2, hc⟩
          · omega
          have e0 := hc q m1
          have y0 := HZ3.out q m1
          obtain ⟨d, hd⟩ : ∃ d, sd.getD q ByteArray.empty = d := ⟨_, rfl⟩
          rw [hd] at e0 y0
          have HD := Lib.hid hd
          obtain ⟨u, hu, hu1, hu2⟩ := min60 d
          have HU2 := Lib.hid hu2
          clear hc hd hu2 hv
          go_wp2
          go_round
          case rel => exact ⟨q + 1, S2 + u + 1, by omega, by omega, by omega, by go_num, by go_num, fun h => ⟨(hin.out (by omega)).1, fun i hi => by
            by_cases e : i = q
            · subst e; rw [HD.out]; exact HU2.out (by omega)
            · exact (hin.out (by omega)).2 i (by omega)⟩⟩
          case measure => simp [intOf]; omega
        · have hd : decide (q < dl) = false ∨ decide (q < dl) = true ∧ decide ((q : Int) < 200) = false := by
            simp only [decide_eq_true_eq, decide_eq_false_iff_not]; omega
          clear hv
          by_cases hov : 60000 < S2
          · have d5 := dT (p := (60000 : Int) < (S2 : Int)) (by omega)
            rcases hd with d1 | ⟨d1, d2⟩
            all_goals
              go_wp2
              go_ret
              exact ⟨by first | exact Or.inl rfl | rfl, rfl⟩
          · have d5 := dF (p := (60000 : Int) < (S2 : Int)) (by omega)
            by_cases hdl2 : 200 < dl
            · have d6 := dT (p := (200 : Int) < (dl : Int)) (by omega)
              rcases hd with d1 | ⟨d1, d2⟩
              all_goals
                go_wp2
                go_ret
                exact ⟨by first | exact Or.inl rfl | rfl, rfl⟩
            · have d6 := dF (p := (200 : Int) < (dl : Int)) (by omega)
              have hqd : q = dl := by omega
              have HN := Lib.hid (show ∀ j, j < k + 1 → SmS (L.getD j ssD) from fun j hj => by
                by_cases e : j = k
                · subst e
                  rw [HS.out]
                  have h2 := hin.out (by omega)
                  refine ⟨h2.1, ?_, fun i hi => h2.2 i ?_⟩
                  · show sd.length ≤ 200
                    rw [HDL.out]; omega
                  · have hi : i < sd.length := hi
                    rw [HDL.out] at hi; omega
                · exact hall.out j (by omega))
              rcases hd with d1 | ⟨d1, d2⟩
              all_goals
                go_wp2
                go_round
                case rel => exact ⟨k + 1, S2, by omega, by omega, by omega, by first | rfl | go_num, by go_num, HN.out⟩
                case measure => simp [intOf]; omega
    · have hd : decide (k < len) = false ∨ decide (k < len) = true ∧ decide ((k : Int) < 100) = false := by
        simp only [decide_eq_true_eq, decide_eq_false_iff_not]; omega
      by_cases h6 : len ≤ 100
      · have e6 := dT (p := (len : Int) ≤ 100) (by omega)
        have hk9 : k = len := by omega
        rcases hd with d1 | ⟨d1, d2⟩
        all_goals
          go_wp2
          go_ret
          exact ⟨by first | exact Or.inr ⟨rfl, h6, fun j hj => hall.out j (by omega)⟩ | exact Or.inr ⟨rfl, fun j hj => hall.out j (by omega)⟩, rfl⟩
      · have e6 := dF (p := (len : Int) ≤ 100) (by omega)
        rcases hd with d1 | ⟨d1, d2⟩
        all_goals
          go_wp2
          go_ret
          exact ⟨by first | exact Or.inl rfl | rfl, rfl⟩
theorem C5.far5 {w : World} {q : Nat} {c0 c1 c2 c3 c4 : Value} (h : C5 w q c0 c1 c2 c3 c4) {g : Nat} (hp : g ≠ q) (o : Nat) (v0 v1 v2 v3 v4 : Value) : C5 (((((w.setCell ⟨g, o, none⟩ v0).setCell ⟨g, o + 1, none⟩ v1).setCell ⟨g, o + 2, none⟩ v2).setCell ⟨g, o + 3, none⟩ v3).setCell ⟨g, o + 4, none⟩ v4) q c0 c1 c2 c3 c4 :=
  ((((h.far _ hp _).far _ hp _).far _ hp _).far _ hp _).far _ hp _
theorem take_set_next {l : List R5} {n k : Nat} (hl : l.length = n) (hk : k < n) : (l.take k ++ List.replicate (n - k) rr0).set k (l[k]'(by omega)) = l.take (k + 1) ++ List.replicate (n - (k + 1)) rr0 := by
  have h1 : (l.take k).length = k := by rw [List.length_take]; omega
  rw [List.set_append_right _ _ (by omega), h1, Nat.sub_self, show n - k = (n - (k + 1)) + 1 by omega, List.replicate_succ, List.set_cons_zero, List.take_succ_eq_append_getElem (by omega), List.append_assoc]
  rfl
set_option maxRecDepth 100000 in
theorem srec_any (n : ByteArray) (t c u : Int) (dv : Value) (pa : Option Addr) (dn dc : Nat) (d : ByteArray) (w : World) (hd : dv = .slice pa dn dc) : Calls Try.prog 51 #[.agg #[.string n, .int .i64 t, .int .i64 c, .int .i64 u, dv], .string d] w fun e w' => e = .returned (.agg #[.string n, .int .i64 t, .int .i64 c, .int .i64 u, .string d]) ∧ Below w.heap.size w w' := by
  subst hd
  go_enter Try.func51, Try.ntmps51
  go_wp2
  refine bodyPost_ret (v := .agg #[.string n, .int .i64 t, .int .i64 c, .int .i64 u, .string d]) (by simp [results, Try.results51, go_sem]) rfl ⟨rfl, ?_⟩
  repeat (first | exact Below.refl _ _ | refine Below.alloc ?_ (by simp) _ | refine Below.setCell ?_ (by simp) _)
set_option maxRecDepth 100000 in
set_option maxHeartbeats 1600000 in
theorem records_any (n : ByteArray) (t c u : Int) (d : List ByteArray) (a : Option Addr) (dn dc : Nat) (w : World) (h : RowS w a dn d) (hl : dn ≤ 100000) : Calls Try.prog 32 #[.agg #[.string n, .int .i64 t, .int .i64 c, .int .i64 u, .slice a dn dc]] w fun e w' => ∃ v, e = .returned v ∧ w'.ownsRow w.heap.size 77 5 v dn (flatR (recs ⟨⟨n, t, c⟩, u, d⟩)) ∧ Below w.heap.size w w' := by
  obtain ⟨i0, hi, hz0, hz1, hz2⟩ := info_parts infoRR
  have h1 := (Below.refl w.heap.size w).alloc (Nat.le_refl _) (.cells #[.string n, .int .i64 t, .int .i64 c, .int .i64 u, .slice a dn dc] 58)
  obtain ⟨w1, hmk, hown, hgr⟩ := run_make_full (P := Try.prog) (w.alloc (.cells #[.string n, .int .i64 t, .int .i64 c, .int .i64 u, .slice a dn dc] 58)) w.heap.size 35 77 i0 _ 5 Try.underlying35 hi hz0 hz1 .i64 .i64 dn (by rw [hz2]; omega) (by unfold maxLen; omega) (by simp)
  rw [made_rr, World.size_alloc] at hown
  rw [World.size_alloc] at hmk
  have hb2 := (Below.refl _ (w.alloc (.cells #[.string n, .int .i64 t, .int .i64 c, .int .i64 u, .slice a dn dc] 58))).grown hgr (Nat.le_refl _) (fun k hk => by cases hk)
  have C1 := Lib.hid ((c5_new w (.string n) (.int .i64 t) (.int .i64 c) (.int .i64 u) (.slice a dn dc) 58).below hb2)
  have HB1 := Lib.hid (h1.trans (hb2.mono h1.size))
  obtain ⟨g, hg⟩ : ∃ g, w.heap.size + 1 = g := ⟨_, rfl⟩
  rw [hg] at hmk hown
  have HO := Lib.hid hown
  have HR := Lib.hid h
  have HL := Lib.hid (show (recs ⟨⟨n, t, c⟩, u, d⟩).length = dn by rw [recs, List.length_map]; exact h.1)
  have hgq : g ≠ w.heap.size := by omega
  have HG := Lib.hid hg
  clear h1 hb2 hgr hown h hg hz0 hz1 hz2 hi
  go_enter Try.func32, Try.ntmps32
  obtain ⟨_, p0, p1, p2, p3, p4, _⟩ := C1.out
  go_wp2_with fail
  go_loopw [13] (fun i wr => ∃ k : Nat, k ≤ dn ∧ i = .int .i64 k ∧ Hid (wr.ownsRow w.heap.size 77 5 (.slice (some ⟨g, 0, none⟩) dn dn) dn (flatR ((recs ⟨⟨n, t, c⟩, u, d⟩).take k ++ List.replicate (dn - k) rr0))) ∧ Hid (C5 wr w.heap.size (.string n) (.int .i64 t) (.int .i64 c) (.int .i64 u) (.slice a dn dc)) ∧ Below w.heap.size w wr) (fun i _ => dn - (intOf i).toNat)
  case atStart => exact ⟨0, Nat.zero_le _, rfl, by simpa using HO, C1, HB1.out⟩
  case round =>
    obtain ⟨k, hk, rfl, ho, hc5, hbw⟩ := hrel
    clear p0 p1 p2 p3 p4 HO C1 HB1
    by_cases hlt : k < dn
    · have HBW := Lib.hid hbw
      rcases (HR.out.below hbw).2 with h9 | ⟨b, o, rfl, hbl, hc⟩
      · omega
      have e0 := hc k hlt
      have HN := Lib.hid (take_set_next HL.out hlt)
      have hlk : (recs ⟨⟨n, t, c⟩, u, d⟩)[k]'(by have := HL.out; omega) = ⟨⟨n, t, c⟩, u, d.getD k ByteArray.empty⟩ := by
        simp only [recs, List.getElem_map]
        rw [List.getD_eq_getElem?_getD, List.getElem?_eq_getElem (by have := HR.out.1; omega)]
        rfl
      rw [hlk] at HN
      obtain ⟨x, hx⟩ : ∃ x, d.getD k ByteArray.empty = x := ⟨_, rfl⟩
      rw [hx] at e0 HN
      clear hc hx hlk hbw
      obtain ⟨_, p0, p1, p2, p3, p4, _⟩ := hc5.out
      go_wp2_with fail
      refine (srec_any n t c u _ _ _ _ x wr rfl).mono ?_; rintro e w2 ⟨rfl, hb⟩
      have HO2 := Lib.hid (own_below' ho.out hb)
      have HC2 := Lib.hid (hc5.out.below hb)
      have HB2 := Lib.hid (HBW.out.trans (hb.mono HBW.out.size))
      clear hb p0 p1 p2 p3 p4 e0 ho hc5
      obtain ⟨v0, v1, v2, v3, v4, y0, y1, y2, y3, y4⟩ := own_cells5 HO2.out k hlt
      have f0 := HO2.out.frozenAt (k * 5)
      have f1 := HO2.out.frozenAt (k * 5 + 1)
      have f2 := HO2.out.frozenAt (k * 5 + 2)
      have f3 := HO2.out.frozenAt (k * 5 + 3)
      have f4 := HO2.out.frozenAt (k * 5 + 4)
      have HO3 := own_set_rr HO2.out k (by rw [List.length_append, List.length_take, List.length_replicate, HL.out]; omega) ⟨⟨n, t, c⟩, u, x⟩
      rw [HN.out] at HO3
      have HO3 := Lib.hid HO3
      have HC3 := Lib.hid (HC2.out.far5 hgq (k * 5) (.string n) (.int .i64 t) (.int .i64 c) (.int .i64 u) (.string x))
      have HB3 := Lib.hid (below_set5' HB2.out (q := g) (by have := HG.out; omega) (k * 5) (.string n) (.int .i64 t) (.int .i64 c) (.int .i64 u) (.string x))
      go_wp2
      go_roundw
      case rel => exact ⟨k + 1, by omega, by go_num, HO3, HC3, HB3.out⟩
      case measure => simp [intOf]; omega
    · have hkn : k = dn := by omega
      subst hkn
      have HF := Lib.hid (show wr.ownsRow w.heap.size 77 5 (.slice (some ⟨g, 0, none⟩) k k) k (flatR (recs ⟨⟨n, t, c⟩, u, d⟩)) by
        have h1 := ho.out
        rw [Nat.sub_self, List.replicate_zero, List.append_nil, List.take_of_length_le (by rw [HL.out]; exact Nat.le_refl _)] at h1
        exact h1)
      have HBW := Lib.hid hbw
      clear ho hc5 hbw
      go_wp2
      go_ret
      exact ⟨_, rfl, HF.out, HBW.out⟩
theorem flatP_append (A B : List SetP) : flatP (A ++ B) = flatP A ++ flatP B := List.flatMap_append
theorem flatP_take (L : List SetP) (k : Nat) (s : SetP) (h : L[k]? = some s) : flatP (L.take (k + 1)) = flatP (L.take k) ++ recs s := by
  rw [List.take_add_one, h, flatP_append]
  simp [flatP]
theorem flatP_le (L : List SetP) (k : Nat) : (flatP (L.take k)).length ≤ (flatP L).length := by
  have h : flatP L = flatP (L.take k) ++ flatP (L.drop k) := by rw [← flatP_append, List.take_append_drop]
  rw [h, List.length_append]; omega
theorem flatR_append (A B : List R5) : flatR (A ++ B) = flatR A ++ flatR B := List.flatMap_append
set_option maxRecDepth 100000 in
set_option maxHeartbeats 1600000 in
theorem flat_any (a : Option Addr) (len cap : Nat) (L : List SetP) (w : World) (h : SetsAt w a len L) (hlen : len ≤ 100000) (hsum : (flatP L).length ≤ 100000) :
    Calls Try.prog 13 #[.slice a len cap] w fun e w' => ∃ v, e = .returned v ∧ w'.ownsRow w.heap.size 77 5 v (flatP L).length (flatR (flatP L)) ∧ Below w.heap.size w w' := by
  obtain ⟨i0, hi, hz0, hz1, hz2⟩ := info_parts infoRR
  have HR := Lib.hid h
  have HL := Lib.hid h.1
  clear h
  go_enter Try.func13, Try.ntmps13
  go_wp2_with fail
  go_loopw [3, 8] (fun v i wr => ∃ k m : Nat, k ≤ len ∧ i = .int .i64 k ∧ Hid ((flatP (L.take k)).length = m) ∧ Hid (wr.ownsRow w.heap.size 77 5 v m (flatR (flatP (L.take k)))) ∧ Hid (Below w.heap.size w wr)) (fun _ i _ => len - (intOf i).toNat)
  case atStart => exact ⟨0, 0, Nat.zero_le _, rfl, rfl, World.ownsRow_nil _ _ _ _, Below.refl _ _⟩
  case round =>
    obtain ⟨k, m, hk, rfl, hm, ho, hbw⟩ := hrel
    by_cases hlt : k < len
    · rcases (HR.out.below hbw.out).2 with h9 | ⟨b, o, rfl, hbl, hc⟩
      · omega
      obtain ⟨p, c, hs⟩ := hc k hlt
      have hLk : L[k]? = some (L.getD k ssD) := by
        rw [List.getD_eq_getElem?_getD, List.getElem?_eq_getElem (by have := HL.out; omega)]; rfl
      obtain ⟨s, hss⟩ : ∃ s, L.getD k ssD = s := ⟨_, rfl⟩
      rw [hss] at hs hLk
      obtain ⟨⟨sn, st, sc1⟩, su, sd⟩ := s
      obtain ⟨dl, hdl2⟩ : ∃ x, sd.length = x := ⟨_, rfl⟩
      obtain ⟨c0, c1, c2, c3, c4, hrow, hnil⟩ := hs
      replace c0 : wr.cell? ⟨b, o + k * 5, none⟩ = some (.string sn) := c0
      replace c1 : wr.cell? ⟨b, o + k * 5 + 1, none⟩ = some (.int .i64 st) := c1
      replace c2 : wr.cell? ⟨b, o + k * 5 + 2, none⟩ = some (.int .i64 sc1) := c2
      replace c3 : wr.cell? ⟨b, o + k * 5 + 3, none⟩ = some (.int .i64 su) := c3
      replace c4 : wr.cell? ⟨b, o + k * 5 + 4, none⟩ = some (.slice p sd.length c) := c4
      replace hrow : RowS wr p sd.length sd := hrow
      rw [hdl2] at c4 hrow
      have hft := flatP_take L k _ hLk
      have hlr : (recs ⟨⟨sn, st, sc1⟩, su, sd⟩).length = dl := by rw [recs, List.length_map]; exact hdl2
      have hle := flatP_le L (k + 1)
      rw [hft, List.length_append, hlr, hm.out] at hle
      have HFT := Lib.hid hft
      have HLR := Lib.hid hlr
      have HROW := Lib.hid hrow
      have hb1 := (Below.refl wr.heap.size wr).alloc (Nat.le_refl _) (.cells #[.string sn, .int .i64 st, .int .i64 sc1, .int .i64 su, .slice p dl c] 58)
      have HB1 := Lib.hid hb1
      have HBX := Lib.hid (hbw.out.trans (hb1.mono hbw.out.size))
      have HO1 := Lib.hid (own_below' ho.out hb1)
      have hdlb : dl ≤ 100000 := by omega
      have hmb : m + dl ≤ 1000000 := by omega
      clear hc hss hdl2 hrow hnil hLk hb1 hft hlr hle
      go_wp2_with fail
      refine (records_any sn st sc1 su sd p dl c _ (HROW.out.below HB1.out) hdlb).mono ?_; rintro e w2 ⟨v2, rfl, hown, hb⟩
      obtain ⟨a2, cc2, rfl, hrr, hnn⟩ := rowR_own hown
      have HRR := Lib.hid hrr
      have HNN := Lib.hid hnn
      have HO2 := Lib.hid (own_below' HO1.out hb)
      have HB2 := Lib.hid (HBX.out.trans (hb.mono HBX.out.size))
      clear hb hown hrr hnn c0 c1 c2 c3 c4
      go_wp2_with (at_builtin; refine append_cellsK rfl _ _ 35 77 rfl i0 _ 5 56 Try.underlying35 hi hz0 hz1 hz2 rfl (by decide) w.heap.size _ m _ rfl HO2.out a2 dl cc2 (flatR (recs ⟨⟨sn, st, sc1⟩, su, sd⟩)) rfl HNN.out HRR.out.2 (flatR_one _) hmb (by decide) HB2.out.size ?_)
      intro v' w3 hown' hgrow'
      have HO3 := Lib.hid hown'
      have HB3 := Lib.hid (HB2.out.grown hgrow' HB2.out.size (fun k hk => (HO2.out.lt k hk).1))
      clear hown' hgrow'
      go_wp2
      go_roundw
      case rel => exact ⟨k + 1, m + dl, by omega, by go_num, Lib.hid (by rw [HFT.out, List.length_append, hm.out, HLR.out]), Lib.hid (by rw [HFT.out, flatR_append]; exact HO3.out), HB3⟩
      case measure => simp [intOf]; omega
    · have HF := Lib.hid (show wr.ownsRow w.heap.size 77 5 u3 (flatP L).length (flatR (flatP L)) by
        have h1 := ho.out
        have h2 := hm.out
        rw [List.take_of_length_le (by rw [HL.out]; omega)] at h1 h2
        rw [h2]; exact h1)
      clear ho hm
      go_wp2
      go_ret
      exact ⟨_, rfl, HF.out, hbw.out⟩
set_option maxRecDepth 100000 in
theorem indexI (a : Option Addr) (n c : Nat) (l : List Int) (x : Int) (w : World) (h : Row w a n l) (hn : n ≤ 1000000) : Calls Try.prog 72 #[.slice a n c, .int .i64 x] w fun e w' => (∃ i : Int, e = .returned (.int .i64 i) ∧ (0 ≤ i ↔ x ∈ l)) ∧ w = w' := by
  have HR := Lib.hid h
  have HL := Lib.hid h.1
  clear h
  go_enter Try.func72, Try.ntmps72
  go_wp2_with fail
  go_loopw [8] (fun i wr => ∃ k : Nat, k ≤ n ∧ i = .int .i64 k ∧ Hid (∀ j, j < k → l.getD j 0 ≠ x) ∧ w = wr) (fun i _ => n - (intOf i).toNat)
  case atStart => exact ⟨0, Nat.zero_le _, rfl, (fun j hj => absurd hj (Nat.not_lt_zero j)), rfl⟩
  case round =>
    obtain ⟨k, hk, rfl, ho, rfl⟩ := hrel
    by_cases hlt : k < n
    · rcases HR.out.2 with h0 | ⟨b, off, rfl, hb, hc⟩
      · omega
      have c0 := hc k hlt
      obtain ⟨y, hy⟩ : ∃ y, l.getD k 0 = y := ⟨_, rfl⟩
      rw [hy] at c0
      have HY := Lib.hid hy
      clear hc hy
      by_cases hxy : x = y
      · have e0 : (x == y) = true := eT hxy
        have HM := Lib.hid (show x ∈ l by
          rw [hxy, ← HY.out, List.getD_eq_getElem?_getD, List.getElem?_eq_getElem (by have := HL.out; omega)]
          exact List.getElem_mem _)
        clear hxy
        go_wp2
        go_ret
        exact ⟨⟨k, rfl, ⟨fun _ => HM.out, fun _ => by omega⟩⟩, rfl⟩
      · have e0 : (x == y) = false := eF hxy
        have HN := Lib.hid (show ∀ j, j < k + 1 → l.getD j 0 ≠ x from fun j hj => by
          by_cases e : j = k
          · subst e; rw [HY.out]; exact fun h => hxy h.symm
          · exact ho.out j (by omega))
        clear hxy
        go_wp2
        go_roundw
        case rel => exact ⟨k + 1, by omega, by go_num, HN.out, trivial⟩
        case measure => simp [intOf]; omega
    · have hkn : k = n := by omega
      have HN := Lib.hid (show ¬ x ∈ l from fun h => by
        obtain ⟨j, hj, e⟩ := List.mem_iff_getElem.1 h
        refine ho.out j (by have := HL.out; omega) ?_
        rw [List.getD_eq_getElem?_getD, List.getElem?_eq_getElem hj]; exact e)
      subst hkn
      go_wp2
      go_ret
      exact ⟨⟨-1, rfl, ⟨fun h => absurd h (by omega), fun h => absurd h HN.out⟩⟩, rfl⟩
set_option maxRecDepth 100000 in
theorem containsI (a : Option Addr) (n c : Nat) (l : List Int) (x : Int) (w : World) (h : Row w a n l) (hn : n ≤ 1000000) : Calls Try.prog 63 #[.slice a n c, .int .i64 x] w fun e w' => e = .returned (.bool (decide (x ∈ l))) ∧ w = w' := by
  have HI := Lib.hid (indexI a n c l x w h hn)
  clear h
  go_enter Try.func63, Try.ntmps63
  go_wp2_with fail
  refine HI.out.mono ?_; rintro e w' ⟨⟨i, rfl, hi⟩, rfl⟩
  by_cases h0 : 0 ≤ i
  · have d := dT h0
    have HV := Lib.hid (show decide (x ∈ l) = true from dT (hi.1 h0))
    go_wp2
    go_ret
    exact ⟨by first | rfl | exact ret_bool HV.out.symm, rfl⟩
  · have d := dF h0
    have HV := Lib.hid (show decide (x ∈ l) = false from dF (fun h => h0 (hi.2 h)))
    go_wp2
    go_ret
    exact ⟨by first | rfl | exact ret_bool HV.out.symm, rfl⟩
set_option maxRecDepth 100000 in
theorem isK (k : Ky) (a : Option Addr) (n c : Nat) (l : List Int) (w : World) (h : Row w a n l) (hn : n ≤ 1000000) : Calls Try.prog 45 #[.agg #[.string k.n, .int .i64 k.t, .int .i64 k.c], .slice a n c] w fun e w' => e = .returned (.bool (decide (k.t ∈ l))) ∧ Below w.heap.size w w' := by
  obtain ⟨kn, kt, kc⟩ := k
  have HC := Lib.hid (fun wx (hb : Below w.heap.size w wx) => containsI a n c l kt wx (h.below hb) hn)
  obtain ⟨bb, hbb⟩ : ∃ x, decide (kt ∈ l) = x := ⟨_, rfl⟩
  rw [hbb] at HC
  show Calls Try.prog _ _ w fun e w' => e = .returned (.bool (decide (kt ∈ l))) ∧ Below w.heap.size w w'
  rw [hbb]
  have HB := Lib.hid ((Below.refl w.heap.size w).alloc (Nat.le_refl _) (.cells #[.string kn, .int .i64 kt, .int .i64 kc] 55))
  clear h hbb
  go_enter Try.func45, Try.ntmps45
  go_wp2_with fail
  refine (HC.out _ HB.out).mono ?_; rintro e w' ⟨rfl, rfl⟩
  go_wp2
  go_ret
  exact ⟨rfl, HB.out⟩
end Go.Proofs.Ytgppkpdjpcegbaa
end

section
namespace Go.Proofs.Ytgppkpdjpcegbaa
open Go.RowKit

theorem CN.v3 {w : World} {q : Nat} {c0 c1 c2 : Value} (h : CN w q [c0, c1, c2]) : w.cell? ⟨q, 0, none⟩ = some c0 ∧ w.cell? ⟨q, 1, none⟩ = some c1 ∧ w.cell? ⟨q, 2, none⟩ = some c2 ∧ w.frozen? ⟨q, 0, none⟩ = false ∧ w.frozen? ⟨q, 1, none⟩ = false ∧ w.frozen? ⟨q, 2, none⟩ = false :=
  ⟨(h.2 0 _ rfl).1, (h.2 1 _ rfl).1, (h.2 2 _ rfl).1, (h.2 0 _ rfl).2, (h.2 1 _ rfl).2, (h.2 2 _ rfl).2⟩
theorem CN.t3 {w : World} {q : Nat} {c0 c1 c2 : Value} (h : CN w q [c0, c1, c2]) (d0 d1 d2 : Value) : CN (((w.setCell ⟨q, 0, none⟩ d0).setCell ⟨q, 1, none⟩ d1).setCell ⟨q, 2, none⟩ d2) q [d0, d1, d2] :=
  (((h.set 0 (by simp) d0).set 1 (by simp) d1).set 2 (by simp) d2)
theorem grown_t3 (w : World) (q : Nat) (d0 d1 d2 : Value) : w.grownBy (((w.setCell ⟨q, 0, none⟩ d0).setCell ⟨q, 1, none⟩ d1).setCell ⟨q, 2, none⟩ d2) (some q) :=
  (((grown_cell w q 0 d0).trans (grown_cell _ q 1 d1)).trans (grown_cell _ q 2 d2))
theorem CN.v8 {w : World} {q : Nat} {c0 c1 c2 c3 c4 c5 c6 c7 : Value} (h : CN w q [c0, c1, c2, c3, c4, c5, c6, c7]) : w.cell? ⟨q, 0, none⟩ = some c0 ∧ w.cell? ⟨q, 1, none⟩ = some c1 ∧ w.cell? ⟨q, 2, none⟩ = some c2 ∧ w.cell? ⟨q, 3, none⟩ = some c3 ∧ w.cell? ⟨q, 4, none⟩ = some c4 ∧ w.cell? ⟨q, 5, none⟩ = some c5 ∧ w.cell? ⟨q, 6, none⟩ = some c6 ∧ w.cell? ⟨q, 7, none⟩ = some c7 ∧ w.frozen? ⟨q, 0, none⟩ = false ∧ w.frozen? ⟨q, 1, none⟩ = false ∧ w.frozen? ⟨q, 2, none⟩ = false ∧ w.frozen? ⟨q, 3, none⟩ = false ∧ w.frozen? ⟨q, 4, none⟩ = false ∧ w.frozen? ⟨q, 5, none⟩ = false ∧ w.frozen? ⟨q, 6, none⟩ = false ∧ w.frozen? ⟨q, 7, none⟩ = false :=
  ⟨(h.2 0 _ rfl).1, (h.2 1 _ rfl).1, (h.2 2 _ rfl).1, (h.2 3 _ rfl).1, (h.2 4 _ rfl).1, (h.2 5 _ rfl).1, (h.2 6 _ rfl).1, (h.2 7 _ rfl).1, (h.2 0 _ rfl).2, (h.2 1 _ rfl).2, (h.2 2 _ rfl).2, (h.2 3 _ rfl).2, (h.2 4 _ rfl).2, (h.2 5 _ rfl).2, (h.2 6 _ rfl).2, (h.2 7 _ rfl).2⟩
theorem CN.t8 {w : World} {q : Nat} {c0 c1 c2 c3 c4 c5 c6 c7 : Value} (h : CN w q [c0, c1, c2, c3, c4, c5, c6, c7]) (d0 d1 d2 d3 d4 d5 d6 d7 : Value) : CN ((((((((w.setCell ⟨q, 0, none⟩ d0).setCell ⟨q, 1, none⟩ d1).setCell ⟨q, 2, none⟩ d2).setCell ⟨q, 3, none⟩ d3).setCell ⟨q, 4, none⟩ d4).setCell ⟨q, 5, none⟩ d5).setCell ⟨q, 6, none⟩ d6).setCell ⟨q, 7, none⟩ d7) q [d0, d1, d2, d3, d4, d5, d6, d7] :=
  ((((((((h.set 0 (by simp) d0).set 1 (by simp) d1).set 2 (by simp) d2).set 3 (by simp) d3).set 4 (by simp) d4).set 5 (by simp) d5).set 6 (by simp) d6).set 7 (by simp) d7)
theorem grown_t8 (w : World) (q : Nat) (d0 d1 d2 d3 d4 d5 d6 d7 : Value) : w.grownBy ((((((((w.setCell ⟨q, 0, none⟩ d0).setCell ⟨q, 1, none⟩ d1).setCell ⟨q, 2, none⟩ d2).setCell ⟨q, 3, none⟩ d3).setCell ⟨q, 4, none⟩ d4).setCell ⟨q, 5, none⟩ d5).setCell ⟨q, 6, none⟩ d6).setCell ⟨q, 7, none⟩ d7) (some q) :=
  ((((((((grown_cell w q 0 d0).trans (grown_cell _ q 1 d1)).trans (grown_cell _ q 2 d2)).trans (grown_cell _ q 3 d3)).trans (grown_cell _ q 4 d4)).trans (grown_cell _ q 5 d5)).trans (grown_cell _ q 6 d6)).trans (grown_cell _ q 7 d7))
theorem CN.v9 {w : World} {q : Nat} {c0 c1 c2 c3 c4 c5 c6 c7 c8 : Value} (h : CN w q [c0, c1, c2, c3, c4, c5, c6, c7, c8]) : w.cell? ⟨q, 0, none⟩ = some c0 ∧ w.cell? ⟨q, 1, none⟩ = some c1 ∧ w.cell? ⟨q, 2, none⟩ = some c2 ∧ w.cell? ⟨q, 3, none⟩ = some c3 ∧ w.cell? ⟨q, 4, none⟩ = some c4 ∧ w.cell? ⟨q, 5, none⟩ = some c5 ∧ w.cell? ⟨q, 6, none⟩ = some c6 ∧ w.cell? ⟨q, 7, none⟩ = some c7 ∧ w.cell? ⟨q, 8, none⟩ = some c8 ∧ w.frozen? ⟨q, 0, none⟩ = false ∧ w.frozen? ⟨q, 1, none⟩ = false ∧ w.frozen? ⟨q, 2, none⟩ = false ∧ w.frozen? ⟨q, 3, none⟩ = false ∧ w.frozen? ⟨q, 4, none⟩ = false ∧ w.frozen? ⟨q, 5, none⟩ = false ∧ w.frozen? ⟨q, 6, none⟩ = false ∧ w.frozen? ⟨q, 7, none⟩ = false ∧ w.frozen? ⟨q, 8, none⟩ = false :=
  ⟨(h.2 0 _ rfl).1, (h.2 1 _ rfl).1, (h.2 2 _ rfl).1, (h.2 3 _ rfl).1, (h.2 4 _ rfl).1, (h.2 5 _ rfl).1, (h.2 6 _ rfl).1, (h.2 7 _ rfl).1, (h.2 8 _ rfl).1, (h.2 0 _ rfl).2, (h.2 1 _ rfl).2, (h.2 2 _ rfl).2, (h.2 3 _ rfl).2, (h.2 4 _ rfl).2, (h.2 5 _ rfl).2, (h.2 6 _ rfl).2, (h.2 7 _ rfl).2, (h.2 8 _ rfl).2⟩
theorem CN.t9 {w : World} {q : Nat} {c0 c1 c2 c3 c4 c5 c6 c7 c8 : Value} (h : CN w q [c0, c1, c2, c3, c4, c5, c6, c7, c8]) (d0 d1 d2 d3 d4 d5 d6 d7 d8 : Value) : CN (((((((((w.setCell ⟨q, 0, none⟩ d0).setCell ⟨q, 1, none⟩ d1).setCell ⟨q, 2, none⟩ d2).setCell ⟨q, 3, none⟩ d3).setCell ⟨q, 4, none⟩ d4).setCell ⟨q, 5, none⟩ d5).setCell ⟨q, 6, none⟩ d6).setCell ⟨q, 7, none⟩ d7).setCell ⟨q, 8, none⟩ d8) q [d0, d1, d2, d3, d4, d5, d6, d7, d8] :=
  (((((((((h.set 0 (by simp) d0).set 1 (by simp) d1).set 2 (by simp) d2).set 3 (by simp) d3).set 4 (by simp) d4).set 5 (by simp) d5).set 6 (by simp) d6).set 7 (by simp) d7).set 8 (by simp) d8)
theorem grown_t9 (w : World) (q : Nat) (d0 d1 d2 d3 d4 d5 d6 d7 d8 : Value) : w.grownBy (((((((((w.setCell ⟨q, 0, none⟩ d0).setCell ⟨q, 1, none⟩ d1).setCell ⟨q, 2, none⟩ d2).setCell ⟨q, 3, none⟩ d3).setCell ⟨q, 4, none⟩ d4).setCell ⟨q, 5, none⟩ d5).setCell ⟨q, 6, none⟩ d6).setCell ⟨q, 7, none⟩ d7).setCell ⟨q, 8, none⟩ d8) (some q) :=
  (((((((((grown_cell w q 0 d0).trans (grown_cell _ q 1 d1)).trans (grown_cell _ q 2 d2)).trans (grown_cell _ q 3 d3)).trans (grown_cell _ q 4 d4)).trans (grown_cell _ q 5 d5)).trans (grown_cell _ q 6 d6)).trans (grown_cell _ q 7 d7)).trans (grown_cell _ q 8 d8))

/-- The header that bytes tell. -/
def hdH (s : ByteArray) : H8 := unH (getTo s 0 2) (getTo s 2 2)
theorem numP_some {s : ByteArray} {wd a : Nat} {x : Int × Nat} (h : numP s wd a = some x) : x = (getTo s a wd, a + wd) ∧ a + wd ≤ s.size := by
  unfold numP at h
  split at h
  · rename_i h2; injection h with h; exact ⟨h.symm, h2⟩
  · cases h
theorem hd6_some {s : ByteArray} {x : (((((Int × Int) × Int) × Int) × Int) × Int) × Nat} (h : hd6P s = some x) : x.1.1.1.1.1.1 = getTo s 0 2 ∧ x.1.1.1.1.1.2 = getTo s 2 2 ∧ 12 ≤ s.size ∧ x.1.1.1.1.2 = getTo s 4 2 ∧ x.1.1.1.2 = getTo s 6 2 ∧ x.1.1.2 = getTo s 8 2 ∧ x.1.2 = getTo s 10 2 := by
  unfold hd6P at h
  simp only [Option.bind_eq_some_iff, Option.map_eq_some_iff] at h
  obtain ⟨x5, ⟨x4, ⟨x3, ⟨x2, ⟨x1, h1, y1, k1, rfl⟩, y2, k2, rfl⟩, y3, k3, rfl⟩, y4, k4, rfl⟩, y5, k5, rfl⟩ := h
  obtain ⟨rfl, -⟩ := numP_some h1
  obtain ⟨rfl, -⟩ := numP_some k1
  obtain ⟨rfl, -⟩ := numP_some k2
  obtain ⟨rfl, -⟩ := numP_some k3
  obtain ⟨rfl, -⟩ := numP_some k4
  obtain ⟨rfl, h12⟩ := numP_some k5
  exact ⟨rfl, rfl, h12, rfl, rfl, rfl, rfl⟩
theorem msgP_hd {s : ByteArray} {x : MsgD × Nat} (h : msgP s = some x) : x.1.h = hdH s ∧ 12 ≤ s.size := by
  unfold msgP at h
  rw [Option.bind_eq_some_iff] at h
  obtain ⟨y, h1, h2⟩ := h
  obtain ⟨e1, e2, e3, -⟩ := hd6_some h1
  unfold msgF at h2
  split at h2
  · cases h2
  · unfold restP at h2
    rw [Option.map_eq_some_iff] at h2
    obtain ⟨z, -, rfl⟩ := h2
    rw [e1, e2]
    exact ⟨rfl, e3⟩
theorem decP_hd {s : ByteArray} {M : MsgD} (h : decP s = some M) : M.h = hdH s ∧ 12 ≤ s.size := by
  unfold decP at h
  split at h
  · cases h
  · rw [Option.bind_eq_some_iff] at h
    obtain ⟨y, h1, h2⟩ := h
    split at h2
    · injection h2 with h2
      subst h2
      exact msgP_hd h1
    · cases h2

/-- A client. -/
structure ClP where
  q : Ky
  fr : ByteArray
  id : Int
  sz : Int
  rd : Bool
  ed : Bool
  tc : Bool
def clV (c : ClP) : Value := .agg #[.string c.q.n, .int .i64 c.q.t, .int .i64 c.q.c, .string c.fr, .int .i64 c.id, .int .i64 c.sz, .bool c.rd, .bool c.ed, .bool c.tc]
def cl0 : ClP := ⟨⟨⟨#[]⟩, 0, 0⟩, ⟨#[]⟩, 0, 0, false, false, false⟩
/-- An answer that says what is wrong. -/
def failM (id op rc : Int) (rd : Bool) (Q : List Ky) : MsgP := ⟨id, op, rc, true, false, false, rd, true, Q, [], [], []⟩
def optW (rc : Int) : OptP := ⟨1232, 0, rc, false, ⟨#[]⟩⟩
noncomputable def failL (id op rc : Int) (rd : Bool) (Q : List Ky) : List UInt8 := encL2 (failM id op rc rd Q) 16000
def askK (q : Ky) : Bool := q.c == 1 && !(decide (q.t ∈ [0, 252, 255, 41]))
def ky0 : Ky := ⟨⟨#[]⟩, 0, 0⟩
def qOf (M : MsgD) : Ky := M.q.getD 0 ky0
/-- What is read: what is told at once, or a client. -/
noncomputable def readM (fr : ByteArray) (tcp : Bool) (M : MsgD) : List UInt8 ⊕ ClP :=
  if M.h.o ≠ 0 then .inl (failL M.h.i M.h.o 4 M.h.b4 [])
  else if M.q.length ≠ 1 ∨ 0 < M.a.length ∨ 0 < M.n.length ∨ (getO M.x).2.2 ≠ 0 then .inl (failL M.h.i 0 1 M.h.b4 [])
  else if 0 < (getO M.x).1.ver then .inl (encL2 (withP (failM M.h.i 0 0 M.h.b4 [qOf M]) [optW 1]) 16000)
  else if askK (qOf M) = false then .inl (failL M.h.i 0 5 M.h.b4 [qOf M])
  else .inr ⟨qOf M, fr, M.h.i, if tcp then 16000 else sizeO M.x 512 1232, M.h.b4, (getO M.x).2.1, tcp⟩
noncomputable def readO (fr : ByteArray) (tcp : Bool) (s : ByteArray) : List UInt8 ⊕ ClP :=
  if s.size < 12 then .inl []
  else if (hdH s).b1 = true then .inl []
  else match decP s with
    | none => .inl (failL (hdH s).i (hdH s).o 1 (hdH s).b4 [])
    | some M => readM fr tcp M
def rdL : List UInt8 ⊕ ClP → List UInt8
  | .inl l => l
  | .inr _ => []
def rdC : List UInt8 ⊕ ClP → ClP
  | .inl _ => cl0
  | .inr c => c
def rdK : List UInt8 ⊕ ClP → Bool
  | .inl _ => false
  | .inr _ => true
theorem readO_short {fr : ByteArray} {tcp : Bool} {s : ByteArray} (h : s.size < 12) : readO fr tcp s = .inl [] := if_pos h
theorem readO_qr {fr : ByteArray} {tcp : Bool} {s : ByteArray} (h1 : ¬ s.size < 12) (h : (hdH s).b1 = true) : readO fr tcp s = .inl [] := by rw [readO, if_neg h1, if_pos h]
theorem readO_no {fr : ByteArray} {tcp : Bool} {s : ByteArray} (h1 : ¬ s.size < 12) (h : (hdH s).b1 = false) (hd : decP s = none) : readO fr tcp s = .inl (failL (hdH s).i (hdH s).o 1 (hdH s).b4 []) := by
  rw [readO, if_neg h1, if_neg (by rw [h]; decide), hd]
theorem readO_some {fr : ByteArray} {tcp : Bool} {s : ByteArray} {M : MsgD} (h1 : ¬ s.size < 12) (h : (hdH s).b1 = false) (hd : decP s = some M) : readO fr tcp s = readM fr tcp M := by
  rw [readO, if_neg h1, if_neg (by rw [h]; decide), hd]
theorem readM_op {fr : ByteArray} {tcp : Bool} {M : MsgD} (h : M.h.o ≠ 0) : readM fr tcp M = .inl (failL M.h.i M.h.o 4 M.h.b4 []) := if_pos h
theorem readM_form {fr : ByteArray} {tcp : Bool} {M : MsgD} (h : M.h.o = 0) (h2 : M.q.length ≠ 1 ∨ 0 < M.a.length ∨ 0 < M.n.length ∨ (getO M.x).2.2 ≠ 0) : readM fr tcp M = .inl (failL M.h.i 0 1 M.h.b4 []) := by
  rw [readM, if_neg (by rw [h]; decide), if_pos h2]
theorem readM_ver {fr : ByteArray} {tcp : Bool} {M : MsgD} (h : M.h.o = 0) (h2 : ¬ (M.q.length ≠ 1 ∨ 0 < M.a.length ∨ 0 < M.n.length ∨ (getO M.x).2.2 ≠ 0)) (h3 : 0 < (getO M.x).1.ver) : readM fr tcp M = .inl (encL2 (withP (failM M.h.i 0 0 M.h.b4 [qOf M]) [optW 1]) 16000) := by
  rw [readM, if_neg (by rw [h]; decide), if_neg h2, if_pos h3]
theorem readM_ref {fr : ByteArray} {tcp : Bool} {M : MsgD} (h : M.h.o = 0) (h2 : ¬ (M.q.length ≠ 1 ∨ 0 < M.a.length ∨ 0 < M.n.length ∨ (getO M.x).2.2 ≠ 0)) (h3 : ¬ 0 < (getO M.x).1.ver) (h4 : askK (qOf M) = false) : readM fr tcp M = .inl (failL M.h.i 0 5 M.h.b4 [qOf M]) := by
  rw [readM, if_neg (by rw [h]; decide), if_neg h2, if_neg h3, if_pos h4]
theorem readM_yes {fr : ByteArray} {tcp : Bool} {M : MsgD} (h : M.h.o = 0) (h2 : ¬ (M.q.length ≠ 1 ∨ 0 < M.a.length ∨ 0 < M.n.length ∨ (getO M.x).2.2 ≠ 0)) (h3 : ¬ 0 < (getO M.x).1.ver) (h4 : askK (qOf M) = true) : readM fr tcp M = .inr ⟨qOf M, fr, M.h.i, if tcp then 16000 else sizeO M.x 512 1232, M.h.b4, (getO M.x).2.1, tcp⟩ := by
  rw [readM, if_neg (by rw [h]; decide), if_neg h2, if_neg h3, if_neg (by rw [h4]; decide)]
end Go.Proofs.Ytgppkpdjpcegbaa
end

section
namespace Go.Proofs.Ytgppkpdjpcegbaa
open Go.RowKit

theorem rowI4 (w : World) : Row (w.alloc (.cells #[.int .i64 0, .int .i64 252, .int .i64 255, .int .i64 41] 3)) (some ⟨w.heap.size, 0, none⟩) 4 [0, 252, 255, 41] := rowI_lit w [0, 252, 255, 41] 3
set_option maxRecDepth 100000 in
set_option maxHeartbeats 8000000 in
theorem fask_any (n : ByteArray) (t c : Int) (w : World) : Calls Try.prog 25 #[.agg #[.string n, .int .i64 t, .int .i64 c]] w fun e w' => e = .returned (.bool (askK ⟨n, t, c⟩)) ∧ Below w.heap.size w w' := by
  by_cases hc : c = 1
  · have e0 : (c == 1) = true := eT hc
    obtain ⟨bb, hbb⟩ : ∃ x, decide (t ∈ [0, 252, 255, 41]) = x := ⟨_, rfl⟩
    have HV := Lib.hid (show askK ⟨n, t, c⟩ = !bb by rw [askK, hbb]; simp [hc])
    rw [HV.out]
    clear HV hc
    have HI := Lib.hid (fun wx (k : Ky) a cc (h : Row wx a 4 [0, 252, 255, 41]) (e : k.t = t) => show Calls Try.prog 45 #[.agg #[.string k.n, .int .i64 t, .int .i64 k.c], .slice a 4 cc] wx fun e w' => e = .returned (.bool bb) ∧ Below wx.heap.size wx w' by have hx := isK k a 4 cc _ wx h (by decide); rw [e, hbb] at hx; exact hx)
    clear hbb
    have HB := Lib.hid (Below.refl w.heap.size w)
    go_enter Try.func25, Try.ntmps25
    have hba := (Below.refl _ _ : Below w.heap.size w w).alloc (Nat.le_refl _) (.cells #[.string n, .int .i64 t, .int .i64 c] 27)
    have HQ := Lib.hid (CN.new w #[.string n, .int .i64 t, .int .i64 c] 27)
    replace HB := Lib.hid (HB.out.trans (hba.mono HB.out.size))
    obtain ⟨w2, hw⟩ : ∃ x, w.alloc (.cells #[.string n, .int .i64 t, .int .i64 c] 27) = x := ⟨_, rfl⟩
    obtain ⟨q2, hq⟩ : ∃ x, w.heap.size = x := ⟨_, rfl⟩
    rw [hw, hq] at HQ
    rw [hw] at HB
    have HW := Lib.hid hw
    have HQ_ := Lib.hid hq
    clear hba hw hq
    go_upto_region 1 with (fail)
    rw [HW.out, HQ_.out]
    clear HW HQ_
    obtain ⟨p0, p1, p2, _⟩ := HQ.out.v3
    have hba := (Below.refl _ _ : Below w2.heap.size w2 w2).alloc (Nat.le_refl _) (.cells #[.string ⟨#[]⟩, .int .i64 t, .int .i64 0] 55)
    have HK := Lib.hid (CN.new w2 #[.string ⟨#[]⟩, .int .i64 t, .int .i64 0] 55)
    replace HB := Lib.hid (HB.out.trans (hba.mono HB.out.size))
    replace HQ := Lib.hid (HQ.out.below hba)
    obtain ⟨w3, hw⟩ : ∃ x, w2.alloc (.cells #[.string ⟨#[]⟩, .int .i64 t, .int .i64 0] 55) = x := ⟨_, rfl⟩
    obtain ⟨q3, hq⟩ : ∃ x, w2.heap.size = x := ⟨_, rfl⟩
    rw [hw, hq] at HK
    rw [hw] at HB HQ
    have HW := Lib.hid hw
    have HQ_ := Lib.hid hq
    clear hba hw hq
    go_upto_region 2 with (fail)
    rw [HW.out, HQ_.out]
    clear HW HQ_
    clear p0 p1 p2
    obtain ⟨p0, p1, p2, _⟩ := HQ.out.v3
    obtain ⟨k0, k1, k2, _⟩ := HK.out.v3
    have hba := (Below.refl _ _ : Below w3.heap.size w3 w3).alloc (Nat.le_refl _) (.cells #[.int .i64 0, .int .i64 252, .int .i64 255, .int .i64 41] 3)
    have HR := Lib.hid (rowI4 w3)
    replace HB := Lib.hid (HB.out.trans (hba.mono HB.out.size))
    clear hba
    go_wp2_with fail
    refine (HI.out _ ⟨⟨#[]⟩, t, 0⟩ _ _ HR.out rfl).mono ?_; rintro e w9 ⟨rfl, hb⟩
    clear p0 p1 p2 k0 k1 k2
    have HB2 := Lib.hid (HB.out.trans (hb.mono HB.out.size))
    clear hb
    cases bb
    · go_wp2
      go_ret
      exact ⟨rfl, HB2.out⟩
    · go_wp2
      go_ret
      exact ⟨rfl, HB2.out⟩
  have e0 : (c == 1) = false := eF hc
  have HV := Lib.hid (show askK ⟨n, t, c⟩ = false by rw [askK, e0]; rfl)
  rw [HV.out]
  clear HV hc
  have HB := Lib.hid (Below.refl w.heap.size w)
  go_enter Try.func25, Try.ntmps25
  have hba := (Below.refl _ _ : Below w.heap.size w w).alloc (Nat.le_refl _) (.cells #[.string n, .int .i64 t, .int .i64 c] 27)
  have HQ := Lib.hid (CN.new w #[.string n, .int .i64 t, .int .i64 c] 27)
  replace HB := Lib.hid (HB.out.trans (hba.mono HB.out.size))
  obtain ⟨w2, hw⟩ : ∃ x, w.alloc (.cells #[.string n, .int .i64 t, .int .i64 c] 27) = x := ⟨_, rfl⟩
  obtain ⟨q2, hq⟩ : ∃ x, w.heap.size = x := ⟨_, rfl⟩
  rw [hw, hq] at HQ
  rw [hw] at HB
  have HW := Lib.hid hw
  have HQ_ := Lib.hid hq
  clear hba hw hq
  go_upto_region 1 with (fail)
  rw [HW.out, HQ_.out]
  clear HW HQ_
  obtain ⟨p0, p1, p2, _⟩ := HQ.out.v3
  have hba := (Below.refl _ _ : Below w2.heap.size w2 w2).alloc (Nat.le_refl _) (.cells #[.string ⟨#[]⟩, .int .i64 t, .int .i64 0] 55)
  have HK := Lib.hid (CN.new w2 #[.string ⟨#[]⟩, .int .i64 t, .int .i64 0] 55)
  replace HB := Lib.hid (HB.out.trans (hba.mono HB.out.size))
  replace HQ := Lib.hid (HQ.out.below hba)
  obtain ⟨w3, hw⟩ : ∃ x, w2.alloc (.cells #[.string ⟨#[]⟩, .int .i64 t, .int .i64 0] 55) = x := ⟨_, rfl⟩
  obtain ⟨q3, hq⟩ : ∃ x, w2.heap.size = x := ⟨_, rfl⟩
  rw [hw, hq] at HK
  rw [hw] at HB HQ
  have HW := Lib.hid hw
  have HQ_ := Lib.hid hq
  clear hba hw hq
  go_upto_region 2 with (fail)
  rw [HW.out, HQ_.out]
  clear HW HQ_
  clear p0 p1 p2
  obtain ⟨p0, p1, p2, _⟩ := HQ.out.v3
  go_wp2
  go_ret
  exact ⟨rfl, HB.out⟩

def hV (h : H8) : Value := .agg #[.int .i64 h.i, .int .i64 h.o, .int .i64 h.r, .bool h.b1, .bool h.b2, .bool h.b3, .bool h.b4, .bool h.b5]
theorem byteAt_take (l : List UInt8) {j k : Nat} (h : j < k) : byteAt (bs (l.take k)) j = byteAt (bs l) j := by
  unfold byteAt
  have h1 : (bs (l.take k)).data.toList = l.take k := rfl
  have h2 : (bs l).data.toList = l := rfl
  rw [h1, h2, List.getD_eq_getElem?_getD, List.getD_eq_getElem?_getD, List.getElem?_take_of_lt h]
theorem get_x (s : ByteArray) (h : 12 ≤ s.size) (h2 : s.size ≤ 20000) (x : Int) (hx : getTo s 0 2 = x) (w : World) : Calls Try.prog 43 #[.string s, .int .i64 0, .int .i64 2] w fun e w' => e = .returned (.tuple #[.int .i64 x, .int .i64 0]) ∧ w = w' := by
  subst hx
  exact get_yes s 0 2 w (by decide) (by decide) (by omega) (by omega)
theorem get_y (s : ByteArray) (h : 12 ≤ s.size) (h2 : s.size ≤ 20000) (x : Int) (hx : getTo s 2 2 = x) (w : World) : Calls Try.prog 43 #[.string s, .int .i64 2, .int .i64 2] w fun e w' => e = .returned (.tuple #[.int .i64 x, .int .i64 0]) ∧ w = w' := by
  subst hx
  exact get_yes s 2 2 w (by decide) (by decide) (by omega) (by omega)
theorem unflag_hd (i f : Int) (h : H8) (hu : unH i f = h) (h1 : inR i 65535 = true) (h2 : inR f 65535 = true) (w : World) :
    Calls Try.prog 44 #[.int .i64 i, .int .i64 f] w fun e w' => e = .returned (.tuple #[hV h, .int .i64 0]) ∧ Below w.heap.size w w' := by
  subst hu
  exact unflag_yes i f w h1 h2
def hdO (s : ByteArray) : H8 × Bool := if s.size < 12 then (⟨0, 0, 0, false, false, false, false, false⟩, false) else (hdH s, true)
set_option maxRecDepth 100000 in
set_option maxHeartbeats 8000000 in
theorem header_any (a : Option Addr) (n cp : Nat) (l : List UInt8) (w : World) (hr : RowB w a n l) (hn : a = none → n = 0 ∧ cp = 0) (hb : n ≤ 20000) (hc : n ≤ cp) : Calls Try.prog 21 #[.slice a n cp] w fun e w' => e = .returned (.tuple #[hV (hdO (bs l)).1, .bool (hdO (bs l)).2]) ∧ Below w.heap.size w w' := by
  have HSZ := Lib.hid (show (bs l).size = n by rw [bs_size]; exact hr.len)
  have HRB := Lib.hid hr
  have HN := Lib.hid hn
  have HB := Lib.hid (Below.refl w.heap.size w)
  by_cases g1 : n < 12
  · have d1 := dT (p := (n : Int) < (12 : Int)) (by omega)
    have HV := Lib.hid (show hdO (bs l) = (⟨0, 0, 0, false, false, false, false, false⟩, false) from if_pos (by rw [HSZ.out]; exact g1))
    rw [HV.out]
    clear HV g1 hr hn hb hc
    go_enter Try.func21, Try.ntmps21
    have hba := (Below.refl _ _ : Below w.heap.size w w).alloc (Nat.le_refl _) (.cells #[.int .i64 0, .int .i64 0, .int .i64 0, .bool false, .bool false, .bool false, .bool false, .bool false] 33)
    have HC := Lib.hid (CN.new w #[.int .i64 0, .int .i64 0, .int .i64 0, .bool false, .bool false, .bool false, .bool false, .bool false] 33)
    replace HB := Lib.hid (HB.out.trans (hba.mono HB.out.size))
    replace HRB := Lib.hid (HRB.out.below hba)
    obtain ⟨w2, hw⟩ : ∃ x, w.alloc (.cells #[.int .i64 0, .int .i64 0, .int .i64 0, .bool false, .bool false, .bool false, .bool false, .bool false] 33) = x := ⟨_, rfl⟩
    obtain ⟨q2, hq⟩ : ∃ x, w.heap.size = x := ⟨_, rfl⟩
    rw [hw, hq] at HC
    rw [hw] at HB HRB
    have HW := Lib.hid hw
    have HQ_ := Lib.hid hq
    have HQZ := Lib.hid (show w.heap.size ≤ q2 from by rw [← hq]; exact Nat.le_refl _)
    clear hba hw hq
    go_upto_region 1 with (fail)
    rw [HW.out, HQ_.out]
    clear HW HQ_
    obtain ⟨y0, y1, y2, y3, y4, y5, y6, y7, g0, g1, g2, g3, g4, g5, g6, g7⟩ := HC.out.v8
    have KZ := Lib.hid (HC.out.t8 (.int .i64 0) (.int .i64 0) (.int .i64 0) (.bool false) (.bool false) (.bool false) (.bool false) (.bool false))
    have HGZ := Lib.hid (grown_t8 w2 q2 (.int .i64 0) (.int .i64 0) (.int .i64 0) (.bool false) (.bool false) (.bool false) (.bool false) (.bool false))
    have HBZ := Lib.hid (HB.out.grown HGZ.out HB.out.size (fun k hk => by injection hk with hk; rw [← hk]; exact HQZ.out))
    go_wp2
    obtain ⟨wz, hwz⟩ : ∃ x, ((((((((w2.setCell ⟨q2, 0, none⟩ (.int .i64 0)).setCell ⟨q2, 1, none⟩ (.int .i64 0)).setCell ⟨q2, 2, none⟩ (.int .i64 0)).setCell ⟨q2, 3, none⟩ (.bool false)).setCell ⟨q2, 4, none⟩ (.bool false)).setCell ⟨q2, 5, none⟩ (.bool false)).setCell ⟨q2, 6, none⟩ (.bool false)).setCell ⟨q2, 7, none⟩ (.bool false)) = x := ⟨_, rfl⟩
    rw [hwz] at KZ HBZ ⊢
    clear hwz HGZ y0 y1 y2 y3 y4 y5 y6 y7 g0 g1 g2 g3 g4 g5 g6 g7
    obtain ⟨z0, z1, z2, z3, z4, z5, z6, z7, _⟩ := KZ.out.v8
    refine bodyPost_ret (v := .tuple #[.agg #[.int .i64 0, .int .i64 0, .int .i64 0, .bool false, .bool false, .bool false, .bool false, .bool false], .bool false]) (by simp [results, Try.results21, go_sem, z0, z1, z2, z3, z4, z5, z6, z7]) rfl ⟨rfl, HBZ.out⟩
  have d1 := dF (p := (n : Int) < (12 : Int)) (by omega)
  have HV := Lib.hid (show hdO (bs l) = (hdH (bs l), true) from if_neg (by rw [HSZ.out]; exact g1))
  rw [HV.out]
  clear HV
  have h12 : 12 ≤ l.length := by rw [← bs_size, HSZ.out]; omega
  have hz12 : (bs (l.take 12)).size = 12 := by rw [bs_size, List.length_take]; omega
  have hi := getTo_bd (bs l) 0 2
  have hf := getTo_bd (bs l) 2 2
  have ei : getTo (bs (l.take 12)) 0 2 = getTo (bs l) 0 2 := getTo_congr 2 (fun j hj => byteAt_take l (by omega))
  have ef : getTo (bs (l.take 12)) 2 2 = getTo (bs l) 2 2 := getTo_congr 2 (fun j hj => byteAt_take l (by omega))
  have HUH := Lib.hid (show unH (getTo (bs l) 0 2) (getTo (bs l) 2 2) = hdH (bs l) from rfl)
  obtain ⟨⟨h0, h1, h2, b1, b2, b3, b4, b5⟩, hh⟩ : ∃ x, hdH (bs l) = x := ⟨_, rfl⟩
  rw [hh] at HUH ⊢
  clear hh
  obtain ⟨xi, hxi⟩ : ∃ x, getTo (bs l) 0 2 = x := ⟨_, rfl⟩
  obtain ⟨xf, hxf⟩ : ∃ x, getTo (bs l) 2 2 = x := ⟨_, rfl⟩
  rw [hxi] at hi ei HUH
  rw [hxf] at hf ef HUH
  have HR1 := Lib.hid (inR16 hi)
  have HR2 := Lib.hid (inR16 hf)
  have HRT := Lib.hid (row_take hr (k := 12) (by omega))
  obtain ⟨s, hs⟩ : ∃ x, bs (l.take 12) = x := ⟨_, rfl⟩
  have HS := Lib.hid hs
  rw [hs] at hz12 ei ef
  have HEI := Lib.hid ei
  have HEF := Lib.hid ef
  have HZ12 := Lib.hid hz12
  have hav : a = none ∧ n = 0 ∧ cp = 0 ∨ ∃ β off, a = some ⟨β, off, none⟩ := by
      rcases hr.2 with h0 | ⟨b, off, e, -⟩
      · omega
      · exact Or.inr ⟨b, off, e⟩
  have hsl : ∀ W, (Instr.slice 22 (.slice a n cp) none (some (.int .i64 12)) none).run Try.prog W = .ok (.slice a 12 cp) W := fun W => slice_head a n cp 12 hav (by omega) W
  have HNA := Lib.hid (show a ≠ none by rintro rfl; have := hn rfl; omega)
  clear g1 hr hn hb hc h12 hz12 hi hf ei ef hxi hxf hs hav
  go_enter Try.func21, Try.ntmps21
  have hba := (Below.refl _ _ : Below w.heap.size w w).alloc (Nat.le_refl _) (.cells #[.int .i64 0, .int .i64 0, .int .i64 0, .bool false, .bool false, .bool false, .bool false, .bool false] 33)
  have HC := Lib.hid (CN.new w #[.int .i64 0, .int .i64 0, .int .i64 0, .bool false, .bool false, .bool false, .bool false, .bool false] 33)
  replace HB := Lib.hid (HB.out.trans (hba.mono HB.out.size))
  replace HRB := Lib.hid (HRB.out.below hba)
  obtain ⟨w2, hw⟩ : ∃ x, w.alloc (.cells #[.int .i64 0, .int .i64 0, .int .i64 0, .bool false, .bool false, .bool false, .bool false, .bool false] 33) = x := ⟨_, rfl⟩
  obtain ⟨q2, hq⟩ : ∃ x, w.heap.size = x := ⟨_, rfl⟩
  rw [hw, hq] at HC
  rw [hw] at HB HRB
  have HW := Lib.hid hw
  have HQ_ := Lib.hid hq
  have HQZ := Lib.hid (show w.heap.size ≤ q2 from by rw [← hq]; exact Nat.le_refl _)
  clear hba hw hq
  go_upto_region 1 with (fail)
  rw [HW.out, HQ_.out]
  clear HW HQ_
  have hcv := conv_row (cap := cp) (HRT.out.below HB.out) (fun h => absurd h HNA.out)
  rw [HS.out] at hcv
  go_upto_region 4 with (fail)
  clear hcv hsl d1
  go_wp2_with fail
  refine (get_x s (by rw [HZ12.out]; decide) (by rw [HZ12.out]; decide) xi HEI.out _).mono ?_; rintro e w8 ⟨rfl, rfl⟩
  go_wp2_with fail
  refine (get_y s (by rw [HZ12.out]; decide) (by rw [HZ12.out]; decide) xf HEF.out _).mono ?_; rintro e w8 ⟨rfl, rfl⟩
  have HQW := Lib.hid (show q2 < w2.heap.size from HC.out.1)
  go_wp2_with fail
  refine (unflag_hd xi xf _ HUH.out HR1.out HR2.out _).mono ?_; rintro e w3 ⟨rfl, hb⟩
  replace HB := Lib.hid (HB.out.trans (hb.mono HB.out.size))
  replace HRB := Lib.hid (HRB.out.below hb)
  replace HC := Lib.hid (HC.out.below hb)
  clear hb
  rw [hV]
  dsimp only
  have hba := (Below.refl _ _ : Below w3.heap.size w3 w3).alloc (Nat.le_refl _) (.cells #[.int .i64 h0, .int .i64 h1, .int .i64 h2, .bool b1, .bool b2, .bool b3, .bool b4, .bool b5] 33)
  have H9 := Lib.hid (CN.new w3 #[.int .i64 h0, .int .i64 h1, .int .i64 h2, .bool b1, .bool b2, .bool b3, .bool b4, .bool b5] 33)
  replace HB := Lib.hid (HB.out.trans (hba.mono HB.out.size))
  replace HRB := Lib.hid (HRB.out.below hba)
  replace HC := Lib.hid (HC.out.below hba)
  obtain ⟨w4, hw⟩ : ∃ x, w3.alloc (.cells #[.int .i64 h0, .int .i64 h1, .int .i64 h2, .bool b1, .bool b2, .bool b3, .bool b4, .bool b5] 33) = x := ⟨_, rfl⟩
  obtain ⟨q4, hq⟩ : ∃ x, w3.heap.size = x := ⟨_, rfl⟩
  rw [hw, hq] at H9
  rw [hw] at HB HRB HC
  have HW := Lib.hid hw
  have HQ_ := Lib.hid hq
  clear hba hw hq
  go_upto_region 7 with (fail)
  rw [HW.out, HQ_.out]
  clear HW HQ_
  obtain ⟨x0, x1, x2, x3, x4, x5, x6, x7, _⟩ := H9.out.v8
  obtain ⟨y0, y1, y2, y3, y4, y5, y6, y7, g0, g1, g2, g3, g4, g5, g6, g7⟩ := HC.out.v8
  have KZ := Lib.hid (HC.out.t8 (.int .i64 h0) (.int .i64 h1) (.int .i64 h2) (.bool b1) (.bool b2) (.bool b3) (.bool b4) (.bool b5))
  have HGZ := Lib.hid (grown_t8 w4 q2 (.int .i64 h0) (.int .i64 h1) (.int .i64 h2) (.bool b1) (.bool b2) (.bool b3) (.bool b4) (.bool b5))
  have HBZ := Lib.hid (HB.out.grown HGZ.out HB.out.size (fun k hk => by injection hk with hk; rw [← hk]; exact HQZ.out))
  go_wp2
  obtain ⟨wz, hwz⟩ : ∃ x, ((((((((w4.setCell ⟨q2, 0, none⟩ (.int .i64 h0)).setCell ⟨q2, 1, none⟩ (.int .i64 h1)).setCell ⟨q2, 2, none⟩ (.int .i64 h2)).setCell ⟨q2, 3, none⟩ (.bool b1)).setCell ⟨q2, 4, none⟩ (.bool b2)).setCell ⟨q2, 5, none⟩ (.bool b3)).setCell ⟨q2, 6, none⟩ (.bool b4)).setCell ⟨q2, 7, none⟩ (.bool b5)) = x := ⟨_, rfl⟩
  rw [hwz] at KZ HBZ ⊢
  clear hwz HGZ y0 y1 y2 y3 y4 y5 y6 y7 g0 g1 g2 g3 g4 g5 g6 g7
  obtain ⟨z0, z1, z2, z3, z4, z5, z6, z7, _⟩ := KZ.out.v8
  refine bodyPost_ret (v := .tuple #[.agg #[.int .i64 h0, .int .i64 h1, .int .i64 h2, .bool b1, .bool b2, .bool b3, .bool b4, .bool b5], .bool true]) (by simp [results, Try.results21, go_sem, z0, z1, z2, z3, z4, z5, z6, z7]) rfl ⟨rfl, HBZ.out⟩

set_option maxRecDepth 100000 in
set_option maxHeartbeats 8000000 in
theorem failure_any (id op rc : Int) (rd : Bool) (qa : Option Addr) (ql qc : Nat) (Q : List Ky) (w : World) (hq : RowQ w qa ql Q) (hqn : qa = none → ql = 0 ∧ qc = 0) (hql : ql ≤ 100000) : Calls Try.prog 24 #[.int .i64 id, .int .i64 op, .int .i64 rc, .bool rd, .slice qa ql qc] w fun e w' => ∃ v, e = .returned v ∧ MsgOwn w' w.heap.size v (failM id op rc rd Q) ∧ Below w.heap.size w w' := by
  have HQ := Lib.hid hq
  have HQN := Lib.hid hqn
  have HQE := Lib.hid hq.1
  have HB := Lib.hid (Below.refl w.heap.size w)
  clear hq hqn
  go_enter Try.func24, Try.ntmps24
  have hba := (Below.refl _ _ : Below w.heap.size w w).alloc (Nat.le_refl _) (.cells #[.int .i64 0, .int .i64 0, .int .i64 0, .bool false, .bool false, .bool false, .bool false, .bool false, .slice none 0 0, .slice none 0 0, .slice none 0 0, .slice none 0 0] 37)
  have HC := Lib.hid (CN.new w #[.int .i64 0, .int .i64 0, .int .i64 0, .bool false, .bool false, .bool false, .bool false, .bool false, .slice none 0 0, .slice none 0 0, .slice none 0 0, .slice none 0 0] 37)
  replace HB := Lib.hid (HB.out.trans (hba.mono HB.out.size))
  replace HQ := Lib.hid (HQ.out.below hba)
  obtain ⟨w2, hw⟩ : ∃ x, w.alloc (.cells #[.int .i64 0, .int .i64 0, .int .i64 0, .bool false, .bool false, .bool false, .bool false, .bool false, .slice none 0 0, .slice none 0 0, .slice none 0 0, .slice none 0 0] 37) = x := ⟨_, rfl⟩
  obtain ⟨q2, hq⟩ : ∃ x, w.heap.size = x := ⟨_, rfl⟩
  rw [hw, hq] at HC
  rw [hw] at HB HQ
  have HW := Lib.hid hw
  have HQ_ := Lib.hid hq
  have HQZ := Lib.hid (show w.heap.size ≤ q2 from by rw [← hq]; exact Nat.le_refl _)
  clear hba hw hq
  go_upto_region 1 with (fail)
  rw [HW.out, HQ_.out]
  clear HW HQ_
  have HQW := Lib.hid (show q2 < w2.heap.size from HC.out.1)
  have HW0 := Lib.hid (show w.heap.size ≤ w2.heap.size from HB.out.size)
  have HB1 := Lib.hid (Below.refl w2.heap.size w2)
  go_wp2_with fail
  refine (ask_ex id qa ql qc Q _ HQ.out HQN.out hql).mono ?_; rintro e w3 ⟨qa2, qc2, rfl, ho, hb⟩
  replace HB := Lib.hid (HB.out.trans (hb.mono HB.out.size))
  replace HQ := Lib.hid (HQ.out.below hb)
  replace HC := Lib.hid (HC.out.below hb)
  replace HB1 := Lib.hid (HB1.out.trans (hb.mono HB1.out.size))
  clear hb
  have HO := Lib.hid ho
  clear ho
  have HB12 := Lib.hid HB1.out.size
  have HLT := Lib.hid (fun k hk => HO.out.lt k hk)
  have HB2 := Lib.hid HB.out.size
  have hba := (Below.refl _ _ : Below w3.heap.size w3 w3).alloc (Nat.le_refl _) (.cells #[.int .i64 id, .int .i64 0, .int .i64 0, .bool false, .bool false, .bool false, .bool false, .bool false, .slice qa2 ql qc2, .slice none 0 0, .slice none 0 0, .slice none 0 0] 37)
  have H1 := Lib.hid (CN.new w3 #[.int .i64 id, .int .i64 0, .int .i64 0, .bool false, .bool false, .bool false, .bool false, .bool false, .slice qa2 ql qc2, .slice none 0 0, .slice none 0 0, .slice none 0 0] 37)
  replace HB := Lib.hid (HB.out.trans (hba.mono HB.out.size))
  replace HQ := Lib.hid (HQ.out.below hba)
  replace HC := Lib.hid (HC.out.below hba)
  replace HO := Lib.hid (own_below' HO.out hba)
  obtain ⟨w4, hw⟩ : ∃ x, w3.alloc (.cells #[.int .i64 id, .int .i64 0, .int .i64 0, .bool false, .bool false, .bool false, .bool false, .bool false, .slice qa2 ql qc2, .slice none 0 0, .slice none 0 0, .slice none 0 0] 37) = x := ⟨_, rfl⟩
  obtain ⟨q4, hq⟩ : ∃ x, w3.heap.size = x := ⟨_, rfl⟩
  rw [hw, hq] at H1
  rw [hw] at HB HQ HC HO
  have HW := Lib.hid hw
  have HQ_ := Lib.hid hq
  have HQ1 := Lib.hid (show w3.heap.size ≤ q4 from by rw [← hq]; exact Nat.le_refl _)
  have HQ2 := Lib.hid (show w.heap.size ≤ q4 from by rw [← hq]; exact HB2.out)
  clear hba hw hq
  go_upto_region 2 with (fail)
  rw [HW.out, HQ_.out]
  clear HW HQ_
  obtain ⟨y0, y1, y2, y3, y4, y5, y6, y7, y8, y9, y10, y11, g0, g1, g2, g3, g4, g5, g6, g7, g8, g9, g10, g11⟩ := H1.out.u12
  have K1 := Lib.hid (show CN (((((w4.setCell ⟨q4, 3, none⟩ (.bool true)).setCell ⟨q4, 7, none⟩ (.bool true)).setCell ⟨q4, 1, none⟩ (.int .i64 op)).setCell ⟨q4, 2, none⟩ (.int .i64 rc)).setCell ⟨q4, 6, none⟩ (.bool rd)) q4 [.int .i64 id, .int .i64 op, .int .i64 rc, .bool true, .bool false, .bool false, .bool rd, .bool true, .slice qa2 ql qc2, .slice none 0 0, .slice none 0 0, .slice none 0 0] from (((((H1.out.set 3 (by simp) (.bool true)).set 7 (by simp) (.bool true)).set 1 (by simp) (.int .i64 op)).set 2 (by simp) (.int .i64 rc)).set 6 (by simp) (.bool rd)))
  have HG := Lib.hid (show w4.grownBy (((((w4.setCell ⟨q4, 3, none⟩ (.bool true)).setCell ⟨q4, 7, none⟩ (.bool true)).setCell ⟨q4, 1, none⟩ (.int .i64 op)).setCell ⟨q4, 2, none⟩ (.int .i64 rc)).setCell ⟨q4, 6, none⟩ (.bool rd)) (some q4) from (((((grown_cell w4 q4 3 (.bool true)).trans (grown_cell _ q4 7 (.bool true))).trans (grown_cell _ q4 1 (.int .i64 op))).trans (grown_cell _ q4 2 (.int .i64 rc))).trans (grown_cell _ q4 6 (.bool rd))))
  have HNE := Lib.hid (show q2 ≠ q4 by have h1 := HQW.out; have h2 := HQ1.out; have h3 := HB12.out; omega)
  replace HB := Lib.hid (HB.out.grown HG.out HB.out.size (fun k hk => by injection hk with hk; rw [← hk]; exact HQ2.out))
  replace HC := Lib.hid (HC.out.grown HG.out (fun e => HNE.out (Option.some.inj e)))
  replace HO := Lib.hid (own_apart7 HO.out HG.out (fun k hk e => by have h1 := (HLT.out k hk).2; have h2 := HQ1.out; injection e with e; omega))
  go_upto_region 3 with (fail)
  obtain ⟨wy, hwy⟩ : ∃ x, (((((w4.setCell ⟨q4, 3, none⟩ (.bool true)).setCell ⟨q4, 7, none⟩ (.bool true)).setCell ⟨q4, 1, none⟩ (.int .i64 op)).setCell ⟨q4, 2, none⟩ (.int .i64 rc)).setCell ⟨q4, 6, none⟩ (.bool rd)) = x := ⟨_, rfl⟩
  rw [hwy] at K1 HB HC HO ⊢
  clear hwy HG H1 y0 y1 y2 y3 y4 y5 y6 y7 y8 y9 y10 y11 g0 g1 g2 g3 g4 g5 g6 g7 g8 g9 g10 g11
  obtain ⟨x0, x1, x2, x3, x4, x5, x6, x7, x8, x9, x10, x11, _⟩ := K1.out.u12
  obtain ⟨y0, y1, y2, y3, y4, y5, y6, y7, y8, y9, y10, y11, g0, g1, g2, g3, g4, g5, g6, g7, g8, g9, g10, g11⟩ := HC.out.u12
  have KZ := Lib.hid (HC.out.s12 (.int .i64 id) (.int .i64 op) (.int .i64 rc) (.bool true) (.bool false) (.bool false) (.bool rd) (.bool true) (.slice qa2 ql qc2) (.slice none 0 0) (.slice none 0 0) (.slice none 0 0))
  have HGZ := Lib.hid (grown_s12 wy q2 (.int .i64 id) (.int .i64 op) (.int .i64 rc) (.bool true) (.bool false) (.bool false) (.bool rd) (.bool true) (.slice qa2 ql qc2) (.slice none 0 0) (.slice none 0 0) (.slice none 0 0))
  have HBZ := Lib.hid (HB.out.grown HGZ.out HB.out.size (fun k hk => by injection hk with hk; rw [← hk]; exact HQZ.out))
  have HOZ := Lib.hid (own_apart7 HO.out HGZ.out (fun k hk e => by have h1 := (HLT.out k hk).1; have h2 := HQW.out; injection e with e; omega))
  go_wp2
  obtain ⟨wz, hwz⟩ : ∃ x, ((((((((((((wy.setCell ⟨q2, 0, none⟩ (.int .i64 id)).setCell ⟨q2, 1, none⟩ (.int .i64 op)).setCell ⟨q2, 2, none⟩ (.int .i64 rc)).setCell ⟨q2, 3, none⟩ (.bool true)).setCell ⟨q2, 4, none⟩ (.bool false)).setCell ⟨q2, 5, none⟩ (.bool false)).setCell ⟨q2, 6, none⟩ (.bool rd)).setCell ⟨q2, 7, none⟩ (.bool true)).setCell ⟨q2, 8, none⟩ (.slice qa2 ql qc2)).setCell ⟨q2, 9, none⟩ (.slice none 0 0)).setCell ⟨q2, 10, none⟩ (.slice none 0 0)).setCell ⟨q2, 11, none⟩ (.slice none 0 0)) = x := ⟨_, rfl⟩
  rw [hwz] at KZ HBZ HOZ ⊢
  clear hwz HGZ y0 y1 y2 y3 y4 y5 y6 y7 y8 y9 y10 y11 g0 g1 g2 g3 g4 g5 g6 g7 g8 g9 g10 g11
  obtain ⟨z0, z1, z2, z3, z4, z5, z6, z7, z8, z9, z10, z11, _⟩ := KZ.out.u12
  refine bodyPost_ret (v := .agg #[.int .i64 id, .int .i64 op, .int .i64 rc, .bool true, .bool false, .bool false, .bool rd, .bool true, .slice qa2 ql qc2, .slice none 0 0, .slice none 0 0, .slice none 0 0]) (by simp [results, Try.results24, go_sem, z0, z1, z2, z3, z4, z5, z6, z7, z8, z9, z10, z11]) rfl ⟨_, rfl, ⟨qa2, qc2, none, 0, none, 0, none, 0, by show _ = _; rw [show (failM id op rc rd Q).q.length = ql from HQE.out]; rfl, by show World.ownsRow _ _ _ _ (.slice qa2 (failM id op rc rd Q).q.length qc2) _ _; rw [show (failM id op rc rd Q).q.length = ql from HQE.out]; exact own_mono4 HOZ.out HW0.out, World.ownsRow_nil _ _ _ _, World.ownsRow_nil _ _ _ _, World.ownsRow_nil _ _ _ _⟩, HBZ.out⟩

end Go.Proofs.Ytgppkpdjpcegbaa
end
