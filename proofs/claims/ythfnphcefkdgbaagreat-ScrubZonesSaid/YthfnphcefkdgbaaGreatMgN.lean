/- Texts that others rest on, one behind the other: RRf, RFi, ZnP, ZnK. -/
import Derived.Test.YthfnphcefkdgbaaGreatMgA
import Derived.Test.YthfnphcefkdgbaaGreatMgK
import Derived.Test.YthfnphcefkdgbaaGreatMgE
import Derived.Test.YthfnphcefkdgbaaGreatMgM
import Derived.Test.YthfnphcefkdgbaaGreatFix
import Derived.Laws.StructEq
import Derived.Test.YthfnphcefkdgbaaGreatMgB
import Derived.Laws.OwnMore
import Derived.Maps.AppendAt
import Derived.Maps.OwnOps
import Derived.Maps.OwnSet
section
namespace Go.Proofs.YthfnphcefkdgbaaGreat
open Go.RowKit
end Go.Proofs.YthfnphcefkdgbaaGreat
end
section
namespace Go.Proofs.YthfnphcefkdgbaaGreat
open Go.RowKit
def RFound (L : List SetP) (k : Ky) (w : World) (e : Ending) : Prop :=
 (∃ s p c, findK L k = some s ∧ e = .returned (.tuple #[.agg #[.string s.k.n, .int .i64 s.k.t, .int .i64 s.k.c, .int .i64 s.ttl, .slice p s.data.length c], .bool true]) ∧ RowS w p s.data.length s.data) ∨ (findK L k = none ∧ e = .returned (.tuple #[.agg #[.string ⟨#[]⟩, .int .i64 0, .int .i64 0, .int .i64 0, .slice none 0 0], .bool false]))
set_option maxRecDepth 100000 in
set_option maxHeartbeats 1600000 in
theorem rfind_any (a : Option Addr) (len cap : Nat) (L : List SetP) (kn : ByteArray) (kt kc : Int) (w : World) (h : SetsAt w a len L) (hlen : len ≤ 100000) :
  Calls Tryz.prog 65 #[.slice a len cap, .agg #[.string kn, .int .i64 kt, .int .i64 kc]] w fun e w' => RFound L ⟨kn, kt, kc⟩ w e ∧ Below w.heap.size w w' := by
 have HR := Lib.hid h
 have HL := Lib.hid h.1
 have hq1 := (Below.refl w.heap.size w).alloc (Nat.le_refl _) (.cells #[.string kn, .int .i64 kt, .int .i64 kc] 41)
 have hq2 := (Below.refl _ (w.alloc (.cells #[.string kn, .int .i64 kt, .int .i64 kc] 41))).alloc (Nat.le_refl _) (.cells #[.string ⟨#[]⟩, .int .i64 0, .int .i64 0, .int .i64 0, .slice none 0 0] 43)
 have HK := Lib.hid ((kyAt_new w ⟨kn, kt, kc⟩ 41).below hq2)
 have hc := c5_new (w.alloc (.cells #[.string kn, .int .i64 kt, .int .i64 kc] 41)) (.string ⟨#[]⟩) (.int .i64 0) (.int .i64 0) (.int .i64 0) (.slice none 0 0) 43
 rw [World.size_alloc] at hc
 have HC := Lib.hid hc
 have HB := Lib.hid (hq1.trans (hq2.mono hq1.size))
 clear h hq1 hq2 hc
 go_enter Tryz.func65, Tryz.ntmps65
 go_wp2_with fail
 obtain ⟨w1, hw1⟩ : ∃ x, ((w.alloc (.cells #[.string kn, .int .i64 kt, .int .i64 kc] 41)).alloc (.cells #[.string ⟨#[]⟩, .int .i64 0, .int .i64 0, .int .i64 0, .slice none 0 0] 43)) = x := ⟨_, rfl⟩
 rw [hw1] at HK HC HB ⊢
 clear hw1
 obtain ⟨q2, hq2⟩ : ∃ q, w.heap.size + 1 = q := ⟨_, rfl⟩
 rw [hq2] at HC ⊢
 have HQ2 := Lib.hid hq2
 obtain ⟨q, hq⟩ : ∃ q, w.heap.size = q := ⟨_, rfl⟩
 have HQ := Lib.hid hq
 rw [show (Value.pointer (some { block := w.heap.size, off := 0 })) = Value.pointer (some { block := q, off := 0 }) by rw [hq]]
 replace HK : Hid (KyAt w1 q ⟨kn, kt, kc⟩) := by rw [← hq]; exact HK
 clear hq hq2
 go_loopw [6] (fun i wr => ∃ k m : Nat, k ≤ len ∧ i = .int .i64 k ∧ Hid (∀ s ∈ L.take k, s.k ≠ ⟨kn, kt, kc⟩) ∧ wr = w1.drewN m) (fun i _ => len - (intOf i).toNat)
 case atStart => exact ⟨0, 0, Nat.zero_le _, rfl, (fun s hs => by simp at hs), rfl⟩
 case round =>
  obtain ⟨k, m, hk, rfl, hno, rfl⟩ := hrel
  by_cases hlt : k < len
  · rcases HR.out.2 with h9 | ⟨b, o, rfl, hbl, hc⟩
    · omega
    obtain ⟨p, c, hs⟩ := hc k hlt
    have hLk : L[k]? = some (L.getD k ssD) := by
      rw [List.getD_eq_getElem?_getD, List.getElem?_eq_getElem (by have := HL.out; omega)]; rfl
    obtain ⟨s, hss⟩ : ∃ s, L.getD k ssD = s := ⟨_, rfl⟩
    rw [hss] at hs hLk
    obtain ⟨⟨sn, st, sc1⟩, su, sd⟩ := s
    obtain ⟨dl, hdl2⟩ : ∃ x, sd.length = x := ⟨_, rfl⟩
    have hrow : RowS w p sd.length sd := hs.2.2.2.2.2.1
    obtain ⟨c0, c1, c2, c3, c4, -, -⟩ := hs.below hbl HB.out
    replace c0 : w1.cell? ⟨b, o + k * 5, none⟩ = some (.string sn) := c0
    replace c1 : w1.cell? ⟨b, o + k * 5 + 1, none⟩ = some (.int .i64 st) := c1
    replace c2 : w1.cell? ⟨b, o + k * 5 + 2, none⟩ = some (.int .i64 sc1) := c2
    replace c3 : w1.cell? ⟨b, o + k * 5 + 3, none⟩ = some (.int .i64 su) := c3
    replace c4 : w1.cell? ⟨b, o + k * 5 + 4, none⟩ = some (.slice p sd.length c) := c4
    rw [hdl2] at c4
    have HDL := Lib.hid hdl2
    have HROW := Lib.hid hrow
    have HLK := Lib.hid hLk
    obtain ⟨hqs, p0, p1, p2⟩ := HK.out
    replace p0 : w1.cell? ⟨q, 0, none⟩ = some (.string kn) := p0
    replace p1 : w1.cell? ⟨q, 1, none⟩ = some (.int .i64 kt) := p1
    replace p2 : w1.cell? ⟨q, 2, none⟩ = some (.int .i64 kc) := p2
    have i0 : (0 : Int) ≤ (k : Int) := by omega
    have i2 : (k : Int) < (len : Int) := by omega
    clear hc hss hs hdl2 hrow hLk
    by_cases hkey : (⟨sn, st, sc1⟩ : Ky) = ⟨kn, kt, kc⟩
    · have hke : ∀ W, (binOp .eql 41 (.agg #[.string sn, .int .i64 st, .int .i64 sc1]) (.agg #[.string kn, .int .i64 kt, .int .i64 kc])).run Tryz.prog W = .ok (.bool true) W := fun W => by
        rw [rkey_eql, (key_same ⟨sn, st, sc1⟩ ⟨kn, kt, kc⟩).2 hkey]
      have HF := Lib.hid (findK_some hno.out HLK.out hkey)
      obtain ⟨_, r0, r1, r2, r3, r4, f0, f1, f2, f3, f4⟩ := HC.out
      clear hkey
      go_wp2_with fail
      go_quiet (fail)
      rename_i nq
      have hbq3 := below_drewN (Below.refl w1.heap.size w1) (m + nq)
      have HC2 := Lib.hid (HC.out.below hbq3)
      have HBQ := Lib.hid (HB.out.trans (hbq3.mono HB.out.size))
      have HC3 := Lib.hid (HC2.out.set (.string sn) (.int .i64 st) (.int .i64 sc1) (.int .i64 su) (.slice p dl c))
      have HB3 := Lib.hid (below_set5 HBQ.out (q := q2) (by have := HQ2.out; omega) (.string sn) (.int .i64 st) (.int .i64 sc1) (.int .i64 su) (.slice p dl c))
      clear hbq3
      go_wp2
      obtain ⟨wz, hwz⟩ : ∃ x, ((((((w1.drewN (m + nq)).setCell { block := q2, off := 0 } (Value.string sn)).setCell { block := q2, off := 1 } (Value.int IntKind.i64 st)).setCell { block := q2, off := 2 } (Value.int IntKind.i64 sc1)).setCell { block := q2, off := 3 } (Value.int IntKind.i64 su)).setCell { block := q2, off := 4 } (Value.slice p dl c)) = x := ⟨_, rfl⟩
      rw [hwz] at HC3 HB3 ⊢
      clear hwz r0 r1 r2 r3 r4 f0 f1 f2 f3 f4 HC2
      obtain ⟨_, z0, z1, z2, z3, z4, _⟩ := HC3.out
      refine bodyPost_ret (v := .tuple #[.agg #[.string sn, .int .i64 st, .int .i64 sc1, .int .i64 su, .slice p dl c], .bool true]) (by simp [results, Tryz.results65, go_sem, z0, z1, z2, z3, z4]) rfl ⟨Or.inl ⟨_, p, c, HF.out, ?_, ?_⟩, HB3.out⟩
      · show _ = Ending.returned (.tuple #[.agg #[.string sn, .int .i64 st, .int .i64 sc1, .int .i64 su, .slice p sd.length c], .bool true])
        rw [HDL.out]
      · exact HROW.out
    · have hke : ∀ W, (binOp .eql 41 (.agg #[.string sn, .int .i64 st, .int .i64 sc1]) (.agg #[.string kn, .int .i64 kt, .int .i64 kc])).run Tryz.prog W = .ok (.bool false) W := fun W => by
        rw [rkey_eql, show (sn.toList == kn.toList && (st == kt && sc1 == kc)) = false from Bool.eq_false_iff.2 (fun h => hkey ((key_same ⟨sn, st, sc1⟩ ⟨kn, kt, kc⟩).1 h))]
      have HN := Lib.hid (show ∀ s ∈ L.take (k + 1), s.k ≠ ⟨kn, kt, kc⟩ from fun s hs => by
        rw [List.take_add_one, HLK.out] at hs
        rcases List.mem_append.1 hs with h1 | h1
        · exact hno.out s h1
        · have h2 : s = ⟨⟨sn, st, sc1⟩, su, sd⟩ := by simpa using h1
          rw [h2]; exact hkey)
      clear hkey
      go_wp2_with fail
      go_quiet (fail)
      go_wp2
      rename_i nq
      go_roundw
      case rel => exact ⟨k + 1, m + nq, by omega, by go_num, HN.out, by first | rfl | exact drewN_add _ _ _⟩
      case measure => simp [intOf]; omega
  · have HF := Lib.hid (findK_none hno.out (show L.length ≤ k by rw [HL.out]; omega))
    have hbq := below_drewN (Below.refl w1.heap.size w1) m
    have HC3 := Lib.hid ((HC.out.below hbq).set (.string ⟨#[]⟩) (.int .i64 0) (.int .i64 0) (.int .i64 0) (.slice none 0 0))
    have HB3 := Lib.hid (below_set5 (HB.out.trans (hbq.mono HB.out.size)) (q := q2) (by have := HQ2.out; omega) (.string ⟨#[]⟩) (.int .i64 0) (.int .i64 0) (.int .i64 0) (.slice none 0 0))
    obtain ⟨_, r0, r1, r2, r3, r4, f0, f1, f2, f3, f4⟩ := HC.out
    clear hbq
    go_wp2
    obtain ⟨wz, hwz⟩ : ∃ x, ((((((w1.drewN m).setCell { block := q2, off := 0 } (Value.string ⟨#[]⟩)).setCell { block := q2, off := 1 } (Value.int IntKind.i64 0)).setCell { block := q2, off := 2 } (Value.int IntKind.i64 0)).setCell { block := q2, off := 3 } (Value.int IntKind.i64 0)).setCell { block := q2, off := 4 } (Value.slice none 0 0)) = x := ⟨_, rfl⟩
    rw [hwz] at HC3 HB3 ⊢
    clear hwz r0 r1 r2 r3 r4 f0 f1 f2 f3 f4
    obtain ⟨_, z0, z1, z2, z3, z4, _⟩ := HC3.out
    refine bodyPost_ret (v := .tuple #[.agg #[.string ⟨#[]⟩, .int .i64 0, .int .i64 0, .int .i64 0, .slice none 0 0], .bool false]) (by simp [results, Tryz.results65, go_sem, z0, z1, z2, z3, z4]) rfl ⟨Or.inr ⟨HF.out, rfl⟩, HB3.out⟩
end Go.Proofs.YthfnphcefkdgbaaGreat
end
section
namespace Go.Proofs.YthfnphcefkdgbaaGreat
open Go.RowKit
def RiseS (S : List SetP) : Prop := S.Pairwise (fun s t => kcmp s.k t.k < 0)
theorem RiseS.lt {S : List SetP} (h : RiseS S) {i j : Nat} (hij : i < j) (hj : j < S.length) : kcmp (S.getD i ssD).k (S.getD j ssD).k < 0 := by
 have h1 := List.pairwise_iff_getElem.1 h i j (by omega) hj hij
 rw [List.getD_eq_getElem?_getD, List.getD_eq_getElem?_getD, List.getElem?_eq_getElem (by omega), List.getElem?_eq_getElem hj]
 exact h1
theorem mem_take {S : List SetP} {i : Nat} {s : SetP} (h : s ∈ S.take i) : ∃ t, t < i ∧ t < S.length ∧ S.getD t ssD = s := by
 obtain ⟨t, ht, e⟩ := List.mem_iff_getElem.1 h
 rw [List.length_take] at ht
 rw [List.getElem_take] at e
 exact ⟨t, by omega, by omega, by rw [List.getD_eq_getElem?_getD, List.getElem?_eq_getElem (by omega)]; exact e⟩
def Half (S : List SetP) (k : Ky) (i j : Nat) : Prop := (∀ t, t < i → kcmp (S.getD t ssD).k k < 0) ∧ ∀ t, j ≤ t → t < S.length → 0 ≤ kcmp (S.getD t ssD).k k
theorem Half.up {S : List SetP} (hS : RiseS S) {k : Ky} {i j h : Nat} (hh : Half S k i j) (hj : h < S.length) (hlt : kcmp (S.getD h ssD).k k < 0) : Half S k (h + 1) j := by
 refine ⟨fun t ht => ?_, hh.2⟩
 by_cases e : t = h
 · rw [e]; exact hlt
 · have h1 := hS.lt (show t < h by omega) hj
   have h2 := ord_kcmp.pre.trans (S.getD t ssD).k (S.getD h ssD).k k (by omega) (by omega)
   have h3 : kcmp (S.getD t ssD).k k ≠ 0 := fun e0 => by
    have e1 := (ord_kcmp.zero _ _).1 e0
    rw [e1] at h1
    have h4 := ord_kcmp.anti (S.getD h ssD).k k
    omega
   omega
theorem Half.down {S : List SetP} (hS : RiseS S) {k : Ky} {i j h : Nat} (hh : Half S k i j) (hge : ¬ kcmp (S.getD h ssD).k k < 0) : Half S k i h := by
 refine ⟨hh.1, fun t ht htn => ?_⟩
 by_cases e : t = h
 · rw [e]; omega
 · have h1 := hS.lt (show h < t by omega) htn
   have h4 := ord_kcmp.anti (S.getD t ssD).k (S.getD h ssD).k
   have h5 := ord_kcmp.anti k (S.getD h ssD).k
   have h2 := ord_kcmp.pre.trans k (S.getD h ssD).k (S.getD t ssD).k (by omega) (by omega)
   have h6 := ord_kcmp.anti k (S.getD t ssD).k
   omega
theorem half_yes {S : List SetP} {k : Ky} {i : Nat} (hh : Half S k i i) (hi : i < S.length) (h0 : kcmp (S.getD i ssD).k k = 0) : findK S k = some (S.getD i ssD) := by
 refine findK_some (j := i) (fun s hs => ?_) ?_ ((ord_kcmp.zero _ _).1 h0)
 · obtain ⟨t, ht, -, rfl⟩ := mem_take hs
   intro e
   have h1 := hh.1 t ht
   have h2 := (ord_kcmp.zero (S.getD t ssD).k k).2 e
   omega
 · rw [List.getD_eq_getElem?_getD, List.getElem?_eq_getElem hi]; rfl
theorem half_no {S : List SetP} (hS : RiseS S) {k : Ky} {i : Nat} (hh : Half S k i i) (h0 : i < S.length → kcmp (S.getD i ssD).k k ≠ 0) : findK S k = none := by
 refine findK_none (j := S.length) (fun s hs => ?_) (Nat.le_refl _)
 obtain ⟨t, ht, -, rfl⟩ := mem_take hs
 intro e
 have h2 := (ord_kcmp.zero (S.getD t ssD).k k).2 e
 by_cases h3 : t < i
 · have h1 := hh.1 t h3
   omega
 · by_cases h4 : t = i
   · subst h4
     exact h0 ht h2
   · have h5 := hS.lt (show i < t by omega) ht
     rw [e] at h5
     have h6 := hh.2 i (Nat.le_refl _) (by omega)
     omega
noncomputable def namesN : List SetP → ByteArray → Nat
 | [], _ => 0
 | s :: S, n => (open Classical in if s.k.n = n then s.data.length else 0) + namesN S n
def soasN : List SetP → Nat
 | [] => 0
 | s :: S => (if s.k.t = 6 then s.data.length else 0) + soasN S
theorem soasN_append (A B : List SetP) : soasN (A ++ B) = soasN A + soasN B := by
 induction A with
 | nil => simp [soasN]
 | cons s A ih => rw [List.cons_append, soasN, soasN, ih]; omega
theorem namesN_append (A B : List SetP) (n : ByteArray) : namesN (A ++ B) n = namesN A n + namesN B n := by
 induction A with
 | nil => simp [namesN]
 | cons s A ih => rw [List.cons_append, namesN, namesN, ih]; omega
noncomputable def wholeB (apex : ByteArray) (S : List SetP) : Bool :=
 S.all (fun s => undS s.k.n apex && s.k.c == 1) && (S.all (fun s => !(s.k.t == 5 && decide (1 < namesN S s.k.n))) && ((findK S ⟨apex, 6, 1⟩).isSome && ((findK S ⟨apex, 2, 1⟩).isSome && soasN S == 1)))
end Go.Proofs.YthfnphcefkdgbaaGreat
end
section
namespace Go.Proofs.YthfnphcefkdgbaaGreat
open Go.RowKit
def CN (w : World) (q : Nat) (cs : List Value) : Prop := q < w.heap.size ∧ ∀ j c, cs[j]? = some c → w.cell? ⟨q, j, none⟩ = some c ∧ w.frozen? ⟨q, j, none⟩ = false
theorem CN.below {w w' : World} {q : Nat} {cs : List Value} (h : CN w q cs) (hb : Below w.heap.size w w') : CN w' q cs :=
 ⟨Nat.lt_of_lt_of_le h.1 hb.size, fun j c hj => ⟨(hb.cell (p := ⟨q, j, none⟩) h.1).trans (h.2 j c hj).1, (hb.frozen (p := ⟨q, j, none⟩) h.1).trans (h.2 j c hj).2⟩⟩
theorem CN.grown {w w' : World} {q : Nat} {cs : List Value} {row : Option Nat} (h : CN w q cs) (hg : w.grownBy w' row) (hne : some q ≠ row) : CN w' q cs :=
 ⟨Nat.lt_of_lt_of_le h.1 hg.size, fun j c hj => ⟨(World.cell?_of_block (a := ⟨q, j, none⟩) (hg.block q h.1 hne)).trans (h.2 j c hj).1, (World.frozen?_of_block (a := ⟨q, j, none⟩) (hg.block q h.1 hne)).trans (h.2 j c hj).2⟩⟩
theorem CN.new (w : World) (cs : Array Value) (T : TypeId) : CN (w.alloc (.cells cs T)) w.heap.size cs.toList :=
 ⟨by simp, fun j c hj => ⟨by rw [World.cell?_alloc_new]; rw [Array.getElem?_toList] at hj; exact hj, World.frozen?_alloc_new _ _ _ _⟩⟩
theorem CN.far {w : World} {q : Nat} {cs : List Value} (h : CN w q cs) (p : Addr) (hp : p.block ≠ q) (v : Value) : CN (w.setCell p v) q cs :=
 ⟨by simpa using h.1, fun j c hj => ⟨(World.cell?_setCell_far _ _ _ _ hp).trans (h.2 j c hj).1, by simpa using (h.2 j c hj).2⟩⟩
theorem CN.set {w : World} {q : Nat} {cs : List Value} (h : CN w q cs) (i : Nat) (hi : i < cs.length) (v : Value) : CN (w.setCell ⟨q, i, none⟩ v) q (cs.set i v) := by
 refine ⟨by simpa using h.1, fun j c hj => ?_⟩
 by_cases e : j = i
 · subst e
   rw [List.getElem?_set_self hi] at hj
   obtain rfl := Option.some.inj hj
   have h1 := h.2 j cs[j] (List.getElem?_eq_getElem hi)
   exact ⟨World.cell?_setCell_same _ _ _ h1.1, by rw [World.frozen?_setCell]; exact h1.2⟩
 · rw [List.getElem?_set_ne (by omega)] at hj
   have h1 := h.2 j c hj
   exact ⟨(World.cell?_setCell_other _ _ _ _ (by intro e2; injection e2; omega)).trans h1.1, by rw [World.frozen?_setCell]; exact h1.2⟩
theorem CN.u5 {w : World} {q : Nat} {c0 c1 c2 c3 c4 : Value} (h : CN w q [c0, c1, c2, c3, c4]) : w.cell? ⟨q, 0, none⟩ = some c0 ∧ w.cell? ⟨q, 1, none⟩ = some c1 ∧ w.cell? ⟨q, 2, none⟩ = some c2 ∧ w.cell? ⟨q, 3, none⟩ = some c3 ∧ w.cell? ⟨q, 4, none⟩ = some c4 ∧ w.frozen? ⟨q, 0, none⟩ = false ∧ w.frozen? ⟨q, 1, none⟩ = false ∧ w.frozen? ⟨q, 2, none⟩ = false ∧ w.frozen? ⟨q, 3, none⟩ = false ∧ w.frozen? ⟨q, 4, none⟩ = false :=
 ⟨(h.2 0 _ rfl).1, (h.2 1 _ rfl).1, (h.2 2 _ rfl).1, (h.2 3 _ rfl).1, (h.2 4 _ rfl).1, (h.2 0 _ rfl).2, (h.2 1 _ rfl).2, (h.2 2 _ rfl).2, (h.2 3 _ rfl).2, (h.2 4 _ rfl).2⟩
theorem grown_cell (w : World) (g j : Nat) (u : Value) : w.grownBy (w.setCell ⟨g, j, none⟩ u) (some g) := ⟨rfl, rfl, rfl, by simp, fun k _ hk => heap_setCell_other w ⟨g, j, none⟩ k u (fun e => hk (by simp [e]))⟩
theorem own_apart7 {w w' : World} {B n size : Nat} {e : TypeId} {v : Value} {xs : List Value} {row : Option Nat} (h : w.ownsRow B e size v n xs) (hg : w.grownBy w' row) (hne : ∀ k, v.ownBlock = some k → row ≠ some k) : w'.ownsRow B e size v n xs :=
 h.kept hg (by
  cases hv : v.ownBlock with
  | none => exact Or.inl rfl
  | some k => exact Or.inr (fun e2 => hne k hv (by first | exact e2 | exact e2.symm)))
theorem CN.w2 {w : World} {q : Nat} {c0 c1 : Value} (h : CN w q [c0, c1]) : w.cell? ⟨q, 0, none⟩ = some c0 ∧ w.cell? ⟨q, 1, none⟩ = some c1 := ⟨(h.2 0 _ rfl).1, (h.2 1 _ rfl).1⟩
theorem CN.w3 {w : World} {q : Nat} {c0 c1 c2 : Value} (h : CN w q [c0, c1, c2]) : w.cell? ⟨q, 0, none⟩ = some c0 ∧ w.cell? ⟨q, 1, none⟩ = some c1 ∧ w.cell? ⟨q, 2, none⟩ = some c2 := ⟨(h.2 0 _ rfl).1, (h.2 1 _ rfl).1, (h.2 2 _ rfl).1⟩
def ZnAt (w : World) (q : Nat) (apex : ByteArray) (S : List SetP) : Prop := ∃ (a : Option Addr) (c : Nat), CN w q [.string apex, .slice a S.length c] ∧ SetsAt w a S.length S
theorem ZnAt.below {w w' : World} {q : Nat} {apex : ByteArray} {S : List SetP} (h : ZnAt w q apex S) (hb : Below w.heap.size w w') : ZnAt w' q apex S := by
 obtain ⟨a, c, h1, h2⟩ := h
 exact ⟨a, c, h1.below hb, h2.below hb⟩
def SzZ (S : List SetP) : Prop := S.length ≤ 100000 ∧ ∀ s ∈ S, s.k.n.size ≤ 1000000 ∧ s.data.length ≤ 100000
end Go.Proofs.YthfnphcefkdgbaaGreat
end
