/- Texts that others rest on, one behind the other: OpR, Agg, MsL, ScP, ScW. -/
import Derived.Test.YthfnphcefkdgbaaGreatMgM
import Derived.Deep.Slices
import Derived.Deep.Fields
import Derived.ChangeSame
import Derived.Test.YthfnphcefkdgbaaGreatMgA
import Derived.ChangeArms
import Derived.WideShapes
import Derived.Test.YthfnphcefkdgbaaGreatMgR
import Derived.Deep.RegionHeld3
import Derived.Deep.DeepCutAuto
section
namespace Go.Proofs.YthfnphcefkdgbaaGreat
open Go.ChangeShapes Go.WideShapes Go.RowKit Go.Deep
theorem open_fields {H : Type} {enc : TypeId × Value → H} {P : Program} {w : World} {base : Nat} {spare : Nat → Bool} {held : Bool} {fuel : Nat} {t : TypeId} {fs : Array Field} {cs : List Value} {y : DataW H × List MemPlace}
  (hs : P.underlying t = some (.struct fs)) (hone : oneCellFields P fs = true) (hl : cs.length = fs.size) (h : DataW.trod enc P w base spare held fuel t cs = some y) :
  ∀ (j : Nat) (f : Field) (c : Value), fs[j]? = some f → cs[j]? = some c → ∃ y n, DataW.trod enc P w base spare held n f.type [c] = some y := by
 obtain ⟨xs, n, _, _, hcl, hlen, hg⟩ := DataW.trod_struct hs h
 intro j f c hj hc
 obtain ⟨ho, hk⟩ := hone_of hone j f hj
 have hjl : j < fs.size := (Array.getElem?_eq_some_iff.1 hj).1
 have h1 := hg j f hj
 rw [ho, hk] at h1
 obtain ⟨hlt, he⟩ := List.getElem?_eq_some_iff.1 hc
 have e : (cs.drop j).take 1 = [c] := by rw [List.drop_eq_getElem_cons hlt, he]; rfl
 rw [e] at h1
 have hys : xs[j]? = some (xs[j]'(by omega)) := List.getElem?_eq_getElem (by omega)
 exact ⟨_, n, h1.trans hys⟩
theorem open_rr {H : Type} {enc : TypeId × Value → H} {w : World} {base : Nat} {spare : Nat → Bool} {held : Bool} {fuel : Nat} {cs : List Value} {y : DataW H × List MemPlace} (hl : cs.length = 5) (h : DataW.trod enc Tryz.prog w base spare held fuel 111 cs = some y) : ∃ r : R5, cs = encR r ∧ SzR r := by
 obtain ⟨c0, c1, c2, c3, c4, rfl⟩ : ∃ a b c d e, cs = [a, b, c, d, e] := by
  match cs, hl with
  | [a, b, c, d, e], _ => exact ⟨a, b, c, d, e, rfl⟩
 have hf := open_fields Tryz.underlying111 (by kernel_rfl) rfl h
 obtain ⟨_, _, h0⟩ := hf 0 _ _ rfl rfl
 obtain ⟨_, _, h1⟩ := hf 1 _ _ rfl rfl
 obtain ⟨_, _, h2⟩ := hf 2 _ _ rfl rfl
 obtain ⟨_, _, h3⟩ := hf 3 _ _ rfl rfl
 obtain ⟨_, _, h4⟩ := hf 4 _ _ rfl rfl
 obtain ⟨s0, e0, _, z0⟩ := DataW.trod_string Tryz.underlying9 h0
 obtain ⟨s1, e1, _, z1⟩ := DataW.trod_int Tryz.underlying3 h1
 obtain ⟨s2, e2, _, z2⟩ := DataW.trod_int Tryz.underlying3 h2
 obtain ⟨s3, e3, _, z3⟩ := DataW.trod_int Tryz.underlying3 h3
 obtain ⟨s4, e4, _, z4⟩ := DataW.trod_string Tryz.underlying9 h4
 obtain rfl : c0 = .string s0 := by simpa using e0
 obtain rfl : c1 = .int .i64 s1 := by simpa using e1
 obtain rfl : c2 = .int .i64 s2 := by simpa using e2
 obtain rfl : c3 = .int .i64 s3 := by simpa using e3
 obtain rfl : c4 = .string s4 := by simpa using e4
 unfold maxLen at z0 z4
 exact ⟨⟨⟨s0, s1, s2⟩, s3, s4⟩, rfl, z0, z4⟩
theorem list_choose {α : Type} (P : Nat → α → Prop) : ∀ (n : Nat), (∀ i, i < n → ∃ x, P i x) → ∃ l : List α, l.length = n ∧ ∀ i x, l[i]? = some x → P i x := by
 intro n
 induction n with
 | zero => intro _; exact ⟨[], rfl, fun i x h => by simp at h⟩
 | succ n ih =>
  intro h
  obtain ⟨l, hl, hp⟩ := ih (fun i hi => h i (by omega))
  obtain ⟨x, hx⟩ := h n (by omega)
  refine ⟨l ++ [x], by simp [hl], fun i y hy => ?_⟩
  by_cases hi : i < n
  · rw [List.getElem?_append_left (by omega)] at hy
    exact hp i y hy
  · have hlt := (List.getElem?_eq_some_iff.1 hy).1
    simp only [List.length_append, List.length_singleton] at hlt
    have : i = n := by omega
    subst this
    rw [List.getElem?_append_right (by omega), hl, Nat.sub_self] at hy
    have : x = y := by simpa using hy
    rw [← this]; exact hx
theorem open_rowsR {H : Type} {enc : TypeId × Value → H} {w : World} {base : Nat} {held : Bool} {fuel : Nat} {a : Option Addr} {len cap : Nat} {x : DataW H × List MemPlace} (h : DataW.trod enc Tryz.prog w base (fun _ => true) held fuel 22 (Value.slice a len cap).cells.toList = some x) :
   ∃ l, RowR w a len l ∧ (a = none → len = 0 ∧ cap = 0) ∧ len ≤ maxLen ∧ ∀ r ∈ l, SzR r := by
 have hc5 : Tryz.prog.cellsOf 111 = 5 := by kernel_rfl
 rcases open_slice Tryz.underlying22 h with ⟨hcs, _⟩ | ⟨a', len', cap', m, n, D, Pl, hcs, _, hl, hm, hmm, _, hi⟩
 · simp [Value.cells] at hcs
   obtain ⟨rfl, rfl, rfl⟩ := hcs
   exact ⟨[], ⟨rfl, ⟨rfl, Or.inl rfl⟩⟩, fun _ => ⟨rfl, rfl⟩, Nat.zero_le _, by simp⟩
 · simp [Value.cells] at hcs
   obtain ⟨rfl, rfl, rfl⟩ := hcs
   rw [hc5] at hi
   have hlm : len ≤ m := by
     rw [hmm]; split <;> omega
   have hr : ∀ i, i < len → ∃ r : R5, SzR r ∧ ∀ j, j < 5 → w.cell? ((a'.add (i * 5)).add j) = (encR r)[j]? := fun i hil => by
     obtain ⟨cs', hc, ht⟩ := hi i (by omega)
     obtain ⟨_, hcl, hat⟩ := World.cells?_some hc
     obtain ⟨r, rfl, hz⟩ := open_rr hcl ht
     exact ⟨r, hz, fun j hj => hat j hj⟩
   obtain ⟨l, hll, hlp⟩ := list_choose _ len hr
   refine ⟨l, ⟨hll, by rw [flatR_len, hll], ?_⟩, (fun h => by cases h), by omega, ?_⟩
   · by_cases h0 : len = 0
     · exact Or.inl (by rw [h0])
     right
     obtain ⟨b, off, spot⟩ := a'
     obtain ⟨r0, hr0⟩ : ∃ r, l[0]? = some r := ⟨_, List.getElem?_eq_getElem (by omega)⟩
     have hc0 := (hlp 0 r0 hr0).2 0 (by omega)
     have hc0' : w.cell? (((⟨b, off, spot⟩ : Addr).add (0 * 5)).add 0) = some (.string r0.k.n) := hc0
     have hspot : spot = none := by simpa [Addr.add] using World.cell?_spot hc0'
     subst hspot
     refine ⟨b, off, rfl, ?_, fun j u hj => ?_⟩
     · have := block_lt_of_cell hc0'
       simpa [Addr.add] using this
     · rw [flatR, flatMap_get encR 5 encR_len (by omega)] at hj
       cases hr1 : l[j / 5]? with
       | none => rw [hr1] at hj; cases hj
       | some r =>
        rw [hr1] at hj
        have h1 := (hlp (j / 5) r hr1).2 (j % 5) (Nat.mod_lt _ (by omega))
        rw [Go.Deep.add_add, show j / 5 * 5 + j % 5 = j by omega] at h1
        rw [show (⟨b, off + j, none⟩ : Addr) = (⟨b, off, none⟩ : Addr).add j by simp only [Addr.add]; split <;> simp_all, h1]
        exact hj
   · intro r hr'
     obtain ⟨i, hi'⟩ := List.getElem?_of_mem hr'
     exact (hlp i r hi').1
end Go.Proofs.YthfnphcefkdgbaaGreat
end
section
namespace Go.Proofs.YthfnphcefkdgbaaGreat
open Go.ChangeShapes Go.WideShapes Go.RowKit Go.Deep
theorem open_aggs {H : Type} {enc : TypeId × Value → H} {P : Program} {w : World} {base : Nat} {spare : Nat → Bool} {held : Bool} {r : Reach} {b0 : Nat} {t : TypeId} {fs : Array Field} {v : Value} {d : DataW H} {p : List MemPlace}
  (hs : P.underlying t = some (.struct fs)) (hone : oneCellFields P fs = true) (hC : P.cellsOf t = fs.size) (hv : Value.okWide P w r b0 t v) (h : DataW.Trod enc P w base spare held t v d p) :
  ∃ l : List Value, v = .agg ⟨l⟩ ∧ l.length = fs.size ∧ ∀ (j : Nat) (f : Field) (c : Value), fs[j]? = some f → l[j]? = some c → ∃ y n, DataW.trod enc P w base spare held n f.type [c] = some y := by
 obtain ⟨cs, rfl, hsz⟩ := okWide_struct hs hv
 obtain ⟨l⟩ := cs
 obtain ⟨fuel, hf⟩ := h
 obtain ⟨xs, n, _, _, hcl, hlen, hg⟩ := DataW.trod_struct hs hf
 have hl : l.length = fs.size := hsz.trans hC
 refine ⟨l, rfl, hl, fun j f c hj hc => ?_⟩
 obtain ⟨ho, hk⟩ := hone_of hone j f hj
 have hjl : j < fs.size := (Array.getElem?_eq_some_iff.1 hj).1
 have h1 := hg j f hj
 rw [ho, hk] at h1
 have e : (l.drop j).take 1 = [c] := by
  rw [List.drop_eq_getElem_cons (by omega)]
  rw [List.getElem?_eq_getElem (by omega)] at hc
  simp at hc
  simp [hc]
 simp only [Value.cells] at h1
 rw [e] at h1
 have hys : xs[j]? = some (xs[j]'(by omega)) := List.getElem?_eq_getElem (by omega)
 exact ⟨_, n, h1.trans hys⟩
theorem list3 {l : List Value} (h : l.length = 3) : ∃ a b c, l = [a, b, c] := by
 match l, h with
 | [a, b, c], _ => exact ⟨a, b, c, rfl⟩
end Go.Proofs.YthfnphcefkdgbaaGreat
end
section
namespace Go.Proofs.YthfnphcefkdgbaaGreat
open Go.ChangeShapes Go.WideShapes Go.RowKit Go.Deep
def flatQ (l : List Ky) : List Value := l.flatMap encK
theorem encK_len (r : Ky) : (encK r).length = 3 := rfl
theorem flatQ_len (l : List Ky) : (flatQ l).length = l.length * 3 := by
 induction l with
 | nil => rfl
 | cons x l ih => rw [flatQ, List.flatMap_cons, List.length_append, encK_len]; show 3 + (flatQ l).length = _; rw [ih, List.length_cons]; omega
def RowQ (w : World) (a : Option Addr) (n : Nat) (l : List Ky) : Prop := l.length = n ∧ CellsAt w a (n * 3) (flatQ l)
theorem RowQ.below {w w' : World} {a : Option Addr} {n : Nat} {l : List Ky} (h : RowQ w a n l) (hb : Below w.heap.size w w') : RowQ w' a n l := ⟨h.1, h.2.below hb⟩
theorem RowQ.at {w : World} {a : Option Addr} {n : Nat} {l : List Ky} (h : RowQ w a n l) (j : Nat) (hj : j < n) : ∃ b off r, a = some ⟨b, off, none⟩ ∧ b < w.heap.size ∧ l[j]? = some r ∧ w.cell? ⟨b, off + j * 3, none⟩ = some (.string r.n) ∧ w.cell? ⟨b, off + j * 3 + 1, none⟩ = some (.int .i64 r.t) ∧ w.cell? ⟨b, off + j * 3 + 2, none⟩ = some (.int .i64 r.c) := by
 obtain ⟨h1, h2, h3⟩ := h
 rcases h3 with h0 | ⟨b, off, rfl, hlt, hc⟩
 · omega
 obtain ⟨r, hr⟩ : ∃ r, l[j]? = some r := ⟨l[j]'(by omega), List.getElem?_eq_getElem (by omega)⟩
 have hg : ∀ i, i < 3 → ∀ u, (encK r)[i]? = some u → w.cell? ⟨b, off + j * 3 + i, none⟩ = some u := fun i hi u hu => by
   have h4 := hc (j * 3 + i) u (by
    rw [flatQ, flatMap_get encK 3 encK_len (by omega), show (j * 3 + i) / 3 = j by omega, show (j * 3 + i) % 3 = i by omega, hr]
    exact hu)
   rw [Nat.add_assoc]; exact h4
 exact ⟨b, off, r, rfl, hlt, hr, hg 0 (by omega) _ rfl, hg 1 (by omega) _ rfl, hg 2 (by omega) _ rfl⟩
theorem flatQ_one (l : List Ky) : ∀ u ∈ flatQ l, u.oneCell' = true := by
 intro u hu
 obtain ⟨r, _, hr⟩ := List.mem_flatMap.1 hu
 simp only [encK, List.mem_cons, List.not_mem_nil, or_false] at hr
 rcases hr with rfl | rfl | rfl <;> rfl
theorem CN.u12 {w : World} {q : Nat} {c0 c1 c2 c3 c4 c5 c6 c7 c8 c9 c10 c11 : Value} (h : CN w q [c0, c1, c2, c3, c4, c5, c6, c7, c8, c9, c10, c11]) : w.cell? ⟨q, 0, none⟩ = some c0 ∧ w.cell? ⟨q, 1, none⟩ = some c1 ∧ w.cell? ⟨q, 2, none⟩ = some c2 ∧ w.cell? ⟨q, 3, none⟩ = some c3 ∧ w.cell? ⟨q, 4, none⟩ = some c4 ∧ w.cell? ⟨q, 5, none⟩ = some c5 ∧ w.cell? ⟨q, 6, none⟩ = some c6 ∧ w.cell? ⟨q, 7, none⟩ = some c7 ∧ w.cell? ⟨q, 8, none⟩ = some c8 ∧ w.cell? ⟨q, 9, none⟩ = some c9 ∧ w.cell? ⟨q, 10, none⟩ = some c10 ∧ w.cell? ⟨q, 11, none⟩ = some c11 ∧ w.frozen? ⟨q, 0, none⟩ = false ∧ w.frozen? ⟨q, 1, none⟩ = false ∧ w.frozen? ⟨q, 2, none⟩ = false ∧ w.frozen? ⟨q, 3, none⟩ = false ∧ w.frozen? ⟨q, 4, none⟩ = false ∧ w.frozen? ⟨q, 5, none⟩ = false ∧ w.frozen? ⟨q, 6, none⟩ = false ∧ w.frozen? ⟨q, 7, none⟩ = false ∧ w.frozen? ⟨q, 8, none⟩ = false ∧ w.frozen? ⟨q, 9, none⟩ = false ∧ w.frozen? ⟨q, 10, none⟩ = false ∧ w.frozen? ⟨q, 11, none⟩ = false :=
 ⟨(h.2 0 _ rfl).1, (h.2 1 _ rfl).1, (h.2 2 _ rfl).1, (h.2 3 _ rfl).1, (h.2 4 _ rfl).1, (h.2 5 _ rfl).1, (h.2 6 _ rfl).1, (h.2 7 _ rfl).1, (h.2 8 _ rfl).1, (h.2 9 _ rfl).1, (h.2 10 _ rfl).1, (h.2 11 _ rfl).1, (h.2 0 _ rfl).2, (h.2 1 _ rfl).2, (h.2 2 _ rfl).2, (h.2 3 _ rfl).2, (h.2 4 _ rfl).2, (h.2 5 _ rfl).2, (h.2 6 _ rfl).2, (h.2 7 _ rfl).2, (h.2 8 _ rfl).2, (h.2 9 _ rfl).2, (h.2 10 _ rfl).2, (h.2 11 _ rfl).2⟩
structure MsgP where
 i : Int
 o : Int
 r : Int
 b1 : Bool
 b2 : Bool
 b3 : Bool
 b4 : Bool
 b5 : Bool
 q : List Ky
 a : List R5
 n : List R5
 x : List R5
def MsgAt (w : World) (v : Value) (m : MsgP) : Prop := ∃ (qa : Option Addr) (qc : Nat) (na : Option Addr) (nc : Nat) (sa : Option Addr) (sc : Nat) (xa : Option Addr) (xc : Nat), v = .agg #[.int .i64 m.i, .int .i64 m.o, .int .i64 m.r, .bool m.b1, .bool m.b2, .bool m.b3, .bool m.b4, .bool m.b5, .slice qa m.q.length qc, .slice na m.a.length nc, .slice sa m.n.length sc, .slice xa m.x.length xc] ∧ (RowQ w qa m.q.length m.q ∧ (qa = none → m.q.length = 0 ∧ qc = 0)) ∧ (RowR w na m.a.length m.a ∧ (na = none → m.a.length = 0 ∧ nc = 0)) ∧ (RowR w sa m.n.length m.n ∧ (sa = none → m.n.length = 0 ∧ sc = 0)) ∧ (RowR w xa m.x.length m.x ∧ (xa = none → m.x.length = 0 ∧ xc = 0))
theorem MsgAt.below {w w' : World} {v : Value} {m : MsgP} (h : MsgAt w v m) (hb : Below w.heap.size w w') : MsgAt w' v m := by
 obtain ⟨qa, qc, na, nc, sa, sc, xa, xc, rfl, h1, h2, h3, h4⟩ := h
 exact ⟨qa, qc, na, nc, sa, sc, xa, xc, rfl, ⟨h1.1.below hb, h1.2⟩, ⟨h2.1.below hb, h2.2⟩, ⟨h3.1.below hb, h3.2⟩, ⟨h4.1.below hb, h4.2⟩⟩
end Go.Proofs.YthfnphcefkdgbaaGreat
end
section
namespace Go.Proofs.YthfnphcefkdgbaaGreat
open Go.RowKit
noncomputable def srtR (l : List R5) : List R5 := l.mergeSort (fun a b => decide (rcmp a b ≤ 0))
theorem srtR_perm (l : List R5) : (srtR l).Perm l := List.mergeSort_perm l _
theorem srtR_sorted (l : List R5) : SortedR (srtR l) := by
 have h := List.pairwise_mergeSort (le := fun a b : R5 => decide (rcmp a b ≤ 0)) (fun a b c h1 h2 => by
  have t1 := pre_rcmp.trans a b c
  simp only [decide_eq_true_eq] at *
  omega) (fun a b => by
  have h1 := pre_rcmp.anti a b
  simp only [Bool.or_eq_true, decide_eq_true_eq]
  omega) l
 exact h.imp (fun {a b} hab => of_decide_eq_true hab)
noncomputable def grpF (l : List R5) : List SetP := grpK (srtR l) l.length
theorem grpF_canon (l : List R5) : Canon l (grpF l) := canon_group (srtR_perm l) (srtR_sorted l) rfl
theorem grpF_of {l : List R5} {S : List SetP} (h : Canon l S) : S = grpF l := canon_eq h (grpF_canon l) (fun _ _ => Iff.rfl) (fun _ _ => Iff.rfl)
noncomputable def inC (cut : ByteArray) (r : R5) : Bool := decide (r.k.c = 1) && (mayR5 r && undS r.k.n cut)
noncomputable def wiL (cut : ByteArray) (l : List R5) : List R5 := l.filter (inC cut)
noncomputable def wiF (cut : ByteArray) (l : List R5) : List SetP := grpF (wiL cut l)
theorem wiF_canon (cut : ByteArray) (l : List R5) : Canon (wiL cut l) (wiF cut l) := grpF_canon _
structure OutP where
 kind : Int
 ttl : Int
 sets : List (SetP × Int)
 next : ByteArray
def emB : ByteArray := ⟨#[]⟩
def badO : OutP := ⟨0, 0, [], emB⟩
def rankF (aa : Bool) : Int := if aa = true then 4 else 3
noncomputable def aliO (S : List SetP) (qn : ByteArray) (qt : Int) (rank : Int) : Option OutP :=
 match findK S ⟨qn, 5, 1⟩ with
 | none => none
 | some s => if s.data.length = 1 ∧ qt ≠ 5 then some ⟨2, 0, [(s, rank)], tgS 5 (s.data.getD 0 emB)⟩ else none
noncomputable def ansO (S : List SetP) (qn : ByteArray) (qt qc : Int) (rank : Int) : Option OutP :=
 match findK S ⟨qn, qt, qc⟩ with
 | some s => some ⟨1, 0, [(s, rank)], emB⟩
 | none => aliO S qn qt rank
noncomputable def leadB (cut qn : ByteArray) (qt : Int) (s : SetP) : Bool := open Classical in decide (s.k.t = 2) && (!decide (s.k.n = cut) && (undS qn s.k.n && !(decide (qt = 43) && decide (s.k.n = qn))))
noncomputable def belS (cut qn : ByteArray) (qt : Int) (b s : SetP) : SetP := if leadB cut qn qt s = true ∧ b.k.n.size < s.k.n.size then s else b
noncomputable def belF (cut qn : ByteArray) (qt : Int) (L : List SetP) : SetP := L.foldl (belS cut qn qt) sZ
noncomputable def gluB (b : SetP) (s : SetP) : Bool := decide (s.k.t ∈ [(1 : Int), 28]) && memS s.k.n b.data
noncomputable def gluF (b : SetP) (L : List SetP) : List SetP := L.filter (gluB b)
noncomputable def refO (cut qn : ByteArray) (qt : Int) (N X : List SetP) : Option OutP :=
 if (belF cut qn qt N).data = [] then none
 else some ⟨3, 0, (belF cut qn qt N, 2) :: (gluF (belF cut qn qt N) X).map (fun s => (s, 1)), emB⟩
noncomputable def soaMin (d : ByteArray) : Int := if soaOk d = true then getN (soaT d) 16 4 else 0
noncomputable def soaB (qn : ByteArray) (s : SetP) : Bool := decide (s.k.t = 6) && (decide (s.data.length = 1) && undS qn s.k.n)
noncomputable def noTtl (qn : ByteArray) (N : List SetP) : Int :=
 match N.find? (soaB qn) with
 | none => 0
 | some s => min s.ttl (soaMin (s.data.getD 0 emB))
noncomputable def noO (kind : Int) (qn : ByteArray) (aa : Bool) (N : List SetP) : OutP := if aa = true then ⟨kind, noTtl qn N, [], emB⟩ else badO
noncomputable def sortS (cut qn : ByteArray) (qt qc rc : Int) (aa tc : Bool) (A N X : List SetP) : OutP :=
 if tc = true then ⟨6, 0, [], emB⟩
 else if ¬ (rc = 0 ∨ rc = 3) then badO
 else match ansO A qn qt qc (rankF aa) with
  | some o => o
  | none => if rc = 3 then noO 4 qn aa N else (refO cut qn qt N X).getD (noO 5 qn aa N)
noncomputable def sortF (cut qn : ByteArray) (qt qc : Int) (m : MsgP) : OutP := sortS cut qn qt qc m.r m.b2 m.b3 (wiF cut m.a) (wiF cut m.n) (wiF cut m.x)
end Go.Proofs.YthfnphcefkdgbaaGreat
end
section
namespace Go.Proofs.YthfnphcefkdgbaaGreat
open Go.RowKit
theorem wi_next {cut : ByteArray} {l : List R5} {k : Nat} {r : R5} (h : l[k]? = some r) : wiL cut (l.take (k + 1)) = wiL cut (l.take k) ++ (if inC cut r = true then [r] else []) := by
 rw [wiL, wiL, List.take_add_one, h, List.filter_append]
 congr 1
 cases hc : inC cut r <;> simp [hc]
theorem wiL_le (cut : ByteArray) (l : List R5) : (wiL cut l).length ≤ l.length := List.length_filter_le _ _
theorem wiL_mem {cut : ByteArray} {l : List R5} {r : R5} (h : r ∈ wiL cut l) : r ∈ l := (List.mem_filter.1 h).1
def GrpO (l : List R5) (w : World) (e : Ending) (w' : World) : Prop := ∃ a c S, e = .returned (.slice a S.length c) ∧ Canon l S ∧ sumD S ≤ l.length ∧ S.length ≤ l.length ∧ SetsUp w' w.heap.size a S.length S ∧ Below w.heap.size w w' ∧ ∃ Lp : List (SetP × Value), Lp.map Prod.fst = S ∧ OwnSets w' w.heap.size (.slice a S.length c) Lp
theorem group_own (a : Option Addr) (n c : Nat) (l : List R5) (w : World) (h : RowR w a n l) (hn : a = none → n = 0 ∧ c = 0) (hlen : n ≤ 100000) (hl : ∀ r ∈ l, r.k.n.size ≤ 1000000) :
  Calls Tryz.prog 54 #[.slice a n c] w fun e w' => GrpO l w e w' := by
 refine (groupLoop a n c l w h hn hlen hl).mono ?_
 rintro e w' ⟨v, l', L, rfl, hp, hs, hos, hL, hb⟩
 obtain ⟨a', c', hv, hsa, _⟩ := SetsUp.own hos
 have hc : Canon l (L.map Prod.fst) := by rw [hL]; exact canon_group hp hs h.1
 have hsum : sumD (L.map Prod.fst) ≤ l.length := by rw [hL, h.1]; exact grpK_sum l' n
 have hlen2 : L.length ≤ l.length := by
  have h1 := grpK_len l' n
  rw [← hL, List.length_map] at h1
  rw [h.1]; exact h1
 have e9 : (L.map Prod.fst).length = L.length := List.length_map ..
 rw [hv] at hos
 exact ⟨a', c', L.map Prod.fst, by rw [e9, hv], hc, hsum, by omega, by rw [e9]; exact hsa, hb, L, rfl, by rw [e9]; exact hos⟩
def WiR (cut : ByteArray) (l : List R5) (w : World) (e : Ending) (w' : World) : Prop := ∃ a c S, e = .returned (.slice a S.length c) ∧ wiF cut l = S ∧ sumD S ≤ l.length ∧ S.length ≤ l.length ∧ SetsUp w' w.heap.size a S.length S ∧ (∃ Lp : List (SetP × Value), Lp.map Prod.fst = S ∧ OwnSets w' w.heap.size (.slice a S.length c) Lp) ∧ Below w.heap.size w w'
theorem OwnSets.mono {w : World} {A B : Nat} {v : Value} {L : List (SetP × Value)} (h : OwnSets w B v L) (hA : A ≤ B) : OwnSets w A v L := ⟨own_mono4 h.1 hA, fun p hp => own_mono4 (h.2.1 p hp) hA, h.2.2⟩
theorem WiR.of {cut : ByteArray} {l : List R5} {w w1 w' : World} {e : Ending} (h : GrpO (wiL cut l) w1 e w') (hb : Below w.heap.size w w1) : WiR cut l w e w' := by
 obtain ⟨a, c, S, rfl, hc, h1, h2, h3, h4, Lp, h5, h6⟩ := h
 have := wiL_le cut l
 exact ⟨a, c, S, rfl, (grpF_of hc).symm, by omega, by omega, h3.mono hb.size, ⟨Lp, h5, h6.mono hb.size⟩, hb.trans (h4.mono hb.size)⟩
set_option maxRecDepth 100000 in
set_option maxHeartbeats 4000000 in
theorem within_any (cut : ByteArray) (a : Option Addr) (n c : Nat) (l : List R5) (w : World) (h : RowR w a n l) (hlen : n ≤ 100000) (hk : ∀ r ∈ l, r.k.n.size ≤ 1000000) (hd : ∀ r ∈ l, r.d.size ≤ 1000000) (hc : cut.size ≤ 1000000) :
  Calls Tryz.prog 45 #[.string cut, .slice a n c] w fun e w' => WiR cut l w e w' := by
 obtain ⟨i0, hi, hz0, hz1, hz2⟩ := info_parts infoRR
 have HI := Lib.hid hi
 have HZ0 := Lib.hid hz0
 have HZ1 := Lib.hid hz1
 have HZ2 := Lib.hid hz2
 have HR := Lib.hid h
 have HRL := Lib.hid h.1
 have HK := Lib.hid hk
 have HD := Lib.hid hd
 have HCT := Lib.hid hc
 clear h hk hd hc hi hz0 hz1 hz2
 go_enter Tryz.func45, Tryz.ntmps45
 go_wp2_with fail
 go_loopw [5, 10] (fun v i wr => ∃ k m : Nat, k ≤ n ∧ m ≤ k ∧ i = .int .i64 k ∧ Hid ((wiL cut (l.take k)).length = m) ∧ Hid (wr.ownsRow w.heap.size 111 5 v m (flatR (wiL cut (l.take k)))) ∧ Hid (Below w.heap.size w wr)) (fun _ i _ => n - (intOf i).toNat)
 case atStart => exact ⟨0, 0, Nat.zero_le _, Nat.zero_le _, rfl, Lib.hid rfl, Lib.hid (World.ownsRow_nil _ _ _ _), Lib.hid (Below.refl _ _)⟩
 case round =>
  obtain ⟨k, m, hk, hm, rfl, HKL, HO, HW⟩ := hrel
  by_cases hlt : k < n
  · obtain ⟨b, o, r, rfl, hbl, hr, x0, x1, x2, x3, x4⟩ := (HR.out.below HW.out).at k hlt
    have HN := Lib.hid (wi_next (cut := cut) hr)
    have hmem := List.mem_of_getElem? hr
    have h1 := HK.out r hmem
    have h2 := HD.out r hmem
    obtain ⟨⟨rn, rt, rc⟩, ru, rd⟩ := r
    replace x0 : wr.cell? ⟨b, o + k * 5, none⟩ = some (.string rn) := x0
    replace x1 : wr.cell? ⟨b, o + k * 5 + 1, none⟩ = some (.int .i64 rt) := x1
    replace x2 : wr.cell? ⟨b, o + k * 5 + 2, none⟩ = some (.int .i64 rc) := x2
    replace x3 : wr.cell? ⟨b, o + k * 5 + 3, none⟩ = some (.int .i64 ru) := x3
    replace x4 : wr.cell? ⟨b, o + k * 5 + 4, none⟩ = some (.string rd) := x4
    replace h1 : rn.size ≤ 1000000 := h1
    replace h2 : rd.size ≤ 1000000 := h2
    have i1 : (0 : Int) ≤ (k : Int) := by omega
    have i2 : (k : Int) < (n : Int) := by omega
    have HRN := Lib.hid h1
    have HM := Lib.hid (fun wx => mayRR_any rn rt rc ru rd wx h1 h2)
    have HLT := Lib.hid hlt
    have hba := (Below.refl wr.heap.size wr).alloc (Nat.le_refl _) (.cells #[.string rn, .int .i64 rt, .int .i64 rc, .int .i64 ru, .string rd] 111)
    have hn7 := CN.new wr #[.string rn, .int .i64 rt, .int .i64 rc, .int .i64 ru, .string rd] 111
    have HO1 := Lib.hid (own_below' HO.out hba)
    have HB1 := Lib.hid (HW.out.trans (hba.mono HW.out.size))
    clear hr hlt hmem h1 h2 hbl hba HO HW
    go_upto_region 5 with (fail)
    obtain ⟨w1, hw1⟩ : ∃ x, wr.alloc (.cells #[.string rn, .int .i64 rt, .int .i64 rc, .int .i64 ru, .string rd] 111) = x := ⟨_, rfl⟩
    obtain ⟨q7, hq7⟩ : ∃ x, wr.heap.size = x := ⟨_, rfl⟩
    rw [hw1] at hn7 HO1 HB1 ⊢
    rw [hq7] at hn7 ⊢
    have HC7 := Lib.hid hn7
    obtain ⟨y0, y1, y2, y3, y4, -⟩ := hn7.u5
    clear hw1 hq7 hn7 x0 x1 x2 x3 x4
    by_cases hc1 : rc = 1
    · subst hc1
      obtain ⟨vm, hvm⟩ : ∃ x, mayR rn rt 1 ru rd = x := ⟨_, rfl⟩
      rw [hvm] at HM
      have HVM := Lib.hid (show mayR5 ⟨⟨rn, rt, 1⟩, ru, rd⟩ = vm from hvm)
      clear hvm
      go_wp2_with fail
      refine (HM.out _).mono ?_; rintro e w2 ⟨rfl, hb⟩
      have HC2 := Lib.hid (HC7.out.below hb)
      have HO2 := Lib.hid (own_below' HO1.out hb)
      have HB2 := Lib.hid (HB1.out.trans (hb.mono HB1.out.size))
      clear hb HC7 HO1 HB1 HM y0 y1 y2 y3 y4
      obtain ⟨y0, y1, y2, y3, y4, -⟩ := HC2.out.u5
      cases vm
      · have HN2 := Lib.hid (show wiL cut (l.take (k + 1)) = wiL cut (l.take k) by rw [HN.out, inC, HVM.out]; simp)
        go_wp2
        go_roundw
        case rel => exact ⟨k + 1, m, by have := HLT.out; omega, by omega, by go_num, Lib.hid (by rw [HN2.out]; exact HKL.out), Lib.hid (by rw [HN2.out]; exact HO2.out), HB2⟩
        case measure => have := HLT.out; simp [intOf]; omega
      · obtain ⟨vu, hvu⟩ : ∃ x, undS rn cut = x := ⟨_, rfl⟩
        have HVU := Lib.hid hvu
        have HU := Lib.hid (fun wx => under_any rn cut wx HRN.out HCT.out)
        rw [hvu] at HU
        clear hvu
        go_wp2_with fail
        refine (HU.out _).mono ?_; rintro e w3 ⟨rfl, rfl⟩
        cases vu
        · have HN2 := Lib.hid (show wiL cut (l.take (k + 1)) = wiL cut (l.take k) by rw [HN.out, inC, HVM.out, HVU.out]; simp)
          go_wp2
          go_roundw
          case rel => exact ⟨k + 1, m, by have := HLT.out; omega, by omega, by go_num, Lib.hid (by rw [HN2.out]; exact HKL.out), Lib.hid (by rw [HN2.out]; exact HO2.out), HB2⟩
          case measure => have := HLT.out; simp [intOf]; omega
        · have HN2 := Lib.hid (show wiL cut (l.take (k + 1)) = wiL cut (l.take k) ++ [⟨⟨rn, rt, 1⟩, ru, rd⟩] by rw [HN.out, inC, HVM.out, HVU.out]; simp)
          have hal := (Below.refl w2.heap.size w2).alloc (Nat.le_refl _) (.cells #[.string rn, .int .i64 rt, .int .i64 1, .int .i64 ru, .string rd] 111)
          have HAL := Lib.hid hal
          clear hal
          go_wp2_with (at_builtin; refine append_cellsK rfl _ _ 22 111 rfl i0 _ 5 56 Tryz.underlying22 HI.out HZ0.out HZ1.out HZ2.out rfl (by decide) w.heap.size _ m _ rfl (own_below' HO2.out HAL.out) (some ⟨w2.heap.size, 0, none⟩) 1 1 (encR ⟨⟨rn, rt, 1⟩, ru, rd⟩) rfl (fun h => by cases h) (cells_lit w2 #[.string rn, .int .i64 rt, .int .i64 1, .int .i64 ru, .string rd] _) (fun u hu => flatR_one [⟨⟨rn, rt, 1⟩, ru, rd⟩] u (by simpa [flatR] using hu)) (by omega) (by decide) (by have := HB2.out.size; simp; omega) ?_)
          intro v' w6 hown' hgrow'
          have HO3 := Lib.hid hown'
          have HB3 := Lib.hid ((HB2.out.trans (HAL.out.mono HB2.out.size)).grown hgrow' (by have := HB2.out.size; simp; omega) (fun k hk => (HO2.out.lt k hk).1))
          clear hown' hgrow'
          go_wp2
          go_roundw
          case rel => exact ⟨k + 1, m + 1, by have := HLT.out; omega, by omega, by go_num, Lib.hid (by rw [HN2.out, List.length_append, HKL.out]; rfl), Lib.hid (by rw [HN2.out, flatR_append]; simpa [flatR] using HO3.out), HB3⟩
          case measure => have := HLT.out; simp [intOf]; omega
    · have d1 := eF hc1
      have HN2 := Lib.hid (show wiL cut (l.take (k + 1)) = wiL cut (l.take k) by rw [HN.out, inC]; simp [hc1])
      clear hc1
      go_wp2
      go_roundw
      case rel => exact ⟨k + 1, m, by have := HLT.out; omega, by omega, by go_num, Lib.hid (by rw [HN2.out]; exact HKL.out), Lib.hid (by rw [HN2.out]; exact HO1.out), HB1⟩
      case measure => have := HLT.out; simp [intOf]; omega
  · obtain rfl : k = n := by omega
    have hfull : l.take k = l := by rw [List.take_of_length_le (by rw [HRL.out]; omega)]
    rw [hfull] at HO HKL
    clear hfull hlt
    obtain ⟨ga, gc, hva, hgr, hgn⟩ := rowR_own HO.out
    subst hva
    have HGR := Lib.hid hgr
    have HGN := Lib.hid hgn
    clear hgr hgn HO
    go_wp2_with fail
    refine (group_own ga m gc (wiL cut l) wr HGR.out HGN.out (by omega) (fun r hr => HK.out r (wiL_mem hr))).mono ?_; rintro e w2 hg
    have HGG := Lib.hid (WiR.of hg HW.out)
    obtain ⟨a, c, S, rfl, -⟩ := hg
    clear hk hm
    go_wp2
    go_ret
    exact HGG.out
end Go.Proofs.YthfnphcefkdgbaaGreat
end
