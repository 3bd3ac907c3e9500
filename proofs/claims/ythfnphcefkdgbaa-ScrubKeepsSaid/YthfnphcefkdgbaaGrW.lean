/- sets.Group: contract. -/
import Derived.Test.YthfnphcefkdgbaaMgL
import Derived.Test.YthfnphcefkdgbaaMgE
import Derived.Test.YthfnphcefkdgbaaMgA
import Derived.Deep.DeepCutAuto
import Derived.Deep.AppendLies
import Derived.Deep.RegionLaw
namespace Go.Proofs.Ythfnphcefkdgbaa
open Go.RowKit

/-- Sets that a call owns, their data too. -/
def OwnSets (w : World) (B : Nat) (v : Value) (L : List (SetP × Value)) : Prop :=
  w.ownsRow B 39 5 v L.length (flatS L) ∧ (∀ p ∈ L, w.ownsRow B 9 1 p.2 p.1.data.length (sc p.1.data)) ∧ L.Pairwise (fun p q => ∀ g, p.2.ownBlock = some g → q.2.ownBlock ≠ some g)
theorem OwnSets.nil (w : World) (B : Nat) : OwnSets w B (.slice none 0 0) [] := ⟨World.ownsRow_nil _ _ _ _, (fun p h => by cases h), List.Pairwise.nil⟩
theorem infoSet : (Try.prog.info? 39).map (fun i => (i.zero, i.size, i.bytes)) = some (some (.agg #[.string ⟨#[]⟩, .int .i64 0, .int .i64 0, .int .i64 0, .slice none 0 0]), 5, 64) := by kernel_rfl

theorem own_ne2 {w : World} {B1 B2 n1 n2 s1 s2 : Nat} {e1 e2 : TypeId} {v1 v2 : Value} {x1 x2 : List Value} (he : e1 ≠ e2) (h1 : w.ownsRow B1 e1 s1 v1 n1 x1) (h2 : w.ownsRow B2 e2 s2 v2 n2 x2) : v1.ownBlock = none ∨ v1.ownBlock ≠ v2.ownBlock := by
  rcases h1.2 with ⟨rfl, _⟩ | ⟨g1, c1, u1, rfl, _, hg1, _⟩
  · exact Or.inl rfl
  · right
    rcases h2.2 with ⟨rfl, _⟩ | ⟨g2, c2, u2, rfl, _, hg2, _⟩
    · simp [Value.ownBlock]
    · simp only [Value.ownBlock]
      intro h
      have hgg : g1 = g2 := by simpa using h
      subst hgg
      rw [hg1] at hg2
      simp at hg2
      exact he hg2.2
theorem OwnSets.below {w w' : World} {B : Nat} {v : Value} {L : List (SetP × Value)} (h : OwnSets w B v L) (hb : Below w.heap.size w w') : OwnSets w' B v L :=
  ⟨own_below' h.1 hb, fun p hp => own_below' (h.2.1 p hp) hb, h.2.2⟩
/-- A block of records. -/
def TyAt (w : World) (q : Nat) : Prop := ∃ cur fr, w.heap[q]? = some (.cells cur 87 fr)
theorem TyAt.below {w w' : World} {q : Nat} (h : TyAt w q) (hb : Below w.heap.size w w') : TyAt w' q := by
  obtain ⟨cur, fr, h⟩ := h
  exact ⟨cur, fr, by rw [hb.block q (Array.getElem?_eq_some_iff.1 h).1]; exact h⟩
theorem TyAt.grown {w w' : World} {q : Nat} {row : Option Nat} (h : TyAt w q) (hg : w.grownBy w' row) (hne : row ≠ some q) : TyAt w' q := by
  obtain ⟨cur, fr, h⟩ := h
  exact ⟨cur, fr, by rw [hg.block q (Array.getElem?_eq_some_iff.1 h).1 (fun e => hne e.symm)]; exact h⟩
theorem TyAt.ne {w : World} {q B n s : Nat} {e : TypeId} {v : Value} {xs : List Value} (h : TyAt w q) (he : e ≠ 87) (ho : w.ownsRow B e s v n xs) : v.ownBlock ≠ some q := by
  intro e2
  obtain ⟨cur, fr, h⟩ := h
  rcases ho.2 with ⟨rfl, _⟩ | ⟨g2, c2, u2, rfl, _, hg2, _⟩
  · cases e2
  · have : g2 = q := by simpa [Value.ownBlock] using e2
    subst this
    rw [h] at hg2
    simp at hg2
    exact he hg2.2.1.symm
/-- Within a round. -/
def ST (B : Nat) (w0 : World) (q g n cap : Nat) (r : R5) (l : List R5) (sv : Value) (L : List (SetP × Value)) (w : World) : Prop :=
  RRAt5 w q r ∧ w.ownsRow B 87 5 (.slice (some ⟨g, 0, none⟩) n cap) n (flatR l) ∧ OwnSets w B sv L ∧ Below B w0 w ∧ TyAt w q
theorem ST.below {B : Nat} {w0 w w' : World} {q g n cap : Nat} {r : R5} {l : List R5} {sv : Value} {L : List (SetP × Value)} (h : ST B w0 q g n cap r l sv L w) (hb : Below w.heap.size w w') (hB : B ≤ w.heap.size) : ST B w0 q g n cap r l sv L w' :=
  ⟨h.1.below hb, own_below' h.2.1 hb, h.2.2.1.below hb, h.2.2.2.1.trans (hb.mono hB), h.2.2.2.2.below hb⟩
def addD (s : SetP) (r : R5) : SetP := if s.data.getLast? = some r.d then s else { s with data := s.data ++ [r.d] }
def lastOr (S : List SetP) (r : R5) : SetP := (S.getLast?).getD ⟨r.k, r.ttl, []⟩
/-- The sets of the first k of records that are in order. -/
noncomputable def grpK (l : List R5) : Nat → List SetP
  | 0 => []
  | k + 1 =>
    match l[k]? with
    | none => grpK l k
    | some r => open Classical in if 0 < k ∧ (l[k - 1]?.map R5.k) = some r.k then (grpK l k).dropLast ++ [addD { (lastOr (grpK l k) r) with ttl := min (lastOr (grpK l k) r).ttl r.ttl } r] else grpK l k ++ [addD ⟨r.k, r.ttl, []⟩ r]

theorem row_cells {w : World} {B g n cap : Nat} {l : List R5} (h : w.ownsRow B 87 5 (.slice (some ⟨g, 0, none⟩) n cap) n (flatR l)) (j : Nat) (r : R5) (hr : l[j]? = some r) : w.cell? ⟨g, j * 5, none⟩ = some (.string r.k.n) ∧ w.cell? ⟨g, j * 5 + 1, none⟩ = some (.int .i64 r.k.t) ∧ w.cell? ⟨g, j * 5 + 2, none⟩ = some (.int .i64 r.k.c) ∧ w.cell? ⟨g, j * 5 + 3, none⟩ = some (.int .i64 r.ttl) ∧ w.cell? ⟨g, j * 5 + 4, none⟩ = some (.string r.d) := by
  have hg : ∀ i, i < 5 → ∀ u, (encR r)[i]? = some u → w.cell? ⟨g, j * 5 + i, none⟩ = some u := fun i hi u hu => ownsRow_at h _ _ (by
    rw [flatR, flatMap_get encR 5 encR_len (by omega), show (j * 5 + i) / 5 = j by omega, show (j * 5 + i) % 5 = i by omega, hr]
    exact hu)
  exact ⟨hg 0 (by omega) _ rfl, hg 1 (by omega) _ rfl, hg 2 (by omega) _ rfl, hg 3 (by omega) _ rfl, hg 4 (by omega) _ rfl⟩
theorem ST.shown {B : Nat} {w0 : World} {q g n cap k : Nat} {rn rd pn pd : ByteArray} {rt rc ru pt pc pu : Int} {l : List R5} {sv : Value} {L : List (SetP × Value)} {wx : World} (h : ST B w0 q g n cap ⟨⟨rn, rt, rc⟩, ru, rd⟩ l sv L wx) (hp : l[k]? = some ⟨⟨pn, pt, pc⟩, pu, pd⟩) : Hid (ST B w0 q g n cap ⟨⟨rn, rt, rc⟩, ru, rd⟩ l sv L wx) ∧ wx.cell? ⟨q, 0, none⟩ = some (.string rn) ∧ wx.cell? ⟨q, 1, none⟩ = some (.int .i64 rt) ∧ wx.cell? ⟨q, 2, none⟩ = some (.int .i64 rc) ∧ wx.cell? ⟨q, 3, none⟩ = some (.int .i64 ru) ∧ wx.cell? ⟨q, 4, none⟩ = some (.string rd) ∧ wx.cell? ⟨g, k * 5, none⟩ = some (.string pn) ∧ wx.cell? ⟨g, k * 5 + 1, none⟩ = some (.int .i64 pt) ∧ wx.cell? ⟨g, k * 5 + 2, none⟩ = some (.int .i64 pc) ∧ wx.cell? ⟨g, k * 5 + 3, none⟩ = some (.int .i64 pu) ∧ wx.cell? ⟨g, k * 5 + 4, none⟩ = some (.string pd) :=
  have h1 := row_cells h.2.1 k _ hp
  ⟨h, h.1.2.1, h.1.2.2.1, h.1.2.2.2.1, h.1.2.2.2.2.1, h.1.2.2.2.2.2, h1.1, h1.2.1, h1.2.2.1, h1.2.2.2.1, h1.2.2.2.2⟩
theorem ST.next {B : Nat} {w0 : World} {q g n cap k : Nat} {rn rd pn pd : ByteArray} {rt rc ru pt pc pu : Int} {l : List R5} {sv : Value} {L : List (SetP × Value)} {wx wy : World} (hb : Below wx.heap.size wx wy) (hp : Hid (l[k]? = some ⟨⟨pn, pt, pc⟩, pu, pd⟩)) (hB : Hid (B ≤ w0.heap.size)) (h : Hid (ST B w0 q g n cap ⟨⟨rn, rt, rc⟩, ru, rd⟩ l sv L wx) ∧ wx.cell? ⟨q, 0, none⟩ = some (.string rn) ∧ wx.cell? ⟨q, 1, none⟩ = some (.int .i64 rt) ∧ wx.cell? ⟨q, 2, none⟩ = some (.int .i64 rc) ∧ wx.cell? ⟨q, 3, none⟩ = some (.int .i64 ru) ∧ wx.cell? ⟨q, 4, none⟩ = some (.string rd) ∧ wx.cell? ⟨g, k * 5, none⟩ = some (.string pn) ∧ wx.cell? ⟨g, k * 5 + 1, none⟩ = some (.int .i64 pt) ∧ wx.cell? ⟨g, k * 5 + 2, none⟩ = some (.int .i64 pc) ∧ wx.cell? ⟨g, k * 5 + 3, none⟩ = some (.int .i64 pu) ∧ wx.cell? ⟨g, k * 5 + 4, none⟩ = some (.string pd)) : Hid (ST B w0 q g n cap ⟨⟨rn, rt, rc⟩, ru, rd⟩ l sv L wy) ∧ wy.cell? ⟨q, 0, none⟩ = some (.string rn) ∧ wy.cell? ⟨q, 1, none⟩ = some (.int .i64 rt) ∧ wy.cell? ⟨q, 2, none⟩ = some (.int .i64 rc) ∧ wy.cell? ⟨q, 3, none⟩ = some (.int .i64 ru) ∧ wy.cell? ⟨q, 4, none⟩ = some (.string rd) ∧ wy.cell? ⟨g, k * 5, none⟩ = some (.string pn) ∧ wy.cell? ⟨g, k * 5 + 1, none⟩ = some (.int .i64 pt) ∧ wy.cell? ⟨g, k * 5 + 2, none⟩ = some (.int .i64 pc) ∧ wy.cell? ⟨g, k * 5 + 3, none⟩ = some (.int .i64 pu) ∧ wy.cell? ⟨g, k * 5 + 4, none⟩ = some (.string pd) :=
  ST.shown (h.1.out.below hb (Nat.le_trans hB.out h.1.out.2.2.2.1.size)) hp.out
theorem ST.get {B : Nat} {w0 : World} {q g n cap k : Nat} {rn rd pn pd : ByteArray} {rt rc ru pt pc pu : Int} {l : List R5} {sv : Value} {L : List (SetP × Value)} {wx : World} (h : Hid (ST B w0 q g n cap ⟨⟨rn, rt, rc⟩, ru, rd⟩ l sv L wx) ∧ wx.cell? ⟨q, 0, none⟩ = some (.string rn) ∧ wx.cell? ⟨q, 1, none⟩ = some (.int .i64 rt) ∧ wx.cell? ⟨q, 2, none⟩ = some (.int .i64 rc) ∧ wx.cell? ⟨q, 3, none⟩ = some (.int .i64 ru) ∧ wx.cell? ⟨q, 4, none⟩ = some (.string rd) ∧ wx.cell? ⟨g, k * 5, none⟩ = some (.string pn) ∧ wx.cell? ⟨g, k * 5 + 1, none⟩ = some (.int .i64 pt) ∧ wx.cell? ⟨g, k * 5 + 2, none⟩ = some (.int .i64 pc) ∧ wx.cell? ⟨g, k * 5 + 3, none⟩ = some (.int .i64 pu) ∧ wx.cell? ⟨g, k * 5 + 4, none⟩ = some (.string pd)) : ST B w0 q g n cap ⟨⟨rn, rt, rc⟩, ru, rd⟩ l sv L wx := h.1.out

theorem RQ.shown {wx : World} {q : Nat} {rn rd : ByteArray} {rt rc ru : Int} (h : RRAt5 wx q ⟨⟨rn, rt, rc⟩, ru, rd⟩) : Hid (RRAt5 wx q ⟨⟨rn, rt, rc⟩, ru, rd⟩) ∧ wx.cell? ⟨q, 0, none⟩ = some (.string rn) ∧ wx.cell? ⟨q, 1, none⟩ = some (.int .i64 rt) ∧ wx.cell? ⟨q, 2, none⟩ = some (.int .i64 rc) ∧ wx.cell? ⟨q, 3, none⟩ = some (.int .i64 ru) ∧ wx.cell? ⟨q, 4, none⟩ = some (.string rd) := ⟨h, h.2.1, h.2.2.1, h.2.2.2.1, h.2.2.2.2.1, h.2.2.2.2.2⟩
theorem RQ.next {wx wy : World} {q : Nat} {rn rd : ByteArray} {rt rc ru : Int} (hb : Below wx.heap.size wx wy) (h : Hid (RRAt5 wx q ⟨⟨rn, rt, rc⟩, ru, rd⟩) ∧ wx.cell? ⟨q, 0, none⟩ = some (.string rn) ∧ wx.cell? ⟨q, 1, none⟩ = some (.int .i64 rt) ∧ wx.cell? ⟨q, 2, none⟩ = some (.int .i64 rc) ∧ wx.cell? ⟨q, 3, none⟩ = some (.int .i64 ru) ∧ wx.cell? ⟨q, 4, none⟩ = some (.string rd)) : Hid (RRAt5 wy q ⟨⟨rn, rt, rc⟩, ru, rd⟩) ∧ wy.cell? ⟨q, 0, none⟩ = some (.string rn) ∧ wy.cell? ⟨q, 1, none⟩ = some (.int .i64 rt) ∧ wy.cell? ⟨q, 2, none⟩ = some (.int .i64 rc) ∧ wy.cell? ⟨q, 3, none⟩ = some (.int .i64 ru) ∧ wy.cell? ⟨q, 4, none⟩ = some (.string rd) := RQ.shown (h.1.out.below hb)
theorem RRAt5.grown {w w' : World} {q : Nat} {r : R5} {row : Option Nat} (h : RRAt5 w q r) (hg : w.grownBy w' row) (hne : row ≠ some q) : RRAt5 w' q r := by
  obtain ⟨h0, h1, h2, h3, h4, h5⟩ := h
  have hk : ∀ i v, w.cell? ⟨q, i, none⟩ = some v → w'.cell? ⟨q, i, none⟩ = some v := fun i v hv => hg.cell hv (fun e => hne e.symm)
  exact ⟨Nat.lt_of_lt_of_le h0 hg.size, hk _ _ h1, hk _ _ h2, hk _ _ h3, hk _ _ h4, hk _ _ h5⟩
theorem RQ.grown {wx wy : World} {q : Nat} {rn rd : ByteArray} {rt rc ru : Int} {row : Option Nat} (hg : wx.grownBy wy row) (hne : row ≠ some q) (h : Hid (RRAt5 wx q ⟨⟨rn, rt, rc⟩, ru, rd⟩) ∧ wx.cell? ⟨q, 0, none⟩ = some (.string rn) ∧ wx.cell? ⟨q, 1, none⟩ = some (.int .i64 rt) ∧ wx.cell? ⟨q, 2, none⟩ = some (.int .i64 rc) ∧ wx.cell? ⟨q, 3, none⟩ = some (.int .i64 ru) ∧ wx.cell? ⟨q, 4, none⟩ = some (.string rd)) : Hid (RRAt5 wy q ⟨⟨rn, rt, rc⟩, ru, rd⟩) ∧ wy.cell? ⟨q, 0, none⟩ = some (.string rn) ∧ wy.cell? ⟨q, 1, none⟩ = some (.int .i64 rt) ∧ wy.cell? ⟨q, 2, none⟩ = some (.int .i64 rc) ∧ wy.cell? ⟨q, 3, none⟩ = some (.int .i64 ru) ∧ wy.cell? ⟨q, 4, none⟩ = some (.string rd) := RQ.shown (h.1.out.grown hg hne)
theorem OwnSets.snoc {w w' : World} {B : Nat} {v v' : Value} {L : List (SetP × Value)} (h : OwnSets w B v L) (s : SetP) (hs : s.data = []) (ho : w'.ownsRow B 39 5 v' (L.length + 1) (flatS L ++ encS (s, .slice none 0 0))) (hg : w.grownBy w' v.ownBlock) : OwnSets w' B v' (L ++ [(s, .slice none 0 0)]) := by
  refine ⟨by rw [flatS_append, List.length_append]; show w'.ownsRow B 39 5 v' (L.length + 1) (flatS L ++ (encS (s, .slice none 0 0) ++ [])); rw [List.append_nil]; exact ho, fun p hp => ?_, ?_⟩
  · rcases List.mem_append.1 hp with hp | hp
    · exact (h.2.1 p hp).kept hg (own_ne2 (by decide) (h.2.1 p hp) h.1)
    · obtain rfl := List.mem_singleton.1 hp
      rw [hs]; exact World.ownsRow_nil _ _ _ _
  · rw [List.pairwise_append]
    refine ⟨h.2.2, List.pairwise_singleton _ _, fun p _ q hq g _ e => ?_⟩
    obtain rfl := List.mem_singleton.1 hq
    cases e
theorem grpK_len (l : List R5) : ∀ k, (grpK l k).length ≤ k := by
  intro k
  induction k with
  | zero => exact Nat.le_refl _
  | succ k ih =>
    rw [grpK]
    split
    · omega
    · split
      · rw [List.length_append, List.length_dropLast, List.length_singleton]; omega
      · rw [List.length_append, List.length_singleton]; omega
theorem grpK_ne (l : List R5) (k : Nat) (r : R5) (hr : l[k]? = some r) : grpK l (k + 1) ≠ [] := by
  rw [grpK, hr]
  dsimp only
  split <;> simp

theorem RQ.get {wx : World} {q : Nat} {rn rd : ByteArray} {rt rc ru : Int} (h : Hid (RRAt5 wx q ⟨⟨rn, rt, rc⟩, ru, rd⟩) ∧ wx.cell? ⟨q, 0, none⟩ = some (.string rn) ∧ wx.cell? ⟨q, 1, none⟩ = some (.int .i64 rt) ∧ wx.cell? ⟨q, 2, none⟩ = some (.int .i64 rc) ∧ wx.cell? ⟨q, 3, none⟩ = some (.int .i64 ru) ∧ wx.cell? ⟨q, 4, none⟩ = some (.string rd)) : RRAt5 wx q ⟨⟨rn, rt, rc⟩, ru, rd⟩ := h.1.out
theorem flatS_last (L0 : List (SetP × Value)) (p p' : SetP × Value) (j : Nat) (u : Value) (h : (encS p).set j u = encS p') : (flatS (L0 ++ [p])).set (L0.length * 5 + j) u = flatS (L0 ++ [p']) := by
  rw [flatS_append, flatS_append]
  have e : ∀ x, flatS [x] = encS x := fun x => by rw [flatS, List.flatMap_cons, List.flatMap_nil, List.append_nil]
  rw [e, e, List.set_append_right _ _ (by rw [flatS_len]; omega), flatS_len, Nat.add_sub_cancel_left, h]
theorem OwnSets.shape {w : World} {B : Nat} {v : Value} {L0 : List (SetP × Value)} {p : SetP × Value} (h : OwnSets w B v (L0 ++ [p])) : ∃ g c, v = .slice (some ⟨g, 0, none⟩) (L0.length + 1) c ∧ B ≤ g ∧ g < w.heap.size := by
  have h1 := h.1
  rw [List.length_append] at h1
  have h1 : w.ownsRow B 39 5 v (L0.length + 1) (flatS (L0 ++ [p])) := h1
  rcases h1.2 with ⟨_, h0⟩ | ⟨g, cap, cur, rfl, hb, hg, _⟩
  · omega
  · exact ⟨g, cap, rfl, hb, (Array.getElem?_eq_some_iff.1 hg).1⟩
theorem OwnSets.last {w : World} {B g c : Nat} {L0 : List (SetP × Value)} {s : SetP} {dv : Value} (h : OwnSets w B (.slice (some ⟨g, 0, none⟩) (L0.length + 1) c) (L0 ++ [(s, dv)])) : w.cell? ⟨g, L0.length * 5 + 3, none⟩ = some (.int .i64 s.ttl) ∧ w.cell? ⟨g, L0.length * 5 + 4, none⟩ = some dv ∧ (∀ j, w.frozen? ⟨g, j, none⟩ = false) ∧ w.ownsRow B 9 1 dv s.data.length (sc s.data) := by
  have h1 := h.1
  rw [List.length_append] at h1
  have h1 : w.ownsRow B 39 5 (.slice (some ⟨g, 0, none⟩) (L0.length + 1) c) (L0.length + 1) (flatS (L0 ++ [(s, dv)])) := h1
  have hj : ∀ j u, j < 5 → (encS (s, dv))[j]? = some u → w.cell? ⟨g, L0.length * 5 + j, none⟩ = some u := fun j u hj hu => ownsRow_at h1 _ _ (by
    rw [flatS_append, List.getElem?_append_right (by rw [flatS_len]; omega), flatS_len, Nat.add_sub_cancel_left, flatS, List.flatMap_cons, List.flatMap_nil, List.append_nil]
    exact hu)
  exact ⟨hj 3 _ (by omega) rfl, hj 4 _ (by omega) rfl, fun j => h1.frozenAt j, h.2.1 (s, dv) (by simp)⟩
theorem OwnSets.setTtl {w : World} {B g c : Nat} {L0 : List (SetP × Value)} {s : SetP} {dv : Value} (h : OwnSets w B (.slice (some ⟨g, 0, none⟩) (L0.length + 1) c) (L0 ++ [(s, dv)])) (x : Int) : OwnSets (w.setCell ⟨g, L0.length * 5 + 3, none⟩ (.int .i64 x)) B (.slice (some ⟨g, 0, none⟩) (L0.length + 1) c) (L0 ++ [({ s with ttl := x }, dv)]) ∧ w.grownBy (w.setCell ⟨g, L0.length * 5 + 3, none⟩ (.int .i64 x)) (some g) := by
  have h1 := h.1
  rw [List.length_append] at h1
  have h1 : w.ownsRow B 39 5 (.slice (some ⟨g, 0, none⟩) (L0.length + 1) c) (L0.length + 1) (flatS (L0 ++ [(s, dv)])) := h1
  obtain ⟨k1, k2⟩ := h1.stored (L0.length * 5 + 3) (.int .i64 x)
  rw [flatS_last L0 (s, dv) ({ s with ttl := x }, dv) 3 _ rfl] at k1
  refine ⟨⟨by rw [List.length_append]; exact k1, fun p hp => ?_, ?_⟩, k2⟩
  · rcases List.mem_append.1 hp with hp | hp
    · have h5 := h.2.1 p (List.mem_append_left _ hp)
      exact h5.kept k2 (own_ne2 (by decide) h5 h1)
    · obtain rfl := List.mem_singleton.1 hp
      have h5 := h.2.1 (s, dv) (by simp)
      exact h5.kept k2 (own_ne2 (by decide) h5 h1)
  · have h6 := h.2.2
    rw [List.pairwise_append] at h6 ⊢
    refine ⟨h6.1, List.pairwise_singleton _ _, fun p hp q hq => ?_⟩
    obtain rfl := List.mem_singleton.1 hq
    exact h6.2.2 p hp (s, dv) (by simp)
/-- One datum more in the last set. -/
theorem OwnSets.setData {w w1 : World} {B g c : Nat} {L0 : List (SetP × Value)} {s : SetP} {dv dv' : Value} {d : ByteArray} (h : OwnSets w B (.slice (some ⟨g, 0, none⟩) (L0.length + 1) c) (L0 ++ [(s, dv)])) (ho : w1.ownsRow B 9 1 dv' (s.data.length + 1) (sc s.data ++ [.string d])) (hg : w.grownBy w1 dv.ownBlock) (hd : dv'.ownBlock = dv.ownBlock ∨ dv'.ownBlock = some w.heap.size) : OwnSets (w1.setCell ⟨g, L0.length * 5 + 4, none⟩ dv') B (.slice (some ⟨g, 0, none⟩) (L0.length + 1) c) (L0 ++ [({ s with data := s.data ++ [d] }, dv')]) ∧ w1.grownBy (w1.setCell ⟨g, L0.length * 5 + 4, none⟩ dv') (some g) := by
  have h1 := h.1
  rw [List.length_append] at h1
  have h1 : w.ownsRow B 39 5 (.slice (some ⟨g, 0, none⟩) (L0.length + 1) c) (L0.length + 1) (flatS (L0 ++ [(s, dv)])) := h1
  have hds := h.2.1 (s, dv) (by simp)
  have h2 := h1.kept hg (own_ne2 (by decide) h1 hds)
  obtain ⟨k1, k2⟩ := h2.stored (L0.length * 5 + 4) dv'
  rw [flatS_last L0 (s, dv) ({ s with data := s.data ++ [d] }, dv') 4 _ rfl] at k1
  have h6 := h.2.2
  rw [List.pairwise_append] at h6
  refine ⟨⟨by rw [List.length_append]; exact k1, fun p hp => ?_, ?_⟩, k2⟩
  · rcases List.mem_append.1 hp with hp | hp
    · have h5 := h.2.1 p (List.mem_append_left _ hp)
      have h7 := h5.kept hg (by
        cases e : p.2.ownBlock with
        | none => exact Or.inl rfl
        | some x =>
          right
          intro e2
          exact h6.2.2 p hp (s, dv) (by simp) x e e2.symm)
      exact h7.kept k2 (own_ne2 (by decide) h7 h2)
    · obtain rfl := List.mem_singleton.1 hp
      have h7 : w1.ownsRow B 9 1 dv' (s.data ++ [d]).length (sc (s.data ++ [d])) := by
        rw [List.length_append, sc_append]; exact ho
      exact h7.kept k2 (own_ne2 (by decide) h7 h2)
  · rw [List.pairwise_append]
    refine ⟨h6.1, List.pairwise_singleton _ _, fun p hp q hq x hx => ?_⟩
    obtain rfl := List.mem_singleton.1 hq
    intro e
    have e : dv'.ownBlock = some x := e
    rcases hd with h8 | h8
    · exact h6.2.2 p hp (s, dv) (by simp) x hx (by rw [← h8]; exact e)
    · rw [h8] at e
      have e2 := Option.some.inj e
      have h9 := ((h.2.1 p (List.mem_append_left _ hp)).lt x hx).2
      omega

theorem ST.set {B : Nat} {w0 w w1 : World} {q g n cap gs cs m : Nat} {r : R5} {l : List R5} {L L' : List (SetP × Value)} (h : ST B w0 q g n cap r l (.slice (some ⟨gs, 0, none⟩) m cs) L w) (ho : OwnSets w1 B (.slice (some ⟨gs, 0, none⟩) m cs) L') (hg : w.grownBy w1 (some gs)) (hB : B ≤ w.heap.size) (hgs : B ≤ gs) : ST B w0 q g n cap r l (.slice (some ⟨gs, 0, none⟩) m cs) L' w1 :=
  have hne : (some gs : Option Nat) ≠ some q := h.2.2.2.2.ne (by decide) h.2.2.1.1
  ⟨h.1.grown hg hne, h.2.1.kept hg (own_ne2 (by decide) h.2.1 h.2.2.1.1), ho, h.2.2.2.1.grown hg hB (fun k hk => by injection hk with hk; omega), h.2.2.2.2.grown hg hne⟩
theorem ST.app {B : Nat} {w0 w w1 : World} {q g n cap : Nat} {r : R5} {l : List R5} {sv dv : Value} {L : List (SetP × Value)} {nd : Nat} {xs : List Value} (h : ST B w0 q g n cap r l sv L w) (hd : w.ownsRow B 9 1 dv nd xs) (hg : w.grownBy w1 dv.ownBlock) (hB : B ≤ w.heap.size) : RRAt5 w1 q r ∧ w1.ownsRow B 87 5 (.slice (some ⟨g, 0, none⟩) n cap) n (flatR l) ∧ Below B w0 w1 ∧ TyAt w1 q :=
  have hne := h.2.2.2.2.ne (by decide) hd
  ⟨h.1.grown hg hne, h.2.1.kept hg (own_ne2 (by decide) h.2.1 hd), h.2.2.2.1.grown hg hB (fun k hk => (hd.lt k hk).1), h.2.2.2.2.grown hg hne⟩
theorem grpK_step {l : List R5} {k : Nat} {r : R5} {L L0 : List (SetP × Value)} {s : SetP} {dv dv' : Value} {nw : Bool} (hr : l[k]? = some r) (hL : L.map Prod.fst = grpK l k) (hnw : nw = true ↔ ¬ (0 < k ∧ (l[k - 1]?.map R5.k) = some r.k)) (hc : (nw = true → L0 = L ∧ s = ⟨r.k, r.ttl, []⟩) ∧ (nw = false → L = L0 ++ [(s, dv)])) : (L0 ++ [(addD { s with ttl := min s.ttl r.ttl } r, dv')]).map Prod.fst = grpK l (k + 1) := by
  rw [grpK, hr]
  dsimp only
  cases nw with
  | true =>
    obtain ⟨rfl, rfl⟩ := hc.1 rfl
    rw [if_neg (hnw.1 rfl), List.map_append, hL]
    simp only [List.map_cons, List.map_nil, Int.min_self]
  | false =>
    have h1 : 0 < k ∧ (l[k - 1]?.map R5.k) = some r.k := Classical.not_not.1 (fun h => by have := hnw.2 h; cases this)
    rw [if_pos h1, ← hL, hc.2 rfl, lastOr]
    simp

theorem ST.newset {B : Nat} {w0 wy w8 : World} {q g n cap : Nat} {r : R5} {l : List R5} {sv v8 : Value} {L : List (SetP × Value)} {o : Obj} {s : SetP} (h : ST B w0 q g n cap r l sv L wy) (hs : s.data = []) (HO : w8.ownsRow B 39 5 v8 (L.length + 1) (flatS L ++ encS (s, .slice none 0 0))) (HG : (wy.alloc o).grownBy w8 sv.ownBlock) (hB : B ≤ wy.heap.size) : ST B w0 q g n cap r l v8 (L ++ [(s, .slice none 0 0)]) w8 := by
  have ha := h.below ((Below.refl wy.heap.size wy).alloc (Nat.le_refl _) o) hB
  have hne := ha.2.2.2.2.ne (by decide) ha.2.2.1.1
  exact ⟨ha.1.grown HG hne, ha.2.1.kept HG (own_ne2 (by decide) ha.2.1 ha.2.2.1.1), ha.2.2.1.snoc s hs HO HG, ha.2.2.2.1.grown HG (by simp; omega) (fun k hk => (ha.2.2.1.1.lt k hk).1), ha.2.2.2.2.grown HG hne⟩
theorem ST.addOne {B : Nat} {w0 wl w2 : World} {q g n cap gs cs : Nat} {r : R5} {l : List R5} {L0 : List (SetP × Value)} {s : SetP} {dv dv' : Value} {d : ByteArray} (h : ST B w0 q g n cap r l (.slice (some ⟨gs, 0, none⟩) (L0.length + 1) cs) (L0 ++ [(s, dv)]) wl) (ho : w2.ownsRow B 9 1 dv' (s.data.length + 1) (sc s.data ++ [.string d])) (hg : wl.grownBy w2 dv.ownBlock) (hd : dv'.ownBlock = dv.ownBlock ∨ dv'.ownBlock = some wl.heap.size) (hB : B ≤ wl.heap.size) (hgs : B ≤ gs) : ST B w0 q g n cap r l (.slice (some ⟨gs, 0, none⟩) (L0.length + 1) cs) (L0 ++ [({ s with data := s.data ++ [d] }, dv')]) (w2.setCell ⟨gs, L0.length * 5 + 4, none⟩ dv') := by
  have hds := h.2.2.1.2.1 (s, dv) (by simp)
  obtain ⟨k1, k2⟩ := h.2.2.1.setData ho hg hd
  have hs2 := h.2.2.1.1.kept hg (own_ne2 (by decide) h.2.2.1.1 hds)
  obtain ⟨a1, a2, a3, a4⟩ := h.app hds hg hB
  have hne : (some gs : Option Nat) ≠ some q := a4.ne (by decide) hs2
  exact ⟨a1.grown k2 hne, a2.kept k2 (own_ne2 (by decide) a2 hs2), k1, a3.grown k2 (Nat.le_trans hB hg.size) (fun k hk => by injection hk with hk; omega), a4.grown k2 hne⟩
theorem grpK_data (l : List R5) : ∀ k, ∀ s ∈ grpK l k, s.data.length ≤ k := by
  intro k
  induction k with
  | zero => intro s hs; cases hs
  | succ k ih =>
    intro s hs
    have had : ∀ (s : SetP) (r : R5), s.data.length ≤ k → (addD s r).data.length ≤ k + 1 := fun s r h => by
      unfold addD
      split
      · omega
      · simp only [List.length_append, List.length_singleton]; omega
    rw [grpK] at hs
    split at hs
    · have := ih s hs; omega
    · rename_i r hr
      split at hs
      · rcases List.mem_append.1 hs with h | h
        · have := ih s (List.dropLast_subset _ h); omega
        · obtain rfl := List.mem_singleton.1 h
          refine had _ _ ?_
          show (lastOr (grpK l k) r).data.length ≤ k
          unfold lastOr
          cases e : (grpK l k).getLast? with
          | none => exact Nat.zero_le _
          | some x => exact ih x (List.mem_of_getLast? e)
      · rcases List.mem_append.1 hs with h | h
        · have := ih s h; omega
        · obtain rfl := List.mem_singleton.1 h
          exact had _ _ (Nat.zero_le _)
theorem step_one_str {wl : World} {ops : Array Oper} {o : Oper} {act : Act} {K : Act → World → Prop} {Q : Exit → Act → World → Prop} {E : Prop} (hgd : o.guard = none) (s x : Operand)
    (ho : o.op = .call { callee := .builtin .append, args := #[s, x], argTypes := #[37, 37] })
    (B : Nat) (v : Value) (n : Nat) (xs : List Value) (hs : act.eval s = v) (hown : wl.ownsRow B 9 1 v n xs) (b : Nat) (d : ByteArray) (hx : act.eval x = .slice (some ⟨b, 0, none⟩) 1 1) (hc : wl.cell? ⟨b, 0, none⟩ = some (.string d)) (hn : n ≤ 100000) (hB : B ≤ wl.heap.size)
    (h : ∀ v' w', w'.ownsRow B 9 1 v' (n + 1) (xs ++ [.string d]) → wl.grownBy w' v.ownBlock → (v'.ownBlock = v.ownBlock ∨ v'.ownBlock = some wl.heap.size) → K (act.put o.dst v') w') : if Region.wanted o (yielded ops act.tmps) = true then Oper.wp Try.prog o act wl K Q else E := by
  obtain ⟨i0, hi0, hy0, hy1, hy2⟩ := info_parts infoStr
  refine step_append_lies wl hgd s x 37 ho B 9 i0 (.string ⟨#[]⟩) 1 16 Try.underlying37 hi0 hy0 hy1 hy2 rfl (by decide) v n xs hs hown ⟨b, 0, none⟩ 1 1 [.string d] hx rfl ?_ (one_str d) (by decide) (by unfold maxLen; omega) (by omega) hB _ rfl ?_
  · intro j u hj
    have hj2 : j < 1 := (List.getElem?_eq_some_iff.1 hj).1
    have : j = 0 := by omega
    subst this
    simp at hj
    subst hj
    rw [Addr.add_mid]
    exact hc
  · intro g cap w' k1 k2 k3 _
    refine h _ w' k1 k2 ?_
    rcases k3 with e | e
    · exact Or.inl e.symm
    · exact Or.inr (by rw [e]; rfl)
theorem own_capS {w : World} {B g n c : Nat} {xs : List Value} (h : w.ownsRow B 9 1 (.slice (some ⟨g, 0, none⟩) n c) n xs) : n ≤ 9223372036854775807 := by
  rcases h.2 with ⟨h', _⟩ | ⟨g', cap', cur, h', hb, hgg, hnc, hcm, hcs, htake⟩
  · cases h'
  · unfold maxLen at hcm; omega
theorem ix_rr (g n cap k : Nat) (h : k < n) (W : World) : (Instr.indexAt 75 (.slice (some ⟨g, 0, none⟩) n cap) (.int .i64 (k : Int))).run Try.prog W = .ok (.pointer (some ⟨g, k * 5, none⟩)) W := by
  go_simp
set_option maxRecDepth 100000 in
set_option maxHeartbeats 6400000 in
theorem groupLoop (a : Option Addr) (n c : Nat) (l : List R5) (w : World) (h : RowR w a n l) (hn : a = none → n = 0 ∧ c = 0) (hlen : n ≤ 100000) (hl : ∀ r ∈ l, r.k.n.size ≤ 1000000) :
    Calls Try.prog 116 #[.slice a n c] w fun e w' => ∃ v l' L, e = .returned v ∧ l'.Perm l ∧ SortedR l' ∧ OwnSets w' w.heap.size v L ∧ L.map Prod.fst = grpK l' n ∧ Below w.heap.size w w' := by
  have HR := Lib.hid h
  have HN := Lib.hid hn
  clear h hn
  go_enter Try.func116, Try.ntmps116
  go_wp2_with fail
  refine (cloneRR a n c l w HR.out HN.out hlen).mono ?_; rintro e w1 ⟨v1, rfl, hown, hb⟩
  have hB1 := hb
  rcases hown.2 with ⟨rfl, rfl⟩ | ⟨g, cap, cur, rfl, hgb, _⟩
  · have HB1 := Lib.hid hB1
    have hl0 : l = [] := List.eq_nil_of_length_eq_zero HR.out.1
    clear hown hb hB1
    go_wp2_with fail
    refine (sortRR_none none 0 _ w1).mono ?_; rintro e w2 ⟨rfl, rfl⟩
    go_wp2_with fail
    go_loopw [4, 14] (fun sv i wr => sv = .slice none 0 0 ∧ i = .int .i64 0 ∧ w2 = wr) (fun _ _ _ => 0)
    case atStart => exact ⟨rfl, rfl, rfl⟩
    case round =>
      obtain ⟨rfl, rfl, rfl⟩ := hrel
      go_wp2
      go_ret
      exact ⟨_, [], [], rfl, by rw [hl0], List.Pairwise.nil, OwnSets.nil _ _, rfl, HB1.out⟩
  have HB1 := Lib.hid hb
  have HO1 := Lib.hid hown
  clear hown hb hB1
  go_wp2_with fail
  refine (sortRR_some w.heap.size g n cap l w1 hl HR.out.1 HO1.out (by omega)).mono ?_; rintro e w2 ⟨rfl, l', hperm, hsort, hown2, hgr⟩
  have HP := Lib.hid hperm
  have HS := Lib.hid hsort
  have HO2 := Lib.hid hown2
  have HB2 := Lib.hid (HB1.out.grown hgr HB1.out.size (fun k hk => by injection hk with hk; omega))
  have hln : l'.length = n := by rw [hperm.length_eq]; exact HR.out.1
  have HLN := Lib.hid hln
  clear hperm hsort hown2 hgr HB1 HO1 hln
  go_wp2_with fail
  go_loopw [4, 14] (fun sv i wr => ∃ (k : Nat) (L : List (SetP × Value)), k ≤ n ∧ i = .int .i64 k ∧ wr.ownsRow w.heap.size 87 5 (.slice (some ⟨g, 0, none⟩) n cap) n (flatR l') ∧ OwnSets wr w.heap.size sv L ∧ Hid (L.map Prod.fst = grpK l' k) ∧ Below w.heap.size w wr) (fun _ i _ => n - (intOf i).toNat)
  case atStart => exact ⟨0, [], Nat.zero_le _, rfl, HO2.out, OwnSets.nil _ _, rfl, HB2.out⟩
  case round =>
    obtain ⟨k, L, hk, rfl, hown, hos, hL, hbel⟩ := hrel
    have HO := Lib.hid hown
    have HOS := Lib.hid hos
    have HBL := Lib.hid hbel
    clear hown hos hbel HO2 HB2
    by_cases hlt : k < n
    · obtain ⟨_, _, e1, hrr, _⟩ := rowR_own HO.out
      obtain ⟨b, off, r, e2, hbl, hr, c0, c1, c2, c3, c4⟩ := hrr.at k hlt
      injection e1 with e1 e3 e4
      rw [← e1] at e2
      injection e2 with e2
      injection e2 with e2 e5
      subst e2 e5
      rw [Nat.zero_add] at c0 c1 c2 c3 c4
      obtain ⟨⟨rn, rt, rc⟩, ru, rd⟩ := r
      have hst : ST w.heap.size w wr.heap.size g n cap ⟨⟨rn, rt, rc⟩, ru, rd⟩ l' u4 L (wr.alloc (.cells #[.string rn, .int .i64 rt, .int .i64 rc, .int .i64 ru, .string rd] 87)) :=
        ⟨rrAt5_new wr ⟨⟨rn, rt, rc⟩, ru, rd⟩ _, own_below' HO.out ((Below.refl _ _).alloc (Nat.le_refl _) _), HOS.out.below ((Below.refl _ _).alloc (Nat.le_refl _) _), HBL.out.alloc HBL.out.size _, ⟨_, _, heap_alloc_new _ _⟩⟩
      have HRK := Lib.hid hr
      clear hrr e1 e3 e4 hr
      go_upto_region 7 with fail
      obtain ⟨w3, hw3⟩ : ∃ x, wr.alloc (.cells #[.string rn, .int .i64 rt, .int .i64 rc, .int .i64 ru, .string rd] 87) = x := ⟨_, rfl⟩
      obtain ⟨q, hq⟩ : ∃ x, wr.heap.size = x := ⟨_, rfl⟩
      rw [hw3, hq] at hst ⊢
      have HST := Lib.hid hst
      clear hst hw3 c0 c1 c2 c3 c4
      go_cut [31] (fun t wx => ∃ nw : Bool, t = .bool nw ∧ Hid (nw = true ↔ ¬ (0 < k ∧ (l'[k - 1]?.map R5.k) = some ⟨rn, rt, rc⟩)) ∧ Hid (ST w.heap.size w q g n cap ⟨⟨rn, rt, rc⟩, ru, rd⟩ l' u4 L wx))
      case first =>
        by_cases hk0 : k = 0
        · subst hk0
          go_quiet (fail)
          rename_i nq
          have hbq := below_drewN (Below.refl w3.heap.size w3) nq
          go_wp2
          go_meet
          exact ⟨true, rfl, Lib.hid (by simp), HST.out.below hbq HST.out.2.2.2.1.size⟩
        · obtain ⟨k0, hk1⟩ : ∃ k0, k = k0 + 1 := ⟨k - 1, by omega⟩
          have hk2 : k0 < l'.length := by rw [HLN.out]; omega
          obtain ⟨⟨⟨pn, pt, pc⟩, pu, pd⟩, hpr⟩ : ∃ r, l'[k0]? = some r := ⟨_, List.getElem?_eq_getElem hk2⟩
          have HPR := Lib.hid hpr
          have HWW := Lib.hid (Nat.le_refl w.heap.size)
          have HK := Lib.hid (ST.next ((Below.refl w3.heap.size w3).drew) HPR HWW (ST.shown HST.out hpr))
          have HK1 := Lib.hid (fun wx => keyOf' rn rt rc ru rd wx)
          have HK2 := Lib.hid (fun wx => keyOf' pn pt pc pu pd wx)
          have hne := key_neq rn pn rt rc pt pc
          have HKS := Lib.hid (key_same ⟨rn, rt, rc⟩ ⟨pn, pt, pc⟩)
          have i1 : (k0 : Int) < (n : Int) := by omega
          have i6 : k0 < n := by omega
          have i3 : ((k : Int) == 0) = false := eF (by omega)
          have i4 : (k : Int) - 1 = (k0 : Int) := by omega
          have i5 : IntKind.i64.wrap ((k : Int) - 1) = (k0 : Int) := by rw [IntKind.wrap_i64]; omega
          have i7 : IntKind.i64.wrap (k0 : Int) = (k0 : Int) := by rw [IntKind.wrap_i64]; omega
          have hix := ix_rr g n cap k0 i6
          have HK0 := Lib.hid hk1
          obtain ⟨nw, hnw⟩ : ∃ x, (!(rn.toList == pn.toList && (rt == pt && rc == pc))) = x := ⟨_, rfl⟩
          rw [hnw] at hne
          have HNW := Lib.hid hnw
          clear hnw hpr hk1
          go_region_held3 (fun wx => Hid (ST w.heap.size w q g n cap ⟨⟨rn, rt, rc⟩, ru, rd⟩ l' u4 L wx) ∧ wx.cell? ⟨q, 0, none⟩ = some (.string rn) ∧ wx.cell? ⟨q, 1, none⟩ = some (.int .i64 rt) ∧ wx.cell? ⟨q, 2, none⟩ = some (.int .i64 rc) ∧ wx.cell? ⟨q, 3, none⟩ = some (.int .i64 ru) ∧ wx.cell? ⟨q, 4, none⟩ = some (.string rd) ∧ wx.cell? ⟨g, k0 * 5, none⟩ = some (.string pn) ∧ wx.cell? ⟨g, k0 * 5 + 1, none⟩ = some (.int .i64 pt) ∧ wx.cell? ⟨g, k0 * 5 + 2, none⟩ = some (.int .i64 pc) ∧ wx.cell? ⟨g, k0 * 5 + 3, none⟩ = some (.int .i64 pu) ∧ wx.cell? ⟨g, k0 * 5 + 4, none⟩ = some (.string pd)) (first | (exact HK.out) | assumption | (refine ST.next hb.b HPR HWW ?_; assumption))
            (first
              | (go_at_call 132; first | (with_reducible refine (HK1.out _).mono ?_; rintro e wy ⟨rfl, hb⟩) | (with_reducible refine (HK2.out _).mono ?_; rintro e wy ⟨rfl, hb⟩)))
          all_goals
            go_wp2
            go_meet
            refine ⟨nw, rfl, ?_, ST.get (k := k0) (pn := pn) (pd := pd) (pt := pt) (pc := pc) (pu := pu) ?_⟩
            · refine Lib.hid ?_
              rw [← HNW.out, HK0.out, Nat.add_sub_cancel, HPR.out]
              have h9 := HKS.out
              simp only [Option.map_some, Option.some.injEq, Nat.succ_pos, true_and, Bool.not_eq_true', ← Bool.not_eq_true]
              rw [h9]
              exact ⟨fun h e => h e.symm, fun h e => h e.symm⟩
            · assumption
      case rest =>
        obtain ⟨nw, rfl, hnw, hst⟩ := hcut
        have HLL := Lib.hid (show L.length ≤ k by rw [← List.length_map (f := Prod.fst), hL.out]; exact grpK_len l' k)
        go_upto_if 31 with fail
        go_cut [4] (fun sv wx => ∃ (L0 : List (SetP × Value)) (s : SetP) (dv : Value), Hid (ST w.heap.size w q g n cap ⟨⟨rn, rt, rc⟩, ru, rd⟩ l' sv (L0 ++ [(s, dv)]) wx) ∧ Hid ((nw = true → L0 = L ∧ s = ⟨⟨rn, rt, rc⟩, ru, []⟩) ∧ (nw = false → L = L0 ++ [(s, dv)])))
        case first =>
          cases nw with
          | true =>
            obtain ⟨i1, hi1, hz0, hz1, hz2⟩ := info_parts infoSet
            have HI := Lib.hid hi1
            have HZ0 := Lib.hid hz0
            have HZ1 := Lib.hid hz1
            have HZ2 := Lib.hid hz2
            have HK1 := Lib.hid (fun wx => keyOf' rn rt rc ru rd wx)
            have hbd := (Below.refl wc.heap.size wc).drew
            have HSTd := Lib.hid (hst.out.below hbd hst.out.2.2.2.1.size)
            have HQ := Lib.hid (RQ.shown HSTd.out.1)
            have hlen8 : L.length + 1 ≤ 1000000 := by have := HLL.out; omega
            have HNQ := Lib.hid (show u4.ownBlock ≠ some q from fun e => by have := (HOS.out.1.lt q e).2; omega)
            clear hi1 hz0 hz1 hz2 hbd
            go_wp2_with fail
            go_region_held3 (fun wx => Hid (RRAt5 wx q ⟨⟨rn, rt, rc⟩, ru, rd⟩) ∧ wx.cell? ⟨q, 0, none⟩ = some (.string rn) ∧ wx.cell? ⟨q, 1, none⟩ = some (.int .i64 rt) ∧ wx.cell? ⟨q, 2, none⟩ = some (.int .i64 rc) ∧ wx.cell? ⟨q, 3, none⟩ = some (.int .i64 ru) ∧ wx.cell? ⟨q, 4, none⟩ = some (.string rd)) (first | (exact HQ.out) | assumption | (refine RQ.next hb.b ?_; assumption) | (refine RQ.next ((Below.refl _ _).alloc (Nat.le_refl _) _) ?_; assumption) | (refine RQ.grown HG8.out HNQ.out ?_; assumption))
              (first
                | (go_at_call 132; refine (HK1.out _).mono ?_; rintro e wy ⟨rfl, hb⟩; have HST8 := Lib.hid (HSTd.out.below hb.b HSTd.out.2.2.2.1.size))
                | (refine step_append_cellsK (by rfl) _ _ 29 39 (by rfl) i1 _ 5 64 Try.underlying29 HI.out HZ0.out HZ1.out HZ2.out rfl (by decide) w.heap.size _ L.length _ (by rfl) (HST8.out.2.2.1.1.alloc _) _ 1 1 (encS (⟨⟨rn, rt, rc⟩, ru, []⟩, .slice none 0 0)) (by rfl) (fun h => by cases h) (cells_lit _ _ _) (by intro u hu; simp only [encS, List.mem_cons, List.not_mem_nil, or_false] at hu; rcases hu with rfl | rfl | rfl | rfl | rfl <;> rfl) hlen8 (by decide) (by have := HST8.out.2.2.2.1.size; simp; omega) ?_; intro v8 w8 hown8 hgrow8; have HO8 := Lib.hid hown8; have HG8 := Lib.hid hgrow8; clear hown8 hgrow8))
            all_goals
              go_wp2
              go_meet
              exact ⟨L, ⟨⟨rn, rt, rc⟩, ru, []⟩, .slice none 0 0, Lib.hid (HST8.out.newset rfl HO8.out HG8.out HST8.out.2.2.2.1.size), Lib.hid (by first | exact ⟨fun _ => ⟨rfl, rfl⟩, fun h => by cases h⟩ | exact ⟨rfl, rfl⟩ | simp)⟩
          | false =>
            have hne : L ≠ [] := by
              intro e
              have h1 := hL.out
              rw [e] at h1
              have h2 := hnw.out
              have h3 : 0 < k ∧ (l'[k - 1]?.map R5.k) = some ⟨rn, rt, rc⟩ := Classical.not_not.1 (fun h => by have := h2.2 h; cases this)
              obtain ⟨k0, rfl⟩ : ∃ k0, k = k0 + 1 := ⟨k - 1, by omega⟩
              have hk2 : k0 < l'.length := by rw [HLN.out]; omega
              exact grpK_ne l' k0 _ (List.getElem?_eq_getElem hk2) h1.symm
            obtain ⟨L0, ⟨s, dv⟩, hLe⟩ := (List.eq_nil_or_concat L).resolve_left hne
            rw [List.concat_eq_append] at hLe
            go_wp2_with fail
            go_meet
            exact ⟨L0, s, dv, Lib.hid (hLe ▸ hst.out), Lib.hid (by first | exact ⟨fun h => by cases h, fun _ => hLe⟩ | exact hLe | (simp; exact hLe))⟩
        case rest =>
          obtain ⟨L0, s, dv, hst2, hcase⟩ := hcut
          have HST2 := hst2
          obtain ⟨gs, cs, rfl, hgsB, hgs⟩ := hst2.out.2.2.1.shape
          have HSN := Lib.hid hst2.out.2.2.1
          have HCL := Lib.hid (show L0.length + 1 ≤ k + 1 by
            have h1 := HLL.out
            have h2 := hcase.out
            cases nw with
            | true => rw [(h2.1 rfl).1]; omega
            | false => have h3 := congrArg List.length (h2.2 rfl); rw [List.length_append, List.length_singleton] at h3; omega)
          obtain ⟨m, hm⟩ : ∃ x, L0.length = x := ⟨_, rfl⟩
          obtain ⟨t3, t4, t5, t6⟩ := HSN.out.last
          have HM := Lib.hid hm
          rw [hm] at t3 t4 HCL HST2 ⊢
          have hmb : m < 200000 := by have := HCL.out; omega
          have t7 := t5 (m * 5 + 3)
          have r3 := HST2.out.1.2.2.2.2.1
          have i1 : ((m + 1 : Nat) : Int) - 1 = (m : Int) := by omega
          clear hst hst2 t5 t6 hm
          go_upto_region 10 with fail
          go_cut [] (fun wx => Hid (ST w.heap.size w q g n cap ⟨⟨rn, rt, rc⟩, ru, rd⟩ l' (.slice (some ⟨gs, 0, none⟩) (m + 1) cs) (L0 ++ [({ s with ttl := min s.ttl ru }, dv)]) wx))
          case first =>
            have hB0 := HST2.out.2.2.2.1.size
            have HFIN := Lib.hid (fun (x : Int) => show ST w.heap.size w q g n cap ⟨⟨rn, rt, rc⟩, ru, rd⟩ l' (.slice (some ⟨gs, 0, none⟩) (m + 1) cs) (L0 ++ [({ s with ttl := x }, dv)]) (wc.drew.setCell ⟨gs, m * 5 + 3, none⟩ (.int .i64 x)) from by
              have h1 := HST2.out.below ((Below.refl wc.heap.size wc).drew) hB0
              have h2 := (HSN.out.below ((Below.refl wc.heap.size wc).drew)).setTtl x
              rw [HM.out] at h2
              exact h1.set h2.1 h2.2 (by show w.heap.size ≤ wc.heap.size; exact hB0) hgsB)
            by_cases htt : ru < s.ttl
            · have d1 := dT htt
              have hmin : min s.ttl ru = ru := by omega
              have HF := Lib.hid (HFIN.out ru)
              clear hB0
              go_region
              all_goals
                go_wp2
                go_meet
                rw [hmin]; exact HF.out
            · have d1 := dF htt
              have hmin : min s.ttl ru = s.ttl := by omega
              have HF := Lib.hid (HFIN.out s.ttl)
              clear hB0
              go_region
              all_goals
                go_wp2
                go_meet
                rw [hmin]; exact HF.out
          case rest =>
            have HST3 := hcut
            obtain ⟨s1, hs1⟩ : ∃ x : SetP, { s with ttl := min s.ttl ru } = x := ⟨_, rfl⟩
            rw [hs1] at HST3
            have HS1 := Lib.hid hs1
            have HSN3 := Lib.hid (show OwnSets wc w.heap.size (.slice (some ⟨gs, 0, none⟩) (L0.length + 1) cs) (L0 ++ [(s1, dv)]) by rw [HM.out]; exact HST3.out.2.2.1)
            obtain ⟨_, u4', u5', u6'⟩ := HSN3.out.last
            rw [HM.out] at u4'
            have u7' := u5' (m * 5 + 4)
            have r4 := HST3.out.1.2.2.2.2.2
            have HD := Lib.hid u6'
            clear hs1 u5' t3 t4 t7 r3 HSN HST2
            go_upto_region 11 with fail
            go_cut [77] (fun t wx => ∃ ad : Bool, t = .bool ad ∧ Hid (ad = true ↔ ¬ s1.data.getLast? = some rd) ∧ Hid (ST w.heap.size w q g n cap ⟨⟨rn, rt, rc⟩, ru, rd⟩ l' (.slice (some ⟨gs, 0, none⟩) (m + 1) cs) (L0 ++ [(s1, dv)]) wx))
            case first =>
              rcases List.eq_nil_or_concat s1.data with h0 | ⟨ini, x, hix⟩
              · have hd2 := HD.out
                rw [h0] at hd2
                rcases hd2.2 with ⟨rfl, _⟩ | ⟨gd, cd, _, rfl, _⟩
                all_goals
                  go_quiet (fail)
                  rename_i nq
                  have hbq := below_drewN (Below.refl wc.heap.size wc) nq
                  go_wp2
                  go_meet
                  exact ⟨true, rfl, Lib.hid (by rw [h0]; simp), HST3.out.below hbq HST3.out.2.2.2.1.size⟩
              · rw [List.concat_eq_append] at hix
                obtain ⟨j, hj⟩ : ∃ y, ini.length = y := ⟨_, rfl⟩
                have hd2 := HD.out
                rw [hix, List.length_append, List.length_singleton, hj] at hd2
                have hgl : s1.data.getLast? = some x := by rw [hix]; simp
                rcases hd2.2 with ⟨_, h0⟩ | ⟨gd, cd, _, rfl, _⟩
                · omega
                have hx1 := ownsRow_at hd2 j (.string x) (by
                  rw [sc_append, List.getElem?_append_right (by simp [sc, hj]), show (sc ini).length = j by simp [sc, hj], Nat.sub_self]; rfl)
                have i3 : ((j + 1 : Nat) : Int) - 1 = (j : Int) := by omega
                have i4 : (((j + 1 : Nat) : Int) == 0) = false := eF (by omega)
                have i5 : ((j : Int) + 1 == 0) = false := eF (by omega)
                have i6 : (j : Int) + 1 - 1 = (j : Int) := by omega
                have i7 : (j : Int) < (j : Int) + 1 := by omega
                have HGL := Lib.hid hgl
                have hjb : j + 1 ≤ 9223372036854775807 := by
                  have h8 := own_capS hd2
                  omega
                clear hd2 hix hj hgl
                by_cases hxe : x.toList = rd.toList
                · have e1 : (x.toList == rd.toList) = true := by simpa using hxe
                  have e2 : (x.toList != rd.toList) = false := by simpa using hxe
                  have HXE := Lib.hid (show x = rd by rw [Lib.toList_data, Lib.toList_data] at hxe; exact ba_eq hxe)
                  go_quiet (fail)
                  rename_i nq
                  have hbq := below_drewN (Below.refl wc.heap.size wc) nq
                  go_wp2
                  go_meet
                  exact ⟨false, rfl, Lib.hid (by rw [HGL.out, HXE.out]; simp), HST3.out.below hbq HST3.out.2.2.2.1.size⟩
                · have e1 : (x.toList == rd.toList) = false := by simpa using hxe
                  have e2 : (x.toList != rd.toList) = true := by simpa using hxe
                  have HXE := Lib.hid (show ¬ x = rd from fun h => hxe (by rw [h]))
                  clear hxe
                  go_quiet (fail)
                  rename_i nq
                  have hbq := below_drewN (Below.refl wc.heap.size wc) nq
                  go_wp2
                  go_meet
                  exact ⟨true, rfl, Lib.hid (by rw [HGL.out]; simpa using HXE.out), HST3.out.below hbq HST3.out.2.2.2.1.size⟩
            case rest =>
              obtain ⟨ad, rfl, hadd, hst4⟩ := hcut
              have HST4 := hst4
              have HDL := Lib.hid (show s1.data.length ≤ k by
                rw [← HS1.out]
                show s.data.length ≤ k
                have h2 := hcase.out
                cases nw with
                | true => rw [(h2.1 rfl).2]; exact Nat.zero_le _
                | false => exact grpK_data l' k s (by rw [← hL.out, h2.2 rfl]; simp))
              have HSN4 := Lib.hid (show OwnSets wc w.heap.size (.slice (some ⟨gs, 0, none⟩) (L0.length + 1) cs) (L0 ++ [(s1, dv)]) by rw [HM.out]; exact HST4.out.2.2.1)
              obtain ⟨_, v4, v5, v6⟩ := HSN4.out.last
              rw [HM.out] at v4
              have v7 := v5 (m * 5 + 4)
              have r5 := HST4.out.1.2.2.2.2.2
              have HD4 := Lib.hid v6
              clear hst4 u4' u6' u7' r4 v5 v6 HSN3 HST3 HD
              have HFN := Lib.hid (fun dv' => grpK_step (dv' := dv') HRK.out hL.out hnw.out hcase.out)
              have HFIN := Lib.hid (show ∀ (dv' : Value) (wx : World), ST w.heap.size w q g n cap ⟨⟨rn, rt, rc⟩, ru, rd⟩ l' (.slice (some ⟨gs, 0, none⟩) (m + 1) cs) (L0 ++ [(addD s1 ⟨⟨rn, rt, rc⟩, ru, rd⟩, dv')]) wx → ∃ (k' : Nat) (L' : List (SetP × Value)), k' ≤ n ∧ Value.int .i64 ((k : Int) + 1) = .int .i64 k' ∧ wx.ownsRow w.heap.size 87 5 (.slice (some ⟨g, 0, none⟩) n cap) n (flatR l') ∧ OwnSets wx w.heap.size (.slice (some ⟨gs, 0, none⟩) (m + 1) cs) L' ∧ Hid (L'.map Prod.fst = grpK l' k') ∧ Below w.heap.size w wx from fun dv' wx h => ⟨k + 1, _, by omega, rfl, h.2.1, h.2.2.1, by
                have h9 := HFN.out dv'
                rw [show ({ s with ttl := min s.ttl ru } : SetP) = s1 from HS1.out] at h9
                exact h9, h.2.2.2.1⟩)
              cases ad with
                | false =>
                  have hz : s1.data.getLast? = some rd := Classical.not_not.1 (fun h => by have := hadd.out.2 h; cases this)
                  have HF := Lib.hid (show ST w.heap.size w q g n cap ⟨⟨rn, rt, rc⟩, ru, rd⟩ l' (.slice (some ⟨gs, 0, none⟩) (m + 1) cs) (L0 ++ [(addD s1 ⟨⟨rn, rt, rc⟩, ru, rd⟩, dv)]) wc by rw [addD, if_pos hz]; exact HST4.out)
                  go_wp2
                  go_roundw
                  case rel => exact HFIN.out dv _ HF.out
                  case measure => simp [intOf]; omega
                | true =>
                  have hz : ¬ s1.data.getLast? = some rd := hadd.out.1 rfl
                  have HAD := Lib.hid (show addD s1 ⟨⟨rn, rt, rc⟩, ru, rd⟩ = { s1 with data := s1.data ++ [rd] } by rw [addD, if_neg hz])
                  obtain ⟨dl, hdl⟩ : ∃ x, s1.data.length = x := ⟨_, rfl⟩
                  have HDLe := Lib.hid hdl
                  have hdlb : dl ≤ 100000 := by have := HDL.out; omega
                  rw [hdl] at HD4
                  have hB4 := HST4.out.2.2.2.1.size
                  have HNE := Lib.hid (show some gs ≠ dv.ownBlock from fun e => by
                    rcases own_ne2 (by decide) HD4.out HSN4.out.1 with h | h
                    · rw [h] at e; cases e
                    · exact h e.symm)
                  have hgl : gs < wc.heap.size := block_lt_of_cell v4
                  have HY4 := Lib.hid (show ∀ o, ((wc.alloc o).drew).cell? ⟨gs, m * 5 + 4, none⟩ = some dv from fun o => (((Below.refl wc.heap.size wc).alloc (Nat.le_refl _) o).drew.cell hgl).trans v4)
                  have HY7 := Lib.hid (show ∀ o, ((wc.alloc o).drew).frozen? ⟨gs, m * 5 + 4, none⟩ = false from fun o => (((Below.refl wc.heap.size wc).alloc (Nat.le_refl _) o).drew.frozen hgl).trans v7)
                  have HLT := Lib.hid (show ∀ o, gs < ((wc.alloc o).drew).heap.size from fun o => Nat.lt_of_lt_of_le hgl ((Below.refl wc.heap.size wc).alloc (Nat.le_refl _) o).drew.size)
                  have HDA := Lib.hid (show ∀ o, ((wc.alloc o).drew).ownsRow w.heap.size 9 1 dv dl (sc s1.data) from fun o => (HD4.out.alloc o).drew)
                  have HBA := Lib.hid (show ∀ o, w.heap.size ≤ ((wc.alloc o).drew).heap.size from fun o => Nat.le_trans hB4 ((Below.refl wc.heap.size wc).alloc (Nat.le_refl _) o).drew.size)
                  have y3 : (wc.alloc (.cells #[.string rd] 9)).cell? ⟨gs, m * 5 + 4, none⟩ = some dv := HY4.out _
                  clear hz hdl
                  go_wp2_with fail
                  go_region_law (refine step_one_str (by rfl) _ _ (by rfl) w.heap.size _ dl _ (by rfl) (HDA.out _) _ rd (by rfl) (by simp [World.cell?_alloc_at]) hdlb (HBA.out _) ?_; intro dv2 w2 hown2 hgrow2 hk3; obtain ⟨ga, ca, hve, _, _⟩ := cellsK_own hown2; subst hve; have HO2 := Lib.hid hown2; have HG2 := Lib.hid hgrow2; have HK3 := Lib.hid hk3; have y4 := hgrow2.cell (HY4.out _) HNE.out; have y7 := (World.frozen?_of_block (a := ⟨gs, m * 5 + 4, none⟩) (hgrow2.block gs (HLT.out _) HNE.out)).trans (HY7.out _); clear hown2 hgrow2 hk3)
                  all_goals
                    go_wp2
                    go_roundw
                    case rel =>
                      refine HFIN.out (.slice ga (dl + 1) ca) _ ?_
                      rw [HAD.out]
                      have h1 := fun o => HST4.out.below (w' := (wc.alloc o).drew) ((Below.refl wc.heap.size wc).alloc (Nat.le_refl _) o).drew hB4
                      rw [← HM.out] at h1 ⊢
                      refine (h1 _).addOne ?_ HG2.out HK3.out (HBA.out _) hgsB
                      rw [HDLe.out]
                      exact HO2.out
                    case measure => simp [intOf]; omega
    · have hkn : n = k := by omega
      subst hkn
      go_wp2
      go_ret
      exact ⟨u4, l', L, rfl, HP.out, HS.out, HOS.out, hL.out, HBL.out⟩
end Go.Proofs.Ythfnphcefkdgbaa
