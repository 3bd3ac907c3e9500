/- Texts that others rest on, one behind the other: ZnD, ZnE, ZnF. -/
import Derived.Test.YthfnphcefkdgbaaZnC
import Derived.Test.YthfnphcefkdgbaaSBa
import Derived.Test.YthfnphcefkdgbaaMgC
import Derived.Maps.Views
import Derived.Maps.Keyed
import Derived.Maps.OwnOps
import Derived.Maps.OwnSet
section
namespace Go.Proofs.Ythfnphcefkdgbaa
open Go.RowKit

theorem flatS_set (p : SetP × Value) : ∀ (L : List (SetP × Value)) (k : Nat), k < L.length → (((((flatS L).set (k * 5) (.string p.1.k.n)).set (k * 5 + 1) (.int .i64 p.1.k.t)).set (k * 5 + 2) (.int .i64 p.1.k.c)).set (k * 5 + 3) (.int .i64 p.1.ttl)).set (k * 5 + 4) p.2 = flatS (L.set k p) := by
  intro L
  induction L with
  | nil => intro k hk; exact absurd hk (by simp)
  | cons x L ih =>
    intro k hk
    have h1 : ∀ y L, flatS (y :: L) = .string y.1.k.n :: .int .i64 y.1.k.t :: .int .i64 y.1.k.c :: .int .i64 y.1.ttl :: y.2 :: flatS L := fun y L => rfl
    cases k with
    | zero =>
      rw [h1]
      rfl
    | succ k =>
      rw [List.set_cons_succ, h1, h1, ← ih k (by simpa using hk)]
      rw [show (k + 1) * 5 = k * 5 + 5 by omega, show k * 5 + 5 + 1 = k * 5 + 1 + 5 by omega, show k * 5 + 5 + 2 = k * 5 + 2 + 5 by omega, show k * 5 + 5 + 3 = k * 5 + 3 + 5 by omega, show k * 5 + 5 + 4 = k * 5 + 4 + 5 by omega]
      simp only [List.set_cons_succ]
def zS : SetP × Value := (sZ, .slice none 0 0)
theorem made_ss (n : Nat) : (madeCells (Value.agg #[.string ⟨#[]⟩, .int .i64 0, .int .i64 0, .int .i64 0, .slice none 0 0]).cells (n * 5)).toList = flatS (List.replicate n zS) := by
  have hc : (Value.agg #[.string ⟨#[]⟩, .int .i64 0, .int .i64 0, .int .i64 0, .slice none 0 0]).cells = #[.string ⟨#[]⟩, .int .i64 0, .int .i64 0, .int .i64 0, .slice none 0 0] := by simp [Value.cells]
  apply List.ext_getElem?
  intro j
  rw [hc, flatS, flatMap_get encS 5 encS_len (by omega), Array.getElem?_toList]
  unfold madeCells
  by_cases hj : j < n * 5
  · have hd : j / 5 < n := by omega
    have hm : j % 5 < 5 := Nat.mod_lt _ (by omega)
    rw [List.getElem?_replicate, if_pos hd, Array.getElem?_map, Array.getElem?_range, if_pos hj]
    simp only [Option.map_some, Option.bind_some, List.size_toArray, List.length_cons, List.length_nil, Nat.zero_add, Nat.reduceAdd]
    obtain ⟨m, hm'⟩ : ∃ m, j % 5 = m := ⟨_, rfl⟩
    rw [hm'] at hm ⊢
    match m, hm with
    | 0, _ => rfl
    | 1, _ => rfl
    | 2, _ => rfl
    | 3, _ => rfl
    | 4, _ => rfl
  · have hd : ¬ j / 5 < n := by omega
    rw [List.getElem?_replicate, if_neg hd, Array.getElem?_map, Array.getElem?_range, if_neg hj]
    rfl
theorem own_cells5S {w : World} {B g n c : Nat} {L : List (SetP × Value)} (h : w.ownsRow B 39 5 (.slice (some ⟨g, 0, none⟩) n c) n (flatS L)) (k : Nat) (hk : k < n) : ∃ v0 v1 v2 v3 v4, w.cell? ⟨g, k * 5, none⟩ = some v0 ∧ w.cell? ⟨g, k * 5 + 1, none⟩ = some v1 ∧ w.cell? ⟨g, k * 5 + 2, none⟩ = some v2 ∧ w.cell? ⟨g, k * 5 + 3, none⟩ = some v3 ∧ w.cell? ⟨g, k * 5 + 4, none⟩ = some v4 := by
  have hl := h.1
  have hg : ∀ j, j < n * 5 → ∃ v, w.cell? ⟨g, j, none⟩ = some v := fun j hj => by
    rw [h.cellAt j hj, List.getElem?_eq_getElem (by omega)]
    exact ⟨_, rfl⟩
  obtain ⟨v0, h0⟩ := hg (k * 5) (by omega)
  obtain ⟨v1, h1⟩ := hg (k * 5 + 1) (by omega)
  obtain ⟨v2, h2⟩ := hg (k * 5 + 2) (by omega)
  obtain ⟨v3, h3⟩ := hg (k * 5 + 3) (by omega)
  obtain ⟨v4, h4⟩ := hg (k * 5 + 4) (by omega)
  exact ⟨v0, v1, v2, v3, v4, h0, h1, h2, h3, h4⟩
theorem own_set_ss {w : World} {B g n c : Nat} {L : List (SetP × Value)} (h : w.ownsRow B 39 5 (.slice (some ⟨g, 0, none⟩) n c) n (flatS L)) (k : Nat) (hk : k < L.length) (p : SetP × Value) : (((((w.setCell ⟨g, k * 5, none⟩ (.string p.1.k.n)).setCell ⟨g, k * 5 + 1, none⟩ (.int .i64 p.1.k.t)).setCell ⟨g, k * 5 + 2, none⟩ (.int .i64 p.1.k.c)).setCell ⟨g, k * 5 + 3, none⟩ (.int .i64 p.1.ttl)).setCell ⟨g, k * 5 + 4, none⟩ p.2).ownsRow B 39 5 (.slice (some ⟨g, 0, none⟩) n c) n (flatS (L.set k p)) := by
  have h1 := (h.stored (k * 5) (.string p.1.k.n)).1
  have h2 := (h1.stored (k * 5 + 1) (.int .i64 p.1.k.t)).1
  have h3 := (h2.stored (k * 5 + 2) (.int .i64 p.1.k.c)).1
  have h4 := (h3.stored (k * 5 + 3) (.int .i64 p.1.ttl)).1
  have h5 := (h4.stored (k * 5 + 4) p.2).1
  rw [flatS_set p L k hk] at h5
  exact h5
theorem grown_set5 (w : World) (g o : Nat) (v0 v1 v2 v3 v4 : Value) : w.grownBy (((((w.setCell ⟨g, o, none⟩ v0).setCell ⟨g, o + 1, none⟩ v1).setCell ⟨g, o + 2, none⟩ v2).setCell ⟨g, o + 3, none⟩ v3).setCell ⟨g, o + 4, none⟩ v4) (some g) :=
  (((((grown_cell w g o v0).trans (grown_cell _ g (o + 1) v1)).trans (grown_cell _ g (o + 2) v2)).trans (grown_cell _ g (o + 3) v3)).trans (grown_cell _ g (o + 4) v4))
theorem set_next {α : Type} {P : List α} {z x : α} {n k : Nat} (hP : P.length = k) (hk : k < n) : (P ++ List.replicate (n - k) z).set k x = (P ++ [x]) ++ List.replicate (n - (k + 1)) z := by
  rw [List.set_append_right _ _ (by omega), hP, Nat.sub_self, show n - k = (n - (k + 1)) + 1 by omega, List.replicate_succ, List.set_cons_zero, List.append_assoc]
  rfl
/-- The data of sets, each its own. -/
def OwnD (w : World) (B : Nat) (P : List (SetP × Value)) : Prop := (∀ p ∈ P, w.ownsRow B 9 1 p.2 p.1.data.length (sc p.1.data)) ∧ P.Pairwise (fun p q => ∀ g, p.2.ownBlock = some g → q.2.ownBlock ≠ some g)
theorem OwnD.below {w w' : World} {B : Nat} {P : List (SetP × Value)} (h : OwnD w B P) (hb : Below w.heap.size w w') : OwnD w' B P := ⟨fun p hp => own_below' (h.1 p hp) hb, h.2⟩
theorem OwnD.snoc {w w' : World} {B : Nat} {P : List (SetP × Value)} {s : SetP} {dv : Value} (h : OwnD w B P) (hb : Below w.heap.size w w') (ho : w'.ownsRow w.heap.size 9 1 dv s.data.length (sc s.data)) (hB : B ≤ w.heap.size) : OwnD w' B (P ++ [(s, dv)]) := by
  refine ⟨fun p hp => ?_, ?_⟩
  · rcases List.mem_append.1 hp with h1 | h1
    · exact own_below' (h.1 p h1) hb
    · obtain rfl := List.mem_singleton.1 h1; exact own_mono4 ho hB
  · rw [List.pairwise_append]
    refine ⟨h.2, List.pairwise_singleton _ _, fun p hp q hq g hg e => ?_⟩
    obtain rfl := List.mem_singleton.1 hq
    have h1 := ((h.1 p hp).lt g hg).2
    have h2 := (ho.lt g e).1
    omega
theorem OwnD.kept {w w' : World} {B B2 n g c : Nat} {P : List (SetP × Value)} {xs : List Value} (h : OwnD w B P) (hr : w.ownsRow B2 39 5 (.slice (some ⟨g, 0, none⟩) n c) n xs) (hg : w.grownBy w' (some g)) : OwnD w' B P :=
  ⟨fun p hp => (h.1 p hp).kept hg (own_ne2 (by decide) (h.1 p hp) hr), h.2⟩

end Go.Proofs.Ythfnphcefkdgbaa
end

section
namespace Go.Proofs.Ythfnphcefkdgbaa
open Go.RowKit

theorem CN.u7 {w : World} {q : Nat} {c0 c1 c2 c3 c4 c5 c6 : Value} (h : CN w q [c0, c1, c2, c3, c4, c5, c6]) : w.cell? ⟨q, 0, none⟩ = some c0 ∧ w.cell? ⟨q, 1, none⟩ = some c1 ∧ w.cell? ⟨q, 2, none⟩ = some c2 ∧ w.cell? ⟨q, 3, none⟩ = some c3 ∧ w.cell? ⟨q, 4, none⟩ = some c4 ∧ w.cell? ⟨q, 5, none⟩ = some c5 ∧ w.cell? ⟨q, 6, none⟩ = some c6 ∧ w.frozen? ⟨q, 0, none⟩ = false ∧ w.frozen? ⟨q, 1, none⟩ = false ∧ w.frozen? ⟨q, 2, none⟩ = false ∧ w.frozen? ⟨q, 3, none⟩ = false ∧ w.frozen? ⟨q, 4, none⟩ = false ∧ w.frozen? ⟨q, 5, none⟩ = false ∧ w.frozen? ⟨q, 6, none⟩ = false :=
  ⟨(h.2 0 _ rfl).1, (h.2 1 _ rfl).1, (h.2 2 _ rfl).1, (h.2 3 _ rfl).1, (h.2 4 _ rfl).1, (h.2 5 _ rfl).1, (h.2 6 _ rfl).1, (h.2 0 _ rfl).2, (h.2 1 _ rfl).2, (h.2 2 _ rfl).2, (h.2 3 _ rfl).2, (h.2 4 _ rfl).2, (h.2 5 _ rfl).2, (h.2 6 _ rfl).2⟩
theorem CN.s7 {w : World} {q : Nat} {c0 c1 c2 c3 c4 c5 c6 : Value} (h : CN w q [c0, c1, c2, c3, c4, c5, c6]) (v0 v1 v2 v3 v4 v5 v6 : Value) : CN (((((((w.setCell ⟨q, 0, none⟩ v0).setCell ⟨q, 1, none⟩ v1).setCell ⟨q, 2, none⟩ v2).setCell ⟨q, 3, none⟩ v3).setCell ⟨q, 4, none⟩ v4).setCell ⟨q, 5, none⟩ v5).setCell ⟨q, 6, none⟩ v6) q [v0, v1, v2, v3, v4, v5, v6] := (((((((h.set 0 (by simp) v0).set 1 (by simp) v1).set 2 (by simp) v2).set 3 (by simp) v3).set 4 (by simp) v4).set 5 (by simp) v5).set 6 (by simp) v6)
theorem grown_s7 (w : World) (q : Nat) (v0 v1 v2 v3 v4 v5 v6 : Value) : w.grownBy (((((((w.setCell ⟨q, 0, none⟩ v0).setCell ⟨q, 1, none⟩ v1).setCell ⟨q, 2, none⟩ v2).setCell ⟨q, 3, none⟩ v3).setCell ⟨q, 4, none⟩ v4).setCell ⟨q, 5, none⟩ v5).setCell ⟨q, 6, none⟩ v6) (some q) := ((((((grown_cell w q 0 v0).trans (grown_cell _ q 1 v1)).trans (grown_cell _ q 2 v2)).trans (grown_cell _ q 3 v3)).trans (grown_cell _ q 4 v4)).trans (grown_cell _ q 5 v5)).trans (grown_cell _ q 6 v6)
theorem getSoaV_ex (d : ByteArray) : ∃ M R x1 x2 x3 x4 x5 b, getSoaV d = .tuple #[.agg #[.string M, .string R, .int .i64 x1, .int .i64 x2, .int .i64 x3, .int .i64 x4, .int .i64 x5], .bool b] := by
  unfold getSoaV
  split <;> exact ⟨_, _, _, _, _, _, _, _, rfl⟩

end Go.Proofs.Ythfnphcefkdgbaa
end

section
namespace Go.Proofs.Ythfnphcefkdgbaa
open Go.RowKit
open Go.Maps (IsMap Keyed)

theorem bel_grown {w w' : World} (h : Below w.heap.size w w') (row : Option Nat) : w.grownBy w' row := ⟨h.os, h.tape, h.output, h.size, fun k hk _ => h.block k hk⟩
theorem zeroInt (w : World) : (zeroValue 3).run Try.prog w = .ok (.int .i64 0) w := by kernel_rfl
theorem strKeys : Keyed Try.prog 9 := Maps.string_keyed Try.underlying9
theorem row1_lit (w : World) (x : Int) (T : TypeId) : Row (w.alloc (.cells #[.int .i64 x] T)) (some ⟨w.heap.size, 0, none⟩) 1 [x] := by
  refine ⟨rfl, Or.inr ⟨_, 0, rfl, by simp, fun j hj => ?_⟩⟩
  match j, hj with
  | 0, _ => simp [World.cell?_alloc_at]
/-- A name's key in a map. -/
def keyZ (n : ByteArray) : Lit := .string n.data.toList
theorem keyZ_inj {a b : ByteArray} (h : keyZ a = keyZ b) : a = b := by
  unfold keyZ at h
  injection h with h
  exact toList_inj (by rw [Lib.toList_data, Lib.toList_data]; exact h)
theorem keyZ_key (a : ByteArray) : WideAt.IsKeyLit (keyZ a) := by
  first | trivial | exact ⟨_, rfl⟩ | simp [keyZ, WideAt.IsKeyLit]
theorem keyOf_z {a : ByteArray} (hz : a.size ≤ maxLen) : keyOf Try.prog 9 (.string a) = some (keyZ a) := by
  unfold keyOf
  rw [Try.underlying9]
  simp only [mapKey]
  rw [Try.underlying9]
  simp [keyZ, hz]
/-- The datum D counts names as f does. -/
def CntD (D : DataW Unit) (f : ByteArray → Nat) : Prop := IsMap D ∧ ∀ n, D.atKey (keyZ n) (.lit (.int .i64 0)) = .lit (.int .i64 (f n : Nat))
theorem CntD.nil : CntD (.map []) (fun _ => 0) := ⟨⟨[], rfl⟩, fun _ => rfl⟩
theorem CntD.put {D : DataW Unit} {f : ByteArray → Nat} (h : CntD D f) (n : ByteArray) (p : Nat) (g : ByteArray → Nat) (h1 : g n = p) (h2 : ∀ m, m ≠ n → g m = f m) : CntD (D.put (keyZ n) (.lit (.int .i64 (p : Nat)))) g := by
  refine ⟨h.1.put _ _, fun m => ?_⟩
  by_cases e : m = n
  · subst e
    rw [Maps.atKey_put_same h.1 (keyZ_key _) _ _, h1]
  · rw [Maps.atKey_put_other (fun e2 => e (keyZ_inj e2)), h.2 m, h2 m e]
theorem names_next (S : List SetP) (k : Nat) (s : SetP) (h : S[k]? = some s) (n : ByteArray) : namesN (S.take (k + 1)) n = namesN (S.take k) n + (open Classical in if s.k.n = n then s.data.length else 0) := by
  rw [List.take_add_one, h, namesN_append]
  rfl
theorem soas_next (S : List SetP) (k : Nat) (s : SetP) (h : S[k]? = some s) : soasN (S.take (k + 1)) = soasN (S.take k) + (if s.k.t = 6 then s.data.length else 0) := by
  rw [List.take_add_one, h, soasN_append]
  rfl
theorem namesN_le (S : List SetP) (n : ByteArray) : namesN S n ≤ sumD S := by
  induction S with
  | nil => exact Nat.le_refl _
  | cons s S ih => rw [namesN, sumD]; split <;> omega
theorem soasN_le (S : List SetP) : soasN S ≤ sumD S := by
  induction S with
  | nil => exact Nat.le_refl _
  | cons s S ih => rw [soasN, sumD]; split <;> omega
/-- The first half of what makes a zone, told of some sets. -/
noncomputable def undB (apex : ByteArray) (s : SetP) : Bool := undS s.k.n apex && s.k.c == 1
noncomputable def cnB (S : List SetP) (s : SetP) : Bool := !(s.k.t == 5 && decide (1 < namesN S s.k.n))
theorem whole_no1 {apex : ByteArray} {S : List SetP} {s : SetP} (h : s ∈ S) (hb : undB apex s = false) : wholeB apex S = false := by
  have : S.all (undB apex) = false := List.all_eq_false.2 ⟨s, h, by rw [hb]; simp⟩
  show (S.all (undB apex) && _) = false
  rw [this]; rfl
theorem whole_no2 {apex : ByteArray} {S : List SetP} {s : SetP} (h : s ∈ S) (hb : cnB S s = false) : wholeB apex S = false := by
  have : S.all (cnB S) = false := List.all_eq_false.2 ⟨s, h, by rw [hb]; simp⟩
  show (_ && (S.all (cnB S) && _)) = false
  rw [this]; simp
theorem whole_yes {apex : ByteArray} {S : List SetP} (h1 : ∀ s ∈ S, undB apex s = true) (h2 : ∀ s ∈ S, cnB S s = true) : wholeB apex S = ((findK S ⟨apex, 6, 1⟩).isSome && ((findK S ⟨apex, 2, 1⟩).isSome && soasN S == 1)) := by
  have a1 : S.all (undB apex) = true := List.all_eq_true.2 h1
  have a2 : S.all (cnB S) = true := List.all_eq_true.2 h2
  show (S.all (undB apex) && (S.all (cnB S) && _)) = _
  rw [a1, a2]; simp
theorem all_next {S : List SetP} {k : Nat} {s : SetP} {p : SetP → Bool} (h : ∀ t ∈ S.take k, p t = true) (hs : S[k]? = some s) (h1 : p s = true) : ∀ t ∈ S.take (k + 1), p t = true := fun t ht => by
  rw [List.take_add_one, hs] at ht
  rcases List.mem_append.1 ht with h2 | h2
  · exact h t h2
  · obtain rfl := List.mem_singleton.1 h2; exact h1
theorem found_ex {S : List SetP} {k : Ky} {B : Nat} {e : Ending} {w' : World} (h : Found S k B e w') : ∃ (n : ByteArray) (t c u : Int) (a : Option Addr) (l cc : Nat), e = .returned (.tuple #[.agg #[.string n, .int .i64 t, .int .i64 c, .int .i64 u, .slice a l cc], .bool (findK S k).isSome]) := by
  rcases h with ⟨s, dv, hf, rfl, ho⟩ | ⟨hf, rfl⟩
  · obtain ⟨a, c, rfl, _⟩ := cells_own ho
    rw [hf]
    exact ⟨_, _, _, _, _, _, _, rfl⟩
  · rw [hf]
    exact ⟨_, _, _, _, _, _, _, rfl⟩
end Go.Proofs.Ythfnphcefkdgbaa
end
