/- Zones, plain: a key's set in a row of sets by rising keys. -/
import Derived.Test.YthfnphcefkdgbaaMgE
import Derived.Test.YthfnphcefkdgbaaMgB
namespace Go.Proofs.Ythfnphcefkdgbaa
open Go.RowKit

/-- Sets by rising keys. -/
def RiseS (S : List SetP) : Prop := S.Pairwise (fun s t => kcmp s.k t.k < 0)
theorem RiseS.lt {S : List SetP} (h : RiseS S) {i j : Nat} (hij : i < j) (hj : j < S.length) : kcmp (S.getD i ssD).k (S.getD j ssD).k < 0 := by
  have h1 := List.pairwise_iff_getElem.1 h i j (by omega) hj hij
  rw [List.getD_eq_getElem?_getD, List.getD_eq_getElem?_getD, List.getElem?_eq_getElem (by omega), List.getElem?_eq_getElem hj]
  exact h1
theorem mem_take {S : List SetP} {i : Nat} {s : SetP} (h : s ∈ S.take i) : ∃ t, t < i ∧ t < S.length ∧ S.getD t ssD = s := by
  obtain ⟨t, ht, e⟩ := List.mem_iff_getElem.1 h
  rw [List.length_take] at ht
  rw [List.getElem_take] at e
  exact ⟨t, by omega, by omega, by rw [List.getD_eq_getElem?_getD, List.getElem?_eq_getElem (by omega)]; exact e⟩
/-- What a search by halves knows. -/
def Half (S : List SetP) (k : Ky) (i j : Nat) : Prop := (∀ t, t < i → kcmp (S.getD t ssD).k k < 0) ∧ ∀ t, j ≤ t → t < S.length → 0 ≤ kcmp (S.getD t ssD).k k
theorem Half.up {S : List SetP} (hS : RiseS S) {k : Ky} {i j h : Nat} (hh : Half S k i j) (hj : h < S.length) (hlt : kcmp (S.getD h ssD).k k < 0) : Half S k (h + 1) j := by
  refine ⟨fun t ht => ?_, hh.2⟩
  by_cases e : t = h
  · rw [e]; exact hlt
  · have h1 := hS.lt (show t < h by omega) hj
    have h2 := ord_kcmp.pre.trans (S.getD t ssD).k (S.getD h ssD).k k (by omega) (by omega)
    have h3 : kcmp (S.getD t ssD).k k ≠ 0 := fun e0 => by
      have e1 := (ord_kcmp.zero _ _).1 e0
      rw [e1] at h1
      have h4 := ord_kcmp.anti (S.getD h ssD).k k
      omega
    omega
theorem Half.down {S : List SetP} (hS : RiseS S) {k : Ky} {i j h : Nat} (hh : Half S k i j) (hge : ¬ kcmp (S.getD h ssD).k k < 0) : Half S k i h := by
  refine ⟨hh.1, fun t ht htn => ?_⟩
  by_cases e : t = h
  · rw [e]; omega
  · have h1 := hS.lt (show h < t by omega) htn
    have h4 := ord_kcmp.anti (S.getD t ssD).k (S.getD h ssD).k
    have h5 := ord_kcmp.anti k (S.getD h ssD).k
    have h2 := ord_kcmp.pre.trans k (S.getD h ssD).k (S.getD t ssD).k (by omega) (by omega)
    have h6 := ord_kcmp.anti k (S.getD t ssD).k
    omega
theorem half_yes {S : List SetP} {k : Ky} {i : Nat} (hh : Half S k i i) (hi : i < S.length) (h0 : kcmp (S.getD i ssD).k k = 0) : findK S k = some (S.getD i ssD) := by
  refine findK_some (j := i) (fun s hs => ?_) ?_ ((ord_kcmp.zero _ _).1 h0)
  · obtain ⟨t, ht, -, rfl⟩ := mem_take hs
    intro e
    have h1 := hh.1 t ht
    have h2 := (ord_kcmp.zero (S.getD t ssD).k k).2 e
    omega
  · rw [List.getD_eq_getElem?_getD, List.getElem?_eq_getElem hi]; rfl
theorem half_no {S : List SetP} (hS : RiseS S) {k : Ky} {i : Nat} (hh : Half S k i i) (h0 : i < S.length → kcmp (S.getD i ssD).k k ≠ 0) : findK S k = none := by
  refine findK_none (j := S.length) (fun s hs => ?_) (Nat.le_refl _)
  obtain ⟨t, ht, -, rfl⟩ := mem_take hs
  intro e
  have h2 := (ord_kcmp.zero (S.getD t ssD).k k).2 e
  by_cases h3 : t < i
  · have h1 := hh.1 t h3
    omega
  · by_cases h4 : t = i
    · subst h4
      exact h0 ht h2
    · have h5 := hS.lt (show i < t by omega) ht
      rw [e] at h5
      have h6 := hh.2 i (Nat.le_refl _) (by omega)
      omega
/-- How many records of a name there are. -/
noncomputable def namesN : List SetP → ByteArray → Nat
  | [], _ => 0
  | s :: S, n => (open Classical in if s.k.n = n then s.data.length else 0) + namesN S n
def soasN : List SetP → Nat
  | [] => 0
  | s :: S => (if s.k.t = 6 then s.data.length else 0) + soasN S
def lenN : List SetP → Nat
  | [] => 0
  | s :: S => s.data.length + lenN S
theorem lenN_append (A B : List SetP) : lenN (A ++ B) = lenN A + lenN B := by
  induction A with
  | nil => simp [lenN]
  | cons s A ih => rw [List.cons_append, lenN, lenN, ih]; omega
theorem soasN_append (A B : List SetP) : soasN (A ++ B) = soasN A + soasN B := by
  induction A with
  | nil => simp [soasN]
  | cons s A ih => rw [List.cons_append, soasN, soasN, ih]; omega
theorem namesN_append (A B : List SetP) (n : ByteArray) : namesN (A ++ B) n = namesN A n + namesN B n := by
  induction A with
  | nil => simp [namesN]
  | cons s A ih => rw [List.cons_append, namesN, namesN, ih]; omega
/-- Do sets make a zone? -/
noncomputable def wholeB (apex : ByteArray) (S : List SetP) : Bool :=
  S.all (fun s => undS s.k.n apex && s.k.c == 1) && (S.all (fun s => !(s.k.t == 5 && decide (1 < namesN S s.k.n))) && ((findK S ⟨apex, 6, 1⟩).isSome && ((findK S ⟨apex, 2, 1⟩).isSome && soasN S == 1)))
end Go.Proofs.Ythfnphcefkdgbaa
