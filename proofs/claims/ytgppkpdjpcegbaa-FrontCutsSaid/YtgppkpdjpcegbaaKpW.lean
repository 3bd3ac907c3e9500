/- What the writer's calls keep: blocks of other types than its own. -/
import Derived.Test.YtgppkpdjpcegbaaMgI
import Derived.Test.YtgppkpdjpcegbaaPlM
import Derived.Test.YtgppkpdjpcegbaaMgB
import Derived.Maps.OwnOps
import Derived.Maps.OwnSet
namespace Go.Proofs.Ytgppkpdjpcegbaa
open Go.RowKit
open Go.Maps

theorem zeroInt (w : World) : (zeroValue 3).run Try.prog w = .ok (.int .i64 0) w := by kernel_rfl
theorem strKeys : Keyed Try.prog 9 := string_keyed Try.underlying9
theorem okL_drop {L : List ByteArray} (h : OkL L) (k : Nat) : OkL (L.drop k) := by
  intro j hj
  have hj' : k + j < L.length := by simp at hj; omega
  have e : tx (L.drop k) j = tx L (k + j) := by simp [tx]
  rw [e]
  exact h (k + j) hj'
/-- Blocks of other types than the writer's and its bytes' are as they were. -/
def Kp (w w' : World) : Prop := ∀ (j : Nat) (cur : Array Value) (T : TypeId), w.heap[j]? = some (.cells cur T (0, 0)) → T ≠ 85 → T ≠ 5 → w'.heap[j]? = w.heap[j]?
theorem Kp.refl (w : World) : Kp w w := fun _ _ _ _ _ _ => rfl
theorem Kp.trans {a b c : World} (h : Kp a b) (k : Kp b c) : Kp a c := fun j cur T hj h1 h2 => (k j cur T ((h j cur T hj h1 h2).trans hj) h1 h2).trans (h j cur T hj h1 h2)
theorem Kp.drew {a b : World} (h : Kp a b) : Kp a b.drew := fun j cur T hj h1 h2 => h j cur T hj h1 h2
theorem Kp.below {w w' : World} (h : Below w.heap.size w w') : Kp w w' := fun j _ _ hj _ _ => h.block j (Array.getElem?_eq_some_iff.1 hj).1
theorem Kp.grown {w w' : World} {B n : Nat} {v : Value} {xs : List Value} (ho : w.ownsRow B 5 1 v n xs) (hg : w.grownBy w' v.ownBlock) : Kp w w' := fun j cur _T hj _ h2 =>
  hg.block j (Array.getElem?_eq_some_iff.1 hj).1 (fun e => own_ne ho ⟨cur, hj⟩ (fun e2 => h2 e2.symm) e.symm)
theorem Kp.map {w w' : World} {mb : Nat} {es ck} (hm : w.heap[mb]? = some (.map es ck)) (hg : w.grownBy w' (some mb)) : Kp w w' := fun j _ _ hj _ _ =>
  hg.block j (Array.getElem?_eq_some_iff.1 hj).1 (fun e => by injection e with e; rw [e, hm] at hj; cases hj)
theorem Kp.set {w : World} {q : Nat} (ht : TB w q 85) (i : Nat) (v : Value) : Kp w (w.setCell ⟨q, i, none⟩ v) := fun j cur T hj h1 _ =>
  heap_setCell_other w ⟨q, i, none⟩ j v (fun e => by
    obtain ⟨c, ht⟩ := ht
    rw [e, ht] at hj
    injection hj with hj
    injection hj with _ hj
    exact h1 hj.symm)
theorem Kp.num {w w' : World} {q B n : Nat} {v : Value} {xs : List Value} (ho : w.ownsRow B 5 1 v n xs) (ht : TB w q 85) (h : ∀ k, k < w.heap.size → k ≠ q → v.ownBlock ≠ some k → w'.heap[k]? = w.heap[k]?) : Kp w w' := fun j cur T hj h1 h2 =>
  h j (Array.getElem?_eq_some_iff.1 hj).1 (fun e => by
    obtain ⟨c, ht⟩ := ht
    rw [e, ht] at hj
    injection hj with hj
    injection hj with _ hj
    exact h1 hj.symm) (own_ne ho ⟨cur, hj⟩ (fun e2 => h2 e2.symm))
theorem Kp.tb {w w' : World} {j : Nat} {T : TypeId} (h : Kp w w') (ht : TB w j T) (h1 : T ≠ 85) (h2 : T ≠ 5) : w'.heap[j]? = w.heap[j]? := by
  obtain ⟨c, ht⟩ := ht
  exact h j c T ht h1 h2

/-- append of a text's bytes, in a region that draws. -/
theorem step_append_str5 {P : Program} {w : World} {ops : Array Oper} {o : Oper} {a : Act} {K : Act → World → Prop} {Q : Exit → Act → World → Prop} {E : Prop} (hgd : o.guard = none) (sl x : Operand) (t u : TypeId)
    (ho : o.op = .call { callee := .builtin .append, args := #[sl, x], argTypes := #[t, u] })
    (base : Nat) (e : TypeId) (i : TypeInfo) (ht : P.underlying t = some (.slice e)) (hu : P.underlying u = some .string) (hi : P.info? e = some i) (hz : i.zero = some (.int .u8 0))
    (hsize : i.size = 1) (hby : i.bytes = 1)
    (v : Value) (n : Nat) (xs : List Value) (hs : a.eval sl = v) (hown : w.ownsRow base e 1 v n xs) (s : ByteArray) (hx : a.eval x = .string s)
    (h63 : n + s.size ≤ maxLen) (hbytes : n + s.size ≤ 140737488355328) (hbase : base ≤ w.heap.size)
    (h : ∀ v' w', w'.ownsRow base e 1 v' (n + s.size) (xs ++ Lib.strCells s) → w.grownBy w' v.ownBlock → K (a.put o.dst v') w') : if Region.wanted o (yielded ops a.tmps) = true then Oper.wp P o a w K Q else E := by
  have hw : Region.wanted o (yielded ops a.tmps) = true := by simp [Region.wanted, hgd]
  rw [if_pos hw]
  obtain ⟨v', w', hr, h2, h3, _⟩ := Lib.run_append_own_string (P := P) w base t u o.type e i ht hu hi hz hsize hby v n xs hown s h63 hbytes hbase
  unfold Oper.wp execOp
  simp only [ho, resolve, invoke, builtin, Sem.run_bind, Sem.run_pure, Result.andThen_ok, List.map_toArray, List.map_cons, List.map_nil, hs, hx, hr]
  exact h v' w' h2 h3
theorem own_apart7 {w w' : World} {B n size : Nat} {e : TypeId} {v : Value} {xs : List Value} {row : Option Nat} (h : w.ownsRow B e size v n xs) (hg : w.grownBy w' row) (hne : ∀ k, v.ownBlock = some k → row ≠ some k) : w'.ownsRow B e size v n xs :=
  h.kept hg (by
    cases hv : v.ownBlock with
    | none => exact Or.inl rfl
    | some k => exact Or.inr (fun e2 => hne k hv (by first | exact e2 | exact e2.symm)))
theorem own_map_ne {w : World} {B n size mb n1 : Nat} {e K : TypeId} {v : Value} {xs : List Value} {R : Value → Option (DataW Unit × List MemPlace)} {D : DataW Unit} (ho : w.ownsRow B e size v n xs) (hm : w.ownsMap Try.prog K R mb n1 D) : v.ownBlock ≠ some mb := fun ev => by
  obtain ⟨es, ck, hmb, _⟩ := hm
  rcases ho.2 with ⟨h1, _⟩ | ⟨g, cap, cur, h1, _, hg, _⟩
  · rw [h1] at ev; cases ev
  · rw [h1] at ev; injection ev with ev; have e' : g = mb := ev; subst e'; rw [hg] at hmb; cases hmb
theorem off_cons (t : ByteArray) (M : List ByteArray) : off (t :: M) (t :: M).length = 1 + t.size + off M M.length := by
  have e : txtTo (t :: M) (M.length + 1) = _ := txtTo_cons t M M.length
  show (txtTo (t :: M) (M.length + 1)).length = _
  rw [e]; simp only [List.length_cons, List.length_append, size_data, off]; omega
theorem name_head (t : ByteArray) (M : List ByteArray) : (nameB (t :: M)).extract 0 (1 + t.size) = bs (UInt8.ofNat t.size :: t.data.toList) := by
  apply ba_eq
  have e : (nameB (t :: M)).data.toList = nameL (t :: M) := by simp [nameB, bs]
  have e2 : (bs (UInt8.ofNat t.size :: t.data.toList)).data.toList = UInt8.ofNat t.size :: t.data.toList := by simp [bs]
  rw [extract_toList, e, e2, nameL_cons, List.drop_zero, Nat.sub_zero, Nat.add_comm, List.take_succ_cons, List.take_left' (size_data t)]

/-- The writer at q (its map at mb) holds the row X and tells the places f. -/
def WrS (w : World) (B q mb : Nat) (f : Pls) (X : List UInt8) : Prop :=
  ∃ (bv : Value) (D : DataW Unit) (n : Nat), CN w q [bv, .map (some mb)] ∧ TB w q 85 ∧ w.ownsRow B 5 1 bv X.length (bc X) ∧ w.ownsMap Try.prog 9 (plainElem Try.prog 3) mb n D ∧ PlsD D f ∧ (∀ M p, f M = some p → p < 16384) ∧ n ≤ X.length
/-- .. and all else is as it was. -/
def WrN (w : World) (B q mb : Nat) (f : Pls) (X : List UInt8) (w' : World) : Prop := WrS w' B q mb f X ∧ Below B w w' ∧ Kp w w'
end Go.Proofs.Ytgppkpdjpcegbaa
