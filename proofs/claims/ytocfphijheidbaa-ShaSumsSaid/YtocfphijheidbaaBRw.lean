/- Slices of bytes, and slices of slices of bytes, that came in or are a call's own. -/
import Derived.Test.YtocfphijheidbaaAppS
import Derived.Deep.Matrix
namespace Go.Proofs.Ytocfphijheidbaa
open Go.RowKit

/-- The cells of a slice, wherever it lies. -/
def CellsAt (w : World) (a : Option Addr) (n : Nat) (cs : List Value) : Prop :=
  cs.length = n ∧ (n = 0 ∨ ∃ b off, a = some ⟨b, off, none⟩ ∧ b < w.heap.size ∧ ∀ j u, cs[j]? = some u → w.cell? ⟨b, off + j, none⟩ = some u)
theorem CellsAt.below {w w' : World} {a : Option Addr} {n : Nat} {cs : List Value} (h : CellsAt w a n cs) (hb : Below w.heap.size w w') : CellsAt w' a n cs := by
  refine ⟨h.1, ?_⟩
  rcases h.2 with h2 | ⟨b, off, rfl, hlt, hc⟩
  · exact Or.inl h2
  · exact Or.inr ⟨b, off, rfl, Nat.lt_of_lt_of_le hlt hb.size, fun j u hj => by rw [hb.cell hlt]; exact hc j u hj⟩
theorem cells_own {w : World} {B n : Nat} {e : TypeId} {v : Value} {xs : List Value} (h : w.ownsRow B e 1 v n xs) : ∃ a c, v = .slice a n c ∧ CellsAt w a n xs ∧ (a = none → n = 0 ∧ c = 0) := by
  have hl : xs.length = n := by have := h.1; omega
  rcases h.2 with ⟨rfl, rfl⟩ | ⟨g, cap, cur, rfl, hb, hg, rest⟩
  · exact ⟨none, 0, rfl, ⟨hl, Or.inl rfl⟩, fun _ => ⟨rfl, rfl⟩⟩
  · refine ⟨_, _, rfl, ⟨hl, Or.inr ⟨g, 0, rfl, (Array.getElem?_eq_some_iff.1 hg).1, fun j u hj => ?_⟩⟩, fun h => by cases h⟩
    have := h.cells (g := g) rfl j u hj
    rw [show (⟨g, 0, none⟩ : Addr).add j = ⟨g, 0 + j, none⟩ by simp only [Addr.add]; split <;> simp_all] at this
    exact this
/-- append of a slice, wherever it lies, onto a row of the call's own. -/
theorem append_cells {w : World} {ops : Array Oper} {rest : List Oper} {o : Oper} {act : Act} {Q : Exit → Act → World → Prop} (hgd : o.guard = none) (s x : Operand) (t e : TypeId)
    (ho : o.op = .call { callee := .builtin .append, args := #[s, x], argTypes := #[t, t] })
    (i : TypeInfo) (z : Value) (bytes : Nat) (ht : Try.prog.underlying t = some (.slice e)) (hi : Try.prog.info? e = some i) (hz : i.zero = some z) (hsize : i.size = 1) (hby : i.bytes = bytes) (hzs : z.cells.size = 1)
    (B : Nat) (v : Value) (n : Nat) (xs : List Value) (hs : act.eval s = v) (hown : w.ownsRow B e 1 v n xs)
    (a : Option Addr) (len cap : Nat) (cs : List Value) (hx : act.eval x = .slice a len cap) (hn : a = none → len = 0 ∧ cap = 0) (hr : CellsAt w a len cs) (h1 : ∀ u ∈ cs, u.oneCell' = true)
    (hb : n + len ≤ 1000000) (hb2 : bytes ≤ 64) (hbase : B ≤ w.heap.size)
    (h : ∀ v' w', w'.ownsRow B e 1 v' (n + len) (xs ++ cs) → w.grownBy w' v.ownBlock → wpList Try.prog ops Q rest (act.put o.dst v') w') : wpList Try.prog ops Q (o :: rest) act w := by
  cases a with
  | none =>
    obtain ⟨rfl, rfl⟩ := hn rfl
    have hl : cs = [] := List.eq_nil_of_length_eq_zero hr.1
    subst hl
    refine wpList_append_own_none hgd s x t ho B e i 1 ht hi v n xs hs hown hx ?_
    refine h v w ?_ (World.grownBy.refl _ _)
    simpa using hown
  | some ad =>
    have hm : (n + len) * bytes ≤ 1000000 * 64 := Nat.mul_le_mul hb hb2
    refine wpList_append_own w hgd s x t ho B e i z 1 bytes ht hi hz hsize hby hzs (by decide) v n xs hs hown ad len cap cs hx (by rw [hr.1, Nat.mul_one]) ?_ h1 (by unfold maxLen; omega) (by omega) hbase (fun v' w' h1 h2 _ => h v' w' h1 h2)
    intro j u hj
    rcases hr.2 with h0 | ⟨b, off, hab, _, hc⟩
    · have h3 := hr.1
      have h4 := (List.getElem?_eq_some_iff.1 hj).1
      omega
    · simp only [Option.some.injEq] at hab
      subst hab
      rw [show (⟨b, off, none⟩ : Addr).add j = ⟨b, off + j, none⟩ by simp only [Addr.add]; split <;> simp_all]
      exact hc j u hj

theorem own_below' {w w' : World} {base : Nat} {e : TypeId} {size : Nat} {v : Value} {n : Nat} {xs : List Value} (h : w.ownsRow base e size v n xs) (hb : Below w.heap.size w w') : w'.ownsRow base e size v n xs :=
  h.kept (row := none) ⟨hb.os, hb.tape, hb.output, hb.size, fun k hk _ => hb.block k hk⟩ (by cases hv : v.ownBlock with
    | none => exact Or.inl rfl
    | some x => exact Or.inr (by simp))
/-- The bytes of a slice. -/
def RowB (w : World) (a : Option Addr) (n : Nat) (l : List UInt8) : Prop := CellsAt w a n (bc l)
theorem RowB.len {w : World} {a : Option Addr} {n : Nat} {l : List UInt8} (h : RowB w a n l) : l.length = n := by have := h.1; rwa [bc_length] at this
theorem RowB.at {w : World} {a : Option Addr} {n : Nat} {l : List UInt8} (h : RowB w a n l) (hn : 0 < n) : ∃ b off, a = some ⟨b, off, none⟩ ∧ b < w.heap.size ∧ ∀ j, j < n → w.cell? ⟨b, off + j, none⟩ = some (.int .u8 ((l.getD j 0).toNat : Int)) := by
  have hl := h.len
  rcases h.2 with h0 | ⟨b, off, rfl, hlt, hc⟩
  · omega
  · refine ⟨b, off, rfl, hlt, fun j hj => hc j _ ?_⟩
    simp [bc, List.getD_eq_getElem?_getD, List.getElem?_eq_getElem (show j < l.length by omega)]
/-- A part of a slice of bytes. -/
theorem RowB.part {w : World} {b off n : Nat} {l : List UInt8} (h : RowB w (some ⟨b, off, none⟩) n l) (lo hi : Nat) (h1 : lo ≤ hi) (h2 : hi ≤ n) (a : Option Addr) (ha : lo < hi → a = some ⟨b, off + lo, none⟩) : RowB w a (hi - lo) ((l.drop lo).take (hi - lo)) := by
  have hl := h.len
  refine ⟨by rw [bc_length, List.length_take, List.length_drop]; omega, ?_⟩
  by_cases h0 : hi - lo = 0
  · exact Or.inl h0
  · right
    rcases h.2 with h3 | ⟨b', off', he, hlt, hc⟩
    · omega
    · injection he with he; injection he with e1 e2; subst e1 e2
      refine ⟨b, off + lo, ha (by omega), hlt, fun j u hj => ?_⟩
      have hj2 : (bc l)[lo + j]? = some u := by
        rw [bc, List.getElem?_map, List.getElem?_take] at hj
        split at hj
        · rw [List.getElem?_drop] at hj
          rw [bc, List.getElem?_map]; exact hj
        · simp at hj
      rw [Nat.add_assoc]
      exact hc (lo + j) u hj2
/-- string(b). -/
theorem conv_row {w : World} {a : Option Addr} {n cap : Nat} {l : List UInt8} (h : RowB w a n l) (hn : a = none → n = 0 ∧ cap = 0) : (convert 25 9 (.slice a n cap)).run Try.prog w = .ok (.string (bs l)) w := by
  have hl := h.len
  subst hl
  cases a with
  | none =>
    obtain ⟨h1, rfl⟩ := hn rfl
    have : l = [] := List.eq_nil_of_length_eq_zero h1
    subst this
    have := run_convert_bytes_string (P := Try.prog) w 25 9 5 none 0 0 Try.underlying25 Try.underlying5 Try.underlying9
    rw [show (([] : List UInt8).length) = 0 from rfl, this]
    simp [bs]
    rfl
  | some x =>
    refine run_convert_bytes_back w _ _ 5 x cap l Try.underlying25 Try.underlying5 Try.underlying9 ?_
    intro j hj
    obtain ⟨b, off, he, _, hc⟩ := h.at (by omega)
    injection he with he
    subst he
    have := hc j hj
    rw [List.getD_eq_getElem?_getD, List.getElem?_eq_getElem hj] at this
    rw [show (⟨b, off, none⟩ : Addr).add j = ⟨b, off + j, none⟩ by simp only [Addr.add]; split <;> simp_all]
    exact this

theorem infoBs : (Try.prog.info? 25).map (fun i => (i.zero, i.size, i.bytes)) = some (some (.slice none 0 0), 1, 24) := by kernel_rfl
/-- A slice's value reads as bytes. -/
def ValB (w : World) (u : Value) (m : List UInt8) : Prop := ∃ a c, u = .slice a m.length c ∧ RowB w a m.length m ∧ (a = none → m.length = 0 ∧ c = 0)
theorem ValB.below {w w' : World} {u : Value} {m : List UInt8} (h : ValB w u m) (hb : Below w.heap.size w w') : ValB w' u m := by
  obtain ⟨a, c, h1, h2, h3⟩ := h
  exact ⟨a, c, h1, CellsAt.below h2 hb, h3⟩
theorem ValB.own {w : World} {B n : Nat} {v : Value} {m : List UInt8} (h : w.ownsRow B 5 1 v n (bc m)) : ValB w v m := by
  have hl : m.length = n := by have := h.1; rw [bc_length] at this; omega
  obtain ⟨a, c, h1, h2, h3⟩ := cells_own h
  subst hl
  exact ⟨a, c, h1, h2, h3⟩
/-- The slices of a slice. -/
def RowBB (w : World) (a : Option Addr) (n : Nat) (M : List (List UInt8)) : Prop :=
  ∃ cs, CellsAt w a n cs ∧ M.length = n ∧ ∀ j u, cs[j]? = some u → ValB w u (M.getD j [])
theorem RowBB.below {w w' : World} {a : Option Addr} {n : Nat} {M : List (List UInt8)} (h : RowBB w a n M) (hb : Below w.heap.size w w') : RowBB w' a n M := by
  obtain ⟨cs, h1, h2, h3⟩ := h
  exact ⟨cs, h1.below hb, h2, fun j u hj => (h3 j u hj).below hb⟩
theorem RowBB.at {w : World} {a : Option Addr} {n : Nat} {M : List (List UInt8)} (h : RowBB w a n M) (j : Nat) (hj : j < n) : ∃ b off ai ci, a = some ⟨b, off, none⟩ ∧ b < w.heap.size ∧ w.cell? ⟨b, off + j, none⟩ = some (.slice ai (M.getD j []).length ci) ∧ RowB w ai (M.getD j []).length (M.getD j []) ∧ (ai = none → (M.getD j []).length = 0 ∧ ci = 0) := by
  obtain ⟨cs, h1, h2, h3⟩ := h
  have hl := h1.1
  rcases h1.2 with h0 | ⟨b, off, rfl, hlt, hc⟩
  · omega
  · obtain ⟨u, hu⟩ : ∃ u, cs[j]? = some u := ⟨cs[j]'(by omega), List.getElem?_eq_getElem (by omega)⟩
    obtain ⟨ai, ci, rfl, hr, hn⟩ := h3 j u hu
    exact ⟨b, off, ai, ci, rfl, hlt, hc j _ hu, hr, hn⟩
/-- A slice's bytes lie apart from rows of slices that are made from block B on. -/
def Apart (B : Nat) (w : World) (u : Value) : Prop := ∀ (ad : Addr) (n c : Nat), u = Value.slice (some ad) n c → n = 0 ∨ ad.block < B ∨ ∃ cur fr, w.heap[ad.block]? = some (.cells cur 5 fr)
theorem Apart.ne {B n k c : Nat} {w : World} {ad : Addr} {v : Value} {xs : List Value} (h : Apart B w (.slice (some ad) k c)) (hk : k ≠ 0) (ho : w.ownsRow B 25 1 v n xs) : some ad.block ≠ v.ownBlock := by
  intro e
  rcases ho.2 with ⟨rfl, _⟩ | ⟨g, cap, cur, rfl, hB, hgg, _⟩
  · cases e
  · have e2 : ad.block = g := by simpa [Value.ownBlock] using e
    rcases h ad k c rfl with h1 | h1 | ⟨cur', fr, h1⟩
    · exact hk h1
    · omega
    · rw [e2, hgg] at h1
      simp at h1
theorem Apart.grow {B n : Nat} {w w' : World} {u v : Value} {xs : List Value} (h : Apart B w u) (ho : w.ownsRow B 25 1 v n xs) (hlt : ∀ (ad : Addr) (k c : Nat), u = Value.slice (some ad) k c → k = 0 ∨ ad.block < w.heap.size) (hg : w.grownBy w' v.ownBlock) : Apart B w' u := by
  intro ad k c e
  subst e
  by_cases hk : k = 0
  · exact Or.inl hk
  rcases h ad k c rfl with h1 | h1 | ⟨cur, fr, h1⟩
  · exact absurd h1 hk
  · exact Or.inr (Or.inl h1)
  · refine Or.inr (Or.inr ⟨cur, fr, ?_⟩)
    rw [hg.block _ (by rcases hlt ad k c rfl with h2 | h2; exact absurd h2 hk; exact h2) (h.ne hk ho)]
    exact h1
theorem ValB.lt {w : World} {u : Value} {m : List UInt8} (h : ValB w u m) : ∀ (ad : Addr) (k c : Nat), u = Value.slice (some ad) k c → k = 0 ∨ ad.block < w.heap.size := by
  intro ad k c e
  obtain ⟨a, c', rfl, hr, _⟩ := h
  injection e with e1 e2 e3
  subst e2
  rcases hr.2 with h0 | ⟨b, off, h1, h2, _⟩
  · exact Or.inl h0
  · rw [h1] at e1; injection e1 with e1; subst e1; exact Or.inr h2
theorem ValB.grow {B n : Nat} {w w' : World} {u v : Value} {m : List UInt8} {xs : List Value} (h : ValB w u m) (ha : Apart B w u) (ho : w.ownsRow B 25 1 v n xs) (hg : w.grownBy w' v.ownBlock) : ValB w' u m := by
  obtain ⟨a, c, rfl, hr, hn⟩ := h
  refine ⟨a, c, rfl, ⟨hr.1, ?_⟩, hn⟩
  rcases hr.2 with h0 | ⟨b, off, rfl, hlt, hc⟩
  · exact Or.inl h0
  · by_cases hz : m.length = 0
    · exact Or.inl hz
    exact Or.inr ⟨b, off, rfl, Nat.lt_of_lt_of_le hlt hg.size, fun j x hj => hg.cell (hc j x hj) (ha.ne hz ho)⟩
theorem Apart.own {B B' n : Nat} {w : World} {v : Value} {xs : List Value} (h : w.ownsRow B' 5 1 v n xs) : Apart B w v := by
  intro ad k c e
  rcases h.2 with ⟨rfl, _⟩ | ⟨g, cap, cur, rfl, hB, hgg, _⟩
  · cases e
  · injection e with e1 e2 e3
    injection e1 with e1
    subst e1
    exact Or.inr (Or.inr ⟨cur, _, hgg⟩)
theorem Apart.old {B : Nat} {w0 w : World} {u : Value} {m : List UInt8} (h : ValB w0 u m) (hB : w0.heap.size ≤ B) : Apart B w u := by
  intro ad k c e
  rcases h.lt ad k c e with h1 | h1
  · exact Or.inl h1
  · exact Or.inr (Or.inl (by omega))
/-- A slice of slices that a call owns, the slices lying apart. -/
def OwnBB (w : World) (B : Nat) (v : Value) (M : List (List UInt8)) : Prop :=
  ∃ xs, w.ownsRow B 25 1 v M.length xs ∧ ∀ j u, xs[j]? = some u → ValB w u (M.getD j []) ∧ Apart B w u
theorem OwnBB.nil (w : World) (B : Nat) : OwnBB w B (.slice none 0 0) [] := ⟨[], World.ownsRow_nil _ _ _ _, fun j u h => by simp at h⟩
theorem OwnBB.row {w : World} {B : Nat} {v : Value} {M : List (List UInt8)} (h : OwnBB w B v M) : ∃ a c, v = .slice a M.length c ∧ RowBB w a M.length M ∧ (a = none → M.length = 0 ∧ c = 0) := by
  obtain ⟨xs, h1, h2⟩ := h
  obtain ⟨a, c, rfl, h3, h4⟩ := cells_own h1
  exact ⟨a, c, rfl, ⟨xs, h3, rfl, fun j u hj => (h2 j u hj).1⟩, h4⟩
theorem OwnBB.below {w w' : World} {B : Nat} {v : Value} {M : List (List UInt8)} (h : OwnBB w B v M) (hb : Below w.heap.size w w') : OwnBB w' B v M := by
  obtain ⟨xs, h1, h2⟩ := h
  refine ⟨xs, h1.kept (row := none) ⟨hb.os, hb.tape, hb.output, hb.size, fun k hk _ => hb.block k hk⟩ (by cases hv : v.ownBlock with
    | none => exact Or.inl rfl
    | some x => exact Or.inr (by simp)), fun j u hj => ⟨(h2 j u hj).1.below hb, ?_⟩⟩
  intro ad k c e
  have h3 := (h2 j u hj).1.lt ad k c e
  rcases (h2 j u hj).2 ad k c e with h4 | h4 | ⟨cur, fr, h4⟩
  · exact Or.inl h4
  · exact Or.inr (Or.inl h4)
  · rcases h3 with h5 | h5
    · exact Or.inl h5
    · exact Or.inr (Or.inr ⟨cur, fr, by rw [hb.block _ h5]; exact h4⟩)
/-- One slice more. -/
theorem OwnBB.more {w w' : World} {B : Nat} {v v' u : Value} {M : List (List UInt8)} {m : List UInt8} {xs : List Value} (h1 : w.ownsRow B 25 1 v M.length xs) (h2 : ∀ j u, xs[j]? = some u → ValB w u (M.getD j []) ∧ Apart B w u) (hu : ValB w u m) (ha : Apart B w u) (ho : w'.ownsRow B 25 1 v' (M.length + 1) (xs ++ [u])) (hg : w.grownBy w' v.ownBlock) : OwnBB w' B v' (M ++ [m]) := by
  have hl : xs.length = M.length := by have := h1.1; omega
  refine ⟨xs ++ [u], by rw [List.length_append]; exact ho, fun j x hj => ?_⟩
  by_cases hj2 : j < M.length
  · rw [List.getElem?_append_left (by omega)] at hj
    obtain ⟨q1, q2⟩ := h2 j x hj
    have e : (M ++ [m]).getD j [] = M.getD j [] := by rw [List.getD_eq_getElem?_getD, List.getD_eq_getElem?_getD, List.getElem?_append_left hj2]
    rw [e]
    exact ⟨q1.grow q2 h1 hg, q2.grow h1 q1.lt hg⟩
  · rw [List.getElem?_append_right (by omega)] at hj
    have hj3 : j = M.length := by
      have := (List.getElem?_eq_some_iff.1 hj).1
      simp at this; omega
    subst hj3
    rw [hl, Nat.sub_self] at hj
    simp at hj
    subst hj
    have e : (M ++ [m]).getD M.length [] = m := by rw [List.getD_eq_getElem?_getD, List.getElem?_append_right (Nat.le_refl _), Nat.sub_self]; rfl
    rw [e]
    exact ⟨hu.grow ha h1 hg, ha.grow h1 hu.lt hg⟩
/-- Slices that came in, behind those that are there. -/
theorem OwnBB.many {w0 w w' : World} {B n : Nat} {v v' : Value} {M K : List (List UInt8)} {xs ys : List Value} (h1 : w.ownsRow B 25 1 v M.length xs) (h2 : ∀ j u, xs[j]? = some u → ValB w u (M.getD j []) ∧ Apart B w u) (hK : K.length = n) (hys : ∀ j u, ys[j]? = some u → ValB w0 u (K.getD j [])) (hb : Below w0.heap.size w0 w) (hB : w0.heap.size ≤ B) (ho : w'.ownsRow B 25 1 v' (M.length + n) (xs ++ ys)) (hg : w.grownBy w' v.ownBlock) : OwnBB w' B v' (M ++ K) := by
  have hl : xs.length = M.length := by have := h1.1; omega
  refine ⟨xs ++ ys, by rw [List.length_append, hK]; exact ho, fun j x hj => ?_⟩
  by_cases hj2 : j < M.length
  · rw [List.getElem?_append_left (by omega)] at hj
    obtain ⟨q1, q2⟩ := h2 j x hj
    have e : (M ++ K).getD j [] = M.getD j [] := by rw [List.getD_eq_getElem?_getD, List.getD_eq_getElem?_getD, List.getElem?_append_left hj2]
    rw [e]
    exact ⟨q1.grow q2 h1 hg, q2.grow h1 q1.lt hg⟩
  · rw [List.getElem?_append_right (by omega), hl] at hj
    have q0 := hys (j - M.length) x hj
    have q1 : ValB w x (K.getD (j - M.length) []) := q0.below hb
    have q2 : Apart B w x := Apart.old q0 hB
    have e : (M ++ K).getD j [] = K.getD (j - M.length) [] := by rw [List.getD_eq_getElem?_getD, List.getD_eq_getElem?_getD, List.getElem?_append_right (by omega)]
    rw [e]
    exact ⟨q1.grow q2 h1 hg, q2.grow h1 q1.lt hg⟩

/-- A slice of slices that a call owns, the slices too. -/
def OwnF (w : World) (B : Nat) (v : Value) (M : List (List UInt8)) : Prop :=
  ∃ xs, w.ownsRow B 25 1 v M.length xs ∧ ∀ j u, xs[j]? = some u → w.ownsRow B 5 1 u (M.getD j []).length (bc (M.getD j []))
theorem OwnF.nil (w : World) (B : Nat) : OwnF w B (.slice none 0 0) [] := ⟨[], World.ownsRow_nil _ _ _ _, fun j u h => by simp at h⟩
theorem OwnF.bb {w : World} {B : Nat} {v : Value} {M : List (List UInt8)} (h : OwnF w B v M) : OwnBB w B v M := by
  obtain ⟨xs, h1, h2⟩ := h
  exact ⟨xs, h1, fun j u hj => ⟨ValB.own (h2 j u hj), Apart.own (h2 j u hj)⟩⟩
theorem OwnF.below {w w' : World} {B : Nat} {v : Value} {M : List (List UInt8)} (h : OwnF w B v M) (hb : Below w.heap.size w w') : OwnF w' B v M := by
  obtain ⟨xs, h1, h2⟩ := h
  exact ⟨xs, own_below' h1 hb, fun j u hj => own_below' (h2 j u hj) hb⟩
theorem rows_apart {w : World} {B B' n m : Nat} {v u : Value} {xs ys : List Value} (h1 : w.ownsRow B 25 1 v n xs) (h2 : w.ownsRow B' 5 1 u m ys) : u.ownBlock = none ∨ u.ownBlock ≠ v.ownBlock := by
  rcases h2.2 with ⟨rfl, _⟩ | ⟨g2, c2, u2, rfl, _, hg2, _⟩
  · exact Or.inl rfl
  · right
    rcases h1.2 with ⟨rfl, _⟩ | ⟨g1, c1, u1, rfl, _, hg1, _⟩
    · simp [Value.ownBlock]
    · simp only [Value.ownBlock]
      intro h
      have hgg : g2 = g1 := by simpa using h
      subst hgg
      rw [hg1] at hg2
      simp at hg2
theorem OwnF.more {w w' : World} {B : Nat} {v v' u : Value} {M : List (List UInt8)} {m : List UInt8} {xs : List Value} (h1 : w.ownsRow B 25 1 v M.length xs) (h2 : ∀ j u, xs[j]? = some u → w.ownsRow B 5 1 u (M.getD j []).length (bc (M.getD j []))) (hu : w.ownsRow B 5 1 u m.length (bc m)) (ho : w'.ownsRow B 25 1 v' (M.length + 1) (xs ++ [u])) (hg : w.grownBy w' v.ownBlock) : OwnF w' B v' (M ++ [m]) := by
  have hl : xs.length = M.length := by have := h1.1; omega
  refine ⟨xs ++ [u], by rw [List.length_append]; exact ho, fun j x hj => ?_⟩
  by_cases hj2 : j < M.length
  · rw [List.getElem?_append_left (by omega)] at hj
    have e : (M ++ [m]).getD j [] = M.getD j [] := by rw [List.getD_eq_getElem?_getD, List.getD_eq_getElem?_getD, List.getElem?_append_left hj2]
    rw [e]
    exact (h2 j x hj).kept hg (rows_apart h1 (h2 j x hj))
  · rw [List.getElem?_append_right (by omega)] at hj
    have hj3 : j = M.length := by
      have := (List.getElem?_eq_some_iff.1 hj).1
      simp at this; omega
    subst hj3
    rw [hl, Nat.sub_self] at hj
    simp at hj
    subst hj
    have e : (M ++ [m]).getD M.length [] = m := by rw [List.getD_eq_getElem?_getD, List.getElem?_append_right (Nat.le_refl _), Nat.sub_self]; rfl
    rw [e]
    exact hu.kept hg (rows_apart h1 hu)

/-- What the reading of a slice of slices of bytes gives. -/
theorem open_rowsB {H : Type} {enc : TypeId × Value → H} {w : World} {base : Nat} {held : Bool} {fuel : Nat} {a : Option Addr} {len cap : Nat} {x : DataW H × List MemPlace} (h : DataW.trod enc Try.prog w base (fun _ => true) held fuel 22 (Value.slice a len cap).cells.toList = some x) :
    (a = none → len = 0 ∧ cap = 0) ∧ len ≤ maxLen ∧ ∃ M, RowBB w a len M ∧ ∀ m ∈ M, m.length ≤ maxLen := by
  rcases Go.Deep.open_int_rows Try.underlying22 Try.underlying25 Try.underlying5 (by kernel_rfl) (by kernel_rfl) h with ⟨hcs, _⟩ | ⟨a', len', cap', A, L, C, Z, hcs, _, hl, hm, _, hall⟩
  · simp [Value.cells] at hcs
    obtain ⟨rfl, rfl, rfl⟩ := hcs
    exact ⟨fun _ => ⟨rfl, rfl⟩, Nat.zero_le _, [], ⟨[], ⟨rfl, Or.inl rfl⟩, rfl, fun j u h => by simp at h⟩, by simp⟩
  · simp [Value.cells] at hcs
    obtain ⟨rfl, rfl, rfl⟩ := hcs
    refine ⟨(fun h => by cases h), by omega, (List.range len).map (fun r => ((Z r).take (L r)).map by8), ⟨(List.range len).map (fun r => Value.slice (A r) (L r) (C r)), ⟨by simp, ?_⟩, by simp, ?_⟩, ?_⟩
    · by_cases h0 : len = 0
      · exact Or.inl h0
      right
      obtain ⟨b, off, spot⟩ := a'
      have hc := (hall 0 (by omega)).1
      have hspot : spot = none := by simpa [Addr.add] using World.cell?_spot hc
      subst hspot
      refine ⟨b, off, rfl, ?_, fun j u hj => ?_⟩
      · have := block_lt_of_cell hc
        simpa [Addr.add] using this
      · have hj2 : j < len := by
          have := (List.getElem?_eq_some_iff.1 hj).1
          simpa using this
        have := (hall j (by omega)).1
        rw [show (⟨b, off, none⟩ : Addr).add j = ⟨b, off + j, none⟩ by simp only [Addr.add]; split <;> simp_all] at this
        rw [this]
        simp [hj2] at hj
        rw [hj]
    · intro j u hj
      have hj2 : j < len := by
        have := (List.getElem?_eq_some_iff.1 hj).1
        simpa using this
      simp [hj2] at hj
      subst hj
      obtain ⟨_, k1, k2, k3, k4, k5, k6⟩ := hall j (by omega)
      have hml : (((Z j).take (L j)).map by8).length = L j := by rw [List.length_map, List.length_take]; omega
      have e : ((List.range len).map (fun r => ((Z r).take (L r)).map by8)).getD j [] = ((Z j).take (L j)).map by8 := by
        rw [List.getD_eq_getElem?_getD]; simp [hj2]
      rw [e]
      refine ⟨A j, C j, by rw [hml], ?_, fun hA => ?_⟩
      · rw [hml]
        refine ⟨by rw [bc_length, hml], ?_⟩
        by_cases h0 : L j = 0
        · exact Or.inl h0
        right
        cases hA : A j with
        | none => have := k5 hA; omega
        | some a2 =>
          obtain ⟨_, hc⟩ := k6 a2 hA
          obtain ⟨b2, off2, spot2⟩ := a2
          have hc0 := hc 0 (by omega)
          have hspot : spot2 = none := by simpa [Addr.add] using World.cell?_spot hc0
          subst hspot
          refine ⟨b2, off2, rfl, ?_, fun i x hi => ?_⟩
          · have := block_lt_of_cell hc0
            simpa [Addr.add] using this
          · have hi2 : i < L j := by
              have := (List.getElem?_eq_some_iff.1 hi).1
              rw [bc_length, hml] at this; exact this
            have := hc i (by omega)
            rw [show (⟨b2, off2, none⟩ : Addr).add i = ⟨b2, off2 + i, none⟩ by simp only [Addr.add]; split <;> simp_all] at this
            rw [this]
            have hz : i < (Z j).length := by omega
            have hwf := k4 (Z j)[i] (List.getElem_mem hz)
            have hb := by8_toNat (Z j)[i]
            have hr : 0 ≤ (Z j)[i] ∧ (Z j)[i] < 256 := by
              have := hwf
              simp [Lit.wf, IntKind.min, IntKind.max, IntKind.signed, IntKind.bits] at this
              omega
            rw [bc, List.getElem?_map, List.getElem?_map, List.getElem?_take, if_pos hi2, List.getElem?_eq_getElem hz] at hi
            simp only [Option.map_some, Option.some.injEq] at hi
            rw [← hi, hb, List.getD_eq_getElem?_getD, List.getElem?_eq_getElem hz]
            simp; omega
      · have := k5 hA
        rw [hml]; omega
    · intro m hm
      simp at hm
      obtain ⟨r, hr, rfl⟩ := hm
      obtain ⟨_, k1, k2, k3, _⟩ := hall r (by omega)
      simp; omega
end Go.Proofs.Ytocfphijheidbaa
