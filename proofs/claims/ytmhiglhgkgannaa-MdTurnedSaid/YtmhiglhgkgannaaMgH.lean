/- Texts that others rest on, one behind the other: FrA, FrB, FrC, BRx. -/
import Derived.Test.YtmhiglhgkgannaaMgA
import Derived.Test.YtmhiglhgkgannaaMgC
import Derived.Deep.AppendLies
import Derived.Deep.RegionLaw
import Derived.Deep.RegionHeld3
section
namespace Go.Proofs.Ytmhiglhgkgannaa
open Go.RowKit

def head2 (m : List UInt8) : List UInt8 := [UInt8.ofNat (m.length / 256), UInt8.ofNat m.length]
def frameL (M : List (List UInt8)) : List UInt8 := M.flatMap fun m => head2 m ++ m
/-- The bytes of all. -/
def sumL (M : List (List UInt8)) : Nat := (M.map List.length).foldr (· + ·) 0
theorem sumL_cons (m : List UInt8) (M : List (List UInt8)) : sumL (m :: M) = m.length + sumL M := rfl
theorem sumL_append (A B : List (List UInt8)) : sumL (A ++ B) = sumL A + sumL B := by
  induction A with
  | nil => show sumL B = 0 + sumL B; omega
  | cons m A ih => rw [List.cons_append, sumL_cons, sumL_cons, ih]; omega
/-- The bytes of all, each message's counted up to a bound. -/
def capL (M : List (List UInt8)) : Nat := (M.map fun m => min m.length 70001).foldr (· + ·) 0
theorem capL_cons (m : List UInt8) (M : List (List UInt8)) : capL (m :: M) = min m.length 70001 + capL M := rfl
theorem capL_append (A B : List (List UInt8)) : capL (A ++ B) = capL A + capL B := by
  induction A with
  | nil => show capL B = 0 + capL B; omega
  | cons m A ih => rw [List.cons_append, capL_cons, capL_cons, ih]; omega
theorem cap_take {M : List (List UInt8)} {k : Nat} (hk : k < M.length) : capL (M.take (k + 1)) = capL (M.take k) + min (M.getD k []).length 70001 := by
  rw [List.take_succ_eq_append_getElem hk, capL_append, List.getD_eq_getElem?_getD, List.getElem?_eq_getElem hk]
  rfl
theorem cap_le (M : List (List UInt8)) (k : Nat) : capL (M.take k) ≤ capL M := by
  have := capL_append (M.take k) (M.drop k)
  rw [List.take_append_drop] at this
  omega
def allFit (M : List (List UInt8)) : Bool := M.all fun m => decide (m.length ≤ 65535)
def frS (M : List (List UInt8)) : List UInt8 := if allFit M = true then frameL M else []
def frE (M : List (List UInt8)) : Int := if allFit M = true then 0 else 3
theorem cap_fit {M : List (List UInt8)} (h : allFit M = true) : capL M = sumL M := by
  induction M with
  | nil => rfl
  | cons m M ih =>
    rw [allFit, List.all_cons, Bool.and_eq_true, decide_eq_true_eq] at h
    rw [capL_cons, sumL_cons, ih h.2]; omega
theorem frameL_append (A B : List (List UInt8)) : frameL (A ++ B) = frameL A ++ frameL B := by simp [frameL]
theorem frameL_cons (m : List UInt8) (M : List (List UInt8)) : frameL (m :: M) = head2 m ++ (m ++ frameL M) := by
  show (head2 m ++ m) ++ frameL M = _
  rw [List.append_assoc]
theorem frameL_len (M : List (List UInt8)) : (frameL M).length = 2 * M.length + sumL M := by
  induction M with
  | nil => rfl
  | cons m M ih => rw [frameL_cons, List.length_append, List.length_append, ih, sumL_cons, List.length_cons]; simp [head2]; omega
theorem allFit_append (A B : List (List UInt8)) : allFit (A ++ B) = (allFit A && allFit B) := by simp [allFit]
theorem fit_take {M : List (List UInt8)} {k : Nat} (hk : k < M.length) : allFit (M.take (k + 1)) = (allFit (M.take k) && decide ((M.getD k []).length ≤ 65535)) := by
  rw [List.take_succ_eq_append_getElem hk, allFit_append, List.getD_eq_getElem?_getD, List.getElem?_eq_getElem hk]
  simp [allFit]
theorem fit_no {M : List (List UInt8)} {k : Nat} (hk : k < M.length) (h : ¬ (M.getD k []).length ≤ 65535) : allFit M = false := by
  rw [allFit, List.all_eq_false]
  refine ⟨M[k], List.getElem_mem hk, ?_⟩
  rw [List.getD_eq_getElem?_getD, List.getElem?_eq_getElem hk] at h
  simpa using h
theorem frame_take {M : List (List UInt8)} {k : Nat} (hk : k < M.length) : frameL (M.take (k + 1)) = frameL (M.take k) ++ (head2 (M.getD k []) ++ M.getD k []) := by
  rw [List.take_succ_eq_append_getElem hk, frameL_append, List.getD_eq_getElem?_getD, List.getElem?_eq_getElem hk]
  simp [frameL]
theorem sum_take {M : List (List UInt8)} {k : Nat} (hk : k < M.length) : sumL (M.take (k + 1)) = sumL (M.take k) + (M.getD k []).length := by
  rw [List.take_succ_eq_append_getElem hk, sumL_append, List.getD_eq_getElem?_getD, List.getElem?_eq_getElem hk]
  rfl
theorem sum_le (M : List (List UInt8)) (k : Nat) : sumL (M.take k) ≤ sumL M := by
  have := sumL_append (M.take k) (M.drop k)
  rw [List.take_append_drop] at this
  omega

/-- The length that stands ahead. -/
def hd2 (r : List UInt8) : Nat := (r.getD 0 0).toNat * 256 + (r.getD 1 0).toNat
/-- The messages that are whole, and where the last one ends. -/
def tk : Nat → List UInt8 → List (List UInt8) × Nat
  | 0, _ => ([], 0)
  | f + 1, r => if r.length < 2 then ([], 0) else if r.length - 2 < hd2 r then ([], 0) else
      (((r.drop 2).take (hd2 r)) :: (tk f (r.drop (2 + hd2 r))).1, 2 + hd2 r + (tk f (r.drop (2 + hd2 r))).2)
def TK (r : List UInt8) : List (List UInt8) × Nat := tk r.length r
theorem tk_more : ∀ (f : Nat) (r : List UInt8), r.length ≤ f → tk (f + 1) r = tk f r := by
  intro f
  induction f with
  | zero =>
    intro r h
    show (if r.length < 2 then _ else _) = _
    rw [if_pos (by omega)]; rfl
  | succ f ih =>
    intro r h
    rw [tk]
    conv => rhs; rw [tk]
    by_cases h1 : r.length < 2
    · rw [if_pos h1, if_pos h1]
    · rw [if_neg h1, if_neg h1]
      by_cases h2 : r.length - 2 < hd2 r
      · rw [if_pos h2, if_pos h2]
      · rw [if_neg h2, if_neg h2, ih _ (by rw [List.length_drop]; omega)]
theorem tk_any (f : Nat) (r : List UInt8) (h : r.length ≤ f) : tk f r = TK r := by
  induction f with
  | zero =>
    have : r = [] := List.eq_nil_of_length_eq_zero (by omega)
    subst this; rfl
  | succ f ih =>
    by_cases e : r.length = f + 1
    · rw [TK, e]
    · rw [tk_more f r (by omega), ih (by omega)]
theorem TK_step (r : List UInt8) : TK r = if r.length < 2 then ([], 0) else if r.length - 2 < hd2 r then ([], 0) else
      (((r.drop 2).take (hd2 r)) :: (TK (r.drop (2 + hd2 r))).1, 2 + hd2 r + (TK (r.drop (2 + hd2 r))).2) := by
  rw [← tk_any (r.length + 1) r (by omega), tk]
  by_cases h1 : r.length < 2
  · rw [if_pos h1, if_pos h1]
  · rw [if_neg h1, if_neg h1, tk_any _ _ (by rw [List.length_drop]; omega)]
theorem hd2_frame (m r : List UInt8) (h : m.length ≤ 65535) : hd2 (head2 m ++ r) = m.length := by
  show (UInt8.ofNat (m.length / 256)).toNat * 256 + (UInt8.ofNat m.length).toNat = _
  rw [UInt8.toNat_ofNat', UInt8.toNat_ofNat']
  omega
/-- What is framed is taken. -/
theorem TK_frame (M : List (List UInt8)) (r : List UInt8) (h : allFit M = true) : TK (frameL M ++ r) = (M ++ (TK r).1, (frameL M).length + (TK r).2) := by
  induction M with
  | nil =>
    show TK ([] ++ r) = ([] ++ (TK r).1, 0 + (TK r).2)
    simp
  | cons m M ih =>
    rw [allFit, List.all_cons, Bool.and_eq_true, decide_eq_true_eq] at h
    have ih' := ih h.2
    have e1 : frameL (m :: M) ++ r = head2 m ++ (m ++ (frameL M ++ r)) := by rw [frameL_cons, List.append_assoc, List.append_assoc]
    have h2 := hd2_frame m (m ++ (frameL M ++ r)) h.1
    have e2 : (head2 m ++ (m ++ (frameL M ++ r))).drop 2 = m ++ (frameL M ++ r) := rfl
    have e3 : (head2 m ++ (m ++ (frameL M ++ r))).drop (2 + m.length) = frameL M ++ r := by rw [← List.drop_drop, e2, List.drop_left]
    rw [e1, TK_step, h2, e2, e3, ih', if_neg (by simp [head2]), if_neg (by simp [head2]), List.take_left, frameL_cons]
    simp [head2]
    omega
theorem TK_le (r : List UInt8) : (TK r).2 ≤ r.length := by
  have : ∀ (f : Nat) (r : List UInt8), (tk f r).2 ≤ r.length := by
    intro f
    induction f with
    | zero => intro r; exact Nat.zero_le _
    | succ f ih =>
      intro r
      rw [tk]
      by_cases h1 : r.length < 2
      · rw [if_pos h1]; exact Nat.zero_le _
      · rw [if_neg h1]
        by_cases h2 : r.length - 2 < hd2 r
        · rw [if_pos h2]; exact Nat.zero_le _
        · rw [if_neg h2]
          have := ih (r.drop (2 + hd2 r))
          rw [List.length_drop] at this
          show 2 + hd2 r + _ ≤ _
          omega
  exact this r.length r
theorem TK_count (r : List UInt8) : 2 * (TK r).1.length ≤ r.length := by
  have : ∀ (f : Nat) (r : List UInt8), 2 * (tk f r).1.length ≤ r.length := by
    intro f
    induction f with
    | zero => intro r; exact Nat.zero_le _
    | succ f ih =>
      intro r
      rw [tk]
      by_cases h1 : r.length < 2
      · rw [if_pos h1]; exact Nat.zero_le _
      · rw [if_neg h1]
        by_cases h2 : r.length - 2 < hd2 r
        · rw [if_pos h2]; exact Nat.zero_le _
        · rw [if_neg h2]
          have := ih (r.drop (2 + hd2 r))
          rw [List.length_drop] at this
          show 2 * ((tk f (r.drop (2 + hd2 r))).1.length + 1) ≤ _
          omega
  exact this r.length r
end Go.Proofs.Ytmhiglhgkgannaa
end

section
namespace Go.Proofs.Ytmhiglhgkgannaa
open Go.RowKit

theorem ret_vi {l : IntKind} {v : Value} {c d : Int} (g : c = d) : Ending.returned (.tuple #[v, .int l c]) = Ending.returned (.tuple #[v, .int l d]) := by rw [g]
theorem put_fit (n : Nat) (h : n ≤ 65535) : putL n 2 = [UInt8.ofNat (n / 256), UInt8.ofNat n] ∧ putE n 2 = 0 := by
  have hf : fits n 2 = true := by
    simp only [fits, decide_eq_true_eq]
    refine ⟨by omega, by omega, by omega, ?_⟩
    show (n : Int) / 2 ^ 16 ≤ 0
    omega
  refine ⟨?_, by rw [putE, if_pos hf]⟩
  rw [putL, if_pos hf]
  have e : putTo n (2 : Int).toNat (2 : Int).toNat = [by8 ((n : Int) / 2 ^ 8), by8 ((n : Int) / 2 ^ 0)] := rfl
  rw [e]
  have e1 : by8 ((n : Int) / 2 ^ 8) = UInt8.ofNat (n / 256) := by
    apply UInt8.toNat_inj.1
    have := by8_toNat ((n : Int) / 2 ^ 8)
    rw [UInt8.toNat_ofNat']; omega
  have e2 : by8 ((n : Int) / 2 ^ 0) = UInt8.ofNat n := by
    apply UInt8.toNat_inj.1
    have := by8_toNat ((n : Int) / 2 ^ 0)
    rw [UInt8.toNat_ofNat']; omega
  rw [e1, e2]
theorem put_unfit (n : Nat) (h : ¬ n ≤ 65535) : putL n 2 = [] ∧ putE n 2 = 1 := by
  have hf : ¬ fits n 2 = true := by
    simp only [fits, decide_eq_true_eq]
    intro h2
    have h3 : (n : Int) / 2 ^ 16 ≤ 0 := h2.2.2.2
    omega
  exact ⟨by rw [putL, if_neg hf], by rw [putE, if_neg hf]⟩

theorem bytes_same (a b : Option Addr) (n c d : Nat) (l : List UInt8) (w : World) (ha : RowB w a n l) (hb : RowB w b n l) (na : a = none → n = 0 ∧ c = 0) (nb : b = none → n = 0 ∧ d = 0) :
    Calls Try.prog 17 #[.slice a n c, .slice b n d] w fun e w' => e = .returned (.bool true) ∧ w = w' := by
  have h1 := conv_row (cap := c) ha na
  have h2 := conv_row (cap := d) hb nb
  obtain ⟨s, hs⟩ : ∃ s, bs l = s := ⟨_, rfl⟩
  rw [hs] at h1 h2
  clear ha hb na nb hs
  go_enter Try.func17, Try.ntmps17
  go_wp2
  go_ret
  exact ⟨rfl, rfl⟩

end Go.Proofs.Ytmhiglhgkgannaa
end

section
namespace Go.Proofs.Ytmhiglhgkgannaa
open Go.RowKit

theorem below_appD {w wr w' : World} {v : Value} {B n : Nat} {e : TypeId} {xs : List Value} {o : Obj} (hb : Below B w wr) (hB : B ≤ wr.heap.size) (hown : wr.ownsRow B e 1 v n xs) (hg : (wr.alloc o).drew.grownBy w' v.ownBlock) : Below B w w' :=
  ((hb.alloc hB o).drew).grown hg (by simp; omega) (fun k hk => (hown.lt k hk).1)
/-- append of a slice, wherever it lies, at an operation that stands behind a test. -/
theorem append_cells_g {w : World} {ops : Array Oper} {rest : List Oper} {o : Oper} {act : Act} {Q : Exit → Act → World → Prop} (hw : Region.wanted o (yielded ops act.tmps) = true) (s x : Operand) (t e : TypeId)
    (ho : o.op = .call { callee := .builtin .append, args := #[s, x], argTypes := #[t, t] })
    (i : TypeInfo) (z : Value) (bytes : Nat) (ht : Try.prog.underlying t = some (.slice e)) (hi : Try.prog.info? e = some i) (hz : i.zero = some z) (hsize : i.size = 1) (hby : i.bytes = bytes) (hzs : z.cells.size = 1)
    (B : Nat) (v : Value) (n : Nat) (xs : List Value) (hs : act.eval s = v) (hown : w.ownsRow B e 1 v n xs)
    (a : Option Addr) (len cap : Nat) (cs : List Value) (hx : act.eval x = .slice a len cap) (hn : a = none → len = 0 ∧ cap = 0) (hr : CellsAt w a len cs) (h1 : ∀ u ∈ cs, u.oneCell' = true)
    (hb : n + len ≤ 1000000) (hb2 : bytes ≤ 64) (hbase : B ≤ w.heap.size)
    (h : ∀ v' w', w'.ownsRow B e 1 v' (n + len) (xs ++ cs) → w.grownBy w' v.ownBlock → wpList Try.prog ops Q rest (act.put o.dst v') w') : wpList Try.prog ops Q (o :: rest) act w := by
  unfold wpList
  rw [if_pos hw]
  refine Or.inl ?_
  cases a with
  | none =>
    obtain ⟨rfl, rfl⟩ := hn rfl
    have hl : cs = [] := List.eq_nil_of_length_eq_zero hr.1
    subst hl
    have hrun := run_append_owned_none (P := Try.prog) (w := w) B t o.type e i 1 ht hi v n xs hown
    unfold Oper.wp
    simp [execOp, ho, resolve, invoke, builtin, hs, hx, hrun, Result.andThen]
    exact h v w (by simpa using hown) (World.grownBy.refl _ _)
  | some ad =>
    have hm : (n + len) * bytes ≤ 1000000 * 64 := Nat.mul_le_mul hb hb2
    refine wp_append_own w s x t ho B e i z 1 bytes ht hi hz hsize hby hzs (by decide) v n xs hs hown ad len cap cs hx (by rw [hr.1, Nat.mul_one]) ?_ h1 (by unfold maxLen; omega) (by omega) hbase (fun v' w' h1 h2 _ => h v' w' h1 h2)
    intro j u hj
    rcases hr.2 with h0 | ⟨b, off, hab, _, hc⟩
    · have h3 := hr.1
      have h4 := (List.getElem?_eq_some_iff.1 hj).1
      omega
    · simp only [Option.some.injEq] at hab
      subst hab
      rw [show (⟨b, off, none⟩ : Addr).add j = ⟨b, off + j, none⟩ by simp only [Addr.add]; split <;> simp_all]
      exact hc j u hj

/-- append of a slice, wherever it lies, in a region that draws. -/
theorem step_append_cells {w : World} {ops : Array Oper} {o : Oper} {act : Act} {K : Act → World → Prop} {Q : Exit → Act → World → Prop} {E : Prop} (hgd : o.guard = none) (s x : Operand) (t e : TypeId)
    (ho : o.op = .call { callee := .builtin .append, args := #[s, x], argTypes := #[t, t] })
    (i : TypeInfo) (z : Value) (bytes : Nat) (ht : Try.prog.underlying t = some (.slice e)) (hi : Try.prog.info? e = some i) (hz : i.zero = some z) (hsize : i.size = 1) (hby : i.bytes = bytes) (hzs : z.cells.size = 1)
    (B : Nat) (v : Value) (n : Nat) (xs : List Value) (hs : act.eval s = v) (hown : w.ownsRow B e 1 v n xs)
    (a : Option Addr) (len cap : Nat) (cs : List Value) (hx : act.eval x = .slice a len cap) (hn : a = none → len = 0 ∧ cap = 0) (hr : CellsAt w a len cs) (h1 : ∀ u ∈ cs, u.oneCell' = true)
    (hb : n + len ≤ 1000000) (hb2 : bytes ≤ 64) (hbase : B ≤ w.heap.size)
    (h : ∀ v' w', w'.ownsRow B e 1 v' (n + len) (xs ++ cs) → w.grownBy w' v.ownBlock → K (act.put o.dst v') w') : if Region.wanted o (yielded ops act.tmps) = true then Oper.wp Try.prog o act w K Q else E := by
  have hw : Region.wanted o (yielded ops act.tmps) = true := by simp [Region.wanted, hgd]
  rw [if_pos hw]
  cases a with
  | none =>
    obtain ⟨rfl, rfl⟩ := hn rfl
    have hl : cs = [] := List.eq_nil_of_length_eq_zero hr.1
    subst hl
    have hrun := run_append_owned_none (P := Try.prog) (w := w) B t o.type e i 1 ht hi v n xs hown
    unfold Oper.wp
    simp [execOp, ho, resolve, invoke, builtin, hs, hx, hrun, Result.andThen]
    exact h v w (by simpa using hown) (World.grownBy.refl _ _)
  | some ad =>
    have hm : (n + len) * bytes ≤ 1000000 * 64 := Nat.mul_le_mul hb hb2
    refine wp_append_own w s x t ho B e i z 1 bytes ht hi hz hsize hby hzs (by decide) v n xs hs hown ad len cap cs hx (by rw [hr.1, Nat.mul_one]) ?_ h1 (by unfold maxLen; omega) (by omega) hbase (fun v' w' h1 h2 _ => h v' w' h1 h2)
    intro j u hj
    rcases hr.2 with h0 | ⟨b, off, hab, _, hc⟩
    · have h3 := hr.1
      have h4 := (List.getElem?_eq_some_iff.1 hj).1
      omega
    · simp only [Option.some.injEq] at hab
      subst hab
      rw [show (⟨b, off, none⟩ : Addr).add j = ⟨b, off + j, none⟩ by simp only [Addr.add]; split <;> simp_all]
      exact hc j u hj

end Go.Proofs.Ytmhiglhgkgannaa
end

section
namespace Go.Proofs.Ytmhiglhgkgannaa
open Go.RowKit

/-- A slice's value reads as bytes. -/
def ValC (w : World) (u : Value) (m : List UInt8) : Prop := ∃ a c, u = .slice a m.length c ∧ m.length ≤ c ∧ RowB w a m.length m ∧ (a = none → m.length = 0 ∧ c = 0)
theorem ValC.below {w w' : World} {u : Value} {m : List UInt8} (h : ValC w u m) (hb : Below w.heap.size w w') : ValC w' u m := by
  obtain ⟨a, c, h1, h0, h2, h3⟩ := h
  exact ⟨a, c, h1, h0, CellsAt.below h2 hb, h3⟩
theorem ValC.b {w : World} {u : Value} {m : List UInt8} (h : ValC w u m) : ValB w u m := by
  obtain ⟨a, c, h1, _, h2, h3⟩ := h
  exact ⟨a, c, h1, h2, h3⟩
theorem ValC.own {w : World} {B n : Nat} {v : Value} {m : List UInt8} (h : w.ownsRow B 5 1 v n (bc m)) : ValC w v m := by
  obtain ⟨a, c, h1, h2, h3⟩ := ValB.own h
  refine ⟨a, c, h1, ?_, h2, h3⟩
  rcases h.2 with ⟨e, _⟩ | ⟨g, cap, cur, e, _, _, h4, _⟩
  · rw [e] at h1
    injection h1 with _ e1 e2
    omega
  · rw [e] at h1
    injection h1 with _ e1 e2
    omega
/-- The slices of a slice. -/
def RowBC (w : World) (a : Option Addr) (n : Nat) (M : List (List UInt8)) : Prop :=
  ∃ cs, CellsAt w a n cs ∧ M.length = n ∧ ∀ j u, cs[j]? = some u → ValC w u (M.getD j [])
theorem RowBC.below {w w' : World} {a : Option Addr} {n : Nat} {M : List (List UInt8)} (h : RowBC w a n M) (hb : Below w.heap.size w w') : RowBC w' a n M := by
  obtain ⟨cs, h1, h2, h3⟩ := h
  exact ⟨cs, h1.below hb, h2, fun j u hj => (h3 j u hj).below hb⟩
theorem RowBC.bb {w : World} {a : Option Addr} {n : Nat} {M : List (List UInt8)} (h : RowBC w a n M) : RowBB w a n M := by
  obtain ⟨cs, h1, h2, h3⟩ := h
  exact ⟨cs, h1, h2, fun j u hj => (h3 j u hj).b⟩
theorem RowBC.len {w : World} {a : Option Addr} {n : Nat} {M : List (List UInt8)} (h : RowBC w a n M) : M.length = n := h.choose_spec.2.1
theorem RowBC.at {w : World} {a : Option Addr} {n : Nat} {M : List (List UInt8)} (h : RowBC w a n M) (j : Nat) (hj : j < n) : ∃ b off ai ci, a = some ⟨b, off, none⟩ ∧ b < w.heap.size ∧ w.cell? ⟨b, off + j, none⟩ = some (.slice ai (M.getD j []).length ci) ∧ (M.getD j []).length ≤ ci ∧ RowB w ai (M.getD j []).length (M.getD j []) ∧ (ai = none → (M.getD j []).length = 0 ∧ ci = 0) := by
  obtain ⟨cs, h1, h2, h3⟩ := h
  have hl := h1.1
  rcases h1.2 with h0 | ⟨b, off, rfl, hlt, hc⟩
  · omega
  · obtain ⟨u, hu⟩ : ∃ u, cs[j]? = some u := ⟨cs[j]'(by omega), List.getElem?_eq_getElem (by omega)⟩
    obtain ⟨ai, ci, rfl, hm, hr, hn⟩ := h3 j u hu
    exact ⟨b, off, ai, ci, rfl, hlt, hc j _ hu, hm, hr, hn⟩

/-- What the reading of a slice of slices of bytes gives. -/
theorem open_rowsC {H : Type} {enc : TypeId × Value → H} {w : World} {base : Nat} {held : Bool} {fuel : Nat} {a : Option Addr} {len cap : Nat} {x : DataW H × List MemPlace} (h : DataW.trod enc Try.prog w base (fun _ => true) held fuel 85 (Value.slice a len cap).cells.toList = some x) :
    (a = none → len = 0 ∧ cap = 0) ∧ len ≤ maxLen ∧ ∃ M, RowBC w a len M ∧ ∀ m ∈ M, m.length ≤ maxLen := by
  rcases Go.Deep.open_int_rows Try.underlying85 Try.underlying40 Try.underlying5 (by kernel_rfl) (by kernel_rfl) h with ⟨hcs, _⟩ | ⟨a', len', cap', A, L, C, Z, hcs, _, hl, hm, _, hall⟩
  · simp [Value.cells] at hcs
    obtain ⟨rfl, rfl, rfl⟩ := hcs
    exact ⟨fun _ => ⟨rfl, rfl⟩, Nat.zero_le _, [], ⟨[], ⟨rfl, Or.inl rfl⟩, rfl, fun j u h => by simp at h⟩, by simp⟩
  · simp [Value.cells] at hcs
    obtain ⟨rfl, rfl, rfl⟩ := hcs
    refine ⟨(fun h => by cases h), by omega, (List.range len).map (fun r => ((Z r).take (L r)).map by8), ⟨(List.range len).map (fun r => Value.slice (A r) (L r) (C r)), ⟨by simp, ?_⟩, by simp, ?_⟩, ?_⟩
    · by_cases h0 : len = 0
      · exact Or.inl h0
      right
      obtain ⟨b, off, spot⟩ := a'
      have hc := (hall 0 (by omega)).1
      have hspot : spot = none := by simpa [Addr.add] using World.cell?_spot hc
      subst hspot
      refine ⟨b, off, rfl, ?_, fun j u hj => ?_⟩
      · have := block_lt_of_cell hc
        simpa [Addr.add] using this
      · have hj2 : j < len := by
          have := (List.getElem?_eq_some_iff.1 hj).1
          simpa using this
        have := (hall j (by omega)).1
        rw [show (⟨b, off, none⟩ : Addr).add j = ⟨b, off + j, none⟩ by simp only [Addr.add]; split <;> simp_all] at this
        rw [this]
        simp [hj2] at hj
        rw [hj]
    · intro j u hj
      have hj2 : j < len := by
        have := (List.getElem?_eq_some_iff.1 hj).1
        simpa using this
      simp [hj2] at hj
      subst hj
      obtain ⟨_, k1, k2, k3, k4, k5, k6⟩ := hall j (by omega)
      have hml : (((Z j).take (L j)).map by8).length = L j := by rw [List.length_map, List.length_take]; omega
      have e : ((List.range len).map (fun r => ((Z r).take (L r)).map by8)).getD j [] = ((Z j).take (L j)).map by8 := by
        rw [List.getD_eq_getElem?_getD]; simp [hj2]
      rw [e]
      refine ⟨A j, C j, by rw [hml], by rw [hml]; exact k1, ?_, fun hA => ?_⟩
      · rw [hml]
        refine ⟨by rw [bc_length, hml], ?_⟩
        by_cases h0 : L j = 0
        · exact Or.inl h0
        right
        cases hA : A j with
        | none => have := k5 hA; omega
        | some a2 =>
          obtain ⟨_, hc⟩ := k6 a2 hA
          obtain ⟨b2, off2, spot2⟩ := a2
          have hc0 := hc 0 (by omega)
          have hspot : spot2 = none := by simpa [Addr.add] using World.cell?_spot hc0
          subst hspot
          refine ⟨b2, off2, rfl, ?_, fun i x hi => ?_⟩
          · have := block_lt_of_cell hc0
            simpa [Addr.add] using this
          · have hi2 : i < L j := by
              have := (List.getElem?_eq_some_iff.1 hi).1
              rw [bc_length, hml] at this; exact this
            have := hc i (by omega)
            rw [show (⟨b2, off2, none⟩ : Addr).add i = ⟨b2, off2 + i, none⟩ by simp only [Addr.add]; split <;> simp_all] at this
            rw [this]
            have hz : i < (Z j).length := by omega
            have hwf := k4 (Z j)[i] (List.getElem_mem hz)
            have hb := by8_toNat (Z j)[i]
            have hr : 0 ≤ (Z j)[i] ∧ (Z j)[i] < 256 := by
              have := hwf
              simp [Lit.wf, IntKind.min, IntKind.max, IntKind.signed, IntKind.bits] at this
              omega
            rw [bc, List.getElem?_map, List.getElem?_map, List.getElem?_take, if_pos hi2, List.getElem?_eq_getElem hz] at hi
            simp only [Option.map_some, Option.some.injEq] at hi
            rw [← hi, hb, List.getD_eq_getElem?_getD, List.getElem?_eq_getElem hz]
            simp; omega
      · have := k5 hA
        rw [hml]; omega
    · intro m hm
      simp at hm
      obtain ⟨r, hr, rfl⟩ := hm
      obtain ⟨_, k1, k2, k3, _⟩ := hall r (by omega)
      simp; omega
end Go.Proofs.Ytmhiglhgkgannaa
end
