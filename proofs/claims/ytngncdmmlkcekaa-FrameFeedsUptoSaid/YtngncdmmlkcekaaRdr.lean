/- Contracts of frame.NewReader, Feed, Left (chapter 7), over this seat's translation. -/
import Derived.Test.YtngncdmmlkcekaaOwM
import Derived.Test.YtngncdmmlkcekaaFJo
namespace Go.Proofs.Ytngncdmmlkcekaa
open Go.RowKit

theorem wpList_append_mid {w : World} {ops : Array Oper} {rest : List Oper} {o : Oper} {act : Act} {Q : Exit → Act → World → Prop} (hgd : o.guard = none) (s x : Operand)
    (ho : o.op = .call { callee := .builtin .append, args := #[s, x], argTypes := #[43, 43] })
    (v : Value) (n : Nat) (l : List UInt8) (hs : act.eval s = v) (hown : OwnM w v n l) (a : Option Addr) (m c : Nat) (k : List UInt8) (hx : act.eval x = .slice a m c) (hr : RowB w a m k) (hn : a = none → m = 0 ∧ c = 0) (h63 : n + m ≤ 1000000)
    (h : ∀ v' w', OwnM w' v' (n + m) (l ++ k) → w.grownBy w' v.ownBlock → (v'.ownBlock = v.ownBlock ∨ v'.ownBlock = some w.heap.size) → wpList Try.prog ops Q rest (act.put o.dst v') w') : wpList Try.prog ops Q (o :: rest) act w := by
  refine wpList_plain hgd fun K hK => ?_
  obtain ⟨v', w', hrun, h1, h2, h3⟩ := run_append_mid o.type hown a m c hr hn h63
  unfold Oper.wp
  simp [execOp, ho, resolve, invoke, builtin, hs, hx, hrun, Result.andThen]
  exact hK _ _ (h v' w' h1 h2 h3)

/-- A reader: its limit, what it had, what is left. -/
def RdrAt (w : World) (P : Nat) (m h : Int) (v : Value) : Prop :=
  w.cell? ⟨P, 0, none⟩ = some (.int .i64 m) ∧ w.cell? ⟨P, 1, none⟩ = some (.int .i64 h) ∧ w.cell? ⟨P, 2, none⟩ = some v ∧ w.frozen? ⟨P, 1, none⟩ = false ∧ w.frozen? ⟨P, 2, none⟩ = false
theorem RdrAt.kept {w w' : World} {P : Nat} {m h : Int} {v : Value} (hr : RdrAt w P m h v) (hk : w'.heap[P]? = w.heap[P]?) : RdrAt w' P m h v := by
  obtain ⟨h1, h2, h3, h4, h5⟩ := hr
  exact ⟨(World.cell?_of_block (w := w) hk).trans h1, (World.cell?_of_block (w := w) hk).trans h2, (World.cell?_of_block (w := w) hk).trans h3, (World.frozen?_of_block (w := w) hk).trans h4, (World.frozen?_of_block (w := w) hk).trans h5⟩
theorem RdrAt.lt {w : World} {P : Nat} {m h : Int} {v : Value} (hr : RdrAt w P m h v) : P < w.heap.size := block_lt_of_cell hr.1
theorem RdrAt.had {w : World} {P : Nat} {m h : Int} {v : Value} (hr : RdrAt w P m h v) (h' : Int) : RdrAt (w.setCell ⟨P, 1, none⟩ (.int .i64 h')) P m h' v := by
  obtain ⟨h1, h2, h3, h4, h5⟩ := hr
  exact ⟨by rw [World.cell?_setCell_other _ _ _ _ (by simp)]; exact h1, World.cell?_setCell_same _ _ _ h2, by rw [World.cell?_setCell_other _ _ _ _ (by simp)]; exact h3, by simpa using h4, by simpa using h5⟩
theorem RdrAt.left {w : World} {P : Nat} {m h : Int} {v : Value} (hr : RdrAt w P m h v) (v' : Value) : RdrAt (w.setCell ⟨P, 2, none⟩ v') P m h v' := by
  obtain ⟨h1, h2, h3, h4, h5⟩ := hr
  exact ⟨by rw [World.cell?_setCell_other _ _ _ _ (by simp)]; exact h1, by rw [World.cell?_setCell_other _ _ _ _ (by simp)]; exact h2, World.cell?_setCell_same _ _ _ h3, by simpa using h4, by simpa using h5⟩
/-- All is as it was, but for one block, and perhaps another. -/
structure But (w w' : World) (P : Nat) (go : Option Nat) : Prop where
  os : w'.os = w.os
  tape : w'.tape = w.tape
  output : w'.output = w.output
  size : w.heap.size ≤ w'.heap.size
  block : ∀ k, k < w.heap.size → k ≠ P → some k ≠ go → w'.heap[k]? = w.heap[k]?
theorem But.refl (w : World) (P : Nat) (go : Option Nat) : But w w P go := ⟨rfl, rfl, rfl, Nat.le_refl _, fun _ _ _ _ => rfl⟩
theorem But.set {w w' : World} {P : Nat} {go : Option Nat} (h : But w w' P go) (i : Nat) (v : Value) : But w (w'.setCell ⟨P, i, none⟩ v) P go :=
  have hb := (Below.refl 0 w').setCell (p := ⟨P, i, none⟩) (Nat.zero_le _) v
  ⟨hb.os.trans h.os, hb.tape.trans h.tape, hb.output.trans h.output, Nat.le_trans h.size hb.size, fun k hk h1 h2 => by rw [Below.heap_setCell _ _ _ _ h1]; exact h.block k hk h1 h2⟩
theorem But.grow {w w' w2 : World} {P : Nat} {go : Option Nat} (h : But w w' P go) {row : Option Nat} (hg : w'.grownBy w2 row) (hrow : row = go ∨ ∀ k, row = some k → w.heap.size ≤ k) : But w w2 P go :=
  ⟨hg.os.trans h.os, hg.tape.trans h.tape, hg.output.trans h.output, Nat.le_trans h.size hg.size, fun k hk h1 h2 => by
    rw [hg.block k (Nat.lt_of_lt_of_le hk h.size) (by rcases hrow with e | e; rw [e]; exact h2; intro e2; have := e k e2.symm; omega)]
    exact h.block k hk h1 h2⟩
theorem But.below {w w' w2 : World} {P : Nat} {go : Option Nat} (h : But w w' P go) {B : Nat} (hb : Below B w' w2) (hB : w.heap.size ≤ B) : But w w2 P go :=
  ⟨hb.os.trans h.os, hb.tape.trans h.tape, hb.output.trans h.output, Nat.le_trans h.size hb.size, fun k hk h1 h2 => by rw [hb.block k (by omega)]; exact h.block k hk h1 h2⟩
theorem grown_set (w : World) (P i : Nat) (v : Value) : w.grownBy (w.setCell ⟨P, i, none⟩ v) (some P) :=
  have hb := (Below.refl 0 w).setCell (p := ⟨P, i, none⟩) (Nat.zero_le _) v
  ⟨hb.os, hb.tape, hb.output, hb.size, fun k _ hne => Below.heap_setCell _ _ _ _ (fun e => hne (by rw [e]))⟩
theorem OwnF.other {w w' : World} {B P : Nat} {v : Value} {M : List (List UInt8)} (h : OwnF w B v M) (hg : w.grownBy w' (some P)) (hP : P < B) : OwnF w' B v M := by
  have key : ∀ {e : TypeId} {u : Value} {n : Nat} {xs : List Value}, w.ownsRow B e 1 u n xs → w'.ownsRow B e 1 u n xs := by
    intro e u n xs h1
    refine h1.kept hg ?_
    cases hu : u.ownBlock with
    | none => exact Or.inl rfl
    | some x =>
      right
      intro e2
      have := (h1.lt x hu).1
      have e3 := Option.some.inj e2
      omega
  obtain ⟨xs, h1, h2⟩ := h
  exact ⟨xs, key h1, fun j u hj => key (h2 j u hj)⟩
theorem sumL_flat (M : List (List UInt8)) : M.flatten.length = sumL M := by
  induction M with
  | nil => rfl
  | cons m M ih => rw [List.flatten_cons, List.length_append, ih, sumL_cons]
theorem flat_take {M : List (List UInt8)} {k : Nat} (hk : k < M.length) : (M.take (k + 1)).flatten = (M.take k).flatten ++ M.getD k [] := by
  rw [List.take_succ_eq_append_getElem hk, List.flatten_append, List.getD_eq_getElem?_getD, List.getElem?_eq_getElem hk]
  simp

set_option maxRecDepth 100000 in
theorem newReader_any (m : Int) (w : World) : Calls Try.prog 48 #[.int .i64 m] w fun e w' => ∃ P, e = .returned (.pointer (some ⟨P, 0, none⟩)) ∧ w.heap.size ≤ P ∧ RdrAt w' P m 0 (.slice none 0 0) ∧ Below w.heap.size w w' := by
  go_enter Try.func48, Try.ntmps48
  go_wp2
  go_ret
  refine ⟨_, rfl, Nat.le_refl _, ⟨?_, ?_, ?_, ?_, ?_⟩, (Below.refl _ _).alloc (Nat.le_refl _) _⟩ <;> simp [World.cell?_alloc_at, World.frozen?_alloc_new]

set_option maxRecDepth 100000 in
theorem left_any (P : Nat) (m h : Int) (a : Option Addr) (n c : Nat) (w : World) (hr : RdrAt w P m h (.slice a n c)) : Calls Try.prog 52 #[.pointer (some ⟨P, 0, none⟩)] w fun e w' => e = .returned (.int .i64 n) ∧ w = w' := by
  obtain ⟨h1, h2, h3, h4, h5⟩ := hr
  go_enter Try.func52, Try.ntmps52
  go_wp2
  go_ret
  exact ⟨rfl, rfl⟩

/-- What comes in, wherever it lies, reads on. -/
def Stays (w : World) (P : Nat) (go : Option Nat) (pl : Option Addr) (nl : Nat) (M : List (List UInt8)) : Prop := ∀ wx, But w wx P go → RowBB wx pl nl M

set_option maxRecDepth 100000 in
set_option maxHeartbeats 3200000 in
theorem feed_over (P : Nat) (m h : Int) (v : Value) (pl : Option Addr) (nl cl : Nat) (M : List (List UInt8)) (w : World) (hr : RdrAt w P m h v) (hst : Stays w P v.ownBlock pl nl M) (h0 : 0 ≤ h) (hs : h + sumL M ≤ 9223372036854775807) (hnl : nl ≤ 1000) (hover : m < h + sumL M) :
    Calls Try.prog 50 #[.pointer (some ⟨P, 0, none⟩), .slice pl nl cl] w fun e w' => e = .returned (.tuple #[.slice none 0 0, .int .i64 13]) ∧ RdrAt w' P m (h + sumL M) (.slice none 0 0) ∧ But w w' P v.ownBlock := by
  have HST := Lib.hid hst
  have HML := Lib.hid (show M.length = nl by obtain ⟨_, _, h2, _⟩ := hst w (But.refl _ _ _); exact h2)
  have HR := Lib.hid hr
  have HSL := Lib.hid (sum_le M)
  clear hr hst
  go_enter Try.func50, Try.ntmps50
  go_wp2_with fail
  go_loopw [14] (fun i wr => ∃ k S : Nat, k ≤ nl ∧ i = .int .i64 k ∧ Hid (S = sumL (M.take k)) ∧ RdrAt wr P m (h + S) v ∧ But w wr P v.ownBlock) (fun i _ => nl - (intOf i).toNat)
  case atStart => exact ⟨0, 0, Nat.zero_le _, rfl, rfl, by simpa using HR.out, But.refl _ _ _⟩
  case round =>
    obtain ⟨k, S, hk, rfl, hS, hra, hbut⟩ := hrel
    have HRA := Lib.hid hra
    have HBT := Lib.hid hbut
    obtain ⟨q1, q2, q3, q4, q5⟩ := hra
    have hSle := HSL.out k
    rw [← hS.out] at hSle
    clear hbut
    by_cases hlt : k < nl
    · obtain ⟨b1, o1, ai, ci, rfl, hbl1, c0, r1, n1⟩ := (HST.out wr HBT.out).at k hlt
      have hst := sum_take (M := M) (k := k) (by rw [HML.out]; exact hlt)
      have hSle2 := HSL.out (k + 1)
      obtain ⟨s, hs2⟩ : ∃ s, (M.getD k []).length = s := ⟨_, rfl⟩
      rw [hs2] at c0 hst
      rw [hst, ← hS.out] at hSle2
      rw [← hS.out] at hst
      have HS2 := Lib.hid hst.symm
      clear r1 n1 hst hs2
      go_wp2
      go_roundw
      case rel => exact ⟨k + 1, S + s, by omega, by go_num, HS2.out, by have := HRA.out.had (h + S + s); rw [show h + ((S + s : Nat) : Int) = h + S + s by omega]; exact this, HBT.out.set 1 _⟩
      case measure => simp [intOf]; omega
    · have hkn : k = nl := by omega
      subst hkn
      have hSM : S = sumL M := by rw [hS.out, ← HML.out, List.take_length]
      subst hSM
      have d1 := dT hover
      clear hlt hS hSle
      go_wp2_with fail
      go_quiet (fail)
      rename_i nq
      have hbl := below_drewN (Below.refl (P + 1) wr) nq
      have HRA9 := Lib.hid (HRA.out.kept (hbl.block P (by omega)))
      have HBT9 := Lib.hid (HBT.out.below (below_drewN (Below.refl w.heap.size wr) nq) (Nat.le_refl _))
      obtain ⟨w9, hw9⟩ : ∃ w9, wr.drewN nq = w9 := ⟨_, rfl⟩
      rw [hw9] at HRA9 HBT9
      rw [hw9]
      clear hw9 hbl q1 q2 q3 q4 q5 HRA HBT
      obtain ⟨q1, q2, q3, q4, q5⟩ := HRA9.out
      go_wp2
      go_ret2
      exact ⟨rfl, HRA9.out.left _, HBT9.out.set 2 _⟩

set_option maxRecDepth 100000 in
set_option maxHeartbeats 6400000 in
theorem feed_ok (P : Nat) (m : Int) (h : Nat) (v : Value) (n : Nat) (lb : List UInt8) (pl : Option Addr) (nl cl : Nat) (M : List (List UInt8)) (w : World) (hr : RdrAt w P m h v) (hown : OwnM w v n lb) (hvP : v.ownBlock ≠ some P) (hst : Stays w P v.ownBlock pl nl M) (hnh : n ≤ h) (hnl : nl ≤ 1000) (hover : ¬ m < (h : Int) + sumL M) (hsm : h + sumL M ≤ 300000) :
    Calls Try.prog 50 #[.pointer (some ⟨P, 0, none⟩), .slice pl nl cl] w fun e w' => ∃ rv v' n' B, e = .returned (.tuple #[rv, .int .i64 0]) ∧ RdrAt w' P m ((h + sumL M : Nat) : Int) v' ∧ OwnM w' v' n' ((lb ++ M.flatten).drop (TK (lb ++ M.flatten)).2) ∧ OwnF w' B rv (TK (lb ++ M.flatten)).1 ∧ But w w' P v.ownBlock ∧ w.heap.size ≤ B ∧ (∀ g, v'.ownBlock = some g → g < B) ∧ v'.ownBlock ≠ some P ∧ (v'.ownBlock = v.ownBlock ∨ ∀ g, v'.ownBlock = some g → w.heap.size ≤ g) := by
  have HST := Lib.hid hst
  have HML := Lib.hid (show M.length = nl by obtain ⟨_, _, h2, _⟩ := hst w (But.refl _ _ _); exact h2)
  have HR := Lib.hid hr
  have HSL := Lib.hid (sum_le M)
  have HOV := Lib.hid hover
  have HOW := Lib.hid hown
  have HVP := Lib.hid hvP
  have hPw := hr.lt
  clear hr hst hown hvP
  go_enter Try.func50, Try.ntmps50
  go_wp2_with fail
  go_loopw [14] (fun i wr => ∃ k S : Nat, k ≤ nl ∧ i = .int .i64 k ∧ Hid (S = sumL (M.take k)) ∧ RdrAt wr P m ((h + S : Nat) : Int) v ∧ But w wr P (some P)) (fun i _ => nl - (intOf i).toNat)
  case atStart => exact ⟨0, 0, Nat.zero_le _, rfl, rfl, HR.out, But.refl _ _ _⟩
  case round =>
    obtain ⟨k, S, hk, rfl, hS, hra, hbut⟩ := hrel
    have HRA := Lib.hid hra
    have HBT := Lib.hid hbut
    have HBV := Lib.hid (show But w wr P v.ownBlock from ⟨hbut.os, hbut.tape, hbut.output, hbut.size, fun q h1 h2 h3 => hbut.block q h1 h2 (fun e => h2 (by simpa using e))⟩)
    have HH := Lib.hid (show ∃ hh : Nat, h + S = hh from ⟨_, rfl⟩)
    obtain ⟨hh, hhe⟩ := HH.out
    rw [hhe] at HRA
    obtain ⟨q1, q2, q3, q4, q5⟩ := HRA.out
    have hSle := HSL.out k
    rw [← hS.out] at hSle
    clear hbut hra HH
    by_cases hlt : k < nl
    · obtain ⟨b1, o1, ai, ci, rfl, hbl1, c0, r1, n1⟩ := (HST.out wr HBV.out).at k hlt
      have hst := sum_take (M := M) (k := k) (by rw [HML.out]; exact hlt)
      have hSle2 := HSL.out (k + 1)
      obtain ⟨s, hs2⟩ : ∃ s, (M.getD k []).length = s := ⟨_, rfl⟩
      rw [hs2] at c0 hst
      rw [hst, ← hS.out] at hSle2
      rw [← hS.out] at hst
      have HS2 := Lib.hid hst.symm
      have hb9 : hh + s ≤ 300000 := by omega
      have HE := Lib.hid hhe
      clear r1 n1 hst hs2 hhe
      go_wp2
      go_roundw
      case rel => exact ⟨k + 1, S + s, by omega, by go_num, HS2.out, by have := HRA.out.had ((hh : Int) + s); rw [show ((h + (S + s) : Nat) : Int) = (hh : Int) + s by have := HE.out; omega]; exact this, HBT.out.set 1 _⟩
      case measure => simp [intOf]; omega
    · have hkn : nl = k := by omega
      subst hkn
      have hSM : S = sumL M := by rw [hS.out, ← HML.out, List.take_length]
      subst hSM
      have d1 : decide (m < (hh : Int)) = false := dF (by have := HOV.out; omega)
      have HHE := Lib.hid hhe
      clear hlt hS hSle hhe
      go_wp2_with fail
      go_quiet (fail)
      rename_i nq
      have hbl := below_drewN (Below.refl (P + 1) wr) nq
      have hszq := HBT.out.size
      have HRA9 := Lib.hid (HRA.out.kept (hbl.block P (by omega)))
      have HBT9 := Lib.hid (HBV.out.below (below_drewN (Below.refl w.heap.size wr) nq) (Nat.le_refl _))
      have HOW9 := Lib.hid (show OwnM (wr.drewN nq) v n lb from HOW.out.kept HBT9.out.size (fun g hg => by
        have hgw : g < w.heap.size := by
          rcases HOW.out.2 with ⟨e, _⟩ | ⟨g', _, _, e, e2, _⟩
          · rw [e] at hg; cases hg
          · rw [e] at hg; simp [Value.ownBlock] at hg; omega
        rw [(below_drewN (Below.refl w.heap.size wr) nq).block g hgw]
        exact HBT.out.block g hgw (fun e => HVP.out (by rw [hg, e])) (fun e => HVP.out (by rw [hg, Option.some.inj e]))))
      obtain ⟨w9, hw9⟩ : ∃ w9, wr.drewN nq = w9 := ⟨_, rfl⟩
      rw [hw9] at HRA9 HBT9 HOW9
      rw [hw9]
      clear hw9 hbl q1 q2 q3 q4 q5 HRA HBT HBV hszq
      go_wp2_with fail
      go_loopw [42] (fun i wr => ∃ (k : Nat) (v' : Value) (n' : Nat), k ≤ nl ∧ i = .int .i64 k ∧ RdrAt wr P m hh v' ∧ OwnM wr v' n' (lb ++ (M.take k).flatten) ∧ n' ≤ h + sumL (M.take k) ∧ But w wr P v.ownBlock ∧ (v'.ownBlock = v.ownBlock ∨ ∀ g, v'.ownBlock = some g → w.heap.size ≤ g)) (fun i _ => nl - (intOf i).toNat)
      case atStart => exact ⟨0, v, n, Nat.zero_le _, rfl, HRA9.out, by simpa using HOW9.out, by omega, HBT9.out, Or.inl rfl⟩
      case round =>
        obtain ⟨k, v', n', hk, rfl, hra, how, hn', hbut, hvv⟩ := hrel
        have HRA := Lib.hid hra
        have HOM := Lib.hid how
        have HBT := Lib.hid hbut
        have HVV := Lib.hid hvv
        have hszq := hbut.size
        have hSle := HSL.out k
        have HVP2 := Lib.hid (show v'.ownBlock ≠ some P from fun e => by
          rcases hvv with h1 | h1
          · exact HVP.out (by rw [← h1, e])
          · have := h1 P e; omega)
        clear hbut how hvv
        by_cases hlt : k < nl
        · obtain ⟨b1, o1, ai, ci, rfl, hbl1, c0, r1, n1⟩ := (HST.out wr HBT.out).at k hlt
          have hst := sum_take (M := M) (k := k) (by rw [HML.out]; exact hlt)
          have HFL := Lib.hid (flat_take (M := M) (k := k) (by rw [HML.out]; exact hlt))
          have hSle2 := HSL.out (k + 1)
          have HR1 := Lib.hid r1
          have HN1 := Lib.hid n1
          obtain ⟨pc, hpc⟩ : ∃ p, M.getD k [] = p := ⟨_, rfl⟩
          rw [hpc] at c0 hst HR1 HN1 HFL
          obtain ⟨s, hs2⟩ : ∃ s, pc.length = s := ⟨_, rfl⟩
          rw [hs2] at c0 hst HR1 HN1
          have hb8 : n' + s ≤ 300000 := by omega
          have hb7 : n' + s ≤ h + sumL (M.take (k + 1)) := by omega
          have HB7 := Lib.hid hb7
          obtain ⟨q1, q2, q3, q4, q5⟩ := HRA.out
          clear r1 n1 hst hs2 hpc hb7 hSle2 hSle hn'
          go_wp2_with (first | (at_builtin; refine wpList_append_mid rfl _ _ rfl v' n' _ rfl HOM.out ai s ci pc rfl HR1.out HN1.out (by omega) ?_))
          intro v2 w2 how2 hgr2 hv2
          obtain ⟨a2, c2, hve, _⟩ := how2.row
          subst hve
          have hPlt : P < wr.heap.size := HRA.out.lt
          have HRA2 := Lib.hid (HRA.out.kept (hgr2.block P hPlt (fun e => HVP2.out e.symm)))
          have HBT2 := Lib.hid (HBT.out.grow hgr2 HVV.out)
          have HV2 := Lib.hid (show (Value.slice a2 (n' + s) c2).ownBlock = v.ownBlock ∨ ∀ g, (Value.slice a2 (n' + s) c2).ownBlock = some g → w.heap.size ≤ g by
            rcases hv2 with e | e
            · rw [e]; exact HVV.out
            · right; intro g hg; rw [e] at hg; have := Option.some.inj hg; omega)
          have HVP3 := Lib.hid (show (Value.slice a2 (n' + s) c2).ownBlock ≠ some P from fun e => by
            rcases hv2 with e2 | e2
            · exact HVP2.out (by rw [← e2, e])
            · rw [e2] at e; have := Option.some.inj e; omega)
          have HOM2 := Lib.hid (show OwnM (w2.setCell ⟨P, 2, none⟩ (.slice a2 (n' + s) c2)) (.slice a2 (n' + s) c2) (n' + s) (lb ++ (M.take (k + 1)).flatten) from by
            rw [HFL.out]
            exact how2.kept ((Below.refl 0 w2).setCell (p := ⟨P, 2, none⟩) (Nat.zero_le _) (.slice a2 (n' + s) c2)).size (fun g hg => Below.heap_setCell _ _ _ _ (fun e => HVP3.out (by rw [hg, e]))))
          clear how2 hgr2 hv2 q1 q2 q3 q4 q5 HRA HBT HOM
          obtain ⟨q1, q2, q3, q4, q5⟩ := HRA2.out
          go_wp2
          go_roundw
          case rel => exact ⟨k + 1, .slice a2 (n' + s) c2, n' + s, by omega, by go_num, HRA2.out.left _, HOM2.out, HB7.out, HBT2.out.set 2 _, HV2.out⟩
          case measure => simp [intOf]; omega
        · have hkn : nl = k := by omega
          subst hkn
          have hT : M.take nl = M := by rw [← HML.out]; exact List.take_length
          rw [hT] at HOM hn'
          obtain ⟨a', c', rfl, hrow, hnn, hnc, hcm⟩ := HOM.out.row
          have hn3 : n' ≤ 400000 := by omega
          have ht := take7 a' n' c' (lb ++ M.flatten) wr hrow hn3 hcm hnc
          obtain ⟨L, hL⟩ : ∃ L, lb ++ M.flatten = L := ⟨_, rfl⟩
          rw [hL] at ht HOM
          have HLe := Lib.hid hL
          have hLn : L.length = n' := HOM.out.1
          have hte := TK_le L
          obtain ⟨te, hte2⟩ : ∃ x, (TK L).2 = x := ⟨_, rfl⟩
          obtain ⟨tm, htm⟩ : ∃ x, (TK L).1 = x := ⟨_, rfl⟩
          rw [hte2, htm] at ht
          rw [hte2] at hte
          rw [hLn] at hte
          have HT := Lib.hid ht
          have HTE := Lib.hid hte2
          have HTM := Lib.hid htm
          have HN' := Lib.hid hn'
          have HHE2 := HHE
          obtain ⟨q1, q2, q3, q4, q5⟩ := HRA.out
          have hPlt : P < wr.heap.size := HRA.out.lt
          clear hT hrow ht hL hLn hte2 htm hn' hSle
          go_wp2_with fail
          refine HT.out.mono ?_; rintro e w5 ⟨v5, rfl, hof, hb⟩
          have HF5 := Lib.hid hof
          have HRA5 := Lib.hid (HRA.out.kept (hb.block P hPlt))
          have HBT5 := Lib.hid (HBT.out.below hb hszq)
          have hsw := hb.size
          have HOM5 := Lib.hid (HOM.out.kept hb.size (fun g hg => by
            have hgw : g < wr.heap.size := by
              rcases HOM.out.2 with ⟨e, _⟩ | ⟨g', _, _, e, e2, _⟩
              · rw [e] at hg; cases hg
              · rw [e] at hg; simp [Value.ownBlock] at hg; omega
            exact hb.block g hgw))
          have HGL := Lib.hid (show ∀ g, (Value.slice a' n' c').ownBlock = some g → g < wr.heap.size from fun g hg => by
            rcases HOM.out.2 with ⟨e, _⟩ | ⟨g', _, _, e, e2, _⟩
            · rw [e] at hg; cases hg
            · rw [e] at hg; simp [Value.ownBlock] at hg; omega)
          clear hof hb q1 q2 q3 q4 q5 HRA HBT HOM HT
          obtain ⟨q1, q2, q3, q4, q5⟩ := HRA5.out
          rcases HOM5.out.2 with ⟨e0, e1⟩ | ⟨g, off, cap, e0, hgl, hnc2, _, _, _⟩
          · injection e0 with f1 f2 f3
            subst f1 f2 f3
            obtain rfl : te = 0 := by omega
            have hL0 : L = [] := List.eq_nil_of_length_eq_zero HOM5.out.1
            go_wp2
            go_ret2
            rw [HLe.out, HTE.out, HTM.out, List.drop_zero, hL0]
            exact ⟨v5, .slice none 0 0, 0, wr.heap.size, rfl, by have := HRA5.out.left (.slice none 0 0); rw [← HHE2.out] at this; exact this, OwnM.nil _, HF5.out.other (grown_set _ _ _ _) hPlt, HBT5.out.set 2 _, hszq, (fun g hg => by cases hg), (fun h => by cases h), Or.inr (fun g hg => by cases hg)⟩
          · injection e0 with f1 f2 f3
            subst f1 f3
            have hcm' := hcm
            unfold maxLen at hcm'
            have hgP : g ≠ P := fun e => HVP2.out (by rw [← e]; rfl)
            by_cases hce : c' = te
            · subst hce
              obtain rfl : n' = c' := by omega
              have HOMc := Lib.hid (show OwnM (w5.setCell ⟨P, 2, none⟩ (.slice (some ⟨g, off, none⟩) 0 0)) (.slice (some ⟨g, off, none⟩) 0 0) 0 (L.drop n') from by
                rw [List.drop_of_length_le (by rw [HOM5.out.1]; exact Nat.le_refl _)]
                exact ⟨rfl, Or.inr ⟨g, off, 0, rfl, Nat.lt_of_lt_of_le hgl ((Below.refl 0 w5).setCell (p := ⟨P, 2, none⟩) (Nat.zero_le _) _).size, Nat.le_refl _, Nat.zero_le _, fun j u hj => by simp [bc] at hj, fun j hj => absurd hj (by omega)⟩⟩)
              go_wp2
              go_ret2
              rw [HLe.out, HTE.out, HTM.out]
              exact ⟨v5, .slice (some ⟨g, off, none⟩) 0 0, 0, wr.heap.size, rfl, by have := HRA5.out.left (.slice (some ⟨g, off, none⟩) 0 0); rw [← HHE2.out] at this; exact this, HOMc.out, HF5.out.other (grown_set _ _ _ _) hPlt, HBT5.out.set 2 _, hszq, HGL.out, HVP2.out, HVV.out⟩
            · have hlt9 : te < c' := by omega
              have HOMc := Lib.hid ((HOM5.out.cut te hte hlt9).kept (w' := w5.setCell ⟨P, 2, none⟩ (.slice (some ⟨g, off + te, none⟩) (n' - te) (c' - te))) ((Below.refl 0 w5).setCell (p := ⟨P, 2, none⟩) (Nat.zero_le _) _).size (fun q hq => Below.heap_setCell _ _ _ _ (fun e => hgP ((show g = q by simpa [Value.ownBlock] using hq).trans e))))
              go_wp2
              go_ret2
              rw [HLe.out, HTE.out, HTM.out]
              exact ⟨v5, .slice (some ⟨g, off + te, none⟩) (n' - te) (c' - te), n' - te, wr.heap.size, rfl, by have := HRA5.out.left (.slice (some ⟨g, off + te, none⟩) (n' - te) (c' - te)); rw [← HHE2.out] at this; exact this, HOMc.out, HF5.out.other (grown_set _ _ _ _) hPlt, HBT5.out.set 2 _, hszq, HGL.out, HVP2.out, HVV.out⟩
end Go.Proofs.Ytngncdmmlkcekaa
