/- Contracts of the document's reader (chapter 7): rhzref5.NewFrame, Feed, Left. -/
import Derived.Test.YtngncdmmlkcekaaFPd
namespace Go.Proofs.Ytngncdmmlkcekaa
open Go.RowKit

theorem step_append_mid {w : World} {ops : Array Oper} {o : Oper} {act : Act} {K : Act → World → Prop} {Q : Exit → Act → World → Prop} {E : Prop} (hgd : o.guard = none) (s x : Operand)
    (ho : o.op = .call { callee := .builtin .append, args := #[s, x], argTypes := #[43, 43] })
    (v : Value) (n : Nat) (l : List UInt8) (hs : act.eval s = v) (hown : OwnM w v n l) (a : Option Addr) (m c : Nat) (k : List UInt8) (hx : act.eval x = .slice a m c) (hr : RowB w a m k) (hn : a = none → m = 0 ∧ c = 0) (h63 : n + m ≤ 1000000)
    (h : ∀ v' w', OwnM w' v' (n + m) (l ++ k) → w.grownBy w' v.ownBlock → (v'.ownBlock = v.ownBlock ∨ v'.ownBlock = some w.heap.size) → K (act.put o.dst v') w') : if Region.wanted o (yielded ops act.tmps) = true then Oper.wp Try.prog o act w K Q else E := by
  have hw : Region.wanted o (yielded ops act.tmps) = true := by simp [Region.wanted, hgd]
  rw [if_pos hw]
  obtain ⟨v', w', hrun, h1, h2, h3⟩ := run_append_mid o.type hown a m c hr hn h63
  unfold Oper.wp
  simp [execOp, ho, resolve, invoke, builtin, hs, hx, hrun, Result.andThen]
  exact h v' w' h1 h2 h3
theorem OwnM.drew {w : World} {v : Value} {n : Nat} {l : List UInt8} (h : OwnM w v n l) : OwnM w.drew v n l := h.kept (Nat.le_refl _) (fun _ _ => rfl)
/-- What a call made of its own may be appended to. -/
theorem OwnM.ofOwn {w : World} {B : Nat} {v : Value} {n : Nat} {l : List UInt8} (h : w.ownsRow B 5 1 v n (bc l)) : OwnM w v n l := by
  have hl : l.length = n := by have := h.1; rw [bc_length] at this; omega
  refine ⟨hl, ?_⟩
  rcases h.2 with ⟨e1, e2⟩ | ⟨g, cap, cur, e1, hB, hg, hnc, hcm, hcs, htk⟩
  · exact Or.inl ⟨e1, e2⟩
  · refine Or.inr ⟨g, 0, cap, e1, (Array.getElem?_eq_some_iff.1 hg).1, hnc, hcm, fun j u hj => ?_, fun j hj => ?_⟩
    · have := h.cells (g := g) (by rw [e1]; rfl) j u hj
      rwa [Addr.add_mid] at this
    · have h4 : j < cur.size := by omega
      refine ⟨?_, ?_⟩
      · simp [World.cell?, hg, h4]
      · simp [World.frozen?, hg]
/-- b[l:]. -/
theorem slice_tail (av : Option Addr) (n cap l : Nat) (hav : av = none ∧ n = 0 ∧ cap = 0 ∨ ∃ β off, av = some ⟨β, off, none⟩) (h1 : l ≤ n) (h2 : n ≤ cap) :
    ∃ ad : Option Addr, (∀ W, (Instr.slice 43 (.slice av n cap) (some (.int .i64 (l : Int))) none none).run Try.prog W = .ok (.slice ad (n - l) (cap - l)) W) ∧ (ad = none → n - l = 0 ∧ cap - l = 0) ∧ (l < n → ∀ β off, av = some ⟨β, off, none⟩ → ad = some ⟨β, off + l, none⟩) := by
  obtain ⟨i0, hi, hz0, hz1, hz2⟩ := info_parts infoU8
  have he : Try.prog.elem 43 = 5 := by simp [Program.elem, Try.underlying43]
  have hu : Try.prog.underlying 43 = some (.slice (Try.prog.elem 43)) := by rw [he]; exact Try.underlying43
  refine ⟨if cap = l then av else av.map (·.add (l * 1)), fun W => ?_, fun h3 => ?_, fun h3 β off h4 => ?_⟩
  · rw [run_slice_l (P := Try.prog) (w := W) 43 av n cap hu .i64 (l : Int) (by omega) (by omega), he]
    simp [sizeOf, typeInfo, hi, hz1, Result.andThen, sliced]
  · rcases hav with ⟨rfl, rfl, rfl⟩ | ⟨β, off, rfl⟩
    · omega
    · split at h3 <;> simp at h3
  · subst h4
    rw [if_neg (by omega), Option.map_some, Addr.add_mid, Nat.mul_one]

/-- The document's reader: its limit, what it had, what is left, whether it had too much. -/
def RfrAt (w : World) (P : Nat) (m h : Int) (v : Value) (o : Bool) : Prop :=
  w.cell? ⟨P, 0, none⟩ = some v ∧ w.cell? ⟨P, 1, none⟩ = some (.int .i64 h) ∧ w.cell? ⟨P, 2, none⟩ = some (.int .i64 m) ∧ w.cell? ⟨P, 3, none⟩ = some (.bool o) ∧ w.frozen? ⟨P, 0, none⟩ = false ∧ w.frozen? ⟨P, 1, none⟩ = false ∧ w.frozen? ⟨P, 3, none⟩ = false
theorem RfrAt.kept {w w' : World} {P : Nat} {m h : Int} {v : Value} {o : Bool} (hr : RfrAt w P m h v o) (hk : w'.heap[P]? = w.heap[P]?) : RfrAt w' P m h v o := by
  obtain ⟨h1, h2, h3, h4, h5, h6, h7⟩ := hr
  exact ⟨(World.cell?_of_block (w := w) hk).trans h1, (World.cell?_of_block (w := w) hk).trans h2, (World.cell?_of_block (w := w) hk).trans h3, (World.cell?_of_block (w := w) hk).trans h4, (World.frozen?_of_block (w := w) hk).trans h5, (World.frozen?_of_block (w := w) hk).trans h6, (World.frozen?_of_block (w := w) hk).trans h7⟩
theorem RfrAt.drew {w : World} {P : Nat} {m h : Int} {v : Value} {o : Bool} (hr : RfrAt w P m h v o) : RfrAt w.drew P m h v o := hr.kept rfl
theorem RfrAt.lt {w : World} {P : Nat} {m h : Int} {v : Value} {o : Bool} (hr : RfrAt w P m h v o) : P < w.heap.size := block_lt_of_cell hr.1
theorem RfrAt.had {w : World} {P : Nat} {m h : Int} {v : Value} {o : Bool} (hr : RfrAt w P m h v o) (h' : Int) : RfrAt (w.setCell ⟨P, 1, none⟩ (.int .i64 h')) P m h' v o := by
  obtain ⟨h1, h2, h3, h4, h5, h6, h7⟩ := hr
  exact ⟨by rw [World.cell?_setCell_other _ _ _ _ (by simp)]; exact h1, World.cell?_setCell_same _ _ _ h2, by rw [World.cell?_setCell_other _ _ _ _ (by simp)]; exact h3, by rw [World.cell?_setCell_other _ _ _ _ (by simp)]; exact h4, by simpa using h5, by simpa using h6, by simpa using h7⟩
theorem RfrAt.left {w : World} {P : Nat} {m h : Int} {v : Value} {o : Bool} (hr : RfrAt w P m h v o) (v' : Value) : RfrAt (w.setCell ⟨P, 0, none⟩ v') P m h v' o := by
  obtain ⟨h1, h2, h3, h4, h5, h6, h7⟩ := hr
  exact ⟨World.cell?_setCell_same _ _ _ h1, by rw [World.cell?_setCell_other _ _ _ _ (by simp)]; exact h2, by rw [World.cell?_setCell_other _ _ _ _ (by simp)]; exact h3, by rw [World.cell?_setCell_other _ _ _ _ (by simp)]; exact h4, by simpa using h5, by simpa using h6, by simpa using h7⟩
theorem RfrAt.over {w : World} {P : Nat} {m h : Int} {v : Value} {o : Bool} (hr : RfrAt w P m h v o) (o' : Bool) : RfrAt (w.setCell ⟨P, 3, none⟩ (.bool o')) P m h v o' := by
  obtain ⟨h1, h2, h3, h4, h5, h6, h7⟩ := hr
  exact ⟨by rw [World.cell?_setCell_other _ _ _ _ (by simp)]; exact h1, by rw [World.cell?_setCell_other _ _ _ _ (by simp)]; exact h2, by rw [World.cell?_setCell_other _ _ _ _ (by simp)]; exact h3, World.cell?_setCell_same _ _ _ h4, by simpa using h5, by simpa using h6, by simpa using h7⟩
theorem But.drew {w w' : World} {P : Nat} {go : Option Nat} (h : But w w' P go) : But w w'.drew P go := h.below ((Below.refl w.heap.size w').drew) (Nat.le_refl _)

set_option maxRecDepth 100000 in
theorem rnewFrame_any (m : Int) (w : World) : Calls Try.prog 49 #[.int .i64 m] w fun e w' => ∃ P, e = .returned (.pointer (some ⟨P, 0, none⟩)) ∧ w.heap.size ≤ P ∧ RfrAt w' P m 0 (.slice none 0 0) false ∧ Below w.heap.size w w' := by
  go_enter Try.func49, Try.ntmps49
  go_wp2
  go_ret
  refine ⟨_, rfl, Nat.le_refl _, ⟨?_, ?_, ?_, ?_, ?_, ?_, ?_⟩, (Below.refl _ _).alloc (Nat.le_refl _) _⟩ <;> simp [World.cell?_alloc_at, World.frozen?_alloc_new]

set_option maxRecDepth 100000 in
theorem rleft_any (P : Nat) (m h : Int) (a : Option Addr) (n c : Nat) (o : Bool) (w : World) (hr : RfrAt w P m h (.slice a n c) o) : Calls Try.prog 53 #[.pointer (some ⟨P, 0, none⟩)] w fun e w' => e = .returned (.int .i64 n) ∧ w = w' := by
  obtain ⟨h1, h2, h3, h4, h5, h6, h7⟩ := hr
  go_enter Try.func53, Try.ntmps53
  go_wp2
  go_ret
  exact ⟨rfl, rfl⟩

set_option maxRecDepth 100000 in
set_option maxHeartbeats 3200000 in
theorem rfeed_over (P : Nat) (m h : Int) (v : Value) (o : Bool) (pl : Option Addr) (nl cl : Nat) (M : List (List UInt8)) (w : World) (hr : RfrAt w P m h v o) (hst : Stays w P v.ownBlock pl nl M) (h0 : 0 ≤ h) (hs : h + sumL M ≤ 9223372036854775807) (hnl : nl ≤ 1000) (hover : o = true ∨ m < h + sumL M) :
    Calls Try.prog 51 #[.pointer (some ⟨P, 0, none⟩), .slice pl nl cl] w fun e w' => e = .returned (.tuple #[.slice none 0 0, .int .i64 13]) ∧ RfrAt w' P m (h + sumL M) (.slice none 0 0) true ∧ But w w' P v.ownBlock := by
  have HST := Lib.hid hst
  have HML := Lib.hid (show M.length = nl by obtain ⟨_, _, h2, _⟩ := hst w (But.refl _ _ _); exact h2)
  have HR := Lib.hid hr
  have HSL := Lib.hid (sum_le M)
  have HOV := Lib.hid hover
  clear hr hst hover
  go_enter Try.func51, Try.ntmps51
  go_wp2_with fail
  go_loopw [6] (fun i wr => ∃ k S : Nat, k ≤ nl ∧ i = .int .i64 k ∧ Hid (S = sumL (M.take k)) ∧ RfrAt wr P m (h + S) v o ∧ But w wr P v.ownBlock) (fun i _ => nl - (intOf i).toNat)
  case atStart => exact ⟨0, 0, Nat.zero_le _, rfl, rfl, by simpa using HR.out, But.refl _ _ _⟩
  case round =>
    obtain ⟨k, S, hk, rfl, hS, hra, hbut⟩ := hrel
    have HRA := Lib.hid hra
    have HBT := Lib.hid hbut
    obtain ⟨q1, q2, q3, q4, q5, q6, q7⟩ := hra
    have hSle := HSL.out k
    rw [← hS.out] at hSle
    clear hbut
    by_cases hlt : k < nl
    · obtain ⟨b1, o1, ai, ci, rfl, hbl1, c0, r1, n1⟩ := (HST.out wr HBT.out).at k hlt
      have hst := sum_take (M := M) (k := k) (by rw [HML.out]; exact hlt)
      have hSle2 := HSL.out (k + 1)
      obtain ⟨s, hs2⟩ : ∃ s, (M.getD k []).length = s := ⟨_, rfl⟩
      rw [hs2] at c0 hst
      rw [hst, ← hS.out] at hSle2
      rw [← hS.out] at hst
      have HS2 := Lib.hid hst.symm
      clear r1 n1 hst hs2
      go_wp2_with fail
      go_region
      all_goals
        go_wp2
        go_roundw
        case rel => exact ⟨k + 1, S + s, by omega, by go_num, HS2.out, by have := HRA.out.drew.had (h + S + s); rw [show h + ((S + s : Nat) : Int) = h + S + s by omega]; exact this, HBT.out.drew.set 1 _⟩
        case measure => simp [intOf]; omega
    · have hkn : k = nl := by omega
      subst hkn
      have hSM : S = sumL M := by rw [hS.out, ← HML.out, List.take_length]
      subst hSM
      clear hlt hS hSle
      have fin : ∀ w9 : World, RfrAt w9 P m (h + sumL M) v o → But w w9 P v.ownBlock → RfrAt ((w9.setCell ⟨P, 3, none⟩ (.bool true)).setCell ⟨P, 0, none⟩ (.slice none 0 0)) P m (h + sumL M) (.slice none 0 0) true ∧ But w ((w9.setCell ⟨P, 3, none⟩ (.bool true)).setCell ⟨P, 0, none⟩ (.slice none 0 0)) P v.ownBlock := fun w9 h1 h2 => ⟨(h1.over true).left _, (h2.set 3 _).set 0 _⟩
      have FIN := Lib.hid fin
      clear fin
      cases ho : o with
      | true =>
        subst ho
        go_wp2_with fail
        go_quiet (fail)
        rename_i nq
        have hbl := below_drewN (Below.refl (P + 1) wr) nq
        have HRA9 := Lib.hid (HRA.out.kept (hbl.block P (by omega)))
        have HBT9 := Lib.hid (HBT.out.below (below_drewN (Below.refl w.heap.size wr) nq) (Nat.le_refl _))
        obtain ⟨w9, hw9⟩ : ∃ w9, wr.drewN nq = w9 := ⟨_, rfl⟩
        rw [hw9] at HRA9 HBT9
        rw [hw9]
        clear hw9 hbl q1 q2 q3 q4 q5 q6 q7 HRA HBT
        obtain ⟨q1, q2, q3, q4, q5, q6, q7⟩ := HRA9.out
        go_wp2
        go_ret2
        exact ⟨rfl, FIN.out _ HRA9.out HBT9.out⟩
      | false =>
        subst ho
        have d1 := dT (p := m < h + ((sumL M : Nat) : Int)) (by rcases HOV.out with h | h; cases h; exact h)
        go_wp2_with fail
        go_quiet (fail)
        rename_i nq
        have hbl := below_drewN (Below.refl (P + 1) wr) nq
        have HRA9 := Lib.hid (HRA.out.kept (hbl.block P (by omega)))
        have HBT9 := Lib.hid (HBT.out.below (below_drewN (Below.refl w.heap.size wr) nq) (Nat.le_refl _))
        obtain ⟨w9, hw9⟩ : ∃ w9, wr.drewN nq = w9 := ⟨_, rfl⟩
        rw [hw9] at HRA9 HBT9
        rw [hw9]
        clear hw9 hbl q1 q2 q3 q4 q5 q6 q7 HRA HBT
        obtain ⟨q1, q2, q3, q4, q5, q6, q7⟩ := HRA9.out
        go_wp2
        go_ret2
        exact ⟨rfl, FIN.out _ HRA9.out HBT9.out⟩
end Go.Proofs.Ytngncdmmlkcekaa
