/- EdnsBack: for every message and every option the statement answers true and ends; no conditions. -/
import Derived.Test.YtkoafkajmfodkaaRows
import Derived.Test.YtkoafkajmfodkaaEBk
import Derived.Test.YtkoafkajmfodkaaOpM
import Derived.Test.YtkoafkajmfodkaaAgg
import Derived.WalkKit
import Derived.ProofKit
import Derived.OpenShut
import Derived.ShutString
import Derived.SliceStrings
import Derived.ChangeOld
import Derived.Below
namespace Go.Proofs.Ytkoafkajmfodkaa.ednsBack
open Go.ChangeShapes Go.WideShapes Go.ChangeAt Go.RowKit
open Go.ChangeMaps (open_string shut_string)
set_option linter.unusedVariables false

theorem own : ownKnob Try.prog.godebug = none := by kernel_rfl
theorem laidOut : laidOutB Try.prog = true := by kernel_rfl

theorem walk (x0 : Value) (m0 : MsgP) (a1_0 : Int) (a1_1 : Int) (a1_2 : Int) (a1_3 : Bool) (a1_4 : ByteArray) (w : World) (w0 : MsgAt w x0 m0 ∧ SzM m0) (w1_0 : (Lit.int .i64 a1_0).wf = true) (w1_1 : (Lit.int .i64 a1_1).wf = true) (w1_2 : (Lit.int .i64 a1_2).wf = true) (w1_4 : a1_4.size ≤ maxLen) :
    Calls Try.prog 11 #[x0, .agg #[.int .i64 a1_0, .int .i64 a1_1, .int .i64 a1_2, .bool a1_3, .string a1_4]] w fun e w' => e = .returned (.bool true) ∧ Below w.heap.size w w' := by
  exact walkBack x0 m0 a1_0 a1_1 a1_2 a1_3 a1_4 w w0.1 w0.2 w1_4

set_option maxRecDepth 100000 in
theorem lifted (os : Os) (started : os.Started) (H : Type) (enc : TypeId × Value → H) :
    ReturnsInHanded {} Try.checked os 11 .any (Rows.ednsBackSpec.pre6 enc Try.prog Try.f11 Rows.ednsBackRow.domain false) (Rows.ednsBackSpec.post enc Try.prog Try.f11 false true false false) := by
  refine returnsInHanded_of_change (C := Try.checked) own started (by kernel_rfl) Try.func11
    (ChangeSpec.witness6 (enc := enc) (C := Try.checked) false ⟨#[], #[.agg #[.int .i64 0, .int .i64 0, .int .i64 0, .bool false, .bool false, .bool false, .bool false, .bool false, .slice none 0 0, .slice none 0 0, .slice none 0 0, .slice none 0 0], .agg #[.int .i64 0, .int .i64 0, .int .i64 0, .bool false, .string ByteArray.empty]], []⟩ 8 (by kernel_rfl) (by kernel_rfl) (by kernel_rfl) (by kernel_rfl)) ?_
  intro W base args ds gs before hval0 hW hcnd _
  have hval : ∀ (j : Nat) t v, Try.f11.params[j]? = some t → args[j]? = some v → Value.okWide Try.prog W .any base t v := hval0
  have hW' := hW
  obtain ⟨p, q, hA0, hV, rfl, hfz, hnd⟩ := hW
  have hA : DataW.TrodAll enc Try.prog W 0 (fun _ => true) true Try.f11.params.toList args.toList ds p := hA0
  rw [Try.params11] at hA hval
  obtain ⟨v0, vs0, d0, ds0, p0, q0, hargs, rfl, rfl, h0, r0⟩ := trodAll_cons hA
  obtain ⟨v1, vs1, d1, ds1, p1, q1, rfl, rfl, rfl, h1, r1⟩ := trodAll_cons r0
  obtain ⟨rfl, rfl, rfl⟩ := trodAll_nil r1
  obtain rfl : args = #[v0, v1] := by cases args; simp_all
  obtain ⟨rfl, rfl⟩ := trodVars_none hV
  have k0 := h0
  have lt0 : ∀ x ∈ p0, x.block < W.heap.size := by obtain ⟨m, hm⟩ := k0; exact DataW.trod_lt m _ _ _ hm
  obtain ⟨m0, w0⟩ := open_msgV (hval 0 27 v0 rfl rfl) h0
  have k1 := h1
  have lt1 : ∀ x ∈ p1, x.block < W.heap.size := by obtain ⟨m, hm⟩ := k1; exact DataW.trod_lt m _ _ _ hm
  obtain ⟨l1, rfl, hl1, hf1⟩ := open_aggs Try.underlying80 (by kernel_rfl) (by kernel_rfl) (hval 1 80 v1 rfl rfl) h1
  obtain ⟨c1_0, c1_1, c1_2, c1_3, c1_4, rfl⟩ := list5 hl1
  obtain ⟨_, _, hy⟩ := hf1 0 _ _ rfl rfl
  obtain ⟨a1_0, hc, _, w1_0⟩ := DataW.trod_int Try.underlying3 hy
  obtain rfl : c1_0 = .int .i64 a1_0 := by simpa using hc
  obtain ⟨_, _, hy⟩ := hf1 1 _ _ rfl rfl
  obtain ⟨a1_1, hc, _, w1_1⟩ := DataW.trod_int Try.underlying3 hy
  obtain rfl : c1_1 = .int .i64 a1_1 := by simpa using hc
  obtain ⟨_, _, hy⟩ := hf1 2 _ _ rfl rfl
  obtain ⟨a1_2, hc, _, w1_2⟩ := DataW.trod_int Try.underlying3 hy
  obtain rfl : c1_2 = .int .i64 a1_2 := by simpa using hc
  obtain ⟨_, _, hy⟩ := hf1 3 _ _ rfl rfl
  obtain ⟨a1_3, hc, _⟩ := DataW.trod_bool Try.underlying4 hy
  obtain rfl : c1_3 = .bool a1_3 := by simpa using hc
  obtain ⟨_, _, hy⟩ := hf1 4 _ _ rfl rfl
  obtain ⟨a1_4, hc, _, w1_4⟩ := DataW.trod_string Try.underlying9 hy
  obtain rfl : c1_4 = .string a1_4 := by simpa using hc
  clear hA0 hval0
  refine (walk v0 m0 a1_0 a1_1 a1_2 a1_3 a1_4 W w0 w1_0 w1_1 w1_2 w1_4).mono fun e W' ⟨he, bel⟩ => ?_
  subst he
  exact ⟨_, rfl, _, _, _, [], _, [], hW', trodAll_mk1 (shut_bool Try.underlying4 _), (trodAll_cons_mk (Below.trod laidOut (by kernel_rfl) (of_decide_eq_true (by kernel_rfl)) k0 bel lt0) (trodAll_cons_mk (Below.trod laidOut (by kernel_rfl) (of_decide_eq_true (by kernel_rfl)) k1 bel lt1) trodAll_mk0)), rfl, bel.frame _, fun h => by cases h⟩

theorem over : Rows.ednsBackRow.holds Try.pinned (OpenSpec.ofChange Rows.ednsBackSpec) :=
  OpenClaim.holds_of_wide 11 Try.f11 rfl rfl rfl rfl rfl rfl rfl ⟨rfl, rfl, rfl, rfl, rfl⟩ rfl rfl rfl rfl rfl (by kernel_rfl) Try.func11 (by kernel_rfl)
    (of_decide_eq_true (by kernel_rfl)) (by unfold Func.isWrapper; first | (rw [if_pos (by decide +kernel)]; kernel_rfl) | (rw [if_neg (by decide +kernel)]; exact ⟨rfl, rfl⟩))
    (fun os started H enc _ => lifted os started H enc)

theorem proved : Rows.EdnsBackSaid := over
#print axioms proved
end Go.Proofs.Ytkoafkajmfodkaa.ednsBack
