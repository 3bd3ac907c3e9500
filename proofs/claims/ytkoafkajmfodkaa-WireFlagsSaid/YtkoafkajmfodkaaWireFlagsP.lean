/- WireFlags: for every header and every number the statement answers true and ends; no conditions. -/
import Derived.Test.YtkoafkajmfodkaaRows
import Derived.Test.YtkoafkajmfodkaaWFl
import Derived.Test.YtkoafkajmfodkaaAgg
import Derived.WalkKit
import Derived.ProofKit
import Derived.OpenShut
import Derived.ShutString
import Derived.SliceStrings
import Derived.ChangeOld
import Derived.Below
namespace Go.Proofs.Ytkoafkajmfodkaa.wireFlags
open Go.ChangeShapes Go.WideShapes Go.ChangeAt Go.RowKit
open Go.ChangeMaps (open_string shut_string)
set_option linter.unusedVariables false

theorem own : ownKnob Try.prog.godebug = none := by kernel_rfl
theorem laidOut : laidOutB Try.prog = true := by kernel_rfl

theorem walk (a0_0 : Int) (a0_1 : Int) (a0_2 : Int) (a0_3 : Bool) (a0_4 : Bool) (a0_5 : Bool) (a0_6 : Bool) (a0_7 : Bool) (a1 : Int) (w : World) (w0_0 : (Lit.int .i64 a0_0).wf = true) (w0_1 : (Lit.int .i64 a0_1).wf = true) (w0_2 : (Lit.int .i64 a0_2).wf = true) (w1 : (Lit.int .i64 a1).wf = true) :
    Calls Try.prog 7 #[.agg #[.int .i64 a0_0, .int .i64 a0_1, .int .i64 a0_2, .bool a0_3, .bool a0_4, .bool a0_5, .bool a0_6, .bool a0_7], .int .i64 a1] w fun e w' => e = .returned (.bool true) ∧ Below w.heap.size w w' := by
  exact walkFlags a0_0 a0_1 a0_2 a0_3 a0_4 a0_5 a0_6 a0_7 a1 w

set_option maxRecDepth 100000 in
theorem lifted (os : Os) (started : os.Started) (H : Type) (enc : TypeId × Value → H) :
    ReturnsInHanded {} Try.checked os 7 .any (Rows.wireFlagsSpec.pre6 enc Try.prog Try.f7 Rows.wireFlagsRow.domain false) (Rows.wireFlagsSpec.post enc Try.prog Try.f7 false true false false) := by
  refine returnsInHanded_of_change (C := Try.checked) own started (by kernel_rfl) Try.func7
    (ChangeSpec.witness6 (enc := enc) (C := Try.checked) false ⟨#[], #[.agg #[.int .i64 0, .int .i64 0, .int .i64 0, .bool false, .bool false, .bool false, .bool false, .bool false], .int .i64 0], []⟩ 8 (by kernel_rfl) (by kernel_rfl) (by kernel_rfl) (by kernel_rfl)) ?_
  intro W base args ds gs before hval0 hW hcnd _
  have hval : ∀ (j : Nat) t v, Try.f7.params[j]? = some t → args[j]? = some v → Value.okWide Try.prog W .any base t v := hval0
  have hW' := hW
  obtain ⟨p, q, hA0, hV, rfl, hfz, hnd⟩ := hW
  have hA : DataW.TrodAll enc Try.prog W 0 (fun _ => true) true Try.f7.params.toList args.toList ds p := hA0
  rw [Try.params7] at hA hval
  obtain ⟨v0, vs0, d0, ds0, p0, q0, hargs, rfl, rfl, h0, r0⟩ := trodAll_cons hA
  obtain ⟨v1, vs1, d1, ds1, p1, q1, rfl, rfl, rfl, h1, r1⟩ := trodAll_cons r0
  obtain ⟨rfl, rfl, rfl⟩ := trodAll_nil r1
  obtain rfl : args = #[v0, v1] := by cases args; simp_all
  obtain ⟨rfl, rfl⟩ := trodVars_none hV
  have k0 := h0
  have lt0 : ∀ x ∈ p0, x.block < W.heap.size := by obtain ⟨m, hm⟩ := k0; exact DataW.trod_lt m _ _ _ hm
  obtain ⟨l0, rfl, hl0, hf0⟩ := open_aggs Try.underlying23 (by kernel_rfl) (by kernel_rfl) (hval 0 23 v0 rfl rfl) h0
  obtain ⟨c0_0, c0_1, c0_2, c0_3, c0_4, c0_5, c0_6, c0_7, rfl⟩ := list8 hl0
  obtain ⟨_, _, hy⟩ := hf0 0 _ _ rfl rfl
  obtain ⟨a0_0, hc, _, w0_0⟩ := DataW.trod_int Try.underlying3 hy
  obtain rfl : c0_0 = .int .i64 a0_0 := by simpa using hc
  obtain ⟨_, _, hy⟩ := hf0 1 _ _ rfl rfl
  obtain ⟨a0_1, hc, _, w0_1⟩ := DataW.trod_int Try.underlying3 hy
  obtain rfl : c0_1 = .int .i64 a0_1 := by simpa using hc
  obtain ⟨_, _, hy⟩ := hf0 2 _ _ rfl rfl
  obtain ⟨a0_2, hc, _, w0_2⟩ := DataW.trod_int Try.underlying3 hy
  obtain rfl : c0_2 = .int .i64 a0_2 := by simpa using hc
  obtain ⟨_, _, hy⟩ := hf0 3 _ _ rfl rfl
  obtain ⟨a0_3, hc, _⟩ := DataW.trod_bool Try.underlying4 hy
  obtain rfl : c0_3 = .bool a0_3 := by simpa using hc
  obtain ⟨_, _, hy⟩ := hf0 4 _ _ rfl rfl
  obtain ⟨a0_4, hc, _⟩ := DataW.trod_bool Try.underlying4 hy
  obtain rfl : c0_4 = .bool a0_4 := by simpa using hc
  obtain ⟨_, _, hy⟩ := hf0 5 _ _ rfl rfl
  obtain ⟨a0_5, hc, _⟩ := DataW.trod_bool Try.underlying4 hy
  obtain rfl : c0_5 = .bool a0_5 := by simpa using hc
  obtain ⟨_, _, hy⟩ := hf0 6 _ _ rfl rfl
  obtain ⟨a0_6, hc, _⟩ := DataW.trod_bool Try.underlying4 hy
  obtain rfl : c0_6 = .bool a0_6 := by simpa using hc
  obtain ⟨_, _, hy⟩ := hf0 7 _ _ rfl rfl
  obtain ⟨a0_7, hc, _⟩ := DataW.trod_bool Try.underlying4 hy
  obtain rfl : c0_7 = .bool a0_7 := by simpa using hc
  obtain ⟨a1, rfl, rfl, rfl, w1⟩ := open_int Try.underlying3 (hval 1 3 v1 rfl rfl) h1
  clear hA0 hval0
  refine (walk a0_0 a0_1 a0_2 a0_3 a0_4 a0_5 a0_6 a0_7 a1 W w0_0 w0_1 w0_2 w1).mono fun e W' ⟨he, bel⟩ => ?_
  subst he
  exact ⟨_, rfl, _, _, _, [], _, [], hW', trodAll_mk1 (shut_bool Try.underlying4 _), (trodAll_cons_mk (Below.trod laidOut (by kernel_rfl) (of_decide_eq_true (by kernel_rfl)) k0 bel lt0) (trodAll_cons_mk (shut_int Try.underlying3 w1) trodAll_mk0)), rfl, bel.frame _, fun h => by cases h⟩

theorem over : Rows.wireFlagsRow.holds Try.pinned (OpenSpec.ofChange Rows.wireFlagsSpec) :=
  OpenClaim.holds_of_wide 7 Try.f7 rfl rfl rfl rfl rfl rfl rfl ⟨rfl, rfl, rfl, rfl, rfl⟩ rfl rfl rfl rfl rfl (by kernel_rfl) Try.func7 (by kernel_rfl)
    (of_decide_eq_true (by kernel_rfl)) (by unfold Func.isWrapper; first | (rw [if_pos (by decide +kernel)]; kernel_rfl) | (rw [if_neg (by decide +kernel)]; exact ⟨rfl, rfl⟩))
    (fun os started H enc _ => lifted os started H enc)

theorem proved : Rows.WireFlagsSaid := over
#print axioms proved
end Go.Proofs.Ytkoafkajmfodkaa.wireFlags
