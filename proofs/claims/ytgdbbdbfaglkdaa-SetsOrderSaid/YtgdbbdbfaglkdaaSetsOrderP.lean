/- rhzlaw4.SetsOrder returns true for whatever it is handed, and what was handed in reads as before. -/
import Derived.Test.YtgdbbdbfaglkdaaRows
import Derived.Test.YtgdbbdbfaglkdaaSOr
import Derived.Test.YtgdbbdbfaglkdaaAgg
import Derived.WalkKit
import Derived.ProofKit
import Derived.OpenShut
import Derived.ShutString
import Derived.SliceStrings
import Derived.ChangeOld
import Derived.Below
namespace Go.Proofs.Ytgdbbdbfaglkdaa.setsOrder
open Go.ChangeShapes Go.WideShapes Go.ChangeAt Go.RowKit
open Go.ChangeMaps (open_string shut_string)
set_option linter.unusedVariables false

theorem own : ownKnob Try.prog.godebug = none := by kernel_rfl
theorem laidOut : laidOutB Try.prog = true := by kernel_rfl

theorem walk (a0_0 : ByteArray) (a0_1 : Int) (a0_2 : Int) (a1_0 : ByteArray) (a1_1 : Int) (a1_2 : Int) (a2_0 : ByteArray) (a2_1 : Int) (a2_2 : Int) (w : World) (w0_0 : a0_0.size ≤ maxLen) (w0_1 : (Lit.int .i64 a0_1).wf = true) (w0_2 : (Lit.int .i64 a0_2).wf = true) (w1_0 : a1_0.size ≤ maxLen) (w1_1 : (Lit.int .i64 a1_1).wf = true) (w1_2 : (Lit.int .i64 a1_2).wf = true) (w2_0 : a2_0.size ≤ maxLen) (w2_1 : (Lit.int .i64 a2_1).wf = true) (w2_2 : (Lit.int .i64 a2_2).wf = true) :
    Calls Try.prog 11 #[.agg #[.string a0_0, .int .i64 a0_1, .int .i64 a0_2], .agg #[.string a1_0, .int .i64 a1_1, .int .i64 a1_2], .agg #[.string a2_0, .int .i64 a2_1, .int .i64 a2_2]] w fun e w' => e = .returned (.bool true) ∧ Below w.heap.size w w' := by
  exact walkSOrder ⟨a0_0, a0_1, a0_2⟩ ⟨a1_0, a1_1, a1_2⟩ ⟨a2_0, a2_1, a2_2⟩ w

set_option maxRecDepth 100000 in
theorem lifted (os : Os) (started : os.Started) (H : Type) (enc : TypeId × Value → H) :
    ReturnsInHanded {} Try.checked os 11 .any (Rows.setsOrderSpec.pre6 enc Try.prog Try.f11 Rows.setsOrderRow.domain false) (Rows.setsOrderSpec.post enc Try.prog Try.f11 false true false false) := by
  refine returnsInHanded_of_change (C := Try.checked) own started (by kernel_rfl) Try.func11
    (ChangeSpec.witness6 (enc := enc) (C := Try.checked) false ⟨#[], #[.agg #[.string ByteArray.empty, .int .i64 0, .int .i64 0], .agg #[.string ByteArray.empty, .int .i64 0, .int .i64 0], .agg #[.string ByteArray.empty, .int .i64 0, .int .i64 0]], []⟩ 8 (by kernel_rfl) (by kernel_rfl) (by kernel_rfl) (by kernel_rfl)) ?_
  intro W base args ds gs before hval0 hW hcnd _
  have hval : ∀ (j : Nat) t v, Try.f11.params[j]? = some t → args[j]? = some v → Value.okWide Try.prog W .any base t v := hval0
  have hW' := hW
  obtain ⟨p, q, hA0, hV, rfl, hfz, hnd⟩ := hW
  have hA : DataW.TrodAll enc Try.prog W 0 (fun _ => true) true Try.f11.params.toList args.toList ds p := hA0
  rw [Try.params11] at hA hval
  obtain ⟨v0, vs0, d0, ds0, p0, q0, hargs, rfl, rfl, h0, r0⟩ := trodAll_cons hA
  obtain ⟨v1, vs1, d1, ds1, p1, q1, rfl, rfl, rfl, h1, r1⟩ := trodAll_cons r0
  obtain ⟨v2, vs2, d2, ds2, p2, q2, rfl, rfl, rfl, h2, r2⟩ := trodAll_cons r1
  obtain ⟨rfl, rfl, rfl⟩ := trodAll_nil r2
  obtain rfl : args = #[v0, v1, v2] := by cases args; simp_all
  obtain ⟨rfl, rfl⟩ := trodVars_none hV
  have k0 := h0
  have lt0 : ∀ x ∈ p0, x.block < W.heap.size := by obtain ⟨m, hm⟩ := k0; exact DataW.trod_lt m _ _ _ hm
  obtain ⟨l0, rfl, hl0, hf0⟩ := open_aggs Try.underlying68 (by kernel_rfl) (by kernel_rfl) (hval 0 68 v0 rfl rfl) h0
  obtain ⟨c0_0, c0_1, c0_2, rfl⟩ := list3 hl0
  obtain ⟨_, _, hy⟩ := hf0 0 _ _ rfl rfl
  obtain ⟨a0_0, hc, _, w0_0⟩ := DataW.trod_string Try.underlying9 hy
  obtain rfl : c0_0 = .string a0_0 := by simpa using hc
  obtain ⟨_, _, hy⟩ := hf0 1 _ _ rfl rfl
  obtain ⟨a0_1, hc, _, w0_1⟩ := DataW.trod_int Try.underlying3 hy
  obtain rfl : c0_1 = .int .i64 a0_1 := by simpa using hc
  obtain ⟨_, _, hy⟩ := hf0 2 _ _ rfl rfl
  obtain ⟨a0_2, hc, _, w0_2⟩ := DataW.trod_int Try.underlying3 hy
  obtain rfl : c0_2 = .int .i64 a0_2 := by simpa using hc
  have k1 := h1
  have lt1 : ∀ x ∈ p1, x.block < W.heap.size := by obtain ⟨m, hm⟩ := k1; exact DataW.trod_lt m _ _ _ hm
  obtain ⟨l1, rfl, hl1, hf1⟩ := open_aggs Try.underlying68 (by kernel_rfl) (by kernel_rfl) (hval 1 68 v1 rfl rfl) h1
  obtain ⟨c1_0, c1_1, c1_2, rfl⟩ := list3 hl1
  obtain ⟨_, _, hy⟩ := hf1 0 _ _ rfl rfl
  obtain ⟨a1_0, hc, _, w1_0⟩ := DataW.trod_string Try.underlying9 hy
  obtain rfl : c1_0 = .string a1_0 := by simpa using hc
  obtain ⟨_, _, hy⟩ := hf1 1 _ _ rfl rfl
  obtain ⟨a1_1, hc, _, w1_1⟩ := DataW.trod_int Try.underlying3 hy
  obtain rfl : c1_1 = .int .i64 a1_1 := by simpa using hc
  obtain ⟨_, _, hy⟩ := hf1 2 _ _ rfl rfl
  obtain ⟨a1_2, hc, _, w1_2⟩ := DataW.trod_int Try.underlying3 hy
  obtain rfl : c1_2 = .int .i64 a1_2 := by simpa using hc
  have k2 := h2
  have lt2 : ∀ x ∈ p2, x.block < W.heap.size := by obtain ⟨m, hm⟩ := k2; exact DataW.trod_lt m _ _ _ hm
  obtain ⟨l2, rfl, hl2, hf2⟩ := open_aggs Try.underlying68 (by kernel_rfl) (by kernel_rfl) (hval 2 68 v2 rfl rfl) h2
  obtain ⟨c2_0, c2_1, c2_2, rfl⟩ := list3 hl2
  obtain ⟨_, _, hy⟩ := hf2 0 _ _ rfl rfl
  obtain ⟨a2_0, hc, _, w2_0⟩ := DataW.trod_string Try.underlying9 hy
  obtain rfl : c2_0 = .string a2_0 := by simpa using hc
  obtain ⟨_, _, hy⟩ := hf2 1 _ _ rfl rfl
  obtain ⟨a2_1, hc, _, w2_1⟩ := DataW.trod_int Try.underlying3 hy
  obtain rfl : c2_1 = .int .i64 a2_1 := by simpa using hc
  obtain ⟨_, _, hy⟩ := hf2 2 _ _ rfl rfl
  obtain ⟨a2_2, hc, _, w2_2⟩ := DataW.trod_int Try.underlying3 hy
  obtain rfl : c2_2 = .int .i64 a2_2 := by simpa using hc
  clear hA0 hval0
  refine (walk a0_0 a0_1 a0_2 a1_0 a1_1 a1_2 a2_0 a2_1 a2_2 W w0_0 w0_1 w0_2 w1_0 w1_1 w1_2 w2_0 w2_1 w2_2).mono fun e W' ⟨he, bel⟩ => ?_
  subst he
  exact ⟨_, rfl, _, _, _, [], _, [], hW', trodAll_mk1 (shut_bool Try.underlying4 _), (trodAll_cons_mk (Below.trod laidOut (by kernel_rfl) (of_decide_eq_true (by kernel_rfl)) k0 bel lt0) (trodAll_cons_mk (Below.trod laidOut (by kernel_rfl) (of_decide_eq_true (by kernel_rfl)) k1 bel lt1) (trodAll_cons_mk (Below.trod laidOut (by kernel_rfl) (of_decide_eq_true (by kernel_rfl)) k2 bel lt2) trodAll_mk0))), rfl, bel.frame _, fun h => by cases h⟩

theorem over : Rows.setsOrderRow.holds Try.pinned (OpenSpec.ofChange Rows.setsOrderSpec) :=
  OpenClaim.holds_of_wide 11 Try.f11 rfl rfl rfl rfl rfl rfl rfl ⟨rfl, rfl, rfl, rfl, rfl⟩ rfl rfl rfl rfl rfl (by kernel_rfl) Try.func11 (by kernel_rfl)
    (of_decide_eq_true (by kernel_rfl)) (by unfold Func.isWrapper; first | (rw [if_pos (by decide +kernel)]; kernel_rfl) | (rw [if_neg (by decide +kernel)]; exact ⟨rfl, rfl⟩))
    (fun os started H enc _ => lifted os started H enc)

theorem proved : Rows.SetsOrderSaid := over
#print axioms proved
end Go.Proofs.Ytgdbbdbfaglkdaa.setsOrder
