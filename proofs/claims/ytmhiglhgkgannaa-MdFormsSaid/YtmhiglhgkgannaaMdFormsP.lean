/- For any two records, the law MdForms of chapter 9 (two records have one form just if they are alike; it begins with the name and ends with the data; what may not be has none) returns true and changes nothing that it was given; no conditions. -/
import Derived.Test.YtmhiglhgkgannaaRows
import Derived.Test.YtmhiglhgkgannaaMFo
import Derived.Test.YtmhiglhgkgannaaOpR
import Derived.Test.YtmhiglhgkgannaaAgg
import Derived.WalkKit
import Derived.ProofKit
import Derived.OpenShut
import Derived.ShutString
import Derived.SliceStrings
import Derived.ChangeOld
import Derived.Below
namespace Go.Proofs.Ytmhiglhgkgannaa.mdForms
open Go.ChangeShapes Go.WideShapes Go.ChangeAt Go.RowKit
open Go.ChangeMaps (open_string shut_string)
set_option linter.unusedVariables false

theorem own : ownKnob Try.prog.godebug = none := by kernel_rfl
theorem laidOut : laidOutB Try.prog = true := by kernel_rfl

theorem walk (a0_0 : ByteArray) (a0_1 : Int) (a0_2 : Int) (a0_3 : Int) (a0_4 : ByteArray) (a1_0 : ByteArray) (a1_1 : Int) (a1_2 : Int) (a1_3 : Int) (a1_4 : ByteArray) (w : World) (w0_0 : a0_0.size ≤ maxLen) (w0_1 : (Lit.int .i64 a0_1).wf = true) (w0_2 : (Lit.int .i64 a0_2).wf = true) (w0_3 : (Lit.int .i64 a0_3).wf = true) (w0_4 : a0_4.size ≤ maxLen) (w1_0 : a1_0.size ≤ maxLen) (w1_1 : (Lit.int .i64 a1_1).wf = true) (w1_2 : (Lit.int .i64 a1_2).wf = true) (w1_3 : (Lit.int .i64 a1_3).wf = true) (w1_4 : a1_4.size ≤ maxLen) :
    Calls Try.prog 5 #[.agg #[.string a0_0, .int .i64 a0_1, .int .i64 a0_2, .int .i64 a0_3, .string a0_4], .agg #[.string a1_0, .int .i64 a1_1, .int .i64 a1_2, .int .i64 a1_3, .string a1_4]] w fun e w' => e = .returned (.bool true) ∧ Below w.heap.size w w' := by
  have h1 := w0_0
  have h2 := w0_4
  have h3 := w1_0
  have h4 := w1_4
  unfold maxLen at h1 h2 h3 h4
  exact walkForms a0_0 a0_1 a0_2 a0_3 a0_4 a1_0 a1_1 a1_2 a1_3 a1_4 w ⟨h1, h2⟩ ⟨h3, h4⟩

set_option maxRecDepth 100000 in
theorem lifted (os : Os) (started : os.Started) (H : Type) (enc : TypeId × Value → H) :
    ReturnsInHanded {} Try.checked os 5 .any (Rows.mdFormsSpec.pre6 enc Try.prog Try.f5 Rows.mdFormsRow.domain false) (Rows.mdFormsSpec.post enc Try.prog Try.f5 false true false false) := by
  refine returnsInHanded_of_change (C := Try.checked) own started (by kernel_rfl) Try.func5
    (ChangeSpec.witness6 (enc := enc) (C := Try.checked) false ⟨#[], #[.agg #[.string ByteArray.empty, .int .i64 0, .int .i64 0, .int .i64 0, .string ByteArray.empty], .agg #[.string ByteArray.empty, .int .i64 0, .int .i64 0, .int .i64 0, .string ByteArray.empty]], []⟩ 8 (by kernel_rfl) (by kernel_rfl) (by kernel_rfl) (by kernel_rfl)) ?_
  intro W base args ds gs before hval0 hW hcnd _
  have hval : ∀ (j : Nat) t v, Try.f5.params[j]? = some t → args[j]? = some v → Value.okWide Try.prog W .any base t v := hval0
  have hW' := hW
  obtain ⟨p, q, hA0, hV, rfl, hfz, hnd⟩ := hW
  have hA : DataW.TrodAll enc Try.prog W 0 (fun _ => true) true Try.f5.params.toList args.toList ds p := hA0
  rw [Try.params5] at hA hval
  obtain ⟨v0, vs0, d0, ds0, p0, q0, hargs, rfl, rfl, h0, r0⟩ := trodAll_cons hA
  obtain ⟨v1, vs1, d1, ds1, p1, q1, rfl, rfl, rfl, h1, r1⟩ := trodAll_cons r0
  obtain ⟨rfl, rfl, rfl⟩ := trodAll_nil r1
  obtain rfl : args = #[v0, v1] := by cases args; simp_all
  obtain ⟨rfl, rfl⟩ := trodVars_none hV
  have k0 := h0
  have lt0 : ∀ x ∈ p0, x.block < W.heap.size := by obtain ⟨m, hm⟩ := k0; exact DataW.trod_lt m _ _ _ hm
  obtain ⟨l0, rfl, hl0, hf0⟩ := open_aggs Try.underlying30 (by kernel_rfl) (by kernel_rfl) (hval 0 30 v0 rfl rfl) h0
  obtain ⟨c0_0, c0_1, c0_2, c0_3, c0_4, rfl⟩ := list5 hl0
  obtain ⟨_, _, hy⟩ := hf0 0 _ _ rfl rfl
  obtain ⟨a0_0, hc, _, w0_0⟩ := DataW.trod_string Try.underlying9 hy
  obtain rfl : c0_0 = .string a0_0 := by simpa using hc
  obtain ⟨_, _, hy⟩ := hf0 1 _ _ rfl rfl
  obtain ⟨a0_1, hc, _, w0_1⟩ := DataW.trod_int Try.underlying3 hy
  obtain rfl : c0_1 = .int .i64 a0_1 := by simpa using hc
  obtain ⟨_, _, hy⟩ := hf0 2 _ _ rfl rfl
  obtain ⟨a0_2, hc, _, w0_2⟩ := DataW.trod_int Try.underlying3 hy
  obtain rfl : c0_2 = .int .i64 a0_2 := by simpa using hc
  obtain ⟨_, _, hy⟩ := hf0 3 _ _ rfl rfl
  obtain ⟨a0_3, hc, _, w0_3⟩ := DataW.trod_int Try.underlying3 hy
  obtain rfl : c0_3 = .int .i64 a0_3 := by simpa using hc
  obtain ⟨_, _, hy⟩ := hf0 4 _ _ rfl rfl
  obtain ⟨a0_4, hc, _, w0_4⟩ := DataW.trod_string Try.underlying9 hy
  obtain rfl : c0_4 = .string a0_4 := by simpa using hc
  have k1 := h1
  have lt1 : ∀ x ∈ p1, x.block < W.heap.size := by obtain ⟨m, hm⟩ := k1; exact DataW.trod_lt m _ _ _ hm
  obtain ⟨l1, rfl, hl1, hf1⟩ := open_aggs Try.underlying30 (by kernel_rfl) (by kernel_rfl) (hval 1 30 v1 rfl rfl) h1
  obtain ⟨c1_0, c1_1, c1_2, c1_3, c1_4, rfl⟩ := list5 hl1
  obtain ⟨_, _, hy⟩ := hf1 0 _ _ rfl rfl
  obtain ⟨a1_0, hc, _, w1_0⟩ := DataW.trod_string Try.underlying9 hy
  obtain rfl : c1_0 = .string a1_0 := by simpa using hc
  obtain ⟨_, _, hy⟩ := hf1 1 _ _ rfl rfl
  obtain ⟨a1_1, hc, _, w1_1⟩ := DataW.trod_int Try.underlying3 hy
  obtain rfl : c1_1 = .int .i64 a1_1 := by simpa using hc
  obtain ⟨_, _, hy⟩ := hf1 2 _ _ rfl rfl
  obtain ⟨a1_2, hc, _, w1_2⟩ := DataW.trod_int Try.underlying3 hy
  obtain rfl : c1_2 = .int .i64 a1_2 := by simpa using hc
  obtain ⟨_, _, hy⟩ := hf1 3 _ _ rfl rfl
  obtain ⟨a1_3, hc, _, w1_3⟩ := DataW.trod_int Try.underlying3 hy
  obtain rfl : c1_3 = .int .i64 a1_3 := by simpa using hc
  obtain ⟨_, _, hy⟩ := hf1 4 _ _ rfl rfl
  obtain ⟨a1_4, hc, _, w1_4⟩ := DataW.trod_string Try.underlying9 hy
  obtain rfl : c1_4 = .string a1_4 := by simpa using hc
  clear hA0 hval0
  refine (walk a0_0 a0_1 a0_2 a0_3 a0_4 a1_0 a1_1 a1_2 a1_3 a1_4 W w0_0 w0_1 w0_2 w0_3 w0_4 w1_0 w1_1 w1_2 w1_3 w1_4).mono fun e W' ⟨he, bel⟩ => ?_
  subst he
  exact ⟨_, rfl, _, _, _, [], _, [], hW', trodAll_mk1 (shut_bool Try.underlying4 _), (trodAll_cons_mk (Below.trod laidOut (by kernel_rfl) (of_decide_eq_true (by kernel_rfl)) k0 bel lt0) (trodAll_cons_mk (Below.trod laidOut (by kernel_rfl) (of_decide_eq_true (by kernel_rfl)) k1 bel lt1) trodAll_mk0)), rfl, bel.frame _, fun h => by cases h⟩

theorem over : Rows.mdFormsRow.holds Try.pinned (OpenSpec.ofChange Rows.mdFormsSpec) :=
  OpenClaim.holds_of_wide 5 Try.f5 rfl rfl rfl rfl rfl rfl rfl ⟨rfl, rfl, rfl, rfl, rfl⟩ rfl rfl rfl rfl rfl (by kernel_rfl) Try.func5 (by kernel_rfl)
    (of_decide_eq_true (by kernel_rfl)) (by unfold Func.isWrapper; first | (rw [if_pos (by decide +kernel)]; kernel_rfl) | (rw [if_neg (by decide +kernel)]; exact ⟨rfl, rfl⟩))
    (fun os started H enc _ => lifted os started H enc)

theorem proved : Rows.MdFormsSaid := over
#print axioms proved
end Go.Proofs.Ytmhiglhgkgannaa.mdForms
