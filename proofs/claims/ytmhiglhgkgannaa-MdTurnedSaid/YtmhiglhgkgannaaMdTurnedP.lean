/- For any apex, any records, any record more and any place in a digest, the law MdTurned of chapter 9 (a bit of the digest turned is found; a record more is found just if it changes the digest, and it does so only if it was not there and lies under the apex) returns true and changes nothing that it was given; no conditions. -/
import Derived.Test.YtmhiglhgkgannaaRows
import Derived.Test.YtmhiglhgkgannaaMTu
import Derived.Test.YtmhiglhgkgannaaOpR
import Derived.Test.YtmhiglhgkgannaaAgg
import Derived.WalkKit
import Derived.ProofKit
import Derived.OpenShut
import Derived.ShutString
import Derived.SliceStrings
import Derived.ChangeOld
import Derived.Below
namespace Go.Proofs.Ytmhiglhgkgannaa.mdTurned
open Go.ChangeShapes Go.WideShapes Go.ChangeAt Go.RowKit
open Go.ChangeMaps (open_string shut_string)
set_option linter.unusedVariables false

theorem own : ownKnob Try.prog.godebug = none := by kernel_rfl
theorem laidOut : laidOutB Try.prog = true := by kernel_rfl

theorem walk (a0 : ByteArray) (a1 : Option Addr) (len1 cap1 : Nat) (z1 : List R5) (a2_0 : ByteArray) (a2_1 : Int) (a2_2 : Int) (a2_3 : Int) (a2_4 : ByteArray) (a3 : Int) (w : World) (w0 : a0.size ≤ maxLen) (w1 : RowR w a1 len1 z1 ∧ (a1 = none → len1 = 0 ∧ cap1 = 0) ∧ len1 ≤ maxLen ∧ ∀ r ∈ z1, SzR r) (w2_0 : a2_0.size ≤ maxLen) (w2_1 : (Lit.int .i64 a2_1).wf = true) (w2_2 : (Lit.int .i64 a2_2).wf = true) (w2_3 : (Lit.int .i64 a2_3).wf = true) (w2_4 : a2_4.size ≤ maxLen) (w3 : (Lit.int .i64 a3).wf = true) :
    Calls Try.prog 4 #[.string a0, .slice a1 len1 cap1, .agg #[.string a2_0, .int .i64 a2_1, .int .i64 a2_2, .int .i64 a2_3, .string a2_4], .int .i64 a3] w fun e w' => e = .returned (.bool true) ∧ Below w.heap.size w w' := by
  have h2 := w1.2.2.1
  have h3 := w2_0
  have h4 := w2_4
  unfold maxLen at h2 h3 h4
  exact walkTurned a0 a1 len1 cap1 z1 a2_0 a2_1 a2_2 a2_3 a2_4 a3 w w1.1 w1.2.1 h2 w1.2.2.2 ⟨h3, h4⟩

set_option maxRecDepth 100000 in
theorem lifted (os : Os) (started : os.Started) (H : Type) (enc : TypeId × Value → H) :
    ReturnsInHanded {} Try.checked os 4 .any (Rows.mdTurnedSpec.pre6 enc Try.prog Try.f4 Rows.mdTurnedRow.domain false) (Rows.mdTurnedSpec.post enc Try.prog Try.f4 false true false false) := by
  refine returnsInHanded_of_change (C := Try.checked) own started (by kernel_rfl) Try.func4
    (ChangeSpec.witness6 (enc := enc) (C := Try.checked) false ⟨#[], #[.string ByteArray.empty, .slice none 0 0, .agg #[.string ByteArray.empty, .int .i64 0, .int .i64 0, .int .i64 0, .string ByteArray.empty], .int .i64 0], []⟩ 8 (by kernel_rfl) (by kernel_rfl) (by kernel_rfl) (by kernel_rfl)) ?_
  intro W base args ds gs before hval0 hW hcnd _
  have hval : ∀ (j : Nat) t v, Try.f4.params[j]? = some t → args[j]? = some v → Value.okWide Try.prog W .any base t v := hval0
  have hW' := hW
  obtain ⟨p, q, hA0, hV, rfl, hfz, hnd⟩ := hW
  have hA : DataW.TrodAll enc Try.prog W 0 (fun _ => true) true Try.f4.params.toList args.toList ds p := hA0
  rw [Try.params4] at hA hval
  obtain ⟨v0, vs0, d0, ds0, p0, q0, hargs, rfl, rfl, h0, r0⟩ := trodAll_cons hA
  obtain ⟨v1, vs1, d1, ds1, p1, q1, rfl, rfl, rfl, h1, r1⟩ := trodAll_cons r0
  obtain ⟨v2, vs2, d2, ds2, p2, q2, rfl, rfl, rfl, h2, r2⟩ := trodAll_cons r1
  obtain ⟨v3, vs3, d3, ds3, p3, q3, rfl, rfl, rfl, h3, r3⟩ := trodAll_cons r2
  obtain ⟨rfl, rfl, rfl⟩ := trodAll_nil r3
  obtain rfl : args = #[v0, v1, v2, v3] := by cases args; simp_all
  obtain ⟨rfl, rfl⟩ := trodVars_none hV
  obtain ⟨a0, rfl, rfl, rfl, w0⟩ := open_string Try.underlying9 (hval 0 9 v0 rfl rfl) h0
  obtain ⟨a1, len1, cap1, rfl⟩ := okWide_slice Try.underlying22 (hval 1 22 v1 rfl rfl)
  have k1 := h1
  have lt1 : ∀ x ∈ p1, x.block < W.heap.size := by obtain ⟨m, hm⟩ := k1; exact DataW.trod_lt m _ _ _ hm
  obtain ⟨z1, w1⟩ : ∃ z, RowR W a1 len1 z ∧ (a1 = none → len1 = 0 ∧ cap1 = 0) ∧ len1 ≤ maxLen ∧ ∀ r ∈ z, SzR r := by
    obtain ⟨fuel, hf⟩ := h1
    exact open_rowsR hf
  have k2 := h2
  have lt2 : ∀ x ∈ p2, x.block < W.heap.size := by obtain ⟨m, hm⟩ := k2; exact DataW.trod_lt m _ _ _ hm
  obtain ⟨l2, rfl, hl2, hf2⟩ := open_aggs Try.underlying30 (by kernel_rfl) (by kernel_rfl) (hval 2 30 v2 rfl rfl) h2
  obtain ⟨c2_0, c2_1, c2_2, c2_3, c2_4, rfl⟩ := list5 hl2
  obtain ⟨_, _, hy⟩ := hf2 0 _ _ rfl rfl
  obtain ⟨a2_0, hc, _, w2_0⟩ := DataW.trod_string Try.underlying9 hy
  obtain rfl : c2_0 = .string a2_0 := by simpa using hc
  obtain ⟨_, _, hy⟩ := hf2 1 _ _ rfl rfl
  obtain ⟨a2_1, hc, _, w2_1⟩ := DataW.trod_int Try.underlying3 hy
  obtain rfl : c2_1 = .int .i64 a2_1 := by simpa using hc
  obtain ⟨_, _, hy⟩ := hf2 2 _ _ rfl rfl
  obtain ⟨a2_2, hc, _, w2_2⟩ := DataW.trod_int Try.underlying3 hy
  obtain rfl : c2_2 = .int .i64 a2_2 := by simpa using hc
  obtain ⟨_, _, hy⟩ := hf2 3 _ _ rfl rfl
  obtain ⟨a2_3, hc, _, w2_3⟩ := DataW.trod_int Try.underlying3 hy
  obtain rfl : c2_3 = .int .i64 a2_3 := by simpa using hc
  obtain ⟨_, _, hy⟩ := hf2 4 _ _ rfl rfl
  obtain ⟨a2_4, hc, _, w2_4⟩ := DataW.trod_string Try.underlying9 hy
  obtain rfl : c2_4 = .string a2_4 := by simpa using hc
  obtain ⟨a3, rfl, rfl, rfl, w3⟩ := open_int Try.underlying3 (hval 3 3 v3 rfl rfl) h3
  clear hA0 hval0
  refine (walk a0 a1 len1 cap1 z1 a2_0 a2_1 a2_2 a2_3 a2_4 a3 W w0 w1 w2_0 w2_1 w2_2 w2_3 w2_4 w3).mono fun e W' ⟨he, bel⟩ => ?_
  subst he
  exact ⟨_, rfl, _, _, _, [], _, [], hW', trodAll_mk1 (shut_bool Try.underlying4 _), (trodAll_cons_mk (shut_string Try.underlying9 w0) (trodAll_cons_mk (Below.trod laidOut (by kernel_rfl) (of_decide_eq_true (by kernel_rfl)) k1 bel lt1) (trodAll_cons_mk (Below.trod laidOut (by kernel_rfl) (of_decide_eq_true (by kernel_rfl)) k2 bel lt2) (trodAll_cons_mk (shut_int Try.underlying3 w3) trodAll_mk0)))), rfl, bel.frame _, fun h => by cases h⟩

theorem over : Rows.mdTurnedRow.holds Try.pinned (OpenSpec.ofChange Rows.mdTurnedSpec) :=
  OpenClaim.holds_of_wide 4 Try.f4 rfl rfl rfl rfl rfl rfl rfl ⟨rfl, rfl, rfl, rfl, rfl⟩ rfl rfl rfl rfl rfl (by kernel_rfl) Try.func4 (by kernel_rfl)
    (of_decide_eq_true (by kernel_rfl)) (by unfold Func.isWrapper; first | (rw [if_pos (by decide +kernel)]; kernel_rfl) | (rw [if_neg (by decide +kernel)]; exact ⟨rfl, rfl⟩))
    (fun os started H enc _ => lifted os started H enc)

theorem proved : Rows.MdTurnedSaid := over
#print axioms proved
end Go.Proofs.Ytmhiglhgkgannaa.mdTurned
