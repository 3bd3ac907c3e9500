/-
  No cell of these rows narrows 'for every input' (looked for: loops, veiled, ifaces, maps, wideKeys, modest, calm, conditions, laid).
  DERIVED. THE GIVEN ROWS OF THIS SEAT. 4 by the template 'for every input the law returns true; each argument reads behind the call as it read before'; 0 by the template 'total and deterministic' (their statements: YtgppkpdjpcegbaaTotals.lean).
  GIVEN WITH THE SEED: the statements are not yours to turn. If you find one false, say at which input.
  Laid BY PROGRAM, IN A SANDBOX (cutbox-rows.mjs): the forced cells as the released guide's own fill.sh prints them over the translation 48edf6b6d6353f54… (all of the seat's roots in one cut). By AI agents, Wed Nov 11 2026. No macro, syntax, notation, axiom, sorry.
-/
import Derived.Test.YtgppkpdjpcegbaaChecked
import GoSem.Claim
import GoSem.ClaimJoined
import GoSem.ClaimMapViews
import Derived.JoinedTies
import Derived.KernelRfl
namespace Go.Proofs.Ytgppkpdjpcegbaa
/- THE CELL 'sum', in the pinned program and in every row, IS THE sha256 OF THE DUMP (.gsa) THAT YtgppkpdjpcegbaaProg.lean LOADS. Nothing in Lean hashes anything: it is a label: what it is worth is what the hold of that sum in a sandbox is worth. -/
noncomputable def Try.pinned : Pinned := { name := "ytgppkpdjpcegbaa", sum := "48edf6b6d6353f54a45f7b3d5f9b7036cbd64f6534962f7522df1f5560c6eb05", checked := Try.checked }
namespace Rows
def none {H : Type} : Left H := { results := [], args := [] }

/-- 'rhzlaw22.FrontFits': WHATEVER THE INPUT: true; the input reads as it did. -/
def frontFitsSpec : ChangeSpec := { name := "frontFits", fn := fun _ => fun
  | [d1, d2, d3, d4] => { results := [.lit (.bool true)], args := [d1, d2, d3, d4] }
  | _ => none }
def frontFitsRow : OpenClaim := { program := "ytgppkpdjpcegbaa", sum := "48edf6b6d6353f54a45f7b3d5f9b7036cbd64f6534962f7522df1f5560c6eb05", func := "rhizome/rhzlaw22.FrontFits", spec := "frontFits", unfollowed := true, recurses := true, apart := false }
def FrontFitsSaid : Prop := frontFitsRow.holds Try.pinned (OpenSpec.ofChange frontFitsSpec)

/-- ITS FALSE NEIGHBOUR: 'it returns false'. Refute it at one input. -/
def frontFitsWrong : ChangeSpec := { name := "frontFits", fn := fun _ => fun
  | [d1, d2, d3, d4] => { results := [.lit (.bool false)], args := [d1, d2, d3, d4] }
  | _ => none }
def FrontFitsWrongFalsely : Prop := frontFitsRow.holds Try.pinned (OpenSpec.ofChange frontFitsWrong)

/-- 'rhzlaw22.FrontErrors': WHATEVER THE INPUT: true; the input reads as it did. -/
def frontErrorsSpec : ChangeSpec := { name := "frontErrors", fn := fun _ => fun
  | [d1, d2, d3, d4, d5, d6] => { results := [.lit (.bool true)], args := [d1, d2, d3, d4, d5, d6] }
  | _ => none }
def frontErrorsRow : OpenClaim := { program := "ytgppkpdjpcegbaa", sum := "48edf6b6d6353f54a45f7b3d5f9b7036cbd64f6534962f7522df1f5560c6eb05", func := "rhizome/rhzlaw22.FrontErrors", spec := "frontErrors", unfollowed := true, recurses := true, apart := false }
def FrontErrorsSaid : Prop := frontErrorsRow.holds Try.pinned (OpenSpec.ofChange frontErrorsSpec)

/-- ITS FALSE NEIGHBOUR: 'it returns false'. Refute it at one input. -/
def frontErrorsWrong : ChangeSpec := { name := "frontErrors", fn := fun _ => fun
  | [d1, d2, d3, d4, d5, d6] => { results := [.lit (.bool false)], args := [d1, d2, d3, d4, d5, d6] }
  | _ => none }
def FrontErrorsWrongFalsely : Prop := frontErrorsRow.holds Try.pinned (OpenSpec.ofChange frontErrorsWrong)

/-- 'rhzlaw22.FrontCuts': WHATEVER THE INPUT: true; the input reads as it did. -/
def frontCutsSpec : ChangeSpec := { name := "frontCuts", fn := fun _ => fun
  | [d1, d2] => { results := [.lit (.bool true)], args := [d1, d2] }
  | _ => none }
def frontCutsRow : OpenClaim := { program := "ytgppkpdjpcegbaa", sum := "48edf6b6d6353f54a45f7b3d5f9b7036cbd64f6534962f7522df1f5560c6eb05", func := "rhizome/rhzlaw22.FrontCuts", spec := "frontCuts", unfollowed := true, recurses := true, apart := false }
def FrontCutsSaid : Prop := frontCutsRow.holds Try.pinned (OpenSpec.ofChange frontCutsSpec)

/-- ITS FALSE NEIGHBOUR: 'it returns false'. Refute it at one input. -/
def frontCutsWrong : ChangeSpec := { name := "frontCuts", fn := fun _ => fun
  | [d1, d2] => { results := [.lit (.bool false)], args := [d1, d2] }
  | _ => none }
def FrontCutsWrongFalsely : Prop := frontCutsRow.holds Try.pinned (OpenSpec.ofChange frontCutsWrong)

/-- 'rhzlaw22.FrontOpts': WHATEVER THE INPUT: true; the input reads as it did. -/
def frontOptsSpec : ChangeSpec := { name := "frontOpts", fn := fun _ => fun
  | [d1, d2, d3, d4] => { results := [.lit (.bool true)], args := [d1, d2, d3, d4] }
  | _ => none }
def frontOptsRow : OpenClaim := { program := "ytgppkpdjpcegbaa", sum := "48edf6b6d6353f54a45f7b3d5f9b7036cbd64f6534962f7522df1f5560c6eb05", func := "rhizome/rhzlaw22.FrontOpts", spec := "frontOpts", unfollowed := true, recurses := true, apart := false }
def FrontOptsSaid : Prop := frontOptsRow.holds Try.pinned (OpenSpec.ofChange frontOptsSpec)

/-- ITS FALSE NEIGHBOUR: 'it returns false'. Refute it at one input. -/
def frontOptsWrong : ChangeSpec := { name := "frontOpts", fn := fun _ => fun
  | [d1, d2, d3, d4] => { results := [.lit (.bool false)], args := [d1, d2, d3, d4] }
  | _ => none }
def FrontOptsWrongFalsely : Prop := frontOptsRow.holds Try.pinned (OpenSpec.ofChange frontOptsWrong)

/- THE SECOND FORM. 'bulk': how many values and letters a reading holds, each counted each time it is reached (what is shared counts as often as it is met; a slice's spare places count too). A statement '..UptoSaid' is the law's where the arguments, and the package variables that the reading takes, are together of bulk at most 1048576: NARROWER than '..Said'. Prove '..Said' where nothing that the law and all that it calls make is longer than what came in: it says more and counts as full. Else prove '..UptoSaid'. A law counts once. -/
mutual
def uptoBulk {H : Type} : DataW H → Nat
  | .lit (.string bytes) => bytes.length + 1
  | .lit _ => 1
  | .nil => 1
  | .ptr d => uptoBulk d + 1
  | .slice elems spare => uptoBulkAll elems + uptoBulkAll spare + 1
  | .agg parts => uptoBulkAll parts + 1
  | .iface _ d => uptoBulk d + 1
  | .map entries => uptoBulkEntries entries + 1
  | .held _ => 1
def uptoBulkAll {H : Type} : List (DataW H) → Nat
  | [] => 0
  | d :: r => uptoBulk d + uptoBulkAll r
def uptoBulkEntries {H : Type} : List (Lit × DataW H) → Nat
  | [] => 0
  | x :: r => uptoBulkEntry x + uptoBulkEntries r
def uptoBulkEntry {H : Type} : Lit × DataW H → Nat
  | (.string bytes, d) => bytes.length + uptoBulk d + 1
  | (_, d) => uptoBulk d + 1
 end
def uptoSmall : (H : Type) → List (DataW H) → Bool := fun _ ds => decide (uptoBulkAll ds ≤ 1048576)
def OpenSpec.upto (s : _root_.Go.ChangeSpec) : _root_.Go.OpenSpec := { _root_.Go.OpenSpec.ofChange s with cond := some uptoSmall }

/-- 'rhzlaw22.FrontFits', WHERE WHAT IT READS IS OF BULK AT MOST 1048576: true; the input reads as it did. -/
def frontFitsUptoRow : OpenClaim := { program := "ytgppkpdjpcegbaa", sum := "48edf6b6d6353f54a45f7b3d5f9b7036cbd64f6534962f7522df1f5560c6eb05", func := "rhizome/rhzlaw22.FrontFits", spec := "frontFits", unfollowed := true, recurses := true, apart := false, narrowed := true }
def FrontFitsUptoSaid : Prop := frontFitsUptoRow.holds Try.pinned (OpenSpec.upto frontFitsSpec)

/-- 'rhzlaw22.FrontErrors', WHERE WHAT IT READS IS OF BULK AT MOST 1048576: true; the input reads as it did. -/
def frontErrorsUptoRow : OpenClaim := { program := "ytgppkpdjpcegbaa", sum := "48edf6b6d6353f54a45f7b3d5f9b7036cbd64f6534962f7522df1f5560c6eb05", func := "rhizome/rhzlaw22.FrontErrors", spec := "frontErrors", unfollowed := true, recurses := true, apart := false, narrowed := true }
def FrontErrorsUptoSaid : Prop := frontErrorsUptoRow.holds Try.pinned (OpenSpec.upto frontErrorsSpec)

/-- 'rhzlaw22.FrontCuts', WHERE WHAT IT READS IS OF BULK AT MOST 1048576: true; the input reads as it did. -/
def frontCutsUptoRow : OpenClaim := { program := "ytgppkpdjpcegbaa", sum := "48edf6b6d6353f54a45f7b3d5f9b7036cbd64f6534962f7522df1f5560c6eb05", func := "rhizome/rhzlaw22.FrontCuts", spec := "frontCuts", unfollowed := true, recurses := true, apart := false, narrowed := true }
def FrontCutsUptoSaid : Prop := frontCutsUptoRow.holds Try.pinned (OpenSpec.upto frontCutsSpec)

/-- 'rhzlaw22.FrontOpts', WHERE WHAT IT READS IS OF BULK AT MOST 1048576: true; the input reads as it did. -/
def frontOptsUptoRow : OpenClaim := { program := "ytgppkpdjpcegbaa", sum := "48edf6b6d6353f54a45f7b3d5f9b7036cbd64f6534962f7522df1f5560c6eb05", func := "rhizome/rhzlaw22.FrontOpts", spec := "frontOpts", unfollowed := true, recurses := true, apart := false, narrowed := true }
def FrontOptsUptoSaid : Prop := frontOptsUptoRow.holds Try.pinned (OpenSpec.upto frontOptsSpec)

end Rows
end Go.Proofs.Ytgppkpdjpcegbaa
