/-
  No cell of these rows narrows 'for every input' (looked for: loops, veiled, ifaces, maps, wideKeys, modest, calm, conditions, laid).
  DERIVED. THE GIVEN ROWS OF THIS SEAT. 5 by the template 'for every input the law returns true; each argument reads behind the call as it read before'; 0 by the template 'total and deterministic' (their statements: YtmhiglhgkgannaaTotals.lean).
  GIVEN WITH THE SEED: the statements are not yours to turn. If you find one false, say at which input.
  Laid BY PROGRAM, IN A SANDBOX (cutbox-rows.mjs): the forced cells as the released guide's own fill.sh prints them over the translation 0e0a9d9d4b18bb1d… (all of the seat's roots in one cut). By AI agents, Wed Nov 11 2026. No macro, syntax, notation, axiom, sorry.
-/
import Derived.Test.YtmhiglhgkgannaaChecked
import GoSem.Claim
import GoSem.ClaimJoined
import GoSem.ClaimMapViews
import Derived.JoinedTies
import Derived.KernelRfl
namespace Go.Proofs.Ytmhiglhgkgannaa
/- THE CELL 'sum', in the pinned program and in every row, IS THE sha256 OF THE DUMP (.gsa) THAT YtmhiglhgkgannaaProg.lean LOADS. Nothing in Lean hashes anything: it is a label: what it is worth is what the hold of that sum in a sandbox is worth. -/
noncomputable def Try.pinned : Pinned := { name := "ytmhiglhgkgannaa", sum := "0e0a9d9d4b18bb1dfc77c4bd9163dee108bf51a8d83530d6371fa550995e9a51", checked := Try.checked }
namespace Rows
def none {H : Type} : Left H := { results := [], args := [] }

/-- 'rhzlaw9.MdBack': WHATEVER THE INPUT: true; the input reads as it did. -/
def mdBackSpec : ChangeSpec := { name := "mdBack", fn := fun _ => fun
  | [d1, d2, d3] => { results := [.lit (.bool true)], args := [d1, d2, d3] }
  | _ => none }
def mdBackRow : OpenClaim := { program := "ytmhiglhgkgannaa", sum := "0e0a9d9d4b18bb1dfc77c4bd9163dee108bf51a8d83530d6371fa550995e9a51", func := "rhizome/rhzlaw9.MdBack", spec := "mdBack", inPlace := ["internal/bytealg.abigen_runtime_cmpstring"], unfollowed := true, recurses := true, apart := false }
def MdBackSaid : Prop := mdBackRow.holds Try.pinned (OpenSpec.ofChange mdBackSpec)

/-- ITS FALSE NEIGHBOUR: 'it returns false'. Refute it at one input. -/
def mdBackWrong : ChangeSpec := { name := "mdBack", fn := fun _ => fun
  | [d1, d2, d3] => { results := [.lit (.bool false)], args := [d1, d2, d3] }
  | _ => none }
def MdBackWrongFalsely : Prop := mdBackRow.holds Try.pinned (OpenSpec.ofChange mdBackWrong)

/-- 'rhzlaw9.MdTurned': WHATEVER THE INPUT: true; the input reads as it did. -/
def mdTurnedSpec : ChangeSpec := { name := "mdTurned", fn := fun _ => fun
  | [d1, d2, d3, d4] => { results := [.lit (.bool true)], args := [d1, d2, d3, d4] }
  | _ => none }
def mdTurnedRow : OpenClaim := { program := "ytmhiglhgkgannaa", sum := "0e0a9d9d4b18bb1dfc77c4bd9163dee108bf51a8d83530d6371fa550995e9a51", func := "rhizome/rhzlaw9.MdTurned", spec := "mdTurned", inPlace := ["internal/bytealg.abigen_runtime_cmpstring"], unfollowed := true, recurses := true, apart := false }
def MdTurnedSaid : Prop := mdTurnedRow.holds Try.pinned (OpenSpec.ofChange mdTurnedSpec)

/-- ITS FALSE NEIGHBOUR: 'it returns false'. Refute it at one input. -/
def mdTurnedWrong : ChangeSpec := { name := "mdTurned", fn := fun _ => fun
  | [d1, d2, d3, d4] => { results := [.lit (.bool false)], args := [d1, d2, d3, d4] }
  | _ => none }
def MdTurnedWrongFalsely : Prop := mdTurnedRow.holds Try.pinned (OpenSpec.ofChange mdTurnedWrong)

/-- 'rhzlaw9.MdForms': WHATEVER THE INPUT: true; the input reads as it did. -/
def mdFormsSpec : ChangeSpec := { name := "mdForms", fn := fun _ => fun
  | [d1, d2] => { results := [.lit (.bool true)], args := [d1, d2] }
  | _ => none }
def mdFormsRow : OpenClaim := { program := "ytmhiglhgkgannaa", sum := "0e0a9d9d4b18bb1dfc77c4bd9163dee108bf51a8d83530d6371fa550995e9a51", func := "rhizome/rhzlaw9.MdForms", spec := "mdForms", inPlace := ["internal/bytealg.abigen_runtime_cmpstring"], unfollowed := true, recurses := true, apart := false }
def MdFormsSaid : Prop := mdFormsRow.holds Try.pinned (OpenSpec.ofChange mdFormsSpec)

/-- ITS FALSE NEIGHBOUR: 'it returns false'. Refute it at one input. -/
def mdFormsWrong : ChangeSpec := { name := "mdForms", fn := fun _ => fun
  | [d1, d2] => { results := [.lit (.bool false)], args := [d1, d2] }
  | _ => none }
def MdFormsWrongFalsely : Prop := mdFormsRow.holds Try.pinned (OpenSpec.ofChange mdFormsWrong)

/-- 'rhzlaw9.MdOutside': WHATEVER THE INPUT: true; the input reads as it did. -/
def mdOutsideSpec : ChangeSpec := { name := "mdOutside", fn := fun _ => fun
  | [d1, d2, d3, d4] => { results := [.lit (.bool true)], args := [d1, d2, d3, d4] }
  | _ => none }
def mdOutsideRow : OpenClaim := { program := "ytmhiglhgkgannaa", sum := "0e0a9d9d4b18bb1dfc77c4bd9163dee108bf51a8d83530d6371fa550995e9a51", func := "rhizome/rhzlaw9.MdOutside", spec := "mdOutside", inPlace := ["internal/bytealg.abigen_runtime_cmpstring"], unfollowed := true, recurses := true, apart := false }
def MdOutsideSaid : Prop := mdOutsideRow.holds Try.pinned (OpenSpec.ofChange mdOutsideSpec)

/-- ITS FALSE NEIGHBOUR: 'it returns false'. Refute it at one input. -/
def mdOutsideWrong : ChangeSpec := { name := "mdOutside", fn := fun _ => fun
  | [d1, d2, d3, d4] => { results := [.lit (.bool false)], args := [d1, d2, d3, d4] }
  | _ => none }
def MdOutsideWrongFalsely : Prop := mdOutsideRow.holds Try.pinned (OpenSpec.ofChange mdOutsideWrong)

/-- 'rhzlaw9.MdSerials': WHATEVER THE INPUT: true; the input reads as it did. -/
def mdSerialsSpec : ChangeSpec := { name := "mdSerials", fn := fun _ => fun
  | [d1, d2, d3] => { results := [.lit (.bool true)], args := [d1, d2, d3] }
  | _ => none }
def mdSerialsRow : OpenClaim := { program := "ytmhiglhgkgannaa", sum := "0e0a9d9d4b18bb1dfc77c4bd9163dee108bf51a8d83530d6371fa550995e9a51", func := "rhizome/rhzlaw9.MdSerials", spec := "mdSerials", inPlace := ["internal/bytealg.abigen_runtime_cmpstring"], unfollowed := true, recurses := true, apart := false }
def MdSerialsSaid : Prop := mdSerialsRow.holds Try.pinned (OpenSpec.ofChange mdSerialsSpec)

/-- ITS FALSE NEIGHBOUR: 'it returns false'. Refute it at one input. -/
def mdSerialsWrong : ChangeSpec := { name := "mdSerials", fn := fun _ => fun
  | [d1, d2, d3] => { results := [.lit (.bool false)], args := [d1, d2, d3] }
  | _ => none }
def MdSerialsWrongFalsely : Prop := mdSerialsRow.holds Try.pinned (OpenSpec.ofChange mdSerialsWrong)

/- THE SECOND FORM. 'bulk': how many values and letters a reading holds, each counted each time it is reached (what is shared counts as often as it is met; a slice's spare places count too). A statement '..UptoSaid' is the law's where the arguments, and the package variables that the reading takes, are together of bulk at most 1048576: NARROWER than '..Said'. Prove '..Said' where nothing that the law and all that it calls make is longer than what came in: it says more and counts as full. Else prove '..UptoSaid'. A law counts once. -/
mutual
def uptoBulk {H : Type} : DataW H → Nat
  | .lit (.string bytes) => bytes.length + 1
  | .lit _ => 1
  | .nil => 1
  | .ptr d => uptoBulk d + 1
  | .slice elems spare => uptoBulkAll elems + uptoBulkAll spare + 1
  | .agg parts => uptoBulkAll parts + 1
  | .iface _ d => uptoBulk d + 1
  | .map entries => uptoBulkEntries entries + 1
  | .held _ => 1
def uptoBulkAll {H : Type} : List (DataW H) → Nat
  | [] => 0
  | d :: r => uptoBulk d + uptoBulkAll r
def uptoBulkEntries {H : Type} : List (Lit × DataW H) → Nat
  | [] => 0
  | x :: r => uptoBulkEntry x + uptoBulkEntries r
def uptoBulkEntry {H : Type} : Lit × DataW H → Nat
  | (.string bytes, d) => bytes.length + uptoBulk d + 1
  | (_, d) => uptoBulk d + 1
 end
def uptoSmall : (H : Type) → List (DataW H) → Bool := fun _ ds => decide (uptoBulkAll ds ≤ 1048576)
def OpenSpec.upto (s : _root_.Go.ChangeSpec) : _root_.Go.OpenSpec := { _root_.Go.OpenSpec.ofChange s with cond := some uptoSmall }

/-- 'rhzlaw9.MdBack', WHERE WHAT IT READS IS OF BULK AT MOST 1048576: true; the input reads as it did. -/
def mdBackUptoRow : OpenClaim := { program := "ytmhiglhgkgannaa", sum := "0e0a9d9d4b18bb1dfc77c4bd9163dee108bf51a8d83530d6371fa550995e9a51", func := "rhizome/rhzlaw9.MdBack", spec := "mdBack", inPlace := ["internal/bytealg.abigen_runtime_cmpstring"], unfollowed := true, recurses := true, apart := false, narrowed := true }
def MdBackUptoSaid : Prop := mdBackUptoRow.holds Try.pinned (OpenSpec.upto mdBackSpec)

/-- 'rhzlaw9.MdTurned', WHERE WHAT IT READS IS OF BULK AT MOST 1048576: true; the input reads as it did. -/
def mdTurnedUptoRow : OpenClaim := { program := "ytmhiglhgkgannaa", sum := "0e0a9d9d4b18bb1dfc77c4bd9163dee108bf51a8d83530d6371fa550995e9a51", func := "rhizome/rhzlaw9.MdTurned", spec := "mdTurned", inPlace := ["internal/bytealg.abigen_runtime_cmpstring"], unfollowed := true, recurses := true, apart := false, narrowed := true }
def MdTurnedUptoSaid : Prop := mdTurnedUptoRow.holds Try.pinned (OpenSpec.upto mdTurnedSpec)

/-- 'rhzlaw9.MdForms', WHERE WHAT IT READS IS OF BULK AT MOST 1048576: true; the input reads as it did. -/
def mdFormsUptoRow : OpenClaim := { program := "ytmhiglhgkgannaa", sum := "0e0a9d9d4b18bb1dfc77c4bd9163dee108bf51a8d83530d6371fa550995e9a51", func := "rhizome/rhzlaw9.MdForms", spec := "mdForms", inPlace := ["internal/bytealg.abigen_runtime_cmpstring"], unfollowed := true, recurses := true, apart := false, narrowed := true }
def MdFormsUptoSaid : Prop := mdFormsUptoRow.holds Try.pinned (OpenSpec.upto mdFormsSpec)

/-- 'rhzlaw9.MdOutside', WHERE WHAT IT READS IS OF BULK AT MOST 1048576: true; the input reads as it did. -/
def mdOutsideUptoRow : OpenClaim := { program := "ytmhiglhgkgannaa", sum := "0e0a9d9d4b18bb1dfc77c4bd9163dee108bf51a8d83530d6371fa550995e9a51", func := "rhizome/rhzlaw9.MdOutside", spec := "mdOutside", inPlace := ["internal/bytealg.abigen_runtime_cmpstring"], unfollowed := true, recurses := true, apart := false, narrowed := true }
def MdOutsideUptoSaid : Prop := mdOutsideUptoRow.holds Try.pinned (OpenSpec.upto mdOutsideSpec)

/-- 'rhzlaw9.MdSerials', WHERE WHAT IT READS IS OF BULK AT MOST 1048576: true; the input reads as it did. -/
def mdSerialsUptoRow : OpenClaim := { program := "ytmhiglhgkgannaa", sum := "0e0a9d9d4b18bb1dfc77c4bd9163dee108bf51a8d83530d6371fa550995e9a51", func := "rhizome/rhzlaw9.MdSerials", spec := "mdSerials", inPlace := ["internal/bytealg.abigen_runtime_cmpstring"], unfollowed := true, recurses := true, apart := false, narrowed := true }
def MdSerialsUptoSaid : Prop := mdSerialsUptoRow.holds Try.pinned (OpenSpec.upto mdSerialsSpec)

end Rows
end Go.Proofs.Ytmhiglhgkgannaa
