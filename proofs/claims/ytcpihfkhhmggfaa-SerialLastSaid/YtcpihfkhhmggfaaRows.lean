/-
  No cell of these rows narrows 'for every input' (looked for: loops, veiled, ifaces, maps, wideKeys, modest, calm, conditions, laid).
  DERIVED. THE GIVEN ROWS OF THIS SEAT. 11 by the template 'for every input the law returns true; each argument reads behind the call as it read before'; 0 by the template 'total and deterministic' (their statements: YtcpihfkhhmggfaaTotals.lean).
  GIVEN WITH THE SEED: the statements are not yours to turn. If you find one false, say at which input.
  Laid BY PROGRAM, IN A SANDBOX (cutbox-rows.mjs): the forced cells as the released guide's own fill.sh prints them over the translation 45fd4880b766cf99… (all of the seat's roots in one cut). By AI agents, Wed Nov 11 2026. No macro, syntax, notation, axiom, sorry.
-/
import Derived.Test.YtcpihfkhhmggfaaChecked
import GoSem.Claim
import GoSem.ClaimJoined
import GoSem.ClaimMapViews
import Derived.JoinedTies
import Derived.KernelRfl
namespace Go.Proofs.Ytcpihfkhhmggfaa
/- THE CELL 'sum', in the pinned program and in every row, IS THE sha256 OF THE DUMP (.gsa) THAT YtcpihfkhhmggfaaProg.lean LOADS. Nothing in Lean hashes anything: it is a label: what it is worth is what the hold of that sum in a sandbox is worth. -/
noncomputable def Try.pinned : Pinned := { name := "ytcpihfkhhmggfaa", sum := "45fd4880b766cf9949d1d545cc56a51a4c8af42924749f138560a6d8e7ee23bf", checked := Try.checked }
namespace Rows
def none {H : Type} : Left H := { results := [], args := [] }

/-- 'rhzlaw1.NumWrites': WHATEVER THE INPUT: true; the input reads as it did. -/
def numWritesSpec : ChangeSpec := { name := "numWrites", fn := fun _ => fun
  | [d1, d2, d3, d4, d5] => { results := [.lit (.bool true)], args := [d1, d2, d3, d4, d5] }
  | _ => none }
def numWritesRow : OpenClaim := { program := "ytcpihfkhhmggfaa", sum := "45fd4880b766cf9949d1d545cc56a51a4c8af42924749f138560a6d8e7ee23bf", func := "rhizome/rhzlaw1.NumWrites", spec := "numWrites", apart := false }
def NumWritesSaid : Prop := numWritesRow.holds Try.pinned (OpenSpec.ofChange numWritesSpec)

/-- ITS FALSE NEIGHBOUR: 'it returns false'. Refute it at one input. -/
def numWritesWrong : ChangeSpec := { name := "numWrites", fn := fun _ => fun
  | [d1, d2, d3, d4, d5] => { results := [.lit (.bool false)], args := [d1, d2, d3, d4, d5] }
  | _ => none }
def NumWritesWrongFalsely : Prop := numWritesRow.holds Try.pinned (OpenSpec.ofChange numWritesWrong)

/-- 'rhzlaw1.NumTexts': WHATEVER THE INPUT: true; the input reads as it did. -/
def numTextsSpec : ChangeSpec := { name := "numTexts", fn := fun _ => fun
  | [d] => { results := [.lit (.bool true)], args := [d] }
  | _ => none }
def numTextsRow : OpenClaim := { program := "ytcpihfkhhmggfaa", sum := "45fd4880b766cf9949d1d545cc56a51a4c8af42924749f138560a6d8e7ee23bf", func := "rhizome/rhzlaw1.NumTexts", spec := "numTexts", apart := false }
def NumTextsSaid : Prop := numTextsRow.holds Try.pinned (OpenSpec.ofChange numTextsSpec)

/-- ITS FALSE NEIGHBOUR: 'it returns false'. Refute it at one input. -/
def numTextsWrong : ChangeSpec := { name := "numTexts", fn := fun _ => fun
  | [d] => { results := [.lit (.bool false)], args := [d] }
  | _ => none }
def NumTextsWrongFalsely : Prop := numTextsRow.holds Try.pinned (OpenSpec.ofChange numTextsWrong)

/-- 'rhzlaw1.NumBack': WHATEVER THE INPUT: true; the input reads as it did. -/
def numBackSpec : ChangeSpec := { name := "numBack", fn := fun _ => fun
  | [d1, d2, d3] => { results := [.lit (.bool true)], args := [d1, d2, d3] }
  | _ => none }
def numBackRow : OpenClaim := { program := "ytcpihfkhhmggfaa", sum := "45fd4880b766cf9949d1d545cc56a51a4c8af42924749f138560a6d8e7ee23bf", func := "rhizome/rhzlaw1.NumBack", spec := "numBack", apart := false }
def NumBackSaid : Prop := numBackRow.holds Try.pinned (OpenSpec.ofChange numBackSpec)

/-- ITS FALSE NEIGHBOUR: 'it returns false'. Refute it at one input. -/
def numBackWrong : ChangeSpec := { name := "numBack", fn := fun _ => fun
  | [d1, d2, d3] => { results := [.lit (.bool false)], args := [d1, d2, d3] }
  | _ => none }
def NumBackWrongFalsely : Prop := numBackRow.holds Try.pinned (OpenSpec.ofChange numBackWrong)

/-- 'rhzlaw1.NumParts': WHATEVER THE INPUT: true; the input reads as it did. -/
def numPartsSpec : ChangeSpec := { name := "numParts", fn := fun _ => fun
  | [d1, d2, d3] => { results := [.lit (.bool true)], args := [d1, d2, d3] }
  | _ => none }
def numPartsRow : OpenClaim := { program := "ytcpihfkhhmggfaa", sum := "45fd4880b766cf9949d1d545cc56a51a4c8af42924749f138560a6d8e7ee23bf", func := "rhizome/rhzlaw1.NumParts", spec := "numParts", apart := false }
def NumPartsSaid : Prop := numPartsRow.holds Try.pinned (OpenSpec.ofChange numPartsSpec)

/-- ITS FALSE NEIGHBOUR: 'it returns false'. Refute it at one input. -/
def numPartsWrong : ChangeSpec := { name := "numParts", fn := fun _ => fun
  | [d1, d2, d3] => { results := [.lit (.bool false)], args := [d1, d2, d3] }
  | _ => none }
def NumPartsWrongFalsely : Prop := numPartsRow.holds Try.pinned (OpenSpec.ofChange numPartsWrong)

/-- 'rhzlaw1.NumOrder': WHATEVER THE INPUT: true; the input reads as it did. -/
def numOrderSpec : ChangeSpec := { name := "numOrder", fn := fun _ => fun
  | [d1, d2, d3] => { results := [.lit (.bool true)], args := [d1, d2, d3] }
  | _ => none }
def numOrderRow : OpenClaim := { program := "ytcpihfkhhmggfaa", sum := "45fd4880b766cf9949d1d545cc56a51a4c8af42924749f138560a6d8e7ee23bf", func := "rhizome/rhzlaw1.NumOrder", spec := "numOrder", apart := false }
def NumOrderSaid : Prop := numOrderRow.holds Try.pinned (OpenSpec.ofChange numOrderSpec)

/-- ITS FALSE NEIGHBOUR: 'it returns false'. Refute it at one input. -/
def numOrderWrong : ChangeSpec := { name := "numOrder", fn := fun _ => fun
  | [d1, d2, d3] => { results := [.lit (.bool false)], args := [d1, d2, d3] }
  | _ => none }
def NumOrderWrongFalsely : Prop := numOrderRow.holds Try.pinned (OpenSpec.ofChange numOrderWrong)

/-- 'rhzlaw1.NumSums': WHATEVER THE INPUT: true; the input reads as it did. -/
def numSumsSpec : ChangeSpec := { name := "numSums", fn := fun _ => fun
  | [d1, d2, d3, d4, d5] => { results := [.lit (.bool true)], args := [d1, d2, d3, d4, d5] }
  | _ => none }
def numSumsRow : OpenClaim := { program := "ytcpihfkhhmggfaa", sum := "45fd4880b766cf9949d1d545cc56a51a4c8af42924749f138560a6d8e7ee23bf", func := "rhizome/rhzlaw1.NumSums", spec := "numSums", apart := false }
def NumSumsSaid : Prop := numSumsRow.holds Try.pinned (OpenSpec.ofChange numSumsSpec)

/-- ITS FALSE NEIGHBOUR: 'it returns false'. Refute it at one input. -/
def numSumsWrong : ChangeSpec := { name := "numSums", fn := fun _ => fun
  | [d1, d2, d3, d4, d5] => { results := [.lit (.bool false)], args := [d1, d2, d3, d4, d5] }
  | _ => none }
def NumSumsWrongFalsely : Prop := numSumsRow.holds Try.pinned (OpenSpec.ofChange numSumsWrong)

/-- 'rhzlaw12.SerialReads': WHATEVER THE INPUT: true; the input reads as it did. -/
def serialReadsSpec : ChangeSpec := { name := "serialReads", fn := fun _ => fun
  | [d1, d2, d3, d4] => { results := [.lit (.bool true)], args := [d1, d2, d3, d4] }
  | _ => none }
def serialReadsRow : OpenClaim := { program := "ytcpihfkhhmggfaa", sum := "45fd4880b766cf9949d1d545cc56a51a4c8af42924749f138560a6d8e7ee23bf", func := "rhizome/rhzlaw12.SerialReads", spec := "serialReads", apart := false }
def SerialReadsSaid : Prop := serialReadsRow.holds Try.pinned (OpenSpec.ofChange serialReadsSpec)

/-- ITS FALSE NEIGHBOUR: 'it returns false'. Refute it at one input. -/
def serialReadsWrong : ChangeSpec := { name := "serialReads", fn := fun _ => fun
  | [d1, d2, d3, d4] => { results := [.lit (.bool false)], args := [d1, d2, d3, d4] }
  | _ => none }
def SerialReadsWrongFalsely : Prop := serialReadsRow.holds Try.pinned (OpenSpec.ofChange serialReadsWrong)

/-- 'rhzlaw12.SerialGoes': WHATEVER THE INPUT: true; the input reads as it did. -/
def serialGoesSpec : ChangeSpec := { name := "serialGoes", fn := fun _ => fun
  | [d1, d2, d3] => { results := [.lit (.bool true)], args := [d1, d2, d3] }
  | _ => none }
def serialGoesRow : OpenClaim := { program := "ytcpihfkhhmggfaa", sum := "45fd4880b766cf9949d1d545cc56a51a4c8af42924749f138560a6d8e7ee23bf", func := "rhizome/rhzlaw12.SerialGoes", spec := "serialGoes", apart := false }
def SerialGoesSaid : Prop := serialGoesRow.holds Try.pinned (OpenSpec.ofChange serialGoesSpec)

/-- ITS FALSE NEIGHBOUR: 'it returns false'. Refute it at one input. -/
def serialGoesWrong : ChangeSpec := { name := "serialGoes", fn := fun _ => fun
  | [d1, d2, d3] => { results := [.lit (.bool false)], args := [d1, d2, d3] }
  | _ => none }
def SerialGoesWrongFalsely : Prop := serialGoesRow.holds Try.pinned (OpenSpec.ofChange serialGoesWrong)

/-- 'rhzlaw12.SerialFresh': WHATEVER THE INPUT: true; the input reads as it did. -/
def serialFreshSpec : ChangeSpec := { name := "serialFresh", fn := fun _ => fun
  | [d1, d2, d3] => { results := [.lit (.bool true)], args := [d1, d2, d3] }
  | _ => none }
def serialFreshRow : OpenClaim := { program := "ytcpihfkhhmggfaa", sum := "45fd4880b766cf9949d1d545cc56a51a4c8af42924749f138560a6d8e7ee23bf", func := "rhizome/rhzlaw12.SerialFresh", spec := "serialFresh", apart := false }
def SerialFreshSaid : Prop := serialFreshRow.holds Try.pinned (OpenSpec.ofChange serialFreshSpec)

/-- ITS FALSE NEIGHBOUR: 'it returns false'. Refute it at one input. -/
def serialFreshWrong : ChangeSpec := { name := "serialFresh", fn := fun _ => fun
  | [d1, d2, d3] => { results := [.lit (.bool false)], args := [d1, d2, d3] }
  | _ => none }
def SerialFreshWrongFalsely : Prop := serialFreshRow.holds Try.pinned (OpenSpec.ofChange serialFreshWrong)

/-- 'rhzlaw12.SerialLast': WHATEVER THE INPUT: true; the input reads as it did. -/
def serialLastSpec : ChangeSpec := { name := "serialLast", fn := fun _ => fun
  | [d1, d2] => { results := [.lit (.bool true)], args := [d1, d2] }
  | _ => none }
def serialLastRow : OpenClaim := { program := "ytcpihfkhhmggfaa", sum := "45fd4880b766cf9949d1d545cc56a51a4c8af42924749f138560a6d8e7ee23bf", func := "rhizome/rhzlaw12.SerialLast", spec := "serialLast", apart := false }
def SerialLastSaid : Prop := serialLastRow.holds Try.pinned (OpenSpec.ofChange serialLastSpec)

/-- ITS FALSE NEIGHBOUR: 'it returns false'. Refute it at one input. -/
def serialLastWrong : ChangeSpec := { name := "serialLast", fn := fun _ => fun
  | [d1, d2] => { results := [.lit (.bool false)], args := [d1, d2] }
  | _ => none }
def SerialLastWrongFalsely : Prop := serialLastRow.holds Try.pinned (OpenSpec.ofChange serialLastWrong)

/-- 'rhzlaw12.SerialClips': WHATEVER THE INPUT: true; the input reads as it did. -/
def serialClipsSpec : ChangeSpec := { name := "serialClips", fn := fun _ => fun
  | [d1, d2, d3, d4] => { results := [.lit (.bool true)], args := [d1, d2, d3, d4] }
  | _ => none }
def serialClipsRow : OpenClaim := { program := "ytcpihfkhhmggfaa", sum := "45fd4880b766cf9949d1d545cc56a51a4c8af42924749f138560a6d8e7ee23bf", func := "rhizome/rhzlaw12.SerialClips", spec := "serialClips", apart := false }
def SerialClipsSaid : Prop := serialClipsRow.holds Try.pinned (OpenSpec.ofChange serialClipsSpec)

/-- ITS FALSE NEIGHBOUR: 'it returns false'. Refute it at one input. -/
def serialClipsWrong : ChangeSpec := { name := "serialClips", fn := fun _ => fun
  | [d1, d2, d3, d4] => { results := [.lit (.bool false)], args := [d1, d2, d3, d4] }
  | _ => none }
def SerialClipsWrongFalsely : Prop := serialClipsRow.holds Try.pinned (OpenSpec.ofChange serialClipsWrong)

/- THE SECOND FORM. 'bulk': how many values and letters a reading holds, each counted each time it is reached (what is shared counts as often as it is met; a slice's spare places count too). A statement '..UptoSaid' is the law's where the arguments, and the package variables that the reading takes, are together of bulk at most 1048576: NARROWER than '..Said'. Prove '..Said' where nothing that the law and all that it calls make is longer than what came in: it says more and counts as full. Else prove '..UptoSaid'. A law counts once. -/
mutual
def uptoBulk {H : Type} : DataW H → Nat
  | .lit (.string bytes) => bytes.length + 1
  | .lit _ => 1
  | .nil => 1
  | .ptr d => uptoBulk d + 1
  | .slice elems spare => uptoBulkAll elems + uptoBulkAll spare + 1
  | .agg parts => uptoBulkAll parts + 1
  | .iface _ d => uptoBulk d + 1
  | .map entries => uptoBulkEntries entries + 1
  | .held _ => 1
def uptoBulkAll {H : Type} : List (DataW H) → Nat
  | [] => 0
  | d :: r => uptoBulk d + uptoBulkAll r
def uptoBulkEntries {H : Type} : List (Lit × DataW H) → Nat
  | [] => 0
  | x :: r => uptoBulkEntry x + uptoBulkEntries r
def uptoBulkEntry {H : Type} : Lit × DataW H → Nat
  | (.string bytes, d) => bytes.length + uptoBulk d + 1
  | (_, d) => uptoBulk d + 1
 end
def uptoSmall : (H : Type) → List (DataW H) → Bool := fun _ ds => decide (uptoBulkAll ds ≤ 1048576)
def OpenSpec.upto (s : _root_.Go.ChangeSpec) : _root_.Go.OpenSpec := { _root_.Go.OpenSpec.ofChange s with cond := some uptoSmall }

/-- 'rhzlaw1.NumWrites', WHERE WHAT IT READS IS OF BULK AT MOST 1048576: true; the input reads as it did. -/
def numWritesUptoRow : OpenClaim := { program := "ytcpihfkhhmggfaa", sum := "45fd4880b766cf9949d1d545cc56a51a4c8af42924749f138560a6d8e7ee23bf", func := "rhizome/rhzlaw1.NumWrites", spec := "numWrites", apart := false, narrowed := true }
def NumWritesUptoSaid : Prop := numWritesUptoRow.holds Try.pinned (OpenSpec.upto numWritesSpec)

/-- 'rhzlaw1.NumTexts', WHERE WHAT IT READS IS OF BULK AT MOST 1048576: true; the input reads as it did. -/
def numTextsUptoRow : OpenClaim := { program := "ytcpihfkhhmggfaa", sum := "45fd4880b766cf9949d1d545cc56a51a4c8af42924749f138560a6d8e7ee23bf", func := "rhizome/rhzlaw1.NumTexts", spec := "numTexts", apart := false, narrowed := true }
def NumTextsUptoSaid : Prop := numTextsUptoRow.holds Try.pinned (OpenSpec.upto numTextsSpec)

/-- 'rhzlaw1.NumBack', WHERE WHAT IT READS IS OF BULK AT MOST 1048576: true; the input reads as it did. -/
def numBackUptoRow : OpenClaim := { program := "ytcpihfkhhmggfaa", sum := "45fd4880b766cf9949d1d545cc56a51a4c8af42924749f138560a6d8e7ee23bf", func := "rhizome/rhzlaw1.NumBack", spec := "numBack", apart := false, narrowed := true }
def NumBackUptoSaid : Prop := numBackUptoRow.holds Try.pinned (OpenSpec.upto numBackSpec)

/-- 'rhzlaw1.NumParts', WHERE WHAT IT READS IS OF BULK AT MOST 1048576: true; the input reads as it did. -/
def numPartsUptoRow : OpenClaim := { program := "ytcpihfkhhmggfaa", sum := "45fd4880b766cf9949d1d545cc56a51a4c8af42924749f138560a6d8e7ee23bf", func := "rhizome/rhzlaw1.NumParts", spec := "numParts", apart := false, narrowed := true }
def NumPartsUptoSaid : Prop := numPartsUptoRow.holds Try.pinned (OpenSpec.upto numPartsSpec)

/-- 'rhzlaw1.NumOrder', WHERE WHAT IT READS IS OF BULK AT MOST 1048576: true; the input reads as it did. -/
def numOrderUptoRow : OpenClaim := { program := "ytcpihfkhhmggfaa", sum := "45fd4880b766cf9949d1d545cc56a51a4c8af42924749f138560a6d8e7ee23bf", func := "rhizome/rhzlaw1.NumOrder", spec := "numOrder", apart := false, narrowed := true }
def NumOrderUptoSaid : Prop := numOrderUptoRow.holds Try.pinned (OpenSpec.upto numOrderSpec)

/-- 'rhzlaw1.NumSums', WHERE WHAT IT READS IS OF BULK AT MOST 1048576: true; the input reads as it did. -/
def numSumsUptoRow : OpenClaim := { program := "ytcpihfkhhmggfaa", sum := "45fd4880b766cf9949d1d545cc56a51a4c8af42924749f138560a6d8e7ee23bf", func := "rhizome/rhzlaw1.NumSums", spec := "numSums", apart := false, narrowed := true }
def NumSumsUptoSaid : Prop := numSumsUptoRow.holds Try.pinned (OpenSpec.upto numSumsSpec)

/-- 'rhzlaw12.SerialReads', WHERE WHAT IT READS IS OF BULK AT MOST 1048576: true; the input reads as it did. -/
def serialReadsUptoRow : OpenClaim := { program := "ytcpihfkhhmggfaa", sum := "45fd4880b766cf9949d1d545cc56a51a4c8af42924749f138560a6d8e7ee23bf", func := "rhizome/rhzlaw12.SerialReads", spec := "serialReads", apart := false, narrowed := true }
def SerialReadsUptoSaid : Prop := serialReadsUptoRow.holds Try.pinned (OpenSpec.upto serialReadsSpec)

/-- 'rhzlaw12.SerialGoes', WHERE WHAT IT READS IS OF BULK AT MOST 1048576: true; the input reads as it did. -/
def serialGoesUptoRow : OpenClaim := { program := "ytcpihfkhhmggfaa", sum := "45fd4880b766cf9949d1d545cc56a51a4c8af42924749f138560a6d8e7ee23bf", func := "rhizome/rhzlaw12.SerialGoes", spec := "serialGoes", apart := false, narrowed := true }
def SerialGoesUptoSaid : Prop := serialGoesUptoRow.holds Try.pinned (OpenSpec.upto serialGoesSpec)

/-- 'rhzlaw12.SerialFresh', WHERE WHAT IT READS IS OF BULK AT MOST 1048576: true; the input reads as it did. -/
def serialFreshUptoRow : OpenClaim := { program := "ytcpihfkhhmggfaa", sum := "45fd4880b766cf9949d1d545cc56a51a4c8af42924749f138560a6d8e7ee23bf", func := "rhizome/rhzlaw12.SerialFresh", spec := "serialFresh", apart := false, narrowed := true }
def SerialFreshUptoSaid : Prop := serialFreshUptoRow.holds Try.pinned (OpenSpec.upto serialFreshSpec)

/-- 'rhzlaw12.SerialLast', WHERE WHAT IT READS IS OF BULK AT MOST 1048576: true; the input reads as it did. -/
def serialLastUptoRow : OpenClaim := { program := "ytcpihfkhhmggfaa", sum := "45fd4880b766cf9949d1d545cc56a51a4c8af42924749f138560a6d8e7ee23bf", func := "rhizome/rhzlaw12.SerialLast", spec := "serialLast", apart := false, narrowed := true }
def SerialLastUptoSaid : Prop := serialLastUptoRow.holds Try.pinned (OpenSpec.upto serialLastSpec)

/-- 'rhzlaw12.SerialClips', WHERE WHAT IT READS IS OF BULK AT MOST 1048576: true; the input reads as it did. -/
def serialClipsUptoRow : OpenClaim := { program := "ytcpihfkhhmggfaa", sum := "45fd4880b766cf9949d1d545cc56a51a4c8af42924749f138560a6d8e7ee23bf", func := "rhizome/rhzlaw12.SerialClips", spec := "serialClips", apart := false, narrowed := true }
def SerialClipsUptoSaid : Prop := serialClipsUptoRow.holds Try.pinned (OpenSpec.upto serialClipsSpec)

end Rows
end Go.Proofs.Ytcpihfkhhmggfaa
