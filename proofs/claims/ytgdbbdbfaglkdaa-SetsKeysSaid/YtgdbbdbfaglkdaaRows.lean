/-
  No cell of these rows narrows 'for every input' (looked for: loops, veiled, ifaces, maps, wideKeys, modest, calm, conditions, laid).
  DERIVED. THE GIVEN ROWS OF THIS SEAT. 10 by the template 'for every input the law returns true; each argument reads behind the call as it read before'; 0 by the template 'total and deterministic' (their statements: YtgdbbdbfaglkdaaTotals.lean).
  GIVEN WITH THE SEED: the statements are not yours to turn. If you find one false, say at which input.
  Laid BY PROGRAM, IN A SANDBOX (cutbox-rows.mjs): the forced cells as the released guide's own fill.sh prints them over the translation e9b5005fd5900c87… (all of the seat's roots in one cut). By AI agents, Wed Nov 11 2026. No macro, syntax, notation, axiom, sorry.
-/
import Derived.Test.YtgdbbdbfaglkdaaChecked
import GoSem.Claim
import GoSem.ClaimJoined
import GoSem.ClaimMapViews
import Derived.JoinedTies
import Derived.KernelRfl
namespace Go.Proofs.Ytgdbbdbfaglkdaa
/- THE CELL 'sum', in the pinned program and in every row, IS THE sha256 OF THE DUMP (.gsa) THAT YtgdbbdbfaglkdaaProg.lean LOADS. Nothing in Lean hashes anything: it is a label: what it is worth is what the hold of that sum in a sandbox is worth. -/
noncomputable def Try.pinned : Pinned := { name := "ytgdbbdbfaglkdaa", sum := "e9b5005fd5900c87a2066b503e6b565cbc673ecde964d0571784ba4c17112374", checked := Try.checked }
namespace Rows
def none {H : Type} : Left H := { results := [], args := [] }

/-- 'rhzlaw3.RdataReads': WHATEVER THE INPUT: true; the input reads as it did. -/
def rdataReadsSpec : ChangeSpec := { name := "rdataReads", fn := fun _ => fun
  | [d1, d2, d3] => { results := [.lit (.bool true)], args := [d1, d2, d3] }
  | _ => none }
def rdataReadsRow : OpenClaim := { program := "ytgdbbdbfaglkdaa", sum := "e9b5005fd5900c87a2066b503e6b565cbc673ecde964d0571784ba4c17112374", func := "rhizome/rhzlaw3.RdataReads", spec := "rdataReads", apart := false }
def RdataReadsSaid : Prop := rdataReadsRow.holds Try.pinned (OpenSpec.ofChange rdataReadsSpec)

/-- ITS FALSE NEIGHBOUR: 'it returns false'. Refute it at one input. -/
def rdataReadsWrong : ChangeSpec := { name := "rdataReads", fn := fun _ => fun
  | [d1, d2, d3] => { results := [.lit (.bool false)], args := [d1, d2, d3] }
  | _ => none }
def RdataReadsWrongFalsely : Prop := rdataReadsRow.holds Try.pinned (OpenSpec.ofChange rdataReadsWrong)

/-- 'rhzlaw3.RdataWrites': WHATEVER THE INPUT: true; the input reads as it did. -/
def rdataWritesSpec : ChangeSpec := { name := "rdataWrites", fn := fun _ => fun
  | [d1, d2, d3, d4] => { results := [.lit (.bool true)], args := [d1, d2, d3, d4] }
  | _ => none }
def rdataWritesRow : OpenClaim := { program := "ytgdbbdbfaglkdaa", sum := "e9b5005fd5900c87a2066b503e6b565cbc673ecde964d0571784ba4c17112374", func := "rhizome/rhzlaw3.RdataWrites", spec := "rdataWrites", apart := false }
def RdataWritesSaid : Prop := rdataWritesRow.holds Try.pinned (OpenSpec.ofChange rdataWritesSpec)

/-- ITS FALSE NEIGHBOUR: 'it returns false'. Refute it at one input. -/
def rdataWritesWrong : ChangeSpec := { name := "rdataWrites", fn := fun _ => fun
  | [d1, d2, d3, d4] => { results := [.lit (.bool false)], args := [d1, d2, d3, d4] }
  | _ => none }
def RdataWritesWrongFalsely : Prop := rdataWritesRow.holds Try.pinned (OpenSpec.ofChange rdataWritesWrong)

/-- 'rhzlaw3.RdataBack': WHATEVER THE INPUT: true; the input reads as it did. -/
def rdataBackSpec : ChangeSpec := { name := "rdataBack", fn := fun _ => fun
  | [d1, d2, d3, d4, d5] => { results := [.lit (.bool true)], args := [d1, d2, d3, d4, d5] }
  | _ => none }
def rdataBackRow : OpenClaim := { program := "ytgdbbdbfaglkdaa", sum := "e9b5005fd5900c87a2066b503e6b565cbc673ecde964d0571784ba4c17112374", func := "rhizome/rhzlaw3.RdataBack", spec := "rdataBack", apart := false }
def RdataBackSaid : Prop := rdataBackRow.holds Try.pinned (OpenSpec.ofChange rdataBackSpec)

/-- ITS FALSE NEIGHBOUR: 'it returns false'. Refute it at one input. -/
def rdataBackWrong : ChangeSpec := { name := "rdataBack", fn := fun _ => fun
  | [d1, d2, d3, d4, d5] => { results := [.lit (.bool false)], args := [d1, d2, d3, d4, d5] }
  | _ => none }
def RdataBackWrongFalsely : Prop := rdataBackRow.holds Try.pinned (OpenSpec.ofChange rdataBackWrong)

/-- 'rhzlaw3.RdataCuts': WHATEVER THE INPUT: true; the input reads as it did. -/
def rdataCutsSpec : ChangeSpec := { name := "rdataCuts", fn := fun _ => fun
  | [d1, d2, d3] => { results := [.lit (.bool true)], args := [d1, d2, d3] }
  | _ => none }
def rdataCutsRow : OpenClaim := { program := "ytgdbbdbfaglkdaa", sum := "e9b5005fd5900c87a2066b503e6b565cbc673ecde964d0571784ba4c17112374", func := "rhizome/rhzlaw3.RdataCuts", spec := "rdataCuts", apart := false }
def RdataCutsSaid : Prop := rdataCutsRow.holds Try.pinned (OpenSpec.ofChange rdataCutsSpec)

/-- ITS FALSE NEIGHBOUR: 'it returns false'. Refute it at one input. -/
def rdataCutsWrong : ChangeSpec := { name := "rdataCuts", fn := fun _ => fun
  | [d1, d2, d3] => { results := [.lit (.bool false)], args := [d1, d2, d3] }
  | _ => none }
def RdataCutsWrongFalsely : Prop := rdataCutsRow.holds Try.pinned (OpenSpec.ofChange rdataCutsWrong)

/-- 'rhzlaw3.RdataTexts': WHATEVER THE INPUT: true; the input reads as it did. -/
def rdataTextsSpec : ChangeSpec := { name := "rdataTexts", fn := fun _ => fun
  | [d1, d2] => { results := [.lit (.bool true)], args := [d1, d2] }
  | _ => none }
def rdataTextsRow : OpenClaim := { program := "ytgdbbdbfaglkdaa", sum := "e9b5005fd5900c87a2066b503e6b565cbc673ecde964d0571784ba4c17112374", func := "rhizome/rhzlaw3.RdataTexts", spec := "rdataTexts", apart := false }
def RdataTextsSaid : Prop := rdataTextsRow.holds Try.pinned (OpenSpec.ofChange rdataTextsSpec)

/-- ITS FALSE NEIGHBOUR: 'it returns false'. Refute it at one input. -/
def rdataTextsWrong : ChangeSpec := { name := "rdataTexts", fn := fun _ => fun
  | [d1, d2] => { results := [.lit (.bool false)], args := [d1, d2] }
  | _ => none }
def RdataTextsWrongFalsely : Prop := rdataTextsRow.holds Try.pinned (OpenSpec.ofChange rdataTextsWrong)

/-- 'rhzlaw4.SetsGroups': WHATEVER THE INPUT: true; the input reads as it did. -/
def setsGroupsSpec : ChangeSpec := { name := "setsGroups", fn := fun _ => fun
  | [d1, d2, d3] => { results := [.lit (.bool true)], args := [d1, d2, d3] }
  | _ => none }
def setsGroupsRow : OpenClaim := { program := "ytgdbbdbfaglkdaa", sum := "e9b5005fd5900c87a2066b503e6b565cbc673ecde964d0571784ba4c17112374", func := "rhizome/rhzlaw4.SetsGroups", spec := "setsGroups", inPlace := ["internal/bytealg.abigen_runtime_cmpstring"], unfollowed := true, recurses := true, apart := false }
def SetsGroupsSaid : Prop := setsGroupsRow.holds Try.pinned (OpenSpec.ofChange setsGroupsSpec)

/-- ITS FALSE NEIGHBOUR: 'it returns false'. Refute it at one input. -/
def setsGroupsWrong : ChangeSpec := { name := "setsGroups", fn := fun _ => fun
  | [d1, d2, d3] => { results := [.lit (.bool false)], args := [d1, d2, d3] }
  | _ => none }
def SetsGroupsWrongFalsely : Prop := setsGroupsRow.holds Try.pinned (OpenSpec.ofChange setsGroupsWrong)

/-- 'rhzlaw4.SetsKeys': WHATEVER THE INPUT: true; the input reads as it did. -/
def setsKeysSpec : ChangeSpec := { name := "setsKeys", fn := fun _ => fun
  | [d1, d2, d3, d4] => { results := [.lit (.bool true)], args := [d1, d2, d3, d4] }
  | _ => none }
def setsKeysRow : OpenClaim := { program := "ytgdbbdbfaglkdaa", sum := "e9b5005fd5900c87a2066b503e6b565cbc673ecde964d0571784ba4c17112374", func := "rhizome/rhzlaw4.SetsKeys", spec := "setsKeys", inPlace := ["internal/bytealg.abigen_runtime_cmpstring"], unfollowed := true, recurses := true, apart := false }
def SetsKeysSaid : Prop := setsKeysRow.holds Try.pinned (OpenSpec.ofChange setsKeysSpec)

/-- ITS FALSE NEIGHBOUR: 'it returns false'. Refute it at one input. -/
def setsKeysWrong : ChangeSpec := { name := "setsKeys", fn := fun _ => fun
  | [d1, d2, d3, d4] => { results := [.lit (.bool false)], args := [d1, d2, d3, d4] }
  | _ => none }
def SetsKeysWrongFalsely : Prop := setsKeysRow.holds Try.pinned (OpenSpec.ofChange setsKeysWrong)

/-- 'rhzlaw4.SetsBack': WHATEVER THE INPUT: true; the input reads as it did. -/
def setsBackSpec : ChangeSpec := { name := "setsBack", fn := fun _ => fun
  | [d] => { results := [.lit (.bool true)], args := [d] }
  | _ => none }
def setsBackRow : OpenClaim := { program := "ytgdbbdbfaglkdaa", sum := "e9b5005fd5900c87a2066b503e6b565cbc673ecde964d0571784ba4c17112374", func := "rhizome/rhzlaw4.SetsBack", spec := "setsBack", inPlace := ["internal/bytealg.abigen_runtime_cmpstring"], unfollowed := true, recurses := true, apart := false }
def SetsBackSaid : Prop := setsBackRow.holds Try.pinned (OpenSpec.ofChange setsBackSpec)

/-- ITS FALSE NEIGHBOUR: 'it returns false'. Refute it at one input. -/
def setsBackWrong : ChangeSpec := { name := "setsBack", fn := fun _ => fun
  | [d] => { results := [.lit (.bool false)], args := [d] }
  | _ => none }
def SetsBackWrongFalsely : Prop := setsBackRow.holds Try.pinned (OpenSpec.ofChange setsBackWrong)

/-- 'rhzlaw4.SetsOrder': WHATEVER THE INPUT: true; the input reads as it did. -/
def setsOrderSpec : ChangeSpec := { name := "setsOrder", fn := fun _ => fun
  | [d1, d2, d3] => { results := [.lit (.bool true)], args := [d1, d2, d3] }
  | _ => none }
def setsOrderRow : OpenClaim := { program := "ytgdbbdbfaglkdaa", sum := "e9b5005fd5900c87a2066b503e6b565cbc673ecde964d0571784ba4c17112374", func := "rhizome/rhzlaw4.SetsOrder", spec := "setsOrder", inPlace := ["internal/bytealg.abigen_runtime_cmpstring"], unfollowed := true, recurses := true, apart := false }
def SetsOrderSaid : Prop := setsOrderRow.holds Try.pinned (OpenSpec.ofChange setsOrderSpec)

/-- ITS FALSE NEIGHBOUR: 'it returns false'. Refute it at one input. -/
def setsOrderWrong : ChangeSpec := { name := "setsOrder", fn := fun _ => fun
  | [d1, d2, d3] => { results := [.lit (.bool false)], args := [d1, d2, d3] }
  | _ => none }
def SetsOrderWrongFalsely : Prop := setsOrderRow.holds Try.pinned (OpenSpec.ofChange setsOrderWrong)

/-- 'rhzlaw4.SetsMore': WHATEVER THE INPUT: true; the input reads as it did. -/
def setsMoreSpec : ChangeSpec := { name := "setsMore", fn := fun _ => fun
  | [d1, d2, d3] => { results := [.lit (.bool true)], args := [d1, d2, d3] }
  | _ => none }
def setsMoreRow : OpenClaim := { program := "ytgdbbdbfaglkdaa", sum := "e9b5005fd5900c87a2066b503e6b565cbc673ecde964d0571784ba4c17112374", func := "rhizome/rhzlaw4.SetsMore", spec := "setsMore", inPlace := ["internal/bytealg.abigen_runtime_cmpstring"], unfollowed := true, recurses := true, apart := false }
def SetsMoreSaid : Prop := setsMoreRow.holds Try.pinned (OpenSpec.ofChange setsMoreSpec)

/-- ITS FALSE NEIGHBOUR: 'it returns false'. Refute it at one input. -/
def setsMoreWrong : ChangeSpec := { name := "setsMore", fn := fun _ => fun
  | [d1, d2, d3] => { results := [.lit (.bool false)], args := [d1, d2, d3] }
  | _ => none }
def SetsMoreWrongFalsely : Prop := setsMoreRow.holds Try.pinned (OpenSpec.ofChange setsMoreWrong)

/- THE SECOND FORM. 'bulk': how many values and letters a reading holds, each counted each time it is reached (what is shared counts as often as it is met; a slice's spare places count too). A statement '..UptoSaid' is the law's where the arguments, and the package variables that the reading takes, are together of bulk at most 1048576: NARROWER than '..Said'. Prove '..Said' where nothing that the law and all that it calls make is longer than what came in: it says more and counts as full. Else prove '..UptoSaid'. A law counts once. -/
mutual
def uptoBulk {H : Type} : DataW H → Nat
  | .lit (.string bytes) => bytes.length + 1
  | .lit _ => 1
  | .nil => 1
  | .ptr d => uptoBulk d + 1
  | .slice elems spare => uptoBulkAll elems + uptoBulkAll spare + 1
  | .agg parts => uptoBulkAll parts + 1
  | .iface _ d => uptoBulk d + 1
  | .map entries => uptoBulkEntries entries + 1
  | .held _ => 1
def uptoBulkAll {H : Type} : List (DataW H) → Nat
  | [] => 0
  | d :: r => uptoBulk d + uptoBulkAll r
def uptoBulkEntries {H : Type} : List (Lit × DataW H) → Nat
  | [] => 0
  | x :: r => uptoBulkEntry x + uptoBulkEntries r
def uptoBulkEntry {H : Type} : Lit × DataW H → Nat
  | (.string bytes, d) => bytes.length + uptoBulk d + 1
  | (_, d) => uptoBulk d + 1
 end
def uptoSmall : (H : Type) → List (DataW H) → Bool := fun _ ds => decide (uptoBulkAll ds ≤ 1048576)
def OpenSpec.upto (s : _root_.Go.ChangeSpec) : _root_.Go.OpenSpec := { _root_.Go.OpenSpec.ofChange s with cond := some uptoSmall }

/-- 'rhzlaw3.RdataReads', WHERE WHAT IT READS IS OF BULK AT MOST 1048576: true; the input reads as it did. -/
def rdataReadsUptoRow : OpenClaim := { program := "ytgdbbdbfaglkdaa", sum := "e9b5005fd5900c87a2066b503e6b565cbc673ecde964d0571784ba4c17112374", func := "rhizome/rhzlaw3.RdataReads", spec := "rdataReads", apart := false, narrowed := true }
def RdataReadsUptoSaid : Prop := rdataReadsUptoRow.holds Try.pinned (OpenSpec.upto rdataReadsSpec)

/-- 'rhzlaw3.RdataWrites', WHERE WHAT IT READS IS OF BULK AT MOST 1048576: true; the input reads as it did. -/
def rdataWritesUptoRow : OpenClaim := { program := "ytgdbbdbfaglkdaa", sum := "e9b5005fd5900c87a2066b503e6b565cbc673ecde964d0571784ba4c17112374", func := "rhizome/rhzlaw3.RdataWrites", spec := "rdataWrites", apart := false, narrowed := true }
def RdataWritesUptoSaid : Prop := rdataWritesUptoRow.holds Try.pinned (OpenSpec.upto rdataWritesSpec)

/-- 'rhzlaw3.RdataBack', WHERE WHAT IT READS IS OF BULK AT MOST 1048576: true; the input reads as it did. -/
def rdataBackUptoRow : OpenClaim := { program := "ytgdbbdbfaglkdaa", sum := "e9b5005fd5900c87a2066b503e6b565cbc673ecde964d0571784ba4c17112374", func := "rhizome/rhzlaw3.RdataBack", spec := "rdataBack", apart := false, narrowed := true }
def RdataBackUptoSaid : Prop := rdataBackUptoRow.holds Try.pinned (OpenSpec.upto rdataBackSpec)

/-- 'rhzlaw3.RdataCuts', WHERE WHAT IT READS IS OF BULK AT MOST 1048576: true; the input reads as it did. -/
def rdataCutsUptoRow : OpenClaim := { program := "ytgdbbdbfaglkdaa", sum := "e9b5005fd5900c87a2066b503e6b565cbc673ecde964d0571784ba4c17112374", func := "rhizome/rhzlaw3.RdataCuts", spec := "rdataCuts", apart := false, narrowed := true }
def RdataCutsUptoSaid : Prop := rdataCutsUptoRow.holds Try.pinned (OpenSpec.upto rdataCutsSpec)

/-- 'rhzlaw3.RdataTexts', WHERE WHAT IT READS IS OF BULK AT MOST 1048576: true; the input reads as it did. -/
def rdataTextsUptoRow : OpenClaim := { program := "ytgdbbdbfaglkdaa", sum := "e9b5005fd5900c87a2066b503e6b565cbc673ecde964d0571784ba4c17112374", func := "rhizome/rhzlaw3.RdataTexts", spec := "rdataTexts", apart := false, narrowed := true }
def RdataTextsUptoSaid : Prop := rdataTextsUptoRow.holds Try.pinned (OpenSpec.upto rdataTextsSpec)

/-- 'rhzlaw4.SetsGroups', WHERE WHAT IT READS IS OF BULK AT MOST 1048576: true; the input reads as it did. -/
def setsGroupsUptoRow : OpenClaim := { program := "ytgdbbdbfaglkdaa", sum := "e9b5005fd5900c87a2066b503e6b565cbc673ecde964d0571784ba4c17112374", func := "rhizome/rhzlaw4.SetsGroups", spec := "setsGroups", inPlace := ["internal/bytealg.abigen_runtime_cmpstring"], unfollowed := true, recurses := true, apart := false, narrowed := true }
def SetsGroupsUptoSaid : Prop := setsGroupsUptoRow.holds Try.pinned (OpenSpec.upto setsGroupsSpec)

/-- 'rhzlaw4.SetsKeys', WHERE WHAT IT READS IS OF BULK AT MOST 1048576: true; the input reads as it did. -/
def setsKeysUptoRow : OpenClaim := { program := "ytgdbbdbfaglkdaa", sum := "e9b5005fd5900c87a2066b503e6b565cbc673ecde964d0571784ba4c17112374", func := "rhizome/rhzlaw4.SetsKeys", spec := "setsKeys", inPlace := ["internal/bytealg.abigen_runtime_cmpstring"], unfollowed := true, recurses := true, apart := false, narrowed := true }
def SetsKeysUptoSaid : Prop := setsKeysUptoRow.holds Try.pinned (OpenSpec.upto setsKeysSpec)

/-- 'rhzlaw4.SetsBack', WHERE WHAT IT READS IS OF BULK AT MOST 1048576: true; the input reads as it did. -/
def setsBackUptoRow : OpenClaim := { program := "ytgdbbdbfaglkdaa", sum := "e9b5005fd5900c87a2066b503e6b565cbc673ecde964d0571784ba4c17112374", func := "rhizome/rhzlaw4.SetsBack", spec := "setsBack", inPlace := ["internal/bytealg.abigen_runtime_cmpstring"], unfollowed := true, recurses := true, apart := false, narrowed := true }
def SetsBackUptoSaid : Prop := setsBackUptoRow.holds Try.pinned (OpenSpec.upto setsBackSpec)

/-- 'rhzlaw4.SetsOrder', WHERE WHAT IT READS IS OF BULK AT MOST 1048576: true; the input reads as it did. -/
def setsOrderUptoRow : OpenClaim := { program := "ytgdbbdbfaglkdaa", sum := "e9b5005fd5900c87a2066b503e6b565cbc673ecde964d0571784ba4c17112374", func := "rhizome/rhzlaw4.SetsOrder", spec := "setsOrder", inPlace := ["internal/bytealg.abigen_runtime_cmpstring"], unfollowed := true, recurses := true, apart := false, narrowed := true }
def SetsOrderUptoSaid : Prop := setsOrderUptoRow.holds Try.pinned (OpenSpec.upto setsOrderSpec)

/-- 'rhzlaw4.SetsMore', WHERE WHAT IT READS IS OF BULK AT MOST 1048576: true; the input reads as it did. -/
def setsMoreUptoRow : OpenClaim := { program := "ytgdbbdbfaglkdaa", sum := "e9b5005fd5900c87a2066b503e6b565cbc673ecde964d0571784ba4c17112374", func := "rhizome/rhzlaw4.SetsMore", spec := "setsMore", inPlace := ["internal/bytealg.abigen_runtime_cmpstring"], unfollowed := true, recurses := true, apart := false, narrowed := true }
def SetsMoreUptoSaid : Prop := setsMoreUptoRow.holds Try.pinned (OpenSpec.upto setsMoreSpec)

end Rows
end Go.Proofs.Ytgdbbdbfaglkdaa
