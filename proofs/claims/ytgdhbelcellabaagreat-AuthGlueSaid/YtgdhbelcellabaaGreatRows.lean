/-
  No cell of these rows narrows 'for every input' (looked for: loops, veiled, ifaces, maps, wideKeys, modest, calm, conditions, laid).
  DERIVED. THE GIVEN ROWS OF THIS SEAT. 4 by the template 'for every input the law returns true; each argument reads behind the call as it read before'; 0 by the template 'total and deterministic' (their statements: YtgdhbelcellabaaGreatTotals.lean).
  GIVEN WITH THE SEED: the statements are not yours to turn. If you find one false, say at which input.
  Laid BY PROGRAM, IN A SANDBOX (cutbox-rows.mjs): the forced cells as the released guide's own fill.sh prints them over the translation 693e7eea0fc1f67a… (all of the seat's roots in one cut). By AI agents, Wed Nov 11 2026. No macro, syntax, notation, axiom, sorry.
-/
import Derived.Test.YtgdhbelcellabaaGreatChecked
import GoSem.Claim
import GoSem.ClaimJoined
import GoSem.ClaimMapViews
import Derived.JoinedTies
import Derived.KernelRfl
namespace Go.Proofs.YtgdhbelcellabaaGreat
/- THE CELL 'sum', in the pinned program and in every row, IS THE sha256 OF THE DUMP (.gsa) THAT YtgdhbelcellabaaGreatProg.lean LOADS. Nothing in Lean hashes anything: it is a label: what it is worth is what the hold of that sum in a sandbox is worth. -/
noncomputable def Tryz.pinned : Pinned := { name := "ytgdhbelcellabaagreat", sum := "693e7eea0fc1f67a7fd547e5731e8eb8fed9ee164021ac54e13fddcb67e489b5", checked := Tryz.checked }
namespace Rows
def none {H : Type} : Left H := { results := [], args := [] }

/-- 'rhzlaw10.ZoneReads': WHATEVER THE INPUT: true; the input reads as it did. -/
def zoneReadsSpec : ChangeSpec := { name := "zoneReads", fn := fun _ => fun
  | [d1, d2, d3, d4] => { results := [.lit (.bool true)], args := [d1, d2, d3, d4] }
  | _ => none }
def zoneReadsRow : OpenClaim := { program := "ytgdhbelcellabaagreat", sum := "693e7eea0fc1f67a7fd547e5731e8eb8fed9ee164021ac54e13fddcb67e489b5", func := "rhizome/rhzlaw10.ZoneReads", spec := "zoneReads", inPlace := ["internal/bytealg.abigen_runtime_cmpstring"], unfollowed := true, recurses := true, apart := false }
def ZoneReadsSaid : Prop := zoneReadsRow.holds Tryz.pinned (OpenSpec.ofChange zoneReadsSpec)

/-- ITS FALSE NEIGHBOUR: 'it returns false'. Refute it at one input. -/
def zoneReadsWrong : ChangeSpec := { name := "zoneReads", fn := fun _ => fun
  | [d1, d2, d3, d4] => { results := [.lit (.bool false)], args := [d1, d2, d3, d4] }
  | _ => none }
def ZoneReadsWrongFalsely : Prop := zoneReadsRow.holds Tryz.pinned (OpenSpec.ofChange zoneReadsWrong)

/-- 'rhzlaw11.AuthOnly': WHATEVER THE INPUT: true; the input reads as it did. -/
def authOnlySpec : ChangeSpec := { name := "authOnly", fn := fun _ => fun
  | [d1, d2, d3] => { results := [.lit (.bool true)], args := [d1, d2, d3] }
  | _ => none }
def authOnlyRow : OpenClaim := { program := "ytgdhbelcellabaagreat", sum := "693e7eea0fc1f67a7fd547e5731e8eb8fed9ee164021ac54e13fddcb67e489b5", func := "rhizome/rhzlaw11.AuthOnly", spec := "authOnly", inPlace := ["internal/bytealg.abigen_runtime_cmpstring"], unfollowed := true, recurses := true, apart := false }
def AuthOnlySaid : Prop := authOnlyRow.holds Tryz.pinned (OpenSpec.ofChange authOnlySpec)

/-- ITS FALSE NEIGHBOUR: 'it returns false'. Refute it at one input. -/
def authOnlyWrong : ChangeSpec := { name := "authOnly", fn := fun _ => fun
  | [d1, d2, d3] => { results := [.lit (.bool false)], args := [d1, d2, d3] }
  | _ => none }
def AuthOnlyWrongFalsely : Prop := authOnlyRow.holds Tryz.pinned (OpenSpec.ofChange authOnlyWrong)

/-- 'rhzlaw11.AuthGlue': WHATEVER THE INPUT: true; the input reads as it did. -/
def authGlueSpec : ChangeSpec := { name := "authGlue", fn := fun _ => fun
  | [d1, d2, d3] => { results := [.lit (.bool true)], args := [d1, d2, d3] }
  | _ => none }
def authGlueRow : OpenClaim := { program := "ytgdhbelcellabaagreat", sum := "693e7eea0fc1f67a7fd547e5731e8eb8fed9ee164021ac54e13fddcb67e489b5", func := "rhizome/rhzlaw11.AuthGlue", spec := "authGlue", inPlace := ["internal/bytealg.abigen_runtime_cmpstring"], unfollowed := true, recurses := true, apart := false }
def AuthGlueSaid : Prop := authGlueRow.holds Tryz.pinned (OpenSpec.ofChange authGlueSpec)

/-- ITS FALSE NEIGHBOUR: 'it returns false'. Refute it at one input. -/
def authGlueWrong : ChangeSpec := { name := "authGlue", fn := fun _ => fun
  | [d1, d2, d3] => { results := [.lit (.bool false)], args := [d1, d2, d3] }
  | _ => none }
def AuthGlueWrongFalsely : Prop := authGlueRow.holds Tryz.pinned (OpenSpec.ofChange authGlueWrong)

/-- 'rhzlaw11.AuthMessages': WHATEVER THE INPUT: true; the input reads as it did. -/
def authMessagesSpec : ChangeSpec := { name := "authMessages", fn := fun _ => fun
  | [d1, d2, d3, d4] => { results := [.lit (.bool true)], args := [d1, d2, d3, d4] }
  | _ => none }
def authMessagesRow : OpenClaim := { program := "ytgdhbelcellabaagreat", sum := "693e7eea0fc1f67a7fd547e5731e8eb8fed9ee164021ac54e13fddcb67e489b5", func := "rhizome/rhzlaw11.AuthMessages", spec := "authMessages", inPlace := ["internal/bytealg.abigen_runtime_cmpstring"], unfollowed := true, recurses := true, apart := false }
def AuthMessagesSaid : Prop := authMessagesRow.holds Tryz.pinned (OpenSpec.ofChange authMessagesSpec)

/-- ITS FALSE NEIGHBOUR: 'it returns false'. Refute it at one input. -/
def authMessagesWrong : ChangeSpec := { name := "authMessages", fn := fun _ => fun
  | [d1, d2, d3, d4] => { results := [.lit (.bool false)], args := [d1, d2, d3, d4] }
  | _ => none }
def AuthMessagesWrongFalsely : Prop := authMessagesRow.holds Tryz.pinned (OpenSpec.ofChange authMessagesWrong)

/- THE SECOND FORM. 'bulk': how many values and letters a reading holds, each counted each time it is reached (what is shared counts as often as it is met; a slice's spare places count too). A statement '..UptoSaid' is the law's where the arguments, and the package variables that the reading takes, are together of bulk at most 1048576: NARROWER than '..Said'. Prove '..Said' where nothing that the law and all that it calls make is longer than what came in: it says more and counts as full. Else prove '..UptoSaid'. A law counts once. -/
mutual
def uptoBulk {H : Type} : DataW H → Nat
  | .lit (.string bytes) => bytes.length + 1
  | .lit _ => 1
  | .nil => 1
  | .ptr d => uptoBulk d + 1
  | .slice elems spare => uptoBulkAll elems + uptoBulkAll spare + 1
  | .agg parts => uptoBulkAll parts + 1
  | .iface _ d => uptoBulk d + 1
  | .map entries => uptoBulkEntries entries + 1
  | .held _ => 1
def uptoBulkAll {H : Type} : List (DataW H) → Nat
  | [] => 0
  | d :: r => uptoBulk d + uptoBulkAll r
def uptoBulkEntries {H : Type} : List (Lit × DataW H) → Nat
  | [] => 0
  | x :: r => uptoBulkEntry x + uptoBulkEntries r
def uptoBulkEntry {H : Type} : Lit × DataW H → Nat
  | (.string bytes, d) => bytes.length + uptoBulk d + 1
  | (_, d) => uptoBulk d + 1
 end
def uptoSmall : (H : Type) → List (DataW H) → Bool := fun _ ds => decide (uptoBulkAll ds ≤ 1048576)
def OpenSpec.upto (s : _root_.Go.ChangeSpec) : _root_.Go.OpenSpec := { _root_.Go.OpenSpec.ofChange s with cond := some uptoSmall }

/-- 'rhzlaw10.ZoneReads', WHERE WHAT IT READS IS OF BULK AT MOST 1048576: true; the input reads as it did. -/
def zoneReadsUptoRow : OpenClaim := { program := "ytgdhbelcellabaagreat", sum := "693e7eea0fc1f67a7fd547e5731e8eb8fed9ee164021ac54e13fddcb67e489b5", func := "rhizome/rhzlaw10.ZoneReads", spec := "zoneReads", inPlace := ["internal/bytealg.abigen_runtime_cmpstring"], unfollowed := true, recurses := true, apart := false, narrowed := true }
def ZoneReadsUptoSaid : Prop := zoneReadsUptoRow.holds Tryz.pinned (OpenSpec.upto zoneReadsSpec)

/-- 'rhzlaw11.AuthOnly', WHERE WHAT IT READS IS OF BULK AT MOST 1048576: true; the input reads as it did. -/
def authOnlyUptoRow : OpenClaim := { program := "ytgdhbelcellabaagreat", sum := "693e7eea0fc1f67a7fd547e5731e8eb8fed9ee164021ac54e13fddcb67e489b5", func := "rhizome/rhzlaw11.AuthOnly", spec := "authOnly", inPlace := ["internal/bytealg.abigen_runtime_cmpstring"], unfollowed := true, recurses := true, apart := false, narrowed := true }
def AuthOnlyUptoSaid : Prop := authOnlyUptoRow.holds Tryz.pinned (OpenSpec.upto authOnlySpec)

/-- 'rhzlaw11.AuthGlue', WHERE WHAT IT READS IS OF BULK AT MOST 1048576: true; the input reads as it did. -/
def authGlueUptoRow : OpenClaim := { program := "ytgdhbelcellabaagreat", sum := "693e7eea0fc1f67a7fd547e5731e8eb8fed9ee164021ac54e13fddcb67e489b5", func := "rhizome/rhzlaw11.AuthGlue", spec := "authGlue", inPlace := ["internal/bytealg.abigen_runtime_cmpstring"], unfollowed := true, recurses := true, apart := false, narrowed := true }
def AuthGlueUptoSaid : Prop := authGlueUptoRow.holds Tryz.pinned (OpenSpec.upto authGlueSpec)

/-- 'rhzlaw11.AuthMessages', WHERE WHAT IT READS IS OF BULK AT MOST 1048576: true; the input reads as it did. -/
def authMessagesUptoRow : OpenClaim := { program := "ytgdhbelcellabaagreat", sum := "693e7eea0fc1f67a7fd547e5731e8eb8fed9ee164021ac54e13fddcb67e489b5", func := "rhizome/rhzlaw11.AuthMessages", spec := "authMessages", inPlace := ["internal/bytealg.abigen_runtime_cmpstring"], unfollowed := true, recurses := true, apart := false, narrowed := true }
def AuthMessagesUptoSaid : Prop := authMessagesUptoRow.holds Tryz.pinned (OpenSpec.upto authMessagesSpec)

end Rows
end Go.Proofs.YtgdhbelcellabaaGreat
