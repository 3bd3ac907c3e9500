/-
  No cell of these rows narrows 'for every input' (looked for: loops, veiled, ifaces, maps, wideKeys, modest, calm, conditions, laid).
  DERIVED. THE GIVEN ROWS OF THIS SEAT. 6 by the template 'for every input the law returns true; each argument reads behind the call as it read before'; 0 by the template 'total and deterministic' (their statements: YtgdhbelcellabaaTotals.lean).
  GIVEN WITH THE SEED: the statements are not yours to turn. If you find one false, say at which input.
  Laid BY PROGRAM, IN A SANDBOX (cutbox-rows.mjs): the forced cells as the released guide's own fill.sh prints them over the translation bf61b7c3ded53a4c… (all of the seat's roots in one cut). By AI agents, Wed Nov 11 2026. No macro, syntax, notation, axiom, sorry.
-/
import Derived.Test.YtgdhbelcellabaaChecked
import GoSem.Claim
import GoSem.ClaimJoined
import GoSem.ClaimMapViews
import Derived.JoinedTies
import Derived.KernelRfl
namespace Go.Proofs.Ytgdhbelcellabaa
/- THE CELL 'sum', in the pinned program and in every row, IS THE sha256 OF THE DUMP (.gsa) THAT YtgdhbelcellabaaProg.lean LOADS. Nothing in Lean hashes anything: it is a label: what it is worth is what the hold of that sum in a sandbox is worth. -/
noncomputable def Try.pinned : Pinned := { name := "ytgdhbelcellabaa", sum := "bf61b7c3ded53a4ce0663244f7361cb4fa51026a7c07140485d63a39a77f9e56", checked := Try.checked }
namespace Rows
def none {H : Type} : Left H := { results := [], args := [] }

/-- 'rhzlaw10.ZoneBack': WHATEVER THE INPUT: true; the input reads as it did. -/
def zoneBackSpec : ChangeSpec := { name := "zoneBack", fn := fun _ => fun
  | [d1, d2] => { results := [.lit (.bool true)], args := [d1, d2] }
  | _ => none }
def zoneBackRow : OpenClaim := { program := "ytgdhbelcellabaa", sum := "bf61b7c3ded53a4ce0663244f7361cb4fa51026a7c07140485d63a39a77f9e56", func := "rhizome/rhzlaw10.ZoneBack", spec := "zoneBack", inPlace := ["internal/bytealg.abigen_runtime_cmpstring"], unfollowed := true, recurses := true, apart := false }
def ZoneBackSaid : Prop := zoneBackRow.holds Try.pinned (OpenSpec.ofChange zoneBackSpec)

/-- ITS FALSE NEIGHBOUR: 'it returns false'. Refute it at one input. -/
def zoneBackWrong : ChangeSpec := { name := "zoneBack", fn := fun _ => fun
  | [d1, d2] => { results := [.lit (.bool false)], args := [d1, d2] }
  | _ => none }
def ZoneBackWrongFalsely : Prop := zoneBackRow.holds Try.pinned (OpenSpec.ofChange zoneBackWrong)

/-- 'rhzlaw10.ZoneCuts': WHATEVER THE INPUT: true; the input reads as it did. -/
def zoneCutsSpec : ChangeSpec := { name := "zoneCuts", fn := fun _ => fun
  | [d1, d2, d3] => { results := [.lit (.bool true)], args := [d1, d2, d3] }
  | _ => none }
def zoneCutsRow : OpenClaim := { program := "ytgdhbelcellabaa", sum := "bf61b7c3ded53a4ce0663244f7361cb4fa51026a7c07140485d63a39a77f9e56", func := "rhizome/rhzlaw10.ZoneCuts", spec := "zoneCuts", inPlace := ["internal/bytealg.abigen_runtime_cmpstring"], unfollowed := true, recurses := true, apart := false }
def ZoneCutsSaid : Prop := zoneCutsRow.holds Try.pinned (OpenSpec.ofChange zoneCutsSpec)

/-- ITS FALSE NEIGHBOUR: 'it returns false'. Refute it at one input. -/
def zoneCutsWrong : ChangeSpec := { name := "zoneCuts", fn := fun _ => fun
  | [d1, d2, d3] => { results := [.lit (.bool false)], args := [d1, d2, d3] }
  | _ => none }
def ZoneCutsWrongFalsely : Prop := zoneCutsRow.holds Try.pinned (OpenSpec.ofChange zoneCutsWrong)

/-- 'rhzlaw10.ZoneMore': WHATEVER THE INPUT: true; the input reads as it did. -/
def zoneMoreSpec : ChangeSpec := { name := "zoneMore", fn := fun _ => fun
  | [d1, d2, d3] => { results := [.lit (.bool true)], args := [d1, d2, d3] }
  | _ => none }
def zoneMoreRow : OpenClaim := { program := "ytgdhbelcellabaa", sum := "bf61b7c3ded53a4ce0663244f7361cb4fa51026a7c07140485d63a39a77f9e56", func := "rhizome/rhzlaw10.ZoneMore", spec := "zoneMore", inPlace := ["internal/bytealg.abigen_runtime_cmpstring"], unfollowed := true, recurses := true, apart := false }
def ZoneMoreSaid : Prop := zoneMoreRow.holds Try.pinned (OpenSpec.ofChange zoneMoreSpec)

/-- ITS FALSE NEIGHBOUR: 'it returns false'. Refute it at one input. -/
def zoneMoreWrong : ChangeSpec := { name := "zoneMore", fn := fun _ => fun
  | [d1, d2, d3] => { results := [.lit (.bool false)], args := [d1, d2, d3] }
  | _ => none }
def ZoneMoreWrongFalsely : Prop := zoneMoreRow.holds Try.pinned (OpenSpec.ofChange zoneMoreWrong)

/-- 'rhzlaw10.ZoneOrder': WHATEVER THE INPUT: true; the input reads as it did. -/
def zoneOrderSpec : ChangeSpec := { name := "zoneOrder", fn := fun _ => fun
  | [d1, d2, d3] => { results := [.lit (.bool true)], args := [d1, d2, d3] }
  | _ => none }
def zoneOrderRow : OpenClaim := { program := "ytgdhbelcellabaa", sum := "bf61b7c3ded53a4ce0663244f7361cb4fa51026a7c07140485d63a39a77f9e56", func := "rhizome/rhzlaw10.ZoneOrder", spec := "zoneOrder", inPlace := ["internal/bytealg.abigen_runtime_cmpstring"], unfollowed := true, recurses := true, apart := false }
def ZoneOrderSaid : Prop := zoneOrderRow.holds Try.pinned (OpenSpec.ofChange zoneOrderSpec)

/-- ITS FALSE NEIGHBOUR: 'it returns false'. Refute it at one input. -/
def zoneOrderWrong : ChangeSpec := { name := "zoneOrder", fn := fun _ => fun
  | [d1, d2, d3] => { results := [.lit (.bool false)], args := [d1, d2, d3] }
  | _ => none }
def ZoneOrderWrongFalsely : Prop := zoneOrderRow.holds Try.pinned (OpenSpec.ofChange zoneOrderWrong)

/-- 'rhzlaw11.AuthEach': WHATEVER THE INPUT: true; the input reads as it did. -/
def authEachSpec : ChangeSpec := { name := "authEach", fn := fun _ => fun
  | [d1, d2] => { results := [.lit (.bool true)], args := [d1, d2] }
  | _ => none }
def authEachRow : OpenClaim := { program := "ytgdhbelcellabaa", sum := "bf61b7c3ded53a4ce0663244f7361cb4fa51026a7c07140485d63a39a77f9e56", func := "rhizome/rhzlaw11.AuthEach", spec := "authEach", inPlace := ["internal/bytealg.abigen_runtime_cmpstring"], unfollowed := true, recurses := true, apart := false }
def AuthEachSaid : Prop := authEachRow.holds Try.pinned (OpenSpec.ofChange authEachSpec)

/-- ITS FALSE NEIGHBOUR: 'it returns false'. Refute it at one input. -/
def authEachWrong : ChangeSpec := { name := "authEach", fn := fun _ => fun
  | [d1, d2] => { results := [.lit (.bool false)], args := [d1, d2] }
  | _ => none }
def AuthEachWrongFalsely : Prop := authEachRow.holds Try.pinned (OpenSpec.ofChange authEachWrong)

/-- 'rhzlaw11.AuthTwice': WHATEVER THE INPUT: true; the input reads as it did. -/
def authTwiceSpec : ChangeSpec := { name := "authTwice", fn := fun _ => fun
  | [d1, d2, d3, d4, d5] => { results := [.lit (.bool true)], args := [d1, d2, d3, d4, d5] }
  | _ => none }
def authTwiceRow : OpenClaim := { program := "ytgdhbelcellabaa", sum := "bf61b7c3ded53a4ce0663244f7361cb4fa51026a7c07140485d63a39a77f9e56", func := "rhizome/rhzlaw11.AuthTwice", spec := "authTwice", inPlace := ["internal/bytealg.abigen_runtime_cmpstring"], unfollowed := true, recurses := true, apart := false }
def AuthTwiceSaid : Prop := authTwiceRow.holds Try.pinned (OpenSpec.ofChange authTwiceSpec)

/-- ITS FALSE NEIGHBOUR: 'it returns false'. Refute it at one input. -/
def authTwiceWrong : ChangeSpec := { name := "authTwice", fn := fun _ => fun
  | [d1, d2, d3, d4, d5] => { results := [.lit (.bool false)], args := [d1, d2, d3, d4, d5] }
  | _ => none }
def AuthTwiceWrongFalsely : Prop := authTwiceRow.holds Try.pinned (OpenSpec.ofChange authTwiceWrong)

/- THE SECOND FORM. 'bulk': how many values and letters a reading holds, each counted each time it is reached (what is shared counts as often as it is met; a slice's spare places count too). A statement '..UptoSaid' is the law's where the arguments, and the package variables that the reading takes, are together of bulk at most 1048576: NARROWER than '..Said'. Prove '..Said' where nothing that the law and all that it calls make is longer than what came in: it says more and counts as full. Else prove '..UptoSaid'. A law counts once. -/
mutual
def uptoBulk {H : Type} : DataW H → Nat
  | .lit (.string bytes) => bytes.length + 1
  | .lit _ => 1
  | .nil => 1
  | .ptr d => uptoBulk d + 1
  | .slice elems spare => uptoBulkAll elems + uptoBulkAll spare + 1
  | .agg parts => uptoBulkAll parts + 1
  | .iface _ d => uptoBulk d + 1
  | .map entries => uptoBulkEntries entries + 1
  | .held _ => 1
def uptoBulkAll {H : Type} : List (DataW H) → Nat
  | [] => 0
  | d :: r => uptoBulk d + uptoBulkAll r
def uptoBulkEntries {H : Type} : List (Lit × DataW H) → Nat
  | [] => 0
  | x :: r => uptoBulkEntry x + uptoBulkEntries r
def uptoBulkEntry {H : Type} : Lit × DataW H → Nat
  | (.string bytes, d) => bytes.length + uptoBulk d + 1
  | (_, d) => uptoBulk d + 1
 end
def uptoSmall : (H : Type) → List (DataW H) → Bool := fun _ ds => decide (uptoBulkAll ds ≤ 1048576)
def OpenSpec.upto (s : _root_.Go.ChangeSpec) : _root_.Go.OpenSpec := { _root_.Go.OpenSpec.ofChange s with cond := some uptoSmall }

/-- 'rhzlaw10.ZoneBack', WHERE WHAT IT READS IS OF BULK AT MOST 1048576: true; the input reads as it did. -/
def zoneBackUptoRow : OpenClaim := { program := "ytgdhbelcellabaa", sum := "bf61b7c3ded53a4ce0663244f7361cb4fa51026a7c07140485d63a39a77f9e56", func := "rhizome/rhzlaw10.ZoneBack", spec := "zoneBack", inPlace := ["internal/bytealg.abigen_runtime_cmpstring"], unfollowed := true, recurses := true, apart := false, narrowed := true }
def ZoneBackUptoSaid : Prop := zoneBackUptoRow.holds Try.pinned (OpenSpec.upto zoneBackSpec)

/-- 'rhzlaw10.ZoneCuts', WHERE WHAT IT READS IS OF BULK AT MOST 1048576: true; the input reads as it did. -/
def zoneCutsUptoRow : OpenClaim := { program := "ytgdhbelcellabaa", sum := "bf61b7c3ded53a4ce0663244f7361cb4fa51026a7c07140485d63a39a77f9e56", func := "rhizome/rhzlaw10.ZoneCuts", spec := "zoneCuts", inPlace := ["internal/bytealg.abigen_runtime_cmpstring"], unfollowed := true, recurses := true, apart := false, narrowed := true }
def ZoneCutsUptoSaid : Prop := zoneCutsUptoRow.holds Try.pinned (OpenSpec.upto zoneCutsSpec)

/-- 'rhzlaw10.ZoneMore', WHERE WHAT IT READS IS OF BULK AT MOST 1048576: true; the input reads as it did. -/
def zoneMoreUptoRow : OpenClaim := { program := "ytgdhbelcellabaa", sum := "bf61b7c3ded53a4ce0663244f7361cb4fa51026a7c07140485d63a39a77f9e56", func := "rhizome/rhzlaw10.ZoneMore", spec := "zoneMore", inPlace := ["internal/bytealg.abigen_runtime_cmpstring"], unfollowed := true, recurses := true, apart := false, narrowed := true }
def ZoneMoreUptoSaid : Prop := zoneMoreUptoRow.holds Try.pinned (OpenSpec.upto zoneMoreSpec)

/-- 'rhzlaw10.ZoneOrder', WHERE WHAT IT READS IS OF BULK AT MOST 1048576: true; the input reads as it did. -/
def zoneOrderUptoRow : OpenClaim := { program := "ytgdhbelcellabaa", sum := "bf61b7c3ded53a4ce0663244f7361cb4fa51026a7c07140485d63a39a77f9e56", func := "rhizome/rhzlaw10.ZoneOrder", spec := "zoneOrder", inPlace := ["internal/bytealg.abigen_runtime_cmpstring"], unfollowed := true, recurses := true, apart := false, narrowed := true }
def ZoneOrderUptoSaid : Prop := zoneOrderUptoRow.holds Try.pinned (OpenSpec.upto zoneOrderSpec)

/-- 'rhzlaw11.AuthEach', WHERE WHAT IT READS IS OF BULK AT MOST 1048576: true; the input reads as it did. -/
def authEachUptoRow : OpenClaim := { program := "ytgdhbelcellabaa", sum := "bf61b7c3ded53a4ce0663244f7361cb4fa51026a7c07140485d63a39a77f9e56", func := "rhizome/rhzlaw11.AuthEach", spec := "authEach", inPlace := ["internal/bytealg.abigen_runtime_cmpstring"], unfollowed := true, recurses := true, apart := false, narrowed := true }
def AuthEachUptoSaid : Prop := authEachUptoRow.holds Try.pinned (OpenSpec.upto authEachSpec)

/-- 'rhzlaw11.AuthTwice', WHERE WHAT IT READS IS OF BULK AT MOST 1048576: true; the input reads as it did. -/
def authTwiceUptoRow : OpenClaim := { program := "ytgdhbelcellabaa", sum := "bf61b7c3ded53a4ce0663244f7361cb4fa51026a7c07140485d63a39a77f9e56", func := "rhizome/rhzlaw11.AuthTwice", spec := "authTwice", inPlace := ["internal/bytealg.abigen_runtime_cmpstring"], unfollowed := true, recurses := true, apart := false, narrowed := true }
def AuthTwiceUptoSaid : Prop := authTwiceUptoRow.holds Try.pinned (OpenSpec.upto authTwiceSpec)

end Rows
end Go.Proofs.Ytgdhbelcellabaa
