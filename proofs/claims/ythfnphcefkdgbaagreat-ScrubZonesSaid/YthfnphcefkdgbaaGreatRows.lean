/-
  No cell of these rows narrows 'for every input' (looked for: loops, veiled, ifaces, maps, wideKeys, modest, calm, conditions, laid).
  DERIVED. THE GIVEN ROWS OF THIS SEAT. 4 by the template 'for every input the law returns true; each argument reads behind the call as it read before'; 0 by the template 'total and deterministic' (their statements: YthfnphcefkdgbaaGreatTotals.lean).
  GIVEN WITH THE SEED: the statements are not yours to turn. If you find one false, say at which input.
  Laid BY PROGRAM, IN A SANDBOX (cutbox-rows.mjs): the forced cells as the released guide's own fill.sh prints them over the translation 3a9f70557d2c3617… (all of the seat's roots in one cut). By AI agents, Wed Nov 11 2026. No macro, syntax, notation, axiom, sorry.
-/
import Derived.Test.YthfnphcefkdgbaaGreatChecked
import GoSem.Claim
import GoSem.ClaimJoined
import GoSem.ClaimMapViews
import Derived.JoinedTies
import Derived.KernelRfl
namespace Go.Proofs.YthfnphcefkdgbaaGreat
/- THE CELL 'sum', in the pinned program and in every row, IS THE sha256 OF THE DUMP (.gsa) THAT YthfnphcefkdgbaaGreatProg.lean LOADS. Nothing in Lean hashes anything: it is a label: what it is worth is what the hold of that sum in a sandbox is worth. -/
noncomputable def Tryz.pinned : Pinned := { name := "ythfnphcefkdgbaagreat", sum := "3a9f70557d2c3617158ebe754fab17d21f61b7afd9a0cfaf0f5eeb217043510b", checked := Tryz.checked }
namespace Rows
def none {H : Type} : Left H := { results := [], args := [] }

/-- 'rhzlaw10.ZoneReads': WHATEVER THE INPUT: true; the input reads as it did. -/
def zoneReadsSpec : ChangeSpec := { name := "zoneReads", fn := fun _ => fun
  | [d1, d2, d3, d4] => { results := [.lit (.bool true)], args := [d1, d2, d3, d4] }
  | _ => none }
def zoneReadsRow : OpenClaim := { program := "ythfnphcefkdgbaagreat", sum := "3a9f70557d2c3617158ebe754fab17d21f61b7afd9a0cfaf0f5eeb217043510b", func := "rhizome/rhzlaw10.ZoneReads", spec := "zoneReads", inPlace := ["internal/bytealg.abigen_runtime_cmpstring"], unfollowed := true, recurses := true, apart := false }
def ZoneReadsSaid : Prop := zoneReadsRow.holds Tryz.pinned (OpenSpec.ofChange zoneReadsSpec)

/-- ITS FALSE NEIGHBOUR: 'it returns false'. Refute it at one input. -/
def zoneReadsWrong : ChangeSpec := { name := "zoneReads", fn := fun _ => fun
  | [d1, d2, d3, d4] => { results := [.lit (.bool false)], args := [d1, d2, d3, d4] }
  | _ => none }
def ZoneReadsWrongFalsely : Prop := zoneReadsRow.holds Tryz.pinned (OpenSpec.ofChange zoneReadsWrong)

/-- 'rhzlaw11.AuthMessages': WHATEVER THE INPUT: true; the input reads as it did. -/
def authMessagesSpec : ChangeSpec := { name := "authMessages", fn := fun _ => fun
  | [d1, d2, d3, d4] => { results := [.lit (.bool true)], args := [d1, d2, d3, d4] }
  | _ => none }
def authMessagesRow : OpenClaim := { program := "ythfnphcefkdgbaagreat", sum := "3a9f70557d2c3617158ebe754fab17d21f61b7afd9a0cfaf0f5eeb217043510b", func := "rhizome/rhzlaw11.AuthMessages", spec := "authMessages", inPlace := ["internal/bytealg.abigen_runtime_cmpstring"], unfollowed := true, recurses := true, apart := false }
def AuthMessagesSaid : Prop := authMessagesRow.holds Tryz.pinned (OpenSpec.ofChange authMessagesSpec)

/-- ITS FALSE NEIGHBOUR: 'it returns false'. Refute it at one input. -/
def authMessagesWrong : ChangeSpec := { name := "authMessages", fn := fun _ => fun
  | [d1, d2, d3, d4] => { results := [.lit (.bool false)], args := [d1, d2, d3, d4] }
  | _ => none }
def AuthMessagesWrongFalsely : Prop := authMessagesRow.holds Tryz.pinned (OpenSpec.ofChange authMessagesWrong)

/-- 'rhzlaw19.ScrubReads': WHATEVER THE INPUT: true; the input reads as it did. -/
def scrubReadsSpec : ChangeSpec := { name := "scrubReads", fn := fun _ => fun
  | [d1, d2, d3] => { results := [.lit (.bool true)], args := [d1, d2, d3] }
  | _ => none }
def scrubReadsRow : OpenClaim := { program := "ythfnphcefkdgbaagreat", sum := "3a9f70557d2c3617158ebe754fab17d21f61b7afd9a0cfaf0f5eeb217043510b", func := "rhizome/rhzlaw19.ScrubReads", spec := "scrubReads", inPlace := ["internal/bytealg.abigen_runtime_cmpstring"], unfollowed := true, recurses := true, apart := false }
def ScrubReadsSaid : Prop := scrubReadsRow.holds Tryz.pinned (OpenSpec.ofChange scrubReadsSpec)

/-- ITS FALSE NEIGHBOUR: 'it returns false'. Refute it at one input. -/
def scrubReadsWrong : ChangeSpec := { name := "scrubReads", fn := fun _ => fun
  | [d1, d2, d3] => { results := [.lit (.bool false)], args := [d1, d2, d3] }
  | _ => none }
def ScrubReadsWrongFalsely : Prop := scrubReadsRow.holds Tryz.pinned (OpenSpec.ofChange scrubReadsWrong)

/-- 'rhzlaw19.ScrubZones': WHATEVER THE INPUT: true; the input reads as it did. -/
def scrubZonesSpec : ChangeSpec := { name := "scrubZones", fn := fun _ => fun
  | [d1, d2, d3] => { results := [.lit (.bool true)], args := [d1, d2, d3] }
  | _ => none }
def scrubZonesRow : OpenClaim := { program := "ythfnphcefkdgbaagreat", sum := "3a9f70557d2c3617158ebe754fab17d21f61b7afd9a0cfaf0f5eeb217043510b", func := "rhizome/rhzlaw19.ScrubZones", spec := "scrubZones", inPlace := ["internal/bytealg.abigen_runtime_cmpstring"], unfollowed := true, recurses := true, apart := false }
def ScrubZonesSaid : Prop := scrubZonesRow.holds Tryz.pinned (OpenSpec.ofChange scrubZonesSpec)

/-- ITS FALSE NEIGHBOUR: 'it returns false'. Refute it at one input. -/
def scrubZonesWrong : ChangeSpec := { name := "scrubZones", fn := fun _ => fun
  | [d1, d2, d3] => { results := [.lit (.bool false)], args := [d1, d2, d3] }
  | _ => none }
def ScrubZonesWrongFalsely : Prop := scrubZonesRow.holds Tryz.pinned (OpenSpec.ofChange scrubZonesWrong)

/- THE SECOND FORM. 'bulk': how many values and letters a reading holds, each counted each time it is reached (what is shared counts as often as it is met; a slice's spare places count too). A statement '..UptoSaid' is the law's where the arguments, and the package variables that the reading takes, are together of bulk at most 1048576: NARROWER than '..Said'. Prove '..Said' where nothing that the law and all that it calls make is longer than what came in: it says more and counts as full. Else prove '..UptoSaid'. A law counts once. -/
mutual
def uptoBulk {H : Type} : DataW H → Nat
  | .lit (.string bytes) => bytes.length + 1
  | .lit _ => 1
  | .nil => 1
  | .ptr d => uptoBulk d + 1
  | .slice elems spare => uptoBulkAll elems + uptoBulkAll spare + 1
  | .agg parts => uptoBulkAll parts + 1
  | .iface _ d => uptoBulk d + 1
  | .map entries => uptoBulkEntries entries + 1
  | .held _ => 1
def uptoBulkAll {H : Type} : List (DataW H) → Nat
  | [] => 0
  | d :: r => uptoBulk d + uptoBulkAll r
def uptoBulkEntries {H : Type} : List (Lit × DataW H) → Nat
  | [] => 0
  | x :: r => uptoBulkEntry x + uptoBulkEntries r
def uptoBulkEntry {H : Type} : Lit × DataW H → Nat
  | (.string bytes, d) => bytes.length + uptoBulk d + 1
  | (_, d) => uptoBulk d + 1
 end
def uptoSmall : (H : Type) → List (DataW H) → Bool := fun _ ds => decide (uptoBulkAll ds ≤ 1048576)
def OpenSpec.upto (s : _root_.Go.ChangeSpec) : _root_.Go.OpenSpec := { _root_.Go.OpenSpec.ofChange s with cond := some uptoSmall }

/-- 'rhzlaw10.ZoneReads', WHERE WHAT IT READS IS OF BULK AT MOST 1048576: true; the input reads as it did. -/
def zoneReadsUptoRow : OpenClaim := { program := "ythfnphcefkdgbaagreat", sum := "3a9f70557d2c3617158ebe754fab17d21f61b7afd9a0cfaf0f5eeb217043510b", func := "rhizome/rhzlaw10.ZoneReads", spec := "zoneReads", inPlace := ["internal/bytealg.abigen_runtime_cmpstring"], unfollowed := true, recurses := true, apart := false, narrowed := true }
def ZoneReadsUptoSaid : Prop := zoneReadsUptoRow.holds Tryz.pinned (OpenSpec.upto zoneReadsSpec)

/-- 'rhzlaw11.AuthMessages', WHERE WHAT IT READS IS OF BULK AT MOST 1048576: true; the input reads as it did. -/
def authMessagesUptoRow : OpenClaim := { program := "ythfnphcefkdgbaagreat", sum := "3a9f70557d2c3617158ebe754fab17d21f61b7afd9a0cfaf0f5eeb217043510b", func := "rhizome/rhzlaw11.AuthMessages", spec := "authMessages", inPlace := ["internal/bytealg.abigen_runtime_cmpstring"], unfollowed := true, recurses := true, apart := false, narrowed := true }
def AuthMessagesUptoSaid : Prop := authMessagesUptoRow.holds Tryz.pinned (OpenSpec.upto authMessagesSpec)

/-- 'rhzlaw19.ScrubReads', WHERE WHAT IT READS IS OF BULK AT MOST 1048576: true; the input reads as it did. -/
def scrubReadsUptoRow : OpenClaim := { program := "ythfnphcefkdgbaagreat", sum := "3a9f70557d2c3617158ebe754fab17d21f61b7afd9a0cfaf0f5eeb217043510b", func := "rhizome/rhzlaw19.ScrubReads", spec := "scrubReads", inPlace := ["internal/bytealg.abigen_runtime_cmpstring"], unfollowed := true, recurses := true, apart := false, narrowed := true }
def ScrubReadsUptoSaid : Prop := scrubReadsUptoRow.holds Tryz.pinned (OpenSpec.upto scrubReadsSpec)

/-- 'rhzlaw19.ScrubZones', WHERE WHAT IT READS IS OF BULK AT MOST 1048576: true; the input reads as it did. -/
def scrubZonesUptoRow : OpenClaim := { program := "ythfnphcefkdgbaagreat", sum := "3a9f70557d2c3617158ebe754fab17d21f61b7afd9a0cfaf0f5eeb217043510b", func := "rhizome/rhzlaw19.ScrubZones", spec := "scrubZones", inPlace := ["internal/bytealg.abigen_runtime_cmpstring"], unfollowed := true, recurses := true, apart := false, narrowed := true }
def ScrubZonesUptoSaid : Prop := scrubZonesUptoRow.holds Tryz.pinned (OpenSpec.upto scrubZonesSpec)

end Rows
end Go.Proofs.YthfnphcefkdgbaaGreat
