/-
  No cell of these rows narrows 'for every input' (looked for: loops, veiled, ifaces, maps, wideKeys, modest, calm, conditions, laid).
  DERIVED. THE GIVEN ROWS OF THIS SEAT. 10 by the template 'for every input the law returns true; each argument reads behind the call as it read before'; 0 by the template 'total and deterministic' (their statements: YtkoafkajmfodkaaTotals.lean).
  GIVEN WITH THE SEED: the statements are not yours to turn. If you find one false, say at which input.
  Laid BY PROGRAM, IN A SANDBOX (cutbox-rows.mjs): the forced cells as the released guide's own fill.sh prints them over the translation d6314fa4a5ce3ac2… (all of the seat's roots in one cut). By AI agents, Wed Nov 11 2026. No macro, syntax, notation, axiom, sorry.
-/
import Derived.Test.YtkoafkajmfodkaaChecked
import GoSem.Claim
import GoSem.ClaimJoined
import GoSem.ClaimMapViews
import Derived.JoinedTies
import Derived.KernelRfl
namespace Go.Proofs.Ytkoafkajmfodkaa
/- THE CELL 'sum', in the pinned program and in every row, IS THE sha256 OF THE DUMP (.gsa) THAT YtkoafkajmfodkaaProg.lean LOADS. Nothing in Lean hashes anything: it is a label: what it is worth is what the hold of that sum in a sandbox is worth. -/
noncomputable def Try.pinned : Pinned := { name := "ytkoafkajmfodkaa", sum := "d6314fa4a5ce3ac204e94c5ec38b9ff76637b433916e70559cc7ea792596733b", checked := Try.checked }
namespace Rows
def none {H : Type} : Left H := { results := [], args := [] }

/-- 'rhzlaw5.WireWrites': WHATEVER THE INPUT: true; the input reads as it did. -/
def wireWritesSpec : ChangeSpec := { name := "wireWrites", fn := fun _ => fun
  | [d1, d2, d3, d4] => { results := [.lit (.bool true)], args := [d1, d2, d3, d4] }
  | _ => none }
def wireWritesRow : OpenClaim := { program := "ytkoafkajmfodkaa", sum := "d6314fa4a5ce3ac204e94c5ec38b9ff76637b433916e70559cc7ea792596733b", func := "rhizome/rhzlaw5.WireWrites", spec := "wireWrites", apart := false }
def WireWritesSaid : Prop := wireWritesRow.holds Try.pinned (OpenSpec.ofChange wireWritesSpec)

/-- ITS FALSE NEIGHBOUR: 'it returns false'. Refute it at one input. -/
def wireWritesWrong : ChangeSpec := { name := "wireWrites", fn := fun _ => fun
  | [d1, d2, d3, d4] => { results := [.lit (.bool false)], args := [d1, d2, d3, d4] }
  | _ => none }
def WireWritesWrongFalsely : Prop := wireWritesRow.holds Try.pinned (OpenSpec.ofChange wireWritesWrong)

/-- 'rhzlaw5.WireReads': WHATEVER THE INPUT: true; the input reads as it did. -/
def wireReadsSpec : ChangeSpec := { name := "wireReads", fn := fun _ => fun
  | [d] => { results := [.lit (.bool true)], args := [d] }
  | _ => none }
def wireReadsRow : OpenClaim := { program := "ytkoafkajmfodkaa", sum := "d6314fa4a5ce3ac204e94c5ec38b9ff76637b433916e70559cc7ea792596733b", func := "rhizome/rhzlaw5.WireReads", spec := "wireReads", apart := false }
def WireReadsSaid : Prop := wireReadsRow.holds Try.pinned (OpenSpec.ofChange wireReadsSpec)

/-- ITS FALSE NEIGHBOUR: 'it returns false'. Refute it at one input. -/
def wireReadsWrong : ChangeSpec := { name := "wireReads", fn := fun _ => fun
  | [d] => { results := [.lit (.bool false)], args := [d] }
  | _ => none }
def WireReadsWrongFalsely : Prop := wireReadsRow.holds Try.pinned (OpenSpec.ofChange wireReadsWrong)

/-- 'rhzlaw5.WireAdds': WHATEVER THE INPUT: true; the input reads as it did. -/
def wireAddsSpec : ChangeSpec := { name := "wireAdds", fn := fun _ => fun
  | [d1, d2, d3, d4, d5] => { results := [.lit (.bool true)], args := [d1, d2, d3, d4, d5] }
  | _ => none }
def wireAddsRow : OpenClaim := { program := "ytkoafkajmfodkaa", sum := "d6314fa4a5ce3ac204e94c5ec38b9ff76637b433916e70559cc7ea792596733b", func := "rhizome/rhzlaw5.WireAdds", spec := "wireAdds", apart := false }
def WireAddsSaid : Prop := wireAddsRow.holds Try.pinned (OpenSpec.ofChange wireAddsSpec)

/-- ITS FALSE NEIGHBOUR: 'it returns false'. Refute it at one input. -/
def wireAddsWrong : ChangeSpec := { name := "wireAdds", fn := fun _ => fun
  | [d1, d2, d3, d4, d5] => { results := [.lit (.bool false)], args := [d1, d2, d3, d4, d5] }
  | _ => none }
def WireAddsWrongFalsely : Prop := wireAddsRow.holds Try.pinned (OpenSpec.ofChange wireAddsWrong)

/-- 'rhzlaw5.WireBack': WHATEVER THE INPUT: true; the input reads as it did. -/
def wireBackSpec : ChangeSpec := { name := "wireBack", fn := fun _ => fun
  | [d1, d2, d3] => { results := [.lit (.bool true)], args := [d1, d2, d3] }
  | _ => none }
def wireBackRow : OpenClaim := { program := "ytkoafkajmfodkaa", sum := "d6314fa4a5ce3ac204e94c5ec38b9ff76637b433916e70559cc7ea792596733b", func := "rhizome/rhzlaw5.WireBack", spec := "wireBack", apart := false }
def WireBackSaid : Prop := wireBackRow.holds Try.pinned (OpenSpec.ofChange wireBackSpec)

/-- ITS FALSE NEIGHBOUR: 'it returns false'. Refute it at one input. -/
def wireBackWrong : ChangeSpec := { name := "wireBack", fn := fun _ => fun
  | [d1, d2, d3] => { results := [.lit (.bool false)], args := [d1, d2, d3] }
  | _ => none }
def WireBackWrongFalsely : Prop := wireBackRow.holds Try.pinned (OpenSpec.ofChange wireBackWrong)

/-- 'rhzlaw5.WireFlags': WHATEVER THE INPUT: true; the input reads as it did. -/
def wireFlagsSpec : ChangeSpec := { name := "wireFlags", fn := fun _ => fun
  | [d1, d2] => { results := [.lit (.bool true)], args := [d1, d2] }
  | _ => none }
def wireFlagsRow : OpenClaim := { program := "ytkoafkajmfodkaa", sum := "d6314fa4a5ce3ac204e94c5ec38b9ff76637b433916e70559cc7ea792596733b", func := "rhizome/rhzlaw5.WireFlags", spec := "wireFlags", apart := false }
def WireFlagsSaid : Prop := wireFlagsRow.holds Try.pinned (OpenSpec.ofChange wireFlagsSpec)

/-- ITS FALSE NEIGHBOUR: 'it returns false'. Refute it at one input. -/
def wireFlagsWrong : ChangeSpec := { name := "wireFlags", fn := fun _ => fun
  | [d1, d2] => { results := [.lit (.bool false)], args := [d1, d2] }
  | _ => none }
def WireFlagsWrongFalsely : Prop := wireFlagsRow.holds Try.pinned (OpenSpec.ofChange wireFlagsWrong)

/-- 'rhzlaw5.WirePlaces': WHATEVER THE INPUT: true; the input reads as it did. -/
def wirePlacesSpec : ChangeSpec := { name := "wirePlaces", fn := fun _ => fun
  | [d1, d2, d3] => { results := [.lit (.bool true)], args := [d1, d2, d3] }
  | _ => none }
def wirePlacesRow : OpenClaim := { program := "ytkoafkajmfodkaa", sum := "d6314fa4a5ce3ac204e94c5ec38b9ff76637b433916e70559cc7ea792596733b", func := "rhizome/rhzlaw5.WirePlaces", spec := "wirePlaces", apart := false }
def WirePlacesSaid : Prop := wirePlacesRow.holds Try.pinned (OpenSpec.ofChange wirePlacesSpec)

/-- ITS FALSE NEIGHBOUR: 'it returns false'. Refute it at one input. -/
def wirePlacesWrong : ChangeSpec := { name := "wirePlaces", fn := fun _ => fun
  | [d1, d2, d3] => { results := [.lit (.bool false)], args := [d1, d2, d3] }
  | _ => none }
def WirePlacesWrongFalsely : Prop := wirePlacesRow.holds Try.pinned (OpenSpec.ofChange wirePlacesWrong)

/-- 'rhzlaw5.WireAsks': WHATEVER THE INPUT: true; the input reads as it did. -/
def wireAsksSpec : ChangeSpec := { name := "wireAsks", fn := fun _ => fun
  | [d1, d2, d3] => { results := [.lit (.bool true)], args := [d1, d2, d3] }
  | _ => none }
def wireAsksRow : OpenClaim := { program := "ytkoafkajmfodkaa", sum := "d6314fa4a5ce3ac204e94c5ec38b9ff76637b433916e70559cc7ea792596733b", func := "rhizome/rhzlaw5.WireAsks", spec := "wireAsks", apart := false }
def WireAsksSaid : Prop := wireAsksRow.holds Try.pinned (OpenSpec.ofChange wireAsksSpec)

/-- ITS FALSE NEIGHBOUR: 'it returns false'. Refute it at one input. -/
def wireAsksWrong : ChangeSpec := { name := "wireAsks", fn := fun _ => fun
  | [d1, d2, d3] => { results := [.lit (.bool false)], args := [d1, d2, d3] }
  | _ => none }
def WireAsksWrongFalsely : Prop := wireAsksRow.holds Try.pinned (OpenSpec.ofChange wireAsksWrong)

/-- 'rhzlaw6.EdnsReads': WHATEVER THE INPUT: true; the input reads as it did. -/
def ednsReadsSpec : ChangeSpec := { name := "ednsReads", fn := fun _ => fun
  | [d1, d2, d3, d4] => { results := [.lit (.bool true)], args := [d1, d2, d3, d4] }
  | _ => none }
def ednsReadsRow : OpenClaim := { program := "ytkoafkajmfodkaa", sum := "d6314fa4a5ce3ac204e94c5ec38b9ff76637b433916e70559cc7ea792596733b", func := "rhizome/rhzlaw6.EdnsReads", spec := "ednsReads", unfollowed := true, recurses := true, apart := false }
def EdnsReadsSaid : Prop := ednsReadsRow.holds Try.pinned (OpenSpec.ofChange ednsReadsSpec)

/-- ITS FALSE NEIGHBOUR: 'it returns false'. Refute it at one input. -/
def ednsReadsWrong : ChangeSpec := { name := "ednsReads", fn := fun _ => fun
  | [d1, d2, d3, d4] => { results := [.lit (.bool false)], args := [d1, d2, d3, d4] }
  | _ => none }
def EdnsReadsWrongFalsely : Prop := ednsReadsRow.holds Try.pinned (OpenSpec.ofChange ednsReadsWrong)

/-- 'rhzlaw6.EdnsBack': WHATEVER THE INPUT: true; the input reads as it did. -/
def ednsBackSpec : ChangeSpec := { name := "ednsBack", fn := fun _ => fun
  | [d1, d2] => { results := [.lit (.bool true)], args := [d1, d2] }
  | _ => none }
def ednsBackRow : OpenClaim := { program := "ytkoafkajmfodkaa", sum := "d6314fa4a5ce3ac204e94c5ec38b9ff76637b433916e70559cc7ea792596733b", func := "rhizome/rhzlaw6.EdnsBack", spec := "ednsBack", unfollowed := true, recurses := true, apart := false }
def EdnsBackSaid : Prop := ednsBackRow.holds Try.pinned (OpenSpec.ofChange ednsBackSpec)

/-- ITS FALSE NEIGHBOUR: 'it returns false'. Refute it at one input. -/
def ednsBackWrong : ChangeSpec := { name := "ednsBack", fn := fun _ => fun
  | [d1, d2] => { results := [.lit (.bool false)], args := [d1, d2] }
  | _ => none }
def EdnsBackWrongFalsely : Prop := ednsBackRow.holds Try.pinned (OpenSpec.ofChange ednsBackWrong)

/-- 'rhzlaw6.EdnsSizes': WHATEVER THE INPUT: true; the input reads as it did. -/
def ednsSizesSpec : ChangeSpec := { name := "ednsSizes", fn := fun _ => fun
  | [d1, d2, d3, d4] => { results := [.lit (.bool true)], args := [d1, d2, d3, d4] }
  | _ => none }
def ednsSizesRow : OpenClaim := { program := "ytkoafkajmfodkaa", sum := "d6314fa4a5ce3ac204e94c5ec38b9ff76637b433916e70559cc7ea792596733b", func := "rhizome/rhzlaw6.EdnsSizes", spec := "ednsSizes", unfollowed := true, recurses := true, apart := false }
def EdnsSizesSaid : Prop := ednsSizesRow.holds Try.pinned (OpenSpec.ofChange ednsSizesSpec)

/-- ITS FALSE NEIGHBOUR: 'it returns false'. Refute it at one input. -/
def ednsSizesWrong : ChangeSpec := { name := "ednsSizes", fn := fun _ => fun
  | [d1, d2, d3, d4] => { results := [.lit (.bool false)], args := [d1, d2, d3, d4] }
  | _ => none }
def EdnsSizesWrongFalsely : Prop := ednsSizesRow.holds Try.pinned (OpenSpec.ofChange ednsSizesWrong)

/- THE SECOND FORM. 'bulk': how many values and letters a reading holds, each counted each time it is reached (what is shared counts as often as it is met; a slice's spare places count too). A statement '..UptoSaid' is the law's where the arguments, and the package variables that the reading takes, are together of bulk at most 1048576: NARROWER than '..Said'. Prove '..Said' where nothing that the law and all that it calls make is longer than what came in: it says more and counts as full. Else prove '..UptoSaid'. A law counts once. -/
mutual
def uptoBulk {H : Type} : DataW H → Nat
  | .lit (.string bytes) => bytes.length + 1
  | .lit _ => 1
  | .nil => 1
  | .ptr d => uptoBulk d + 1
  | .slice elems spare => uptoBulkAll elems + uptoBulkAll spare + 1
  | .agg parts => uptoBulkAll parts + 1
  | .iface _ d => uptoBulk d + 1
  | .map entries => uptoBulkEntries entries + 1
  | .held _ => 1
def uptoBulkAll {H : Type} : List (DataW H) → Nat
  | [] => 0
  | d :: r => uptoBulk d + uptoBulkAll r
def uptoBulkEntries {H : Type} : List (Lit × DataW H) → Nat
  | [] => 0
  | x :: r => uptoBulkEntry x + uptoBulkEntries r
def uptoBulkEntry {H : Type} : Lit × DataW H → Nat
  | (.string bytes, d) => bytes.length + uptoBulk d + 1
  | (_, d) => uptoBulk d + 1
 end
def uptoSmall : (H : Type) → List (DataW H) → Bool := fun _ ds => decide (uptoBulkAll ds ≤ 1048576)
def OpenSpec.upto (s : _root_.Go.ChangeSpec) : _root_.Go.OpenSpec := { _root_.Go.OpenSpec.ofChange s with cond := some uptoSmall }

/-- 'rhzlaw5.WireWrites', WHERE WHAT IT READS IS OF BULK AT MOST 1048576: true; the input reads as it did. -/
def wireWritesUptoRow : OpenClaim := { program := "ytkoafkajmfodkaa", sum := "d6314fa4a5ce3ac204e94c5ec38b9ff76637b433916e70559cc7ea792596733b", func := "rhizome/rhzlaw5.WireWrites", spec := "wireWrites", apart := false, narrowed := true }
def WireWritesUptoSaid : Prop := wireWritesUptoRow.holds Try.pinned (OpenSpec.upto wireWritesSpec)

/-- 'rhzlaw5.WireReads', WHERE WHAT IT READS IS OF BULK AT MOST 1048576: true; the input reads as it did. -/
def wireReadsUptoRow : OpenClaim := { program := "ytkoafkajmfodkaa", sum := "d6314fa4a5ce3ac204e94c5ec38b9ff76637b433916e70559cc7ea792596733b", func := "rhizome/rhzlaw5.WireReads", spec := "wireReads", apart := false, narrowed := true }
def WireReadsUptoSaid : Prop := wireReadsUptoRow.holds Try.pinned (OpenSpec.upto wireReadsSpec)

/-- 'rhzlaw5.WireAdds', WHERE WHAT IT READS IS OF BULK AT MOST 1048576: true; the input reads as it did. -/
def wireAddsUptoRow : OpenClaim := { program := "ytkoafkajmfodkaa", sum := "d6314fa4a5ce3ac204e94c5ec38b9ff76637b433916e70559cc7ea792596733b", func := "rhizome/rhzlaw5.WireAdds", spec := "wireAdds", apart := false, narrowed := true }
def WireAddsUptoSaid : Prop := wireAddsUptoRow.holds Try.pinned (OpenSpec.upto wireAddsSpec)

/-- 'rhzlaw5.WireBack', WHERE WHAT IT READS IS OF BULK AT MOST 1048576: true; the input reads as it did. -/
def wireBackUptoRow : OpenClaim := { program := "ytkoafkajmfodkaa", sum := "d6314fa4a5ce3ac204e94c5ec38b9ff76637b433916e70559cc7ea792596733b", func := "rhizome/rhzlaw5.WireBack", spec := "wireBack", apart := false, narrowed := true }
def WireBackUptoSaid : Prop := wireBackUptoRow.holds Try.pinned (OpenSpec.upto wireBackSpec)

/-- 'rhzlaw5.WireFlags', WHERE WHAT IT READS IS OF BULK AT MOST 1048576: true; the input reads as it did. -/
def wireFlagsUptoRow : OpenClaim := { program := "ytkoafkajmfodkaa", sum := "d6314fa4a5ce3ac204e94c5ec38b9ff76637b433916e70559cc7ea792596733b", func := "rhizome/rhzlaw5.WireFlags", spec := "wireFlags", apart := false, narrowed := true }
def WireFlagsUptoSaid : Prop := wireFlagsUptoRow.holds Try.pinned (OpenSpec.upto wireFlagsSpec)

/-- 'rhzlaw5.WirePlaces', WHERE WHAT IT READS IS OF BULK AT MOST 1048576: true; the input reads as it did. -/
def wirePlacesUptoRow : OpenClaim := { program := "ytkoafkajmfodkaa", sum := "d6314fa4a5ce3ac204e94c5ec38b9ff76637b433916e70559cc7ea792596733b", func := "rhizome/rhzlaw5.WirePlaces", spec := "wirePlaces", apart := false, narrowed := true }
def WirePlacesUptoSaid : Prop := wirePlacesUptoRow.holds Try.pinned (OpenSpec.upto wirePlacesSpec)

/-- 'rhzlaw5.WireAsks', WHERE WHAT IT READS IS OF BULK AT MOST 1048576: true; the input reads as it did. -/
def wireAsksUptoRow : OpenClaim := { program := "ytkoafkajmfodkaa", sum := "d6314fa4a5ce3ac204e94c5ec38b9ff76637b433916e70559cc7ea792596733b", func := "rhizome/rhzlaw5.WireAsks", spec := "wireAsks", apart := false, narrowed := true }
def WireAsksUptoSaid : Prop := wireAsksUptoRow.holds Try.pinned (OpenSpec.upto wireAsksSpec)

/-- 'rhzlaw6.EdnsReads', WHERE WHAT IT READS IS OF BULK AT MOST 1048576: true; the input reads as it did. -/
def ednsReadsUptoRow : OpenClaim := { program := "ytkoafkajmfodkaa", sum := "d6314fa4a5ce3ac204e94c5ec38b9ff76637b433916e70559cc7ea792596733b", func := "rhizome/rhzlaw6.EdnsReads", spec := "ednsReads", unfollowed := true, recurses := true, apart := false, narrowed := true }
def EdnsReadsUptoSaid : Prop := ednsReadsUptoRow.holds Try.pinned (OpenSpec.upto ednsReadsSpec)

/-- 'rhzlaw6.EdnsBack', WHERE WHAT IT READS IS OF BULK AT MOST 1048576: true; the input reads as it did. -/
def ednsBackUptoRow : OpenClaim := { program := "ytkoafkajmfodkaa", sum := "d6314fa4a5ce3ac204e94c5ec38b9ff76637b433916e70559cc7ea792596733b", func := "rhizome/rhzlaw6.EdnsBack", spec := "ednsBack", unfollowed := true, recurses := true, apart := false, narrowed := true }
def EdnsBackUptoSaid : Prop := ednsBackUptoRow.holds Try.pinned (OpenSpec.upto ednsBackSpec)

/-- 'rhzlaw6.EdnsSizes', WHERE WHAT IT READS IS OF BULK AT MOST 1048576: true; the input reads as it did. -/
def ednsSizesUptoRow : OpenClaim := { program := "ytkoafkajmfodkaa", sum := "d6314fa4a5ce3ac204e94c5ec38b9ff76637b433916e70559cc7ea792596733b", func := "rhizome/rhzlaw6.EdnsSizes", spec := "ednsSizes", unfollowed := true, recurses := true, apart := false, narrowed := true }
def EdnsSizesUptoSaid : Prop := ednsSizesUptoRow.holds Try.pinned (OpenSpec.upto ednsSizesSpec)

end Rows
end Go.Proofs.Ytkoafkajmfodkaa
