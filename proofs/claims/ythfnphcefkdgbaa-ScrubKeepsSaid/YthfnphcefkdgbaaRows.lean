/-
  No cell of these rows narrows 'for every input' (looked for: loops, veiled, ifaces, maps, wideKeys, modest, calm, conditions, laid).
  DERIVED. THE GIVEN ROWS OF THIS SEAT. 7 by the template 'for every input the law returns true; each argument reads behind the call as it read before'; 0 by the template 'total and deterministic' (their statements: YthfnphcefkdgbaaTotals.lean).
  GIVEN WITH THE SEED: the statements are not yours to turn. If you find one false, say at which input.
  Laid BY PROGRAM, IN A SANDBOX (cutbox-rows.mjs): the forced cells as the released guide's own fill.sh prints them over the translation bead1dc91cd901b5… (all of the seat's roots in one cut). By AI agents, Wed Nov 11 2026. No macro, syntax, notation, axiom, sorry.
-/
import Derived.Test.YthfnphcefkdgbaaChecked
import GoSem.Claim
import GoSem.ClaimJoined
import GoSem.ClaimMapViews
import Derived.JoinedTies
import Derived.KernelRfl
namespace Go.Proofs.Ythfnphcefkdgbaa
/- THE CELL 'sum', in the pinned program and in every row, IS THE sha256 OF THE DUMP (.gsa) THAT YthfnphcefkdgbaaProg.lean LOADS. Nothing in Lean hashes anything: it is a label: what it is worth is what the hold of that sum in a sandbox is worth. -/
noncomputable def Try.pinned : Pinned := { name := "ythfnphcefkdgbaa", sum := "bead1dc91cd901b54fbb1c4f697753dbb675de89536f0b66325afb25235933a3", checked := Try.checked }
namespace Rows
def none {H : Type} : Left H := { results := [], args := [] }

/-- 'rhzlaw18.CacheKeeps': WHATEVER THE INPUT: true; the input reads as it did. -/
def cacheKeepsSpec : ChangeSpec := { name := "cacheKeeps", fn := fun _ => fun
  | [d1, d2] => { results := [.lit (.bool true)], args := [d1, d2] }
  | _ => none }
def cacheKeepsRow : OpenClaim := { program := "ythfnphcefkdgbaa", sum := "bead1dc91cd901b54fbb1c4f697753dbb675de89536f0b66325afb25235933a3", func := "rhizome/rhzlaw18.CacheKeeps", spec := "cacheKeeps", inPlace := ["internal/bytealg.abigen_runtime_cmpstring"], unfollowed := true, recurses := true, plainKeys := false, apart := false }
def CacheKeepsSaid : Prop := cacheKeepsRow.holds Try.pinned (OpenSpec.ofChange cacheKeepsSpec)

/-- ITS FALSE NEIGHBOUR: 'it returns false'. Refute it at one input. -/
def cacheKeepsWrong : ChangeSpec := { name := "cacheKeeps", fn := fun _ => fun
  | [d1, d2] => { results := [.lit (.bool false)], args := [d1, d2] }
  | _ => none }
def CacheKeepsWrongFalsely : Prop := cacheKeepsRow.holds Try.pinned (OpenSpec.ofChange cacheKeepsWrong)

/-- 'rhzlaw18.CacheCuts': WHATEVER THE INPUT: true; the input reads as it did. -/
def cacheCutsSpec : ChangeSpec := { name := "cacheCuts", fn := fun _ => fun
  | [d1, d2, d3, d4] => { results := [.lit (.bool true)], args := [d1, d2, d3, d4] }
  | _ => none }
def cacheCutsRow : OpenClaim := { program := "ythfnphcefkdgbaa", sum := "bead1dc91cd901b54fbb1c4f697753dbb675de89536f0b66325afb25235933a3", func := "rhizome/rhzlaw18.CacheCuts", spec := "cacheCuts", unfollowed := true, recurses := true, plainKeys := false, apart := false }
def CacheCutsSaid : Prop := cacheCutsRow.holds Try.pinned (OpenSpec.ofChange cacheCutsSpec)

/-- ITS FALSE NEIGHBOUR: 'it returns false'. Refute it at one input. -/
def cacheCutsWrong : ChangeSpec := { name := "cacheCuts", fn := fun _ => fun
  | [d1, d2, d3, d4] => { results := [.lit (.bool false)], args := [d1, d2, d3, d4] }
  | _ => none }
def CacheCutsWrongFalsely : Prop := cacheCutsRow.holds Try.pinned (OpenSpec.ofChange cacheCutsWrong)

/-- 'rhzlaw18.CacheNegatives': WHATEVER THE INPUT: true; the input reads as it did. -/
def cacheNegativesSpec : ChangeSpec := { name := "cacheNegatives", fn := fun _ => fun
  | [d1, d2, d3, d4] => { results := [.lit (.bool true)], args := [d1, d2, d3, d4] }
  | _ => none }
def cacheNegativesRow : OpenClaim := { program := "ythfnphcefkdgbaa", sum := "bead1dc91cd901b54fbb1c4f697753dbb675de89536f0b66325afb25235933a3", func := "rhizome/rhzlaw18.CacheNegatives", spec := "cacheNegatives", unfollowed := true, recurses := true, plainKeys := false, apart := false }
def CacheNegativesSaid : Prop := cacheNegativesRow.holds Try.pinned (OpenSpec.ofChange cacheNegativesSpec)

/-- ITS FALSE NEIGHBOUR: 'it returns false'. Refute it at one input. -/
def cacheNegativesWrong : ChangeSpec := { name := "cacheNegatives", fn := fun _ => fun
  | [d1, d2, d3, d4] => { results := [.lit (.bool false)], args := [d1, d2, d3, d4] }
  | _ => none }
def CacheNegativesWrongFalsely : Prop := cacheNegativesRow.holds Try.pinned (OpenSpec.ofChange cacheNegativesWrong)

/-- 'rhzlaw18.CacheTimes': WHATEVER THE INPUT: true; the input reads as it did. -/
def cacheTimesSpec : ChangeSpec := { name := "cacheTimes", fn := fun _ => fun
  | [d1, d2, d3, d4, d5, d6] => { results := [.lit (.bool true)], args := [d1, d2, d3, d4, d5, d6] }
  | _ => none }
def cacheTimesRow : OpenClaim := { program := "ythfnphcefkdgbaa", sum := "bead1dc91cd901b54fbb1c4f697753dbb675de89536f0b66325afb25235933a3", func := "rhizome/rhzlaw18.CacheTimes", spec := "cacheTimes", unfollowed := true, recurses := true, plainKeys := false, apart := false }
def CacheTimesSaid : Prop := cacheTimesRow.holds Try.pinned (OpenSpec.ofChange cacheTimesSpec)

/-- ITS FALSE NEIGHBOUR: 'it returns false'. Refute it at one input. -/
def cacheTimesWrong : ChangeSpec := { name := "cacheTimes", fn := fun _ => fun
  | [d1, d2, d3, d4, d5, d6] => { results := [.lit (.bool false)], args := [d1, d2, d3, d4, d5, d6] }
  | _ => none }
def CacheTimesWrongFalsely : Prop := cacheTimesRow.holds Try.pinned (OpenSpec.ofChange cacheTimesWrong)

/-- 'rhzlaw18.CacheRoom': WHATEVER THE INPUT: true; the input reads as it did. -/
def cacheRoomSpec : ChangeSpec := { name := "cacheRoom", fn := fun _ => fun
  | [d1, d2, d3] => { results := [.lit (.bool true)], args := [d1, d2, d3] }
  | _ => none }
def cacheRoomRow : OpenClaim := { program := "ythfnphcefkdgbaa", sum := "bead1dc91cd901b54fbb1c4f697753dbb675de89536f0b66325afb25235933a3", func := "rhizome/rhzlaw18.CacheRoom", spec := "cacheRoom", unfollowed := true, recurses := true, plainKeys := false, apart := false }
def CacheRoomSaid : Prop := cacheRoomRow.holds Try.pinned (OpenSpec.ofChange cacheRoomSpec)

/-- ITS FALSE NEIGHBOUR: 'it returns false'. Refute it at one input. -/
def cacheRoomWrong : ChangeSpec := { name := "cacheRoom", fn := fun _ => fun
  | [d1, d2, d3] => { results := [.lit (.bool false)], args := [d1, d2, d3] }
  | _ => none }
def CacheRoomWrongFalsely : Prop := cacheRoomRow.holds Try.pinned (OpenSpec.ofChange cacheRoomWrong)

/-- 'rhzlaw19.ScrubKeeps': WHATEVER THE INPUT: true; the input reads as it did. -/
def scrubKeepsSpec : ChangeSpec := { name := "scrubKeeps", fn := fun _ => fun
  | [d1, d2, d3] => { results := [.lit (.bool true)], args := [d1, d2, d3] }
  | _ => none }
def scrubKeepsRow : OpenClaim := { program := "ythfnphcefkdgbaa", sum := "bead1dc91cd901b54fbb1c4f697753dbb675de89536f0b66325afb25235933a3", func := "rhizome/rhzlaw19.ScrubKeeps", spec := "scrubKeeps", inPlace := ["internal/bytealg.abigen_runtime_cmpstring"], unfollowed := true, recurses := true, plainKeys := false, apart := false }
def ScrubKeepsSaid : Prop := scrubKeepsRow.holds Try.pinned (OpenSpec.ofChange scrubKeepsSpec)

/-- ITS FALSE NEIGHBOUR: 'it returns false'. Refute it at one input. -/
def scrubKeepsWrong : ChangeSpec := { name := "scrubKeeps", fn := fun _ => fun
  | [d1, d2, d3] => { results := [.lit (.bool false)], args := [d1, d2, d3] }
  | _ => none }
def ScrubKeepsWrongFalsely : Prop := scrubKeepsRow.holds Try.pinned (OpenSpec.ofChange scrubKeepsWrong)

/-- 'rhzlaw19.ScrubOrder': WHATEVER THE INPUT: true; the input reads as it did. -/
def scrubOrderSpec : ChangeSpec := { name := "scrubOrder", fn := fun _ => fun
  | [d1, d2, d3, d4, d5] => { results := [.lit (.bool true)], args := [d1, d2, d3, d4, d5] }
  | _ => none }
def scrubOrderRow : OpenClaim := { program := "ythfnphcefkdgbaa", sum := "bead1dc91cd901b54fbb1c4f697753dbb675de89536f0b66325afb25235933a3", func := "rhizome/rhzlaw19.ScrubOrder", spec := "scrubOrder", inPlace := ["internal/bytealg.abigen_runtime_cmpstring"], unfollowed := true, recurses := true, plainKeys := false, apart := false }
def ScrubOrderSaid : Prop := scrubOrderRow.holds Try.pinned (OpenSpec.ofChange scrubOrderSpec)

/-- ITS FALSE NEIGHBOUR: 'it returns false'. Refute it at one input. -/
def scrubOrderWrong : ChangeSpec := { name := "scrubOrder", fn := fun _ => fun
  | [d1, d2, d3, d4, d5] => { results := [.lit (.bool false)], args := [d1, d2, d3, d4, d5] }
  | _ => none }
def ScrubOrderWrongFalsely : Prop := scrubOrderRow.holds Try.pinned (OpenSpec.ofChange scrubOrderWrong)

/- THE SECOND FORM. 'bulk': how many values and letters a reading holds, each counted each time it is reached (what is shared counts as often as it is met; a slice's spare places count too). A statement '..UptoSaid' is the law's where the arguments, and the package variables that the reading takes, are together of bulk at most 1048576: NARROWER than '..Said'. Prove '..Said' where nothing that the law and all that it calls make is longer than what came in: it says more and counts as full. Else prove '..UptoSaid'. A law counts once. -/
mutual
def uptoBulk {H : Type} : DataW H → Nat
  | .lit (.string bytes) => bytes.length + 1
  | .lit _ => 1
  | .nil => 1
  | .ptr d => uptoBulk d + 1
  | .slice elems spare => uptoBulkAll elems + uptoBulkAll spare + 1
  | .agg parts => uptoBulkAll parts + 1
  | .iface _ d => uptoBulk d + 1
  | .map entries => uptoBulkEntries entries + 1
  | .held _ => 1
def uptoBulkAll {H : Type} : List (DataW H) → Nat
  | [] => 0
  | d :: r => uptoBulk d + uptoBulkAll r
def uptoBulkEntries {H : Type} : List (Lit × DataW H) → Nat
  | [] => 0
  | x :: r => uptoBulkEntry x + uptoBulkEntries r
def uptoBulkEntry {H : Type} : Lit × DataW H → Nat
  | (.string bytes, d) => bytes.length + uptoBulk d + 1
  | (_, d) => uptoBulk d + 1
 end
def uptoSmall : (H : Type) → List (DataW H) → Bool := fun _ ds => decide (uptoBulkAll ds ≤ 1048576)
def OpenSpec.upto (s : _root_.Go.ChangeSpec) : _root_.Go.OpenSpec := { _root_.Go.OpenSpec.ofChange s with cond := some uptoSmall }

/-- 'rhzlaw18.CacheKeeps', WHERE WHAT IT READS IS OF BULK AT MOST 1048576: true; the input reads as it did. -/
def cacheKeepsUptoRow : OpenClaim := { program := "ythfnphcefkdgbaa", sum := "bead1dc91cd901b54fbb1c4f697753dbb675de89536f0b66325afb25235933a3", func := "rhizome/rhzlaw18.CacheKeeps", spec := "cacheKeeps", inPlace := ["internal/bytealg.abigen_runtime_cmpstring"], unfollowed := true, recurses := true, plainKeys := false, apart := false, narrowed := true }
def CacheKeepsUptoSaid : Prop := cacheKeepsUptoRow.holds Try.pinned (OpenSpec.upto cacheKeepsSpec)

/-- 'rhzlaw18.CacheCuts', WHERE WHAT IT READS IS OF BULK AT MOST 1048576: true; the input reads as it did. -/
def cacheCutsUptoRow : OpenClaim := { program := "ythfnphcefkdgbaa", sum := "bead1dc91cd901b54fbb1c4f697753dbb675de89536f0b66325afb25235933a3", func := "rhizome/rhzlaw18.CacheCuts", spec := "cacheCuts", unfollowed := true, recurses := true, plainKeys := false, apart := false, narrowed := true }
def CacheCutsUptoSaid : Prop := cacheCutsUptoRow.holds Try.pinned (OpenSpec.upto cacheCutsSpec)

/-- 'rhzlaw18.CacheNegatives', WHERE WHAT IT READS IS OF BULK AT MOST 1048576: true; the input reads as it did. -/
def cacheNegativesUptoRow : OpenClaim := { program := "ythfnphcefkdgbaa", sum := "bead1dc91cd901b54fbb1c4f697753dbb675de89536f0b66325afb25235933a3", func := "rhizome/rhzlaw18.CacheNegatives", spec := "cacheNegatives", unfollowed := true, recurses := true, plainKeys := false, apart := false, narrowed := true }
def CacheNegativesUptoSaid : Prop := cacheNegativesUptoRow.holds Try.pinned (OpenSpec.upto cacheNegativesSpec)

/-- 'rhzlaw18.CacheTimes', WHERE WHAT IT READS IS OF BULK AT MOST 1048576: true; the input reads as it did. -/
def cacheTimesUptoRow : OpenClaim := { program := "ythfnphcefkdgbaa", sum := "bead1dc91cd901b54fbb1c4f697753dbb675de89536f0b66325afb25235933a3", func := "rhizome/rhzlaw18.CacheTimes", spec := "cacheTimes", unfollowed := true, recurses := true, plainKeys := false, apart := false, narrowed := true }
def CacheTimesUptoSaid : Prop := cacheTimesUptoRow.holds Try.pinned (OpenSpec.upto cacheTimesSpec)

/-- 'rhzlaw18.CacheRoom', WHERE WHAT IT READS IS OF BULK AT MOST 1048576: true; the input reads as it did. -/
def cacheRoomUptoRow : OpenClaim := { program := "ythfnphcefkdgbaa", sum := "bead1dc91cd901b54fbb1c4f697753dbb675de89536f0b66325afb25235933a3", func := "rhizome/rhzlaw18.CacheRoom", spec := "cacheRoom", unfollowed := true, recurses := true, plainKeys := false, apart := false, narrowed := true }
def CacheRoomUptoSaid : Prop := cacheRoomUptoRow.holds Try.pinned (OpenSpec.upto cacheRoomSpec)

/-- 'rhzlaw19.ScrubKeeps', WHERE WHAT IT READS IS OF BULK AT MOST 1048576: true; the input reads as it did. -/
def scrubKeepsUptoRow : OpenClaim := { program := "ythfnphcefkdgbaa", sum := "bead1dc91cd901b54fbb1c4f697753dbb675de89536f0b66325afb25235933a3", func := "rhizome/rhzlaw19.ScrubKeeps", spec := "scrubKeeps", inPlace := ["internal/bytealg.abigen_runtime_cmpstring"], unfollowed := true, recurses := true, plainKeys := false, apart := false, narrowed := true }
def ScrubKeepsUptoSaid : Prop := scrubKeepsUptoRow.holds Try.pinned (OpenSpec.upto scrubKeepsSpec)

/-- 'rhzlaw19.ScrubOrder', WHERE WHAT IT READS IS OF BULK AT MOST 1048576: true; the input reads as it did. -/
def scrubOrderUptoRow : OpenClaim := { program := "ythfnphcefkdgbaa", sum := "bead1dc91cd901b54fbb1c4f697753dbb675de89536f0b66325afb25235933a3", func := "rhizome/rhzlaw19.ScrubOrder", spec := "scrubOrder", inPlace := ["internal/bytealg.abigen_runtime_cmpstring"], unfollowed := true, recurses := true, plainKeys := false, apart := false, narrowed := true }
def ScrubOrderUptoSaid : Prop := scrubOrderUptoRow.holds Try.pinned (OpenSpec.upto scrubOrderSpec)

end Rows
end Go.Proofs.Ythfnphcefkdgbaa
