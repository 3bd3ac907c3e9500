/-
  No cell of these rows narrows 'for every input' (looked for: loops, veiled, ifaces, maps, wideKeys, modest, calm, conditions, laid).
  DERIVED. THE GIVEN ROWS OF THIS SEAT. 6 by the template 'for every input the law returns true; each argument reads behind the call as it read before'; 0 by the template 'total and deterministic' (their statements: YtfopfplpfhncfaaTotals.lean).
  GIVEN WITH THE SEED: the statements are not yours to turn. If you find one false, say at which input.
  Laid BY PROGRAM, IN A SANDBOX (cutbox-rows.mjs): the forced cells as the released guide's own fill.sh prints them over the translation d91be81c64c3a4b5… (all of the seat's roots in one cut). By AI agents, Wed Nov 11 2026. No macro, syntax, notation, axiom, sorry.
-/
import Derived.Test.YtfopfplpfhncfaaChecked
import GoSem.Claim
import GoSem.ClaimJoined
import GoSem.ClaimMapViews
import Derived.JoinedTies
import Derived.KernelRfl
namespace Go.Proofs.Ytfopfplpfhncfaa
/- THE CELL 'sum', in the pinned program and in every row, IS THE sha256 OF THE DUMP (.gsa) THAT YtfopfplpfhncfaaProg.lean LOADS. Nothing in Lean hashes anything: it is a label: what it is worth is what the hold of that sum in a sandbox is worth. -/
noncomputable def Try.pinned : Pinned := { name := "ytfopfplpfhncfaa", sum := "d91be81c64c3a4b5c909e2316a7f9355feaa59faf3412e0f83aa50c904919b17", checked := Try.checked }
namespace Rows
def none {H : Type} : Left H := { results := [], args := [] }

/-- 'rhzlaw4.SetsGroups': WHATEVER THE INPUT: true; the input reads as it did. -/
def setsGroupsSpec : ChangeSpec := { name := "setsGroups", fn := fun _ => fun
  | [d1, d2, d3] => { results := [.lit (.bool true)], args := [d1, d2, d3] }
  | _ => none }
def setsGroupsRow : OpenClaim := { program := "ytfopfplpfhncfaa", sum := "d91be81c64c3a4b5c909e2316a7f9355feaa59faf3412e0f83aa50c904919b17", func := "rhizome/rhzlaw4.SetsGroups", spec := "setsGroups", inPlace := ["internal/bytealg.abigen_runtime_cmpstring"], unfollowed := true, recurses := true, apart := false }
def SetsGroupsSaid : Prop := setsGroupsRow.holds Try.pinned (OpenSpec.ofChange setsGroupsSpec)

/-- ITS FALSE NEIGHBOUR: 'it returns false'. Refute it at one input. -/
def setsGroupsWrong : ChangeSpec := { name := "setsGroups", fn := fun _ => fun
  | [d1, d2, d3] => { results := [.lit (.bool false)], args := [d1, d2, d3] }
  | _ => none }
def SetsGroupsWrongFalsely : Prop := setsGroupsRow.holds Try.pinned (OpenSpec.ofChange setsGroupsWrong)

/-- 'rhzlaw14.ImageEach': WHATEVER THE INPUT: true; the input reads as it did. -/
def imageEachSpec : ChangeSpec := { name := "imageEach", fn := fun _ => fun
  | [d1, d2, d3] => { results := [.lit (.bool true)], args := [d1, d2, d3] }
  | _ => none }
def imageEachRow : OpenClaim := { program := "ytfopfplpfhncfaa", sum := "d91be81c64c3a4b5c909e2316a7f9355feaa59faf3412e0f83aa50c904919b17", func := "rhizome/rhzlaw14.ImageEach", spec := "imageEach", inPlace := ["internal/bytealg.abigen_runtime_cmpstring"], unfollowed := true, recurses := true, apart := false }
def ImageEachSaid : Prop := imageEachRow.holds Try.pinned (OpenSpec.ofChange imageEachSpec)

/-- ITS FALSE NEIGHBOUR: 'it returns false'. Refute it at one input. -/
def imageEachWrong : ChangeSpec := { name := "imageEach", fn := fun _ => fun
  | [d1, d2, d3] => { results := [.lit (.bool false)], args := [d1, d2, d3] }
  | _ => none }
def ImageEachWrongFalsely : Prop := imageEachRow.holds Try.pinned (OpenSpec.ofChange imageEachWrong)

/-- 'rhzlaw14.ImageApart': WHATEVER THE INPUT: true; the input reads as it did. -/
def imageApartSpec : ChangeSpec := { name := "imageApart", fn := fun _ => fun
  | [d1, d2, d3] => { results := [.lit (.bool true)], args := [d1, d2, d3] }
  | _ => none }
def imageApartRow : OpenClaim := { program := "ytfopfplpfhncfaa", sum := "d91be81c64c3a4b5c909e2316a7f9355feaa59faf3412e0f83aa50c904919b17", func := "rhizome/rhzlaw14.ImageApart", spec := "imageApart", inPlace := ["internal/bytealg.abigen_runtime_cmpstring"], unfollowed := true, recurses := true, apart := false }
def ImageApartSaid : Prop := imageApartRow.holds Try.pinned (OpenSpec.ofChange imageApartSpec)

/-- ITS FALSE NEIGHBOUR: 'it returns false'. Refute it at one input. -/
def imageApartWrong : ChangeSpec := { name := "imageApart", fn := fun _ => fun
  | [d1, d2, d3] => { results := [.lit (.bool false)], args := [d1, d2, d3] }
  | _ => none }
def ImageApartWrongFalsely : Prop := imageApartRow.holds Try.pinned (OpenSpec.ofChange imageApartWrong)

/-- 'rhzlaw19.ScrubKeeps': WHATEVER THE INPUT: true; the input reads as it did. -/
def scrubKeepsSpec : ChangeSpec := { name := "scrubKeeps", fn := fun _ => fun
  | [d1, d2, d3] => { results := [.lit (.bool true)], args := [d1, d2, d3] }
  | _ => none }
def scrubKeepsRow : OpenClaim := { program := "ytfopfplpfhncfaa", sum := "d91be81c64c3a4b5c909e2316a7f9355feaa59faf3412e0f83aa50c904919b17", func := "rhizome/rhzlaw19.ScrubKeeps", spec := "scrubKeeps", inPlace := ["internal/bytealg.abigen_runtime_cmpstring"], unfollowed := true, recurses := true, apart := false }
def ScrubKeepsSaid : Prop := scrubKeepsRow.holds Try.pinned (OpenSpec.ofChange scrubKeepsSpec)

/-- ITS FALSE NEIGHBOUR: 'it returns false'. Refute it at one input. -/
def scrubKeepsWrong : ChangeSpec := { name := "scrubKeeps", fn := fun _ => fun
  | [d1, d2, d3] => { results := [.lit (.bool false)], args := [d1, d2, d3] }
  | _ => none }
def ScrubKeepsWrongFalsely : Prop := scrubKeepsRow.holds Try.pinned (OpenSpec.ofChange scrubKeepsWrong)

/-- 'rhzlaw19.ScrubOrder': WHATEVER THE INPUT: true; the input reads as it did. -/
def scrubOrderSpec : ChangeSpec := { name := "scrubOrder", fn := fun _ => fun
  | [d1, d2, d3, d4, d5] => { results := [.lit (.bool true)], args := [d1, d2, d3, d4, d5] }
  | _ => none }
def scrubOrderRow : OpenClaim := { program := "ytfopfplpfhncfaa", sum := "d91be81c64c3a4b5c909e2316a7f9355feaa59faf3412e0f83aa50c904919b17", func := "rhizome/rhzlaw19.ScrubOrder", spec := "scrubOrder", inPlace := ["internal/bytealg.abigen_runtime_cmpstring"], unfollowed := true, recurses := true, apart := false }
def ScrubOrderSaid : Prop := scrubOrderRow.holds Try.pinned (OpenSpec.ofChange scrubOrderSpec)

/-- ITS FALSE NEIGHBOUR: 'it returns false'. Refute it at one input. -/
def scrubOrderWrong : ChangeSpec := { name := "scrubOrder", fn := fun _ => fun
  | [d1, d2, d3, d4, d5] => { results := [.lit (.bool false)], args := [d1, d2, d3, d4, d5] }
  | _ => none }
def ScrubOrderWrongFalsely : Prop := scrubOrderRow.holds Try.pinned (OpenSpec.ofChange scrubOrderWrong)

/-- 'rhzlaw19.ScrubTtls': WHATEVER THE INPUT: true; the input reads as it did. -/
def scrubTtlsSpec : ChangeSpec := { name := "scrubTtls", fn := fun _ => fun
  | [d1, d2, d3, d4, d5, d6] => { results := [.lit (.bool true)], args := [d1, d2, d3, d4, d5, d6] }
  | _ => none }
def scrubTtlsRow : OpenClaim := { program := "ytfopfplpfhncfaa", sum := "d91be81c64c3a4b5c909e2316a7f9355feaa59faf3412e0f83aa50c904919b17", func := "rhizome/rhzlaw19.ScrubTtls", spec := "scrubTtls", inPlace := ["internal/bytealg.abigen_runtime_cmpstring"], unfollowed := true, recurses := true, apart := false }
def ScrubTtlsSaid : Prop := scrubTtlsRow.holds Try.pinned (OpenSpec.ofChange scrubTtlsSpec)

/-- ITS FALSE NEIGHBOUR: 'it returns false'. Refute it at one input. -/
def scrubTtlsWrong : ChangeSpec := { name := "scrubTtls", fn := fun _ => fun
  | [d1, d2, d3, d4, d5, d6] => { results := [.lit (.bool false)], args := [d1, d2, d3, d4, d5, d6] }
  | _ => none }
def ScrubTtlsWrongFalsely : Prop := scrubTtlsRow.holds Try.pinned (OpenSpec.ofChange scrubTtlsWrong)

/- THE SECOND FORM. 'bulk': how many values and letters a reading holds, each counted each time it is reached (what is shared counts as often as it is met; a slice's spare places count too). A statement '..UptoSaid' is the law's where the arguments, and the package variables that the reading takes, are together of bulk at most 1048576: NARROWER than '..Said'. Prove '..Said' where nothing that the law and all that it calls make is longer than what came in: it says more and counts as full. Else prove '..UptoSaid'. A law counts once. -/
mutual
def uptoBulk {H : Type} : DataW H → Nat
  | .lit (.string bytes) => bytes.length + 1
  | .lit _ => 1
  | .nil => 1
  | .ptr d => uptoBulk d + 1
  | .slice elems spare => uptoBulkAll elems + uptoBulkAll spare + 1
  | .agg parts => uptoBulkAll parts + 1
  | .iface _ d => uptoBulk d + 1
  | .map entries => uptoBulkEntries entries + 1
  | .held _ => 1
def uptoBulkAll {H : Type} : List (DataW H) → Nat
  | [] => 0
  | d :: r => uptoBulk d + uptoBulkAll r
def uptoBulkEntries {H : Type} : List (Lit × DataW H) → Nat
  | [] => 0
  | x :: r => uptoBulkEntry x + uptoBulkEntries r
def uptoBulkEntry {H : Type} : Lit × DataW H → Nat
  | (.string bytes, d) => bytes.length + uptoBulk d + 1
  | (_, d) => uptoBulk d + 1
 end
def uptoSmall : (H : Type) → List (DataW H) → Bool := fun _ ds => decide (uptoBulkAll ds ≤ 1048576)
def OpenSpec.upto (s : _root_.Go.ChangeSpec) : _root_.Go.OpenSpec := { _root_.Go.OpenSpec.ofChange s with cond := some uptoSmall }

/-- 'rhzlaw4.SetsGroups', WHERE WHAT IT READS IS OF BULK AT MOST 1048576: true; the input reads as it did. -/
def setsGroupsUptoRow : OpenClaim := { program := "ytfopfplpfhncfaa", sum := "d91be81c64c3a4b5c909e2316a7f9355feaa59faf3412e0f83aa50c904919b17", func := "rhizome/rhzlaw4.SetsGroups", spec := "setsGroups", inPlace := ["internal/bytealg.abigen_runtime_cmpstring"], unfollowed := true, recurses := true, apart := false, narrowed := true }
def SetsGroupsUptoSaid : Prop := setsGroupsUptoRow.holds Try.pinned (OpenSpec.upto setsGroupsSpec)

/-- 'rhzlaw14.ImageEach', WHERE WHAT IT READS IS OF BULK AT MOST 1048576: true; the input reads as it did. -/
def imageEachUptoRow : OpenClaim := { program := "ytfopfplpfhncfaa", sum := "d91be81c64c3a4b5c909e2316a7f9355feaa59faf3412e0f83aa50c904919b17", func := "rhizome/rhzlaw14.ImageEach", spec := "imageEach", inPlace := ["internal/bytealg.abigen_runtime_cmpstring"], unfollowed := true, recurses := true, apart := false, narrowed := true }
def ImageEachUptoSaid : Prop := imageEachUptoRow.holds Try.pinned (OpenSpec.upto imageEachSpec)

/-- 'rhzlaw14.ImageApart', WHERE WHAT IT READS IS OF BULK AT MOST 1048576: true; the input reads as it did. -/
def imageApartUptoRow : OpenClaim := { program := "ytfopfplpfhncfaa", sum := "d91be81c64c3a4b5c909e2316a7f9355feaa59faf3412e0f83aa50c904919b17", func := "rhizome/rhzlaw14.ImageApart", spec := "imageApart", inPlace := ["internal/bytealg.abigen_runtime_cmpstring"], unfollowed := true, recurses := true, apart := false, narrowed := true }
def ImageApartUptoSaid : Prop := imageApartUptoRow.holds Try.pinned (OpenSpec.upto imageApartSpec)

/-- 'rhzlaw19.ScrubKeeps', WHERE WHAT IT READS IS OF BULK AT MOST 1048576: true; the input reads as it did. -/
def scrubKeepsUptoRow : OpenClaim := { program := "ytfopfplpfhncfaa", sum := "d91be81c64c3a4b5c909e2316a7f9355feaa59faf3412e0f83aa50c904919b17", func := "rhizome/rhzlaw19.ScrubKeeps", spec := "scrubKeeps", inPlace := ["internal/bytealg.abigen_runtime_cmpstring"], unfollowed := true, recurses := true, apart := false, narrowed := true }
def ScrubKeepsUptoSaid : Prop := scrubKeepsUptoRow.holds Try.pinned (OpenSpec.upto scrubKeepsSpec)

/-- 'rhzlaw19.ScrubOrder', WHERE WHAT IT READS IS OF BULK AT MOST 1048576: true; the input reads as it did. -/
def scrubOrderUptoRow : OpenClaim := { program := "ytfopfplpfhncfaa", sum := "d91be81c64c3a4b5c909e2316a7f9355feaa59faf3412e0f83aa50c904919b17", func := "rhizome/rhzlaw19.ScrubOrder", spec := "scrubOrder", inPlace := ["internal/bytealg.abigen_runtime_cmpstring"], unfollowed := true, recurses := true, apart := false, narrowed := true }
def ScrubOrderUptoSaid : Prop := scrubOrderUptoRow.holds Try.pinned (OpenSpec.upto scrubOrderSpec)

/-- 'rhzlaw19.ScrubTtls', WHERE WHAT IT READS IS OF BULK AT MOST 1048576: true; the input reads as it did. -/
def scrubTtlsUptoRow : OpenClaim := { program := "ytfopfplpfhncfaa", sum := "d91be81c64c3a4b5c909e2316a7f9355feaa59faf3412e0f83aa50c904919b17", func := "rhizome/rhzlaw19.ScrubTtls", spec := "scrubTtls", inPlace := ["internal/bytealg.abigen_runtime_cmpstring"], unfollowed := true, recurses := true, apart := false, narrowed := true }
def ScrubTtlsUptoSaid : Prop := scrubTtlsUptoRow.holds Try.pinned (OpenSpec.upto scrubTtlsSpec)

end Rows
end Go.Proofs.Ytfopfplpfhncfaa
