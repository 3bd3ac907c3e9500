/- Contracts of name.Parent, name.Compare, name.Under, and of the document's (chapter 2), over this seat's translation. -/
import Derived.Test.YtgdbbdbfaglkdaaLbl
import Derived.Test.YtgdbbdbfaglkdaaOrd
import Derived.Test.YtgdbbdbfaglkdaaCmp
import Derived.Deep.RegionHeld3
namespace Go.Proofs.Ytgdbbdbfaglkdaa
open Go.RowKit

def parS : List ByteArray → ByteArray
  | [] => ⟨#[]⟩
  | _ :: M => nameB M
def parB : List ByteArray → Bool
  | [] => false
  | _ :: _ => true
theorem root_toList (L : List ByteArray) (hL : OkL L) : ((nameB L).toList == [0]) = L.isEmpty := by
  rw [Lib.toList_data]
  show (nameL L == [0]) = _
  cases L with
  | nil => rfl
  | cons s L =>
    obtain ⟨g1, g2, _⟩ := hL 0 (by simp)
    rw [tx_cons_zero] at g1 g2
    show _ = false
    rw [beq_eq_false_iff_ne]
    intro h
    rw [nameL_cons] at h
    have h0 : UInt8.ofNat s.size = 0 := (List.cons.inj h).1
    have := congrArg UInt8.toNat h0
    rw [UInt8.toNat_ofNat_of_lt' (by have : UInt8.size = 256 := rfl; omega)] at this
    have h9 : (0 : UInt8).toNat = 0 := rfl
    omega

end Go.Proofs.Ytgdbbdbfaglkdaa
