/- The law on keys and sets: the walk. -/
import Derived.Test.YtgdbbdbfaglkdaaSk0
import Derived.Test.YtgdbbdbfaglkdaaSk1
namespace Go.Proofs.Ytgdbbdbfaglkdaa
open Go.RowKit

set_option maxRecDepth 100000 in
set_option maxHeartbeats 12000000 in
theorem keys_walk (an : ByteArray) (at1 ac au : Int) (ad : List ByteArray) (pa : Option Addr) (al aca : Nat) (bn : ByteArray) (bt bc bu : Int) (bd : List ByteArray) (pb : Option Addr) (bl bca : Nat) (ta : Option Addr) (tn tc : Nat) (tl : List Int) (d : ByteArray) (w : World)
    (ha : RowS w pa al ad) (hna : pa = none → al = 0 ∧ aca = 0) (hb : RowS w pb bl bd) (hnb : pb = none → bl = 0 ∧ bca = 0) (ht : Row w ta tn tl) (hza : SzS ⟨⟨an, at1, ac⟩, au, ad⟩) (hzb : SzS ⟨⟨bn, bt, bc⟩, bu, bd⟩) (htn : tn ≤ 9223372036854775807) (hd : d.size ≤ 9223372036854775807) :
    Calls Try.prog 9 #[.agg #[.string an, .int .i64 at1, .int .i64 ac, .int .i64 au, .slice pa al aca], .agg #[.string bn, .int .i64 bt, .int .i64 bc, .int .i64 bu, .slice pb bl bca], .slice ta tn tc, .string d] w fun e w' => e = .returned (.bool true) ∧ Below w.heap.size w w' := by
  by_cases h0 : al = 0
  · exact keys_walk0 an at1 ac au ad pa al aca bn bt bc bu bd pb bl bca ta tn tc tl d w ha hna hb hnb ht hza hzb htn hd h0
  · exact keys_walk1 an at1 ac au ad pa al aca bn bt bc bu bd pb bl bca ta tn tc tl d w ha hna hb hnb ht hza hzb htn hd h0
end Go.Proofs.Ytgdbbdbfaglkdaa
