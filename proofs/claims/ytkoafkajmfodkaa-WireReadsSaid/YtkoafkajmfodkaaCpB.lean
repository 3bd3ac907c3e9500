/- The document's Decode, by value. -/
import Derived.Test.YtkoafkajmfodkaaCpA
import Derived.Test.YtkoafkajmfodkaaDrE
namespace Go.Proofs.Ytkoafkajmfodkaa
open Go.RowKit

theorem rdecode_x (l : List UInt8) (a : Option Addr) (n cp : Nat) (w : World) (hr : RowB w a n l) (hn : a = none → n = 0 ∧ cp = 0) (hb : n ≤ 20000) :
    Calls Try.prog 33 #[.slice a n cp] w fun en w' => ∃ (qv av nv xv : Value), en = .returned (.tuple #[.agg (msgC (decM (bs l)).h qv av nv xv), .bool (decP (bs l)).isSome]) ∧ RowsM w' w.heap.size (decM (bs l)) qv av nv xv ∧ Below w.heap.size w w' := by
  refine (rdecode_any l a n cp w hr hn hb).mono ?_
  rintro en w' ⟨⟨M, qv, av, nv, xv, h1, rfl, h2⟩ | ⟨h1, rfl⟩, hB⟩
  · refine ⟨qv, av, nv, xv, ?_, ?_, hB⟩
    · rw [decM, h1]; rfl
    · rw [decM, h1]; exact h2
  · refine ⟨.slice none 0 0, .slice none 0 0, .slice none 0 0, .slice none 0 0, ?_, ?_, hB⟩
    · rw [decM, h1]; rfl
    · rw [decM, h1]; exact rowsM0 _ _
theorem rdecode_y (l : List UInt8) (a : Option Addr) (n cp : Nat) (w : World) (hr : RowB w a n l) (hn : a = none → n = 0 ∧ cp = 0) (hb : n ≤ 20000) :
    Calls Try.prog 33 #[.slice a n cp] w fun en w' => ∃ (v : Value), en = .returned (.tuple #[v, .bool (decP (bs l)).isSome]) ∧ MsgOwn w' w.heap.size v (toP (decM (bs l))) ∧ Below w.heap.size w w' := by
  refine (rdecode_x l a n cp w hr hn hb).mono ?_
  rintro en w' ⟨qv, av, nv, xv, rfl, h1, h2⟩
  exact ⟨_, rfl, msgOwn_of h1, h2⟩
end Go.Proofs.Ytkoafkajmfodkaa
