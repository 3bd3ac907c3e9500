/- Sets, plain. -/
import Derived.Test.YtgdhbelcellabaaKey
namespace Go.Proofs.Ytgdhbelcellabaa
open Go.RowKit

/-- A set. -/
structure SetP where
  k : Ky
  ttl : Int
  data : List ByteArray
def encS (p : SetP × Value) : List Value := [.string p.1.k.n, .int .i64 p.1.k.t, .int .i64 p.1.k.c, .int .i64 p.1.ttl, p.2]
def flatS (L : List (SetP × Value)) : List Value := L.flatMap encS
theorem encS_len (p : SetP × Value) : (encS p).length = 5 := rfl
theorem flatS_len (L : List (SetP × Value)) : (flatS L).length = L.length * 5 := by
  induction L with
  | nil => rfl
  | cons x l ih => rw [flatS, List.flatMap_cons, List.length_append, encS_len]; show 5 + (flatS l).length = _; rw [ih, List.length_cons]; omega
theorem flatS_append (A B : List (SetP × Value)) : flatS (A ++ B) = flatS A ++ flatS B := List.flatMap_append
/-- The records of sets. -/
def recs (s : SetP) : List R5 := s.data.map fun d => ⟨s.k, s.ttl, d⟩
def flatP (S : List SetP) : List R5 := S.flatMap recs
def rr0 : R5 := ⟨⟨⟨#[]⟩, 0, 0⟩, 0, ⟨#[]⟩⟩
end Go.Proofs.Ytgdhbelcellabaa
