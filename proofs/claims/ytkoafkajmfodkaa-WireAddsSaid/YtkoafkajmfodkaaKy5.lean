/- Keys and records, plain (without their order). -/
import Derived.Test.YtkoafkajmfodkaaCeK
import Derived.Test.YtkoafkajmfodkaaRow
import Derived.Deep.RegionHeld3
namespace Go.Proofs.Ytkoafkajmfodkaa
open Go.RowKit

/-- A key, a question. -/
structure Ky where
  n : ByteArray
  t : Int
  c : Int
/-- A record. -/
structure R5 where
  k : Ky
  ttl : Int
  d : ByteArray
def encK (k : Ky) : List Value := [.string k.n, .int .i64 k.t, .int .i64 k.c]
def encR (r : R5) : List Value := [.string r.k.n, .int .i64 r.k.t, .int .i64 r.k.c, .int .i64 r.ttl, .string r.d]
end Go.Proofs.Ytkoafkajmfodkaa
