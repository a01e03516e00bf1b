/- Buckets and versions as values; what the program and the document say of a version that is to be deleted, and which retention a bucket gives. -/
import Derived.Test.YtbfmcljjbdaglabLk2
import Derived.Test.YtbfmcljjbdaglabResCell
import Derived.Test.YtbfmcljjbdaglabCodLater
import Derived.Test.YtbfmcljjbdaglabRefLater
namespace Go.Proofs.Ytbfmcljjbdaglab
open Go.RowKit

/-- a version -/
structure Vs where
  bkt : ByteArray
  key : ByteArray
  id : Nat
  ord : Nat
  mark : Bool
  data : List UInt8
  rm : Int
  ru : Nat
  hold : Bool
  time : Nat
/-- where a version's bytes lie -/
structure VsA where
  ad : Option Addr
  cap : Nat
/-- its cells -/
def vsc (v : Vs) (q : VsA) : List Value := [.string v.bkt, .string v.key, .int .u64 (v.id : Int), .int .u64 (v.ord : Int), .bool v.mark, .slice q.ad v.data.length q.cap, .int .i64 v.rm, .int .u64 (v.ru : Int), .bool v.hold, .int .u64 (v.time : Int)]
/-- a bucket -/
structure Bk where
  name : ByteArray
  ver : Int
  lock : Bool
  mfa : Bool
  dflt : Int
  days : Int
  pol : ByteArray
  exp : Int
  nonc : Int
def bkc (b : Bk) : List Value := [.string b.name, .int .i64 b.ver, .bool b.lock, .bool b.mfa, .int .i64 b.dflt, .int .i64 b.days, .string b.pol, .int .i64 b.exp, .int .i64 b.nonc]
/-- the retention that a bucket gives -/
def defM (b : Bk) (t : Nat) : Int := if b.lock && kpM b.dflt && decide (t < laterN t b.days) then b.dflt else 0
def defU (b : Bk) (t : Nat) : Nat := if b.lock && kpM b.dflt && decide (t < laterN t b.days) then laterN t b.days else 0
attribute [local go_sem] undef
end Go.Proofs.Ytbfmcljjbdaglab
