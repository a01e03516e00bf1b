/- One call of both: Take. -/
import Derived.Test.YthjdmfbengpepaaGreatB26
namespace Go.Proofs.YthjdmfbengpepaaGreat
open Go.RowKit

/-- a script's call -/
structure Sq where
  kind : Int
  at_ : Int
  by_ : UInt8
def sqc (o : Sq) : List Value := [.int .i64 o.kind, .int .i64 o.at_, .int .u8 (o.by_.toNat : Int)]
structure Both11 (SA : World → Nat → Nat → Nat → Nat → Tl → Jl → Prop) (w : World) (S R U J K P D base m : Nat) (t : Tl) (j : Jl) : Prop where
  sa : SA w S J P base t j
  rs : RefS w R U K D base m t j
  fit : Fit t j m
theorem Both11.on {JA : World → Nat → Nat → Nat → Jl → Prop} {SA : World → Nat → Nat → Nat → Nat → Tl → Jl → Prop} (so : SpcOK JA SA) {w w' : World} {S R U J K P D base m : Nat} {t : Tl} {j : Jl} (h : Both11 SA w S R U J K P D base m t j) (hb : Below w.heap.size w w') : Both11 SA w' S R U J K P D base m t j := ⟨so.keep h.sa (KeepT.of_below hb), h.rs.on hb, h.fit⟩
theorem KQ.ofK {base : Nat} {w w' : World} (h : KC base w w') : KQ base w w' := KQ.ofC h.t h.b
end Go.Proofs.YthjdmfbengpepaaGreat
