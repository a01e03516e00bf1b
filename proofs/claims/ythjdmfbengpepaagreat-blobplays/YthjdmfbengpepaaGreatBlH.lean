/- BlobPlays: how both sides stand; a script. -/
import Derived.Test.YthjdmfbengpepaaGreatB45
import Derived.Test.YthjdmfbengpepaaGreatC0
import Derived.Test.YthjdmfbengpepaaGreatBlG
import Derived.Test.YthjdmfbengpepaaGreatBl9
import Derived.Test.YthjdmfbengpepaaGreatC3
import Derived.Test.YthjdmfbengpepaaGreatC4
namespace Go.Proofs.YthjdmfbengpepaaGreat
open Go.RowKit

/-- a script's call -/
structure Oq2 where
  drop : Bool
  n : Int
  y : UInt8
def oq2 : Oq2 := ⟨false, 0, 0⟩
def oqc2 (o : Oq2) : List Value := [.bool o.drop, .int .i64 o.n, .int .u8 (o.y.toNat : Int)]
structure IsO12 (w : World) (a : Option Addr) (len cap : Nat) (os : List Oq2) : Prop where
  len_eq : os.length = len
  max : len ≤ 140737488351232
  cells : 0 < len → ∃ b off, a = some ⟨b, off, none⟩ ∧ b < w.heap.size ∧ ∀ i, i < len → ∀ j, j < 3 → w.cell? ⟨b, off + i * 3 + j, none⟩ = (oqc2 (os.getD i oq2))[j]?
  ok : ∀ i, i < len → -9223372036854775808 ≤ (os.getD i oq2).n ∧ (os.getD i oq2).n ≤ 9223372036854775807
/-- the sectors of refs -/
def secsOf (ls : List Rq) : List Int := ls.flatMap fun x => x.1.secs
theorem secsOf_snoc (ls : List Rq) (x : Rq) : secsOf (ls ++ [x]) = secsOf ls ++ x.1.secs := by unfold secsOf; simp
theorem secsOf_cut (ls : List Rq) (n : Nat) (h : n < ls.length) : secsOf ls = secsOf (ls.take n) ++ ((ls[n]).1.secs ++ secsOf (ls.drop (n + 1))) ∧ secsOf (ls.take n ++ ls.drop (n + 1)) = secsOf (ls.take n) ++ secsOf (ls.drop (n + 1)) := by
  unfold secsOf
  refine ⟨?_, by rw [List.flatMap_append]⟩
  have e : ls = ls.take n ++ ls[n] :: ls.drop (n + 1) := by rw [← List.drop_eq_getElem_cons h, List.take_append_drop]
  have e2 : ls.flatMap (fun x => x.1.secs) = (ls.take n ++ ls[n] :: ls.drop (n + 1)).flatMap (fun x => x.1.secs) := by rw [← e]
  rw [e2, List.flatMap_append, List.flatMap_cons]
/-- how both stand -/
structure Pl12 (SA : World → Nat → Nat → Nat → Nat → Tl → Jl → Prop) (w : World) (S R U J K P D base : Nat) (t : Tl) (vl : Value) (ls : List Rq) : Prop where
  sa : SA w S J P base t aj0
  rs : RefS w R U K D base 50 t aj0
  outs : Outs t (secsOf ls)
  ow : OwnF w base vl ls
  rk : ∀ x ∈ ls, RfK w x.1 x.2 ∧ rightL x.1 = true
variable {JA : World → Nat → Nat → Nat → Jl → Prop} {SA : World → Nat → Nat → Nat → Nat → Tl → Jl → Prop}
theorem Pl12.on (so : SpcOK JA SA) {w w' : World} {S R U J K P D base : Nat} {t : Tl} {vl : Value} {ls : List Rq} (h : Pl12 SA w S R U J K P D base t vl ls) (hb : Below w.heap.size w w') : Pl12 SA w' S R U J K P D base t vl ls :=
  ⟨so.keep h.sa (KeepT.of_below hb), h.rs.on hb, h.outs, h.ow.on hb, fun x hx => ⟨(h.rk x hx).1.keep (KeepO.of_below hb), (h.rk x hx).2⟩⟩
theorem Pl12.lo {w : World} {S R U J K P D base : Nat} {t : Tl} {vl : Value} {ls : List Rq} (h : Pl12 SA w S R U J K P D base t vl ls) : base ≤ w.heap.size := h.rs.lo
theorem Pl12.len {w : World} {S R U J K P D base : Nat} {t : Tl} {vl : Value} {ls : List Rq} (h : Pl12 SA w S R U J K P D base t vl ls) {x : Rq} (hx : x ∈ ls) : x.1.sum.length ≤ 100000 ∧ x.1.secs.length ≤ 12 := by
  have h1 := (h.rk x hx).2
  have := right_sum h1
  exact ⟨by omega, right_len h1⟩
theorem Pl12.ft {w : World} {S R U J K P D base : Nat} {t : Tl} {vl : Value} {ls : List Rq} (h : Pl12 SA w S R U J K P D base t vl ls) : Fit t aj0 0 := h.outs.fit
theorem rfk_S {base : Nat} {w w' : World} {r : Rf} {q : RfA} (h : RfK w r q) (hk : KS base w w') : RfK w' r q := h.keep (hk.o.less (by decide))
theorem rfk_C {base : Nat} {w w' : World} {r : Rf} {q : RfA} (h : RfK w r q) (hk : KC base w w') : RfK w' r q := h.keep (KeepO.ofT hk.t (by decide))
end Go.Proofs.YthjdmfbengpepaaGreat
