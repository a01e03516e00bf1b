/- The program's transaction of space stays while refs are turned. -/
import Derived.Test.YthjdmfbengpepaaGreatB45
namespace Go.Proofs.YthjdmfbengpepaaGreat
open Go.RowKit

theorem SpAx.keepF {w w' : World} {S J P base : Nat} {t : Tl} {j : Jl} (h : SpAx w S J P base t j) (hk : KeepT [46] w w') : SpAx w' S J P base t j := by
  obtain ⟨T, g, c, h⟩ := h
  obtain ⟨M, tr, ht⟩ := h.ta
  exact ⟨T, g, c, ⟨M, tr, ⟨hk.blk ht.ja.blk (by decide), ht.ja.low, ht.ja.d.keep hk (by decide) (by decide) (by decide), ht.ja.seq⟩, hk.blk ht.blk (by decide), ht.low, ht.lowM, ownM_keep ht.own hk, ht.sort, ht.ok, ht.over⟩, hk.blk h.blk (by decide), h.low, own_keepO (KeepO.ofT (us := [5]) hk (by decide)) h.own (by decide)⟩
end Go.Proofs.YthjdmfbengpepaaGreat
