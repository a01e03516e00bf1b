/- What digest.Sha1 and digest.Hmac1 answer. -/
import Derived.Test.YtmgflcglmakceaaDigHmac
import Derived.Test.YtmgflcglmakceaaMix1
namespace Go.Proofs.Ytmgflcglmakceaa
open Go.RowKit

def s160 : S8 := ⟨0x67452301, 0xefcdab89, 0x98badcfe, 0x10325476, 0xc3d2e1f0, 0, 0, 0⟩
def mix1L (ws : List UInt32) (bl : List UInt8) : List UInt32 := (mix1S (S8.of ws).five bl).list8

theorem mixOK1 : MixOK 34 mix1L := by
  refine ⟨fun _ _ => rfl, fun args w => ?_, fun ws bl w h8 h64 => ?_⟩
  · exact callf Try.func34 (by kernel_rfl) (by kernel_rfl) args w
  · have := digMix1 (S8.of ws) bl h64 w
    rw [list8 ws h8] at this
    exact this

/-- SHA-1 of bytes -/
def sha1L (A : List UInt8) : List UInt8 := hashL mix1L s160.list 20 A

set_option maxRecDepth 20000 in
set_option maxHeartbeats 400000 in
theorem digKind1 (w : World) :
    Calls Try.prog 29 #[] w fun e w' => e = .returned (.agg (kcOf (20 : Nat) s160 34).toArray) ∧ Below w.heap.size w w' := by
  have Bz : Blk (w.alloc (.cells (.int .i64 0 :: (wv (List.replicate 8 0) ++ [.nilFunc])).toArray 53)) w.heap.size 53 (.int .i64 0 :: (wv (List.replicate 8 0) ++ [.nilFunc])) := Blk.new w _ _
  go_enter Try.func29, Try.ntmps29
  go_wp2_with (refine wpList_store_row rfl 53 _ _ rfl w.heap.size (kcOf (20 : Nat) s160 34).toArray rfl rfl _ _ Bz info10 rfl (all_oneCell_toArray (oneKc _ _ _)) ?_)
  refine bodyPost_ret (v := .agg (kcOf (20 : Nat) s160 34).toArray) ?_ rfl ⟨rfl, bel_row ((Below.refl _ _).alloc (Nat.le_refl _) _) (Nat.le_refl _) _⟩
  exact results_cell_row Try.results29 _ _ _ _ _ _ _ rfl (Bz.row (kcOf (20 : Nat) s160 34)) Try.underlying53 rfl info10

set_option maxRecDepth 20000 in
set_option maxHeartbeats 400000 in
theorem digHmac1 (a : Option Addr) (len cap : Nat) (key : List UInt8) (a1 : Option Addr) (len1 cap1 : Nat) (l : List UInt8) (w : World) (h : IsB w a len cap key) (h1 : IsB w a1 len1 cap1 l) (hn : len < 1073741824) (hn1 : len1 < 1073741824) :
    Calls Try.prog 21 #[.slice a len cap, .slice a1 len1 cap1] w fun e w' => ∃ v, e = .returned v ∧ OwnB w' w.heap.size v (hmL sha1L key l) ∧ Below w.heap.size w w' := by
  have H : Hid (IsB w a len cap key) := h
  have H1 : Hid (IsB w a1 len1 cap1 l) := h1
  clear h h1
  go_enter Try.func21, Try.ntmps21
  go_wp2_with fail
  refine (digKind1 _).mono ?_
  rintro e w1 ⟨rfl, bel1⟩
  have H2 : Hid (IsB w1 a len cap key) := H.out.below bel1 rfl
  have H3 : Hid (IsB w1 a1 len1 cap1 l) := H1.out.below bel1 rfl
  go_wp2_with fail
  refine (digHmac 34 mix1L s160 mixOK1 20 (by omega) _ _ _ key _ _ _ l w1 H2.out H3.out hn hn1).mono ?_
  rintro e w2 ⟨v, rfl, hown, bel2⟩
  have ho : Hid (OwnB w2 w.heap.size v (hmL sha1L key l)) := hown.base bel1.size
  have hb : Below w.heap.size w w2 := bel1.trans (bel2.mono bel1.size)
  clear hown
  go_wp2
  go_ret
  exact ⟨_, rfl, ho.out, hb⟩
end Go.Proofs.Ytmgflcglmakceaa
