/- What digest.Hmac256 answers. -/
import Derived.Test.YtabblgompnmmeaaDigHmac
namespace Go.Proofs.Ytabblgompnmmeaa
open Go.RowKit

set_option maxRecDepth 20000 in
set_option maxHeartbeats 400000 in
theorem digHmac256 (a : Option Addr) (len cap : Nat) (key : List UInt8) (a1 : Option Addr) (len1 cap1 : Nat) (l : List UInt8) (w : World) (h : IsB w a len cap key) (h1 : IsB w a1 len1 cap1 l) (hn : len < 1073741824) (hn1 : len1 < 1073741824) :
    Calls Try.prog 15 #[.slice a len cap, .slice a1 len1 cap1] w fun e w' => ∃ v, e = .returned v ∧ OwnB w' w.heap.size v (hmL sha256L key l) ∧ Below w.heap.size w w' := by
  have H : Hid (IsB w a len cap key) := h
  have H1 : Hid (IsB w a1 len1 cap1 l) := h1
  clear h h1
  go_enter Try.func15, Try.ntmps15
  go_wp2_with fail
  refine (digKind256 _).mono ?_
  rintro e w1 ⟨rfl, bel1⟩
  have H2 : Hid (IsB w1 a len cap key) := H.out.below bel1 rfl
  have H3 : Hid (IsB w1 a1 len1 cap1 l) := H1.out.below bel1 rfl
  go_wp2_with fail
  refine (digHmac 36 mix256L s256 mixOK256 32 (by omega) _ _ _ key _ _ _ l w1 H2.out H3.out hn hn1).mono ?_
  rintro e w2 ⟨v, rfl, hown, bel2⟩
  have ho : Hid (OwnB w2 w.heap.size v (hmL sha256L key l)) := hown.base bel1.size
  have hb : Below w.heap.size w w2 := bel1.trans (bel2.mono bel1.size)
  clear hown
  go_wp2
  go_ret
  exact ⟨_, rfl, ho.out, hb⟩
end Go.Proofs.Ytabblgompnmmeaa
