/- SpaceBits, over any space that keeps the document. -/
import Derived.Test.YthjdmfbengpepaaGreatB26
namespace Go.Proofs.YthjdmfbengpepaaGreat
open Go.RowKit

set_option maxRecDepth 20000 in
set_option maxHeartbeats 4000000 in
theorem bits11 {JA : World → Nat → Nat → Nat → Jl → Prop} {TA SA : World → Nat → Nat → Nat → Nat → Tl → Jl → Prop} (ok : JrnOK JA TA) (so : SpcOK JA SA) (a : Option Addr) (len cap : Nat) (l : List UInt8) (i n : Int) (w : World) (h : IsB w a len cap l) (hi0 : -9223372036854775808 ≤ i) (hi1 : i ≤ 9223372036854775807) (hn0 : -9223372036854775808 ≤ n) (hn1 : n ≤ 9223372036854775807) :
    Calls Tryz.prog 32 #[.slice a len cap, .int .i64 i, .int .i64 n] w fun e w' => e = .returned (.bool true) ∧ Below w.heap.size w w' := by
  have hmax := h.max
  unfold maxLen at hmax
  have hle := h.le
  have hlm : (len : Int) ≤ 9223372036854775807 := by omega
  clear hmax hle
  have H := mkHid h
  clear h
  by_cases hb : 10000 < len
  · have hb' : (10000 : Int) < (len : Int) := by omega
    go_enter Tryz.func32, Tryz.ntmps32
    go_wp2_with fail
    go_ret
    exact ⟨rfl, Below.refl _ _⟩
  · have hb' : ¬ (10000 : Int) < (len : Int) := by omega
    have HAl := lawAlive11 ok so
    have HT := fun W (hW : IsB W a len cap l) => so.taken W a len cap l i hW (by omega) hi0 hi1
    have HR := fun W (hW : IsB W a len cap l) => refTaken11 a len cap l i W hW hi0 hi1
    have HC := fun W (hW : IsB W a len cap l) => so.count W a len cap l n hW (by omega) hn0 hn1
    have HD := fun W (hW : IsB W a len cap l) => refCount11 a len cap l n W hW hn0 hn1
    generalize takenL l i = T at *
    generalize countL l n = C at *
    clear ok so hi0 hi1 hn0 hn1
    go_enter Tryz.func32, Tryz.ntmps32
    go_wp2_with fail
    refine (HT _ H.out).mono ?_
    rintro e x1 ⟨rfl, hb1⟩
    have H1 := mkHid (H.out.below hb1 rfl)
    have HB1 := mkHid hb1
    clear H HT hb1
    go_wp2_with fail
    refine (HR _ H1.out).mono ?_
    rintro e x2 ⟨rfl, hb2⟩
    have H2 := mkHid (H1.out.below hb2 rfl)
    have HB2 := mkHid (HB1.out.trans (hb2.mono HB1.out.size))
    clear H1 HR hb2
    go_wp2_with fail
    refine (HC _ H2.out).mono ?_
    rintro e x3 ⟨rfl, hb3⟩
    have H3 := mkHid (H2.out.below hb3 rfl)
    have HB3 := mkHid (HB2.out.trans (hb3.mono HB2.out.size))
    clear H2 HC hb3
    go_wp2_with fail
    refine (HD _ H3.out).mono ?_
    rintro e x4 ⟨rfl, hb4⟩
    have HB4 := mkHid (HB3.out.trans (hb4.mono HB3.out.size))
    clear H3 HD hb4
    go_wp2_with fail
    refine (HAl _).mono ?_
    rintro e x5 ⟨rfl, hb5⟩
    have HB5 := mkHid (HB4.out.trans (hb5.mono HB4.out.size))
    clear HAl hb5
    go_wp2_with fail
    go_ret
    exact ⟨rfl, HB5.out⟩
end Go.Proofs.YthjdmfbengpepaaGreat
