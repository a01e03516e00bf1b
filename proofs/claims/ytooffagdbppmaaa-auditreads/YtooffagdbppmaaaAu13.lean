/- AuditVerifies: the walk. -/
import Derived.Test.YtooffagdbppmaaaAu12
import Derived.Test.YtooffagdbppmaaaB43
namespace Go.Proofs.Ytooffagdbppmaaa
open Go.RowKit

theorem light_of14 {l : List Rq14} (h : lightR (l.map Prod.fst) = true) : (∀ x ∈ l, rcLen x.1 ≤ 5000) ∧ l.length ≤ 100 := by
  obtain ⟨h1, h2⟩ := light_len h
  exact ⟨fun x hx => h1 x.1 (List.mem_map.2 ⟨x, hx, rfl⟩), by rw [List.length_map] at h2; exact h2⟩
attribute [local go_sem] undef
set_option maxRecDepth 20000 in
set_option maxHeartbeats 2000000 in
theorem verifies14 (a : Option Addr) (n cap : Nat) (l : List Rq14) (hv : Value) (hd : List UInt8) (w : World) (h : IsRl w a n l) (hz : ∀ x ∈ l, RcZ x.1) (hn : n ≤ 140737488351232) (hh : IsV w hv hd) :
    Calls Try.prog 6 #[.slice a n cap, hv] w fun e w' => e = .returned (.bool true) ∧ Below w.heap.size w w' := by
  have HX := mkHid h
  have HH := mkHid hh
  have HLt := lawLight14 a n cap l w h hz hn
  have HL2 := @light_of14 l
  have HLn := mkHid h.len
  clear h hz hh
  generalize lightR (l.map Prod.fst) = LT at *
  cases LT with
  | false =>
    clear HL2
    go_enter Try.func6, Try.ntmps6
    go_wp2_with fail
    refine HLt.mono ?_
    rintro e y1 ⟨rfl, hb1⟩
    have HB1 := mkHid hb1
    clear hb1 HLt
    go_wp2_with fail
    go_ret
    exact ⟨rfl, HB1.out⟩
  | true =>
    obtain ⟨hs, hm⟩ := HL2 rfl
    rw [HLn.out] at hm
    have HC := fun W (hW : Below w.heap.size w W) => codVerify14 a n cap l hv hd W (HX.out.below hW) (HH.out.below hW rfl) hs (by omega)
    have HD := fun W (hW : Below w.heap.size w W) => refVerify14 a n cap l hv hd W (HX.out.below hW) (HH.out.below hW rfl) hs (by omega)
    clear HL2 hs hm HX HH HLn
    generalize verN (l.map Prod.fst) hd = VN at *
    go_enter Try.func6, Try.ntmps6
    go_wp2_with fail
    refine HLt.mono ?_
    rintro e y1 ⟨rfl, hb1⟩
    have HB1 := mkHid hb1
    clear hb1 HLt
    go_wp2_with fail
    refine (HC y1 HB1.out).mono ?_
    rintro e y2 ⟨rfl, hb2⟩
    have HB2 := mkHid (HB1.out.trans (hb2.mono HB1.out.size))
    clear hb2 HC HB1
    go_wp2_with fail
    refine (HD y2 HB2.out).mono ?_
    rintro e y3 ⟨rfl, hb3⟩
    have HB3 := mkHid (HB2.out.trans (hb3.mono HB2.out.size))
    clear hb3 HD HB2
    go_wp2_with fail
    refine (lawAlive14 y3).mono ?_
    rintro e y4 ⟨rfl, hb4⟩
    have HB4 := mkHid (HB3.out.trans (hb4.mono HB3.out.size))
    clear hb4 HB3
    go_wp2_with fail
    go_ret
    exact ⟨rfl, HB4.out⟩
end Go.Proofs.Ytooffagdbppmaaa
