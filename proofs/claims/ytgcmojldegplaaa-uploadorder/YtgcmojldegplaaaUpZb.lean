/- The program's upload: where a part stands (sort.Search). -/
import Derived.Test.YtgcmojldegplaaaUp5
import Derived.Deep.LoopGhost
import Derived.Shelf.Abstract
namespace Go.Proofs.Ytgcmojldegplaaa
open Go.RowKit

set_option maxRecDepth 20000 in
set_option maxHeartbeats 1000000 in
/-- sort.Search -/
theorem codSearch16 (w : World) (n : Nat) (f : Nat) (cap : Array Value) (c : Nat → Bool) (hn : n ≤ 1000000) (hcl : ∀ W k, Below w.heap.size w W → k < n → Calls Try.prog f (#[.int .i64 ((k : Nat) : Int)] ++ cap) W fun e w' => e = .returned (.bool (c k)) ∧ Below W.heap.size W w') (hf : ∀ args w, (callFunc f args).run Try.prog w = .ok (.enter f args) w) :
    Calls Try.prog 22 #[.int .i64 (n : Int), .func (.func f) #[] cap] w fun e w' => (∃ i : Nat, e = .returned (.int .i64 (i : Int)) ∧ i ≤ n ∧ (0 < i → c (i - 1) = false) ∧ (i < n → c i = true)) ∧ Below w.heap.size w w' := by
  have HC : Hid (∀ W k, Below w.heap.size w W → k < n → Calls Try.prog f (#[.int .i64 ((k : Nat) : Int)] ++ cap) W fun e w' => e = .returned (.bool (c k)) ∧ Below W.heap.size W w') := hcl
  clear hcl
  go_enter Try.func22, Try.ntmps22
  go_wp2
  go_loopg [5, 6] n (fun kx s5 s6 wr => ∃ lo hi : Nat, s5 = .int .i64 (lo : Int) ∧ s6 = .int .i64 (hi : Int) ∧ lo ≤ hi ∧ hi ≤ n ∧ hi - lo ≤ kx ∧ Hid (Below w.heap.size w wr) ∧ Hid (0 < lo → c (lo - 1) = false) ∧ Hid (hi < n → c hi = true))
  case atStart => exact ⟨0, n, rfl, rfl, Nat.zero_le _, Nat.le_refl _, by omega, Below.refl _ _, fun h => absurd h (Nat.lt_irrefl 0), fun h => absurd h (Nat.lt_irrefl _)⟩
  case round =>
    obtain ⟨lo, hi, rfl, rfl, hlh, hin, hg, HB, HI, HJ⟩ := hrel
    by_cases hlt : lo < hi
    · have HCk := HC.out wr ((lo + hi) / 2) HB.out (by omega)
      rw [show (((lo + hi) / 2 : Nat) : Int) = ((lo : Int) + (hi : Int)) / 2 by omega] at HCk
      generalize hck : c ((lo + hi) / 2) = b at HCk
      have HCb := mkHid hck
      clear hck
      cases b with
      | false =>
        go_wp2_with (go_at_fn f; refine HCk.mono ?_; rintro e w' ⟨rfl, hb1⟩)
        go_roundg (hi - ((lo + hi) / 2 + 1))
        case measure => omega
        case rel => exact ⟨(lo + hi) / 2 + 1, hi, by rw [show ((lo : Int) + (hi : Int)) / 2 + 1 = (((lo + hi) / 2 + 1 : Nat) : Int) by omega], rfl, by omega, hin, Nat.le_refl _, HB.out.trans (hb1.mono HB.out.size), fun _ => by rw [Nat.add_sub_cancel]; exact HCb.out, HJ⟩
      | true =>
        go_wp2_with (go_at_fn f; refine HCk.mono ?_; rintro e w' ⟨rfl, hb1⟩)
        go_roundg ((lo + hi) / 2 - lo)
        case measure => omega
        case rel => exact ⟨lo, (lo + hi) / 2, rfl, by rw [show ((lo : Int) + (hi : Int)) / 2 = (((lo + hi) / 2 : Nat) : Int) by omega], by omega, by omega, Nat.le_refl _, HB.out.trans (hb1.mono HB.out.size), HI, fun _ => HCb.out⟩
    · obtain rfl : hi = lo := by omega
      go_wp2
      go_ret
      exact ⟨⟨hi, rfl, hin, HI.out, HJ.out⟩, HB.out⟩
end Go.Proofs.Ytgcmojldegplaaa
