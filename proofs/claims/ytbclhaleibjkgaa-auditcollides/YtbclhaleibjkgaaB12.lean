/- sync/atomic's truths and numbers, at whatever cell. · canon's reader: a block of two cells; what the small functions on it do. · A slice of bytes, cut at its front. -/
import Derived.Test.YtbclhaleibjkgaaB2
import Derived.Laws.LoneSync
import Derived.RegionCalls
import Derived.Test.YtbclhaleibjkgaaOwn
namespace Go.Proofs.Ytbclhaleibjkgaa
open Go.RowKit
attribute [local go_sem ↓] Go.wp_at_zero Go.wp_at_succ

/-- a truth as the atomic's number -/
def flag (b : Bool) : Int := if b then 1 else 0

theorem b32 (b : Bool) (w : World) : Calls Try.prog 83 #[.bool b] w fun e w' => e = .returned (.int .u32 (flag b)) ∧ w' = w := by
  cases b
  all_goals
    go_enter Try.func83, Try.ntmps83
    go_wp2
    go_ret
    exact ⟨rfl, rfl⟩

theorem atLoadAt (B o : Nat) (f : Bool) (w : World) (h : w.cell? ⟨B, o, none⟩ = some (.int .u32 (flag f))) :
    Calls Try.prog 63 #[.pointer (some ⟨B, o, none⟩)] w fun e w' => e = .returned (.bool f) ∧ w' = w := by
  have hl := run_call_load (P := Try.prog) Try.func75 (by kernel_rfl) (by kernel_rfl) (by kernel_rfl) .u32 (by kernel_rfl) h
  cases f
  all_goals
    go_enter Try.func63, Try.ntmps63
    go_wp2
    go_ret
    exact ⟨rfl, rfl⟩

theorem atStoreAt (B o : Nat) (b : Bool) (v : Value) (w : World) (h : w.cell? ⟨B, o, none⟩ = some v) (hf : w.frozen? ⟨B, o, none⟩ = false) :
    Calls Try.prog 79 #[.pointer (some ⟨B, o, none⟩), .bool b] w fun e w' => e = .returned (.tuple #[]) ∧ w' = w.drew.setCell ⟨B, o, none⟩ (.int .u32 (flag b)) := by
  cases b
  · have hs := run_call_store (P := Try.prog) Try.func82 (by kernel_rfl) (by kernel_rfl) (by kernel_rfl) (by kernel_rfl) (k := .u32) (y := 0) (w := w.drew) (a := ⟨B, o, none⟩) (u := v) (by simpa using h) (by simpa using hf)
    go_enter Try.func79, Try.ntmps79
    go_wp2
    go_region_calls
    all_goals
      go_wp2
      go_end0
      exact ⟨rfl, rfl⟩
  · have hs := run_call_store (P := Try.prog) Try.func82 (by kernel_rfl) (by kernel_rfl) (by kernel_rfl) (by kernel_rfl) (k := .u32) (y := 1) (w := w.drew) (a := ⟨B, o, none⟩) (u := v) (by simpa using h) (by simpa using hf)
    go_enter Try.func79, Try.ntmps79
    go_wp2
    go_region_calls
    all_goals
      go_wp2
      go_end0
      exact ⟨rfl, rfl⟩

end Go.Proofs.Ytbclhaleibjkgaa
namespace Go.Proofs.Ytbclhaleibjkgaa
open Go.RowKit
attribute [local go_sem ↓] Go.wp_at_zero Go.wp_at_succ

/-- the reader's cells -/
def rcell (a : Option Addr) (len cap : Nat) (br : Bool) : List Value := [.slice a len cap, .int .u32 (flag br)]

theorem atLoad (B : Nat) (f : Bool) (w : World) (h : w.cell? ⟨B, 1, none⟩ = some (.int .u32 (flag f))) :
    Calls Try.prog 63 #[.pointer (some ⟨B, 1, none⟩)] w fun e w' => e = .returned (.bool f) ∧ w' = w := atLoadAt B 1 f w h
theorem atStore (B : Nat) (v : Value) (w : World) (h : w.cell? ⟨B, 1, none⟩ = some v) (hf : w.frozen? ⟨B, 1, none⟩ = false) :
    Calls Try.prog 79 #[.pointer (some ⟨B, 1, none⟩), .bool true] w fun e w' => e = .returned (.tuple #[]) ∧ w' = w.drew.setCell ⟨B, 1, none⟩ (.int .u32 1) := atStoreAt B 1 true v w h hf

/-- a reader of the bytes l, broken or not, in block B -/
def IsR (w : World) (B : Nat) (l : List UInt8) (br : Bool) : Prop :=
  ∃ a cap, Blk w B 87 (rcell a l.length cap br) ∧ IsB w a l.length cap l ∧ ∀ x, a = some x → x.block < B

/-- what a call on the reader leaves: its block and new ones apart, all is as it was -/
theorem gr_set (w : World) (B j : Nat) (v : Value) : w.grownBy (w.setCell ⟨B, j, none⟩ v) (some B) :=
  ⟨rfl, rfl, rfl, by simp [World.setCell], fun k _ hk => Below.heap_setCell _ _ _ _ (fun e => hk (by rw [e]))⟩
theorem gr_trans {w w1 w2 : World} {o : Option Nat} (h : w.grownBy w1 o) (h1 : w1.grownBy w2 o) : w.grownBy w2 o := h.trans h1

/-- the mark that comes next; 0, if none does -/
def markOf (l : List UInt8) (br : Bool) : UInt8 := if br then 0 else nth l 0

theorem nth_nil (i : Nat) : nth [] i = 0 := by simp [nth]

set_option maxHeartbeats 1000000 in
theorem cmark (B : Nat) (l : List UInt8) (br : Bool) (w : World) (h : IsR w B l br) :
    Calls Try.prog 73 #[.pointer (some ⟨B, 0, none⟩)] w fun e w' => e = .returned (.int .u8 ((markOf l br).toNat : Int)) ∧ w' = w := by
  obtain ⟨a, cap, hb, hi, hne⟩ := h
  have c0 := hb.cell 0
  have c1 := hb.cell 1
  have HI : Hid (IsB w a l.length cap l) := hi
  clear hb hi hne
  simp only [rcell, List.getElem?_cons_zero, List.getElem?_cons_succ] at c0 c1
  generalize hn : l.length = n at *
  have HN : Hid (l.length = n) := hn
  clear hn
  cases br
  · by_cases h0 : n = 0
    · have hz : markOf l false = 0 := by
        have : l = [] := List.eq_nil_of_length_eq_zero (HN.out.trans h0)
        subst this; rfl
      have h0' : ((n : Int) == 0) = true := by simp [h0]
      rw [hz]
      clear h0 hz
      go_enter Try.func73, Try.ntmps73
      go_wp2_with fail
      refine (atLoad B false w c1).mono ?_
      rintro e w1 ⟨rfl, rfl⟩
      go_wp2_with fail
      go_ret
      exact ⟨rfl, rfl⟩
    · have hz : markOf l false = nth l 0 := rfl
      have h0' : ((n : Int) == 0) = false := by simp; omega
      rw [hz]
      clear hz
      obtain ⟨b, off, rfl, hc⟩ := HI.out.cells (by omega)
      have g0 := hc 0 (by omega)
      rw [Nat.add_zero] at g0
      have hpos : (0 : Int) < (n : Int) := by omega
      clear hc h0
      go_enter Try.func73, Try.ntmps73
      go_wp2_with fail
      refine (atLoad B false w c1).mono ?_
      rintro e w1 ⟨rfl, rfl⟩
      go_wp2_with fail
      go_ret
      exact ⟨rfl, rfl⟩
  · have hz : markOf l true = 0 := rfl
    rw [hz]
    go_enter Try.func73, Try.ntmps73
    go_wp2_with fail
    refine (atLoad B true w c1).mono ?_
    rintro e w1 ⟨rfl, rfl⟩
    go_wp2_with fail
    go_ret
    exact ⟨rfl, rfl⟩

theorem isR_fail {w : World} {B : Nat} {l : List UInt8} {br : Bool} (h : IsR w B l br) : IsR (w.drew.setCell ⟨B, 1, none⟩ (.int .u32 1)) B l true := by
  obtain ⟨a, cap, hb, hi, hne⟩ := h
  refine ⟨a, cap, Blk.set (w := w.drew) (cs := rcell a l.length cap br) hb 1 (.int .u32 1), ⟨hi.len_eq, hi.le, hi.max, hi.nil, fun hp => ?_⟩, hne⟩
  obtain ⟨b, off, e, hc⟩ := hi.cells hp
  refine ⟨b, off, e, fun i hl => ?_⟩
  rw [World.cell?_setCell_other _ _ _ _ (fun e' => Nat.ne_of_lt (hne _ e) (by injection e' with e1; exact e1.symm))]
  exact hc i hl

set_option maxHeartbeats 1000000 in
theorem cfail (B : Nat) (l : List UInt8) (br : Bool) (w : World) (h : IsR w B l br) :
    Calls Try.prog 74 #[.pointer (some ⟨B, 0, none⟩)] w fun e w' => e = .returned (.tuple #[]) ∧ IsR w' B l true ∧ w.grownBy w' (some B) := by
  have H : Hid (IsR w B l br) := h
  obtain ⟨a, cap, hb, hi, hne⟩ := h
  have c1 := hb.cell 1
  have f1 := hb.frozen 1
  clear hb hi hne
  simp only [rcell, List.getElem?_cons_zero, List.getElem?_cons_succ] at c1
  go_enter Try.func74, Try.ntmps74
  go_wp2_with fail
  refine (atStore B _ w c1 f1).mono ?_
  rintro e w1 ⟨rfl, rfl⟩
  go_wp2_with fail
  go_end0
  exact ⟨rfl, isR_fail H.out, gr_trans (gr_set w B 1 (.int .u32 1)) ⟨rfl, rfl, rfl, Nat.le_refl _, fun _ _ _ => rfl⟩⟩
end Go.Proofs.Ytbclhaleibjkgaa
namespace Go.Proofs.Ytbclhaleibjkgaa
open Go.RowKit

def cutA (b off cap m : Nat) : Option Addr := some (if cap = m then ⟨b, off, none⟩ else ⟨b, off + m, none⟩)
theorem slB (b off r cap m : Nat) (hm : m ≤ r) (w : World) : (Instr.slice 24 (.slice (some ⟨b, off, none⟩) r cap) (some (.int .i64 (m : Int))) none none).run Try.prog w = .ok (.slice (cutA b off cap m) (r - m) (cap - m)) w := by
  have he : Try.prog.elem 24 = 5 := by kernel_rfl
  have hz : (sizeOf 5).run Try.prog w = .ok 1 w := by
    obtain ⟨i0, hi, hz0, hz1, hz2⟩ := info_parts info8
    simp [sizeOf, typeInfo, hi, hz1]
  rw [run_slice_l w 24 _ r cap (by rw [he]; exact Try.underlying24) .i64 (m : Int) (by omega) (by omega), he, hz]
  simp only [Result.andThen, sliced, Int.toNat_natCast, Nat.mul_one, Option.map_some, Addr.add_lit, cutA]
  split <;> rfl
end Go.Proofs.Ytbclhaleibjkgaa
