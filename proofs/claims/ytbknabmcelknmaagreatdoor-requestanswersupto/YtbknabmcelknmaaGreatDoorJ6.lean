/- Plain facts: what Parse, Show and Answer answer. A text's bytes one by one. Small facts on what is handed back. Blocks that are known whole. request: refusals, signs between two bounds, tokens, methods. -/
import Derived.Test.YtbknabmcelknmaaGreatDoorJ2
import Derived.Test.YtbknabmcelknmaaGreatDoorJ5
import Derived.Test.YtbknabmcelknmaaGreatDoorJ0
import Derived.Test.YtbknabmcelknmaaGreatDoorOwnS
import Derived.WalkSmall
namespace Go.Proofs.YtbknabmcelknmaaGreatDoor

/-- a request -/
structure Rq where
  m : List UInt8
  p : List UInt8
  q : List UInt8
  hs : List Pr
  b : List UInt8
def Rq.none : Rq := ⟨[], [], [], [], []⟩
def http11 : List UInt8 := [72, 84, 84, 80, 47, 49, 46, 49]
def ctl : List UInt8 := [99, 111, 110, 116, 101, 110, 116, 45, 108, 101, 110, 103, 116, 104]
def methodL (l : List UInt8) : Bool := decide (l = [71, 69, 84] ∨ l = [80, 85, 84] ∨ l = [80, 79, 83, 84] ∨ l = [68, 69, 76, 69, 84, 69] ∨ l = [72, 69, 65, 68])
/-- the first line -/
def FirstOk (l : List UInt8) : Prop := hasL 32 l = true ∧ hasL 32 (tailL 32 l) = true ∧ tailL 32 (tailL 32 l) = http11 ∧ methodL (headL 32 l) = true ∧ ¬ headL 32 (tailL 32 l) = [] ∧ betwL 33 126 1024 (headL 32 (tailL 32 l)) = true
instance (l : List UInt8) : Decidable (FirstOk l) := by unfold FirstOk; exact inferInstance
def firM (l : List UInt8) : List UInt8 := if FirstOk l then headL 32 l else []
def firP (l : List UInt8) : List UInt8 := if FirstOk l then headL 63 (headL 32 (tailL 32 l)) else []
def firQ (l : List UInt8) : List UInt8 := if FirstOk l then tailL 63 (headL 32 (tailL 32 l)) else []
/-- one header more -/
def hdrN (h : List UInt8) : List UInt8 := smallL (headL 58 h)
def hdrV (h : List UInt8) : List UInt8 := trimL (tailL 58 h)
def HdrOk (acc : List Pr) (h : List UInt8) : Prop := hasL 58 h = true ∧ tokenL (hdrN h) = true ∧ valueL (hdrV h) = true ∧ (findL acc (hdrN h)).isSome = false ∧ acc.length < 24
instance (acc : List Pr) (h : List UInt8) : Decidable (HdrOk acc h) := by unfold HdrOk; exact inferInstance
/-- the headers, and what is behind the empty line -/
def hdrF : Nat → List Pr → List UInt8 → Option (List Pr × List UInt8)
  | 0, _, _ => none
  | f + 1, acc, s => match lineL s with
    | none => none
    | some (h, rest) => if h = [] then some (acc, rest) else if HdrOk acc h then hdrF f (acc ++ [(hdrN h, hdrV h)]) rest else none
def hdrL (acc : List Pr) (s : List UInt8) : Option (List Pr × List UInt8) := hdrF (s.length + 1) acc s
theorem hdrF_fuel (f : Nat) : ∀ (acc : List Pr) (s : List UInt8), s.length < f → hdrF f acc s = hdrF (s.length + 1) acc s := by
  induction f using Nat.strongRecOn with
  | _ f ih =>
    intro acc s hs
    cases f with
    | zero => omega
    | succ f =>
      rw [hdrF, hdrF]
      cases hl : lineL s with
      | none => rfl
      | some x =>
        obtain ⟨h, rest⟩ := x
        have hlen := line_length hl
        show (if h = [] then some (acc, rest) else if HdrOk acc h then hdrF f (acc ++ [(hdrN h, hdrV h)]) rest else none) = (if h = [] then some (acc, rest) else if HdrOk acc h then hdrF s.length (acc ++ [(hdrN h, hdrV h)]) rest else none)
        rw [ih f (by omega) _ rest (by omega), ih s.length (by omega) _ rest (by omega)]
theorem hdr_none {acc : List Pr} {s : List UInt8} (h : lineL s = none) : hdrL acc s = none := by unfold hdrL; rw [hdrF, h]
theorem hdr_end {acc : List Pr} {s rest : List UInt8} (h : lineL s = some ([], rest)) : hdrL acc s = some (acc, rest) := by unfold hdrL; rw [hdrF, h]; rfl
theorem hdr_bad {acc : List Pr} {s h rest : List UInt8} (h1 : lineL s = some (h, rest)) (h2 : ¬ h = []) (h3 : ¬ HdrOk acc h) : hdrL acc s = none := by
  unfold hdrL; rw [hdrF, h1]; simp only [if_neg h2, if_neg h3]
theorem hdr_next {acc : List Pr} {s h rest : List UInt8} (h1 : lineL s = some (h, rest)) (h2 : ¬ h = []) (h3 : HdrOk acc h) : hdrL acc s = hdrL (acc ++ [(hdrN h, hdrV h)]) rest := by
  have hlen := line_length h1
  unfold hdrL; rw [hdrF, h1]; simp only [if_neg h2, if_pos h3]
  exact hdrF_fuel _ _ _ (by omega)
/-- lengths that are told -/
def LenOk (hs : List Pr) (b : List UInt8) : Prop := match findL hs ctl with
  | some c => NumOk c 4096 ∧ valL c = b.length
  | none => b = []
open Classical in
/-- why there is no request, or nought; the request -/
noncomputable def parseL (b : List UInt8) : Int × Rq :=
  if 4096 < b.length then (3, Rq.none)
  else match lineL b with
    | none => (10, Rq.none)
    | some (l, s) => if ¬ FirstOk l then (10, Rq.none)
      else match hdrL [] s with
        | none => (11, Rq.none)
        | some (hs, body) => if ¬ (pathC (firP l) = 0 ∧ queryC (firQ l) = 0) then (13, Rq.none)
          else if LenOk hs body then (0, ⟨firM l, firP l, firQ l, hs, body⟩) else (12, Rq.none)
/-- a request's target; its bytes -/
def targL (r : Rq) : List UInt8 := if r.q = [] then r.p else r.p ++ [63] ++ r.q
def hline (p : Pr) : List UInt8 := p.1 ++ [58, 32] ++ p.2 ++ [13, 10]
def hlines (hs : List Pr) : List UInt8 := (hs.map hline).flatten
def rtext (r : Rq) : List UInt8 := r.m ++ [32] ++ targL r ++ [32] ++ http11 ++ [13, 10] ++ hlines r.hs ++ [13, 10] ++ r.b
def HsOk (p : Pr) : Prop := tokenL p.1 = true ∧ p.1 = smallL p.1 ∧ valueL p.2 = true
instance (p : Pr) : Decidable (HsOk p) := by unfold HsOk; exact inferInstance
def PathOk (r : Rq) : Prop := ¬ r.p = [] ∧ hasL 63 r.p = false ∧ betwL 33 126 1024 (r.p ++ r.q) = true ∧ (targL r).length ≤ 1024
instance (r : Rq) : Decidable (PathOk r) := by unfold PathOk; exact inferInstance
open Classical in
noncomputable def showL (r : Rq) : Int × List UInt8 :=
  if methodL r.m = false then (10, [])
  else if ¬ PathOk r then (13, [])
  else if ¬ (∀ p ∈ r.hs, HsOk p) then (11, [])
  else if (parseL (rtext r)).1 = 0 then (0, rtext r) else ((parseL (rtext r)).1, [])
/-- an answer's bytes -/
def ctline : List UInt8 := ctl ++ [58, 32]
def answerL (status : Int) (hs : List Pr) (b : List UInt8) : List UInt8 :=
  http11 ++ [32] ++ digitsL status.toNat ++ [13, 10] ++ hlines hs ++ ctline ++ digitsL b.length ++ [13, 10, 13, 10] ++ b
end Go.Proofs.YtbknabmcelknmaaGreatDoor
namespace Go.Proofs.YtbknabmcelknmaaGreatDoor
def sb (s : ByteArray) (i : Int) : UInt8 := nth s.data.toList i.toNat

theorem ixs (s : ByteArray) (i : Int) (h0 : 0 ≤ i) (h1 : i < (s.size : Int)) (u : World) : (Instr.index 9 (.string s) (.int .i64 i)).run Tryz.prog u = .ok (.int .u8 ((sb s i).toNat : Int)) u := by
  rw [run_index_string u 9 _ .i64 i Tryz.underlying9]
  rw [dif_pos ⟨h0, h1⟩]
  have : i.toNat < s.data.toList.length := by have : s.data.toList.length = s.size := by rw [Array.length_toList]; rfl
                                              omega
  unfold sb
  rw [nth_eq _ _ this]
  rfl
end Go.Proofs.YtbknabmcelknmaaGreatDoor
namespace Go.Proofs.YtbknabmcelknmaaGreatDoor
open Go.RowKit

theorem ret_b {a b : Bool} (h : a = b) : Ending.returned (.bool a) = .returned (.bool b) := by rw [h]
theorem ret_i {a b : Int} (h : a = b) : Ending.returned (.int .i64 a) = .returned (.int .i64 b) := by rw [h]
theorem ret_sc {a b : List UInt8} {e f : Int} (h : a = b) (h2 : e = f) : Ending.returned (.tuple #[.string ⟨a.toArray⟩, .int .i64 e]) = .returned (.tuple #[.string ⟨b.toArray⟩, .int .i64 f]) := by rw [h, h2]
theorem ret_ss {a b c d : ByteArray} (h : a = b) (h2 : c = d) : Ending.returned (.tuple #[.string a, .string c]) = .returned (.tuple #[.string b, .string d]) := by rw [h, h2]
theorem ret_sb {a b : ByteArray} {c d : Bool} (h : a = b) (h2 : c = d) : Ending.returned (.tuple #[.string a, .bool c]) = .returned (.tuple #[.string b, .bool d]) := by rw [h, h2]
end Go.Proofs.YtbknabmcelknmaaGreatDoor
namespace Go.Proofs.YtbknabmcelknmaaGreatDoor
open Go.RowKit

/-- the world under a name of its own: what is known of it, and no more -/
theorem wp_named {P : Program} {c : Code} {Q : Exit → Act → World → Prop} {a : Act} {w : World} (R : World → Prop) (hR : R w) (h : ∀ w', R w' → Code.wp P c Q a w') : Code.wp P c Q a w := h w hR

def Blk (w : World) (B t : Nat) (cs : List Value) : Prop := w.heap[B]? = some (.cells cs.toArray t (0, 0))
theorem Blk.lt {w : World} {B t : Nat} {cs : List Value} (h : Blk w B t cs) : B < w.heap.size := (Array.getElem?_eq_some_iff.1 h).1
theorem Blk.cell {w : World} {B t : Nat} {cs : List Value} (h : Blk w B t cs) (j : Nat) : w.cell? ⟨B, j, none⟩ = cs[j]? := by
  rw [cell_of_row w B j _ _ _ h]; simp
theorem Blk.frozen {w : World} {B t : Nat} {cs : List Value} (h : Blk w B t cs) (j : Nat) : w.frozen? ⟨B, j, none⟩ = false := frozen_of_row w B j _ _ h
theorem Blk.below {w w' : World} {n B t : Nat} {cs : List Value} (h : Blk w B t cs) (hb : Below n w w') (hn : B < n) : Blk w' B t cs := by
  unfold Blk; rw [hb.block B hn]; exact h
theorem Blk.on {w w' : World} {B t : Nat} {cs : List Value} (h : Blk w B t cs) (hb : Below w.heap.size w w') : Blk w' B t cs := h.below hb h.lt
theorem Blk.alloc {w : World} {B t : Nat} {cs : List Value} (h : Blk w B t cs) (o : Obj) : Blk (w.alloc o) B t cs := by
  unfold Blk; rw [Below.heap_alloc w o B h.lt]; exact h
theorem Blk.drewN {w : World} {B t : Nat} {cs : List Value} (h : Blk w B t cs) (n : Nat) : Blk (w.drewN n) B t cs := h
theorem Blk.new (w : World) (t : Nat) (cs : List Value) : Blk (w.alloc (.cells cs.toArray t)) w.heap.size t cs := heap_alloc_new w _
theorem Blk.newAt (w : World) (B t : Nat) (arr : Array Value) (cs : List Value) (hB : w.heap.size = B) (hc : arr = cs.toArray) : Blk (w.alloc (.cells arr t)) B t cs := by
  subst hB hc; exact heap_alloc_new w _
theorem Blk.set {w : World} {B t : Nat} {cs : List Value} (h : Blk w B t cs) (j : Nat) (u : Value) : Blk (w.setCell ⟨B, j, none⟩ u) B t (cs.set j u) := by
  unfold Blk; rw [heap_setCell_same w B j _ t u h]; simp
theorem Blk.row {w : World} {B t : Nat} {cs : List Value} (h : Blk w B t cs) (ds : List Value) : Blk (w.setRow B ds.toArray) B t ds := setRow_heap w B _ _ t _ h
theorem Blk.rowOther {w : World} {B t : Nat} {cs : List Value} (h : Blk w B t cs) (g : Nat) (c : Array Value) (hne : B ≠ g) : Blk (w.setRow g c) B t cs := by
  unfold Blk; rw [setRow_other w g B c hne]; exact h
theorem bel_row {B g : Nat} {a w : World} (h : Below B a w) (hg : B ≤ g) (c : Array Value) : Below B a (w.setRow g c) :=
  h.trans ⟨rfl, rfl, rfl, by simp [World.setRow], fun k hk => setRow_other w g k c (by omega)⟩
theorem Blk.other {w : World} {B t : Nat} {cs : List Value} (h : Blk w B t cs) (a : Addr) (u : Value) (hne : B ≠ a.block) : Blk (w.setCell a u) B t cs := by
  unfold Blk; rw [heap_setCell_other w a B u hne]; exact h
end Go.Proofs.YtbknabmcelknmaaGreatDoor
namespace Go.Proofs.YtbknabmcelknmaaGreatDoor
open Go.RowKit

/-- what a refusal leaves by -/
def refused (e : Int) : Ending := .panicked [{ v := .iface 26 (.int .i64 e), recovered := false }]

theorem codNeed (b : Bool) (e : Int) (w : World) :
    Calls Tryz.prog 67 #[.bool b, .int .i64 e] w fun x w' => x = (if b then .returned (.tuple #[]) else refused e) ∧ w' = w := by
  cases b
  · go_enter Tryz.func67, Tryz.ntmps67
    go_wp2
    simp [bodyPost, refused]
  · go_enter Tryz.func67, Tryz.ntmps67
    go_wp2
    go_end0
    exact ⟨rfl, rfl⟩

set_option maxHeartbeats 1000000 in
/-- each sign from lo to hi -/
theorem codWithin (l : List UInt8) (lo hi : Nat) (w : World) (hl : l.length ≤ 140737488351232) :
    Calls Tryz.prog 73 #[.string (str l), .int .u8 (lo : Int), .int .u8 (hi : Int)] w fun e w' => e = .returned (.bool (l.all (betwB lo hi))) ∧ w' = w := by
  have HZ : Hid ((str l).size = l.length) := str_size l
  have HS : Hid ((str l).data.toList = l) := str_list l
  generalize str l = s at *
  have hsz : s.size ≤ 140737488351232 := by rw [HZ.out]; exact hl
  go_enter Tryz.func73, Tryz.ntmps73
  go_wp2
  go_loopw [10] (fun i wr => ∃ (k : Nat), k ≤ s.size ∧ i = .int .i64 k ∧ Hid ((l.take k).all (betwB lo hi) = true) ∧ wr = w) (fun i _ => s.size - (intOf i).toNat)
  case atStart => exact ⟨0, Nat.zero_le _, rfl, rfl, rfl⟩
  case round =>
    obtain ⟨k, hk, rfl, HD, rfl⟩ := hrel
    by_cases hlt : k < s.size
    · have hb0 : (0 : Int) ≤ (k : Int) := by omega
      have hb1 : (k : Int) < (s.size : Int) := by omega
      have hkl : k < l.length := by rw [← HZ.out]; exact hlt
      have hcn : nth l k = sb s (k : Int) := by unfold sb; rw [HS.out]; rfl
      have hx0 := ixs s (k : Int) hb0 hb1
      have HT : Hid (betwB lo hi (nth l k) = true → (l.take (k + 1)).all (betwB lo hi) = true) := fun h => all_take hkl HD.out h
      have HF : Hid (betwB lo hi (nth l k) = false → l.all (betwB lo hi) = false) := fun h => all_nth hkl h
      rw [hcn] at HT HF
      generalize sb s (k : Int) = c at *
      clear hkl hcn
      by_cases h1 : c.toNat < lo
      · have h1' : (c.toNat : Int) < (lo : Int) := by omega
        have HR : Hid (l.all (betwB lo hi) = false) := HF.out (by unfold betwB; simp; omega)
        clear HT HF
        go_wp2
        go_ret
        exact ⟨ret_b HR.out.symm, by first | rfl | trivial⟩
      · have h1' : ¬ (c.toNat : Int) < (lo : Int) := by omega
        by_cases h2 : hi < c.toNat
        · have h2' : (hi : Int) < (c.toNat : Int) := by omega
          have HR : Hid (l.all (betwB lo hi) = false) := HF.out (by unfold betwB; simp; omega)
          clear HT HF
          go_wp2
          go_ret
          exact ⟨ret_b HR.out.symm, by first | rfl | trivial⟩
        · have h2' : ¬ (hi : Int) < (c.toNat : Int) := by omega
          have HR : Hid ((l.take (k + 1)).all (betwB lo hi) = true) := HT.out (by unfold betwB; simp; omega)
          clear HT HF HD
          go_wp2
          go_roundw
          case rel => exact ⟨k + 1, by omega, by go_num, HR, by first | rfl | trivial⟩
          case measure => simp [intOf]; omega
    · have hge : ¬ (k : Int) < (s.size : Int) := by omega
      have HR : Hid (l.all (betwB lo hi) = true) := by
        have := HD.out
        rw [List.take_of_length_le (by rw [← HZ.out]; omega)] at this
        exact this
      go_wp2
      go_ret
      exact ⟨ret_b HR.out.symm, by first | rfl | trivial⟩

theorem codTarget (l : List UInt8) (w : World) (hl : l.length ≤ 140737488351232) :
    Calls Tryz.prog 56 #[.string (str l)] w fun e w' => e = .returned (.bool (betwL 33 126 1024 l)) ∧ w' = w := by
  have HC := fun w => codWithin l 33 126 w hl
  have HZ : (str l).size = l.length := str_size l
  have HB : Hid (betwL 33 126 1024 l = (l.all (betwB 33 126) && decide (l.length ≤ 1024))) := rfl
  generalize l.all (betwB 33 126) = b at *
  by_cases h : l.length ≤ 1024
  · have h' : ((str l).size : Int) ≤ 1024 := by omega
    have HV : Hid (betwL 33 126 1024 l = b) := by unfold Hid; rw [HB.out, decide_eq_true h, Bool.and_true]
    rw [HV.out]
    clear HB HV h HZ hl
    generalize str l = s at *
    go_enter Tryz.func56, Tryz.ntmps56
    go_wp2_with (go_at_call 73; refine (HC _).mono ?_; rintro e w' ⟨rfl, hww⟩; rw [hww]; clear hww w')
    go_ret
    exact ⟨rfl, rfl⟩
  · have h' : ¬ ((str l).size : Int) ≤ 1024 := by omega
    have HV : Hid (betwL 33 126 1024 l = false) := by unfold Hid; rw [HB.out, decide_eq_false h, Bool.and_false]
    rw [HV.out]
    clear HB HV h HZ hl
    generalize str l = s at *
    go_enter Tryz.func56, Tryz.ntmps56
    go_wp2_with (go_at_call 73; refine (HC _).mono ?_; rintro e w' ⟨rfl, hww⟩; rw [hww]; clear hww w')
    go_ret
    exact ⟨rfl, rfl⟩
end Go.Proofs.YtbknabmcelknmaaGreatDoor
