/- What the program and the document say of a version that is to be deleted, and of a retention that is to be set. -/
import Derived.Test.YtjmkfkkkjcjplaaLk1
namespace Go.Proofs.Ytjmkfkkkjcjplaa
open Go.RowKit

def maySetK (m : Int) (u : Nat) (n : Int) (v t : Nat) (b : Bool) : Int := if rightK n v t then (if standsK m u t b && !coversK n v m u then 37 else 0) else 40
def mayDelK (h : Bool) (m : Int) (u t : Nat) (b : Bool) : Int := if h then 38 else if standsK m u t b then 37 else 0
attribute [local go_sem] undef
theorem codStands (m : Int) (u t : Nat) (b : Bool) (w : World) :
    Calls Try.prog 22 #[.agg #[.int .i64 m, .int .u64 (u : Int)], .int .u64 (t : Int), .bool b] w fun e w' => e = .returned (.bool (standsK m u t b)) ∧ Below w.heap.size w w' := by
  have hY : Below w.heap.size w (w.alloc (.cells #[.int .i64 m, .int .u64 (u : Int)] 35)) := (Below.refl _ w).alloc (Nat.le_refl _) _
  have kb := Blk.new w 35 [.int .i64 m, .int .u64 (u : Int)]
  have HA := codActive m u t
  have HY := codYields m b
  unfold standsK
  generalize activeK m u t = A at *
  generalize (b && m != 2) = Y at *
  cases A
  · go_enter Try.func22, Try.ntmps22
    go_wp2_with fail
    refine (HA _).mono ?_
    rintro e y1 ⟨rfl, hb⟩
    go_wp2_with fail
    go_ret
    exact ⟨rfl, hY.trans (hb.mono hY.size)⟩
  · go_enter Try.func22, Try.ntmps22
    go_wp2_with fail
    refine (HA _).mono ?_
    rintro e y1 ⟨rfl, hb⟩
    have c0 := (kb.on hb).cell 0
    have hb1 := hY.trans (hb.mono hY.size)
    clear hb hY kb
    simp only [List.getElem?_cons_zero] at c0
    go_wp2_with fail
    refine (HY _).mono ?_
    rintro e y2 ⟨rfl, rfl⟩
    go_wp2_with fail
    go_ret
    exact ⟨rfl, hb1⟩
def twoW (w : World) (m : Int) (u : Nat) (n : Int) (v : Nat) : World := (w.alloc (.cells #[.int .i64 m, .int .u64 (u : Int)] 35)).alloc (.cells #[.int .i64 n, .int .u64 (v : Int)] 35)
/-- two retentions in a world -/
structure TwoR (w y : World) (m : Int) (u : Nat) (n : Int) (v : Nat) : Prop where
  a : Blk y w.heap.size 35 [.int .i64 m, .int .u64 (u : Int)]
  b : Blk y (w.heap.size + 1) 35 [.int .i64 n, .int .u64 (v : Int)]
  bel : Below w.heap.size w y
theorem TwoR.new (w : World) (m : Int) (u : Nat) (n : Int) (v : Nat) : TwoR w ((w.alloc (.cells #[.int .i64 m, .int .u64 (u : Int)] 35)).alloc (.cells #[.int .i64 n, .int .u64 (v : Int)] 35)) m u n v :=
  ⟨(Blk.new w 35 [.int .i64 m, .int .u64 (u : Int)]).alloc _, Blk.newAt _ _ _ _ [.int .i64 n, .int .u64 (v : Int)] (World.size_alloc _ _) rfl, two_below w _ _⟩
theorem TwoR.on {w y y' : World} {m : Int} {u : Nat} {n : Int} {v : Nat} (h : TwoR w y m u n v) (hb : Below y.heap.size y y') : TwoR w y' m u n v :=
  ⟨h.a.on hb, h.b.on hb, h.bel.trans (hb.mono h.bel.size)⟩
end Go.Proofs.Ytjmkfkkkjcjplaa
