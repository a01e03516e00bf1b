/- Plain facts: words of 32 bits, and what the walk spells of them; what right and left answer. -/
import Derived.Test.YtbclhaleibjkgaaB2
import Derived.Test.YtbclhaleibjkgaaOwn
namespace Go.Proofs.Ytbclhaleibjkgaa
open Go.RowKit

/-- the operations of words, under names of their own -/
def add32 (a b : UInt32) : UInt32 := a + b
def xor32 (a b : UInt32) : UInt32 := a ^^^ b
def and32 (a b : UInt32) : UInt32 := a &&& b
def or32 (a b : UInt32) : UInt32 := a ||| b
def not32 (a : UInt32) : UInt32 := ~~~a
def shr32 (a : UInt32) (n : Nat) : UInt32 := UInt32.ofNat (a.toNat / 2 ^ n)

theorem bits_range (o : BinOp) (x y : Int) : 0 ≤ bits o .u32 x y ∧ bits o .u32 x y < 4294967296 := by
  unfold bits
  generalize (match o with | .and => _ | .or => _ | .xor => _ | _ => _ : BitVec IntKind.u32.bits).toNat = n
  simp [IntKind.wrap, IntKind.signed, IntKind.bits]
  omega

/-- a word turned to the right -/
def rot (x : UInt32) (n : Nat) : UInt32 := UInt32.ofNat (bits .or .u32 ((x.toNat : Int) * 2 ^ (32 - n) % 4294967296) ((x.toNat : Int) / 2 ^ n)).toNat

theorem w_add (a b : UInt32) : ((a.toNat : Int) + (b.toNat : Int)) % 4294967296 = ((add32 a b).toNat : Int) := by
  unfold add32
  rw [UInt32.toNat_add]
  omega
theorem w_addw (a b : UInt32) : IntKind.u32.wrap ((a.toNat : Int) + (b.toNat : Int)) = ((add32 a b).toNat : Int) := by
  rw [← w_add]; simp [IntKind.wrap, IntKind.signed, IntKind.bits]
theorem w_xor (a b : UInt32) : bits .xor .u32 (a.toNat : Int) (b.toNat : Int) = ((xor32 a b).toNat : Int) := bits_xor32 a b
theorem w_and (a b : UInt32) : bits .and .u32 (a.toNat : Int) (b.toNat : Int) = ((and32 a b).toNat : Int) := bits_and32 a b
theorem w_or (a b : UInt32) : bits .or .u32 (a.toNat : Int) (b.toNat : Int) = ((or32 a b).toNat : Int) := bits_or32 a b
theorem w_not (a : UInt32) : bits .xor .u32 4294967295 (a.toNat : Int) = ((not32 a).toNat : Int) := by
  have h := bits_xor32 4294967295 a
  have e : (4294967295 : UInt32) ^^^ a = ~~~a := by
    apply UInt32.toBitVec_inj.1
    rw [UInt32.toBitVec_xor, UInt32.toBitVec_not]
    exact BitVec.allOnes_xor
  rw [e] at h; exact h
theorem w_notm (a : UInt32) : bits .xor .u32 IntKind.u32.max (a.toNat : Int) = ((not32 a).toNat : Int) := w_not a
theorem w_shr (a : UInt32) (n : Nat) : (a.toNat : Int) / 2 ^ n = ((shr32 a n).toNat : Int) := by
  unfold shr32
  have : a.toNat / 2 ^ n < 4294967296 := Nat.lt_of_le_of_lt (Nat.div_le_self _ _) a.toNat_lt
  rw [UInt32.toNat_ofNat', Nat.mod_eq_of_lt this]
  norm_cast
theorem w_shr3 (a : UInt32) : (a.toNat : Int) / 8 = ((shr32 a 3).toNat : Int) := w_shr a 3
theorem w_shr10 (a : UInt32) : (a.toNat : Int) / 1024 = ((shr32 a 10).toNat : Int) := w_shr a 10
theorem w_rot (x : UInt32) (n : Nat) : bits .or .u32 ((x.toNat : Int) * 2 ^ (32 - n) % 4294967296) ((x.toNat : Int) / 2 ^ n) = ((rot x n).toNat : Int) := by
  unfold rot
  have := bits_range .or ((x.toNat : Int) * 2 ^ (32 - n) % 4294967296) ((x.toNat : Int) / 2 ^ n)
  rw [UInt32.toNat_ofNat']
  omega

theorem ret_int32 {a b : Int} (h : a = b) : Ending.returned (.int .u32 a) = .returned (.int .u32 b) := by rw [h]

set_option maxHeartbeats 400000 in
theorem refLeft (x : UInt32) (n : Nat) (h0 : 1 ≤ n) (h1 : n ≤ 31) (w : World) :
    Calls Try.prog 72 #[.int .u32 (x.toNat : Int), .int .i64 (n : Int)] w fun e w' => e = .returned (.int .u32 ((rot x (32 - n)).toNat : Int)) ∧ w' = w := by
  have H : Hid (bits .or .u32 ((x.toNat : Int) * 2 ^ n % 4294967296) ((x.toNat : Int) / 2 ^ (32 - n)) = ((rot x (32 - n)).toNat : Int)) := by
    have H := w_rot x (32 - n)
    have e : 32 - (32 - n) = n := by omega
    rw [e] at H; exact H
  go_enter Try.func72, Try.ntmps72
  go_wp2
  go_ret
  exact ⟨ret_int32 H.out, rfl⟩

set_option maxHeartbeats 400000 in
theorem refRight (x : UInt32) (n : Nat) (h0 : 1 ≤ n) (h1 : n ≤ 31) (w : World) :
    Calls Try.prog 58 #[.int .u32 (x.toNat : Int), .int .i64 (n : Int)] w fun e w' => e = .returned (.int .u32 ((rot x n).toNat : Int)) ∧ w' = w := by
  have e1 : Hid ((32 : Int) - (n : Int) = ((32 - n : Nat) : Int)) := by unfold Hid; omega
  have e2 : 32 - (32 - n) = n := by omega
  go_enter Try.func58, Try.ntmps58
  go_wp2_with fail
  rw [e1.out]
  refine (refLeft x (32 - n) (by omega) (by omega) _).mono ?_
  rw [e2]
  rintro e w' ⟨rfl, rfl⟩
  go_wp2
  go_ret
  exact ⟨rfl, rfl⟩

theorem and31 (n : Nat) (h0 : 1 ≤ n) (h1 : n ≤ 31) : bits .and .u64 (IntKind.u64.wrap (-(n : Int))) 31 = ((32 - n : Nat) : Int) := by
  have : ∀ n : Nat, n < 32 → 1 ≤ n → bits .and .u64 (IntKind.u64.wrap (-(n : Int))) 31 = ((32 - n : Nat) : Int) := by decide +kernel
  exact this n (by omega) h0
theorem and31p (n : Nat) (h1 : n ≤ 31) : bits .and .u64 (n : Int) 31 = (n : Int) := by
  have : ∀ n : Nat, n < 32 → bits .and .u64 (n : Int) 31 = (n : Int) := by decide +kernel
  exact this n (by omega)

set_option maxHeartbeats 400000 in
theorem rotLneg (x : UInt32) (n : Nat) (h0 : 1 ≤ n) (h1 : n ≤ 31) (w : World) :
    Calls Try.prog 81 #[.int .u32 (x.toNat : Int), .int .i64 (-(n : Int))] w fun e w' => e = .returned (.int .u32 ((rot x n).toNat : Int)) ∧ w' = w := by
  have e1 := and31 n h0 h1
  have e2 : 32 - (32 - n) = n := by omega
  have H : Hid (bits .or .u32 ((x.toNat : Int) * 2 ^ (32 - n) % 4294967296) ((x.toNat : Int) / 2 ^ n) = ((rot x n).toNat : Int)) := w_rot x n
  go_enter Try.func81, Try.ntmps81
  go_wp2
  go_ret
  exact ⟨ret_int32 H.out, rfl⟩

set_option maxHeartbeats 400000 in
theorem rotLpos (x : UInt32) (n : Nat) (h0 : 1 ≤ n) (h1 : n ≤ 31) (w : World) :
    Calls Try.prog 81 #[.int .u32 (x.toNat : Int), .int .i64 (n : Int)] w fun e w' => e = .returned (.int .u32 ((rot x (32 - n)).toNat : Int)) ∧ w' = w := by
  have e1 := and31p n h1
  have H : Hid (bits .or .u32 ((x.toNat : Int) * 2 ^ n % 4294967296) ((x.toNat : Int) / 2 ^ (32 - n)) = ((rot x (32 - n)).toNat : Int)) := by
    have H := w_rot x (32 - n)
    have e : 32 - (32 - n) = n := by omega
    rw [e] at H; exact H
  go_enter Try.func81, Try.ntmps81
  go_wp2
  go_ret
  exact ⟨ret_int32 H.out, rfl⟩

set_option maxHeartbeats 400000 in
theorem digRight (x : UInt32) (n : Nat) (h0 : 1 ≤ n) (h1 : n ≤ 31) (w : World) :
    Calls Try.prog 78 #[.int .u32 (x.toNat : Int), .int .i64 (n : Int)] w fun e w' => e = .returned (.int .u32 ((rot x n).toNat : Int)) ∧ w' = w := by
  go_enter Try.func78, Try.ntmps78
  go_wp2_with fail
  refine (rotLneg x n h0 h1 _).mono ?_
  rintro e w' ⟨rfl, rfl⟩
  go_wp2
  go_ret
  exact ⟨rfl, rfl⟩

/-- the same, by a number of Go's -/
theorem refRightI (x : UInt32) (k : Int) (h0 : 1 ≤ k) (h1 : k ≤ 31) (w : World) :
    Calls Try.prog 58 #[.int .u32 (x.toNat : Int), .int .i64 k] w fun e w' => e = .returned (.int .u32 ((rot x k.toNat).toNat : Int)) ∧ w' = w := by
  have h := refRight x k.toNat (by omega) (by omega) w
  have e : ((k.toNat : Nat) : Int) = k := by omega
  rw [e] at h; exact h
theorem digRightI (x : UInt32) (k : Int) (h0 : 1 ≤ k) (h1 : k ≤ 31) (w : World) :
    Calls Try.prog 78 #[.int .u32 (x.toNat : Int), .int .i64 k] w fun e w' => e = .returned (.int .u32 ((rot x k.toNat).toNat : Int)) ∧ w' = w := by
  have h := digRight x k.toNat (by omega) (by omega) w
  have e : ((k.toNat : Nat) : Int) = k := by omega
  rw [e] at h; exact h

/-- words as cells; a block that is known whole -/
def wv (l : List UInt32) : List Value := l.map fun x => .int .u32 (x.toNat : Int)
def nthW (l : List UInt32) (i : Nat) : UInt32 := l.getD i 0
theorem nthW_eq (l : List UInt32) (i : Nat) (h : i < l.length) : nthW l i = l[i] := by
  unfold nthW; rw [List.getD_eq_getElem?_getD, List.getElem?_eq_getElem h]; rfl
theorem wv_at (l : List UInt32) (i : Nat) (h : i < l.length) : (wv l)[i]? = some (.int .u32 ((nthW l i).toNat : Int)) := by
  rw [nthW_eq l i h]; simp [wv, List.getElem?_eq_getElem h]
theorem wv_length (l : List UInt32) : (wv l).length = l.length := by simp [wv]
theorem wv_append (l m : List UInt32) : wv (l ++ m) = wv l ++ wv m := by simp [wv]
theorem wv_set (l : List UInt32) (i : Nat) (x : UInt32) : wv (l.set i x) = (wv l).set i (.int .u32 (x.toNat : Int)) := by unfold wv; rw [List.map_set]
theorem wv_one (l : List UInt32) : ∀ u ∈ wv l, u.oneCell' = true := by
  intro u hu
  obtain ⟨b, _, rfl⟩ := List.mem_map.1 hu
  rfl

theorem keepc {w : World} {a b : Addr} {v : Value} {x : Option Value} (h : w.cell? b = x) (hne : a ≠ b) : (w.setCell a v).drew.cell? b = x :=
  (World.cell?_setCell_other _ _ _ _ hne).trans h
theorem addr_ne {B i j : Nat} (h : i ≠ j) : (⟨B, i, none⟩ : Addr) ≠ ⟨B, j, none⟩ := by
  intro e; injection e with _ e2; exact h e2

theorem wv_all (l : List UInt32) : (wv l).toArray.all (·.oneCell') = true := all_oneCell_toArray (wv_one l)
theorem bv_all (l : List UInt8) : (bv l).toArray.all (·.oneCell') = true := all_oneCell_toArray (bv_one l)
end Go.Proofs.Ytbclhaleibjkgaa
