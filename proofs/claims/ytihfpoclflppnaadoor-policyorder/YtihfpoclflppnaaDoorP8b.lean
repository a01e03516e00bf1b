/- What policy's hasWords, says and showRule answer. -/
import Derived.Test.YtihfpoclflppnaaDoorP8a
import Derived.Test.YtihfpoclflppnaaDoorShelf4
import Derived.Test.YtihfpoclflppnaaDoorBlk
import Derived.Test.YtihfpoclflppnaaDoorOwnR
import Derived.Lib.Join
namespace Go.Proofs.YtihfpoclflppnaaDoor
open Go.RowKit

set_option maxRecDepth 20000 in
set_option maxHeartbeats 2000000 in
theorem codHas (d : Bool) (a b c : List UInt8) (w : World) (za : a.length ≤ 140737488351232) (zb : b.length ≤ 140737488351232) (zc : c.length ≤ 140737488351232) :
    Calls Tryd.prog 29 #[.agg #[.bool d, .string (str a), .string (str b), .string (str c)]] w fun e w' => e = .returned (.bool (wordL a && wordL b && wordL c)) ∧ Below w.heap.size w w' := by
  have H1 := fun W => codWord8 a W za
  have H2 := fun W => codWord8 b W zb
  have H3 := fun W => codWord8 c W zc
  obtain ⟨x, hx⟩ : ∃ x, x = wordL a := ⟨_, rfl⟩
  obtain ⟨y, hy⟩ : ∃ y, y = wordL b := ⟨_, rfl⟩
  obtain ⟨z, hz⟩ : ∃ z, z = wordL c := ⟨_, rfl⟩
  rw [← hx, ← hy, ← hz]
  rw [← hx] at H1
  rw [← hy] at H2
  rw [← hz] at H3
  clear hx hy hz
  generalize str a = sa at *
  generalize str b = sb1 at *
  generalize str c = sc at *
  have K0 : Hid (Blk (w.alloc (.cells #[.bool d, .string sa, .string sb1, .string sc] 37)) w.heap.size 37 [.bool d, .string sa, .string sb1, .string sc]) := Blk.newAt w _ _ _ _ rfl rfl
  have T0 : Below w.heap.size w (w.alloc (.cells #[.bool d, .string sa, .string sb1, .string sc] 37)) := (Below.refl _ w).alloc (Nat.le_refl _) _
  have HK : Hid (∀ W, Below (w.alloc (.cells #[.bool d, .string sa, .string sb1, .string sc] 37)).heap.size (w.alloc (.cells #[.bool d, .string sa, .string sb1, .string sc] 37)) W → Blk W w.heap.size 37 [.bool d, .string sa, .string sb1, .string sc] ∧ Below w.heap.size w W) := fun W hW => ⟨K0.out.on hW, T0.trans (hW.mono T0.size)⟩
  clear K0 T0
  go_enter Tryd.func29, Tryd.ntmps29
  go_wp2_with fail
  refine (H1 _).mono ?_
  rintro e x1 ⟨rfl, t1⟩
  obtain ⟨k1, T1⟩ := HK.out x1 t1
  have c2 : x1.cell? ⟨w.heap.size, 2, none⟩ = some (.string sb1) := k1.cell 2
  clear H1
  cases x with
  | false =>
    go_wp2_with fail
    go_ret
    exact ⟨rfl, T1⟩
  | true =>
    go_wp2_with fail
    refine (H2 _).mono ?_
    rintro e x2 ⟨rfl, t2⟩
    have k2 := k1.on t2
    have T2 := T1.trans (t2.mono T1.size)
    have c3 : x2.cell? ⟨w.heap.size, 3, none⟩ = some (.string sc) := k2.cell 3
    clear H2 c2
    cases y with
    | false =>
      go_wp2_with fail
      go_ret
      exact ⟨rfl, T2⟩
    | true =>
      go_wp2_with fail
      refine (H3 _).mono ?_
      rintro e x3 ⟨rfl, t3⟩
      have T3 := T2.trans (t3.mono T2.size)
      go_wp2_with fail
      go_ret
      exact ⟨rfl, T3⟩

theorem codSays (d : Bool) (a b c : Value) (w : World) :
    Calls Tryd.prog 34 #[.agg #[.bool d, a, b, c]] w fun e w' => e = .returned (.int .i64 (if d = true then 2 else 1)) ∧ Below w.heap.size w w' := by
  have T0 : Below w.heap.size w (w.alloc (.cells #[.bool d, a, b, c] 37)) := (Below.refl _ w).alloc (Nat.le_refl _) _
  cases d with
  | false =>
    go_enter Tryd.func34, Tryd.ntmps34
    go_wp2
    go_ret
    exact ⟨rfl, T0⟩
  | true =>
    go_enter Tryd.func34, Tryd.ntmps34
    go_wp2
    go_ret
    exact ⟨rfl, T0⟩

theorem join_four (a b c d : List UInt8) : Lib.join [a, b, c, d] [32] = joinC 32 [a, b, c, d] := by
  simp [Lib.join, joinC]
theorem codJoin4 (a b c d : List UInt8) (W : World) (B : Nat) (hB : Blk W B 9 [.string (str a), .string (str b), .string (str c), .string (str d)]) (hz : (joinC 32 [a, b, c, d]).length ≤ 140737488355328) :
    Calls Tryd.prog 39 #[.slice (some ⟨B, 0, none⟩) 4 4, .string ⟨#[32]⟩] W fun e w' => e = .returned (.string (str (joinC 32 [a, b, c, d]))) ∧ Below W.heap.size W w' := by
  have e1 : [str a, str b, str c, str d].map (fun x => x.data.toList) = [a, b, c, d] := by simp [str_list]
  have hJ := Tryd.strings_Join B 0 4 [str a, str b, str c, str d] ⟨#[32]⟩ W (fun j x hx => by
    rw [Nat.zero_add, hB.cell j]
    match j, hx with
    | 0, hx => simpa using hx
    | 1, hx => simpa using hx
    | 2, hx => simpa using hx
    | 3, hx => simpa using hx) hB.lt (by simp) (by simp) (by rw [e1]; show (Lib.join [a, b, c, d] [32]).length ≤ _; rw [join_four]; exact hz)
  rw [e1] at hJ
  change Calls Tryd.prog _ _ _ (fun e w' => e = .returned (.string (str (Lib.join [a, b, c, d] [32]))) ∧ _) at hJ
  rw [join_four] at hJ
  exact hJ

set_option maxRecDepth 20000 in
set_option maxHeartbeats 2000000 in
theorem codShowRule (r : Ru) (w : World) (hz : (ruleT r).length ≤ 140737488355328) :
    Calls Tryd.prog 30 #[.agg #[.bool r.deny, .string (str r.who), .string (str r.act), .string (str r.res)]] w fun e w' => e = .returned (.string (str (ruleT r))) ∧ Below w.heap.size w w' := by
  obtain ⟨W0, hW0⟩ : ∃ W0, W0 = w.alloc (.cells #[.bool r.deny, .string (str r.who), .string (str r.act), .string (str r.res)] 37) := ⟨_, rfl⟩
  have T0 : Below w.heap.size w W0 := by rw [hW0]; exact (Below.refl _ w).alloc (Nat.le_refl _) _
  have hs : W0.heap.size = w.heap.size + 1 := by rw [hW0]; simp
  have HJ : Hid (∀ K : List UInt8, K = kindL r.deny → Calls Tryd.prog 39 #[.slice (some ⟨W0.heap.size, 0, none⟩) 4 4, .string ⟨#[32]⟩] (W0.alloc (.cells #[.string (str K), .string (str r.who), .string (str r.act), .string (str r.res)] 9)) fun e w' => e = .returned (.string (str (ruleT r))) ∧ Below w.heap.size w w') := fun K hK => by
    subst hK
    refine (codJoin4 (kindL r.deny) r.who r.act r.res _ _ (Blk.newAt W0 _ _ _ _ rfl rfl) hz).mono ?_
    rintro e w' ⟨rfl, hb⟩
    refine ⟨rfl, ?_⟩
    have T1 := T0.alloc T0.size (.cells #[.string (str (kindL r.deny)), .string (str r.who), .string (str r.act), .string (str r.res)] 9)
    exact T1.trans (hb.mono T1.size)
  rw [hs] at HJ
  rw [hW0] at HJ
  clear T0 hs hW0 W0
  cases hd : r.deny with
  | false =>
    rw [hd] at HJ
    have HJ1 := HJ.out sAllow rfl
    clear HJ
    generalize str (ruleT r) = rt at *
    go_enter Tryd.func30, Tryd.ntmps30
    go_wp2_with fail
    refine HJ1.mono ?_
    rintro e w' ⟨rfl, t1⟩
    go_wp2_with fail
    go_ret
    exact ⟨rfl, t1⟩
  | true =>
    rw [hd] at HJ
    have HJ1 := HJ.out sDeny rfl
    clear HJ
    generalize str (ruleT r) = rt at *
    go_enter Tryd.func30, Tryd.ntmps30
    go_wp2_with fail
    refine HJ1.mono ?_
    rintro e w' ⟨rfl, t1⟩
    go_wp2_with fail
    go_ret
    exact ⟨rfl, t1⟩
end Go.Proofs.YtihfpoclflppnaaDoor
