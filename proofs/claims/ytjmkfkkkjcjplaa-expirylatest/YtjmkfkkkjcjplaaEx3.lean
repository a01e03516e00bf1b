/- What is asked of the program's expiry; the statements' numbers, in; alive. -/
import Derived.Test.YtjmkfkkkjcjplaaEx1
import Derived.Test.YtjmkfkkkjcjplaaUp0
namespace Go.Proofs.Ytjmkfkkkjcjplaa
open Go.RowKit

attribute [local go_sem] undef
/-- what is asked of the program's expiry -/
structure ExOK : Prop where
  latest : ∀ (a : Option Addr) (n cap : Nat) (l : List Vq) (b k : ByteArray) (w : World), IsVl w a n cap l → n ≤ 100 → b.size ≤ maxLen → k.size ≤ maxLen →
    Calls Try.prog 6 #[.slice a n cap, .string b, .string k] w fun e w' => e = .returned (.int .i64 (latestK (l.map Prod.fst) b k)) ∧ Below w.heap.size w w'
  due : ∀ (b : Bk) (a : Option Addr) (n cap : Nat) (l : List Vq) (now : Nat) (w : World), IsVl w a n cap l → n ≤ 100 → -9223372036854775808 ≤ b.exp → b.exp ≤ 9223372036854775807 → -9223372036854775808 ≤ b.nonc → b.nonc ≤ 9223372036854775807 → now < 18446744073709551616 →
    Calls Try.prog 10 #[.agg (bkc b).toArray, .slice a n cap, .int .u64 (now : Int)] w fun e w' => (∃ v, e = .returned v ∧ OwnRw rtU w' w.heap.size v (dueK b (l.map Prod.fst) now)) ∧ Below w.heap.size w w'
theorem u_cell {w : World} {a : Option Addr} {n : Nat} {l : List Nat} (h : RowC 1 rtU.c w a n l) (k : Nat) (hk : k < n) : ∃ B off x, a = some ⟨B, off, none⟩ ∧ B < w.heap.size ∧ l[k]? = some x ∧ w.cell? ⟨B, off + k, none⟩ = some (.int .u64 (x : Int)) := by
  obtain ⟨B, off, x, rfl, hB, hx, hc⟩ := h.at k hk
  have := hc 0 _ rfl
  rw [Nat.mul_one, Nat.add_zero] at this
  exact ⟨B, off, x, rfl, hB, hx, this⟩
set_option maxRecDepth 20000 in
set_option maxHeartbeats 1000000 in
theorem lawNumbers (a1 : Option Addr) (n c1 : Nat) (a2 : Option Addr) (c2 : Nat) (l : List Nat) (w : World) (h1 : RowC 1 rtU.c w a1 n l) (h2 : RowC 1 rtU.c w a2 n l) (hn : n ≤ 1000) :
    Calls Try.prog 9 #[.slice a1 n c1, .slice a2 n c2] w fun e w' => e = .returned (.bool true) ∧ Below w.heap.size w w' := by
  have H1 := mkHid h1
  have H2 := mkHid h2
  clear h1 h2
  go_enter Try.func9, Try.ntmps9
  go_wp2_with fail
  go_loopw [5] (fun i wr => ∃ m : Nat, m ≤ n ∧ i = .int .i64 (m : Int) ∧ Hid (Below w.heap.size w wr)) (fun i _ => n - (Go.RowKit.intOf i).toNat)
  case atStart => exact ⟨0, Nat.zero_le _, rfl, Below.refl _ _⟩
  case round =>
    obtain ⟨m, hm, rfl, HB⟩ := hrel
    by_cases hlt : m < n
    · have hlt' : (m : Int) < (n : Int) := by omega
      have Hlt := mkHid hlt
      have hm0 : (0 : Int) ≤ (m : Int) := by omega
      obtain ⟨B, off, x, rfl, hBl, hx, hc⟩ := u_cell H1.out m hlt
      obtain ⟨B', off', x', rfl, hBl', hx', hc'⟩ := u_cell H2.out m hlt
      obtain rfl : x = x' := Option.some.inj (hx.symm.trans hx')
      have e0 := (HB.out.cell (p := ⟨B, off + m, none⟩) hBl).trans hc
      have e1 := (HB.out.cell (p := ⟨B', off' + m, none⟩) hBl').trans hc'
      clear hx hx' hc hc' hBl hBl' hlt hm
      go_wp2_with fail
      go_quiet (fail)
      go_wp2_with fail
      go_roundw
      case rel => exact ⟨m + 1, Hlt.out, by go_num, mkHid (bel_drewN HB.out _)⟩
      case measure => simp [Go.RowKit.intOf]; have := Hlt.out; omega
    · obtain rfl : m = n := by omega
      have hge : ¬ (m : Int) < (m : Int) := by omega
      go_wp2_with fail
      go_ret
      exact ⟨rfl, HB.out⟩
set_option maxRecDepth 20000 in
set_option maxHeartbeats 1000000 in
theorem lawIn17 (a : Option Addr) (n c : Nat) (l : List Nat) (x : Nat) (w : World) (h : RowC 1 rtU.c w a n l) (hn : n ≤ 1000) :
    Calls Try.prog 12 #[.slice a n c, .int .u64 (x : Int)] w fun e w' => e = .returned (.bool (decide (x ∈ l))) ∧ w' = w := by
  have H := mkHid h
  have HLn := mkHid h.len
  clear h
  go_enter Try.func12, Try.ntmps12
  go_wp2_with fail
  go_loopw [5] (fun i wr => ∃ m : Nat, m ≤ n ∧ i = .int .i64 (m : Int) ∧ Hid (∀ y ∈ l.take m, y ≠ x) ∧ wr = w) (fun i _ => n - (Go.RowKit.intOf i).toNat)
  case atStart => exact ⟨0, Nat.zero_le _, rfl, fun y hy => by simp at hy, rfl⟩
  case round =>
    obtain ⟨m, hm, rfl, HA, rfl⟩ := hrel
    by_cases hlt : m < n
    · have hlt' : (m : Int) < (n : Int) := by omega
      have Hlt := mkHid hlt
      have hm0 : (0 : Int) ≤ (m : Int) := by omega
      obtain ⟨B, off, y, rfl, hBl, hy, hc⟩ := u_cell H.out m hlt
      by_cases he : y = x
      · have HE : Hid (true = decide (x ∈ l)) := (decide_eq_true (by rw [← he]; exact List.mem_of_getElem? hy)).symm
        rw [he] at hc
        clear hy hBl hlt hm he HA
        go_wp2_with fail
        go_ret
        exact ⟨ret_b HE.out, rfl⟩
      · have hed : ((y : Int) == (x : Int)) = false := by rw [beq_eq_false_iff_ne]; omega
        have HA2 : Hid (∀ z ∈ l.take (m + 1), z ≠ x) := fun z hz => by
          rw [List.take_add_one, hy, Option.toList_some] at hz
          rcases List.mem_append.1 hz with hz | hz
          · exact HA.out z hz
          · rw [List.mem_singleton.1 hz]; exact he
        clear hy hBl hlt hm he HA
        go_wp2_with fail
        go_roundw
        case rel => exact ⟨m + 1, Hlt.out, by go_num, HA2, by first | rfl | trivial⟩
        case measure => simp [Go.RowKit.intOf]; have := Hlt.out; omega
    · obtain rfl : m = n := by omega
      have hge : ¬ (m : Int) < (m : Int) := by omega
      have HE : Hid (false = decide (x ∈ l)) := by
        refine (decide_eq_false (fun hx => ?_)).symm
        have := HA.out x (by rw [List.take_of_length_le (by rw [HLn.out]; exact Nat.le_refl _)]; exact hx)
        exact this rfl
      go_wp2_with fail
      go_ret
      exact ⟨ret_b HE.out, rfl⟩
/-- the chapter's example -/
def exA1 : Vs := ⟨⟨#[98]⟩, ⟨#[107]⟩, 0, 1, false, [], 0, 0, false, 0⟩
def exA2 : Vs := ⟨⟨#[98]⟩, ⟨#[107]⟩, 0, 2, false, [], 0, 0, false, 432000⟩
def exAB : Bk := ⟨⟨#[98]⟩, 1, false, false, 0, 0, ⟨#[]⟩, 0, 1⟩
theorem al_due : dueK exAB [exA1, exA2] 86400 = [1] := by decide +kernel
theorem al_lat : latestK [exA1, exA2] ⟨#[98]⟩ ⟨#[107]⟩ = 1 := by decide +kernel
theorem al_non : latestK [exA1, exA2] ⟨#[98]⟩ ⟨#[120]⟩ = -1 := by decide +kernel
def alL : List Vq := [(exA1, ⟨none, 0⟩), (exA2, ⟨none, 0⟩)]
def alCells : List Value := vqc (exA1, ⟨none, 0⟩) ++ vqc (exA2, ⟨none, 0⟩)
theorem alIs {w : World} {B : Nat} (h : Blk w B 37 alCells) : IsVl w (some ⟨B, 0, none⟩) 2 2 alL where
  row := ⟨rfl, fun _ => ⟨B, 0, rfl, h.lt, fun i x hx j v hv => by
    rw [h.cell]
    match i, hx with
    | 0, hx =>
      obtain rfl := Option.some.inj hx
      have hj := (List.getElem?_eq_some_iff.1 hv).1
      show alCells[0 + 0 * 10 + j]? = some v
      rw [← hv, show 0 + 0 * 10 + j = j by omega]
      exact List.getElem?_append_left hj
    | 1, hx =>
      obtain rfl := Option.some.inj hx
      show alCells[0 + 1 * 10 + j]? = some v
      rw [← hv, show 0 + 1 * 10 + j = (vqc (exA1, ⟨none, 0⟩)).length + j by show _ = 10 + j; omega]
      rw [alCells, List.getElem?_append_right (by omega), Nat.add_sub_cancel_left]
    | k + 2, hx => simp [alL] at hx⟩⟩
  ok := by
    intro p hp
    simp only [alL, List.mem_cons, List.not_mem_nil, or_false] at hp
    rcases hp with rfl | rfl <;> decide
  le := Nat.le_refl _
  nil := fun h => by cases h
  sz := by
    intro p hp
    simp only [alL, List.mem_cons, List.not_mem_nil, or_false] at hp
    rcases hp with rfl | rfl <;> decide
set_option maxRecDepth 20000 in
set_option maxHeartbeats 4000000 in
theorem lawAlive17 (E : ExOK) (w : World) : Calls Try.prog 8 #[] w fun e w' => e = .returned (.bool true) ∧ Below w.heap.size w w' := by
  have hY : Below w.heap.size w (w.alloc (.cells alCells.toArray 37)) := (Below.refl _ w).alloc (Nat.le_refl _) _
  have kb := Blk.new w 37 alCells
  have HI : Hid (∀ W, Below (w.heap.size + 1) (w.alloc (.cells alCells.toArray 37)) W → IsVl W (some ⟨w.heap.size, 0, none⟩) 2 2 alL) := fun W hW => alIs (kb.below hW (by omega))
  have CD := E.due exAB (some ⟨w.heap.size, 0, none⟩) 2 2 alL 86400 _ (alIs kb) (by decide) (by decide) (by decide) (by decide) (by decide) (by decide)
  rw [show alL.map Prod.fst = [exA1, exA2] from rfl, al_due] at CD
  have CL : Hid (∀ W, Below (w.heap.size + 1) (w.alloc (.cells alCells.toArray 37)) W → Calls Try.prog 6 #[.slice (some ⟨w.heap.size, 0, none⟩) 2 2, .string ⟨#[98]⟩, .string ⟨#[107]⟩] W fun e w' => e = .returned (.int .i64 1) ∧ Below W.heap.size W w') := fun W hW => by
    have := E.latest (some ⟨w.heap.size, 0, none⟩) 2 2 alL ⟨#[98]⟩ ⟨#[107]⟩ W (HI.out W hW) (by decide) (by decide) (by decide)
    rw [show alL.map Prod.fst = [exA1, exA2] from rfl, al_lat] at this
    exact this
  have CN : Hid (∀ W, Below (w.heap.size + 1) (w.alloc (.cells alCells.toArray 37)) W → Calls Try.prog 6 #[.slice (some ⟨w.heap.size, 0, none⟩) 2 2, .string ⟨#[98]⟩, .string ⟨#[120]⟩] W fun e w' => e = .returned (.int .i64 (-1)) ∧ Below W.heap.size W w') := fun W hW => by
    have := E.latest (some ⟨w.heap.size, 0, none⟩) 2 2 alL ⟨#[98]⟩ ⟨#[120]⟩ W (HI.out W hW) (by decide) (by decide) (by decide)
    rw [show alL.map Prod.fst = [exA1, exA2] from rfl, al_non] at this
    exact this
  have HY := mkHid hY
  have HSz : Hid ((w.alloc (.cells alCells.toArray 37)).heap.size = w.heap.size + 1) := World.size_alloc _ _
  clear kb HI hY
  go_enter Try.func8, Try.ntmps8
  go_upto_region 2 with fail
  generalize hy : w.alloc _ = y
  replace CD : Calls Try.prog 10 #[.agg #[.string ⟨#[98]⟩, .int .i64 1, .bool false, .bool false, .int .i64 0, .int .i64 0, .string ⟨#[]⟩, .int .i64 0, .int .i64 1], .slice (some ⟨w.heap.size, 0, none⟩) 2 2, .int .u64 86400] y fun e w' => (∃ v, e = .returned v ∧ OwnRw rtU w' y.heap.size v [1]) ∧ Below y.heap.size y w' := by rw [← hy]; exact CD
  replace CL : Hid (∀ W, Below (w.heap.size + 1) y W → Calls Try.prog 6 #[.slice (some ⟨w.heap.size, 0, none⟩) 2 2, .string ⟨#[98]⟩, .string ⟨#[107]⟩] W fun e w' => e = .returned (.int .i64 1) ∧ Below W.heap.size W w') := by rw [← hy]; exact CL
  replace CN : Hid (∀ W, Below (w.heap.size + 1) y W → Calls Try.prog 6 #[.slice (some ⟨w.heap.size, 0, none⟩) 2 2, .string ⟨#[98]⟩, .string ⟨#[120]⟩] W fun e w' => e = .returned (.int .i64 (-1)) ∧ Below W.heap.size W w') := by rw [← hy]; exact CN
  replace HY : Hid (Below w.heap.size w y) := by rw [← hy]; exact HY
  replace HSz : Hid (y.heap.size = w.heap.size + 1) := by rw [← hy]; exact HSz
  clear hy
  go_upto_region 3 with (go_at_call 10; refine CD.mono ?_; rintro e y1 ⟨⟨v, rfl, ho⟩, hb⟩; obtain ⟨oa, oc, rfl, _, _, hc⟩ := ho.form okU)
  obtain ⟨g, rfl, _, _, hcell⟩ := hc (by decide)
  have d0 : y1.cell? ⟨g, 0, none⟩ = some (.int .u64 1) := hcell 0 (by decide) 0 (by decide)
  have hB1 : Hid (Below (w.heap.size + 1) y y1) := by unfold Hid; rw [← HSz.out]; exact hb
  have HB1 := mkHid (HY.out.trans (hb.mono HY.out.size))
  have CL1 := CL.out y1 hB1.out
  have hs1 := hb.size
  rw [HSz.out] at hs1
  have HS1 := mkHid hs1
  clear CD CL hb hc hcell ho hs1
  go_wp2_with fail
  refine CL1.mono ?_
  rintro e y2 ⟨rfl, hb⟩
  have CN2 := CN.out y2 (hB1.out.trans (hb.mono HS1.out))
  have HB2 := mkHid (HB1.out.trans (hb.mono HB1.out.size))
  clear CL1 CN hb HB1 hB1 d0
  go_wp2_with fail
  refine CN2.mono ?_
  rintro e y3 ⟨rfl, hb⟩
  go_wp2_with fail
  go_ret
  exact ⟨rfl, HB2.out.trans (hb.mono HB2.out.size)⟩
end Go.Proofs.Ytjmkfkkkjcjplaa
