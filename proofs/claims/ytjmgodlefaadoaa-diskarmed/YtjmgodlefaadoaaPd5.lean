/- The program's disk: New and Arm. -/
import Derived.Test.YtjmgodlefaadoaaPd4
namespace Go.Proofs.Ytjmgodlefaadoaa
open Go.RowKit

theorem infoSec3 : (Try.prog.info? 71).map (fun i => (i.zero, i.size, i.bytes)) = some (some (.agg zSec.toArray), 512, 512) := by kernel_rfl
theorem zSec_at (k : Nat) (h : k < 512) : zSec[k]? = some (.int .u8 0) := by
  unfold zSec
  rw [bv_at _ k (by rw [List.length_replicate]; exact h)]
  have : nth (List.replicate 512 0) k = 0 := by rw [nth_eq _ k (by rw [List.length_replicate]; exact h), List.getElem_replicate]
  rw [this]; rfl
theorem nth_zero512 (k : Nat) (h : k < 512) : nth zero512 k = 0 := by
  unfold zero512
  rw [nth_eq _ k (by rw [List.length_replicate]; exact h), List.getElem_replicate]
theorem made_sectors (n : Nat) : (madeCells (Value.agg zSec.toArray).cells (n * 512)).toList = stc n (fun _ => zero512) := by
  apply List.ext_getElem?
  intro k
  have hz : zSec.toArray.size = 512 := by rw [List.size_toArray, zSec_length]
  by_cases hk : k < n * 512
  · rw [stc_at _ _ k hk, nth_zero512 _ (Nat.mod_lt _ (by omega))]
    have h1 := zSec_at (k % 512) (Nat.mod_lt _ (by omega))
    simp [madeCells, Value.cells, hk, hz, h1]
  · have h3 : (stc n (fun _ => zero512))[k]? = none := List.getElem?_eq_none (by rw [stc_length]; exact Nat.le_of_not_lt hk)
    rw [h3, List.getElem?_eq_none]
    rw [Array.length_toList, size_madeCells]; exact Nat.le_of_not_lt hk
/-- make([]sector, n) -/
theorem make_sectors {ops : Array Oper} {rest : List Oper} {o : Oper} {a : Act} {Q : Exit → Act → World → Prop} (w : World)
    (hg : o.guard = none) (l c : Operand) (hop : o.op = Op.makeSlice 54 l c) 
    (n : Nat) (hl : a.eval l = .int .i64 (n : Int)) (hc : a.eval c = .int .i64 (n : Int)) (hn : n ≤ 4096)
    (hK : ∀ w', Blk w' w.heap.size 71 (stc n (fun _ => zero512)) → w.grownBy w' none → wpList Try.prog ops Q rest (a.put o.dst (.slice (some ⟨w.heap.size, 0, none⟩) n n)) w') :
    wpList Try.prog ops Q (o :: rest) a w := by
  obtain ⟨i0, hi, hz0, hz1, hz2⟩ := info_parts infoSec3
  refine wpList_make_full w hg l c 54 hop w.heap.size 71 i0 (.agg zSec.toArray) 512 Try.underlying54 hi hz0 hz1 .i64 .i64 n n n hl hc rfl rfl (by rw [hz2]; omega) (by unfold maxLen; omega) (Nat.le_refl _) (fun w' h g => hK w' ?_ g)
  rw [made_sectors] at h
  rcases h.2 with ⟨h, _⟩ | ⟨g, cap, cur, e, _, hgb, _, _, hsz, ht⟩
  · cases h
  · injection e with e1 _ e3
    have e4 : w.heap.size = g := by injection e1 with e1; injection e1 with e1
    subst e4
    unfold Blk
    rw [hgb, ← ht, List.take_of_length_le (by rw [Array.length_toList, hsz, ← e3]; exact Nat.le_refl _)]

set_option maxRecDepth 20000 in
set_option maxHeartbeats 2000000 in
theorem codNew (X : Nat → Prop) (z : Int) (w : World) (base : Nat) (hb : base ≤ w.heap.size) (hX : ∀ k, X k → k < w.heap.size) :
    Calls Try.prog 8 #[.int .i64 z] w fun e w' => (if 64 ≤ z ∧ z ≤ 4096 then ∃ P, e = .returned (.tuple #[.pointer (some ⟨P, 0, none⟩), .int .i64 0]) ∧ IsD X w' P base (Pl.new z.toNat) else e = .returned (.tuple #[.pointer none, .int .i64 1])) ∧ Below w.heap.size w w' := by
  by_cases h1 : z < 64
  · have d1 : decide (z < 64) = true := decide_eq_true h1
    have HN : Hid (¬ (64 ≤ z ∧ z ≤ 4096)) := fun h => by omega
    clear hX hb
    go_enter Try.func8, Try.ntmps8
    go_wp2
    go_ret2
    exact ⟨by first | rfl | (rw [if_neg HN.out]; rfl), Below.refl _ _⟩
  · have d1 : decide (z < 64) = false := decide_eq_false h1
    by_cases h2 : 4096 < z
    · have d2 : decide (4096 < z) = true := decide_eq_true h2
      have HN : Hid (¬ (64 ≤ z ∧ z ≤ 4096)) := fun h => by omega
      clear hX hb
      go_enter Try.func8, Try.ntmps8
      go_wp2
      go_ret2
      exact ⟨by first | rfl | (rw [if_neg HN.out]; rfl), Below.refl _ _⟩
    · have d2 : decide (4096 < z) = false := decide_eq_false h2
      have HN : Hid (64 ≤ z ∧ z ≤ 4096) := ⟨by omega, by omega⟩
      obtain ⟨n, rfl⟩ : ∃ n : Nat, z = (n : Int) := ⟨z.toNat, by omega⟩
      have HX := mkHid (And.intro hb hX)
      have HM : Hid (n ≤ 4096) := by unfold Hid; omega
      clear hX hb
      go_enter Try.func8, Try.ntmps8
      go_wp2_with (at_make; refine make_sectors w rfl _ _ rfl n rfl rfl HM.out ?_; intro w1 hB1 hg1; have HB1 := mkHid hB1; have HG1 := mkHid hg1; clear hB1 hg1)
      go_ret2
      have hbel : Below w.heap.size w w1 := (Below.refl _ w).grown HG1.out (Nat.le_refl _) (fun k e => by cases e)
      refine ⟨?_, hbel.alloc hbel.size _⟩
      (try rw [if_pos HN.out])
      refine ⟨_, rfl, w.heap.size, .slice none 0 0, -1, ?_⟩
      have hlt := HB1.out.lt
      exact { blk := Blk.newAt w1 _ _ _ _ rfl rfl, low := Nat.le_trans HX.out.1 hbel.size, st := HB1.out.alloc _, lowS := HX.out.1, len := fun i _ => by show zero512.length = 512; unfold zero512; rw [List.length_replicate]
              ca := OwnC.nil _ _, armd := rfl, lo := by omega, hi := by omega, pos := by show 0 < n; have := HN.out.1; omega
              xP := fun hx => by have := HX.out.2 _ hx; omega, xS := fun hx => by have := HX.out.2 _ hx; omega, xC := fun k e => by cases e
              xlt := fun k hx => Nat.lt_of_lt_of_le (HX.out.2 _ hx) (Nat.le_trans hbel.size (World.grownBy_alloc w1 _ none).size) }

set_option maxRecDepth 20000 in
set_option maxHeartbeats 1000000 in
theorem codArm (X : Nat → Prop) (P base : Nat) (p : Pl) (z : Int) (w : World) (h : IsD X w P base p) (hlo : -9223372036854775808 ≤ z) (hhi : z ≤ 9223372036854775807) :
    Calls Try.prog 21 #[.pointer (some ⟨P, 0, none⟩), .int .i64 z] w fun e w' => (∃ x, e = .returned x) ∧ IsD X w' P base (p.armed z) ∧ KeepX X w w' ∧ Below base w w' := by
  obtain ⟨S, vC, arm, h⟩ := h
  have c2 : w.cell? ⟨P, 2, none⟩ = some (.int .i64 arm) := h.blk.cell 2
  have f2 := h.blk.frozen 2
  have HH := mkHid h
  have HZ := mkHid (And.intro hlo hhi)
  clear h hlo hhi
  go_enter Try.func21, Try.ntmps21
  go_wp2_with fail
  go_end0
  have hg : w.grownBy (w.setCell ⟨P, 2, none⟩ (.int .i64 z)) (some P) := ⟨rfl, rfl, rfl, by simp [World.setCell], fun k _ hk => Below.heap_setCell _ _ _ _ (fun e => hk (by rw [e]))⟩
  refine ⟨⟨_, rfl⟩, ⟨S, vC, z, HH.out.turn (p' := p.armed z) hg (HH.out.blk.set 2 _) rfl rfl HH.out.ca HH.out.xC rfl HZ.out.1 HZ.out.2⟩, KeepX.one hg HH.out.blk (by decide) HH.out.xP, bel_one hg HH.out.low HH.out.blk.lt⟩
end Go.Proofs.Ytjmgodlefaadoaa
