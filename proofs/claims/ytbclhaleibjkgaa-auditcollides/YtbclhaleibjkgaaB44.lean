/- The statements' alive, over any disk that keeps the document. · What the frame tells of a slice of bytes. · What the frame tells of a slice of truths. -/
import Derived.Test.YtbclhaleibjkgaaB43
import Derived.Test.YtbclhaleibjkgaaB0
import Derived.Test.YtbclhaleibjkgaaB2
import Derived.Deep.SlicePairs
import Derived.OpenShut
namespace Go.Proofs.Ytbclhaleibjkgaa
open Go.RowKit

theorem wr_good (p : Pl) (i : Int) (a b : UInt8) (ho : p.off = false) (hi : inR p.n i = true) (ha : p.arm ≠ some 0) :
    p.wrE i (secL a b) = 0 ∧ p.write i (secL a b) = { p with arm := p.arm.map (· - 1), wr := p.wr + 1, ca := p.ca ++ [(i.toNat, secL a b)] } := by
  unfold Pl.wrE Pl.write
  rw [ho, hi, secL_len]
  simp [ha]
def al1 : Pl := ⟨64, fun _ => zero512, [(3, secL 7 1)], false, none, 1, 0⟩
def al2 : Pl := ⟨64, fun _ => zero512, [], false, none, 1, 0⟩
def al3 : Pl := ⟨64, fun _ => zero512, [(3, secL 7 1)], false, none, 2, 0⟩
def al4 : Pl := ⟨64, Pl.put (fun _ => zero512) (3, secL 7 1), [], false, none, 2, 0⟩
theorem al_1 : (Pl.new 64).wrE 3 (secL 7 1) = 0 ∧ (Pl.new 64).write 3 (secL 7 1) = al1 := by
  obtain ⟨h1, h2⟩ := wr_good (Pl.new 64) 3 7 1 rfl (by decide) (by simp [Pl.new])
  exact ⟨h1, h2⟩
theorem al_2 : al1.crash [] = al2 := rfl
theorem al_3 : al2.wrE 3 (secL 7 1) = 0 ∧ al2.write 3 (secL 7 1) = al3 := by
  obtain ⟨h1, h2⟩ := wr_good al2 3 7 1 rfl (by decide) (by simp [al2])
  exact ⟨h1, h2⟩
theorem al_4 : al3.crash [true] = al4 := rfl
theorem few_new (n : Nat) (h : n ≤ 4096) : FewP (Pl.new n) := ⟨h, Nat.zero_le _, fun g hg => (by cases hg), Nat.zero_le _, Nat.zero_le _⟩
theorem few_al1 : FewP al1 := ⟨by decide, by decide, fun g hg => by obtain rfl := List.mem_singleton.1 hg; exact ⟨by decide, secL_len _ _⟩, by decide, by decide⟩
theorem few_al2 : FewP al2 := ⟨by decide, by decide, fun g hg => (by cases hg), by decide, by decide⟩
theorem few_al3 : FewP al3 := ⟨by decide, by decide, fun g hg => by obtain rfl := List.mem_singleton.1 hg; exact ⟨by decide, secL_len _ _⟩, by decide, by decide⟩
theorem few_al4 : FewP al4 := ⟨by decide, by decide, fun g hg => (by cases hg), by decide, by decide⟩
theorem al_rd2 : al2.rdE 3 = 0 ∧ al2.rdB 3 = zero512 := ⟨rfl, rfl⟩
theorem al_rd4 : al4.rdE 3 = 0 ∧ al4.rdB 3 = secL 7 1 := ⟨rfl, rfl⟩

/-- Same of two slices, whatever they are -/
theorem sameV {w : World} {v v' : Value} {l m : List UInt8} (h : IsV w v l) (h' : IsV w v' m) :
    Calls Try.prog 10 #[v, v'] w fun e w' => e = .returned (.bool (eqB l m)) ∧ Below w.heap.size w w' := by
  obtain ⟨a, c, rfl, h1⟩ := h
  obtain ⟨a', c', rfl, h2⟩ := h'
  refine (refSame _ _ _ l _ _ _ m w h1 h2).mono ?_
  rintro e w' ⟨rfl, n, rfl⟩
  exact ⟨rfl, bel_drewN (Below.refl _ w) n⟩
theorem isKs_nil (w : World) : IsKs w none 0 0 [] := ⟨rfl, fun h => absurd h (Nat.lt_irrefl 0)⟩
theorem IsB.block {w w' : World} {a : Option Addr} {len cap : Nat} {l : List UInt8} (h : IsB w a len cap l) (hk : ∀ A, a = some A → w'.heap[A.block]? = w.heap[A.block]?) : IsB w' a len cap l :=
  ⟨h.len_eq, h.le, h.max, h.nil, fun hp => by
    obtain ⟨b, off, e, hc⟩ := h.cells hp
    refine ⟨b, off, e, fun i hi => ?_⟩
    rw [← hc i hi]
    have hq := hk _ e
    exact World.cell?_of_block (w := w) hq⟩
theorem isKs_one {w : World} {B t : Nat} (h : Blk w B t [.bool true]) : IsKs w (some ⟨B, 0, none⟩) 1 1 [true] := ⟨rfl, fun _ => ⟨B, 0, rfl, fun i hi => by
  obtain rfl : i = 0 := by omega
  exact h.cell 0⟩⟩
/-- make([]byte, 512), run -/
theorem make_run512 (w : World) : ∃ w', (Instr.makeSlice 24 (.int .i64 512) (.int .i64 512)).run Try.prog w = .ok (.slice (some ⟨w.heap.size, 0, none⟩) 512 512) w' ∧ OwnB w' w.heap.size (.slice (some ⟨w.heap.size, 0, none⟩) 512 512) zero512 ∧ Below w.heap.size w w' := by
  obtain ⟨i0, hi, hz0, hz1, hz2⟩ := info_parts info8
  obtain ⟨w', hrun, r1, r2⟩ := run_make_full (P := Try.prog) w w.heap.size 24 5 i0 (.int .u8 0) 1 Try.underlying24 hi hz0 hz1 .i64 .i64 512 (by rw [hz2]; omega) (by unfold maxLen; omega) (Nat.le_refl _)
  refine ⟨w', hrun, ?_, (Below.refl _ _).grown r2 (Nat.le_refl _) (fun k h => by cases h)⟩
  rw [made_zeros] at r1
  unfold OwnB zero512
  rw [List.length_replicate]
  exact r1
end Go.Proofs.Ytbclhaleibjkgaa
namespace Go.Proofs.Ytbclhaleibjkgaa
open Go.ChangeShapes Go.WideShapes

theorem weights_all_mem {H : Type} {P : Program} {e : TypeId} {d : DataW H} {n : Nat} (hn : n ∈ d.weights P e) : ∀ {l : List (DataW H)}, d ∈ l → n ∈ DataW.weightsAll P e l
  | [], h => by cases h
  | x :: l, h => by
    simp only [DataW.weightsAll]
    rcases List.mem_cons.1 h with rfl | h
    · exact List.mem_append_left _ hn
    · exact List.mem_append_right _ (weights_all_mem hn h)
theorem slice_of14 {H : Type} {enc : TypeId × Value → H} {W : World} {fuel : Nat} {t e : TypeId} {v : Value} {x : DataW H × List MemPlace} (hu : Try.prog.underlying t = some (.slice e)) (h : DataW.trod enc Try.prog W 0 (fun _ => true) true fuel t [v] = some x) : ∃ a len cap, v = .slice a len cap := by
  rcases Deep.open_slice hu h with ⟨hcs, _⟩ | ⟨ad, l, c, m, n, D, Pl, hcs, _⟩
  · simp only [List.cons.injEq, and_true] at hcs; exact ⟨_, _, _, hcs⟩
  · simp only [List.cons.injEq, and_true] at hcs; exact ⟨_, _, _, hcs⟩
theorem open_bytes {H : Type} {enc : TypeId × Value → H} {W : World} {fuel : Nat} {a : Option Addr} {len cap : Nat} {x : DataW H × List MemPlace} (h : DataW.trod enc Try.prog W 0 (fun _ => true) true fuel 24 [.slice a len cap] = some x) :
    ∃ b, IsB W a len cap b ∧ ∀ N, (∀ n ∈ x.1.weights Try.prog 24, n ≤ N) → len ≤ N := by
  rcases open_ints Try.underlying24 Try.underlying5 (by kernel_rfl) h with ⟨hcs, _⟩ | ⟨y, l, c, zs, hcs, _, hl, hm, hz, hx, hcell, hwz⟩
  · simp only [List.cons.injEq, and_true, Value.slice.injEq] at hcs
    obtain ⟨rfl, rfl, rfl⟩ := hcs
    exact ⟨[], isB_none W, fun _ _ => Nat.zero_le _⟩
  · simp only [List.cons.injEq, and_true, Value.slice.injEq] at hcs
    obtain ⟨rfl, rfl, rfl⟩ := hcs
    have hz0 : zs.length = cap := by simpa using hz
    have hrow : IsRow .u8 W (some y) len cap zs := .inr ⟨_, rfl, hl, hm, hz0, hcell, hwz⟩
    obtain ⟨b, hb⟩ := hrow.bytes
    refine ⟨b, hb, fun N hN => ?_⟩
    have hb1 : Try.prog.bytesOf 5 = 1 := by kernel_rfl
    rw [hx] at hN
    simp only [DataW.weights, Try.underlying24, hb1] at hN
    have := hN _ (List.mem_cons_self ..)
    simp only [lits, List.length_map, List.length_take] at this
    omega
end Go.Proofs.Ytbclhaleibjkgaa
namespace Go.Proofs.Ytbclhaleibjkgaa
open Go.ChangeShapes Go.WideShapes

theorem IsKs.below {w w' : World} {a : Option Addr} {n cap : Nat} {l : List Bool} (h : IsKs w a n cap l) (hb : Go.RowKit.Below w.heap.size w w') : IsKs w' a n cap l :=
  ⟨h.len_eq, fun hp => by
    obtain ⟨b, off, e, hc⟩ := h.cells hp
    refine ⟨b, off, e, fun i hi => ?_⟩
    rw [← hc i hi]
    exact hb.cell (cell_lt (hc i hi))⟩

theorem cellsBo : Try.prog.cellsOf 4 = 1 := by kernel_rfl
end Go.Proofs.Ytbclhaleibjkgaa
