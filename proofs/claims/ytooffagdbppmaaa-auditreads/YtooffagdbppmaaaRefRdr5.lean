/- The document's reader: Bytes, Text, where some are read. -/
import Derived.Test.YtooffagdbppmaaaRefRdr4
namespace Go.Proofs.Ytooffagdbppmaaa
open Go.RowKit
attribute [local go_sem ↓] Go.wp_at_zero Go.wp_at_succ slLH

theorem rdX_ok {l : List UInt8} {k : Nat} {bad : Bool} {mark : UInt8} {len : Nat} (hlen : l.length = len) (h : okB (l.drop k) bad mark = true) : okH (l.drop k) bad mark 4 = true ∧ bad = false ∧ k + 5 + numTo (l.drop k) 4 ≤ len := by
  unfold okB at h
  rw [Bool.and_eq_true, decide_eq_true_eq] at h
  obtain ⟨h1, h2, _⟩ := okX_of hlen h.1
  have := h.2
  rw [List.length_drop, hlen] at this
  exact ⟨h.1, h1, by omega⟩

/-- a store into an old block leaves what the call owns -/
theorem OwnB.setOther {w : World} {base : Nat} {v : Value} {l : List UInt8} (h : OwnB w base v l) (a : Addr) (u : Value) (ha : a.block < base) : OwnB (w.setCell a u) base v l := by
  refine ⟨h.1, ?_⟩
  rcases h.2 with h2 | ⟨g, cap, cur, h3, h4, h5, h6⟩
  · exact .inl h2
  · exact .inr ⟨g, cap, cur, h3, h4, by rw [heap_setCell_other w a g u (by omega)]; exact h5, h6⟩

theorem wrapi64_5 (k p : Nat) (h : k + 5 = p) (hp : p ≤ 9223372036854775807) : IntKind.i64.wrap ((k : Int) + 5) = (p : Int) := by
  rw [wrapi64_in _ (by omega) (by omega)]; omega

set_option maxRecDepth 20000 in
set_option maxHeartbeats 1000000 in
theorem xsomeOk (X : Nat) (a : Option Addr) (len cap : Nat) (l : List UInt8) (k : Nat) (bad : Bool) (mark : UInt8) (w : World) (h : IsX w X a len cap l k bad) (hl : len ≤ 140737488351232) (hok : okB (l.drop k) bad mark = true) :
    Calls Try.prog 65 #[.pointer (some ⟨X, 0, none⟩), .int .u8 (mark.toNat : Int)] w fun e w' => ∃ v, e = .returned v ∧ OwnB w' w.heap.size v (((l.drop k).drop 5).take (numTo (l.drop k) 4)) ∧ IsX w' X a len cap l (k + 5 + numTo (l.drop k) 4) false ∧ w.grownBy w' (some X) := by
  have H : Hid (IsX w X a len cap l k bad) := h
  clear h
  have hmx := H.out.2.1.max
  have hle := H.out.2.1.le
  unfold maxLen at hmx
  obtain ⟨hoh, hb, hlen⟩ := rdX_ok H.out.2.1.len_eq hok
  have HO : Hid (okH (l.drop k) bad mark 4 = true) := hoh
  clear hok hoh
  subst hb
  obtain ⟨m, hm⟩ : ∃ m, numTo (l.drop k) 4 = m := ⟨_, rfl⟩
  have Hm : Hid (numTo (l.drop k) 4 = m) := hm
  rw [hm] at hlen ⊢; clear hm
  obtain ⟨b, off, rfl, right⟩ := H.out.2.1.cells (by omega)
  have hbX : b ≠ X := H.out.2.2.1 (by omega) _ rfl
  obtain ⟨p, hp⟩ : ∃ p, k + 5 = p := ⟨_, rfl⟩
  obtain ⟨q, hq⟩ : ∃ q, p + m = q := ⟨_, rfl⟩
  have hw1 := wrapi64_5 k p hp (by omega)
  have hw2 : IntKind.i64.wrap ((p : Int) + (m : Int)) = (q : Int) := by rw [wrapi64_in _ (by omega) (by omega)]; omega
  have hw3 : IntKind.i64.wrap (m : Int) = (m : Int) := wrapi64_in _ (by omega) (by omega)
  obtain ⟨o2, ho2⟩ := cutA_some b off cap p
  have hpq : p ≤ q := by omega
  have hqc : q ≤ cap := by omega
  have hqp : q - p = m := by omega
  have HS : Hid (∀ w1, IsX w1 X (some ⟨b, off, none⟩) len cap l k false → IsB w1 (some ⟨b, o2, none⟩) m (cap - p) (((l.drop k).drop 5).take m)) := by
    intro w1 h1
    have := (h1.2.1.cut p (by omega))
    rw [ho2] at this
    have := this.head m (by omega)
    rw [List.drop_drop, hp]; exact this
  have HP : Hid (k + 5 = p) := hp
  have HQ : Hid (p + m = q) := hq
  go_enter Try.func65, Try.ntmps65
  go_wp2_with fail
  refine (xnumOk X (some ⟨b, off, none⟩) len cap l k false mark 4 w H.out (by omega) HO.out).mono ?_
  rintro e w1 ⟨rfl, n1, hw⟩
  rw [Hm.out]
  have H1 : Hid (IsX w1 X (some ⟨b, off, none⟩) len cap l k false) := by rw [hw]; exact H.out.drewN n1
  have G1 : w.grownBy w1 (some X) := by rw [hw]; exact gr_drewN w n1 _
  clear hw
  have c0 := H1.out.1.cell 0
  have c1 := H1.out.1.cell 1
  simp only [xcell, List.getElem?_cons_zero, List.getElem?_cons_succ] at c0 c1
  have hgt : decide ((len : Int) - (k : Int) - 5 < (m : Int)) = false := decide_eq_false (by omega)
  have hnn : (0 : Int) ≤ (len : Int) - (k : Int) - 5 := by omega
  go_wp2_with fail
  go_quiet (fail)
  go_wp2
  have H2 : Hid (IsX (w1.drewN nq) X (some ⟨b, off, none⟩) len cap l k false) := H1.out.drewN nq
  have G2 : w.grownBy (w1.drewN nq) (some X) := gr_trans G1 (gr_drewN w1 nq _)
  generalize w1.drewN nq = w2 at *
  clear c0 c1 G1 H1 hgt hnn
  have c0 := H2.out.1.cell 0
  have c1 := H2.out.1.cell 1
  simp only [xcell, List.getElem?_cons_zero, List.getElem?_cons_succ] at c0 c1
  have hXlt : X < w2.heap.size := H2.out.1.lt
  have hB2 := HS.out w2 H2.out
  have HB2 : Hid (IsB w2 (some ⟨b, o2, none⟩) m (cap - p) (((l.drop k).drop 5).take m)) := hB2
  clear hB2 hp hq right
  have bel0 : Below w2.heap.size w2 (w2.alloc (.cells #[] 5)).drew := ((Below.refl _ _).alloc (Nat.le_refl _) _).drew
  have K0 : Hid ((w2.alloc (.cells #[] 5)).drew.cell? ⟨X, 0, none⟩ = some (.slice (some ⟨b, off, none⟩) len cap)) := (bel0.cell (p := ⟨X, 0, none⟩) hXlt).trans c0
  have K1 : Hid ((w2.alloc (.cells #[] 5)).drew.cell? ⟨X, 1, none⟩ = some (.int .i64 (k : Int))) := (bel0.cell (p := ⟨X, 1, none⟩) hXlt).trans c1
  have hXne : X ≠ w2.heap.size := by omega
  go_region_held3 (fun w' => w'.cell? ⟨X, 0, none⟩ = some (.slice (some ⟨b, off, none⟩) len cap) ∧ w'.cell? ⟨X, 1, none⟩ = some (.int .i64 (k : Int)))
    (first | go_keep | (exact ⟨(hgrow3.cell_far ⟨X, 0, none⟩ (by simp; omega) (by simpa [Value.ownBlock] using hXne)).trans K0.out, (hgrow3.cell_far ⟨X, 1, none⟩ (by simp; omega) (by simpa [Value.ownBlock] using hXne)).trans K1.out⟩))
    ((refine step_appS _ (by rfl) _ _ (by rfl) w2.heap.size _ [] (by rfl) ((OwnB.empty w2 w2.heap.size (Nat.le_refl _)).heap rfl) ⟨b, o2, none⟩ m (cap - p) (((l.drop k).drop 5).take m) (by rfl) (HB2.out.below bel0 rfl) (by simp; omega) (by simp) ?_; intro v3 w3 hown3 hgrow3))
  all_goals
    have bel3 : Below w2.heap.size w2 w3 := bel0.grown hgrow3 (by simp) (fun j hj => by simp [Value.ownBlock] at hj; omega)
    have H3 : Hid (IsX w3 X (some ⟨b, off, none⟩) len cap l k false) := ⟨H2.out.1.on bel3, H2.out.2.1.below bel3 rfl, H2.out.2.2.1, H2.out.2.2.2⟩
    have c1' := H3.out.1.cell 1
    have f1' := H3.out.1.frozen 1
    simp only [xcell, List.getElem?_cons_zero, List.getElem?_cons_succ] at c1'
    have HX : Hid (IsX (w3.setCell ⟨X, 1, none⟩ (.int .i64 ((k : Int) + 5 + (m : Int)))) X (some ⟨b, off, none⟩) len cap l (k + 5 + m) false) := by
      have := H3.out.at (k + 5 + m) (by omega)
      rw [show ((k + 5 + m : Nat) : Int) = (k : Int) + 5 + (m : Int) by omega] at this
      exact this
    have HOwn : Hid (OwnB (w3.setCell ⟨X, 1, none⟩ (.int .i64 ((k : Int) + 5 + (m : Int)))) w2.heap.size v3 (((l.drop k).drop 5).take m)) := by
      have h0 : OwnB w3 w2.heap.size v3 (((l.drop k).drop 5).take m) := hown3
      exact h0.setOther ⟨X, 1, none⟩ _ hXlt
    have G3 : w.grownBy w3 (some X) := gr_trans G2 (gr_bel bel3 rfl _)
    clear c0 c1 hw1 hw2 hw3 hown3
    go_wp2
    go_ret
    exact ⟨_, rfl, HOwn.out.base G2.size, HX.out, gr_trans G3 (gr_set _ _ _ _)⟩
end Go.Proofs.Ytooffagdbppmaaa
