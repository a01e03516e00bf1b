/- What the statements' own answers: the same pairs, as the code's own. -/
import Derived.Test.YtabhifhmhojpbaaOwnP
namespace Go.Proofs.Ytabhifhmhojpbaa
open Go.RowKit

theorem infoUP : (Try.prog.info? 60).map (fun i => (i.zero, i.size, i.bytes)) = some (some (.agg #[.string ⟨#[]⟩, .string ⟨#[]⟩]), 2, 32) := by kernel_rfl
theorem takeP (l : List Pr) (k : Nat) (h : k < l.length) : l.take (k + 1) = l.take k ++ [((nthP l k).1, (nthP l k).2)] := by
  rw [nthP_eq l k h, ← List.take_append_getElem h]

set_option maxHeartbeats 1000000 in
theorem lawOwn (a : Option Addr) (n cap : Nat) (l : List Pr) (w : World) (h : IsP w a n cap l) (hn : n ≤ 1000000) :
    Calls Try.prog 21 #[.slice a n cap] w fun e w' => ∃ v, e = .returned v ∧ OwnP 60 w' w.heap.size v l ∧ Below w.heap.size w w' := by
  have HL : Hid (l.length = n) := h.len_eq
  have H : Hid (IsP w a n cap l) := h
  clear h
  go_enter Try.func21, Try.ntmps21
  go_wp2
  go_loopw [3, 4] (fun v i wr => ∃ (k : Nat), k ≤ n ∧ i = .int .i64 k ∧ OwnP 60 wr w.heap.size v (l.take k) ∧ Below w.heap.size w wr) (fun _ i _ => n - (intOf i).toNat)
  case atStart => exact ⟨0, Nat.zero_le _, rfl, OwnP.nil _ _ _, Below.refl _ _⟩
  case round =>
    obtain ⟨k, hk, rfl, hown, hbel⟩ := hrel
    by_cases hlt : k < n
    · obtain ⟨b, off, rfl, hc⟩ := H.out.cells (by omega)
      obtain ⟨c1, c2⟩ := hc k hlt
      have gb : b < w.heap.size := cell_lt c1
      have g1 := (hbel.cell (p := ⟨b, off + k * 2, none⟩) gb).trans c1
      have g2 := (hbel.cell (p := ⟨b, off + k * 2 + 1, none⟩) gb).trans c2
      have gz : b < wr.heap.size := Nat.lt_of_lt_of_le gb hbel.size
      have hb0 : (0 : Int) ≤ (k : Int) := by omega
      have hb1 : (k : Int) < (n : Int) := by omega
      have HT : Hid (l.take (k + 1) = l.take k ++ [((nthP l k).1, (nthP l k).2)]) := takeP l k (by rw [HL.out]; exact hlt)
      have HK : Hid ((l.take k).length = k) := by unfold Hid; rw [List.length_take, HL.out]; omega
      have HB := hown.blk
      clear hc c1 c2
      generalize nthP l k = p at *
      obtain ⟨p1, p2⟩ := p
      generalize l.take k = tk at *
      go_wp2
      go_region_held3 (fun w' => w'.cell? ⟨b, off + k * 2, none⟩ = some (.string (str p1)) ∧ w'.cell? ⟨b, off + k * 2 + 1, none⟩ = some (.string (str p2)))
        (first | (exact ⟨(hgrow.cell_far ⟨b, off + k * 2, none⟩ (by simp; omega) (fun e => by have := (HB b e.symm).1; omega)).trans (((((Below.refl wr.heap.size wr).alloc (Nat.le_refl _) _).drew).cell (p := ⟨b, off + k * 2, none⟩) gz).trans g1), (hgrow.cell_far ⟨b, off + k * 2 + 1, none⟩ (by simp; omega) (fun e => by have := (HB b e.symm).1; omega)).trans (((((Below.refl wr.heap.size wr).alloc (Nat.le_refl _) _).drew).cell (p := ⟨b, off + k * 2 + 1, none⟩) gz).trans g2)⟩) | go_keep)
        ((refine step_appQ 30 60 Try.underlying30 infoUP _ (by rfl) _ _ (by rfl) w.heap.size _ tk (by rfl) ((hown.alloc _).heap rfl) wr.heap.size p1 p2 (by rfl) (heap_alloc_new wr _) (by rw [HK.out]; omega) (by have := hbel.size; simp; omega) (wr.heap.size + 1) (by simp) ?_; intro gg cap2 w1 hown1 hgrow hat hlt1))
      all_goals
        go_wp2
        go_roundw
        case rel => exact ⟨k + 1, by omega, by go_num, by rw [HT.out]; exact hown1, ((hbel.alloc hbel.size _).drew).grown hgrow (by have := hbel.size; simp; omega) (fun j hj => (HB j hj).1)⟩
        case measure => simp [intOf]; omega
    · go_wp2
      go_ret
      refine ⟨_, rfl, ?_, hbel⟩
      rw [List.take_of_length_le (by rw [HL.out]; omega)] at hown
      exact hown
end Go.Proofs.Ytabhifhmhojpbaa
