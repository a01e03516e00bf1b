/- The statements' Back: a request as the document's. · What the world's shape says of the variable that the library's search reads; the wrap of the statements. · What the bound of the second form gives: lengths. · What the frame tells of headers and of a request that came in, and how long its texts may be. -/
import Derived.Test.YtgjmaeodgcigdabGreatDoorB41
import Derived.Test.YtgjmaeodgcigdabGreatDoorB29
import Derived.Test.YtgjmaeodgcigdabGreatDoorRows
import Derived.Stop.LaidErr
import Derived.Shelf.Vars
import Derived.Lib.LaidTab
import Derived.MakeChecks
import Derived.SizedLaws
import Derived.Test.YtgjmaeodgcigdabGreatDoorB0
import Derived.ProofKit
import Derived.Test.YtgjmaeodgcigdabGreatDoorB2
import Derived.Deep.SlicePairs
import Derived.Lib.SmallJoins
namespace Go.Proofs.YtgjmaeodgcigdabGreatDoor
open Go.RowKit

theorem infoR5 : (Tryz.prog.info? 38).map (fun i => (i.zero, i.size, i.bytes)) = some (some (.agg #[.string ⟨#[]⟩, .string ⟨#[]⟩]), 2, 32) := by kernel_rfl
/-- the rounds of Back -/
structure BackSt (w : World) (ml pl ql : Value) (bd sl : Value) (l : List Pr) (k : Nat) (v : Value) (wr : World) : Prop where
  r : Blk wr w.heap.size 31 [ml, pl, ql, sl, bd]
  x : Blk wr (w.heap.size + 1) 25 [.string ⟨#[]⟩, .string ⟨#[]⟩, .string ⟨#[]⟩, .slice none 0 0, .slice none 0 0]
  o : Blk wr (w.heap.size + 1 + 1) 25 [ml, pl, ql, v, bd]
  own : OwnP 38 wr (w.heap.size + 1 + 1 + 1) v (l.take k)
  bel : Below w.heap.size w wr

set_option maxRecDepth 20000 in
set_option maxHeartbeats 4000000 in
theorem lawBack5 (m p q : ByteArray) (ba : Option Addr) (bn bc : Nat) (a : Option Addr) (n cap : Nat) (l : List Pr) (w : World) (h : IsP w a n cap l) (hn : n ≤ 4398046510976) :
    Calls Tryz.prog 8 #[.agg #[.string m, .string p, .string q, .slice a n cap, .slice ba bn bc]] w fun e w' => ∃ v, e = .returned (.agg #[.string m, .string p, .string q, v, .slice ba bn bc]) ∧ OwnP 38 w' w.heap.size v l ∧ Below w.heap.size w w' := by
  have HL : Hid (l.length = n) := h.len_eq
  have H : Hid (IsP w a n cap l) := h
  clear h
  go_enter Tryz.func8, Tryz.ntmps8
  go_wp2
  go_loopw [4] (fun i wr => ∃ (k : Nat) (v : Value), k ≤ n ∧ i = .int .i64 k ∧ BackSt w (.string m) (.string p) (.string q) (.slice ba bn bc) (.slice a n cap) l k v wr) (fun i _ => n - (intOf i).toNat)
  case atStart =>
    refine ⟨0, .slice none 0 0, Nat.zero_le _, rfl, ?_, ?_, ?_, OwnP.nil _ _ _, (((Below.refl _ w).alloc (Nat.le_refl _) _).alloc (by simp) _).alloc (by simp; omega) _⟩
    · exact ((Blk.newAt w w.heap.size _ _ _ rfl rfl).alloc _).alloc _
    · exact (Blk.newAt _ (w.heap.size + 1) _ _ _ (by simp) rfl).alloc _
    · exact Blk.newAt _ (w.heap.size + 1 + 1) _ _ _ (by simp) rfl
  case round =>
    obtain ⟨k, v, hk, rfl, ⟨KR, KX, KO, hown, hbel⟩⟩ := hrel
    have r3 : wr.cell? ⟨w.heap.size, 3, none⟩ = some (.slice a n cap) := KR.cell 3
    by_cases hlt : k < n
    · obtain ⟨b, off, rfl, hc⟩ := H.out.cells (by omega)
      obtain ⟨c1, c2⟩ := hc k hlt
      have gb : b < w.heap.size := cell_lt c1
      have g1 := (hbel.cell (p := ⟨b, off + k * 2, none⟩) gb).trans c1
      have g2 := (hbel.cell (p := ⟨b, off + k * 2 + 1, none⟩) gb).trans c2
      have gz : b < wr.heap.size := Nat.lt_of_lt_of_le gb hbel.size
      have hb0 : (0 : Int) ≤ (k : Int) := by omega
      have hb1 : (k : Int) < (n : Int) := by omega
      have HT : Hid (l.take (k + 1) = l.take k ++ [((nthP l k).1, (nthP l k).2)]) := takeP5 l k (by rw [HL.out]; exact hlt)
      have HK : Hid ((l.take k).length = k) := by unfold Hid; rw [List.length_take, HL.out]; omega
      have HB := hown.blk
      have zO := KO.lt
      clear hc c1 c2
      generalize nthP l k = pp at *
      obtain ⟨p1, p2⟩ := pp
      generalize l.take k = tk at *
      obtain ⟨va, vc, rfl, hisP⟩ := hown.isP
      have o3 : wr.cell? ⟨w.heap.size + 1 + 1, 3, none⟩ = some (.slice va tk.length vc) := KO.cell 3
      have HG : Hid (∀ w0 w1 : World, w0.grownBy w1 (Value.slice va tk.length vc).ownBlock → w0.heap = (wr.alloc (.cells #[.string (str p1), .string (str p2)] 38)).heap → ∀ B, B < w.heap.size + 1 + 1 + 1 → w1.heap[B]? = wr.heap[B]?) := fun w0 w1 hg hh B hB => by
        have hBw : B < wr.heap.size := by omega
        rw [hg.5 B (by rw [hh]; simp; omega) (fun e => by have := (HB B e.symm).1; omega), hh]
        exact Below.heap_alloc wr _ B hBw
      have HO : Hid (∀ w0 w1 : World, w0.grownBy w1 (Value.slice va tk.length vc).ownBlock → w0.heap = (wr.alloc (.cells #[.string (str p1), .string (str p2)] 38)).heap → Blk w1 (w.heap.size + 1 + 1) 25 [.string m, .string p, .string q, .slice va tk.length vc, .slice ba bn bc] ∧ Blk w1 (w.heap.size + 1) 25 [.string ⟨#[]⟩, .string ⟨#[]⟩, .string ⟨#[]⟩, .slice none 0 0, .slice none 0 0] ∧ Blk w1 w.heap.size 31 [.string m, .string p, .string q, .slice (some ⟨b, off, none⟩) n cap, .slice ba bn bc] ∧ w1.cell? ⟨b, off + k * 2, none⟩ = some (.string (str p1)) ∧ w1.cell? ⟨b, off + k * 2 + 1, none⟩ = some (.string (str p2))) := fun w0 w1 hg hh => by
        have hB := HG.out w0 w1 hg hh
        refine ⟨(hB _ (by omega)).trans KO, (hB _ (by omega)).trans KX, (hB _ (by omega)).trans KR, ?_, ?_⟩
        · exact (World.cell?_of_block (a := ⟨b, off + k * 2, none⟩) (hB b (by omega))).trans g1
        · exact (World.cell?_of_block (a := ⟨b, off + k * 2 + 1, none⟩) (hB b (by omega))).trans g2
      go_wp2
      refine wp_region_noPanic ?_
      refine wp_region_held_drew (S := fun w' => w'.cell? ⟨b, off + k * 2, none⟩ = some (.string (str p1)) ∧ w'.cell? ⟨b, off + k * 2 + 1, none⟩ = some (.string (str p2)) ∧ w'.cell? ⟨w.heap.size, 3, none⟩ = some (.slice (some ⟨b, off, none⟩) n cap)) (by kernel_rfl) ⟨g1, g2, r3⟩ (fun hHeld => ?_)
      refine takeH (some 21) (i := 0) (v := ?_) rfl (by kernel_rfl) (by kernel_rfl) (by kernel_rfl) (fun _ _ _ h => h) (Or.inl ⟨by rfl, ?_⟩) hHeld rfl ?_
      rotate_left
      · intro w hSw; obtain ⟨hS1, hS2, hS3⟩ := hSw; go_simp; with_reducible rfl
      simp only [Act.put, List.setIfInBounds_toArray, List.set_cons_zero, List.set_cons_succ]
      refine takeH (some 23) (i := 2) (v := ?_) rfl (by kernel_rfl) (by kernel_rfl) (by kernel_rfl) (fun _ _ _ h => h) (Or.inl ⟨by rfl, ?_⟩) hHeld rfl ?_
      rotate_left
      · intro w hSw; obtain ⟨hS1, hS2, hS3⟩ := hSw; go_simp; with_reducible rfl
      simp only [Act.put, List.setIfInBounds_toArray, List.set_cons_zero, List.set_cons_succ]
      refine takeH (some 24) (i := 3) (v := ?_) rfl (by kernel_rfl) (by kernel_rfl) (by kernel_rfl) (fun _ _ _ h => h) (Or.inl ⟨by rfl, ?_⟩) hHeld rfl ?_
      rotate_left
      · intro w hSw; obtain ⟨hS1, hS2, hS3⟩ := hSw; go_simp; with_reducible rfl
      simp only [Act.put, List.setIfInBounds_toArray, List.set_cons_zero, List.set_cons_succ]
      refine takeH (some 25) (i := 4) (v := ?_) rfl (by kernel_rfl) (by kernel_rfl) (by kernel_rfl) (fun _ _ _ h => h) (Or.inl ⟨by rfl, ?_⟩) hHeld rfl ?_
      rotate_left
      · intro w hSw; obtain ⟨hS1, hS2, hS3⟩ := hSw; go_simp; with_reducible rfl
      simp only [Act.put, List.setIfInBounds_toArray, List.set_cons_zero, List.set_cons_succ]
      refine takeH (some 26) (i := 5) (v := ?_) rfl (by kernel_rfl) (by kernel_rfl) (by kernel_rfl) (fun _ _ _ h => h) (Or.inl ⟨by rfl, ?_⟩) hHeld rfl ?_
      rotate_left
      · intro w hSw; obtain ⟨hS1, hS2, hS3⟩ := hSw; go_simp; with_reducible rfl
      simp only [Act.put, List.setIfInBounds_toArray, List.set_cons_zero, List.set_cons_succ]
      refine takeH (some 27) (i := 6) (v := ?_) rfl (by kernel_rfl) (by kernel_rfl) (by kernel_rfl) (fun _ _ _ h => h) (Or.inl ⟨by rfl, ?_⟩) hHeld rfl ?_
      rotate_left
      · intro w hSw; obtain ⟨hS1, hS2, hS3⟩ := hSw; go_simp; with_reducible rfl
      simp only [Act.put, List.setIfInBounds_toArray, List.set_cons_zero, List.set_cons_succ]
      refine takeH (some 28) (i := 7) (v := ?_) rfl (by kernel_rfl) (by kernel_rfl) (by kernel_rfl) (fun _ _ _ h => h) (Or.inl ⟨by rfl, ?_⟩) hHeld rfl ?_
      rotate_left
      · intro w hSw; obtain ⟨hS1, hS2, hS3⟩ := hSw; go_simp; with_reducible rfl
      simp only [Act.put, List.setIfInBounds_toArray, List.set_cons_zero, List.set_cons_succ]
      refine takeH (some 29) (i := 8) (v := ?_) rfl (by kernel_rfl) (by kernel_rfl) (by kernel_rfl) (fun _ _ _ h => h) (Or.inl ⟨by rfl, ?_⟩) hHeld rfl ?_
      rotate_left
      · intro w hSw; obtain ⟨hS1, hS2, hS3⟩ := hSw; go_simp; with_reducible rfl
      simp only [Act.put, List.setIfInBounds_toArray, List.set_cons_zero, List.set_cons_succ]
      refine takeH (some 30) (i := 9) (v := ?_) rfl (by kernel_rfl) (by kernel_rfl) (by kernel_rfl) (fun _ _ _ h => h) (Or.inl ⟨by rfl, ?_⟩) hHeld rfl ?_
      rotate_left
      · intro w hSw; obtain ⟨hS1, hS2, hS3⟩ := hSw; go_simp; with_reducible rfl
      simp only [Act.put, List.setIfInBounds_toArray, List.set_cons_zero, List.set_cons_succ]
      refine takeH (some 31) (i := 10) (v := ?_) rfl (by kernel_rfl) (by kernel_rfl) (by kernel_rfl) (fun _ _ _ h => h) (Or.inl ⟨by rfl, ?_⟩) hHeld rfl ?_
      rotate_left
      · intro w hSw; obtain ⟨hS1, hS2, hS3⟩ := hSw; go_simp; with_reducible rfl
      simp only [Act.put, List.setIfInBounds_toArray, List.set_cons_zero, List.set_cons_succ]
      refine takeH (some 32) (i := 11) (v := ?_) rfl (by kernel_rfl) (by kernel_rfl) (by kernel_rfl) (fun _ _ _ h => h) (Or.inl ⟨by rfl, ?_⟩) hHeld rfl ?_
      rotate_left
      · intro w hSw; obtain ⟨hS1, hS2, hS3⟩ := hSw; go_simp; with_reducible rfl
      simp only [Act.put, List.setIfInBounds_toArray, List.set_cons_zero, List.set_cons_succ]
      refine takeH (some 33) (i := 12) (v := ?_) rfl (by kernel_rfl) (by kernel_rfl) (by kernel_rfl) (fun _ _ _ h => h) (Or.inl ⟨by rfl, ?_⟩) hHeld rfl ?_
      rotate_left
      · intro w hSw; obtain ⟨hS1, hS2, hS3⟩ := hSw; go_simp; with_reducible rfl
      simp only [Act.put, List.setIfInBounds_toArray, List.set_cons_zero, List.set_cons_succ]
      refine takeH (some 34) (i := 13) (v := ?_) rfl (by kernel_rfl) (by kernel_rfl) (by kernel_rfl) (fun _ _ _ h => h) (Or.inl ⟨by rfl, ?_⟩) hHeld rfl ?_
      rotate_left
      · intro w hSw; obtain ⟨hS1, hS2, hS3⟩ := hSw; go_simp; with_reducible rfl
      simp only [Act.put, List.setIfInBounds_toArray, List.set_cons_zero, List.set_cons_succ]
      refine takeH (some 35) (i := 14) (v := ?_) rfl (by kernel_rfl) (by kernel_rfl) (by kernel_rfl) (fun _ _ _ h => h) (Or.inl ⟨by rfl, ?_⟩) hHeld rfl ?_
      rotate_left
      · intro w hSw; obtain ⟨hS1, hS2, hS3⟩ := hSw; go_simp; with_reducible rfl
      simp only [Act.put, List.setIfInBounds_toArray, List.set_cons_zero, List.set_cons_succ]
      refine wpAnyH_ready (rs := [1, 15]) (by kernel_rfl) (by simp) ?_
      refine AllReadyH.cons rfl (fun K hK => ?_) (AllReadyH.cons rfl (fun K hK => ?_) AllReadyH.nil)
      · go_simp
        refine hK.out _ _ hHeld (fun hHeld => ?_)
        try simp only [Act.put, List.setIfInBounds_toArray, List.set_cons_zero, List.set_cons_succ]
        refine wpAnyH_ready (rs := [15]) (by kernel_rfl) (by simp) (AllReadyH.cons rfl (fun K hK => ?_) AllReadyH.nil)
        go_simp
        refine hK.out _ _ ⟨(((Below.refl wr.heap.size wr).alloc (Nat.le_refl _) _).cell (p := ⟨b, off + k * 2, none⟩) gz).trans g1, (((Below.refl wr.heap.size wr).alloc (Nat.le_refl _) _).cell (p := ⟨b, off + k * 2 + 1, none⟩) gz).trans g2, (((Below.refl wr.heap.size wr).alloc (Nat.le_refl _) _).cell (p := ⟨w.heap.size, 3, none⟩) KR.lt).trans r3⟩ (fun hHeld => ?_)
        try simp only [Act.put, List.setIfInBounds_toArray, List.set_cons_zero, List.set_cons_succ]
        refine wpAnyH_ready (rs := [16]) (by kernel_rfl) (by simp) (AllReadyH.cons rfl (fun K hK => ?_) AllReadyH.nil)
        refine step_appQ 22 38 Tryz.underlying22 infoR5 _ (by rfl) _ _ (by rfl) (w.heap.size + 1 + 1 + 1) _ tk (by rfl) ((hown.alloc _).heap rfl) wr.heap.size p1 p2 (by rfl) (heap_alloc_new wr _) (by rw [HK.out]; omega) (by have := hbel.size; simp; omega) (wr.heap.size + 1) (by simp) ?_
        intro gg cap2 w1 hown1 hgrow hat hlt1
        obtain ⟨KO1, KX1, KR1, e1, e2⟩ := HO.out _ w1 hgrow rfl
        have o1 : w1.cell? ⟨w.heap.size + 1 + 1, 3, none⟩ = some (.slice va tk.length vc) := KO1.cell 3
        have f1 := KO1.frozen 3
        have r1 : w1.cell? ⟨w.heap.size, 3, none⟩ = some (.slice (some ⟨b, off, none⟩) n cap) := KR1.cell 3
        refine hK.out _ _ ⟨e1, e2, r1⟩ (fun hHeld => ?_)
        simp only [Act.put, List.setIfInBounds_toArray]
        refine takeH (some 38) (i := 17) (v := ?_) rfl (by kernel_rfl) (by kernel_rfl) (by kernel_rfl) (fun _ _ _ h => h) (Or.inl ⟨by rfl, ?_⟩) hHeld rfl ?_
        rotate_left
        · intro w hSw; obtain ⟨hS1, hS2, hS3⟩ := hSw; go_simp; with_reducible rfl
        simp only [Act.put]
        refine wpAnyH_ready (rs := [18]) (by kernel_rfl) (by simp) (AllReadyH.cons rfl (fun K hK => ?_) AllReadyH.nil)
        go_simp
        refine hK.out _ _ ⟨?_, ?_, ?_⟩ (fun _ => ?_)
        · rw [World.cell?_setCell_other _ _ _ _ (fun e' => by injection e' with e1; omega)]; exact e1
        · rw [World.cell?_setCell_other _ _ _ _ (fun e' => by injection e' with e1; omega)]; exact e2
        · rw [World.cell?_setCell_other _ _ _ _ (fun e' => by injection e' with e1; omega)]; exact r1
        try simp only [Act.put, List.setIfInBounds_toArray, List.set_cons_zero, List.set_cons_succ]
        refine wpAnyH_done (by kernel_rfl) ?_ _
        refine NoPanic.normal ?_
        go_wp2
        go_roundw
        case rel => exact ⟨k + 1, _, hlt, by go_num, ⟨Moved.blk (Moved.setAny (w.heap.size + 1 + 1) w1 3 _) KR1 (by omega), Moved.blk (Moved.setAny (w.heap.size + 1 + 1) w1 3 _) KX1 (by omega), KO1.set 3 _, by rw [HT.out]; exact hown1.moved (Moved.setAny (w.heap.size + 1 + 1) w1 3 _) (by omega), (((hbel.drew).alloc hbel.size _).grown hgrow (by have := hbel.size; simp; omega) (fun j hj => by have := (HB j hj).1; omega)).setCell (p := ⟨w.heap.size + 1 + 1, 3, none⟩) (by show w.heap.size ≤ w.heap.size + 1 + 1; omega) _⟩⟩
        case measure => simp [intOf]; omega
      · go_simp
        refine hK.out _ _ ⟨(((Below.refl wr.heap.size wr).alloc (Nat.le_refl _) _).cell (p := ⟨b, off + k * 2, none⟩) gz).trans g1, (((Below.refl wr.heap.size wr).alloc (Nat.le_refl _) _).cell (p := ⟨b, off + k * 2 + 1, none⟩) gz).trans g2, (((Below.refl wr.heap.size wr).alloc (Nat.le_refl _) _).cell (p := ⟨w.heap.size, 3, none⟩) KR.lt).trans r3⟩ (fun hHeld => ?_)
        try simp only [Act.put, List.setIfInBounds_toArray, List.set_cons_zero, List.set_cons_succ]
        refine wpAnyH_ready (rs := [1]) (by kernel_rfl) (by simp) (AllReadyH.cons rfl (fun K hK => ?_) AllReadyH.nil)
        have o3' : (wr.drew.alloc (.cells #[.string (str p1), .string (str p2)] 38)).cell? ⟨w.heap.size + 1 + 1, 3, none⟩ = some (.slice va tk.length vc) := (((Below.refl wr.heap.size wr).alloc (Nat.le_refl _) _).cell (p := ⟨w.heap.size + 1 + 1, 3, none⟩) zO).trans o3
        go_simp
        refine hK.out _ _ hHeld (fun hHeld => ?_)
        try simp only [Act.put, List.setIfInBounds_toArray, List.set_cons_zero, List.set_cons_succ]
        refine wpAnyH_ready (rs := [16]) (by kernel_rfl) (by simp) (AllReadyH.cons rfl (fun K hK => ?_) AllReadyH.nil)
        refine step_appQ 22 38 Tryz.underlying22 infoR5 _ (by rfl) _ _ (by rfl) (w.heap.size + 1 + 1 + 1) _ tk (by rfl) ((hown.alloc _).heap rfl) wr.heap.size p1 p2 (by rfl) (heap_alloc_new wr _) (by rw [HK.out]; omega) (by have := hbel.size; simp; omega) (wr.heap.size + 1) (by simp) ?_
        intro gg cap2 w1 hown1 hgrow hat hlt1
        obtain ⟨KO1, KX1, KR1, e1, e2⟩ := HO.out _ w1 hgrow rfl
        have o1 : w1.cell? ⟨w.heap.size + 1 + 1, 3, none⟩ = some (.slice va tk.length vc) := KO1.cell 3
        have f1 := KO1.frozen 3
        have r1 : w1.cell? ⟨w.heap.size, 3, none⟩ = some (.slice (some ⟨b, off, none⟩) n cap) := KR1.cell 3
        refine hK.out _ _ ⟨e1, e2, r1⟩ (fun hHeld => ?_)
        simp only [Act.put, List.setIfInBounds_toArray]
        refine takeH (some 38) (i := 17) (v := ?_) rfl (by kernel_rfl) (by kernel_rfl) (by kernel_rfl) (fun _ _ _ h => h) (Or.inl ⟨by rfl, ?_⟩) hHeld rfl ?_
        rotate_left
        · intro w hSw; obtain ⟨hS1, hS2, hS3⟩ := hSw; go_simp; with_reducible rfl
        simp only [Act.put]
        refine wpAnyH_ready (rs := [18]) (by kernel_rfl) (by simp) (AllReadyH.cons rfl (fun K hK => ?_) AllReadyH.nil)
        go_simp
        refine hK.out _ _ ⟨?_, ?_, ?_⟩ (fun _ => ?_)
        · rw [World.cell?_setCell_other _ _ _ _ (fun e' => by injection e' with e1; omega)]; exact e1
        · rw [World.cell?_setCell_other _ _ _ _ (fun e' => by injection e' with e1; omega)]; exact e2
        · rw [World.cell?_setCell_other _ _ _ _ (fun e' => by injection e' with e1; omega)]; exact r1
        try simp only [Act.put, List.setIfInBounds_toArray, List.set_cons_zero, List.set_cons_succ]
        refine wpAnyH_done (by kernel_rfl) ?_ _
        refine NoPanic.normal ?_
        go_wp2
        go_roundw
        case rel => exact ⟨k + 1, _, hlt, by go_num, ⟨Moved.blk (Moved.setAny (w.heap.size + 1 + 1) w1 3 _) KR1 (by omega), Moved.blk (Moved.setAny (w.heap.size + 1 + 1) w1 3 _) KX1 (by omega), KO1.set 3 _, by rw [HT.out]; exact hown1.moved (Moved.setAny (w.heap.size + 1 + 1) w1 3 _) (by omega), (((hbel.drew).alloc hbel.size _).grown hgrow (by have := hbel.size; simp; omega) (fun j hj => by have := (HB j hj).1; omega)).setCell (p := ⟨w.heap.size + 1 + 1, 3, none⟩) (by show w.heap.size ≤ w.heap.size + 1 + 1; omega) _⟩⟩
        case measure => simp [intOf]; omega
    · have hge : ¬ (k : Int) < (n : Int) := by omega
      have hkn : k = n := by omega
      subst hkn
      have HT : Hid (l.take k = l) := List.take_of_length_le (by rw [HL.out]; exact Nat.le_refl _)
      obtain ⟨va, vc, rfl, hisP⟩ := hown.isP
      have o0 : wr.cell? ⟨w.heap.size + 1 + 1, 0, none⟩ = some (.string m) := KO.cell 0
      have o1 : wr.cell? ⟨w.heap.size + 1 + 1, 1, none⟩ = some (.string p) := KO.cell 1
      have o2 : wr.cell? ⟨w.heap.size + 1 + 1, 2, none⟩ = some (.string q) := KO.cell 2
      have o3 : wr.cell? ⟨w.heap.size + 1 + 1, 3, none⟩ = some (.slice va (l.take k).length vc) := KO.cell 3
      have o4 : wr.cell? ⟨w.heap.size + 1 + 1, 4, none⟩ = some (.slice ba bn bc) := KO.cell 4
      have c0 : wr.cell? ⟨w.heap.size + 1, 0, none⟩ = some (.string ⟨#[]⟩) := KX.cell 0
      have c1 : wr.cell? ⟨w.heap.size + 1, 1, none⟩ = some (.string ⟨#[]⟩) := KX.cell 1
      have c2 : wr.cell? ⟨w.heap.size + 1, 2, none⟩ = some (.string ⟨#[]⟩) := KX.cell 2
      have c3 : wr.cell? ⟨w.heap.size + 1, 3, none⟩ = some (.slice none 0 0) := KX.cell 3
      have c4 : wr.cell? ⟨w.heap.size + 1, 4, none⟩ = some (.slice none 0 0) := KX.cell 4
      have d0 := KX.frozen 0
      have d1 := KX.frozen 1
      have d2 := KX.frozen 2
      have d3 := KX.frozen 3
      have d4 := KX.frozen 4
      generalize l.take k = tk at *
      go_wp2
      have K3 := (((((KX.set 0 (.string m)).set 1 (.string p)).set 2 (.string q)).set 3 (.slice va tk.length vc)).set 4 (.slice ba bn bc))
      refine bodyPost_ret (results_cellrow (P := Tryz.prog) rfl _ _ (w.heap.size + 1) 25 #[.string m, .string p, .string q, .slice va tk.length vc, .slice ba bn bc] (0, 0) _ rfl K3 Tryz.underlying25 rfl (by kernel_rfl)) rfl ⟨_, rfl, ?_, ?_⟩
      · rw [← HT.out]
        exact ((((((hown.moved (Moved.setAny (w.heap.size + 1) _ 0 _) (by omega)).moved (Moved.setAny (w.heap.size + 1) _ 1 _) (by omega)).moved (Moved.setAny (w.heap.size + 1) _ 2 _) (by omega)).moved (Moved.setAny (w.heap.size + 1) _ 3 _) (by omega)).moved (Moved.setAny (w.heap.size + 1) _ 4 _) (by omega))).base (by omega)
      · exact ((((hbel.setCell (p := ⟨w.heap.size + 1, 0, none⟩) (Nat.le_succ _) _).setCell (p := ⟨w.heap.size + 1, 1, none⟩) (Nat.le_succ _) _).setCell (p := ⟨w.heap.size + 1, 2, none⟩) (Nat.le_succ _) _).setCell (p := ⟨w.heap.size + 1, 3, none⟩) (Nat.le_succ _) _).setCell (p := ⟨w.heap.size + 1, 4, none⟩) (Nat.le_succ _) _
end Go.Proofs.YtgjmaeodgcigdabGreatDoor
namespace Go.Proofs.YtgjmaeodgcigdabGreatDoor
open Go.RowKit

abbrev laidS6 : List (String × DataW Unit) := [("unicode/utf8.acceptRanges", Rows.laid_unicode_utf8_acceptRanges), ("unicode/utf8.first", Rows.laid_unicode_utf8_first)]
theorem mx_of {W : World} (hsh : W.ShapedOpen Tryz.prog) : MxS W := cell_of_shapedOpen_int hsh (zero := #[.int .i64 0]) (of_decide_eq_true (by kernel_rfl)) (by kernel_rfl) rfl (by kernel_rfl) (by kernel_rfl) Tryz.underlying3

/-- the wrap that hands on both what is laid and the world's shape -/
theorem returns_laid {H : Type} {enc : TypeId × Value → H} {a : Assume} {C : Checked} {os : Os} {f : FuncId} {fn : Func} {s : ChangeSpec} {conds : List PathCond} {apart fresh handsOn again : Bool} {X : World → Array Value → Prop}
    (hX : ∀ (w w' : World) (args : Array Value), w.heap = w'.heap → X w args → X w' args)
    (own : ownKnob C.prog.godebug = none) (started : os.Started) (noInit : C.prog.inits.idxOf? f = none) (hfn : C.prog.funcs[f]? = some fn)
    (witness : ∃ (w : World) (tape : Tape) (i : Input), w.os = os ∧ (w.forCall tape i).Shaped C.prog ∧ i.vars = [] ∧ Input.okWide C.prog (w.forCall tape i) .any w.heap.size f i ∧
      ((s.pre enc C.prog fn conds apart (w.forCall tape i).memory i.args ∧ X (w.forCall tape i).memory i.args) ∧ sizedMet enc C.prog fn (OpenSpec.ofChange s) apart (w.forCall tape i).memory i.args) ∧ a.holds C.prog (lone (Frame.enter C.prog f i.args .normal) [] (w.forCall tape i)))
    (contract : ∀ (W : World) (base : Nat) (args : Array Value) (ds gs : List (DataW H)) (before : List MemPlace),
      (∀ (j : Nat) t v, fn.params[j]? = some t → args[j]? = some v → Value.okWide C.prog W .any base t v) →
      DataW.Whole enc C.prog fn.params.toList s.vars apart W args.toList ds gs before →
      conds.all (PathCond.test C.prog ⟨fn.params.toList, ds, s.plain.varTypes C.prog, gs⟩) = true →
      (DataW.weightsEach C.prog (fn.params.toList ++ s.plain.varTypes C.prog) (ds ++ gs)).all (· ≤ reachBytes) = true → X W args → W.ShapedOpen C.prog →
      a.holds C.prog (lone (Frame.enter C.prog f args .normal) [] W) →
      Calls C.prog f args W fun e W' => ∃ v, e = .returned v ∧ s.post enc C.prog fn apart fresh handsOn again W args v W') :
    ReturnsInHanded a C os f .any (fun w args => (s.pre enc C.prog fn conds apart w args ∧ X w args) ∧ sizedMet enc C.prog fn (OpenSpec.ofChange s) apart w args) (s.post enc C.prog fn apart fresh handsOn again) := by
  refine returnsInHanded_of_calls own started noInit witness ?_
  intro w tape i _ hsh _ hok hpre hholds
  obtain ⟨_, _, _, fn', hfn', _, _, _, _, hval⟩ := hok
  have e : fn' = fn := Option.some.inj (hfn'.symm.trans hfn)
  subst e
  obtain ⟨⟨⟨ds, gs, before, hw, hc⟩, hx⟩, hz⟩ := hpre
  have hw' := DataW.Whole.of_heap (w' := w.forCall tape i) (by rfl) hw
  refine (contract (w.forCall tape i) w.heap.size i.args ds gs before hval hw' hc (hz.weights hw) (hX _ _ _ (by rfl) hx) hsh hholds).mono fun e W' ⟨v, he, hp⟩ => ?_
  subst he
  exact ChangeSpec.post_blind hp
end Go.Proofs.YtgjmaeodgcigdabGreatDoor
namespace Go.Proofs.YtgjmaeodgcigdabGreatDoor
open Go.ChangeShapes

theorem bulk_pos {H : Type} (d : DataW H) : 1 ≤ Rows.uptoBulk d := by
  cases d with
  | lit l => cases l <;> simp only [Rows.uptoBulk] <;> omega
  | nil => simp only [Rows.uptoBulk]; omega
  | ptr d => simp only [Rows.uptoBulk]; omega
  | slice es sp => simp only [Rows.uptoBulk]; omega
  | agg ps => simp only [Rows.uptoBulk]; omega
  | iface t d => simp only [Rows.uptoBulk]; omega
  | map es => simp only [Rows.uptoBulk]; omega
  | held h => simp only [Rows.uptoBulk]; omega

theorem bulk_count {H : Type} : ∀ l : List (DataW H), l.length ≤ Rows.uptoBulkAll l
  | [] => Nat.zero_le _
  | d :: l => by
    have h1 := bulk_pos d
    have h2 := bulk_count l
    simp only [Rows.uptoBulkAll, List.length_cons]; omega

theorem bulk_slice {H : Type} (es sp : List (DataW H)) : es.length ≤ Rows.uptoBulk (.slice es sp) := by
  have := bulk_count es
  simp only [Rows.uptoBulk]; omega

theorem bulk_string {H : Type} (s : ByteArray) : s.size ≤ Rows.uptoBulk (DataW.lit (H := H) (.string s.data.toList)) := by
  have e : s.data.toList.length = s.size := by rw [Array.length_toList]; rfl
  simp only [Rows.uptoBulk]; omega

theorem bulk_all {H : Type} {l : List (DataW H)} (hk : Rows.uptoSmall H l = true) : Rows.uptoBulkAll l ≤ 1048576 := of_decide_eq_true hk
end Go.Proofs.YtgjmaeodgcigdabGreatDoor
namespace Go.Proofs.YtgjmaeodgcigdabGreatDoor
open Go.ChangeShapes Go.WideShapes

theorem weights_all {H : Type} {P : Program} {e : TypeId} {d : DataW H} : ∀ {l : List (DataW H)}, d ∈ l → ∀ n ∈ d.weights P e, n ∈ DataW.weightsAll P e l
  | [], h, _, _ => by cases h
  | x :: l, h, n, hn => by
    simp only [DataW.weightsAll, List.mem_append]
    rcases List.mem_cons.1 h with rfl | h
    · exact .inl hn
    · exact .inr (weights_all h n hn)
theorem bulk_mem {H : Type} {d : DataW H} : ∀ {l : List (DataW H)}, d ∈ l → Rows.uptoBulk d ≤ Rows.uptoBulkAll l
  | [], h => by cases h
  | x :: l, h => by
    simp only [Rows.uptoBulkAll]
    rcases List.mem_cons.1 h with rfl | h
    · omega
    · have := bulk_mem h
      omega
theorem cellsH2 : Tryz.prog.cellsOf 38 = 2 := by kernel_rfl
theorem cellsS1 : Tryz.prog.cellsOf 9 = 1 := by kernel_rfl
theorem bytesH : Tryz.prog.bytesOf 38 = 32 := by kernel_rfl
theorem bytesU : Tryz.prog.bytesOf 5 = 1 := by kernel_rfl

set_option maxRecDepth 100000 in
theorem open_hdr {H : Type} {enc : TypeId × Value → H} {W : World} {n : Nat} {cs : List Value} {d : DataW H} {pl : List MemPlace} (h : DataW.trod enc Tryz.prog W 0 (fun _ => true) true n 38 cs = some (d, pl)) :
    ∃ p : Pr, cs = [.string (str p.1), .string (str p.2)] ∧ (p.1.length ∈ d.weights Tryz.prog 38 ∧ p.2.length ∈ d.weights Tryz.prog 38) ∧ p.1.length ≤ Rows.uptoBulk d ∧ p.2.length ≤ Rows.uptoBulk d := by
  obtain ⟨xs, k, hk, hxy, hcl, hxl, hf⟩ := DataW.trod_struct Tryz.underlying38 h
  rw [cellsH2] at hcl
  match xs, hxl, cs, hcl with
  | [y0, y1], _, [v0, v1], _ =>
    have g0 := hf 0 _ rfl
    have g1 := hf 1 _ rfl
    simp [cellsS1] at g0 g1
    obtain ⟨s0, e0, x0, _⟩ := DataW.trod_string Tryz.underlying9 g0
    obtain ⟨s1, e1, x1, _⟩ := DataW.trod_string Tryz.underlying9 g1
    simp only [List.cons.injEq, and_true] at e0 e1
    subst e0 e1
    have hd : d = .agg [y0.1, y1.1] := by have := (Prod.mk.inj hxy).1; simpa using this
    refine ⟨(s0.data.toList, s1.data.toList), by rw [str_of, str_of], ⟨?_, ?_⟩, ?_, ?_⟩
    · rw [hd, x0, x1]
      simp [DataW.weights, Tryz.underlying38, DataW.weightsEach]
    · rw [hd, x0, x1]
      simp [DataW.weights, Tryz.underlying38, DataW.weightsEach]
    · rw [hd, x0, x1]; simp only [Rows.uptoBulk, Rows.uptoBulkAll]; omega
    · rw [hd, x0, x1]; simp only [Rows.uptoBulk, Rows.uptoBulkAll]; omega

set_option maxRecDepth 100000 in
theorem open_hdrs {H : Type} {enc : TypeId × Value → H} {W : World} {fuel : Nat} {a : Option Addr} {len cap : Nat} {x : DataW H × List MemPlace} (h : DataW.trod enc Tryz.prog W 0 (fun _ => true) true fuel 22 [.slice a len cap] = some x) :
    ∃ ps, IsP W a len cap ps ∧ (len = 0 ∨ ∃ k, len * 32 ≤ k ∧ k ∈ x.1.weights Tryz.prog 22) ∧ (∀ i, i < ps.length → (nthP ps i).1.length ∈ x.1.weights Tryz.prog 22 ∧ (nthP ps i).2.length ∈ x.1.weights Tryz.prog 22) ∧
      (∀ i, i < ps.length → (nthP ps i).1.length ≤ Rows.uptoBulk x.1 ∧ (nthP ps i).2.length ≤ Rows.uptoBulk x.1) := by
  rcases Deep.open_slice Tryz.underlying22 h with ⟨hcs, _⟩ | ⟨ad, l, c, m, n, D, Pl, hcs, _, hl, hm, hmm, hx, hel⟩
  · simp only [List.cons.injEq, and_true, Value.slice.injEq] at hcs
    obtain ⟨rfl, rfl, rfl⟩ := hcs
    exact ⟨[], ⟨rfl, Nat.le_refl _, Nat.zero_le _, fun _ => rfl, fun h => absurd h (Nat.lt_irrefl 0)⟩, .inl rfl, (fun i hi => absurd hi (Nat.not_lt_zero _)), fun i hi => absurd hi (Nat.not_lt_zero _)⟩
  · simp only [List.cons.injEq, and_true, Value.slice.injEq] at hcs
    obtain ⟨rfl, rfl, rfl⟩ := hcs
    have hmc : m = cap := by simpa using hmm
    subst hmc
    rw [cellsH2] at hel
    have each : ∀ i, i < len → ∃ q : Pr, W.cell? (ad.add (i * 2)) = some (.string (str q.1)) ∧ W.cell? (ad.add (i * 2 + 1)) = some (.string (str q.2)) ∧ (q.1.length ∈ x.1.weights Tryz.prog 22 ∧ q.2.length ∈ x.1.weights Tryz.prog 22) ∧ q.1.length ≤ Rows.uptoBulk x.1 ∧ q.2.length ≤ Rows.uptoBulk x.1 := by
      intro i hi
      obtain ⟨cs', h1, h2⟩ := hel i (by omega)
      obtain ⟨_, _, hcell⟩ := World.cells?_some h1
      obtain ⟨p, rfl, ⟨hb1, hb2⟩, hb3, hb4⟩ := open_hdr h2
      have e0 := hcell 0 (by omega)
      have e1 := hcell 1 (by omega)
      rw [Deep.add_add] at e0 e1
      have hmem : D i ∈ (List.range len).map D := List.mem_map.2 ⟨i, List.mem_range.2 hi, rfl⟩
      have hbk : Rows.uptoBulk (D i) ≤ Rows.uptoBulk x.1 := by
        have := bulk_mem hmem
        rw [hx]; simp only [Rows.uptoBulk]; omega
      refine ⟨p, by simpa using e0, by simpa using e1, ⟨?_, ?_⟩, by omega, by omega⟩
      · rw [hx]
        simp only [DataW.weights, Tryz.underlying22, List.mem_cons, List.mem_append]
        exact .inr (.inl (weights_all hmem _ hb1))
      · rw [hx]
        simp only [DataW.weights, Tryz.underlying22, List.mem_cons, List.mem_append]
        exact .inr (.inl (weights_all hmem _ hb2))
    haveI : Inhabited Pr := ⟨([], [])⟩
    obtain ⟨q, hq⟩ := Deep.choose_lt each
    have hn : ∀ i, i < len → nthP ((List.range len).map fun i => q i) i = q i := fun i hi => by
      rw [nthP_eq _ _ (by simpa using hi)]; simp
    refine ⟨(List.range len).map fun i => q i, ⟨by simp, hl, hm, fun e => (by cases e), fun hp => ?_⟩, .inr ?_, (fun i hi => ?_), fun i hi => ?_⟩
    · obtain ⟨b, off, spot⟩ := ad
      have hspot : spot = none := by simpa [Addr.add] using World.cell?_spot (hq 0 hp).1
      subst hspot
      refine ⟨b, off, rfl, fun i hi => ?_⟩
      obtain ⟨h0, h1, _⟩ := hq i hi
      rw [Addr.add_lit] at h0 h1
      rw [hn i hi, Nat.add_assoc]
      exact ⟨h0, h1⟩
    · rw [hx]
      simp only [DataW.weights, Tryz.underlying22, List.mem_cons, List.mem_append]
      exact ⟨_, by rw [bytesH, List.length_map, List.length_range]; exact Nat.mul_le_mul_right _ (Nat.le_add_right _ _), .inl rfl⟩
    · have hi' : i < len := by simpa using hi
      rw [hn i hi']
      exact (hq i hi').2.2.1
    · have hi' : i < len := by simpa using hi
      rw [hn i hi']
      exact (hq i hi').2.2.2
theorem open_bytes5 {H : Type} {enc : TypeId × Value → H} {W : World} {fuel : Nat} {cs : List Value} {x : DataW H × List MemPlace} (h : DataW.trod enc Tryz.prog W 0 (fun _ => true) true fuel 23 cs = some x) :
    ∃ a n cap l, cs = [.slice a n cap] ∧ IsB W a n cap l ∧ n ≤ Rows.uptoBulk x.1 ∧ (n = 0 ∨ ∃ k, n ≤ k ∧ k ∈ x.1.weights Tryz.prog 23) := by
  rcases open_ints Tryz.underlying23 Tryz.underlying5 (by kernel_rfl) h with ⟨hcs, _⟩ | ⟨y, l, c, zs, hcs, _, hl, hm, hz, hx, hcell, hwz⟩
  · exact ⟨none, 0, 0, [], hcs, isB_none W, Nat.zero_le _, .inl rfl⟩
  · have hz0 : zs.length = c := by simpa using hz
    have hrow : IsRow .u8 W (some y) l c zs := .inr ⟨_, rfl, hl, hm, hz0, hcell, hwz⟩
    obtain ⟨b, hb⟩ := hrow.bytes
    refine ⟨some y, l, c, b, hcs, hb, ?_, .inr ?_⟩
    · rw [hx]
      refine Nat.le_trans ?_ (bulk_slice _ _)
      simp only [lits, List.length_map, List.length_take]; omega
    · rw [hx]
      simp only [DataW.weights, Tryz.underlying23, List.mem_cons, List.mem_append]
      exact ⟨_, by rw [bytesU, Nat.mul_one]; simp only [lits, List.length_map, List.length_take]; omega, .inl rfl⟩

theorem w_str {H : Type} (P : Program) (t : TypeId) (s : ByteArray) : s.size ∈ (DataW.lit (H := H) (.string s.data.toList)).weights P t := by
  simp only [DataW.weights]
  rw [Array.length_toList]
  exact List.mem_singleton.2 rfl
/-- a request that came in -/
structure RqIn (W : World) (v : Value) (m p q : ByteArray) (ha : Option Addr) (hn hc : Nat) (hs : List Pr) (ba : Option Addr) (bn bc : Nat) (body : List UInt8) : Prop where
  val : v = .agg #[.string m, .string p, .string q, .slice ha hn hc, .slice ba bn bc]
  isP : IsP W ha hn hc hs
  isB : IsB W ba bn bc body

set_option maxRecDepth 100000 in
theorem open_rq {H : Type} {enc : TypeId × Value → H} {W : World} {r : Reach} {b0 : Nat} {v : Value} {d : DataW H} {pl : List MemPlace} (hv : Value.okWide Tryz.prog W r b0 25 v) (h : DataW.Trod enc Tryz.prog W 0 (fun _ => true) true 25 v d pl)
    (N : Nat) (hN : ∀ n ∈ d.weights Tryz.prog 25, n ≤ N) :
    ∃ m p q ha hn hc hs ba bn bc body, RqIn W v m p q ha hn hc hs ba bn bc body ∧ m.size ≤ N ∧ p.size ≤ N ∧ q.size ≤ N ∧ hn * 32 ≤ N ∧ bn ≤ N ∧ ∀ i, i < hs.length → (nthP hs i).1.length ≤ N ∧ (nthP hs i).2.length ≤ N := by
  obtain ⟨cs, rfl, hsz⟩ := okWide_struct Tryz.underlying25 hv
  have hC : Tryz.prog.cellsOf 25 = 5 := by kernel_rfl
  rw [hC] at hsz
  obtain ⟨fuel, hf⟩ := h
  obtain ⟨xs, k, hk, hxy, hcl, hxl, hfl⟩ := DataW.trod_struct Tryz.underlying25 hf
  have e0 : ∃ c0 c1 c2 c3 c4, cs = #[c0, c1, c2, c3, c4] := by
    obtain ⟨l⟩ := cs
    match l, hsz with
    | [c0, c1, c2, c3, c4], _ => exact ⟨c0, c1, c2, c3, c4, rfl⟩
  obtain ⟨c0, c1, c2, c3, c4, rfl⟩ := e0
  have e1 : ∃ y0 y1 y2 y3 y4, xs = [y0, y1, y2, y3, y4] := by
    match xs, hxl with
    | [y0, y1, y2, y3, y4], _ => exact ⟨y0, y1, y2, y3, y4, rfl⟩
  obtain ⟨y0, y1, y2, y3, y4, rfl⟩ := e1
  have cH : Tryz.prog.cellsOf 22 = 1 := by kernel_rfl
  have cB : Tryz.prog.cellsOf 23 = 1 := by kernel_rfl
  have g0 := hfl 0 _ rfl
  have g1 := hfl 1 _ rfl
  have g2 := hfl 2 _ rfl
  have g3 := hfl 3 _ rfl
  have g4 := hfl 4 _ rfl
  simp [cellsS1, cH, cB, Value.cells] at g0 g1 g2 g3 g4
  obtain ⟨s0, q0, x0, _⟩ := DataW.trod_string Tryz.underlying9 g0
  obtain ⟨s1, q1, x1, _⟩ := DataW.trod_string Tryz.underlying9 g1
  obtain ⟨s2, q2, x2, _⟩ := DataW.trod_string Tryz.underlying9 g2
  obtain ⟨a3, n3, k3, q3⟩ := Joins.slice_form Tryz.underlying22 g3
  obtain ⟨a4, n4, k4, b4, q4, hB4, _, w4⟩ := open_bytes5 g4
  simp only [List.cons.injEq, and_true] at q0 q1 q2 q3 q4
  subst q0 q1 q2 q3 q4
  obtain ⟨hs, hP, w3, w5, _⟩ := open_hdrs g3
  have hd : d = .agg [y0.1, y1.1, y2.1, y3.1, y4.1] := by have := (Prod.mk.inj hxy).1; simpa using this
  have hw : ∀ n, n ∈ y0.1.weights Tryz.prog 9 ∨ n ∈ y1.1.weights Tryz.prog 9 ∨ n ∈ y2.1.weights Tryz.prog 9 ∨ n ∈ y3.1.weights Tryz.prog 22 ∨ n ∈ y4.1.weights Tryz.prog 23 → n ≤ N := fun n h => hN n (by
    rw [hd]
    simp only [DataW.weights, Tryz.underlying25, DataW.weightsEach, List.map_cons, List.map_nil, List.mem_append]
    rcases h with h | h | h | h | h
    · exact .inl h
    · exact .inr (.inl h)
    · exact .inr (.inr (.inl h))
    · exact .inr (.inr (.inr (.inl h)))
    · exact .inr (.inr (.inr (.inr (.inl h)))))
  refine ⟨s0, s1, s2, a3, n3, k3, hs, a4, n4, k4, b4, ⟨rfl, hP, hB4⟩, ?_, ?_, ?_, ?_, ?_, ?_⟩
  · exact hw _ (.inl (by rw [x0]; exact w_str _ _ _))
  · exact hw _ (.inr (.inl (by rw [x1]; exact w_str _ _ _)))
  · exact hw _ (.inr (.inr (.inl (by rw [x2]; exact w_str _ _ _))))
  · rcases w3 with h | ⟨k, hk1, hk2⟩
    · omega
    · exact Nat.le_trans hk1 (hw _ (.inr (.inr (.inr (.inl hk2)))))
  · rcases w4 with h | ⟨k, hk1, hk2⟩
    · omega
    · exact Nat.le_trans hk1 (hw _ (.inr (.inr (.inr (.inr hk2)))))
  · exact fun i hi => ⟨hw _ (.inr (.inr (.inr (.inl (w5 i hi).1)))), hw _ (.inr (.inr (.inr (.inl (w5 i hi).2))))⟩
end Go.Proofs.YtgjmaeodgcigdabGreatDoor
