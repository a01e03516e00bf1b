/- The statements' Own: a request as the program's. · What Attach tells of a short request. · What the document's days and Civil answer. · What the document's Day answers. · What the document's Pad answers: a number by so many digits. -/
import Derived.Test.YtgjmaeodgcigdabGreatDoorB40
import Derived.Test.YtgjmaeodgcigdabGreatDoorB18
import Derived.Test.YtgjmaeodgcigdabGreatDoorB4
import Derived.Test.YtgjmaeodgcigdabGreatDoorB23
import Derived.OwnWalk
import Derived.Laws.IdiomStrings
namespace Go.Proofs.YtgjmaeodgcigdabGreatDoor
open Go.RowKit

/-- the rounds of Own -/
structure OwnSt (w : World) (ml pl ql : Value) (bd sl : Value) (l : List Pr) (k : Nat) (v : Value) (wr : World) : Prop where
  r : Blk wr w.heap.size 25 [ml, pl, ql, sl, bd]
  x : Blk wr (w.heap.size + 1) 31 [.string ⟨#[]⟩, .string ⟨#[]⟩, .string ⟨#[]⟩, .slice none 0 0, .slice none 0 0]
  o : Blk wr (w.heap.size + 1 + 1) 31 [ml, pl, ql, v, bd]
  own : OwnP 42 wr (w.heap.size + 1 + 1 + 1) v (l.take k)
  bel : Below w.heap.size w wr

set_option maxRecDepth 20000 in
set_option maxHeartbeats 4000000 in
theorem lawOwn5 (m p q : ByteArray) (ba : Option Addr) (bn bc : Nat) (a : Option Addr) (n cap : Nat) (l : List Pr) (w : World) (h : IsP w a n cap l) (hn : n ≤ 4398046510976) :
    Calls Tryz.prog 7 #[.agg #[.string m, .string p, .string q, .slice a n cap, .slice ba bn bc]] w fun e w' => ∃ v, e = .returned (.agg #[.string m, .string p, .string q, v, .slice ba bn bc]) ∧ OwnP 42 w' w.heap.size v l ∧ Below w.heap.size w w' := by
  have HL : Hid (l.length = n) := h.len_eq
  have H : Hid (IsP w a n cap l) := h
  clear h
  go_enter Tryz.func7, Tryz.ntmps7
  go_wp2
  go_loopw [4] (fun i wr => ∃ (k : Nat) (v : Value), k ≤ n ∧ i = .int .i64 k ∧ OwnSt w (.string m) (.string p) (.string q) (.slice ba bn bc) (.slice a n cap) l k v wr) (fun i _ => n - (intOf i).toNat)
  case atStart =>
    refine ⟨0, .slice none 0 0, Nat.zero_le _, rfl, ?_, ?_, ?_, OwnP.nil _ _ _, (((Below.refl _ w).alloc (Nat.le_refl _) _).alloc (by simp) _).alloc (by simp; omega) _⟩
    · exact ((Blk.newAt w w.heap.size _ _ _ rfl rfl).alloc _).alloc _
    · exact (Blk.newAt _ (w.heap.size + 1) _ _ _ (by simp) rfl).alloc _
    · exact Blk.newAt _ (w.heap.size + 1 + 1) _ _ _ (by simp) rfl
  case round =>
    obtain ⟨k, v, hk, rfl, ⟨KR, KX, KO, hown, hbel⟩⟩ := hrel
    have r3 : wr.cell? ⟨w.heap.size, 3, none⟩ = some (.slice a n cap) := KR.cell 3
    by_cases hlt : k < n
    · obtain ⟨b, off, rfl, hc⟩ := H.out.cells (by omega)
      obtain ⟨c1, c2⟩ := hc k hlt
      have gb : b < w.heap.size := cell_lt c1
      have g1 := (hbel.cell (p := ⟨b, off + k * 2, none⟩) gb).trans c1
      have g2 := (hbel.cell (p := ⟨b, off + k * 2 + 1, none⟩) gb).trans c2
      have gz : b < wr.heap.size := Nat.lt_of_lt_of_le gb hbel.size
      have hb0 : (0 : Int) ≤ (k : Int) := by omega
      have hb1 : (k : Int) < (n : Int) := by omega
      have HT : Hid (l.take (k + 1) = l.take k ++ [((nthP l k).1, (nthP l k).2)]) := takeP5 l k (by rw [HL.out]; exact hlt)
      have HK : Hid ((l.take k).length = k) := by unfold Hid; rw [List.length_take, HL.out]; omega
      have HB := hown.blk
      have zO := KO.lt
      clear hc c1 c2
      generalize nthP l k = pp at *
      obtain ⟨p1, p2⟩ := pp
      generalize l.take k = tk at *
      obtain ⟨va, vc, rfl, hisP⟩ := hown.isP
      have o3 : wr.cell? ⟨w.heap.size + 1 + 1, 3, none⟩ = some (.slice va tk.length vc) := KO.cell 3
      have HG : Hid (∀ w0 w1 : World, w0.grownBy w1 (Value.slice va tk.length vc).ownBlock → w0.heap = (wr.alloc (.cells #[.string (str p1), .string (str p2)] 42)).heap → ∀ B, B < w.heap.size + 1 + 1 + 1 → w1.heap[B]? = wr.heap[B]?) := fun w0 w1 hg hh B hB => by
        have hBw : B < wr.heap.size := by omega
        rw [hg.5 B (by rw [hh]; simp; omega) (fun e => by have := (HB B e.symm).1; omega), hh]
        exact Below.heap_alloc wr _ B hBw
      have HO : Hid (∀ w0 w1 : World, w0.grownBy w1 (Value.slice va tk.length vc).ownBlock → w0.heap = (wr.alloc (.cells #[.string (str p1), .string (str p2)] 42)).heap → Blk w1 (w.heap.size + 1 + 1) 31 [.string m, .string p, .string q, .slice va tk.length vc, .slice ba bn bc] ∧ Blk w1 (w.heap.size + 1) 31 [.string ⟨#[]⟩, .string ⟨#[]⟩, .string ⟨#[]⟩, .slice none 0 0, .slice none 0 0] ∧ Blk w1 w.heap.size 25 [.string m, .string p, .string q, .slice (some ⟨b, off, none⟩) n cap, .slice ba bn bc] ∧ w1.cell? ⟨b, off + k * 2, none⟩ = some (.string (str p1)) ∧ w1.cell? ⟨b, off + k * 2 + 1, none⟩ = some (.string (str p2))) := fun w0 w1 hg hh => by
        have hB := HG.out w0 w1 hg hh
        refine ⟨(hB _ (by omega)).trans KO, (hB _ (by omega)).trans KX, (hB _ (by omega)).trans KR, ?_, ?_⟩
        · exact (World.cell?_of_block (a := ⟨b, off + k * 2, none⟩) (hB b (by omega))).trans g1
        · exact (World.cell?_of_block (a := ⟨b, off + k * 2 + 1, none⟩) (hB b (by omega))).trans g2
      go_wp2
      refine wp_region_noPanic ?_
      refine wp_region_held_drew (S := fun w' => w'.cell? ⟨b, off + k * 2, none⟩ = some (.string (str p1)) ∧ w'.cell? ⟨b, off + k * 2 + 1, none⟩ = some (.string (str p2)) ∧ w'.cell? ⟨w.heap.size, 3, none⟩ = some (.slice (some ⟨b, off, none⟩) n cap)) (by kernel_rfl) ⟨g1, g2, r3⟩ (fun hHeld => ?_)
      refine takeH (some 21) (i := 0) (v := ?_) rfl (by kernel_rfl) (by kernel_rfl) (by kernel_rfl) (fun _ _ _ h => h) (Or.inl ⟨by rfl, ?_⟩) hHeld rfl ?_
      rotate_left
      · intro w hSw; obtain ⟨hS1, hS2, hS3⟩ := hSw; go_simp; with_reducible rfl
      simp only [Act.put, List.setIfInBounds_toArray, List.set_cons_zero, List.set_cons_succ]
      refine takeH (some 23) (i := 2) (v := ?_) rfl (by kernel_rfl) (by kernel_rfl) (by kernel_rfl) (fun _ _ _ h => h) (Or.inl ⟨by rfl, ?_⟩) hHeld rfl ?_
      rotate_left
      · intro w hSw; obtain ⟨hS1, hS2, hS3⟩ := hSw; go_simp; with_reducible rfl
      simp only [Act.put, List.setIfInBounds_toArray, List.set_cons_zero, List.set_cons_succ]
      refine takeH (some 24) (i := 3) (v := ?_) rfl (by kernel_rfl) (by kernel_rfl) (by kernel_rfl) (fun _ _ _ h => h) (Or.inl ⟨by rfl, ?_⟩) hHeld rfl ?_
      rotate_left
      · intro w hSw; obtain ⟨hS1, hS2, hS3⟩ := hSw; go_simp; with_reducible rfl
      simp only [Act.put, List.setIfInBounds_toArray, List.set_cons_zero, List.set_cons_succ]
      refine takeH (some 25) (i := 4) (v := ?_) rfl (by kernel_rfl) (by kernel_rfl) (by kernel_rfl) (fun _ _ _ h => h) (Or.inl ⟨by rfl, ?_⟩) hHeld rfl ?_
      rotate_left
      · intro w hSw; obtain ⟨hS1, hS2, hS3⟩ := hSw; go_simp; with_reducible rfl
      simp only [Act.put, List.setIfInBounds_toArray, List.set_cons_zero, List.set_cons_succ]
      refine takeH (some 26) (i := 5) (v := ?_) rfl (by kernel_rfl) (by kernel_rfl) (by kernel_rfl) (fun _ _ _ h => h) (Or.inl ⟨by rfl, ?_⟩) hHeld rfl ?_
      rotate_left
      · intro w hSw; obtain ⟨hS1, hS2, hS3⟩ := hSw; go_simp; with_reducible rfl
      simp only [Act.put, List.setIfInBounds_toArray, List.set_cons_zero, List.set_cons_succ]
      refine takeH (some 27) (i := 6) (v := ?_) rfl (by kernel_rfl) (by kernel_rfl) (by kernel_rfl) (fun _ _ _ h => h) (Or.inl ⟨by rfl, ?_⟩) hHeld rfl ?_
      rotate_left
      · intro w hSw; obtain ⟨hS1, hS2, hS3⟩ := hSw; go_simp; with_reducible rfl
      simp only [Act.put, List.setIfInBounds_toArray, List.set_cons_zero, List.set_cons_succ]
      refine takeH (some 28) (i := 7) (v := ?_) rfl (by kernel_rfl) (by kernel_rfl) (by kernel_rfl) (fun _ _ _ h => h) (Or.inl ⟨by rfl, ?_⟩) hHeld rfl ?_
      rotate_left
      · intro w hSw; obtain ⟨hS1, hS2, hS3⟩ := hSw; go_simp; with_reducible rfl
      simp only [Act.put, List.setIfInBounds_toArray, List.set_cons_zero, List.set_cons_succ]
      refine takeH (some 29) (i := 8) (v := ?_) rfl (by kernel_rfl) (by kernel_rfl) (by kernel_rfl) (fun _ _ _ h => h) (Or.inl ⟨by rfl, ?_⟩) hHeld rfl ?_
      rotate_left
      · intro w hSw; obtain ⟨hS1, hS2, hS3⟩ := hSw; go_simp; with_reducible rfl
      simp only [Act.put, List.setIfInBounds_toArray, List.set_cons_zero, List.set_cons_succ]
      refine takeH (some 30) (i := 9) (v := ?_) rfl (by kernel_rfl) (by kernel_rfl) (by kernel_rfl) (fun _ _ _ h => h) (Or.inl ⟨by rfl, ?_⟩) hHeld rfl ?_
      rotate_left
      · intro w hSw; obtain ⟨hS1, hS2, hS3⟩ := hSw; go_simp; with_reducible rfl
      simp only [Act.put, List.setIfInBounds_toArray, List.set_cons_zero, List.set_cons_succ]
      refine takeH (some 31) (i := 10) (v := ?_) rfl (by kernel_rfl) (by kernel_rfl) (by kernel_rfl) (fun _ _ _ h => h) (Or.inl ⟨by rfl, ?_⟩) hHeld rfl ?_
      rotate_left
      · intro w hSw; obtain ⟨hS1, hS2, hS3⟩ := hSw; go_simp; with_reducible rfl
      simp only [Act.put, List.setIfInBounds_toArray, List.set_cons_zero, List.set_cons_succ]
      refine takeH (some 32) (i := 11) (v := ?_) rfl (by kernel_rfl) (by kernel_rfl) (by kernel_rfl) (fun _ _ _ h => h) (Or.inl ⟨by rfl, ?_⟩) hHeld rfl ?_
      rotate_left
      · intro w hSw; obtain ⟨hS1, hS2, hS3⟩ := hSw; go_simp; with_reducible rfl
      simp only [Act.put, List.setIfInBounds_toArray, List.set_cons_zero, List.set_cons_succ]
      refine takeH (some 33) (i := 12) (v := ?_) rfl (by kernel_rfl) (by kernel_rfl) (by kernel_rfl) (fun _ _ _ h => h) (Or.inl ⟨by rfl, ?_⟩) hHeld rfl ?_
      rotate_left
      · intro w hSw; obtain ⟨hS1, hS2, hS3⟩ := hSw; go_simp; with_reducible rfl
      simp only [Act.put, List.setIfInBounds_toArray, List.set_cons_zero, List.set_cons_succ]
      refine takeH (some 34) (i := 13) (v := ?_) rfl (by kernel_rfl) (by kernel_rfl) (by kernel_rfl) (fun _ _ _ h => h) (Or.inl ⟨by rfl, ?_⟩) hHeld rfl ?_
      rotate_left
      · intro w hSw; obtain ⟨hS1, hS2, hS3⟩ := hSw; go_simp; with_reducible rfl
      simp only [Act.put, List.setIfInBounds_toArray, List.set_cons_zero, List.set_cons_succ]
      refine takeH (some 35) (i := 14) (v := ?_) rfl (by kernel_rfl) (by kernel_rfl) (by kernel_rfl) (fun _ _ _ h => h) (Or.inl ⟨by rfl, ?_⟩) hHeld rfl ?_
      rotate_left
      · intro w hSw; obtain ⟨hS1, hS2, hS3⟩ := hSw; go_simp; with_reducible rfl
      simp only [Act.put, List.setIfInBounds_toArray, List.set_cons_zero, List.set_cons_succ]
      refine wpAnyH_ready (rs := [1, 15]) (by kernel_rfl) (by simp) ?_
      refine AllReadyH.cons rfl (fun K hK => ?_) (AllReadyH.cons rfl (fun K hK => ?_) AllReadyH.nil)
      · go_simp
        refine hK.out _ _ hHeld (fun hHeld => ?_)
        try simp only [Act.put, List.setIfInBounds_toArray, List.set_cons_zero, List.set_cons_succ]
        refine wpAnyH_ready (rs := [15]) (by kernel_rfl) (by simp) (AllReadyH.cons rfl (fun K hK => ?_) AllReadyH.nil)
        go_simp
        refine hK.out _ _ ⟨(((Below.refl wr.heap.size wr).alloc (Nat.le_refl _) _).cell (p := ⟨b, off + k * 2, none⟩) gz).trans g1, (((Below.refl wr.heap.size wr).alloc (Nat.le_refl _) _).cell (p := ⟨b, off + k * 2 + 1, none⟩) gz).trans g2, (((Below.refl wr.heap.size wr).alloc (Nat.le_refl _) _).cell (p := ⟨w.heap.size, 3, none⟩) KR.lt).trans r3⟩ (fun hHeld => ?_)
        try simp only [Act.put, List.setIfInBounds_toArray, List.set_cons_zero, List.set_cons_succ]
        refine wpAnyH_ready (rs := [16]) (by kernel_rfl) (by simp) (AllReadyH.cons rfl (fun K hK => ?_) AllReadyH.nil)
        refine step_appQ 29 42 Tryz.underlying29 infoH5 _ (by rfl) _ _ (by rfl) (w.heap.size + 1 + 1 + 1) _ tk (by rfl) ((hown.alloc _).heap rfl) wr.heap.size p1 p2 (by rfl) (heap_alloc_new wr _) (by rw [HK.out]; omega) (by have := hbel.size; simp; omega) (wr.heap.size + 1) (by simp) ?_
        intro gg cap2 w1 hown1 hgrow hat hlt1
        obtain ⟨KO1, KX1, KR1, e1, e2⟩ := HO.out _ w1 hgrow rfl
        have o1 : w1.cell? ⟨w.heap.size + 1 + 1, 3, none⟩ = some (.slice va tk.length vc) := KO1.cell 3
        have f1 := KO1.frozen 3
        have r1 : w1.cell? ⟨w.heap.size, 3, none⟩ = some (.slice (some ⟨b, off, none⟩) n cap) := KR1.cell 3
        refine hK.out _ _ ⟨e1, e2, r1⟩ (fun hHeld => ?_)
        simp only [Act.put, List.setIfInBounds_toArray]
        refine takeH (some 38) (i := 17) (v := ?_) rfl (by kernel_rfl) (by kernel_rfl) (by kernel_rfl) (fun _ _ _ h => h) (Or.inl ⟨by rfl, ?_⟩) hHeld rfl ?_
        rotate_left
        · intro w hSw; obtain ⟨hS1, hS2, hS3⟩ := hSw; go_simp; with_reducible rfl
        simp only [Act.put]
        refine wpAnyH_ready (rs := [18]) (by kernel_rfl) (by simp) (AllReadyH.cons rfl (fun K hK => ?_) AllReadyH.nil)
        go_simp
        refine hK.out _ _ ⟨?_, ?_, ?_⟩ (fun _ => ?_)
        · rw [World.cell?_setCell_other _ _ _ _ (fun e' => by injection e' with e1; omega)]; exact e1
        · rw [World.cell?_setCell_other _ _ _ _ (fun e' => by injection e' with e1; omega)]; exact e2
        · rw [World.cell?_setCell_other _ _ _ _ (fun e' => by injection e' with e1; omega)]; exact r1
        try simp only [Act.put, List.setIfInBounds_toArray, List.set_cons_zero, List.set_cons_succ]
        refine wpAnyH_done (by kernel_rfl) ?_ _
        refine NoPanic.normal ?_
        go_wp2
        go_roundw
        case rel => exact ⟨k + 1, _, hlt, by go_num, ⟨Moved.blk (Moved.setAny (w.heap.size + 1 + 1) w1 3 _) KR1 (by omega), Moved.blk (Moved.setAny (w.heap.size + 1 + 1) w1 3 _) KX1 (by omega), KO1.set 3 _, by rw [HT.out]; exact hown1.moved (Moved.setAny (w.heap.size + 1 + 1) w1 3 _) (by omega), (((hbel.drew).alloc hbel.size _).grown hgrow (by have := hbel.size; simp; omega) (fun j hj => by have := (HB j hj).1; omega)).setCell (p := ⟨w.heap.size + 1 + 1, 3, none⟩) (by show w.heap.size ≤ w.heap.size + 1 + 1; omega) _⟩⟩
        case measure => simp [intOf]; omega
      · go_simp
        refine hK.out _ _ ⟨(((Below.refl wr.heap.size wr).alloc (Nat.le_refl _) _).cell (p := ⟨b, off + k * 2, none⟩) gz).trans g1, (((Below.refl wr.heap.size wr).alloc (Nat.le_refl _) _).cell (p := ⟨b, off + k * 2 + 1, none⟩) gz).trans g2, (((Below.refl wr.heap.size wr).alloc (Nat.le_refl _) _).cell (p := ⟨w.heap.size, 3, none⟩) KR.lt).trans r3⟩ (fun hHeld => ?_)
        try simp only [Act.put, List.setIfInBounds_toArray, List.set_cons_zero, List.set_cons_succ]
        refine wpAnyH_ready (rs := [1]) (by kernel_rfl) (by simp) (AllReadyH.cons rfl (fun K hK => ?_) AllReadyH.nil)
        have o3' : (wr.drew.alloc (.cells #[.string (str p1), .string (str p2)] 42)).cell? ⟨w.heap.size + 1 + 1, 3, none⟩ = some (.slice va tk.length vc) := (((Below.refl wr.heap.size wr).alloc (Nat.le_refl _) _).cell (p := ⟨w.heap.size + 1 + 1, 3, none⟩) zO).trans o3
        go_simp
        refine hK.out _ _ hHeld (fun hHeld => ?_)
        try simp only [Act.put, List.setIfInBounds_toArray, List.set_cons_zero, List.set_cons_succ]
        refine wpAnyH_ready (rs := [16]) (by kernel_rfl) (by simp) (AllReadyH.cons rfl (fun K hK => ?_) AllReadyH.nil)
        refine step_appQ 29 42 Tryz.underlying29 infoH5 _ (by rfl) _ _ (by rfl) (w.heap.size + 1 + 1 + 1) _ tk (by rfl) ((hown.alloc _).heap rfl) wr.heap.size p1 p2 (by rfl) (heap_alloc_new wr _) (by rw [HK.out]; omega) (by have := hbel.size; simp; omega) (wr.heap.size + 1) (by simp) ?_
        intro gg cap2 w1 hown1 hgrow hat hlt1
        obtain ⟨KO1, KX1, KR1, e1, e2⟩ := HO.out _ w1 hgrow rfl
        have o1 : w1.cell? ⟨w.heap.size + 1 + 1, 3, none⟩ = some (.slice va tk.length vc) := KO1.cell 3
        have f1 := KO1.frozen 3
        have r1 : w1.cell? ⟨w.heap.size, 3, none⟩ = some (.slice (some ⟨b, off, none⟩) n cap) := KR1.cell 3
        refine hK.out _ _ ⟨e1, e2, r1⟩ (fun hHeld => ?_)
        simp only [Act.put, List.setIfInBounds_toArray]
        refine takeH (some 38) (i := 17) (v := ?_) rfl (by kernel_rfl) (by kernel_rfl) (by kernel_rfl) (fun _ _ _ h => h) (Or.inl ⟨by rfl, ?_⟩) hHeld rfl ?_
        rotate_left
        · intro w hSw; obtain ⟨hS1, hS2, hS3⟩ := hSw; go_simp; with_reducible rfl
        simp only [Act.put]
        refine wpAnyH_ready (rs := [18]) (by kernel_rfl) (by simp) (AllReadyH.cons rfl (fun K hK => ?_) AllReadyH.nil)
        go_simp
        refine hK.out _ _ ⟨?_, ?_, ?_⟩ (fun _ => ?_)
        · rw [World.cell?_setCell_other _ _ _ _ (fun e' => by injection e' with e1; omega)]; exact e1
        · rw [World.cell?_setCell_other _ _ _ _ (fun e' => by injection e' with e1; omega)]; exact e2
        · rw [World.cell?_setCell_other _ _ _ _ (fun e' => by injection e' with e1; omega)]; exact r1
        try simp only [Act.put, List.setIfInBounds_toArray, List.set_cons_zero, List.set_cons_succ]
        refine wpAnyH_done (by kernel_rfl) ?_ _
        refine NoPanic.normal ?_
        go_wp2
        go_roundw
        case rel => exact ⟨k + 1, _, hlt, by go_num, ⟨Moved.blk (Moved.setAny (w.heap.size + 1 + 1) w1 3 _) KR1 (by omega), Moved.blk (Moved.setAny (w.heap.size + 1 + 1) w1 3 _) KX1 (by omega), KO1.set 3 _, by rw [HT.out]; exact hown1.moved (Moved.setAny (w.heap.size + 1 + 1) w1 3 _) (by omega), (((hbel.drew).alloc hbel.size _).grown hgrow (by have := hbel.size; simp; omega) (fun j hj => by have := (HB j hj).1; omega)).setCell (p := ⟨w.heap.size + 1 + 1, 3, none⟩) (by show w.heap.size ≤ w.heap.size + 1 + 1; omega) _⟩⟩
        case measure => simp [intOf]; omega
    · have hge : ¬ (k : Int) < (n : Int) := by omega
      have hkn : k = n := by omega
      subst hkn
      have HT : Hid (l.take k = l) := List.take_of_length_le (by rw [HL.out]; exact Nat.le_refl _)
      obtain ⟨va, vc, rfl, hisP⟩ := hown.isP
      have o0 : wr.cell? ⟨w.heap.size + 1 + 1, 0, none⟩ = some (.string m) := KO.cell 0
      have o1 : wr.cell? ⟨w.heap.size + 1 + 1, 1, none⟩ = some (.string p) := KO.cell 1
      have o2 : wr.cell? ⟨w.heap.size + 1 + 1, 2, none⟩ = some (.string q) := KO.cell 2
      have o3 : wr.cell? ⟨w.heap.size + 1 + 1, 3, none⟩ = some (.slice va (l.take k).length vc) := KO.cell 3
      have o4 : wr.cell? ⟨w.heap.size + 1 + 1, 4, none⟩ = some (.slice ba bn bc) := KO.cell 4
      have c0 : wr.cell? ⟨w.heap.size + 1, 0, none⟩ = some (.string ⟨#[]⟩) := KX.cell 0
      have c1 : wr.cell? ⟨w.heap.size + 1, 1, none⟩ = some (.string ⟨#[]⟩) := KX.cell 1
      have c2 : wr.cell? ⟨w.heap.size + 1, 2, none⟩ = some (.string ⟨#[]⟩) := KX.cell 2
      have c3 : wr.cell? ⟨w.heap.size + 1, 3, none⟩ = some (.slice none 0 0) := KX.cell 3
      have c4 : wr.cell? ⟨w.heap.size + 1, 4, none⟩ = some (.slice none 0 0) := KX.cell 4
      have d0 := KX.frozen 0
      have d1 := KX.frozen 1
      have d2 := KX.frozen 2
      have d3 := KX.frozen 3
      have d4 := KX.frozen 4
      generalize l.take k = tk at *
      go_wp2
      have K3 := (((((KX.set 0 (.string m)).set 1 (.string p)).set 2 (.string q)).set 3 (.slice va tk.length vc)).set 4 (.slice ba bn bc))
      refine bodyPost_ret (results_cellrow (P := Tryz.prog) rfl _ _ (w.heap.size + 1) 31 #[.string m, .string p, .string q, .slice va tk.length vc, .slice ba bn bc] (0, 0) _ rfl K3 Tryz.underlying31 rfl (by kernel_rfl)) rfl ⟨_, rfl, ?_, ?_⟩
      · rw [← HT.out]
        exact ((((((hown.moved (Moved.setAny (w.heap.size + 1) _ 0 _) (by omega)).moved (Moved.setAny (w.heap.size + 1) _ 1 _) (by omega)).moved (Moved.setAny (w.heap.size + 1) _ 2 _) (by omega)).moved (Moved.setAny (w.heap.size + 1) _ 3 _) (by omega)).moved (Moved.setAny (w.heap.size + 1) _ 4 _) (by omega))).base (by omega)
      · exact ((((hbel.setCell (p := ⟨w.heap.size + 1, 0, none⟩) (Nat.le_succ _) _).setCell (p := ⟨w.heap.size + 1, 1, none⟩) (Nat.le_succ _) _).setCell (p := ⟨w.heap.size + 1, 2, none⟩) (Nat.le_succ _) _).setCell (p := ⟨w.heap.size + 1, 3, none⟩) (Nat.le_succ _) _).setCell (p := ⟨w.heap.size + 1, 4, none⟩) (Nat.le_succ _) _
end Go.Proofs.YtgjmaeodgcigdabGreatDoor
namespace Go.Proofs.YtgjmaeodgcigdabGreatDoor
open Go.RowKit

/-- what Attach tells, of a short request, at any time -/
theorem att_any (who sec m p q : List UInt8) (hs : List Pr) (bd : List UInt8) (t : Nat) (zw : who.length ≤ 50000) (zs : sec.length ≤ 100000) (zm : m.length ≤ 30000) (zp : p.length ≤ 30000) (zq : q.length ≤ 30000) (zb : bd.length ≤ 30000) (zh : ∀ i, i < hs.length → (nthP hs i).1.length ≤ 30000 ∧ (nthP hs i).2.length ≤ 30000) :
    ∃ S E, ((E = 0 ∧ IsTime S t) ∨ E = 6) ∧ ∀ (w : World) ha hn hc ba bn bc, IsP w ha hn hc hs → IsB w ba bn bc bd → MxS w →
      Calls Tryz.prog 6 #[.agg #[.string (str m), .string (str p), .string (str q), .slice ha hn hc, .slice ba bn bc], .string (str who), .string (str sec), .int .u64 (t : Int)] w fun e w' =>
        (if attE who sec S E ⟨m, p, q, hs, bd⟩ = 0 then ∃ va vn vc ua un uc, e = .returned (.tuple #[.agg #[.string (str m), .string (str p), .string (str q), .slice va vn vc, .slice ua un uc], .int .i64 0]) ∧ IsP w' va vn vc (attO who sec S E ⟨m, p, q, hs, bd⟩) ∧ IsB w' ua un uc bd
         else e = .returned (.tuple #[rqNone, .int .i64 (attE who sec S E ⟨m, p, q, hs, bd⟩)])) ∧ Below w.heap.size w w' := by
  obtain ⟨S, E, hsh, hc⟩ := show_cod t
  have hE : (E = 0 ∧ IsTime S t) ∨ E = 6 := by
    rcases hsh with ⟨_, _, h⟩ | ⟨_, h1, h2⟩
    · exact .inr h
    · exact .inl ⟨h2, h1⟩
  refine ⟨S, E, hE, fun w ha hn hc' ba bn bc hP hB hm => ?_⟩
  refine codAttach who sec m p q ha hn hc' hs ba bn bc bd t S E w hP hB hm zw zs zm zp zq (by have := hB.len_eq; omega) (fun i hi => (zh i hi).2) (fun i hi => Nat.le_trans (zh i hi).1 (by decide)) (fun h => ?_) hc
  rcases hE with ⟨_, h1⟩ | h1
  · exact h1.length
  · rw [h1] at h; cases h
end Go.Proofs.YtgjmaeodgcigdabGreatDoor
namespace Go.Proofs.YtgjmaeodgcigdabGreatDoor
open Go.RowKit

set_option maxHeartbeats 400000 in
theorem refDays (y m : Nat) (w : World) (hy : y ≤ 10000) :
    Calls Tryz.prog 91 #[.int .i64 (y : Int), .int .i64 (m : Int)] w fun e w' => e = .returned (.int .i64 (dim y m : Int)) ∧ w' = w := by
  by_cases h2 : m = 2
  · subst h2
    have H : Hid (dim y 2 = 28 + lday y) := dim_feb y
    cases hl : leapY y with
    | true =>
      have H2 : Hid (lday y = 1) := by unfold Hid lday; rw [hl]; rfl
      go_enter Tryz.func91, Tryz.ntmps91
      go_wp2_with (go_at_call 141; refine (refLeap y _ hy).mono ?_; rintro e w' ⟨rfl, hww⟩; rw [hww, hl]; clear hww w')
      go_ret
      exact ⟨ret_i (by rw [H.out, H2.out]; rfl), rfl⟩
    | false =>
      have H2 : Hid (lday y = 0) := by unfold Hid lday; rw [hl]; rfl
      go_enter Tryz.func91, Tryz.ntmps91
      go_wp2_with (go_at_call 141; refine (refLeap y _ hy).mono ?_; rintro e w' ⟨rfl, hww⟩; rw [hww, hl]; clear hww w')
      go_ret
      exact ⟨ret_i (by rw [H.out, H2.out]; rfl), rfl⟩
  · by_cases h30 : m = 4 ∨ m = 6 ∨ m = 9 ∨ m = 11
    · have H : Hid (dim y m = 30) := dim_30 y m h30
      clear h2
      rcases h30 with rfl | rfl | rfl | rfl
      all_goals
        go_enter Tryz.func91, Tryz.ntmps91
        go_wp2
        go_ret
        exact ⟨ret_i (by rw [H.out]; rfl), rfl⟩
    · have H : Hid (dim y m = 31) := dim_31 y m (by omega)
      have e2 : ¬ (m : Int) = 2 := by omega
      have e4 : ¬ (m : Int) = 4 := by omega
      have e6 : ¬ (m : Int) = 6 := by omega
      have e9 : ¬ (m : Int) = 9 := by omega
      have e11 : ¬ (m : Int) = 11 := by omega
      clear h2 h30
      go_enter Tryz.func91, Tryz.ntmps91
      go_wp2
      go_ret
      exact ⟨ret_i (by rw [H.out]; rfl), rfl⟩

set_option maxHeartbeats 400000 in
theorem refCivil_out (day : Int) (w : World) (h : day < -719162 ∨ 2932896 < day) :
    Calls Tryz.prog 93 #[.int .i64 day] w fun e w' => e = .returned (.tuple #[.int .i64 0, .int .i64 0, .int .i64 0]) ∧ ∃ q, w' = w.drewN q := by
  by_cases h1 : day < -719162
  · clear h
    go_enter Tryz.func93, Tryz.ntmps93
    go_wp2
    go_ret3
    exact ⟨rfl, 0, rfl⟩
  · have h2 : 2932896 < day := by omega
    clear h
    go_enter Tryz.func93, Tryz.ntmps93
    go_wp2
    go_ret3
    exact ⟨rfl, 0, rfl⟩

set_option maxHeartbeats 1000000 in
theorem refCivil_in (n y m d : Nat) (w : World) (h : IsDate n y m d) :
    Calls Tryz.prog 93 #[.int .i64 ((n : Int) - 719162)] w fun e w' => e = .returned (.tuple #[.int .i64 (y : Int), .int .i64 (m : Int), .int .i64 (d : Int)]) ∧ ∃ q, w' = w.drewN q := by
  have hn : n ≤ 3652058 := h.le
  have H : Hid (IsDate n y m d) := h
  have y1 := h.y1
  have y2 := h.y2
  clear h
  go_enter Tryz.func93, Tryz.ntmps93
  go_wp2
  go_loopw [6, 7] (fun lo hi w' => ∃ a b q : Nat, 1 ≤ a ∧ a ≤ y ∧ y ≤ b ∧ b ≤ 9999 ∧ lo = .int .i64 (a : Int) ∧ hi = .int .i64 (b : Int) ∧ w' = w.drewN q) (fun lo hi _ => (intOf hi).toNat - (intOf lo).toNat)
  case atStart => exact ⟨1, 9999, 0, by omega, by omega, by omega, by omega, rfl, rfl, rfl⟩
  case round =>
    obtain ⟨a, b, q, a1, a2, b1, b2, rfl, rfl, rfl⟩ := hrel
    by_cases hab : a < b
    · obtain ⟨k, hk⟩ : ∃ k : Nat, k = (a + b + 1) / 2 := ⟨_, rfl⟩
      have hk' : ((a : Int) + (b : Int) + 1) / 2 = (k : Int) := by omega
      have k1 : a < k := by omega
      have k2 : k ≤ b := by omega
      clear hk
      by_cases hle : aheadY k ≤ n
      · have hy : k ≤ y := (year_le H.out (by omega)).1 hle
        go_wp2_with (go_at_call 92; (try rw [hk']); refine (refAhead k _ (by omega) (by omega)).mono ?_; rintro e w' ⟨rfl, hww⟩; rw [hww]; clear hww w')
        go_roundw
        case rel => exact ⟨k, b, _, by omega, by omega, by omega, by omega, by go_num, rfl, rfl⟩
        case measure => simp [intOf]; omega
      · have hy : ¬ k ≤ y := fun e => hle ((year_le H.out (by omega)).2 e)
        go_wp2_with (go_at_call 92; (try rw [hk']); refine (refAhead k _ (by omega) (by omega)).mono ?_; rintro e w' ⟨rfl, hww⟩; rw [hww]; clear hww w')
        go_roundw
        case rel => exact ⟨a, k - 1, _, by omega, by omega, by omega, by omega, rfl, by go_num, rfl⟩
        case measure => simp [intOf]; omega
    · have e1 : a = y := by omega
      subst e1
      have hah : aheadY a ≤ n := H.out.inYear.1
      have hah2 : (n : Int) - (aheadY a : Int) = ((n - aheadY a : Nat) : Int) := by omega
      go_wp2_with (go_at_call 92; refine (refAhead a _ (by omega) (by omega)).mono ?_; rintro e w' ⟨rfl, hww⟩; rw [hww]; clear hww w')
      go_loopw [5, 9] (fun nn mm w' => ∃ k j q : Nat, 1 ≤ j ∧ j ≤ m ∧ k ≤ 366 ∧ Hid (k + cumM a j + aheadY a = n) ∧ nn = .int .i64 (k : Int) ∧ mm = .int .i64 (j : Int) ∧ w' = w.drewN q) (fun nn _ _ => (intOf nn).toNat)
      case atStart => exact ⟨n - aheadY a, 1, _, by omega, H.out.m1, by have := H.out.inYear.2; have := lday_le a; omega, by unfold Hid; rw [cumM_one]; omega, by rw [← hah2], rfl, rfl⟩
      case round =>
        obtain ⟨k, j, q2, j1, j2, k2, he, rfl, rfl, rfl⟩ := hrel
        have hd28 := dim_pos a j
        have hd31 := dim_le a j
        have m2 := H.out.m2
        by_cases hj : j < m
        · have hge : dim a j ≤ k := by
            have h1 := cumM_lt a j m j1 hj
            have h2 := H.out.eq
            have h3 := H.out.d1
            have h4 := he.out
            omega
          have he2 : Hid (k - dim a j + cumM a (j + 1) + aheadY a = n) := by unfold Hid; rw [cumM_succ a j j1]; have := he.out; omega
          clear hah hah2
          go_wp2_with (go_at_call 91; refine (refDays a j _ (by omega)).mono ?_; rintro e w' ⟨rfl, hww⟩; rw [hww]; clear hww w')
          go_roundw
          case rel => exact ⟨k - dim a j, j + 1, _, by omega, by omega, by omega, he2, by go_num, by go_num, rfl⟩
          case measure => simp [intOf]; omega
        · have hjm : j = m := by omega
          subst hjm
          have hlt : k < dim a j := by
            have h2 := H.out.eq
            have h3 := H.out.d2
            have h4 := he.out
            omega
          have hd : Hid (k + 1 = d) := by
            have h2 := H.out.eq
            have h4 := he.out
            unfold Hid
            omega
          clear hah hah2
          go_wp2_with (go_at_call 91; refine (refDays a j _ (by omega)).mono ?_; rintro e w' ⟨rfl, hww⟩; rw [hww]; clear hww w')
          go_ret3
          exact ⟨ret3 rfl rfl (by rw [← hd.out]; omega), _, rfl⟩
end Go.Proofs.YtgjmaeodgcigdabGreatDoor
namespace Go.Proofs.YtgjmaeodgcigdabGreatDoor
open Go.RowKit

set_option maxHeartbeats 1000000 in
theorem refDay_out (y m d : Int) (w : World) (h : NoDate y m d) :
    Calls Tryz.prog 51 #[.int .i64 y, .int .i64 m, .int .i64 d] w fun e w' => e = .returned (.tuple #[.int .i64 0, .int .i64 6]) ∧ ∃ q, w' = w.drewN q := by
  have H : Hid (NoDate y m d) := h
  clear h
  by_cases c1 : y < 1
  · go_enter Tryz.func51, Tryz.ntmps51
    go_wp2
    go_ret2
    exact ⟨rfl, 0, rfl⟩
  by_cases c2 : 9999 < y
  · go_enter Tryz.func51, Tryz.ntmps51
    go_wp2
    go_ret2
    exact ⟨rfl, 0, rfl⟩
  by_cases c3 : m < 1
  · go_enter Tryz.func51, Tryz.ntmps51
    go_wp2
    go_ret2
    exact ⟨rfl, 0, rfl⟩
  by_cases c4 : 12 < m
  · go_enter Tryz.func51, Tryz.ntmps51
    go_wp2
    go_ret2
    exact ⟨rfl, 0, rfl⟩
  by_cases c5 : d < 1
  · go_enter Tryz.func51, Tryz.ntmps51
    go_wp2
    go_ret2
    exact ⟨rfl, 0, rfl⟩
  obtain ⟨Y, rfl⟩ : ∃ Y : Nat, y = Y := ⟨y.toNat, by omega⟩
  obtain ⟨M, rfl⟩ : ∃ M : Nat, m = M := ⟨m.toNat, by omega⟩
  have c6 : (dim Y M : Int) < d := by
    have := H.out
    unfold NoDate at this
    rw [Int.toNat_natCast, Int.toNat_natCast] at this
    omega
  go_enter Tryz.func51, Tryz.ntmps51
  go_wp2_with (go_at_call 91; refine (refDays Y M _ (by omega)).mono ?_; rintro e w' ⟨rfl, hww⟩; rw [hww]; clear hww w')
  go_ret2
  exact ⟨rfl, 0, rfl⟩

set_option maxHeartbeats 1000000 in
theorem refDay_in (n y m d : Nat) (w : World) (h : IsDate n y m d) :
    Calls Tryz.prog 51 #[.int .i64 (y : Int), .int .i64 (m : Int), .int .i64 (d : Int)] w fun e w' => e = .returned (.tuple #[.int .i64 ((n : Int) - 719162), .int .i64 0]) ∧ ∃ q, w' = w.drewN q := by
  have H : Hid (IsDate n y m d) := h
  have y1 := h.y1
  have y2 := h.y2
  have m1 := h.m1
  have m2 := h.m2
  have d1 := h.d1
  have d2 := h.d2
  have d3 := dim_le y m
  have a1 : aheadY y ≤ 3652058 := by have := h.inYear.1; have := h.le; omega
  clear h
  go_enter Tryz.func51, Tryz.ntmps51
  go_wp2_with (first | (go_at_call 91; refine (refDays y m _ (by omega)).mono ?_; rintro e w' ⟨rfl, hww⟩; rw [hww]; clear hww w') | (go_at_call 92; refine (refAhead y _ (by omega) (by omega)).mono ?_; rintro e w' ⟨rfl, hww⟩; rw [hww]; clear hww w'))
  go_loopw [8, 9] (fun nn kk w' => ∃ k q : Nat, 1 ≤ k ∧ k ≤ m ∧ cumM y k ≤ 366 ∧ nn = .int .i64 ((aheadY y + cumM y k : Nat) - 719162 : Int) ∧ kk = .int .i64 (k : Int) ∧ w' = w.drewN q) (fun _ kk _ => m - (intOf kk).toNat)
  case atStart => exact ⟨1, 0, by omega, by omega, by rw [cumM_one]; omega, by rw [cumM_one]; go_num, rfl, rfl⟩
  case round =>
    obtain ⟨k, q, k1, k2, hc, rfl, rfl, rfl⟩ := hrel
    by_cases hk : k < m
    · have hs := cumM_succ y k k1
      have hd31 := dim_le y k
      have hc' : cumM y (k + 1) ≤ 366 := by
        have h1 := cumM_mono y (k + 1) 13 (by omega) (by omega)
        rw [cumM_13] at h1
        have := lday_le y
        omega
      have Hs : Hid (cumM y (k + 1) = cumM y k + dim y k) := hs
      have Hc : Hid (cumM y (k + 1) ≤ 366) := hc'
      clear hs hc'
      go_wp2_with (go_at_call 91; refine (refDays y k _ (by omega)).mono ?_; rintro e w' ⟨rfl, hww⟩; rw [hww]; clear hww w')
      go_roundw
      case rel => exact ⟨k + 1, _, by omega, by omega, Hc.out, by rw [Hs.out]; go_num, by go_num, rfl⟩
      case measure => simp [intOf]; omega
    · have ek : k = m := by omega
      subst ek
      have he : Hid ((n : Int) + 1 = aheadY y + cumM y k + d) := by have := H.out.eq; unfold Hid; omega
      go_wp2
      go_ret2
      exact ⟨ret2 (by have := he.out; omega) rfl, _, rfl⟩
end Go.Proofs.YtgjmaeodgcigdabGreatDoor
namespace Go.Proofs.YtgjmaeodgcigdabGreatDoor
open Go.RowKit

theorem conv1 (w : World) (c : UInt8) : (convert 23 9 (.slice (some { block := w.heap.size, off := 0 }) 1 1)).run Tryz.prog (w.alloc (Obj.cells #[.int .u8 (c.toNat : Int)] 5)) = .ok (.string ⟨#[c]⟩) (w.alloc (Obj.cells #[.int .u8 (c.toNat : Int)] 5)) := by
  refine run_convert_bytes_back _ 23 9 5 ⟨w.heap.size, 0, none⟩ 1 [c] Tryz.underlying23 Tryz.underlying5 Tryz.underlying9 fun j hj => ?_
  have : j = 0 := by simpa using hj
  subst this
  simp only [World.cell?, Addr.add, if_true]
  rw [heap_alloc_new]
  rfl

set_option maxHeartbeats 400000 in
theorem refPadN (n k : Nat) (w : World) (hn : n ≤ 1000000) (hk : k ≤ 100) :
    Calls Tryz.prog 94 #[.int .i64 (n : Int), .int .i64 (k : Int)] w fun e w' => e = .returned (.string ⟨(dgs k n).toArray⟩) ∧ Below w.heap.size w w' := by
  go_enter Tryz.func94, Tryz.ntmps94
  go_wp2
  go_loopw [0, 5, 6] (fun nn s i wr => ∃ j q : Nat, j ≤ k ∧ Hid (q = n / 10 ^ j) ∧ q ≤ 1000000 ∧ nn = .int .i64 (q : Int) ∧ s = .string ⟨(dgs j n).toArray⟩ ∧ i = .int .i64 (j : Int) ∧ Below w.heap.size w wr) (fun _ _ i _ => k - (intOf i).toNat)
  case atStart => exact ⟨0, n, by omega, by simp [Hid], hn, rfl, rfl, rfl, Below.refl _ _⟩
  case round =>
    obtain ⟨j, q, hj, hq, hq2, rfl, rfl, rfl, hbel⟩ := hrel
    have HL : (dgs j n).length = j := dgs_length j n
    by_cases hlt : j < k
    · obtain ⟨c, hc⟩ : ∃ c, c = dgt q := ⟨_, rfl⟩
      have hc1 : 48 + (q : Int) % 10 = (c.toNat : Int) := by rw [hc, dgt_toNat]; omega
      have hc2 := wrap8_nat c.toNat c.toNat_lt
      have HS : Hid (dgs (j + 1) n = c :: dgs j n) := by unfold Hid; rw [dgs_cons, ← hq.out, hc]
      have Hq : Hid (q / 10 = n / 10 ^ (j + 1)) := by unfold Hid; rw [Nat.pow_succ, ← Nat.div_div_eq_div_mul, ← hq.out]
      have hcv := conv1 wr c
      clear hc
      go_wp2
      go_roundw
      case rel => exact ⟨j + 1, q / 10, by omega, Hq.out, by omega, by go_num, by rw [HS.out]; exact congrArg Value.string (ByteArray.mk_append_mk [c] (dgs j n)), by go_num, hbel.alloc hbel.size _⟩
      case measure => simp [intOf]; omega
    · go_wp2
      go_ret
      have : j = k := by omega
      subst this
      exact ⟨rfl, hbel⟩
end Go.Proofs.YtgjmaeodgcigdabGreatDoor
