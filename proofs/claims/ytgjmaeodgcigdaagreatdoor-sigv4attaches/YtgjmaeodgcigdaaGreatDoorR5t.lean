/- The statements' Own: a request as the program's. -/
import Derived.Test.YtgjmaeodgcigdaaGreatDoorB40
import Derived.Test.YtgjmaeodgcigdaaGreatDoorB19
import Derived.Test.YtgjmaeodgcigdaaGreatDoorB5
namespace Go.Proofs.YtgjmaeodgcigdaaGreatDoor
open Go.RowKit

/-- the rounds of Own -/
structure OwnSt (w : World) (ml pl ql : Value) (bd sl : Value) (l : List Pr) (k : Nat) (v : Value) (wr : World) : Prop where
  r : Blk wr w.heap.size 25 [ml, pl, ql, sl, bd]
  x : Blk wr (w.heap.size + 1) 34 [.string ⟨#[]⟩, .string ⟨#[]⟩, .string ⟨#[]⟩, .slice none 0 0, .slice none 0 0]
  o : Blk wr (w.heap.size + 1 + 1) 34 [ml, pl, ql, v, bd]
  own : OwnP 68 wr (w.heap.size + 1 + 1 + 1) v (l.take k)
  bel : Below w.heap.size w wr

set_option maxRecDepth 20000 in
set_option maxHeartbeats 4000000 in
theorem lawOwn5 (m p q : ByteArray) (ba : Option Addr) (bn bc : Nat) (a : Option Addr) (n cap : Nat) (l : List Pr) (w : World) (h : IsP w a n cap l) (hn : n ≤ 4398046510976) :
    Calls Tryz.prog 12 #[.agg #[.string m, .string p, .string q, .slice a n cap, .slice ba bn bc]] w fun e w' => ∃ v, e = .returned (.agg #[.string m, .string p, .string q, v, .slice ba bn bc]) ∧ OwnP 68 w' w.heap.size v l ∧ Below w.heap.size w w' := by
  have HL : Hid (l.length = n) := h.len_eq
  have H : Hid (IsP w a n cap l) := h
  clear h
  go_enter Tryz.func12, Tryz.ntmps12
  go_wp2
  go_loopw [4] (fun i wr => ∃ (k : Nat) (v : Value), k ≤ n ∧ i = .int .i64 k ∧ OwnSt w (.string m) (.string p) (.string q) (.slice ba bn bc) (.slice a n cap) l k v wr) (fun i _ => n - (intOf i).toNat)
  case atStart =>
    refine ⟨0, .slice none 0 0, Nat.zero_le _, rfl, ?_, ?_, ?_, OwnP.nil _ _ _, (((Below.refl _ w).alloc (Nat.le_refl _) _).alloc (by simp) _).alloc (by simp; omega) _⟩
    · exact ((Blk.newAt w w.heap.size _ _ _ rfl rfl).alloc _).alloc _
    · exact (Blk.newAt _ (w.heap.size + 1) _ _ _ (by simp) rfl).alloc _
    · exact Blk.newAt _ (w.heap.size + 1 + 1) _ _ _ (by simp) rfl
  case round =>
    obtain ⟨k, v, hk, rfl, ⟨KR, KX, KO, hown, hbel⟩⟩ := hrel
    have r3 : wr.cell? ⟨w.heap.size, 3, none⟩ = some (.slice a n cap) := KR.cell 3
    by_cases hlt : k < n
    · obtain ⟨b, off, rfl, hc⟩ := H.out.cells (by omega)
      obtain ⟨c1, c2⟩ := hc k hlt
      have gb : b < w.heap.size := cell_lt c1
      have g1 := (hbel.cell (p := ⟨b, off + k * 2, none⟩) gb).trans c1
      have g2 := (hbel.cell (p := ⟨b, off + k * 2 + 1, none⟩) gb).trans c2
      have gz : b < wr.heap.size := Nat.lt_of_lt_of_le gb hbel.size
      have hb0 : (0 : Int) ≤ (k : Int) := by omega
      have hb1 : (k : Int) < (n : Int) := by omega
      have HT : Hid (l.take (k + 1) = l.take k ++ [((nthP l k).1, (nthP l k).2)]) := takeP5 l k (by rw [HL.out]; exact hlt)
      have HK : Hid ((l.take k).length = k) := by unfold Hid; rw [List.length_take, HL.out]; omega
      have HB := hown.blk
      have zO := KO.lt
      clear hc c1 c2
      generalize nthP l k = pp at *
      obtain ⟨p1, p2⟩ := pp
      generalize l.take k = tk at *
      obtain ⟨va, vc, rfl, hisP⟩ := hown.isP
      have o3 : wr.cell? ⟨w.heap.size + 1 + 1, 3, none⟩ = some (.slice va tk.length vc) := KO.cell 3
      have HG : Hid (∀ w0 w1 : World, w0.grownBy w1 (Value.slice va tk.length vc).ownBlock → w0.heap = (wr.alloc (.cells #[.string (str p1), .string (str p2)] 68)).heap → ∀ B, B < w.heap.size + 1 + 1 + 1 → w1.heap[B]? = wr.heap[B]?) := fun w0 w1 hg hh B hB => by
        have hBw : B < wr.heap.size := by omega
        rw [hg.5 B (by rw [hh]; simp; omega) (fun e => by have := (HB B e.symm).1; omega), hh]
        exact Below.heap_alloc wr _ B hBw
      have HO : Hid (∀ w0 w1 : World, w0.grownBy w1 (Value.slice va tk.length vc).ownBlock → w0.heap = (wr.alloc (.cells #[.string (str p1), .string (str p2)] 68)).heap → Blk w1 (w.heap.size + 1 + 1) 34 [.string m, .string p, .string q, .slice va tk.length vc, .slice ba bn bc] ∧ Blk w1 (w.heap.size + 1) 34 [.string ⟨#[]⟩, .string ⟨#[]⟩, .string ⟨#[]⟩, .slice none 0 0, .slice none 0 0] ∧ Blk w1 w.heap.size 25 [.string m, .string p, .string q, .slice (some ⟨b, off, none⟩) n cap, .slice ba bn bc] ∧ w1.cell? ⟨b, off + k * 2, none⟩ = some (.string (str p1)) ∧ w1.cell? ⟨b, off + k * 2 + 1, none⟩ = some (.string (str p2))) := fun w0 w1 hg hh => by
        have hB := HG.out w0 w1 hg hh
        refine ⟨(hB _ (by omega)).trans KO, (hB _ (by omega)).trans KX, (hB _ (by omega)).trans KR, ?_, ?_⟩
        · exact (World.cell?_of_block (a := ⟨b, off + k * 2, none⟩) (hB b (by omega))).trans g1
        · exact (World.cell?_of_block (a := ⟨b, off + k * 2 + 1, none⟩) (hB b (by omega))).trans g2
      go_wp2
      refine wp_region_noPanic ?_
      refine wp_region_held_drew (S := fun w' => w'.cell? ⟨b, off + k * 2, none⟩ = some (.string (str p1)) ∧ w'.cell? ⟨b, off + k * 2 + 1, none⟩ = some (.string (str p2)) ∧ w'.cell? ⟨w.heap.size, 3, none⟩ = some (.slice (some ⟨b, off, none⟩) n cap)) (by kernel_rfl) ⟨g1, g2, r3⟩ (fun hHeld => ?_)
      refine takeH (some 21) (i := 0) (v := ?_) rfl (by kernel_rfl) (by kernel_rfl) (by kernel_rfl) (fun _ _ _ h => h) (Or.inl ⟨by rfl, ?_⟩) hHeld rfl ?_
      rotate_left
      · intro w hSw; obtain ⟨hS1, hS2, hS3⟩ := hSw; go_simp; with_reducible rfl
      simp only [Act.put, List.setIfInBounds_toArray, List.set_cons_zero, List.set_cons_succ]
      refine takeH (some 23) (i := 2) (v := ?_) rfl (by kernel_rfl) (by kernel_rfl) (by kernel_rfl) (fun _ _ _ h => h) (Or.inl ⟨by rfl, ?_⟩) hHeld rfl ?_
      rotate_left
      · intro w hSw; obtain ⟨hS1, hS2, hS3⟩ := hSw; go_simp; with_reducible rfl
      simp only [Act.put, List.setIfInBounds_toArray, List.set_cons_zero, List.set_cons_succ]
      refine takeH (some 24) (i := 3) (v := ?_) rfl (by kernel_rfl) (by kernel_rfl) (by kernel_rfl) (fun _ _ _ h => h) (Or.inl ⟨by rfl, ?_⟩) hHeld rfl ?_
      rotate_left
      · intro w hSw; obtain ⟨hS1, hS2, hS3⟩ := hSw; go_simp; with_reducible rfl
      simp only [Act.put, List.setIfInBounds_toArray, List.set_cons_zero, List.set_cons_succ]
      refine takeH (some 25) (i := 4) (v := ?_) rfl (by kernel_rfl) (by kernel_rfl) (by kernel_rfl) (fun _ _ _ h => h) (Or.inl ⟨by rfl, ?_⟩) hHeld rfl ?_
      rotate_left
      · intro w hSw; obtain ⟨hS1, hS2, hS3⟩ := hSw; go_simp; with_reducible rfl
      simp only [Act.put, List.setIfInBounds_toArray, List.set_cons_zero, List.set_cons_succ]
      refine takeH (some 26) (i := 5) (v := ?_) rfl (by kernel_rfl) (by kernel_rfl) (by kernel_rfl) (fun _ _ _ h => h) (Or.inl ⟨by rfl, ?_⟩) hHeld rfl ?_
      rotate_left
      · intro w hSw; obtain ⟨hS1, hS2, hS3⟩ := hSw; go_simp; with_reducible rfl
      simp only [Act.put, List.setIfInBounds_toArray, List.set_cons_zero, List.set_cons_succ]
      refine takeH (some 27) (i := 6) (v := ?_) rfl (by kernel_rfl) (by kernel_rfl) (by kernel_rfl) (fun _ _ _ h => h) (Or.inl ⟨by rfl, ?_⟩) hHeld rfl ?_
      rotate_left
      · intro w hSw; obtain ⟨hS1, hS2, hS3⟩ := hSw; go_simp; with_reducible rfl
      simp only [Act.put, List.setIfInBounds_toArray, List.set_cons_zero, List.set_cons_succ]
      refine takeH (some 28) (i := 7) (v := ?_) rfl (by kernel_rfl) (by kernel_rfl) (by kernel_rfl) (fun _ _ _ h => h) (Or.inl ⟨by rfl, ?_⟩) hHeld rfl ?_
      rotate_left
      · intro w hSw; obtain ⟨hS1, hS2, hS3⟩ := hSw; go_simp; with_reducible rfl
      simp only [Act.put, List.setIfInBounds_toArray, List.set_cons_zero, List.set_cons_succ]
      refine takeH (some 29) (i := 8) (v := ?_) rfl (by kernel_rfl) (by kernel_rfl) (by kernel_rfl) (fun _ _ _ h => h) (Or.inl ⟨by rfl, ?_⟩) hHeld rfl ?_
      rotate_left
      · intro w hSw; obtain ⟨hS1, hS2, hS3⟩ := hSw; go_simp; with_reducible rfl
      simp only [Act.put, List.setIfInBounds_toArray, List.set_cons_zero, List.set_cons_succ]
      refine takeH (some 30) (i := 9) (v := ?_) rfl (by kernel_rfl) (by kernel_rfl) (by kernel_rfl) (fun _ _ _ h => h) (Or.inl ⟨by rfl, ?_⟩) hHeld rfl ?_
      rotate_left
      · intro w hSw; obtain ⟨hS1, hS2, hS3⟩ := hSw; go_simp; with_reducible rfl
      simp only [Act.put, List.setIfInBounds_toArray, List.set_cons_zero, List.set_cons_succ]
      refine takeH (some 31) (i := 10) (v := ?_) rfl (by kernel_rfl) (by kernel_rfl) (by kernel_rfl) (fun _ _ _ h => h) (Or.inl ⟨by rfl, ?_⟩) hHeld rfl ?_
      rotate_left
      · intro w hSw; obtain ⟨hS1, hS2, hS3⟩ := hSw; go_simp; with_reducible rfl
      simp only [Act.put, List.setIfInBounds_toArray, List.set_cons_zero, List.set_cons_succ]
      refine takeH (some 32) (i := 11) (v := ?_) rfl (by kernel_rfl) (by kernel_rfl) (by kernel_rfl) (fun _ _ _ h => h) (Or.inl ⟨by rfl, ?_⟩) hHeld rfl ?_
      rotate_left
      · intro w hSw; obtain ⟨hS1, hS2, hS3⟩ := hSw; go_simp; with_reducible rfl
      simp only [Act.put, List.setIfInBounds_toArray, List.set_cons_zero, List.set_cons_succ]
      refine takeH (some 33) (i := 12) (v := ?_) rfl (by kernel_rfl) (by kernel_rfl) (by kernel_rfl) (fun _ _ _ h => h) (Or.inl ⟨by rfl, ?_⟩) hHeld rfl ?_
      rotate_left
      · intro w hSw; obtain ⟨hS1, hS2, hS3⟩ := hSw; go_simp; with_reducible rfl
      simp only [Act.put, List.setIfInBounds_toArray, List.set_cons_zero, List.set_cons_succ]
      refine takeH (some 34) (i := 13) (v := ?_) rfl (by kernel_rfl) (by kernel_rfl) (by kernel_rfl) (fun _ _ _ h => h) (Or.inl ⟨by rfl, ?_⟩) hHeld rfl ?_
      rotate_left
      · intro w hSw; obtain ⟨hS1, hS2, hS3⟩ := hSw; go_simp; with_reducible rfl
      simp only [Act.put, List.setIfInBounds_toArray, List.set_cons_zero, List.set_cons_succ]
      refine takeH (some 35) (i := 14) (v := ?_) rfl (by kernel_rfl) (by kernel_rfl) (by kernel_rfl) (fun _ _ _ h => h) (Or.inl ⟨by rfl, ?_⟩) hHeld rfl ?_
      rotate_left
      · intro w hSw; obtain ⟨hS1, hS2, hS3⟩ := hSw; go_simp; with_reducible rfl
      simp only [Act.put, List.setIfInBounds_toArray, List.set_cons_zero, List.set_cons_succ]
      refine wpAnyH_ready (rs := [1, 15]) (by kernel_rfl) (by simp) ?_
      refine AllReadyH.cons rfl (fun K hK => ?_) (AllReadyH.cons rfl (fun K hK => ?_) AllReadyH.nil)
      · go_simp
        refine hK.out _ _ hHeld (fun hHeld => ?_)
        try simp only [Act.put, List.setIfInBounds_toArray, List.set_cons_zero, List.set_cons_succ]
        refine wpAnyH_ready (rs := [15]) (by kernel_rfl) (by simp) (AllReadyH.cons rfl (fun K hK => ?_) AllReadyH.nil)
        go_simp
        refine hK.out _ _ ⟨(((Below.refl wr.heap.size wr).alloc (Nat.le_refl _) _).cell (p := ⟨b, off + k * 2, none⟩) gz).trans g1, (((Below.refl wr.heap.size wr).alloc (Nat.le_refl _) _).cell (p := ⟨b, off + k * 2 + 1, none⟩) gz).trans g2, (((Below.refl wr.heap.size wr).alloc (Nat.le_refl _) _).cell (p := ⟨w.heap.size, 3, none⟩) KR.lt).trans r3⟩ (fun hHeld => ?_)
        try simp only [Act.put, List.setIfInBounds_toArray, List.set_cons_zero, List.set_cons_succ]
        refine wpAnyH_ready (rs := [16]) (by kernel_rfl) (by simp) (AllReadyH.cons rfl (fun K hK => ?_) AllReadyH.nil)
        refine step_appQ 32 68 Tryz.underlying32 infoH5 _ (by rfl) _ _ (by rfl) (w.heap.size + 1 + 1 + 1) _ tk (by rfl) ((hown.alloc _).heap rfl) wr.heap.size p1 p2 (by rfl) (heap_alloc_new wr _) (by rw [HK.out]; omega) (by have := hbel.size; simp; omega) (wr.heap.size + 1) (by simp) ?_
        intro gg cap2 w1 hown1 hgrow hat hlt1
        obtain ⟨KO1, KX1, KR1, e1, e2⟩ := HO.out _ w1 hgrow rfl
        have o1 : w1.cell? ⟨w.heap.size + 1 + 1, 3, none⟩ = some (.slice va tk.length vc) := KO1.cell 3
        have f1 := KO1.frozen 3
        have r1 : w1.cell? ⟨w.heap.size, 3, none⟩ = some (.slice (some ⟨b, off, none⟩) n cap) := KR1.cell 3
        refine hK.out _ _ ⟨e1, e2, r1⟩ (fun hHeld => ?_)
        simp only [Act.put, List.setIfInBounds_toArray]
        refine takeH (some 38) (i := 17) (v := ?_) rfl (by kernel_rfl) (by kernel_rfl) (by kernel_rfl) (fun _ _ _ h => h) (Or.inl ⟨by rfl, ?_⟩) hHeld rfl ?_
        rotate_left
        · intro w hSw; obtain ⟨hS1, hS2, hS3⟩ := hSw; go_simp; with_reducible rfl
        simp only [Act.put]
        refine wpAnyH_ready (rs := [18]) (by kernel_rfl) (by simp) (AllReadyH.cons rfl (fun K hK => ?_) AllReadyH.nil)
        go_simp
        refine hK.out _ _ ⟨?_, ?_, ?_⟩ (fun _ => ?_)
        · rw [World.cell?_setCell_other _ _ _ _ (fun e' => by injection e' with e1; omega)]; exact e1
        · rw [World.cell?_setCell_other _ _ _ _ (fun e' => by injection e' with e1; omega)]; exact e2
        · rw [World.cell?_setCell_other _ _ _ _ (fun e' => by injection e' with e1; omega)]; exact r1
        try simp only [Act.put, List.setIfInBounds_toArray, List.set_cons_zero, List.set_cons_succ]
        refine wpAnyH_done (by kernel_rfl) ?_ _
        refine NoPanic.normal ?_
        go_wp2
        go_roundw
        case rel => exact ⟨k + 1, _, hlt, by go_num, ⟨Moved.blk (Moved.setAny (w.heap.size + 1 + 1) w1 3 _) KR1 (by omega), Moved.blk (Moved.setAny (w.heap.size + 1 + 1) w1 3 _) KX1 (by omega), KO1.set 3 _, by rw [HT.out]; exact hown1.moved (Moved.setAny (w.heap.size + 1 + 1) w1 3 _) (by omega), (((hbel.drew).alloc hbel.size _).grown hgrow (by have := hbel.size; simp; omega) (fun j hj => by have := (HB j hj).1; omega)).setCell (p := ⟨w.heap.size + 1 + 1, 3, none⟩) (by show w.heap.size ≤ w.heap.size + 1 + 1; omega) _⟩⟩
        case measure => simp [intOf]; omega
      · go_simp
        refine hK.out _ _ ⟨(((Below.refl wr.heap.size wr).alloc (Nat.le_refl _) _).cell (p := ⟨b, off + k * 2, none⟩) gz).trans g1, (((Below.refl wr.heap.size wr).alloc (Nat.le_refl _) _).cell (p := ⟨b, off + k * 2 + 1, none⟩) gz).trans g2, (((Below.refl wr.heap.size wr).alloc (Nat.le_refl _) _).cell (p := ⟨w.heap.size, 3, none⟩) KR.lt).trans r3⟩ (fun hHeld => ?_)
        try simp only [Act.put, List.setIfInBounds_toArray, List.set_cons_zero, List.set_cons_succ]
        refine wpAnyH_ready (rs := [1]) (by kernel_rfl) (by simp) (AllReadyH.cons rfl (fun K hK => ?_) AllReadyH.nil)
        have o3' : (wr.drew.alloc (.cells #[.string (str p1), .string (str p2)] 68)).cell? ⟨w.heap.size + 1 + 1, 3, none⟩ = some (.slice va tk.length vc) := (((Below.refl wr.heap.size wr).alloc (Nat.le_refl _) _).cell (p := ⟨w.heap.size + 1 + 1, 3, none⟩) zO).trans o3
        go_simp
        refine hK.out _ _ hHeld (fun hHeld => ?_)
        try simp only [Act.put, List.setIfInBounds_toArray, List.set_cons_zero, List.set_cons_succ]
        refine wpAnyH_ready (rs := [16]) (by kernel_rfl) (by simp) (AllReadyH.cons rfl (fun K hK => ?_) AllReadyH.nil)
        refine step_appQ 32 68 Tryz.underlying32 infoH5 _ (by rfl) _ _ (by rfl) (w.heap.size + 1 + 1 + 1) _ tk (by rfl) ((hown.alloc _).heap rfl) wr.heap.size p1 p2 (by rfl) (heap_alloc_new wr _) (by rw [HK.out]; omega) (by have := hbel.size; simp; omega) (wr.heap.size + 1) (by simp) ?_
        intro gg cap2 w1 hown1 hgrow hat hlt1
        obtain ⟨KO1, KX1, KR1, e1, e2⟩ := HO.out _ w1 hgrow rfl
        have o1 : w1.cell? ⟨w.heap.size + 1 + 1, 3, none⟩ = some (.slice va tk.length vc) := KO1.cell 3
        have f1 := KO1.frozen 3
        have r1 : w1.cell? ⟨w.heap.size, 3, none⟩ = some (.slice (some ⟨b, off, none⟩) n cap) := KR1.cell 3
        refine hK.out _ _ ⟨e1, e2, r1⟩ (fun hHeld => ?_)
        simp only [Act.put, List.setIfInBounds_toArray]
        refine takeH (some 38) (i := 17) (v := ?_) rfl (by kernel_rfl) (by kernel_rfl) (by kernel_rfl) (fun _ _ _ h => h) (Or.inl ⟨by rfl, ?_⟩) hHeld rfl ?_
        rotate_left
        · intro w hSw; obtain ⟨hS1, hS2, hS3⟩ := hSw; go_simp; with_reducible rfl
        simp only [Act.put]
        refine wpAnyH_ready (rs := [18]) (by kernel_rfl) (by simp) (AllReadyH.cons rfl (fun K hK => ?_) AllReadyH.nil)
        go_simp
        refine hK.out _ _ ⟨?_, ?_, ?_⟩ (fun _ => ?_)
        · rw [World.cell?_setCell_other _ _ _ _ (fun e' => by injection e' with e1; omega)]; exact e1
        · rw [World.cell?_setCell_other _ _ _ _ (fun e' => by injection e' with e1; omega)]; exact e2
        · rw [World.cell?_setCell_other _ _ _ _ (fun e' => by injection e' with e1; omega)]; exact r1
        try simp only [Act.put, List.setIfInBounds_toArray, List.set_cons_zero, List.set_cons_succ]
        refine wpAnyH_done (by kernel_rfl) ?_ _
        refine NoPanic.normal ?_
        go_wp2
        go_roundw
        case rel => exact ⟨k + 1, _, hlt, by go_num, ⟨Moved.blk (Moved.setAny (w.heap.size + 1 + 1) w1 3 _) KR1 (by omega), Moved.blk (Moved.setAny (w.heap.size + 1 + 1) w1 3 _) KX1 (by omega), KO1.set 3 _, by rw [HT.out]; exact hown1.moved (Moved.setAny (w.heap.size + 1 + 1) w1 3 _) (by omega), (((hbel.drew).alloc hbel.size _).grown hgrow (by have := hbel.size; simp; omega) (fun j hj => by have := (HB j hj).1; omega)).setCell (p := ⟨w.heap.size + 1 + 1, 3, none⟩) (by show w.heap.size ≤ w.heap.size + 1 + 1; omega) _⟩⟩
        case measure => simp [intOf]; omega
    · have hge : ¬ (k : Int) < (n : Int) := by omega
      have hkn : k = n := by omega
      subst hkn
      have HT : Hid (l.take k = l) := List.take_of_length_le (by rw [HL.out]; exact Nat.le_refl _)
      obtain ⟨va, vc, rfl, hisP⟩ := hown.isP
      have o0 : wr.cell? ⟨w.heap.size + 1 + 1, 0, none⟩ = some (.string m) := KO.cell 0
      have o1 : wr.cell? ⟨w.heap.size + 1 + 1, 1, none⟩ = some (.string p) := KO.cell 1
      have o2 : wr.cell? ⟨w.heap.size + 1 + 1, 2, none⟩ = some (.string q) := KO.cell 2
      have o3 : wr.cell? ⟨w.heap.size + 1 + 1, 3, none⟩ = some (.slice va (l.take k).length vc) := KO.cell 3
      have o4 : wr.cell? ⟨w.heap.size + 1 + 1, 4, none⟩ = some (.slice ba bn bc) := KO.cell 4
      have c0 : wr.cell? ⟨w.heap.size + 1, 0, none⟩ = some (.string ⟨#[]⟩) := KX.cell 0
      have c1 : wr.cell? ⟨w.heap.size + 1, 1, none⟩ = some (.string ⟨#[]⟩) := KX.cell 1
      have c2 : wr.cell? ⟨w.heap.size + 1, 2, none⟩ = some (.string ⟨#[]⟩) := KX.cell 2
      have c3 : wr.cell? ⟨w.heap.size + 1, 3, none⟩ = some (.slice none 0 0) := KX.cell 3
      have c4 : wr.cell? ⟨w.heap.size + 1, 4, none⟩ = some (.slice none 0 0) := KX.cell 4
      have d0 := KX.frozen 0
      have d1 := KX.frozen 1
      have d2 := KX.frozen 2
      have d3 := KX.frozen 3
      have d4 := KX.frozen 4
      generalize l.take k = tk at *
      go_wp2
      have K3 := (((((KX.set 0 (.string m)).set 1 (.string p)).set 2 (.string q)).set 3 (.slice va tk.length vc)).set 4 (.slice ba bn bc))
      refine bodyPost_ret (results_cellrow (P := Tryz.prog) rfl _ _ (w.heap.size + 1) 34 #[.string m, .string p, .string q, .slice va tk.length vc, .slice ba bn bc] (0, 0) _ rfl K3 Tryz.underlying34 rfl (by kernel_rfl)) rfl ⟨_, rfl, ?_, ?_⟩
      · rw [← HT.out]
        exact ((((((hown.moved (Moved.setAny (w.heap.size + 1) _ 0 _) (by omega)).moved (Moved.setAny (w.heap.size + 1) _ 1 _) (by omega)).moved (Moved.setAny (w.heap.size + 1) _ 2 _) (by omega)).moved (Moved.setAny (w.heap.size + 1) _ 3 _) (by omega)).moved (Moved.setAny (w.heap.size + 1) _ 4 _) (by omega))).base (by omega)
      · exact ((((hbel.setCell (p := ⟨w.heap.size + 1, 0, none⟩) (Nat.le_succ _) _).setCell (p := ⟨w.heap.size + 1, 1, none⟩) (Nat.le_succ _) _).setCell (p := ⟨w.heap.size + 1, 2, none⟩) (Nat.le_succ _) _).setCell (p := ⟨w.heap.size + 1, 3, none⟩) (Nat.le_succ _) _).setCell (p := ⟨w.heap.size + 1, 4, none⟩) (Nat.le_succ _) _
end Go.Proofs.YtgjmaeodgcigdaaGreatDoor
