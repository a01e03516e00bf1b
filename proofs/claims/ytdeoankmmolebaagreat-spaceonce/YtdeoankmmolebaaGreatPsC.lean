/- The program's space: least, turn. -/
import Derived.Test.YtdeoankmmolebaaGreatB42
import Derived.Test.YtdeoankmmolebaaGreatB3
namespace Go.Proofs.YtdeoankmmolebaaGreat
open Go.RowKit

/-- what least answers -/
def lsAns (t : Tl) (j : Jl) : Value := if tkK t j = j.p.n then .tuple #[.int .i64 0, .bool false] else .tuple #[.int .i64 (tkK t j : Int), .bool true]
theorem lsNo {t : Tl} {j : Jl} (h : tkK t j = j.p.n) : lsAns t j = .tuple #[.int .i64 0, .bool false] := if_pos h
theorem lsYes {t : Tl} {j : Jl} {x : Nat} (h : tkK t j = x) (hx : x < j.p.n) : lsAns t j = .tuple #[.int .i64 (x : Int), .bool true] := by
  unfold lsAns; rw [if_neg (by omega), h]
theorem TAx.keepS {w w' : World} {T J P base : Nat} {t : Tl} {j : Jl} (h : TAx w T J P base t j) (hk : KeepT [102] w w') : TAx w' T J P base t j := by
  obtain ⟨M, tr, h⟩ := h
  exact ⟨M, tr, ⟨hk.blk h.ja.blk (by decide), h.ja.low, h.ja.d.keep hk (by decide) (by decide) (by decide), h.ja.seq⟩, hk.blk h.blk (by decide), h.low, h.lowM, ownM_keep h.own hk, h.sort, h.ok, h.over⟩
theorem own_isB {W : World} {base n cap : Nat} {A : Option Addr} {l : List UInt8} (h : OwnB W base (.slice A n cap) l) : IsB W A l.length cap l := by
  obtain ⟨a, c, e, hI⟩ := h.isB
  injection e with e1 e2 e3
  subst e1 e3
  exact hI
theorem write_no {t : Tl} {j : Jl} {i : Int} {b : List UInt8} (h : ¬ t.wrE j i b = 0) : t.write j i b = t := if_neg h
set_option maxRecDepth 20000 in
set_option maxHeartbeats 1000000 in
theorem codLeast (w : World) (S J P base m : Nat) (t : Tl) (j : Jl) (T g c : Nat) (h : SpAt w S J P base t j T g c) (hf : Fit t j m) :
    Calls Tryz.prog 60 #[.pointer (some ⟨S, 0, none⟩)] w fun e w' => e = .returned (lsAns t j) ∧ ∃ m, w' = w.drewN m := by
  have hn0 := hf.few.n0
  have hn1 := hf.few.n
  have hl := (map_ok hf.few hf.good.off hf.lens).2
  have HI : Hid (∀ q, IsB (w.drewN q) (some ⟨g, 0, none⟩) 512 c (mapL t j)) := fun q => (h.isB hl).drewN q
  have HC : ∀ q, (w.drewN q).cell? ⟨S, 1, none⟩ = some (.slice (some ⟨g, 0, none⟩) 512 c) ∧ (w.drewN q).cell? ⟨S, 2, none⟩ = some (.int .i64 (j.p.n : Int)) := fun q => ⟨(h.drewN q).blk.cell 1, (h.drewN q).blk.cell 2⟩
  clear h hf hl
  go_enter Tryz.func60, Tryz.ntmps60
  go_wp2_with fail
  go_loopw [4] (fun i wr => ∃ d q : Nat, wr = w.drewN q ∧ 51 + d ≤ j.p.n ∧ i = .int .i64 ((51 + d : Nat) : Int) ∧ Hid (∀ x, 51 ≤ x → x < 51 + d → bitN (mapL t j) x = true)) (fun i _ => j.p.n - (intOf i).toNat)
  case atStart => exact ⟨0, 0, rfl, by omega, rfl, fun x h1 h2 => absurd h2 (by omega)⟩
  case round =>
    obtain ⟨d, q, rfl, hd, rfl, HA⟩ := hrel
    obtain ⟨c1, c2⟩ := HC q
    obtain ⟨x, hx⟩ : ∃ x, x = 51 + d := ⟨_, rfl⟩
    rw [← hx]
    by_cases hlt : x < j.p.n
    · have hlt' : (x : Int) < (j.p.n : Int) := by omega
      have HT := codTaken (some ⟨g, 0, none⟩) 512 c (mapL t j) (x : Int) (w.drewN q) (HI.out q) (by omega) (by omega)
      rw [takenL_nat] at HT
      have HX := mkHid hx
      have hx51 : 51 ≤ x := by omega
      cases hb : bitN (mapL t j) x with
      | true =>
        rw [hb] at HT
        have HA1 : Hid (∀ z, 51 ≤ z → z < 51 + (d + 1) → bitN (mapL t j) z = true) := fun z h1 h2 => by
          by_cases e : z = x
          · rw [e]; exact hb
          · exact HA.out z h1 (by omega)
        clear hb hx
        go_wp2_with (go_at_call 7; refine HT.mono ?_; rintro e y2 ⟨rfl, q2, rfl⟩)
        go_roundw
        case rel => exact ⟨d + 1, q + q2, rfl, by have := HX.out; omega, by rw [HX.out]; go_num, HA1⟩
        case measure => simp [intOf]; omega
      | false =>
        rw [hb] at HT
        have HK : Hid (tkK t j = x) := tkI_hit _ _ x hx51 hlt (fun z h1 h2 => HA.out z h1 (by omega)) hb
        clear hb hx HA HX
        go_wp2_with (go_at_call 7; refine HT.mono ?_; rintro e y2 ⟨rfl, q2, rfl⟩)
        go_ret2
        refine ⟨?_, q + q2, by first | rfl | exact World.drewN_drewN ..⟩
        rw [lsYes HK.out hlt]
        rfl
    · have hlt' : ¬ (x : Int) < (j.p.n : Int) := by omega
      have HK : Hid (tkK t j = j.p.n) := tkI_none _ _ (by omega) (fun z h1 h2 => HA.out z h1 (by omega))
      go_wp2_with fail
      go_ret2
      refine ⟨?_, q, rfl⟩
      rw [lsNo HK.out]
      rfl
set_option maxRecDepth 20000 in
set_option maxHeartbeats 1000000 in
theorem codTurn (w : World) (S J P base m : Nat) (t : Tl) (j : Jl) (k : Nat) (h : SpAx w S J P base t j) (hf : Fit t j m) (hk : k < j.p.n) :
    Calls Tryz.prog 62 #[.pointer (some ⟨S, 0, none⟩), .int .i64 (k : Int)] w fun e w' => e = .returned (.int .i64 (t.wrE j 49 (flipL (mapL t j) k))) ∧ SpAx w' S J P base (t.write j 49 (flipL (mapL t j) k)) j ∧ KS base w w' := by
  obtain ⟨T, g, c, h⟩ := h
  have hn1 := hf.few.n
  have hl := (map_ok hf.few hf.good.off hf.lens).2
  have HH := mkHid h
  have c1 : w.cell? ⟨S, 1, none⟩ = some (.slice (some ⟨g, 0, none⟩) 512 c) := h.blk.cell 1
  have HCl := cClone (some ⟨g, 0, none⟩) 512 c (mapL t j) w (h.isB hl) (by omega)
  have HBt := fun W => codBit k W (by omega)
  have HL := mkHid hl
  clear h hl
  obtain ⟨q, hq⟩ : ∃ q, q = k / 8 := ⟨_, rfl⟩
  obtain ⟨r, hr⟩ : ∃ r, r = k % 8 := ⟨_, rfl⟩
  rw [← hr] at HBt
  have hr8 : r < 8 := by omega
  have hq5 : q < 512 := by omega
  have hq1 : (k : Int).tdiv 8 = (q : Int) := by rw [Int.tdiv_eq_ediv_of_nonneg (by omega)]; omega
  have HF : Hid (flipL (mapL t j) k = (mapL t j).set q (nth (mapL t j) q ^^^ UInt8.ofNat (2 ^ r))) := by unfold Hid flipL; rw [hq, hr]
  have HX : bits BinOp.xor IntKind.u8 ((nth (mapL t j) q).toNat : Int) ((2 ^ r : Nat) : Int) = ((nth (mapL t j) q ^^^ UInt8.ofNat (2 ^ r)).toNat : Int) := by
    rw [← bits_xor8, UInt8.toNat_ofNat', Nat.mod_eq_of_lt (pow8 r hr8)]
  have hwq : IntKind.i64.wrap (q : Int) = (q : Int) := by rw [IntKind.wrap_i64]; omega
  have hq5' : (q : Int) < 512 := by omega
  clear hq hr
  have HWr : ∀ (W : World) (g1 cap1 : Nat), Hid (TAx W T J P base t j) → Hid (OwnB W w.heap.size (.slice (some ⟨g1, 0, none⟩) 512 cap1) (flipL (mapL t j) k)) →
      Calls Tryz.prog 61 #[.pointer (some ⟨T, 0, none⟩), .int .i64 49, .slice (some ⟨g1, 0, none⟩) 512 cap1] W fun e w' => e = .returned (.int .i64 (t.wrE j 49 (flipL (mapL t j) k))) ∧ Hid (TAx w' T J P base (t.write j 49 (flipL (mapL t j) k)) j) ∧ Hid (KP base W w') := fun W g1 cap1 hT hO => by
    have HW := jrnOK.write W T J P base m t j 49 (some ⟨g1, 0, none⟩) cap1 (flipL (mapL t j) k) hT.out hf.len hf.few hf.m (by omega) (by omega) (by rw [flipL_length, HL.out]; omega) (fun W hK _ => own_isB (own_keepO hK hO.out (by decide)))
    rw [flipL_length, HL.out] at HW
    exact HW
  have HFm : Hid (t.wrE j 49 (flipL (mapL t j) k) = 0 → mapL (t.write j 49 (flipL (mapL t j) k)) j = flipL (mapL t j) k) := map_write
  have HFn : Hid (¬ t.wrE j 49 (flipL (mapL t j) k) = 0 → t.write j 49 (flipL (mapL t j) k) = t) := write_no
  generalize flipL (mapL t j) k = F at *
  generalize hT' : t.write j 49 F = t' at *
  generalize t.wrE j 49 F = E at *
  clear hT'
  go_enter Tryz.func62, Tryz.ntmps62
  go_wp2_with fail
  refine HCl.mono ?_
  rintro e w1 ⟨v, rfl, hv, hb1⟩
  have HV := mkHid hv
  have HB1 := mkHid hb1
  clear hv hb1 HCl
  obtain ⟨g1, cap1, rfl, hg1, hg2⟩ := World.ownsRow.form HV.out (by rw [HL.out]; omega)
  rw [HL.out] at HV ⊢
  have c5 := HV.out.cellAt HL.out q hq5
  have f5 := HV.out.frozenAt HL.out q
  have HY := mkHid (HV.out.set HL.out q (nth (mapL t j) q ^^^ UInt8.ofNat (2 ^ r)))
  rw [← HF.out] at HY
  have HBY : Hid (Below w.heap.size w (w1.setCell ⟨g1, q, none⟩ (.int .u8 ((nth (mapL t j) q ^^^ UInt8.ofNat (2 ^ r)).toNat : Int)))) := HB1.out.trans ((Below.refl _ w1).setCell (p := ⟨g1, q, none⟩) hg1 _)
  clear HF HV HB1
  generalize nth (mapL t j) q ^^^ UInt8.ofNat (2 ^ r) = z at *
  generalize ((2 ^ r : Nat) : Int) = br at *
  go_wp2_with fail
  refine wp_region_noPanic ?_
  refine wp_region_held_drew (S := fun _ => True) (by kernel_rfl) trivial (fun hHeld => ?_)
  refine takeH (some 12) (i := 0) (v := ?_) rfl (by kernel_rfl) (by kernel_rfl) (by kernel_rfl) (fun _ _ _ h => h) (Or.inl ⟨by rfl, ?_⟩) hHeld rfl ?_
  rotate_left
  · intro w hSw; go_simp; with_reducible rfl
  (try simp only [Act.put, List.setIfInBounds_toArray, List.set_cons_zero, List.set_cons_succ])
  refine takeH (some 13) (i := 1) (v := ?_) rfl (by kernel_rfl) (by kernel_rfl) (by kernel_rfl) (fun _ _ _ h => h) (Or.inl ⟨by rfl, ?_⟩) hHeld rfl ?_
  rotate_left
  · intro w hSw; go_simp; with_reducible rfl
  (try simp only [Act.put, List.setIfInBounds_toArray, List.set_cons_zero, List.set_cons_succ])
  refine takeH (some 14) (i := 2) (v := .int .i64 (q : Int)) rfl (by kernel_rfl) (by kernel_rfl) (by kernel_rfl) (fun _ _ _ h => h) (Or.inl ⟨by rfl, ?_⟩) hHeld rfl ?_
  · intro w hSw; go_simp
  (try simp only [Act.put, List.setIfInBounds_toArray, List.set_cons_zero, List.set_cons_succ])
  refine takeH (some 15) (i := 3) (v := ?_) rfl (by kernel_rfl) (by kernel_rfl) (by kernel_rfl) (fun _ _ _ h => h) (Or.inl ⟨by rfl, ?_⟩) hHeld rfl ?_
  rotate_left
  · intro w hSw; go_simp; with_reducible rfl
  (try simp only [Act.put, List.setIfInBounds_toArray, List.set_cons_zero, List.set_cons_succ])
  refine takeH (some 17) (i := 5) (v := ?_) rfl (by kernel_rfl) (by kernel_rfl) (by kernel_rfl) (fun _ _ _ h => h) (Or.inl ⟨by rfl, ?_⟩) hHeld rfl ?_
  rotate_left
  · intro w hSw; go_simp; with_reducible rfl
  (try simp only [Act.put, List.setIfInBounds_toArray, List.set_cons_zero, List.set_cons_succ])
  refine wpAnyH_ready (rs := [4, 6]) (by kernel_rfl) (by simp) ?_
  refine AllReadyH.cons rfl (fun K hK => ?_) (AllReadyH.cons rfl (fun K hK => ?_) AllReadyH.nil)
  · skip
    go_simp
    refine hK.out _ _ trivial (fun hHeld => ?_)
    (try simp only [Act.put, List.setIfInBounds_toArray, List.set_cons_zero, List.set_cons_succ])
    clear hK K
    refine wpAnyH_ready (rs := [6]) (by kernel_rfl) (by simp) (AllReadyH.cons rfl (fun K hK => ?_) AllReadyH.nil)
    go_simp
    go_wp2_with (go_at_call 33; refine (HBt _).mono ?_; rintro e x ⟨rfl, hx⟩; obtain rfl := hx.symm)
    refine hK.out _ _ trivial (fun hHeld => ?_)
    (try simp only [Act.put, List.setIfInBounds_toArray, List.set_cons_zero, List.set_cons_succ])
    clear hK K
    refine takeH (some 19) (i := 7) (v := ?_) rfl (by kernel_rfl) (by kernel_rfl) (by kernel_rfl) (fun _ _ _ h => h) (Or.inl ⟨by rfl, ?_⟩) hHeld rfl ?_
    rotate_left
    · intro w hSw; go_simp; with_reducible rfl
    (try simp only [Act.put, List.setIfInBounds_toArray, List.set_cons_zero, List.set_cons_succ])
    refine takeH (some 20) (i := 8) (v := ?_) rfl (by kernel_rfl) (by kernel_rfl) (by kernel_rfl) (fun _ _ _ h => h) (Or.inl ⟨by rfl, ?_⟩) hHeld rfl ?_
    rotate_left
    · intro w hSw; go_simp; with_reducible rfl
    (try simp only [Act.put, List.setIfInBounds_toArray, List.set_cons_zero, List.set_cons_succ])
    refine wpAnyH_ready (rs := [9]) (by kernel_rfl) (by simp) (AllReadyH.cons rfl (fun K hK => ?_) AllReadyH.nil)
    go_simp
    refine hK.out _ _ trivial (fun hHeld => ?_)
    (try simp only [Act.put, List.setIfInBounds_toArray, List.set_cons_zero, List.set_cons_succ])
    clear hK K
    refine wpAnyH_done (by kernel_rfl) ?_ _
    refine NoPanic.normal ?_
    have HO : Hid (OwnB (w1.setCell ⟨g1, q, none⟩ (.int .u8 (z.toNat : Int))).drew w.heap.size (.slice (some ⟨g1, 0, none⟩) 512 cap1) (F)) := HY.out.heap rfl
    have HB : Hid (Below w.heap.size w (w1.setCell ⟨g1, q, none⟩ (.int .u8 (z.toNat : Int))).drew) := HBY.out.drew
    clear HY HBY HX c5 f5
    generalize (w1.setCell ⟨g1, q, none⟩ (.int .u8 (z.toNat : Int))).drew = Y at *
    have HS := mkHid (HH.out.on HB.out)
    have c0 : Y.cell? ⟨S, 0, none⟩ = some (.pointer (some ⟨T, 0, none⟩)) := HS.out.blk.cell 0
    have HW := HWr Y g1 cap1 (mkHid HS.out.ta) HO
    have HLo := mkHid HS.out.ta.lo
    have HLw := mkHid HH.out.ta.lo
    go_wp2_with fail
    refine HW.mono ?_
    rintro e y2 ⟨rfl, HT2, HK2⟩
    have HB2 := mkHid (HK2.out.o.blk HS.out.blk (by decide))
    have d1 : y2.cell? ⟨S, 1, none⟩ = some (.slice (some ⟨g, 0, none⟩) 512 c) := HB2.out.cell 1
    have f1 : y2.frozen? ⟨S, 1, none⟩ = false := HB2.out.frozen 1
    clear HW c0
    by_cases hz : E = 0
    · subst hz
      go_wp2_with fail
      go_ret
      have hKT : KeepT [102] y2 (y2.setCell ⟨S, 1, none⟩ (.slice (some ⟨g1, 0, none⟩) 512 cap1)) := (KeepT.refl _ _).set HB2.out (by decide) 1 _
      refine ⟨rfl, ⟨T, g1, cap1, HT2.out.keepS hKT, HB2.out.set 1 _, HS.out.low, ?_⟩, ?_⟩
      · rw [HFm.out (by first | rfl | trivial)]
        exact own_keepO (KeepO.ofT (us := [5]) hKT (by decide)) (own_base (own_keepO HK2.out.o HO.out (by decide)) HLw.out) (by decide)
      · exact (KS.of_below HB.out HLw.out).trans ((KS.ofP HK2.out).trans ⟨KeepO.ofT hKT (by decide), (Below.refl _ _).setCell (p := ⟨S, 1, none⟩) HS.out.low _⟩)
    · go_wp2_with fail
      go_ret
      have e1 := HFn.out hz
      subst e1
      exact ⟨rfl, ⟨T, g, c, HS.out.wrote HT2.out HK2.out rfl⟩, (KS.of_below HB.out HLw.out).trans (KS.ofP HK2.out)⟩
  · skip
    go_simp
    go_wp2_with (go_at_call 33; refine (HBt _).mono ?_; rintro e x ⟨rfl, hx⟩; obtain rfl := hx.symm)
    refine hK.out _ _ trivial (fun hHeld => ?_)
    (try simp only [Act.put, List.setIfInBounds_toArray, List.set_cons_zero, List.set_cons_succ])
    clear hK K
    refine wpAnyH_ready (rs := [4]) (by kernel_rfl) (by simp) (AllReadyH.cons rfl (fun K hK => ?_) AllReadyH.nil)
    go_simp
    refine hK.out _ _ trivial (fun hHeld => ?_)
    (try simp only [Act.put, List.setIfInBounds_toArray, List.set_cons_zero, List.set_cons_succ])
    clear hK K
    refine takeH (some 19) (i := 7) (v := ?_) rfl (by kernel_rfl) (by kernel_rfl) (by kernel_rfl) (fun _ _ _ h => h) (Or.inl ⟨by rfl, ?_⟩) hHeld rfl ?_
    rotate_left
    · intro w hSw; go_simp; with_reducible rfl
    (try simp only [Act.put, List.setIfInBounds_toArray, List.set_cons_zero, List.set_cons_succ])
    refine takeH (some 20) (i := 8) (v := ?_) rfl (by kernel_rfl) (by kernel_rfl) (by kernel_rfl) (fun _ _ _ h => h) (Or.inl ⟨by rfl, ?_⟩) hHeld rfl ?_
    rotate_left
    · intro w hSw; go_simp; with_reducible rfl
    (try simp only [Act.put, List.setIfInBounds_toArray, List.set_cons_zero, List.set_cons_succ])
    refine wpAnyH_ready (rs := [9]) (by kernel_rfl) (by simp) (AllReadyH.cons rfl (fun K hK => ?_) AllReadyH.nil)
    go_simp
    refine hK.out _ _ trivial (fun hHeld => ?_)
    (try simp only [Act.put, List.setIfInBounds_toArray, List.set_cons_zero, List.set_cons_succ])
    clear hK K
    refine wpAnyH_done (by kernel_rfl) ?_ _
    refine NoPanic.normal ?_
    have HO : Hid (OwnB (w1.setCell ⟨g1, q, none⟩ (.int .u8 (z.toNat : Int))).drew w.heap.size (.slice (some ⟨g1, 0, none⟩) 512 cap1) (F)) := HY.out.heap rfl
    have HB : Hid (Below w.heap.size w (w1.setCell ⟨g1, q, none⟩ (.int .u8 (z.toNat : Int))).drew) := HBY.out.drew
    clear HY HBY HX c5 f5
    generalize (w1.setCell ⟨g1, q, none⟩ (.int .u8 (z.toNat : Int))).drew = Y at *
    have HS := mkHid (HH.out.on HB.out)
    have c0 : Y.cell? ⟨S, 0, none⟩ = some (.pointer (some ⟨T, 0, none⟩)) := HS.out.blk.cell 0
    have HW := HWr Y g1 cap1 (mkHid HS.out.ta) HO
    have HLo := mkHid HS.out.ta.lo
    have HLw := mkHid HH.out.ta.lo
    go_wp2_with fail
    refine HW.mono ?_
    rintro e y2 ⟨rfl, HT2, HK2⟩
    have HB2 := mkHid (HK2.out.o.blk HS.out.blk (by decide))
    have d1 : y2.cell? ⟨S, 1, none⟩ = some (.slice (some ⟨g, 0, none⟩) 512 c) := HB2.out.cell 1
    have f1 : y2.frozen? ⟨S, 1, none⟩ = false := HB2.out.frozen 1
    clear HW c0
    by_cases hz : E = 0
    · subst hz
      go_wp2_with fail
      go_ret
      have hKT : KeepT [102] y2 (y2.setCell ⟨S, 1, none⟩ (.slice (some ⟨g1, 0, none⟩) 512 cap1)) := (KeepT.refl _ _).set HB2.out (by decide) 1 _
      refine ⟨rfl, ⟨T, g1, cap1, HT2.out.keepS hKT, HB2.out.set 1 _, HS.out.low, ?_⟩, ?_⟩
      · rw [HFm.out (by first | rfl | trivial)]
        exact own_keepO (KeepO.ofT (us := [5]) hKT (by decide)) (own_base (own_keepO HK2.out.o HO.out (by decide)) HLw.out) (by decide)
      · exact (KS.of_below HB.out HLw.out).trans ((KS.ofP HK2.out).trans ⟨KeepO.ofT hKT (by decide), (Below.refl _ _).setCell (p := ⟨S, 1, none⟩) HS.out.low _⟩)
    · go_wp2_with fail
      go_ret
      have e1 := HFn.out hz
      subst e1
      exact ⟨rfl, ⟨T, g, c, HS.out.wrote HT2.out HK2.out rfl⟩, (KS.of_below HB.out HLw.out).trans (KS.ofP HK2.out)⟩
end Go.Proofs.YtdeoankmmolebaaGreat
