/- The document's transaction of space: how it stands, and its small calls. · What the document's Free answers, and its set. · What the document's set leaves. · What the document's Give leaves. -/
import Derived.Test.YtdeoankmmolebaaGreatB39
namespace Go.Proofs.YtdeoankmmolebaaGreat
open Go.RowKit

/-- what a call of the document's leaves alone -/
structure KC (base : Nat) (w w' : World) : Prop where
  t : KeepT CT w w'
  b : Below base w w'
theorem KC.of_below {base : Nat} {w w' : World} (h : Below w.heap.size w w') (hb : base ≤ w.heap.size) : KC base w w' := ⟨KeepT.of_below h, h.mono hb⟩
theorem KC.trans {base : Nat} {a b c : World} (h : KC base a b) (k : KC base b c) : KC base a c := ⟨h.t.trans k.t, h.b.trans k.b⟩
abbrev U11 : List TypeId := [82, 98, 105, 96, 5, 4, 47, 107, 3]
/-- what a call of the program's space leaves alone -/
structure KS (base : Nat) (w w' : World) : Prop where
  o : KeepO U11 w w'
  b : Below base w w'
theorem KS.trans {base : Nat} {a b c : World} (h : KS base a b) (k : KS base b c) : KS base a c := ⟨h.o.trans k.o, h.b.trans k.b⟩
theorem KS.of_below {base : Nat} {w w' : World} (h : Below w.heap.size w w') (hb : base ≤ w.heap.size) : KS base w w' := ⟨KeepO.of_below h, h.mono hb⟩
theorem KS.ofP {base : Nat} {w w' : World} (h : KP base w w') : KS base w w' := ⟨h.o.less (by decide), h.b⟩
theorem KQ.ofS {base : Nat} {w w' : World} (h : KS base w w') : KQ base w w' := ⟨h.o.less (by decide), h.b⟩
theorem RefT.keepS {w w' : World} {U K D base m : Nat} {vL : Value} {ls : List Wg} {t : Tl} {j : Jl} (h : RefT w U K D base m vL ls t j) (hk : KS base w w') : RefT w' U K D base m vL ls t j :=
  { h with rt := ⟨hk.o.blk h.rt.blk (by decide), h.rt.gs.keepO hk.o (by decide) (by decide)⟩, rj := hk.o.blk h.rj (by decide), rk := h.rk.keepO hk.o (by decide) (by decide) (by decide) }
/-- the map -/
def mapL (t : Tl) (j : Jl) : List UInt8 := t.rdB j 49
structure RefS (w : World) (R U K D base m : Nat) (t : Tl) (j : Jl) : Prop where
  blk : Blk w R 107 [.pointer (some ⟨U, 0, none⟩)]
  low : base ≤ R
  rt : ∃ vL ls, RefT w U K D base m vL ls t j
  lens : ∀ g ∈ t.l, g.2.length = 512
theorem RefS.on {w w' : World} {R U K D base m : Nat} {t : Tl} {j : Jl} (h : RefS w R U K D base m t j) (hb : Below w.heap.size w w') : RefS w' R U K D base m t j := by
  obtain ⟨vL, ls, hr⟩ := h.rt
  exact ⟨h.blk.on hb, h.low, ⟨vL, ls, hr.on hb⟩, h.lens⟩
theorem RefS.keepS {w w' : World} {R U K D base m : Nat} {t : Tl} {j : Jl} (h : RefS w R U K D base m t j) (hk : KS base w w') : RefS w' R U K D base m t j := by
  obtain ⟨vL, ls, hr⟩ := h.rt
  exact ⟨hk.o.blk h.blk (by decide), h.low, ⟨vL, ls, hr.keepS hk⟩, h.lens⟩
theorem RefS.few {w : World} {R U K D base m : Nat} {t : Tl} {j : Jl} (h : RefS w R U K D base m t j) : FewM j.p m := by obtain ⟨_, _, hr⟩ := h.rt; exact hr.few
theorem RefS.len {w : World} {R U K D base m : Nat} {t : Tl} {j : Jl} (h : RefS w R U K D base m t j) : t.l.length ≤ 48 := by obtain ⟨_, _, hr⟩ := h.rt; exact hr.len
theorem RefS.lo {w : World} {R U K D base m : Nat} {t : Tl} {j : Jl} (h : RefS w R U K D base m t j) : base ≤ w.heap.size := by obtain ⟨_, _, hr⟩ := h.rt; exact hr.low
theorem RefS.seq {w : World} {R U K D base m : Nat} {t : Tl} {j : Jl} (h : RefS w R U K D base m t j) : j.seq < 18446744073709551616 := by obtain ⟨_, _, hr⟩ := h.rt; exact hr.seq
theorem find_512 {l : Qs} (h : ∀ g ∈ l, g.2.length = 512) {i : Int} {b : List UInt8} (hb : Tl.find l i = some b) : b.length = 512 := by
  unfold Tl.find at hb
  obtain ⟨g, hg, rfl⟩ := Option.map_eq_some_iff.1 hb
  exact h g (List.mem_of_find?_eq_some hg)
/-- the map can be read while the disk is up -/
theorem map_ok {t : Tl} {j : Jl} {m : Nat} (hf : FewM j.p m) (ho : j.p.off = false) (hl : ∀ g ∈ t.l, g.2.length = 512) : t.rdE j 49 = 0 ∧ (mapL t j).length = 512 := by
  have hn := hf.n0
  have ha : areaI j.p.n 49 = true := by unfold areaI; exact decide_eq_true (by omega)
  unfold mapL Tl.rdE Tl.rdB
  cases hq : Tl.find t.l 49 with
  | some b => exact ⟨rfl, find_512 hl hq⟩
  | none =>
    have hi : inR j.p.n 49 = true := by unfold inR; exact decide_eq_true (by omega)
    simp only [ha]
    refine ⟨?_, ?_⟩
    · unfold Pl.rdE Pl.stE; rw [ho, hi]; rfl
    · unfold Pl.rdB; rw [ho, hi]; exact put512 _ _ hf.st (fun g hg => (hf.at_ g hg).2) _
theorem tlWrite_512 {t : Tl} {j : Jl} {i : Int} {b : List UInt8} (h : ∀ g ∈ t.l, g.2.length = 512) : ∀ g ∈ (t.write j i b).l, g.2.length = 512 := by
  unfold Tl.write
  split
  · rename_i hz
    intro g hg
    rcases putQ_mem _ _ _ g hg with e | e
    · exact h g e
    · rw [e]
      unfold Tl.wrE at hz
      split at hz
      · cases hz
      · split at hz
        · cases hz
        · split at hz
          · cases hz
          · rename_i hb; exact Classical.not_not.1 hb
  · exact h
set_option maxHeartbeats 1000000 in
theorem refBits11 {w : World} {R U K D base m : Nat} {t : Tl} {j : Jl} (h : RefS w R U K D base m t j) (hm : m ≤ 100000) :
    Calls Tryz.prog 54 #[.pointer (some ⟨R, 0, none⟩)] w fun e w' => ∃ v, e = .returned v ∧ OwnB w' w.heap.size v (mapL t j) ∧ Below w.heap.size w w' := by
  obtain ⟨vL, ls, hr⟩ := h.rt
  have c0 : w.cell? ⟨R, 0, none⟩ = some (.pointer (some ⟨U, 0, none⟩)) := h.blk.cell 0
  have HRd := hr.read hm 49
  clear hr h
  go_enter Tryz.func54, Tryz.ntmps54
  go_wp2_with (go_at_call 84; refine HRd.mono ?_; rintro e y1 ⟨v, rfl, hv, hb⟩)
  go_ret
  exact ⟨_, rfl, hv, hb⟩
/-- Read -/
def spRdE (t : Tl) (j : Jl) (i : Int) : Int := if i < 50 then 50 else t.rdE j i
def spRdB (t : Tl) (j : Jl) (i : Int) : List UInt8 := if i < 50 then [] else t.rdB j i
set_option maxHeartbeats 1000000 in
theorem refSRead11 {w : World} {R U K D base m : Nat} {t : Tl} {j : Jl} (h : RefS w R U K D base m t j) (hm : m ≤ 100000) (i : Int) :
    Calls Tryz.prog 52 #[.pointer (some ⟨R, 0, none⟩), .int .i64 i] w fun e w' => ∃ v, e = .returned (.tuple #[v, .int .i64 (spRdE t j i)]) ∧ OwnB w' w.heap.size v (spRdB t j i) ∧ Below w.heap.size w w' := by
  obtain ⟨vL, ls, hr⟩ := h.rt
  have c0 : w.cell? ⟨R, 0, none⟩ = some (.pointer (some ⟨U, 0, none⟩)) := h.blk.cell 0
  have HRd := hr.read hm i
  clear hr h
  by_cases hi : i < 50
  · have HE : Hid ((50 : Int) = spRdE t j i ∧ [] = spRdB t j i) := by unfold Hid spRdE spRdB; rw [if_pos hi, if_pos hi]; exact ⟨rfl, rfl⟩
    clear HRd
    go_enter Tryz.func52, Tryz.ntmps52
    go_wp2_with fail
    go_ret2
    exact ⟨.slice none 0 0, by rw [← HE.out.1]; rfl, by rw [← HE.out.2]; exact OwnB.nil _ _, Below.refl _ _⟩
  · have HE : Hid (t.rdE j i = spRdE t j i ∧ t.rdB j i = spRdB t j i) := by unfold Hid spRdE spRdB; rw [if_neg hi, if_neg hi]; exact ⟨rfl, rfl⟩
    go_enter Tryz.func52, Tryz.ntmps52
    go_wp2_with (go_at_call 84; refine HRd.mono ?_; rintro e y1 ⟨v, rfl, hv, hb⟩)
    go_ret2
    exact ⟨v, by rw [← HE.out.1]; rfl, by rw [← HE.out.2]; exact hv, hb⟩
/-- Write -/
def spWrE (t : Tl) (j : Jl) (i : Int) (b : List UInt8) : Int := if i < 50 then 50 else t.wrE j i b
def spWr (t : Tl) (j : Jl) (i : Int) (b : List UInt8) : Tl := if i < 50 then t else t.write j i b
theorem RefS.turn {w w' : World} {R U K D base m : Nat} {t : Tl} {j : Jl} (h : RefS w R U K D base m t j) {i : Int} {b : List UInt8} (hr : ∃ vL ls, RefT w' U K D base m vL ls (t.write j i b) j) (hk : KeepT CT w w') : RefS w' R U K D base m (t.write j i b) j := ⟨hk.blk h.blk (by decide), h.low, hr, tlWrite_512 h.lens⟩
theorem RefS.writeV {w : World} {R U K D base m : Nat} {t : Tl} {j : Jl} {base' : Nat} {v : Value} {b : List UInt8} (h : RefS w R U K D base m t j) (i : Int) (hv : OwnB w base' v b) :
    Calls Tryz.prog 82 #[.pointer (some ⟨U, 0, none⟩), .int .i64 i, v] w fun e w' => e = .returned (.int .i64 (t.wrE j i b)) ∧ Hid (RefS w' R U K D base m (t.write j i b) j) ∧ Hid (KC base w w') := by
  obtain ⟨vL, ls, hr⟩ := h.rt
  refine (refWriteV hr i hv).mono ?_
  rintro e w' ⟨h1, h2, h3, h4⟩
  exact ⟨h1, h.turn h2.out h3.out, ⟨h3.out, h4.out⟩⟩
set_option maxHeartbeats 1000000 in
theorem refSWrite11 {w : World} {R U K D base m : Nat} {t : Tl} {j : Jl} (h : RefS w R U K D base m t j) (i : Int) {base' : Nat} {v : Value} {b : List UInt8} (hv : OwnB w base' v b) :
    Calls Tryz.prog 51 #[.pointer (some ⟨R, 0, none⟩), .int .i64 i, v] w fun e w' => e = .returned (.int .i64 (spWrE t j i b)) ∧ Hid (RefS w' R U K D base m (spWr t j i b) j) ∧ Hid (KC base w w') := by
  have c0 : w.cell? ⟨R, 0, none⟩ = some (.pointer (some ⟨U, 0, none⟩)) := h.blk.cell 0
  have HWr := h.writeV i hv
  have HS := mkHid h
  have HL := mkHid h.lo
  obtain ⟨ba, bc, rfl, _⟩ := hv.isB
  clear h hv
  by_cases hi : i < 50
  · have HE : Hid ((50 : Int) = spWrE t j i b ∧ t = spWr t j i b) := by unfold Hid spWrE spWr; rw [if_pos hi, if_pos hi]; exact ⟨rfl, rfl⟩
    clear HWr
    go_enter Tryz.func51, Tryz.ntmps51
    go_wp2_with fail
    go_ret
    exact ⟨ret_i HE.out.1, by rw [← HE.out.2]; exact HS, KC.of_below (Below.refl _ _) HL.out⟩
  · have HE : Hid (t.wrE j i b = spWrE t j i b ∧ t.write j i b = spWr t j i b) := by unfold Hid spWrE spWr; rw [if_neg hi, if_neg hi]; exact ⟨rfl, rfl⟩
    go_enter Tryz.func51, Tryz.ntmps51
    go_wp2_with (go_at_call 82; refine HWr.mono ?_; rintro e y1 ⟨rfl, hs, hk⟩)
    go_ret
    exact ⟨ret_i HE.out.1, by rw [← HE.out.2]; exact hs, hk⟩
set_option maxHeartbeats 1000000 in
/-- Commit -/
theorem refSCommit11 {w : World} {R U K D base m : Nat} {t : Tl} {j : Jl} (h : RefS w R U K D base m t j) (hm : m ≤ 80000) :
    Calls Tryz.prog 53 #[.pointer (some ⟨R, 0, none⟩)] w fun e w' => e = .returned (.int .i64 (cmE t j)) ∧ Hid (RefS w' R U K D base (m + 150) (cmT t j) (cmJ t j)) ∧ Hid (KC base w w') := by
  obtain ⟨vL, ls, hr⟩ := h.rt
  have c0 : w.cell? ⟨R, 0, none⟩ = some (.pointer (some ⟨U, 0, none⟩)) := h.blk.cell 0
  have HC := hr.commit hm
  have HS := mkHid h
  have HL : Hid (∀ g ∈ (cmT t j).l, g.2.length = 512) := by
    have e : (cmT t j).l = t.l := by unfold cmT; split <;> rfl
    unfold Hid; rw [e]; exact h.lens
  clear hr h
  go_enter Tryz.func53, Tryz.ntmps53
  go_wp2_with (go_at_call 85; refine HC.mono ?_; rintro e y1 ⟨rfl, hr1, hk1, hb1⟩)
  go_ret
  exact ⟨rfl, ⟨hk1.blk HS.out.blk (by decide), HS.out.low, ⟨_, _, hr1⟩, HL.out⟩, ⟨hk1, hb1⟩⟩
set_option maxHeartbeats 1000000 in
/-- Left -/
theorem refLeft11 {w : World} {R U K D base m : Nat} {t : Tl} {j : Jl} (h : RefS w R U K D base m t j) :
    Calls Tryz.prog 22 #[.pointer (some ⟨R, 0, none⟩)] w fun e w' => e = .returned (.int .i64 (48 - (t.l.length : Int))) ∧ Below w.heap.size w w' := by
  obtain ⟨vL, ls, hr⟩ := h.rt
  have c0 : w.cell? ⟨R, 0, none⟩ = some (.pointer (some ⟨U, 0, none⟩)) := h.blk.cell 0
  obtain ⟨aL, nl, cL, hnl, rfl, c1⟩ := hr.cellL
  have hl := hr.len
  rw [← hnl] at hl
  have HN := mkHid hnl
  clear hr h hnl
  go_enter Tryz.func22, Tryz.ntmps22
  go_wp2_with fail
  go_ret
  exact ⟨ret_i (by rw [HN.out]), Below.refl _ _⟩
end Go.Proofs.YtdeoankmmolebaaGreat
namespace Go.Proofs.YtdeoankmmolebaaGreat
open Go.RowKit

structure Road (w : World) (R U K D n : Nat) : Prop where
  r : w.cell? ⟨R, 0, none⟩ = some (.pointer (some ⟨U, 0, none⟩))
  u : w.cell? ⟨U, 0, none⟩ = some (.pointer (some ⟨K, 0, none⟩))
  k : w.cell? ⟨K, 0, none⟩ = some (.pointer (some ⟨D, 0, none⟩))
  d : w.cell? ⟨D, 0, none⟩ = some (.int .i64 (n : Int))
theorem RefS.road {w : World} {R U K D base m : Nat} {t : Tl} {j : Jl} (h : RefS w R U K D base m t j) : Road w R U K D j.p.n := by
  obtain ⟨vL, ls, hr⟩ := h.rt
  exact ⟨h.blk.cell 0, hr.rt.blk.cell 0, Blk.cell hr.rj 0, hr.rk.cellN⟩
set_option maxHeartbeats 1000000 in
theorem refFree11 {w : World} {R U K D base m : Nat} {t : Tl} {j : Jl} (h : RefS w R U K D base m t j) (hm : m ≤ 100000) :
    Calls Tryz.prog 20 #[.pointer (some ⟨R, 0, none⟩)] w fun e w' => e = .returned (.int .i64 (freeL (mapL t j) (j.p.n - 51) : Int)) ∧ Below w.heap.size w w' := by
  have HBi := refBits11 h hm
  have HS := mkHid h
  have hn0 := h.few.n0
  have hn1 := h.few.n
  clear h
  go_enter Tryz.func20, Tryz.ntmps20
  go_wp2_with (go_at_call 54; refine HBi.mono ?_; rintro e y1 ⟨v, rfl, hv, hb⟩; have HV := mkHid hv; have HB := mkHid hb; clear hv hb)
  obtain ⟨a, cap, rfl, hI⟩ := HV.out.isB
  have HI := mkHid hI
  clear hI HV HBi
  have HRo : ∀ W, Hid (Below w.heap.size w W) → Road W R U K D j.p.n := fun W hW => (HS.out.on hW.out).road
  have HIo : ∀ W, Hid (Below y1.heap.size y1 W) → IsB W a (mapL t j).length cap (mapL t j) := fun W hW => HI.out.below hW.out rfl
  clear HI
  generalize hM : mapL t j = M at *
  generalize hN : j.p.n = N at *
  have HM := mkHid hM
  have HN := mkHid hN
  clear hM hN
  go_loopw [3, 5] (fun o i wr => ∃ d : Nat, d ≤ N - 51 ∧ i = .int .i64 ((51 + d : Nat) : Int) ∧ o = .int .i64 (freeL M d : Int) ∧ Hid (Below w.heap.size w wr) ∧ Hid (Below y1.heap.size y1 wr)) (fun _ i _ => N - (intOf i).toNat)
  case atStart => exact ⟨0, Nat.zero_le _, rfl, rfl, HB, Below.refl _ _⟩
  case round =>
    obtain ⟨d, hd, rfl, rfl, HB1, HB2⟩ := hrel
    obtain ⟨r0, u0, k0, d0⟩ := HRo _ HB1
    have hfl := freeL_le M d
    obtain ⟨x, hx⟩ : ∃ x, x = 51 + d := ⟨_, rfl⟩
    rw [← hx]
    by_cases hlt : x < N
    · have hlt' : (x : Int) < (N : Int) := by omega
      have HT := refTaken11 a M.length cap M (x : Int) wr (HIo _ HB2) (by omega) (by omega)
      rw [takenL_nat] at HT
      have HF : Hid (freeL M (d + 1) = freeL M d + (if bitN M x = true then 0 else 1)) := by unfold Hid; rw [freeL, ← hx]
      have hd1 : d + 1 ≤ N - 51 := by omega
      have HX := mkHid hx
      clear hx HRo HIo
      cases hb : bitN M x with
      | true =>
        rw [hb] at HT HF
        have HF1 : Hid (freeL M (d + 1) = freeL M d) := HF.out
        clear HF hb
        go_wp2_with (go_at_call 8; refine HT.mono ?_; rintro e y2 ⟨rfl, hb2⟩)
        go_roundw
        case rel => exact ⟨d + 1, hd1, by rw [HX.out]; go_num, by rw [HF1.out], HB1.out.trans (hb2.mono HB1.out.size), HB2.out.trans (hb2.mono HB2.out.size)⟩
        case measure => simp [intOf]; omega
      | false =>
        rw [hb] at HT HF
        have HF1 : Hid (freeL M (d + 1) = freeL M d + 1) := HF.out
        clear HF hb
        go_wp2_with (go_at_call 8; refine HT.mono ?_; rintro e y2 ⟨rfl, hb2⟩)
        go_roundw
        case rel => exact ⟨d + 1, hd1, by rw [HX.out]; go_num, by rw [HF1.out]; go_num, HB1.out.trans (hb2.mono HB1.out.size), HB2.out.trans (hb2.mono HB2.out.size)⟩
        case measure => simp [intOf]; omega
    · have hlt' : ¬ (x : Int) < (N : Int) := by omega
      have HE : Hid (d = N - 51) := by unfold Hid; omega
      clear hx HRo HIo
      go_wp2_with fail
      go_ret
      exact ⟨ret_i (by rw [HM.out, HN.out, HE.out]), HB1.out⟩
end Go.Proofs.YtdeoankmmolebaaGreat
namespace Go.Proofs.YtdeoankmmolebaaGreat
open Go.RowKit

set_option maxHeartbeats 1000000 in
theorem refSet11 {w : World} {R U K D base m : Nat} {t : Tl} {j : Jl} (h : RefS w R U K D base m t j) (hm : m ≤ 100000) (k : Nat) (hk : k < 4096) (hl : (mapL t j).length = 512) :
    Calls Tryz.prog 83 #[.pointer (some ⟨R, 0, none⟩), .int .i64 (k : Int)] w fun e w' => e = .returned (.int .i64 (t.wrE j 49 (flipL (mapL t j) k))) ∧ Hid (RefS w' R U K D base m (t.write j 49 (flipL (mapL t j) k)) j) ∧ Hid (KC base w w') := by
  have HBi := refBits11 h hm
  have HS := mkHid h
  have HLo := mkHid h.lo
  have HL := mkHid hl
  clear h hl
  obtain ⟨q, hq⟩ : ∃ q, q = k / 8 := ⟨_, rfl⟩
  obtain ⟨r, hr⟩ : ∃ r, r = k % 8 := ⟨_, rfl⟩
  have hr8 : r < 8 := by omega
  have hq5 : q < 512 := by omega
  have hq1 : (k : Int).tdiv 8 = (q : Int) := by rw [Int.tdiv_eq_ediv_of_nonneg (by omega)]; omega
  have hr1 : (k : Int).tmod 8 = (r : Int) := by rw [Int.tmod_eq_emod_of_nonneg (by omega)]; omega
  have HF : Hid (flipL (mapL t j) k = (mapL t j).set q (nth (mapL t j) q ^^^ UInt8.ofNat (2 ^ r))) := by unfold Hid flipL; rw [hq, hr]
  clear hq hr
  generalize flipL (mapL t j) k = F at *
  generalize hM : mapL t j = M at *
  clear hM
  go_enter Tryz.func83, Tryz.ntmps83
  go_upto_region 2 with (go_at_call 54; refine HBi.mono ?_; rintro e y1 ⟨v, rfl, hv, hb⟩; have HV := mkHid hv; have HB := mkHid hb; clear hv hb)
  obtain ⟨g, cap, rfl, hg1, hg2⟩ := World.ownsRow.form HV.out (by rw [HL.out]; omega)
  rw [HL.out] at HV ⊢
  have c5 := HV.out.cellAt HL.out q hq5
  have f5 := HV.out.frozenAt HL.out q
  clear HBi
  have HX : bits BinOp.xor IntKind.u8 ((nth M q).toNat : Int) (2 ^ r % 256) = (((nth M q ^^^ UInt8.ofNat (2 ^ r)).toNat : Nat) : Int) := by
    rw [← bits_xor8, UInt8.toNat_ofNat']; simp
  have HY := mkHid (HV.out.set HL.out q (nth M q ^^^ UInt8.ofNat (2 ^ r)))
  rw [← HF.out] at HY
  have HBY : Hid (Below w.heap.size w (y1.setCell ⟨g, q, none⟩ (.int .u8 ((nth M q ^^^ UInt8.ofNat (2 ^ r)).toNat : Int)))) := HB.out.trans ((Below.refl _ y1).setCell (p := ⟨g, q, none⟩) hg1 _)
  clear HF
  generalize nth M q ^^^ UInt8.ofNat (2 ^ r) = z at *
  go_upto_region 3 with fail
  clear c5 f5 HV HX
  generalize y1.setCell ⟨g, q, none⟩ (.int .u8 (z.toNat : Int)) = Y at *
  have HSY := mkHid (HS.out.on HBY.out)
  have c0 : Y.cell? ⟨R, 0, none⟩ = some (.pointer (some ⟨U, 0, none⟩)) := HSY.out.blk.cell 0
  have HW := HSY.out.writeV 49 HY.out
  go_wp2_with (go_at_call 82; refine HW.mono ?_; rintro e y3 ⟨rfl, hs, hk⟩)
  go_ret
  exact ⟨rfl, hs, (KC.of_below HBY.out HLo.out).trans hk.out⟩
end Go.Proofs.YtdeoankmmolebaaGreat
namespace Go.Proofs.YtdeoankmmolebaaGreat
open Go.RowKit

def gvNo (t : Tl) (j : Jl) (i : Int) : Prop := i < 51 ∨ (j.p.n : Int) ≤ i ∨ takenL (mapL t j) i = false
instance (t : Tl) (j : Jl) (i : Int) : Decidable (gvNo t j i) := by unfold gvNo; exact inferInstance
def gvE (t : Tl) (j : Jl) (i : Int) : Int := if gvNo t j i then 50 else t.wrE j 49 (flipL (mapL t j) i.toNat)
def gvT (t : Tl) (j : Jl) (i : Int) : Tl := if gvNo t j i then t else t.write j 49 (flipL (mapL t j) i.toNat)
set_option maxHeartbeats 1000000 in
theorem refGive11 {w : World} {R U K D base m : Nat} {t : Tl} {j : Jl} (h : RefS w R U K D base m t j) (hm : m ≤ 100000) (ho : j.p.off = false) (i : Int) (h0 : -9223372036854775808 ≤ i) (h1 : i ≤ 9223372036854775807) :
    Calls Tryz.prog 49 #[.pointer (some ⟨R, 0, none⟩), .int .i64 i] w fun e w' => e = .returned (.int .i64 (gvE t j i)) ∧ Hid (RefS w' R U K D base m (gvT t j i) j) ∧ Hid (KC base w w') := by
  have HBi := refBits11 h hm
  have HS := mkHid h
  have HLo := mkHid h.lo
  have hn1 := h.few.n
  have hl := (map_ok h.few ho h.lens).2
  obtain ⟨r0, u0, k0, d0⟩ := h.road
  clear h
  by_cases hi : i < 51
  · have HE : Hid ((50 : Int) = gvE t j i ∧ t = gvT t j i) := by unfold Hid gvE gvT; rw [if_pos (.inl hi), if_pos (.inl hi)]; exact ⟨rfl, rfl⟩
    clear HBi
    go_enter Tryz.func49, Tryz.ntmps49
    go_wp2_with fail
    go_ret
    exact ⟨ret_i HE.out.1, by rw [← HE.out.2]; exact HS, KC.of_below (Below.refl _ _) HLo.out⟩
  by_cases hn : (j.p.n : Int) ≤ i
  · have HE : Hid ((50 : Int) = gvE t j i ∧ t = gvT t j i) := by unfold Hid gvE gvT; rw [if_pos (.inr (.inl hn)), if_pos (.inr (.inl hn))]; exact ⟨rfl, rfl⟩
    clear HBi
    go_enter Tryz.func49, Tryz.ntmps49
    go_wp2_with fail
    go_ret
    exact ⟨ret_i HE.out.1, by rw [← HE.out.2]; exact HS, KC.of_below (Below.refl _ _) HLo.out⟩
  obtain ⟨k, rfl⟩ : ∃ k : Nat, i = (k : Int) := ⟨i.toNat, by omega⟩
  have HG : Hid (gvNo t j (k : Int) ↔ takenL (mapL t j) (k : Int) = false) := by
    unfold Hid gvNo
    exact ⟨fun h => by rcases h with h | h | h; exact absurd h hi; exact absurd h hn; exact h, fun h => .inr (.inr h)⟩
  have HTk : ∀ (a : Option Addr) (cap : Nat) (W : World), IsB W a (mapL t j).length cap (mapL t j) → Calls Tryz.prog 8 #[.slice a (mapL t j).length cap, .int .i64 (k : Int)] W fun e w' => e = .returned (.bool (takenL (mapL t j) (k : Int))) ∧ Below W.heap.size W w' := fun a cap W hW => refTaken11 a _ cap _ _ W hW (by omega) (by omega)
  have HSt := fun W (hW : Below w.heap.size w W) => refSet11 (HS.out.on hW) hm k (by omega) hl
  have HE : Hid (gvE t j (k : Int) = (if takenL (mapL t j) (k : Int) = false then 50 else t.wrE j 49 (flipL (mapL t j) k)) ∧ gvT t j (k : Int) = (if takenL (mapL t j) (k : Int) = false then t else t.write j 49 (flipL (mapL t j) k))) := by
    unfold Hid gvE gvT
    have e : (k : Int).toNat = k := by omega
    rw [e]
    by_cases h : takenL (mapL t j) (k : Int) = false
    · rw [if_pos (HG.out.2 h), if_pos (HG.out.2 h), if_pos h, if_pos h]; exact ⟨rfl, rfl⟩
    · rw [if_neg (fun x => h (HG.out.1 x)), if_neg (fun x => h (HG.out.1 x)), if_neg h, if_neg h]; exact ⟨rfl, rfl⟩
  clear HG hl
  cases ht : takenL (mapL t j) (k : Int) with
  | false =>
    rw [ht] at HTk HE
    have HE1 : Hid ((50 : Int) = gvE t j (k : Int) ∧ t = gvT t j (k : Int)) := ⟨HE.out.1.symm, HE.out.2.symm⟩
    clear HE ht HSt
    go_enter Tryz.func49, Tryz.ntmps49
    go_wp2_with (first
      | (go_at_call 54; refine HBi.mono ?_; rintro e y1 ⟨v, rfl, hv, hb⟩; have HB := mkHid hb; clear hb; obtain ⟨va, vc, rfl, hI⟩ := hv.isB; have HI := mkHid hI; clear hv hI)
      | (go_at_call 8; refine (HTk _ _ _ HI.out).mono ?_; rintro e y2 ⟨rfl, hb2⟩))
    go_ret
    exact ⟨ret_i HE1.out.1, by rw [← HE1.out.2]; exact HS.out.on (HB.out.trans (hb2.mono HB.out.size)), KC.of_below (HB.out.trans (hb2.mono HB.out.size)) HLo.out⟩
  | true =>
    rw [ht] at HTk HE
    have HE1 : Hid (t.wrE j 49 (flipL (mapL t j) k) = gvE t j (k : Int) ∧ t.write j 49 (flipL (mapL t j) k) = gvT t j (k : Int)) := ⟨HE.out.1.symm, HE.out.2.symm⟩
    clear HE ht
    go_enter Tryz.func49, Tryz.ntmps49
    go_wp2_with (first
      | (go_at_call 54; refine HBi.mono ?_; rintro e y1 ⟨v, rfl, hv, hb⟩; have HB := mkHid hb; clear hb; obtain ⟨va, vc, rfl, hI⟩ := hv.isB; have HI := mkHid hI; clear hv hI)
      | (go_at_call 8; refine (HTk _ _ _ HI.out).mono ?_; rintro e y2 ⟨rfl, hb2⟩; have HB2 := mkHid (HB.out.trans (hb2.mono HB.out.size)); clear hb2)
      | (go_at_call 83; refine (HSt _ HB2.out).mono ?_; rintro e y3 ⟨rfl, hs, hk⟩))
    go_ret
    exact ⟨ret_i HE1.out.1, by rw [← HE1.out.2]; exact hs, (KC.of_below HB2.out HLo.out).trans hk.out⟩
end Go.Proofs.YtdeoankmmolebaaGreat
