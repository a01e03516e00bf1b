/- What the document's Free answers, and its set. · What the document's set leaves. · What the document's Give leaves. · What the document's Take leaves. -/
import Derived.Test.YthjdmfbengpepaaGreatB24
namespace Go.Proofs.YthjdmfbengpepaaGreat
open Go.RowKit

structure Road (w : World) (R U K D n : Nat) : Prop where
  r : w.cell? ⟨R, 0, none⟩ = some (.pointer (some ⟨U, 0, none⟩))
  u : w.cell? ⟨U, 0, none⟩ = some (.pointer (some ⟨K, 0, none⟩))
  k : w.cell? ⟨K, 0, none⟩ = some (.pointer (some ⟨D, 0, none⟩))
  d : w.cell? ⟨D, 0, none⟩ = some (.int .i64 (n : Int))
theorem RefS.road {w : World} {R U K D base m : Nat} {t : Tl} {j : Jl} (h : RefS w R U K D base m t j) : Road w R U K D j.p.n := by
  obtain ⟨vL, ls, hr⟩ := h.rt
  exact ⟨h.blk.cell 0, hr.rt.blk.cell 0, Blk.cell hr.rj 0, hr.rk.cellN⟩
set_option maxHeartbeats 1000000 in
theorem refFree11 {w : World} {R U K D base m : Nat} {t : Tl} {j : Jl} (h : RefS w R U K D base m t j) (hm : m ≤ 100000) :
    Calls Tryz.prog 16 #[.pointer (some ⟨R, 0, none⟩)] w fun e w' => e = .returned (.int .i64 (freeL (mapL t j) (j.p.n - 51) : Int)) ∧ Below w.heap.size w w' := by
  have HBi := refBits11 h hm
  have HS := mkHid h
  have hn0 := h.few.n0
  have hn1 := h.few.n
  clear h
  go_enter Tryz.func16, Tryz.ntmps16
  go_wp2_with (go_at_call 45; refine HBi.mono ?_; rintro e y1 ⟨v, rfl, hv, hb⟩; have HV := mkHid hv; have HB := mkHid hb; clear hv hb)
  obtain ⟨a, cap, rfl, hI⟩ := HV.out.isB
  have HI := mkHid hI
  clear hI HV HBi
  have HRo : ∀ W, Hid (Below w.heap.size w W) → Road W R U K D j.p.n := fun W hW => (HS.out.on hW.out).road
  have HIo : ∀ W, Hid (Below y1.heap.size y1 W) → IsB W a (mapL t j).length cap (mapL t j) := fun W hW => HI.out.below hW.out rfl
  clear HI
  generalize hM : mapL t j = M at *
  generalize hN : j.p.n = N at *
  have HM := mkHid hM
  have HN := mkHid hN
  clear hM hN
  go_loopw [3, 5] (fun o i wr => ∃ d : Nat, d ≤ N - 51 ∧ i = .int .i64 ((51 + d : Nat) : Int) ∧ o = .int .i64 (freeL M d : Int) ∧ Hid (Below w.heap.size w wr) ∧ Hid (Below y1.heap.size y1 wr)) (fun _ i _ => N - (intOf i).toNat)
  case atStart => exact ⟨0, Nat.zero_le _, rfl, rfl, HB, Below.refl _ _⟩
  case round =>
    obtain ⟨d, hd, rfl, rfl, HB1, HB2⟩ := hrel
    obtain ⟨r0, u0, k0, d0⟩ := HRo _ HB1
    have hfl := freeL_le M d
    obtain ⟨x, hx⟩ : ∃ x, x = 51 + d := ⟨_, rfl⟩
    rw [← hx]
    by_cases hlt : x < N
    · have hlt' : (x : Int) < (N : Int) := by omega
      have HT := refTaken11 a M.length cap M (x : Int) wr (HIo _ HB2) (by omega) (by omega)
      rw [takenL_nat] at HT
      have HF : Hid (freeL M (d + 1) = freeL M d + (if bitN M x = true then 0 else 1)) := by unfold Hid; rw [freeL, ← hx]
      have hd1 : d + 1 ≤ N - 51 := by omega
      have HX := mkHid hx
      clear hx HRo HIo
      cases hb : bitN M x with
      | true =>
        rw [hb] at HT HF
        have HF1 : Hid (freeL M (d + 1) = freeL M d) := HF.out
        clear HF hb
        go_wp2_with (go_at_call 46; refine HT.mono ?_; rintro e y2 ⟨rfl, hb2⟩)
        go_roundw
        case rel => exact ⟨d + 1, hd1, by rw [HX.out]; go_num, by rw [HF1.out], HB1.out.trans (hb2.mono HB1.out.size), HB2.out.trans (hb2.mono HB2.out.size)⟩
        case measure => simp [intOf]; omega
      | false =>
        rw [hb] at HT HF
        have HF1 : Hid (freeL M (d + 1) = freeL M d + 1) := HF.out
        clear HF hb
        go_wp2_with (go_at_call 46; refine HT.mono ?_; rintro e y2 ⟨rfl, hb2⟩)
        go_roundw
        case rel => exact ⟨d + 1, hd1, by rw [HX.out]; go_num, by rw [HF1.out]; go_num, HB1.out.trans (hb2.mono HB1.out.size), HB2.out.trans (hb2.mono HB2.out.size)⟩
        case measure => simp [intOf]; omega
    · have hlt' : ¬ (x : Int) < (N : Int) := by omega
      have HE : Hid (d = N - 51) := by unfold Hid; omega
      clear hx HRo HIo
      go_wp2_with fail
      go_ret
      exact ⟨ret_i (by rw [HM.out, HN.out, HE.out]), HB1.out⟩
end Go.Proofs.YthjdmfbengpepaaGreat
namespace Go.Proofs.YthjdmfbengpepaaGreat
open Go.RowKit

set_option maxHeartbeats 1000000 in
theorem refSet11 {w : World} {R U K D base m : Nat} {t : Tl} {j : Jl} (h : RefS w R U K D base m t j) (hm : m ≤ 100000) (k : Nat) (hk : k < 4096) (hl : (mapL t j).length = 512) :
    Calls Tryz.prog 93 #[.pointer (some ⟨R, 0, none⟩), .int .i64 (k : Int)] w fun e w' => e = .returned (.int .i64 (t.wrE j 49 (flipL (mapL t j) k))) ∧ Hid (RefS w' R U K D base m (t.write j 49 (flipL (mapL t j) k)) j) ∧ Hid (KC base w w') := by
  have HBi := refBits11 h hm
  have HS := mkHid h
  have HLo := mkHid h.lo
  have HL := mkHid hl
  clear h hl
  obtain ⟨q, hq⟩ : ∃ q, q = k / 8 := ⟨_, rfl⟩
  obtain ⟨r, hr⟩ : ∃ r, r = k % 8 := ⟨_, rfl⟩
  have hr8 : r < 8 := by omega
  have hq5 : q < 512 := by omega
  have hq1 : (k : Int).tdiv 8 = (q : Int) := by rw [Int.tdiv_eq_ediv_of_nonneg (by omega)]; omega
  have hr1 : (k : Int).tmod 8 = (r : Int) := by rw [Int.tmod_eq_emod_of_nonneg (by omega)]; omega
  have HF : Hid (flipL (mapL t j) k = (mapL t j).set q (nth (mapL t j) q ^^^ UInt8.ofNat (2 ^ r))) := by unfold Hid flipL; rw [hq, hr]
  clear hq hr
  generalize flipL (mapL t j) k = F at *
  generalize hM : mapL t j = M at *
  clear hM
  go_enter Tryz.func93, Tryz.ntmps93
  go_upto_region 2 with (go_at_call 45; refine HBi.mono ?_; rintro e y1 ⟨v, rfl, hv, hb⟩; have HV := mkHid hv; have HB := mkHid hb; clear hv hb)
  obtain ⟨g, cap, rfl, hg1, hg2⟩ := World.ownsRow.form HV.out (by rw [HL.out]; omega)
  rw [HL.out] at HV ⊢
  have c5 := HV.out.cellAt HL.out q hq5
  have f5 := HV.out.frozenAt HL.out q
  clear HBi
  have HX : bits BinOp.xor IntKind.u8 ((nth M q).toNat : Int) (2 ^ r % 256) = (((nth M q ^^^ UInt8.ofNat (2 ^ r)).toNat : Nat) : Int) := by
    rw [← bits_xor8, UInt8.toNat_ofNat']; simp
  have HY := mkHid (HV.out.set HL.out q (nth M q ^^^ UInt8.ofNat (2 ^ r)))
  rw [← HF.out] at HY
  have HBY : Hid (Below w.heap.size w (y1.setCell ⟨g, q, none⟩ (.int .u8 ((nth M q ^^^ UInt8.ofNat (2 ^ r)).toNat : Int)))) := HB.out.trans ((Below.refl _ y1).setCell (p := ⟨g, q, none⟩) hg1 _)
  clear HF
  generalize nth M q ^^^ UInt8.ofNat (2 ^ r) = z at *
  go_upto_region 3 with fail
  clear c5 f5 HV HX
  generalize y1.setCell ⟨g, q, none⟩ (.int .u8 (z.toNat : Int)) = Y at *
  have HSY := mkHid (HS.out.on HBY.out)
  have c0 : Y.cell? ⟨R, 0, none⟩ = some (.pointer (some ⟨U, 0, none⟩)) := HSY.out.blk.cell 0
  have HW := HSY.out.writeV 49 HY.out
  go_wp2_with (go_at_call 108; refine HW.mono ?_; rintro e y3 ⟨rfl, hs, hk⟩)
  go_ret
  exact ⟨rfl, hs, (KC.of_below HBY.out HLo.out).trans hk.out⟩
end Go.Proofs.YthjdmfbengpepaaGreat
namespace Go.Proofs.YthjdmfbengpepaaGreat
open Go.RowKit

def gvNo (t : Tl) (j : Jl) (i : Int) : Prop := i < 51 ∨ (j.p.n : Int) ≤ i ∨ takenL (mapL t j) i = false
instance (t : Tl) (j : Jl) (i : Int) : Decidable (gvNo t j i) := by unfold gvNo; exact inferInstance
def gvE (t : Tl) (j : Jl) (i : Int) : Int := if gvNo t j i then 50 else t.wrE j 49 (flipL (mapL t j) i.toNat)
def gvT (t : Tl) (j : Jl) (i : Int) : Tl := if gvNo t j i then t else t.write j 49 (flipL (mapL t j) i.toNat)
set_option maxHeartbeats 1000000 in
theorem refGive11 {w : World} {R U K D base m : Nat} {t : Tl} {j : Jl} (h : RefS w R U K D base m t j) (hm : m ≤ 100000) (ho : j.p.off = false) (i : Int) (h0 : -9223372036854775808 ≤ i) (h1 : i ≤ 9223372036854775807) :
    Calls Tryz.prog 43 #[.pointer (some ⟨R, 0, none⟩), .int .i64 i] w fun e w' => e = .returned (.int .i64 (gvE t j i)) ∧ Hid (RefS w' R U K D base m (gvT t j i) j) ∧ Hid (KC base w w') := by
  have HBi := refBits11 h hm
  have HS := mkHid h
  have HLo := mkHid h.lo
  have hn1 := h.few.n
  have hl := (map_ok h.few ho h.lens).2
  obtain ⟨r0, u0, k0, d0⟩ := h.road
  clear h
  by_cases hi : i < 51
  · have HE : Hid ((50 : Int) = gvE t j i ∧ t = gvT t j i) := by unfold Hid gvE gvT; rw [if_pos (.inl hi), if_pos (.inl hi)]; exact ⟨rfl, rfl⟩
    clear HBi
    go_enter Tryz.func43, Tryz.ntmps43
    go_wp2_with fail
    go_ret
    exact ⟨ret_i HE.out.1, by rw [← HE.out.2]; exact HS, KC.of_below (Below.refl _ _) HLo.out⟩
  by_cases hn : (j.p.n : Int) ≤ i
  · have HE : Hid ((50 : Int) = gvE t j i ∧ t = gvT t j i) := by unfold Hid gvE gvT; rw [if_pos (.inr (.inl hn)), if_pos (.inr (.inl hn))]; exact ⟨rfl, rfl⟩
    clear HBi
    go_enter Tryz.func43, Tryz.ntmps43
    go_wp2_with fail
    go_ret
    exact ⟨ret_i HE.out.1, by rw [← HE.out.2]; exact HS, KC.of_below (Below.refl _ _) HLo.out⟩
  obtain ⟨k, rfl⟩ : ∃ k : Nat, i = (k : Int) := ⟨i.toNat, by omega⟩
  have HG : Hid (gvNo t j (k : Int) ↔ takenL (mapL t j) (k : Int) = false) := by
    unfold Hid gvNo
    exact ⟨fun h => by rcases h with h | h | h; exact absurd h hi; exact absurd h hn; exact h, fun h => .inr (.inr h)⟩
  have HTk : ∀ (a : Option Addr) (cap : Nat) (W : World), IsB W a (mapL t j).length cap (mapL t j) → Calls Tryz.prog 46 #[.slice a (mapL t j).length cap, .int .i64 (k : Int)] W fun e w' => e = .returned (.bool (takenL (mapL t j) (k : Int))) ∧ Below W.heap.size W w' := fun a cap W hW => refTaken11 a _ cap _ _ W hW (by omega) (by omega)
  have HSt := fun W (hW : Below w.heap.size w W) => refSet11 (HS.out.on hW) hm k (by omega) hl
  have HE : Hid (gvE t j (k : Int) = (if takenL (mapL t j) (k : Int) = false then 50 else t.wrE j 49 (flipL (mapL t j) k)) ∧ gvT t j (k : Int) = (if takenL (mapL t j) (k : Int) = false then t else t.write j 49 (flipL (mapL t j) k))) := by
    unfold Hid gvE gvT
    have e : (k : Int).toNat = k := by omega
    rw [e]
    by_cases h : takenL (mapL t j) (k : Int) = false
    · rw [if_pos (HG.out.2 h), if_pos (HG.out.2 h), if_pos h, if_pos h]; exact ⟨rfl, rfl⟩
    · rw [if_neg (fun x => h (HG.out.1 x)), if_neg (fun x => h (HG.out.1 x)), if_neg h, if_neg h]; exact ⟨rfl, rfl⟩
  clear HG hl
  cases ht : takenL (mapL t j) (k : Int) with
  | false =>
    rw [ht] at HTk HE
    have HE1 : Hid ((50 : Int) = gvE t j (k : Int) ∧ t = gvT t j (k : Int)) := ⟨HE.out.1.symm, HE.out.2.symm⟩
    clear HE ht HSt
    go_enter Tryz.func43, Tryz.ntmps43
    go_wp2_with (first
      | (go_at_call 45; refine HBi.mono ?_; rintro e y1 ⟨v, rfl, hv, hb⟩; have HB := mkHid hb; clear hb; obtain ⟨va, vc, rfl, hI⟩ := hv.isB; have HI := mkHid hI; clear hv hI)
      | (go_at_call 46; refine (HTk _ _ _ HI.out).mono ?_; rintro e y2 ⟨rfl, hb2⟩))
    go_ret
    exact ⟨ret_i HE1.out.1, by rw [← HE1.out.2]; exact HS.out.on (HB.out.trans (hb2.mono HB.out.size)), KC.of_below (HB.out.trans (hb2.mono HB.out.size)) HLo.out⟩
  | true =>
    rw [ht] at HTk HE
    have HE1 : Hid (t.wrE j 49 (flipL (mapL t j) k) = gvE t j (k : Int) ∧ t.write j 49 (flipL (mapL t j) k) = gvT t j (k : Int)) := ⟨HE.out.1.symm, HE.out.2.symm⟩
    clear HE ht
    go_enter Tryz.func43, Tryz.ntmps43
    go_wp2_with (first
      | (go_at_call 45; refine HBi.mono ?_; rintro e y1 ⟨v, rfl, hv, hb⟩; have HB := mkHid hb; clear hb; obtain ⟨va, vc, rfl, hI⟩ := hv.isB; have HI := mkHid hI; clear hv hI)
      | (go_at_call 46; refine (HTk _ _ _ HI.out).mono ?_; rintro e y2 ⟨rfl, hb2⟩; have HB2 := mkHid (HB.out.trans (hb2.mono HB.out.size)); clear hb2)
      | (go_at_call 93; refine (HSt _ HB2.out).mono ?_; rintro e y3 ⟨rfl, hs, hk⟩))
    go_ret
    exact ⟨ret_i HE1.out.1, by rw [← HE1.out.2]; exact hs, (KC.of_below HB2.out HLo.out).trans hk.out⟩
end Go.Proofs.YthjdmfbengpepaaGreat
namespace Go.Proofs.YthjdmfbengpepaaGreat
open Go.RowKit

/-- the sector, the two writes -/
def tkK (t : Tl) (j : Jl) : Nat := tkI (mapL t j) j.p.n
def tkE1 (t : Tl) (j : Jl) (k : Nat) : Int := t.wrE j (k : Int) zero512
def tkT1 (t : Tl) (j : Jl) (k : Nat) : Tl := t.write j (k : Int) zero512
def tkE2 (t : Tl) (j : Jl) (k : Nat) : Int := (tkT1 t j k).wrE j 49 (flipL (mapL (tkT1 t j k) j) k)
def tkT2 (t : Tl) (j : Jl) (k : Nat) : Tl := (tkT1 t j k).write j 49 (flipL (mapL (tkT1 t j k) j) k)
def tkE (t : Tl) (j : Jl) : Int := if tkK t j = j.p.n then 44 else if tkE1 t j (tkK t j) ≠ 0 then tkE1 t j (tkK t j) else tkE2 t j (tkK t j)
def tkV (t : Tl) (j : Jl) : Nat := if tkE t j = 0 then tkK t j else 0
def tkT (t : Tl) (j : Jl) : Tl := if tkK t j = j.p.n then t else if tkE1 t j (tkK t j) ≠ 0 then tkT1 t j (tkK t j) else tkT2 t j (tkK t j)
theorem tk_full {t : Tl} {j : Jl} (hk : tkK t j = j.p.n) : tkE t j = 44 ∧ tkV t j = 0 ∧ tkT t j = t := by
  have e : tkE t j = 44 := by unfold tkE; rw [if_pos hk]
  exact ⟨e, by unfold tkV; rw [e]; rfl, by unfold tkT; rw [if_pos hk]⟩
theorem tk_no1 {t : Tl} {j : Jl} {x : Nat} (hk : tkK t j = x) (hn : x < j.p.n) (h1 : tkE1 t j x ≠ 0) : tkE t j = tkE1 t j x ∧ tkV t j = 0 ∧ tkT t j = tkT1 t j x := by
  have e : tkE t j = tkE1 t j x := by unfold tkE; rw [hk, if_neg (by omega), if_pos h1]
  exact ⟨e, by unfold tkV; rw [e, if_neg h1], by unfold tkT; rw [hk, if_neg (by omega), if_pos h1]⟩
theorem tk_two {t : Tl} {j : Jl} {x : Nat} (hk : tkK t j = x) (hn : x < j.p.n) (h1 : tkE1 t j x = 0) : tkE t j = tkE2 t j x ∧ tkT t j = tkT2 t j x := by
  have h : ¬ tkE1 t j x ≠ 0 := fun h => h h1
  exact ⟨by unfold tkE; rw [hk, if_neg (by omega), if_neg h], by unfold tkT; rw [hk, if_neg (by omega), if_neg h]⟩
theorem tk_no2 {t : Tl} {j : Jl} {x : Nat} (hk : tkK t j = x) (hn : x < j.p.n) (h1 : tkE1 t j x = 0) (h2 : tkE2 t j x ≠ 0) : tkE t j = tkE2 t j x ∧ tkV t j = 0 ∧ tkT t j = tkT2 t j x := by
  obtain ⟨a, b⟩ := tk_two hk hn h1
  exact ⟨a, by unfold tkV; rw [a, if_neg h2], b⟩
theorem tk_yes {t : Tl} {j : Jl} {x : Nat} (hk : tkK t j = x) (hn : x < j.p.n) (h1 : tkE1 t j x = 0) (h2 : tkE2 t j x = 0) : tkE t j = 0 ∧ tkV t j = x ∧ tkT t j = tkT2 t j x := by
  obtain ⟨a, b⟩ := tk_two hk hn h1
  exact ⟨a.trans h2, by unfold tkV; rw [a, if_pos h2, hk], b⟩
set_option maxHeartbeats 1000000 in
theorem refTake11 {w : World} {R U K D base m : Nat} {t : Tl} {j : Jl} (h : RefS w R U K D base m t j) (hm : m ≤ 100000) (ho : j.p.off = false) :
    Calls Tryz.prog 53 #[.pointer (some ⟨R, 0, none⟩)] w fun e w' => e = .returned (.tuple #[.int .i64 (tkV t j : Int), .int .i64 (tkE t j)]) ∧ Hid (RefS w' R U K D base m (tkT t j) j) ∧ Hid (KC base w w') := by
  have HBi := refBits11 h hm
  have HS := mkHid h
  have HLo := mkHid h.lo
  have hn0 := h.few.n0
  have hn1 := h.few.n
  have HF := mkHid h.few
  clear h
  go_enter Tryz.func53, Tryz.ntmps53
  go_wp2_with (go_at_call 45; refine HBi.mono ?_; rintro e y1 ⟨v, rfl, hv, hb⟩; have HV := mkHid hv; have HB := mkHid hb; clear hv hb)
  obtain ⟨a, cap, rfl, hI⟩ := HV.out.isB
  have HRo : ∀ W, Hid (Below w.heap.size w W) → Road W R U K D j.p.n := fun W hW => (HS.out.on hW.out).road
  have HIo : ∀ W, Hid (Below y1.heap.size y1 W) → IsB W a (mapL t j).length cap (mapL t j) := fun W hW => hI.below hW.out rfl
  clear hI HV HBi
  have HTr : Hid (∀ W, Hid (Below w.heap.size w W) → RefS W R U K D base m t j) := fun W hW => HS.out.on hW.out
  go_loopw [5] (fun i wr => ∃ d : Nat, 51 + d ≤ j.p.n ∧ i = .int .i64 ((51 + d : Nat) : Int) ∧ Hid (∀ x, 51 ≤ x → x < 51 + d → bitN (mapL t j) x = true) ∧ Hid (Below w.heap.size w wr) ∧ Hid (Below y1.heap.size y1 wr)) (fun i _ => j.p.n - (intOf i).toNat)
  case atStart => exact ⟨0, by omega, rfl, fun x h1 h2 => absurd h2 (by omega), HB, Below.refl _ _⟩
  case round =>
    obtain ⟨d, hd, rfl, HA, HB1, HB2⟩ := hrel
    obtain ⟨r0, u0, k0, d0⟩ := HRo _ HB1
    obtain ⟨x, hx⟩ : ∃ x, x = 51 + d := ⟨_, rfl⟩
    rw [← hx]
    by_cases hlt : x < j.p.n
    · have hlt' : (x : Int) < (j.p.n : Int) := by omega
      have HT := refTaken11 a _ cap (mapL t j) (x : Int) wr (HIo _ HB2) (by omega) (by omega)
      rw [takenL_nat] at HT
      have HX := mkHid hx
      have hx51 : 51 ≤ x := by omega
      clear HRo HIo
      cases hb : bitN (mapL t j) x with
      | true =>
        rw [hb] at HT
        have HA1 : Hid (∀ z, 51 ≤ z → z < 51 + (d + 1) → bitN (mapL t j) z = true) := fun z h1 h2 => by
          by_cases e : z = x
          · rw [e]; exact hb
          · exact HA.out z h1 (by omega)
        clear hb hx
        go_wp2_with (go_at_call 46; refine HT.mono ?_; rintro e y2 ⟨rfl, hb2⟩)
        go_roundw
        case rel => exact ⟨d + 1, by have := HX.out; omega, by rw [HX.out]; go_num, HA1, HB1.out.trans (hb2.mono HB1.out.size), HB2.out.trans (hb2.mono HB2.out.size)⟩
        case measure => simp [intOf]; omega
      | false =>
        rw [hb] at HT
        have HK : Hid (tkK t j = x) := tkI_hit _ _ x hx51 hlt (fun z h1 h2 => HA.out z h1 (by omega)) hb
        clear hb hx HA
        go_upto_region 6 with (go_at_call 46; refine HT.mono ?_; rintro e y2 ⟨rfl, hb2⟩)
        have HBy : Hid (Below w.heap.size w y2) := HB1.out.trans (hb2.mono HB1.out.size)
        have HS2 := mkHid (HTr.out _ HBy)
        have c0 := HS2.out.road.r
        clear r0 u0 k0 d0 HT hb2 HB1 HB2
        obtain ⟨w4, hrun4, hob4, hbb4⟩ := make_run512 y2.drew
        have Hrun := mkHid hrun4
        clear hrun4
        refine wp_region_noPanic ?_
        refine wp_region_held_drew (S := fun w' => w'.cell? ⟨R, 0, none⟩ = some (.pointer (some ⟨U, 0, none⟩))) (by kernel_rfl) c0 (fun hHeld => ?_)
        refine takeH (some 30) (i := 0) (v := ?_) rfl (by kernel_rfl) (by kernel_rfl) (by kernel_rfl) (fun _ _ _ h => h) (Or.inl ⟨by rfl, ?_⟩) hHeld rfl ?_
        rotate_left
        · intro w hSw; go_simp; with_reducible rfl
        (try simp only [Act.put, List.setIfInBounds_toArray, List.set_cons_zero, List.set_cons_succ])
        refine takeH (some 31) (i := 1) (v := ?_) rfl (by kernel_rfl) (by kernel_rfl) (by kernel_rfl) (fun _ _ _ h => h) (Or.inl ⟨by rfl, ?_⟩) hHeld rfl ?_
        rotate_left
        · intro w hSw; go_simp; with_reducible rfl
        (try simp only [Act.put, List.setIfInBounds_toArray, List.set_cons_zero, List.set_cons_succ])
        refine takeH (some 32) (i := 2) (v := ?_) rfl (by kernel_rfl) (by kernel_rfl) (by kernel_rfl) (fun _ _ _ h => h) (Or.inl ⟨by rfl, ?_⟩) hHeld rfl ?_
        rotate_left
        · intro w hSw; go_simp; with_reducible rfl
        (try simp only [Act.put, List.setIfInBounds_toArray, List.set_cons_zero, List.set_cons_succ])
        refine takeH (some 33) (i := 3) (v := ?_) rfl (by kernel_rfl) (by kernel_rfl) (by kernel_rfl) (fun _ _ _ h => h) (Or.inl ⟨by rfl, ?_⟩) hHeld rfl ?_
        rotate_left
        · intro w hSw; go_simp; with_reducible rfl
        (try simp only [Act.put, List.setIfInBounds_toArray, List.set_cons_zero, List.set_cons_succ])
        refine takeH (some 34) (i := 4) (v := ?_) rfl (by kernel_rfl) (by kernel_rfl) (by kernel_rfl) (fun _ _ _ h => h) (Or.inl ⟨by rfl, ?_⟩) hHeld rfl ?_
        rotate_left
        · intro w hSw; go_simp; with_reducible rfl
        (try simp only [Act.put, List.setIfInBounds_toArray, List.set_cons_zero, List.set_cons_succ])
        refine wpAnyH_ready (rs := [5]) (by kernel_rfl) (by simp) (AllReadyH.cons rfl (fun K hK => ?_) AllReadyH.nil)
        go_simp
        rw [Hrun.out]
        go_simp
        have HV4 := mkHid hob4
        have HB4 : Hid (Below y2.heap.size y2 w4) := ((Below.refl _ y2).drew).trans hbb4
        have HS4 := mkHid (HS2.out.on HB4.out)
        clear hob4 hbb4 Hrun
        refine hK.out _ _ HS4.out.road.r (fun hHeld => ?_)
        (try simp only [Act.put, List.setIfInBounds_toArray, List.set_cons_zero, List.set_cons_succ])
        clear hK K
        refine wpAnyH_ready (rs := [6]) (by kernel_rfl) (by simp) (AllReadyH.cons rfl (fun K hK => ?_) AllReadyH.nil)
        go_simp
        go_wp2_with (go_at_call 108; refine (HS4.out.writeV _ HV4.out).mono ?_; rintro e y5 ⟨rfl, hs5, hk5⟩)
        refine hK.out _ _ hs5.out.road.r (fun hHeld => ?_)
        (try simp only [Act.put, List.setIfInBounds_toArray, List.set_cons_zero, List.set_cons_succ])
        clear hK K
        refine takeH (some 6) (i := 7) (v := ?_) rfl (by kernel_rfl) (by kernel_rfl) (by kernel_rfl) (fun _ _ _ h => h) (Or.inl ⟨by rfl, ?_⟩) hHeld rfl ?_
        rotate_left
        · intro w hSw; go_simp; with_reducible rfl
        (try simp only [Act.put, List.setIfInBounds_toArray, List.set_cons_zero, List.set_cons_succ])
        refine wpAnyH_done (by kernel_rfl) ?_ _
        refine NoPanic.normal ?_
        have HS5 : Hid (RefS y5 R U K D base m (tkT1 t j x) j) := hs5
        have HK5 := mkHid ((KC.of_below (HBy.out.trans (HB4.out.mono HBy.out.size)) HLo.out).trans hk5.out)
        have HE1 : Hid (tkE1 t j x = t.wrE j (x : Int) zero512) := rfl
        clear hs5 hk5 HB4 HS4 HV4 hHeld c0 HS2 HBy HTr
        generalize t.wrE j (x : Int) zero512 = E1 at *
        by_cases hz : E1 = 0
        · subst hz
          have HSt := refSet11 HS5.out hm x (by omega) (map_ok HF.out ho HS5.out.lens).2
          have HE2 : Hid (tkE2 t j x = (tkT1 t j x).wrE j 49 (flipL (mapL (tkT1 t j x) j) x)) := rfl
          have HT2 : Hid (tkT2 t j x = (tkT1 t j x).write j 49 (flipL (mapL (tkT1 t j x) j) x)) := rfl
          generalize (tkT1 t j x).wrE j 49 (flipL (mapL (tkT1 t j x) j) x) = E2 at *
          generalize (tkT1 t j x).write j 49 (flipL (mapL (tkT1 t j x) j) x) = T2 at *
          by_cases hz2 : E2 = 0
          · subst hz2
            have HO := mkHid (tk_yes HK.out hlt HE1.out HE2.out)
            go_wp2_with (go_at_call 93; refine HSt.mono ?_; rintro e y6 ⟨rfl, hs6, hk6⟩)
            go_ret2
            exact ⟨by rw [HO.out.1, HO.out.2.1]; rfl, by rw [HO.out.2.2, HT2.out]; exact hs6, HK5.out.trans hk6.out⟩
          · have HO := mkHid (tk_no2 HK.out hlt HE1.out (by rw [HE2.out]; exact hz2))
            go_wp2_with (go_at_call 93; refine HSt.mono ?_; rintro e y6 ⟨rfl, hs6, hk6⟩)
            go_ret2
            exact ⟨by rw [HO.out.1, HO.out.2.1, HE2.out]; rfl, by rw [HO.out.2.2, HT2.out]; exact hs6, HK5.out.trans hk6.out⟩
        · have HO := mkHid (tk_no1 HK.out hlt (by rw [HE1.out]; exact hz))
          go_wp2_with fail
          go_ret2
          exact ⟨by rw [HO.out.1, HO.out.2.1, HE1.out]; rfl, by rw [HO.out.2.2]; exact HS5, HK5⟩
    · have hlt' : ¬ (x : Int) < (j.p.n : Int) := by omega
      have hxn : x = j.p.n := by omega
      have HO := mkHid (tk_full (t := t) (j := j) (tkI_none _ _ (by omega) (fun z h1 h2 => HA.out z h1 (by omega))))
      clear HRo HIo hxn hx
      go_wp2_with fail
      go_ret2
      exact ⟨by rw [HO.out.1, HO.out.2.1]; rfl, by rw [HO.out.2.2]; exact HTr.out _ HB1, KC.of_below HB1.out HLo.out⟩
end Go.Proofs.YthjdmfbengpepaaGreat
