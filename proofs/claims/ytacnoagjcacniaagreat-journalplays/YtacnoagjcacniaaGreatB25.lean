/- The program's disk: what a sector's last write has. · The program's disk: Read and Stable. · The program's disk: New and Arm. -/
import Derived.Test.YtacnoagjcacniaaGreatB24
namespace Go.Proofs.YtacnoagjcacniaaGreat
open Go.RowKit

theorem fold_none (l : List (Nat × List UInt8)) (st : Nat → List UInt8) (i : Nat) (h : ∀ m, m < l.length → (nthQ l m).1 ≠ i) : l.foldl Pl.put st i = st i := by
  induction l generalizing st with
  | nil => rfl
  | cons g l ih =>
    rw [List.foldl_cons, ih _ (fun m hm => h (m + 1) (by simpa using hm))]
    have h0 : g.1 ≠ i := h 0 (by simp)
    simp [Pl.put, h0]
theorem fold_last (l : List (Nat × List UInt8)) (st : Nat → List UInt8) (i j : Nat) (hj : j < l.length) (he : (nthQ l j).1 = i) (h : ∀ m, j < m → m < l.length → (nthQ l m).1 ≠ i) : l.foldl Pl.put st i = (nthQ l j).2 := by
  induction l generalizing st j with
  | nil => simp at hj
  | cons g l ih =>
    rw [List.foldl_cons]
    cases j with
    | zero =>
      rw [fold_none l _ i (fun m hm => h (m + 1) (by omega) (by simpa using hm))]
      have h0 : g.1 = i := he
      simp [Pl.put, h0, nthQ]
    | succ j => exact ih _ j (by simpa using hj) he (fun m h1 h2 => h (m + 1) (by omega) (by simpa using h2))
/-- a write's bytes in the row of writes -/
theorem range_data {w : World} {g o : Nat} {q : Nat × List UInt8} (h : w.rangeAt g o (wq q)) : w.cell? ⟨g, o, none⟩ = some (.int .i64 (q.1 : Int)) ∧ w.rangeAt g (o + 1) (bv q.2) :=
  ⟨by have := h 0 _ rfl; rwa [Nat.add_zero] at this, fun j v hv => by have := h (j + 1) v hv; rwa [show o + (j + 1) = o + 1 + j by omega] at this⟩
def zSec : List Value := bv (List.replicate 512 0)
theorem zSec_length : zSec.length = 512 := by unfold zSec; rw [bv_length, List.length_replicate]
theorem zeroSec : (Tryz.prog.info? 106).map (·.zero) = some (some (.agg zSec.toArray)) := by kernel_rfl
theorem zvSec (w : World) : (zeroValue 106).run Tryz.prog w = .ok (.agg zSec.toArray) w := by
  have h := zeroSec
  cases hq : Tryz.prog.info? 106 with
  | none => rw [hq] at h; cases h
  | some i =>
    rw [hq] at h
    have hz : i.zero = some (.agg zSec.toArray) := by simpa using h
    simp [zeroValue, typeInfo, hq, hz]
attribute [local go_sem ↓] zvSec
theorem bvAll9 (b : List UInt8) : (bv b).toArray.all (·.oneCell') = true := all_oneCell_toArray (bv_one b)
theorem infoSecOf {b : List UInt8} (h : b.length = 512) : (Tryz.prog.info? 106).map (·.size) = some (bv b).length := by rw [bv_length, h]; exact infoSec
theorem infoSecOf' {b : List UInt8} (h : b.length = 512) : (Tryz.prog.info? 106).map (·.size) = some (bv b).toArray.size := by rw [List.size_toArray]; exact infoSecOf h

set_option maxRecDepth 20000 in
set_option maxHeartbeats 2000000 in
theorem codLatest (X : Nat → Prop) (P base S : Nat) (vC : Value) (arm : Int) (p : Pl) (i : Nat) (w : World) (h : IsPd X w P base S vC arm p) (hf : FewP p) (hi : i < p.n) :
    Calls Tryz.prog 87 #[.pointer (some ⟨P, 0, none⟩), .int .i64 (i : Int)] w fun e w' => e = .returned (.agg (bv (p.ca.foldl Pl.put p.st i)).toArray) ∧ Below w.heap.size w w' := by
  obtain ⟨a, cap, rfl, hle, hmx, hnl, hcs⟩ := h.ca.form (fun g hg => (hf.at_ g hg).2)
  have h1 := h.on ((Below.refl _ w).alloc (Nat.le_refl _) (.cells zSec.toArray 106))
  have HD : Hid (Below w.heap.size w (w.alloc (.cells zSec.toArray 106))) := (Below.refl _ w).alloc (Nat.le_refl _) _
  have HR : Hid (Blk (w.alloc (.cells zSec.toArray 106)) w.heap.size 106 zSec) := Blk.new w _ _
  have HCs : Hid (0 < p.ca.length → ∃ g, a = some ⟨g, 0, none⟩ ∧ ∀ i, i < p.ca.length → (w.alloc (.cells zSec.toArray 106)).rangeAt g (i * 513) (wq (nthQ p.ca i))) := fun hp => by
    obtain ⟨g, e, _, _, hr⟩ := hcs hp
    exact ⟨g, e, fun i hi => World.rangeAt_alloc (hr i hi) _⟩
  have HF := mkHid hf
  have HHs := mkHid h1
  have c0 : (w.alloc (.cells zSec.toArray 106)).cell? ⟨P, 0, none⟩ = some (.slice (some ⟨S, 0, none⟩) p.n p.n) := h1.blk.cell 0
  have c1 : (w.alloc (.cells zSec.toArray 106)).cell? ⟨P, 1, none⟩ = some (.slice a p.ca.length cap) := h1.blk.cell 1
  have hn4 := hf.n
  have HI := mkHid hi
  have Hn := mkHid hf.ca
  obtain ⟨n, hn⟩ : ∃ n, n = p.ca.length := ⟨_, rfl⟩
  have HN : Hid (n = p.ca.length) := hn
  rw [← hn] at c1 HCs Hn
  have hn6 : n ≤ 1000000 := Hn.out
  obtain ⟨N, hN⟩ : ∃ N, N = p.n := ⟨_, rfl⟩
  have HNN : Hid (N = p.n) := hN
  rw [← hN] at c0 hi hn4
  have hiN : (i : Int) < (N : Int) := by omega
  have hi0 : (0 : Int) ≤ (i : Int) := by omega
  clear h h1 hf hcs hn hN hi hle hmx hnl Hn
  go_enter Tryz.func87, Tryz.ntmps87
  go_upto_region 1 with fail
  generalize hH : w.heap.size = R at *
  generalize w.alloc (.cells zSec.toArray 106) = w0 at *
  have HW := mkHid hH
  clear hH
  go_wp2_with fail
  go_loopw [5] (fun kv wr => ∃ k : Nat, k ≤ n ∧ kv = .int .i64 ((k : Int) - 1) ∧ Hid (∀ m, k ≤ m → m < n → (nthQ p.ca m).1 ≠ i) ∧ wr = w0) (fun kv _ => (intOf kv + 1).toNat)
  case atStart => exact ⟨n, Nat.le_refl _, by go_num, fun m h1 h2 => by omega, rfl⟩
  case round =>
    obtain ⟨k, hk, rfl, HM, hwr⟩ := hrel
    subst hwr
    by_cases h0 : 0 < k
    · obtain ⟨j, rfl⟩ : ∃ j, k = j + 1 := ⟨k - 1, by omega⟩
      obtain ⟨g, rfl, hr⟩ := HCs.out (by omega)
      obtain ⟨d0, d1⟩ := range_data (hr j (by omega))
      have e1 : ((j + 1 : Nat) : Int) - 1 = (j : Int) := by omega
      rw [e1]
      have hj0 : (0 : Int) ≤ (j : Int) := by omega
      have hjn : (j : Int) < (n : Int) := by omega
      have HjL : Hid (j < p.ca.length) := by unfold Hid; rw [← HN.out]; omega
      have HB5 := mkHid (HF.out.at_ _ (nthQ_mem p.ca j HjL.out)).2
      have HD1 := mkHid d1
      clear d1 hr
      by_cases ha : (nthQ p.ca j).1 = i
      · have HV : Hid (p.ca.foldl Pl.put p.st i = (nthQ p.ca j).2) := fold_last p.ca p.st i j HjL.out ha (fun m h1 h2 => HM.out m (by omega) (by rw [HN.out]; exact h2))
        have hai : ((nthQ p.ca j).1 : Int) = (i : Int) := by omega
        rw [hai] at d0
        clear ha hai
        generalize (nthQ p.ca j).2 = bb at *
        have HS5 : Hid ((Tryz.prog.info? 106).map (·.size) = some (bv bb).length) := infoSecOf HB5.out
        have HS6 : Hid ((Tryz.prog.info? 106).map (·.size) = some (bv bb).toArray.size) := infoSecOf' HB5.out
        have HS7 : Hid (zSec.toArray.size = (bv bb).toArray.size) := by unfold Hid; rw [List.size_toArray, List.size_toArray, zSec_length, bv_length, HB5.out]
        go_wp2_with (first | (refine wpList_load_mid rfl 106 _ rfl g (j * 513 + 1) rfl (bv bb) _ HD1.out Tryz.underlying106 rfl HS5.out ?_) | (refine wpList_store_row rfl 106 _ _ rfl R (bv bb).toArray rfl rfl _ _ HR.out HS6.out HS7.out (bvAll9 bb) ?_))
        refine bodyPost_ret (v := .agg (bv bb).toArray) ?_ rfl ⟨by rw [HV.out], by rw [HW.out]; exact bel_row HD.out (Nat.le_refl _) _⟩
        exact results_cell_row Tryz.results87 _ _ _ _ _ _ _ rfl (HR.out.row (bv bb)) Tryz.underlying106 rfl HS6.out
      · have hai' : ¬ ((nthQ p.ca j).1 : Int) = (i : Int) := by omega
        have HM2 : Hid (∀ m, j ≤ m → m < n → (nthQ p.ca m).1 ≠ i) := fun m h1 h2 => by
          by_cases e : m = j
          · subst e; exact ha
          · exact HM.out m (by omega) h2
        clear ha HM HD1
        generalize (nthQ p.ca j).1 = at2 at *
        go_wp2
        go_roundw
        case rel => exact ⟨j, by omega, by go_num, HM2, by first | rfl | trivial⟩
        case measure => first | (simp [intOf]; done) | (simp [intOf]; omega)
    · have hk0 : k = 0 := by omega
      subst hk0
      have HV : Hid (p.ca.foldl Pl.put p.st i = p.st i) := fold_none p.ca p.st i (fun m hm => HM.out m (Nat.zero_le _) (by rw [HN.out]; exact hm))
      have hneg : ((0 : Nat) : Int) - 1 = -1 := by omega
      rw [hneg]
      have HB5 := mkHid (HHs.out.len i HI.out)
      have HD1 := mkHid (HHs.out.st.sector i HI.out HB5.out)
      generalize p.st i = bb at *
      have HS5 : Hid ((Tryz.prog.info? 106).map (·.size) = some (bv bb).length) := infoSecOf HB5.out
      have HS6 : Hid ((Tryz.prog.info? 106).map (·.size) = some (bv bb).toArray.size) := infoSecOf' HB5.out
      have HS7 : Hid (zSec.toArray.size = (bv bb).toArray.size) := by unfold Hid; rw [List.size_toArray, List.size_toArray, zSec_length, bv_length, HB5.out]
      clear HM
      go_wp2_with (first | (refine wpList_load_mid rfl 106 _ rfl S (i * 512) rfl (bv bb) _ HD1.out Tryz.underlying106 rfl HS5.out ?_) | (refine wpList_store_row rfl 106 _ _ rfl R (bv bb).toArray rfl rfl _ _ HR.out HS6.out HS7.out (bvAll9 bb) ?_))
      refine bodyPost_ret (v := .agg (bv bb).toArray) ?_ rfl ⟨by rw [HV.out], by rw [HW.out]; exact bel_row HD.out (Nat.le_refl _) _⟩
      exact results_cell_row Tryz.results87 _ _ _ _ _ _ _ rfl (HR.out.row (bv bb)) Tryz.underlying106 rfl HS6.out
end Go.Proofs.YtacnoagjcacniaaGreat
namespace Go.Proofs.YtacnoagjcacniaaGreat
open Go.RowKit

theorem isB_new {w : World} {g : Nat} {b : List UInt8} (h : Blk w g 5 (bv b)) (hb : b.length = 512) : IsB w (some ⟨g, 0, none⟩) 512 512 b :=
  ⟨hb, Nat.le_refl _, by decide, fun e => (by cases e), fun _ => ⟨g, 0, rfl, fun i hi => by rw [h.cell, Nat.zero_add, bv_at b i (by omega)]⟩⟩
theorem fold_len512 (l : List (Nat × List UInt8)) (st : Nat → List UInt8) (n i : Nat) (hi : i < n) (hl : ∀ g ∈ l, g.2.length = 512) (hs : ∀ i, i < n → (st i).length = 512) : (l.foldl Pl.put st i).length = 512 := by
  induction l generalizing st with
  | nil => exact hs i hi
  | cons g l ih =>
    rw [List.foldl_cons]
    refine ih _ (fun g hg => hl g (by simp [hg])) (fun j hj => ?_)
    unfold Pl.put
    split
    · exact hl g (by simp)
    · exact hs j hj
theorem ret_v4 {a : Option Addr} {n m c : Nat} {e e' : Int} (h : n = m) (h2 : e = e') : Ending.returned (.tuple #[.slice a n c, .int .i64 e]) = .returned (.tuple #[.slice a m c, .int .i64 e']) := by rw [h, h2]

set_option maxRecDepth 20000 in
set_option maxHeartbeats 2000000 in
theorem codRead (X : Nat → Prop) (P base : Nat) (p : Pl) (i : Int) (w : World) (h : IsD X w P base p) (hf : FewP p) :
    Calls Tryz.prog 56 #[.pointer (some ⟨P, 0, none⟩), .int .i64 i] w fun e w' => (∃ a c, e = .returned (.tuple #[.slice a (p.rdB i).length c, .int .i64 (p.rdE i)]) ∧ IsB w' a (p.rdB i).length c (p.rdB i) ∧ ∀ A, a = some A → w.heap.size ≤ A.block ∧ A.block < w'.heap.size) ∧ Below w.heap.size w w' := by
  obtain ⟨S, vC, arm, h⟩ := h
  have HR := codReach P S p.n p.off i w (h.blk.cell 0) (h.blk.cell 3)
  have HH := mkHid h
  have HF := mkHid hf
  clear h hf
  cases hoff : p.off with
  | true =>
    have HE : Hid (p.rdE i = 51 ∧ p.rdB i = []) := by unfold Hid Pl.rdE Pl.rdB; simp [hoff]
    rw [hoff, if_pos rfl] at HR
    clear hoff
    go_enter Tryz.func56, Tryz.ntmps56
    go_wp2_with fail
    refine HR.mono ?_
    rintro e w1 ⟨rfl, rfl⟩
    go_wp2_with fail
    go_ret2
    refine ⟨⟨none, 0, ret_v4 (by rw [HE.out.2]; rfl) HE.out.1.symm, ?_, fun A e => by cases e⟩, Below.refl _ _⟩
    rw [HE.out.2]; exact isB_none _
  | false =>
    rw [hoff, if_neg (by simp)] at HR
    cases hin : inR p.n i with
    | false =>
      have HE : Hid (p.rdE i = 50 ∧ p.rdB i = []) := by unfold Hid Pl.rdE Pl.rdB Pl.stE; simp [hoff, hin]
      rw [hin, if_neg (by simp)] at HR
      clear hoff hin
      go_enter Tryz.func56, Tryz.ntmps56
      go_wp2_with fail
      refine HR.mono ?_
      rintro e w1 ⟨rfl, rfl⟩
      go_wp2_with fail
      go_ret2
      refine ⟨⟨none, 0, ret_v4 (by rw [HE.out.2]; rfl) HE.out.1.symm, ?_, fun A e => by cases e⟩, Below.refl _ _⟩
      rw [HE.out.2]; exact isB_none _
    | true =>
      rw [hin, if_pos rfl] at HR
      have hir : 0 ≤ i ∧ i < p.n := by simpa [inR] using hin
      obtain ⟨k, rfl⟩ : ∃ k : Nat, i = (k : Int) := ⟨i.toNat, by omega⟩
      have hk : k < p.n := by omega
      have HE : Hid (p.rdE (k : Int) = 0 ∧ p.rdB (k : Int) = p.ca.foldl Pl.put p.st k) := by unfold Hid Pl.rdE Pl.rdB Pl.stE; simp [hoff, hin]
      have HL : Hid ((p.ca.foldl Pl.put p.st k).length = 512) := fold_len512 _ _ p.n k hk (fun g hg => (HF.out.at_ g hg).2) HH.out.len
      have HLa := codLatest X P base S vC arm p k w HH.out HF.out hk
      generalize p.ca.foldl Pl.put p.st k = bb at *
      clear hoff hin hir hk
      go_enter Tryz.func56, Tryz.ntmps56
      go_wp2_with fail
      refine HR.mono ?_
      rintro e w1 ⟨rfl, hw1⟩
      obtain rfl := hw1.symm
      go_wp2_with fail
      refine HLa.mono ?_
      rintro e w2 ⟨rfl, hb2⟩
      have HB2 := mkHid hb2
      clear hb2
      go_wp2_with fail
      refine (codBytes bb w2 HL.out).mono ?_
      rintro e w3 ⟨g, rfl, hg3, hB3, hb3⟩
      have HB3 := mkHid (And.intro hg3 (And.intro hB3 hb3))
      clear hg3 hB3 hb3
      go_wp2_with fail
      go_ret2
      refine ⟨⟨some ⟨g, 0, none⟩, 512, ret_v4 (by rw [HE.out.2, HL.out]) HE.out.1.symm, ?_, fun A e => ?_⟩, HB2.out.trans (HB3.out.2.2.mono HB2.out.size)⟩
      · rw [HE.out.2, HL.out]; exact isB_new HB3.out.2.1 HL.out
      · obtain rfl := Option.some.inj e
        exact ⟨Nat.le_trans HB2.out.size HB3.out.1, HB3.out.2.1.lt⟩

set_option maxRecDepth 20000 in
set_option maxHeartbeats 2000000 in
theorem codStable (X : Nat → Prop) (P base : Nat) (p : Pl) (i : Int) (w : World) (h : IsD X w P base p) (hf : FewP p) :
    Calls Tryz.prog 45 #[.pointer (some ⟨P, 0, none⟩), .int .i64 i] w fun e w' => (∃ a c, e = .returned (.tuple #[.slice a (p.stB i).length c, .int .i64 (p.stE i)]) ∧ IsB w' a (p.stB i).length c (p.stB i) ∧ ∀ A, a = some A → w.heap.size ≤ A.block ∧ A.block < w'.heap.size) ∧ Below w.heap.size w w' := by
  obtain ⟨S, vC, arm, h⟩ := h
  have HR := codHas P S p.n i w (h.blk.cell 0)
  have c0 : w.cell? ⟨P, 0, none⟩ = some (.slice (some ⟨S, 0, none⟩) p.n p.n) := h.blk.cell 0
  have HH := mkHid h
  have hn := hf.n
  clear h hf
  cases hin : inR p.n i with
  | false =>
    have HE : Hid (p.stE i = 50 ∧ p.stB i = []) := by unfold Hid Pl.stE Pl.stB; simp [hin]
    rw [hin] at HR
    clear hin
    go_enter Tryz.func45, Tryz.ntmps45
    go_wp2_with fail
    refine HR.mono ?_
    rintro e w1 ⟨rfl, rfl⟩
    go_wp2_with fail
    go_ret2
    refine ⟨⟨none, 0, ret_v4 (by rw [HE.out.2]; rfl) HE.out.1.symm, ?_, fun A e => by cases e⟩, Below.refl _ _⟩
    rw [HE.out.2]; exact isB_none _
  | true =>
    rw [hin] at HR
    have hir : 0 ≤ i ∧ i < p.n := by simpa [inR] using hin
    obtain ⟨k, rfl⟩ : ∃ k : Nat, i = (k : Int) := ⟨i.toNat, by omega⟩
    have hk : k < p.n := by omega
    have HE : Hid (p.stE (k : Int) = 0 ∧ p.stB (k : Int) = p.st k) := by unfold Hid Pl.stE Pl.stB; simp [hin]
    have HL : Hid ((p.st k).length = 512) := HH.out.len k hk
    have HD1 := mkHid (HH.out.st.sector k hk HL.out)
    generalize p.st k = bb at *
    have HS5 : Hid ((Tryz.prog.info? 106).map (·.size) = some (bv bb).length) := infoSecOf HL.out
    have hkn := hir.2
    have hk0 := hir.1
    clear hin hir hk
    generalize p.n = N at *
    go_enter Tryz.func45, Tryz.ntmps45
    go_wp2_with fail
    refine HR.mono ?_
    rintro e w1 ⟨rfl, hw1⟩
    obtain rfl := hw1.symm
    go_wp2_with (first | (refine wpList_load_mid rfl 106 _ rfl S (k * 512) rfl (bv bb) _ HD1.out Tryz.underlying106 rfl HS5.out ?_) | (refine (codBytes bb w HL.out).mono ?_; rintro e w3 ⟨g, rfl, hg3, hB3, hb3⟩; have HB3 := mkHid (And.intro hg3 (And.intro hB3 hb3)); clear hg3 hB3 hb3))
    go_ret2
    refine ⟨⟨some ⟨g, 0, none⟩, 512, ret_v4 (by rw [HE.out.2, HL.out]) HE.out.1.symm, ?_, fun A e => ?_⟩, HB3.out.2.2⟩
    · rw [HE.out.2, HL.out]; exact isB_new HB3.out.2.1 HL.out
    · obtain rfl := Option.some.inj e
      exact ⟨HB3.out.1, HB3.out.2.1.lt⟩
end Go.Proofs.YtacnoagjcacniaaGreat
namespace Go.Proofs.YtacnoagjcacniaaGreat
open Go.RowKit

theorem infoSec3 : (Tryz.prog.info? 106).map (fun i => (i.zero, i.size, i.bytes)) = some (some (.agg zSec.toArray), 512, 512) := by kernel_rfl
theorem zSec_at (k : Nat) (h : k < 512) : zSec[k]? = some (.int .u8 0) := by
  unfold zSec
  rw [bv_at _ k (by rw [List.length_replicate]; exact h)]
  have : nth (List.replicate 512 0) k = 0 := by rw [nth_eq _ k (by rw [List.length_replicate]; exact h), List.getElem_replicate]
  rw [this]; rfl
theorem nth_zero512 (k : Nat) (h : k < 512) : nth zero512 k = 0 := by
  unfold zero512
  rw [nth_eq _ k (by rw [List.length_replicate]; exact h), List.getElem_replicate]
theorem made_sectors (n : Nat) : (madeCells (Value.agg zSec.toArray).cells (n * 512)).toList = stc n (fun _ => zero512) := by
  apply List.ext_getElem?
  intro k
  have hz : zSec.toArray.size = 512 := by rw [List.size_toArray, zSec_length]
  by_cases hk : k < n * 512
  · rw [stc_at _ _ k hk, nth_zero512 _ (Nat.mod_lt _ (by omega))]
    have h1 := zSec_at (k % 512) (Nat.mod_lt _ (by omega))
    simp [madeCells, Value.cells, hk, hz, h1]
  · have h3 : (stc n (fun _ => zero512))[k]? = none := List.getElem?_eq_none (by rw [stc_length]; exact Nat.le_of_not_lt hk)
    rw [h3, List.getElem?_eq_none]
    rw [Array.length_toList, size_madeCells]; exact Nat.le_of_not_lt hk
set_option maxRecDepth 20000 in
/-- make([]sector, n) -/
theorem make_sectors {ops : Array Oper} {rest : List Oper} {o : Oper} {a : Act} {Q : Exit → Act → World → Prop} (w : World)
    (hg : o.guard = none) (l c : Operand) (hop : o.op = Op.makeSlice 68 l c) 
    (n : Nat) (hl : a.eval l = .int .i64 (n : Int)) (hc : a.eval c = .int .i64 (n : Int)) (hn : n ≤ 4096)
    (hK : ∀ w', Blk w' w.heap.size 106 (stc n (fun _ => zero512)) → w.grownBy w' none → wpList Tryz.prog ops Q rest (a.put o.dst (.slice (some ⟨w.heap.size, 0, none⟩) n n)) w') :
    wpList Tryz.prog ops Q (o :: rest) a w := by
  obtain ⟨i0, hi, hz0, hz1, hz2⟩ := info_parts infoSec3
  refine wpList_make_full w hg l c 68 hop w.heap.size 106 i0 (.agg zSec.toArray) 512 Tryz.underlying68 hi hz0 hz1 .i64 .i64 n n n hl hc rfl rfl (by rw [hz2]; omega) (by unfold maxLen; omega) (Nat.le_refl _) (fun w' h g => hK w' ?_ g)
  rw [made_sectors] at h
  rcases h.2 with ⟨h, _⟩ | ⟨g, cap, cur, e, _, hgb, _, _, hsz, ht⟩
  · cases h
  · injection e with e1 _ e3
    have e4 : w.heap.size = g := by injection e1 with e1; injection e1 with e1
    subst e4
    unfold Blk
    rw [hgb, ← ht, List.take_of_length_le (by rw [Array.length_toList, hsz, ← e3]; exact Nat.le_refl _)]

set_option maxRecDepth 20000 in
set_option maxHeartbeats 2000000 in
theorem codNew (X : Nat → Prop) (z : Int) (w : World) (base : Nat) (hb : base ≤ w.heap.size) (hX : ∀ k, X k → k < w.heap.size) :
    Calls Tryz.prog 9 #[.int .i64 z] w fun e w' => (if 64 ≤ z ∧ z ≤ 4096 then ∃ P, e = .returned (.tuple #[.pointer (some ⟨P, 0, none⟩), .int .i64 0]) ∧ IsD X w' P base (Pl.new z.toNat) else e = .returned (.tuple #[.pointer none, .int .i64 1])) ∧ Below w.heap.size w w' := by
  by_cases h1 : z < 64
  · have d1 : decide (z < 64) = true := decide_eq_true h1
    have HN : Hid (¬ (64 ≤ z ∧ z ≤ 4096)) := fun h => by omega
    clear hX hb
    go_enter Tryz.func9, Tryz.ntmps9
    go_wp2
    go_ret2
    exact ⟨by first | rfl | (rw [if_neg HN.out]; rfl), Below.refl _ _⟩
  · have d1 : decide (z < 64) = false := decide_eq_false h1
    by_cases h2 : 4096 < z
    · have d2 : decide (4096 < z) = true := decide_eq_true h2
      have HN : Hid (¬ (64 ≤ z ∧ z ≤ 4096)) := fun h => by omega
      clear hX hb
      go_enter Tryz.func9, Tryz.ntmps9
      go_wp2
      go_ret2
      exact ⟨by first | rfl | (rw [if_neg HN.out]; rfl), Below.refl _ _⟩
    · have d2 : decide (4096 < z) = false := decide_eq_false h2
      have HN : Hid (64 ≤ z ∧ z ≤ 4096) := ⟨by omega, by omega⟩
      obtain ⟨n, rfl⟩ : ∃ n : Nat, z = (n : Int) := ⟨z.toNat, by omega⟩
      have HX := mkHid (And.intro hb hX)
      have HM : Hid (n ≤ 4096) := by unfold Hid; omega
      clear hX hb
      go_enter Tryz.func9, Tryz.ntmps9
      go_wp2_with (at_make; refine make_sectors w rfl _ _ rfl n rfl rfl HM.out ?_; intro w1 hB1 hg1; have HB1 := mkHid hB1; have HG1 := mkHid hg1; clear hB1 hg1)
      go_ret2
      have hbel : Below w.heap.size w w1 := (Below.refl _ w).grown HG1.out (Nat.le_refl _) (fun k e => by cases e)
      refine ⟨?_, hbel.alloc hbel.size _⟩
      (try rw [if_pos HN.out])
      refine ⟨_, rfl, w.heap.size, .slice none 0 0, -1, ?_⟩
      have hlt := HB1.out.lt
      exact { blk := Blk.newAt w1 _ _ _ _ rfl rfl, low := Nat.le_trans HX.out.1 hbel.size, st := HB1.out.alloc _, lowS := HX.out.1, len := fun i _ => by show zero512.length = 512; unfold zero512; rw [List.length_replicate]
              ca := OwnC.nil _ _, armd := rfl, lo := by omega, hi := by omega, pos := by show 0 < n; have := HN.out.1; omega
              xP := fun hx => by have := HX.out.2 _ hx; omega, xS := fun hx => by have := HX.out.2 _ hx; omega, xC := fun k e => by cases e
              xlt := fun k hx => Nat.lt_of_lt_of_le (HX.out.2 _ hx) (Nat.le_trans hbel.size (World.grownBy_alloc w1 _ none).size) }

set_option maxRecDepth 20000 in
set_option maxHeartbeats 1000000 in
theorem codArm (X : Nat → Prop) (P base : Nat) (p : Pl) (z : Int) (w : World) (h : IsD X w P base p) (hlo : -9223372036854775808 ≤ z) (hhi : z ≤ 9223372036854775807) :
    Calls Tryz.prog 12 #[.pointer (some ⟨P, 0, none⟩), .int .i64 z] w fun e w' => (∃ x, e = .returned x) ∧ IsD X w' P base (p.armed z) ∧ KeepB X w w' ∧ Below base w w' := by
  obtain ⟨S, vC, arm, h⟩ := h
  have c2 : w.cell? ⟨P, 2, none⟩ = some (.int .i64 arm) := h.blk.cell 2
  have f2 := h.blk.frozen 2
  have HH := mkHid h
  have HZ := mkHid (And.intro hlo hhi)
  clear h hlo hhi
  go_enter Tryz.func12, Tryz.ntmps12
  go_wp2_with fail
  go_end0
  have hg : w.grownBy (w.setCell ⟨P, 2, none⟩ (.int .i64 z)) (some P) := ⟨rfl, rfl, rfl, by simp [World.setCell], fun k _ hk => Below.heap_setCell _ _ _ _ (fun e => hk (by rw [e]))⟩
  refine ⟨⟨_, rfl⟩, ⟨S, vC, z, HH.out.turn (p' := p.armed z) hg (HH.out.blk.set 2 _) rfl rfl HH.out.ca HH.out.xC rfl HZ.out.1 HZ.out.2⟩, KeepB.one hg HH.out.xP, bel_one hg HH.out.low HH.out.blk.lt⟩
end Go.Proofs.YtacnoagjcacniaaGreat
