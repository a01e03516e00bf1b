/- What the document's Base32 answers. -/
import Derived.Test.YtmgflcglmakceaaT7d
import Derived.Test.YtmgflcglmakceaaRefPad
import Derived.Deep.RegionHeld3
namespace Go.Proofs.Ytmgflcglmakceaa
open Go.RowKit
theorem bt_zero (l : List UInt8) (j : Nat) (h : 8 * l.length ≤ j) : bt l j = 0 := by unfold bt; rw [bitB_out l j h]; rfl
theorem five_u8 (x0 x1 x2 x3 x4 : UInt8) (h0 : x0.toNat < 2) (h1 : x1.toNat < 2) (h2 : x2.toNat < 2) (h3 : x3.toNat < 2) (h4 : x4.toNat < 2) (n : Nat) (hn : 16 * x0.toNat + 8 * x1.toNat + 4 * x2.toNat + 2 * x3.toNat + x4.toNat = n) :
    IntKind.u8.wrap (IntKind.u8.wrap (IntKind.u8.wrap (IntKind.u8.wrap (IntKind.u8.wrap ((x0.toNat : Int) * 16) + IntKind.u8.wrap ((x1.toNat : Int) * 8)) + IntKind.u8.wrap ((x2.toNat : Int) * 4)) + IntKind.u8.wrap ((x3.toNat : Int) * 2)) + (x4.toNat : Int)) = (n : Int) := by
  simp only [wrap8_rem]; omega
attribute [local go_sem ↓] Go.wp_at_zero Go.wp_at_succ

set_option maxRecDepth 20000 in
set_option maxHeartbeats 2000000 in
theorem refBase32 (a0 : Option Addr) (len0 cap0 : Nat) (l : List UInt8) (w : World) (w0 : IsB w a0 len0 cap0 l) (hs : len0 ≤ 1000000) :
    Calls Try.prog 17 #[.slice a0 len0 cap0] w fun e w' => e = .returned (.string ⟨(b32L l).toArray⟩) ∧ Below w.heap.size w w' := by
  have e0 : Hid (l.length = len0) := w0.len_eq
  have hbits := refBits7 a0 len0 cap0 l w w0 hs
  clear w0
  obtain ⟨nT, hnT⟩ : ∃ nT, nT = 5 * ((8 * len0 + 4) / 5) := ⟨_, rfl⟩
  have h1 : 8 * len0 ≤ nT := by omega
  have h2 : nT ≤ 10000000 := by omega
  have HT : Hid (nT = 5 * ((8 * len0 + 4) / 5)) := hnT
  clear hnT
  go_enter Try.func17, Try.ntmps17
  go_wp2_with (go_at_call 28; refine hbits.mono ?_; rintro e w1 ⟨v, rfl, o1, t1⟩)
  clear hbits
  go_loopw [3] (fun v wr => ∃ m : Nat, 8 * len0 ≤ m ∧ m ≤ nT ∧ OwnB wr w.heap.size v (btTo l m) ∧ Below w.heap.size w wr) (fun v _ => nT - sliceLen2 v)
  case atStart => exact ⟨8 * len0, by omega, h1, o1, t1⟩
  case round =>
    clear o1 t1
    obtain ⟨m, hm1, hm2, hown, hbel⟩ := hrel
    obtain ⟨a3, cap3, rfl, iB⟩ := hown.isB
    have HLm : Hid ((btTo l m).length = m) := btTo_length l m
    rw [HLm.out] at hown iB ⊢
    by_cases hst : m % 5 = 0
    · have hmn : m = nT := by have := HT.out; omega
      have hmod : ((m : Int) % 5 != 0) = false := by simp; omega
      have hmod2 : (((m : Int).tmod 5) != 0) = false := by rw [Int.tmod_eq_emod_of_nonneg (by omega)]; exact hmod
      have IB : Hid (IsB wr a3 m cap3 (btTo l m)) := iB
      have hN : Hid (m = 5 * ((8 * len0 + 4) / 5)) := by unfold Hid; rw [hmn]; exact HT.out
      clear iB hown hst hmn HLm
      obtain ⟨W0, rfl⟩ : ∃ W : World, W = wr := ⟨_, rfl⟩
      go_wp2
      go_loopw [4, 5] (fun v i wx => ∃ k t : Nat, k ≤ (8 * len0 + 4) / 5 ∧ Hid (t = 5 * k) ∧ i = .int .i64 (t : Int) ∧ OwnB wx W0.heap.size v (b32To l k) ∧ Below W0.heap.size W0 wx) (fun _ i _ => m - (intOf i).toNat)
      case atStart => exact ⟨0, 0, Nat.zero_le _, rfl, rfl, OwnB.nil _ _, Below.refl _ _⟩
      case round =>
        obtain ⟨k, t, hk, ht, rfl, hown, hbel2⟩ := hrel
        have HL : Hid ((b32To l k).length = k) := b32To_length l k
        by_cases hlt : k < (8 * len0 + 4) / 5
        · have ht0 := ht.out
          have hN0 := hN.out
          obtain ⟨b0, o0, rfl, hc0⟩ := IB.out.cells (by omega)
          obtain ⟨t1, ht1⟩ : ∃ t1, t1 = t + 1 := ⟨_, rfl⟩
          obtain ⟨t2, ht2⟩ : ∃ t2, t2 = t + 2 := ⟨_, rfl⟩
          obtain ⟨t3, ht3⟩ : ∃ t3, t3 = t + 3 := ⟨_, rfl⟩
          obtain ⟨t4, ht4⟩ : ∃ t4, t4 = t + 4 := ⟨_, rfl⟩
          have gb : b0 < W0.heap.size := cell_lt (hc0 t (by omega))
          have c0 := (hbel2.cell (p := ⟨b0, o0 + t, none⟩) gb).trans (hc0 t (by omega))
          have c1 := (hbel2.cell (p := ⟨b0, o0 + t1, none⟩) gb).trans (hc0 t1 (by omega))
          have c2 := (hbel2.cell (p := ⟨b0, o0 + t2, none⟩) gb).trans (hc0 t2 (by omega))
          have c3 := (hbel2.cell (p := ⟨b0, o0 + t3, none⟩) gb).trans (hc0 t3 (by omega))
          have c4 := (hbel2.cell (p := ⟨b0, o0 + t4, none⟩) gb).trans (hc0 t4 (by omega))
          rw [btTo_at l m _ (by omega)] at c0 c1 c2 c3 c4
          have gz : b0 < wr.heap.size := Nat.lt_of_lt_of_le gb hbel2.size
          have l0 : (t : Int) < (m : Int) := by omega
          have l1 : (t1 : Int) < (m : Int) := by omega
          have l2 : (t2 : Int) < (m : Int) := by omega
          have l3 : (t3 : Int) < (m : Int) := by omega
          have l4 : (t4 : Int) < (m : Int) := by omega
          have q1 : IntKind.i64.wrap ((t : Int) + 1) = (t1 : Int) := by rw [wrapi64_in _ (by omega) (by omega)]; omega
          have q2 : IntKind.i64.wrap ((t : Int) + 2) = (t2 : Int) := by rw [wrapi64_in _ (by omega) (by omega)]; omega
          have q3 : IntKind.i64.wrap ((t : Int) + 3) = (t3 : Int) := by rw [wrapi64_in _ (by omega) (by omega)]; omega
          have q4 : IntKind.i64.wrap ((t : Int) + 4) = (t4 : Int) := by rw [wrapi64_in _ (by omega) (by omega)]; omega
          obtain ⟨n, hn⟩ : ∃ n, n = fiveOf (bitB l) (5 * k) := ⟨_, rfl⟩
          have hn32 : n < 32 := by rw [hn]; exact fiveOf_lt _ _ (bitB_lt l)
          have HO : Hid (b32To l (k + 1) = b32To l k ++ [sgn n]) := by unfold Hid; rw [b32To_succ, hn]
          have hval := five_u8 (bt l t) (bt l t1) (bt l t2) (bt l t3) (bt l t4) (by rw [bt_toNat]; exact bitB_lt _ _) (by rw [bt_toNat]; exact bitB_lt _ _) (by rw [bt_toNat]; exact bitB_lt _ _) (by rw [bt_toNat]; exact bitB_lt _ _) (by rw [bt_toNat]; exact bitB_lt _ _) n (by rw [bt_toNat, bt_toNat, bt_toNat, bt_toNat, bt_toNat, hn, ht4, ht3, ht2, ht1, ht0]; rfl)
          have hix := fun u => ixS .u8 n hn32 u
          generalize bt l t = x0 at *
          generalize bt l t1 = x1 at *
          generalize bt l t2 = x2 at *
          generalize bt l t3 = x3 at *
          generalize bt l t4 = x4 at *
          generalize sgn n = sg at *
          have HB := hown.blk
          have hk7 : k ≤ 10000000 := by omega
          clear ht0 ht1 ht2 ht3 ht4 hN0 hc0 hn hmod hmod2
          go_wp2
          go_region_held3 (fun w' => w'.cell? ⟨b0, o0 + t, none⟩ = some (.int .u8 (x0.toNat : Int)) ∧ w'.cell? ⟨b0, o0 + t1, none⟩ = some (.int .u8 (x1.toNat : Int)) ∧ w'.cell? ⟨b0, o0 + t2, none⟩ = some (.int .u8 (x2.toNat : Int)) ∧ w'.cell? ⟨b0, o0 + t3, none⟩ = some (.int .u8 (x3.toNat : Int)) ∧ w'.cell? ⟨b0, o0 + t4, none⟩ = some (.int .u8 (x4.toNat : Int)))
            ((go_split_ands; refine ⟨?_, ?_, ?_, ?_, ?_⟩ <;> (first | go_keep | (rw [hgrow.cell_far _ (by simp; omega) (fun e => by have := (HB _ e.symm).1; simp at this; omega)]; assumption))))
            ((refine step_app8 _ (by rfl) _ _ (by rfl) W0.heap.size _ (b32To l k) (by rfl) ((hown.alloc _).heap rfl) wr.heap.size 1 1 [sg] (by rfl) (by rfl) (heap_alloc_new wr _) (by omega) (by rw [HL.out]; omega) (by have := hbel2.size; simp; omega) (wr.heap.size + 1) (by simp) ?_; intro gg cap w1 hown1 hgrow hat hlt1))
          all_goals
            clear q1 q2 q3 q4 hval
            go_wp2
            go_roundw
            case rel => exact ⟨k + 1, t + 5, by omega, by have := ht.out; unfold Hid; omega, by go_num, by rw [HO.out]; exact hown1, ((hbel2.alloc hbel2.size _).drew).grown hgrow (by have := hbel2.size; simp; omega) (fun j hj => (HB j hj).1)⟩
            case measure => simp [intOf]; omega
        · have hge : ¬ ((t : Int) < (m : Int)) := by have := ht.out; have := hN.out; omega
          have HA : Hid (b32To l k = b32L l) := b32To_all l k (by rw [e0.out]; omega)
          have hcv := conv_own wr W0.heap.size u4 _ hown
          rw [HA.out] at hcv
          have HF : Hid (Below w.heap.size w wr) := hbel.trans (hbel2.mono hbel.size)
          clear hown
          go_wp2
          go_ret
          exact ⟨rfl, HF.out⟩
    · have hmod : ((m : Int) % 5 == 0) = false := by simp; omega
      have hmod2 : ¬ (m : Int) % 5 = 0 := by omega
      have hlt : m < nT := by have := HT.out; omega
      have HO : Hid (btTo l (m + 1) = btTo l m ++ [0]) := by unfold Hid; rw [btTo_succ, bt_zero l m (by rw [e0.out]; exact hm1)]
      have HB := hown.blk
      clear hst iB
      go_wp2_with (at_builtin; refine list_app8 _ rfl (.tmp 12) (.tmp 13) rfl w.heap.size _ (btTo l m) rfl (hown.alloc _) wr.heap.size 1 1 [0] rfl rfl (heap_alloc_new wr _) (by omega) (by rw [HLm.out]; omega) (by have := hbel.size; simp; omega) _ rfl ?_; intro g4 cap4 w4 hown4 hgrow4 hat4 hlt4)
      go_roundw
      case rel => exact ⟨m + 1, by omega, hlt, by rw [HO.out]; exact hown4, (hbel.alloc hbel.size _).grown hgrow4 (by have := hbel.size; simp; omega) (fun q hq => (HB q hq).1)⟩
      case measure => simp [sliceLen2]; rw [HLm.out]; omega
end Go.Proofs.Ytmgflcglmakceaa
