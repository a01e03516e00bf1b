/- slices.Concat of headers and one more; sigv4.namesOf; slices.Clone of bytes. · sigv4: which bytes may stand where. -/
import Derived.Test.YtgjmaeodgcigdaaGreatDoorB27
import Derived.Lib.SlicesS
import Derived.Test.YtgjmaeodgcigdaaGreatDoorS6a
import Derived.Test.YtgjmaeodgcigdaaGreatDoorB22
import Derived.Test.YtgjmaeodgcigdaaGreatDoorB23
namespace Go.Proofs.YtgjmaeodgcigdaaGreatDoor
open Go.RowKit
open Go.Sort hiding Below

def preT (hs : List Pr) (p : Pr) (k : Nat) : List Pr := if k = 0 then [] else if k = 1 then hs else hs ++ [p]
def preN (n k : Nat) : Nat := if k = 0 then 0 else if k = 1 then n else n + 1

set_option maxRecDepth 20000 in
set_option maxHeartbeats 2000000 in
theorem codConcat (X : Nat) (a1 : Option Addr) (n1 c1 : Nat) (B : Nat) (hs : List Pr) (p : Pr) (w : World) (hX : Blk w X 32 [.slice a1 n1 c1, .slice (some ⟨B, 0, none⟩) 1 1]) (h1 : IsP w a1 n1 c1 hs) (hp : Blk w B 68 [.string (str p.1), .string (str p.2)]) (hn : n1 ≤ 100) :
    Calls Tryz.prog 64 #[.slice (some ⟨X, 0, none⟩) 2 2] w fun e w' => ∃ v, e = .returned v ∧ OwnP 68 w' w.heap.size v (hs ++ [p]) ∧ Below w.heap.size w w' := by
  have HL := h1.len_eq
  have g0 : w.cell? ⟨X, 0, none⟩ = some (.slice a1 n1 c1) := hX.cell 0
  have g1 : w.cell? ⟨X, 1, none⟩ = some (.slice (some ⟨B, 0, none⟩) 1 1) := hX.cell 1
  have HG := codGrow (n1 + 1)
  have HXw : Hid (∀ W, Below w.heap.size w W → Blk W X 32 [.slice a1 n1 c1, .slice (some ⟨B, 0, none⟩) 1 1]) := fun W hW => hX.on hW
  have HP1 : Hid (∀ W, Below w.heap.size w W → IsPV W (.slice a1 n1 c1) hs) := fun W hW => ⟨a1, c1, by rw [HL], by rw [HL]; exact h1.below hW rfl⟩
  have HP2 : Hid (∀ W, Below w.heap.size w W → IsPV W (.slice (some ⟨B, 0, none⟩) 1 1) [p]) := fun W hW => isPV_one p.1 p.2 (hp.on hW)
  clear hX h1 hp
  go_enter Tryz.func64, Tryz.ntmps64
  go_wp2
  go_loopw [3, 11] (fun s i wr => ∃ k : Nat, k ≤ 2 ∧ i = .int .i64 k ∧ s = .int .i64 ((preN n1 k : Nat) : Int) ∧ wr = w) (fun _ i _ => 2 - (intOf i).toNat)
  case atStart => exact ⟨0, Nat.zero_le _, rfl, rfl, rfl⟩
  case round =>
    obtain ⟨k, hk, rfl, rfl, hww⟩ := hrel
    replace hww := hww.symm
    subst hww
    match k, hk with
    | 0, _ =>
      have y1 : (preN n1 0 : Nat) = 0 := rfl
      rw [y1]
      have i1 : ¬ (n1 : Int) < 0 := by omega
      have i3 : IntKind.i64.wrap (n1 : Int) = n1 := wrapi64_in _ (by omega) (by omega)
      go_wp2
      go_roundw
      case rel => exact ⟨1, by omega, by go_num, by first | rfl | (simp [preN]), by first | rfl | trivial⟩
      case measure => simp [intOf]
    | 1, _ =>
      have y1 : (preN n1 1 : Nat) = n1 := rfl
      rw [y1]
      have i1 : ¬ (n1 : Int) + 1 < 0 := by omega
      have i3 : IntKind.i64.wrap ((n1 : Int) + 1) = (n1 : Int) + 1 := wrapi64_in _ (by omega) (by omega)
      go_wp2
      go_roundw
      case rel => exact ⟨2, by omega, by go_num, by first | rfl | (simp [preN]), by first | rfl | trivial⟩
      case measure => simp [intOf]
    | 2, _ =>
      have y1 : ((preN n1 2 : Nat) : Int) = ((n1 + 1 : Nat) : Int) := rfl
      rw [y1]
      go_wp2_with (go_at_call 113; refine (HG _ (by omega) (by omega)).mono ?_; rintro e x1 ⟨v1, rfl, ho1, hb1⟩)
      have HO1 : Hid (OwnP 68 x1 w.heap.size v1 []) := ho1
      have HB1 : Hid (Below w.heap.size w x1) := hb1
      clear ho1 hb1 g0 g1
      go_loopw [6, 27] (fun v i wy => ∃ k : Nat, k ≤ 2 ∧ i = .int .i64 k ∧ Hid (OwnP 68 wy w.heap.size v (preT hs p k)) ∧ Hid (Below w.heap.size w wy)) (fun _ i _ => 2 - (intOf i).toNat)
      case atStart => exact ⟨0, Nat.zero_le _, rfl, HO1, HB1⟩
      case round =>
        obtain ⟨k, hk, rfl, HO, HB⟩ := hrel
        clear HO1 HB1
        match k, hk with
        | 0, _ =>
          have g0 : wr.cell? ⟨X, 0, none⟩ = some (.slice a1 n1 c1) := (HXw.out wr HB.out).cell 0
          have hown := HO.out
          have hblk := hown.blk
          have hpv := HP1.out wr HB.out
          go_wp2_with (at_builtin; refine list_appV 32 68 Tryz.underlying32 infoH6 _ rfl _ _ rfl w.heap.size _ _ rfl hown _ hs rfl hpv (by rw [HL]; show (0 + n1) * 32 ≤ _; omega) HB.out.size ?_; intro v2 y2 ho2 hg2)
          go_roundw
          case rel => exact ⟨1, by omega, by go_num, ho2, HB.out.grown hg2 HB.out.size (fun i hi => (hblk i hi).1)⟩
          case measure => simp [intOf]
        | 1, _ =>
          have g0 : wr.cell? ⟨X, 1, none⟩ = some (.slice (some ⟨B, 0, none⟩) 1 1) := (HXw.out wr HB.out).cell 1
          have hown := HO.out
          have hblk := hown.blk
          have hpv := HP2.out wr HB.out
          go_wp2_with (at_builtin; refine list_appV 32 68 Tryz.underlying32 infoH6 _ rfl _ _ rfl w.heap.size _ _ rfl hown _ [p] rfl hpv (by show (hs.length + 1) * 32 ≤ _; rw [HL]; omega) HB.out.size ?_; intro v2 y2 ho2 hg2)
          go_roundw
          case rel => exact ⟨2, by omega, by go_num, ho2, HB.out.grown hg2 HB.out.size (fun i hi => (hblk i hi).1)⟩
          case measure => simp [intOf]
        | 2, _ =>
          go_wp2
          go_ret
          exact ⟨_, rfl, HO.out, HB.out⟩

def nmsL (hs : List Pr) : List (List UInt8) := (hs.map (·.1)).mergeSort fun x y => decide (x ≤ y)
theorem sv_enc (l : List (List UInt8)) : l.map sv = l.map encStr := by
  apply List.map_congr_left
  intro x _
  rfl
theorem OwnT.sorted {w : World} {N g cap n : Nat} {os : Array Obj} {ss : List (List UInt8)} (h : OwnT w N (.slice (some ⟨g, 0, none⟩) ss.length cap) ss) :
    Holds encStr w g 0 ss.toArray ∧ ∀ ts : List (List UInt8), ts.length = ss.length → OwnT (grow (putRow encStr (Sort.ahead w n) g 0 ts.toArray) os) N (.slice (some ⟨g, 0, none⟩) ss.length cap) ts := by
  unfold OwnT at h
  rcases h.2 with ⟨e, _⟩ | ⟨g', cap', cur, e, hb, hg, h1, h2, h3, h4⟩
  · cases e
  · cases e
    rw [Nat.mul_one, sv_enc] at h4
    refine ⟨holds_of_block hg h4, fun ts hl => ?_⟩
    unfold OwnT
    rw [hl, sv_enc]
    exact ownsRow_sorted hl hb hg h1 h2 h3

set_option maxRecDepth 20000 in
set_option maxHeartbeats 2000000 in
theorem codNames (m p q bd : Value) (ha : Option Addr) (hn hc : Nat) (hs : List Pr) (w : World) (hP : IsP w ha hn hc hs) (h1 : 1 ≤ hn) (h2 : hn ≤ 1000) :
    Calls Tryz.prog 65 #[.agg #[m, p, q, .slice ha hn hc, bd]] w fun e w' => ∃ v, e = .returned v ∧ OwnT w' w.heap.size v (nmsL hs) ∧ Below w.heap.size w w' := by
  have HL := hP.len_eq
  have T0 : Below w.heap.size w (w.alloc (.cells #[m, p, q, .slice ha hn hc, bd] 34)) := (Below.refl _ w).alloc (Nat.le_refl _) _
  have K0 := Blk.newAt w w.heap.size 34 _ [m, p, q, .slice ha hn hc, bd] rfl rfl
  have c3 := K0.cell 3
  have d3 : ∀ W, Below (w.alloc (.cells #[m, p, q, .slice ha hn hc, bd] 34)).heap.size (w.alloc (.cells #[m, p, q, .slice ha hn hc, bd] 34)) W → W.cell? ⟨w.heap.size, 3, none⟩ = some (.slice ha hn hc) := fun W hW => (K0.on hW).cell 3
  obtain ⟨b, off, rfl, hcl⟩ := hP.cells (by omega)
  have hbl : b < w.heap.size := cell_lt (hcl 0 (by omega)).1
  clear hP
  go_enter Tryz.func65, Tryz.ntmps65
  go_upto_region 2 with (at_make; refine make_ownT _ rfl _ _ rfl w.heap.size .i64 .i64 _ hn rfl rfl (by omega) (by omega) T0.size ?_; intro w1 hown1 hgrow1)
  have B1 : Below (w.alloc (.cells #[m, p, q, .slice (some ⟨b, off, none⟩) hn hc, bd] 34)).heap.size (w.alloc (.cells #[m, p, q, .slice (some ⟨b, off, none⟩) hn hc, bd] 34)) w1 := (Below.refl _ _).grown hgrow1 (Nat.le_refl _) (fun k h => by cases h)
  have e3 := d3 w1 B1
  have HO1 : Hid (OwnT w1 w.heap.size (.slice (some ⟨w.heap.size + 1, 0, none⟩) 0 hn) []) := by
    have h9 : (w.alloc (.cells #[m, p, q, .slice (some ⟨b, off, none⟩) hn hc, bd] 34)).heap.size = w.heap.size + 1 := by simp
    rw [← h9]; exact hown1
  have HB1 : Hid (Below w.heap.size w w1) := T0.trans (B1.mono T0.size)
  clear hown1 hgrow1 B1 d3 K0 c3 T0
  go_wp2
  go_loopw [3, 13] (fun v i wr => ∃ k : Nat, k ≤ hn ∧ i = .int .i64 k ∧ Hid (OwnT wr w.heap.size v ((hs.take k).map (·.1))) ∧ Hid (Below w.heap.size w wr)) (fun _ i _ => hn - (intOf i).toNat)
  case atStart => exact ⟨0, Nat.zero_le _, rfl, HO1, HB1⟩
  case round =>
    obtain ⟨k, hk, rfl, HO, HB⟩ := hrel
    clear HO1 HB1
    by_cases hlt : k < hn
    · obtain ⟨c1, c2⟩ := hcl k hlt
      have g1 := (HB.out.cell (p := ⟨b, off + k * 2, none⟩) hbl).trans c1
      have g2 := (HB.out.cell (p := ⟨b, off + k * 2 + 1, none⟩) hbl).trans c2
      have hb0 : (0 : Int) ≤ (k : Int) := by omega
      have hb1 : (k : Int) < (hn : Int) := by omega
      have HT : Hid ((hs.take (k + 1)).map (·.1) = (hs.take k).map (·.1) ++ [(nthP hs k).1]) := by unfold Hid; rw [take_nthP hs k (by omega), List.map_append]; rfl
      have HK : Hid (((hs.take k).map (·.1)).length ≤ 1000) := by unfold Hid; rw [List.length_map, List.length_take]; omega
      have hown := HO.out
      have hblk := hown.blk
      clear c1 c2
      generalize (hs.take k).map (·.1) = tx at *
      generalize nthP hs k = x at *
      go_wp2_with (at_builtin; refine list_appX _ rfl _ _ rfl w.heap.size _ tx rfl ((hown.alloc _).alloc _) (wr.heap.size + 1) x.1 rfl (Blk.newAt _ _ _ _ [_] (by simp) rfl) (by have := HK.out; omega) (by have := HB.out.size; simp; omega) ?_; intro v1 y1 ho1 hg1)
      go_roundw
      case rel => exact ⟨k + 1, by omega, by go_num, by unfold Hid; rw [HT.out]; exact ho1, ((HB.out.alloc HB.out.size _).alloc (by have := HB.out.size; simp; omega) _).grown hg1 (by have := HB.out.size; simp; omega) (fun i hi => (hblk i hi).1)⟩
      case measure => simp [intOf]; omega
    · have hkn : k = hn := by omega
      subst hkn
      have hge : ¬ (k : Int) < (k : Int) := by omega
      have ho := HO.out
      rw [List.take_of_length_le (by omega)] at ho
      obtain ⟨g, cap, rfl, hg1, hg2⟩ := ho.form (by rw [List.length_map]; omega)
      have HS := Tryz.slices_Sort_string g 0 cap (hs.map (·.1)) wr (OwnT.sorted (n := 0) (os := #[]) ho).1 hg2 (by rw [List.length_map]; omega)
      have HOS : Hid (∀ n os, OwnT (grow (putRow encStr (Sort.ahead wr n) g 0 (nmsL hs).toArray) os) w.heap.size (.slice (some ⟨g, 0, none⟩) (hs.map (·.1)).length cap) (nmsL hs)) := fun n os => (OwnT.sorted (n := n) (os := os) ho).2 _ (by unfold nmsL; rw [List.length_mergeSort])
      have HBS : Hid (∀ n os, Below w.heap.size w (grow (putRow encStr (Sort.ahead wr n) g 0 (nmsL hs).toArray) os)) := fun n os => HB.out.grown (grownBy_sorted _) HB.out.size (fun i hi => by cases hi; exact hg1)
      change Calls Tryz.prog 114 _ _ fun e w' => e = .returned (.tuple #[]) ∧ ∃ n os, w' = grow (putRow encStr (Sort.ahead wr n) g 0 (nmsL hs).toArray) os at HS
      clear ho HO
      generalize (hs.map (·.1)).length = hl at *
      go_wp2_with (go_at_call 114; refine HS.mono ?_; rintro e y1 ⟨rfl, nn, os, rfl⟩)
      go_ret
      exact ⟨_, rfl, HOS.out _ _, HBS.out _ _⟩

set_option maxRecDepth 20000 in
set_option maxHeartbeats 1000000 in
theorem codClone (a : Option Addr) (n c : Nat) (l : List UInt8) (w : World) (h : IsB w a n c l) (hn : n ≤ 1000000) :
    Calls Tryz.prog 66 #[.slice a n c] w fun e w' => ∃ v, e = .returned v ∧ OwnB w' w.heap.size v l ∧ Below w.heap.size w w' := by
  have HQ := fun W => Lib.run_eql_slice_nil (P := Tryz.prog) W 23 5 a n c 0 0 Tryz.underlying23
  cases a with
  | none =>
    have h0 := h.nil rfl
    have hle := h.le
    have hl := h.len_eq
    have : l = [] := List.eq_nil_of_length_eq_zero (by omega)
    subst this
    change ∀ W, (binOp .eql 23 (.slice none n c) (.slice none 0 0)).run Tryz.prog W = .ok (.bool true) W at HQ
    clear h h0 hle hl
    go_enter Tryz.func66, Tryz.ntmps66
    go_wp2
    go_ret
    exact ⟨_, rfl, OwnB.nil _ _, Below.refl _ _⟩
  | some ad =>
    change ∀ W, (binOp .eql 23 (.slice (some ad) n c) (.slice none 0 0)).run Tryz.prog W = .ok (.bool false) W at HQ
    have H : Hid (IsB w (some ad) n c l) := h
    clear h
    have O0 : OwnB (w.alloc (.cells #[] 5)) w.heap.size (.slice (some ⟨w.heap.size, 0, none⟩) 0 0) [] := World.ownsRow_made w #[] 0 (Nat.le_refl _) (Nat.zero_le _) rfl
    have B0 : Below w.heap.size w (w.alloc (.cells #[] 5)) := (Below.refl _ w).alloc (Nat.le_refl _) _
    have I0 : IsB (w.alloc (.cells #[] 5)) (some ad) n c l := H.out.below B0 rfl
    go_enter Tryz.func66, Tryz.ntmps66
    go_wp2_with (at_builtin; refine list_appS _ rfl _ _ rfl w.heap.size _ [] rfl O0 _ _ _ l rfl I0 (by show 0 + n ≤ _; omega) B0.size ?_; intro v1 y1 ho1 hg1)
    go_ret
    exact ⟨_, rfl, ho1, B0.grown hg1 B0.size (fun i hi => by cases hi; exact Nat.le_refl _)⟩
end Go.Proofs.YtgjmaeodgcigdaaGreatDoor
namespace Go.Proofs.YtgjmaeodgcigdaaGreatDoor
open Go.RowKit

def smB (c : UInt8) : Bool := decide (97 ≤ c.toNat ∧ c.toNat ≤ 122)
def hxB (c : UInt8) : Bool := decide (48 ≤ c.toNat ∧ c.toNat ≤ 57 ∨ 97 ≤ c.toNat ∧ c.toNat ≤ 102)

set_option maxHeartbeats 1000000 in
theorem codIsDigit (c : UInt8) (w : World) :
    Calls Tryz.prog 109 #[.int .u8 (c.toNat : Int)] w fun e w' => e = .returned (.bool (dtB c)) ∧ w' = w := by
  unfold dtB
  have hlt := c.toNat_lt
  generalize c.toNat = n at *
  have hn : (0 : Int) ≤ (n : Int) := by omega
  obtain ⟨r, HRR⟩ : ∃ r, Hid (r = decide (48 ≤ n ∧ n ≤ 57)) := ⟨_, rfl⟩
  rw [← HRR.out]
  by_cases h1 : 48 ≤ n
  · have i1 : (48 : Int) ≤ (n : Int) := by omega
    by_cases h2 : n ≤ 57
    · have i2 : (n : Int) ≤ 57 := by omega
      have HR : Hid (r = true) := by unfold Hid; rw [HRR.out]; exact decide_eq_true ⟨h1, h2⟩
      go_enter Tryz.func109, Tryz.ntmps109
      go_wp2
      go_ret
      refine ⟨ret_b ?_, by first | rfl | trivial⟩
      first | exact HR.out.symm | (rw [HR.out]; simp; omega)
    · have i2 : ¬ (n : Int) ≤ 57 := by omega
      have HR : Hid (r = false) := by unfold Hid; rw [HRR.out]; exact decide_eq_false (fun h => h2 h.2)
      go_enter Tryz.func109, Tryz.ntmps109
      go_wp2
      go_ret
      refine ⟨ret_b ?_, by first | rfl | trivial⟩
      first | exact HR.out.symm | (rw [HR.out]; simp; omega)
  · have i1 : ¬ (48 : Int) ≤ (n : Int) := by omega
    have HR : Hid (r = false) := by unfold Hid; rw [HRR.out]; exact decide_eq_false (fun h => h1 h.1)
    go_enter Tryz.func109, Tryz.ntmps109
    go_wp2
    go_ret
    refine ⟨ret_b ?_, by first | rfl | trivial⟩
    first | exact HR.out.symm | (rw [HR.out]; simp; omega)

set_option maxHeartbeats 1000000 in
theorem codIsSmall (c : UInt8) (w : World) :
    Calls Tryz.prog 119 #[.int .u8 (c.toNat : Int)] w fun e w' => e = .returned (.bool (smB c)) ∧ w' = w := by
  unfold smB
  have hlt := c.toNat_lt
  generalize c.toNat = n at *
  have hn : (0 : Int) ≤ (n : Int) := by omega
  obtain ⟨r, HRR⟩ : ∃ r, Hid (r = decide (97 ≤ n ∧ n ≤ 122)) := ⟨_, rfl⟩
  rw [← HRR.out]
  by_cases h1 : 97 ≤ n
  · have i1 : (97 : Int) ≤ (n : Int) := by omega
    by_cases h2 : n ≤ 122
    · have i2 : (n : Int) ≤ 122 := by omega
      have HR : Hid (r = true) := by unfold Hid; rw [HRR.out]; exact decide_eq_true ⟨h1, h2⟩
      go_enter Tryz.func119, Tryz.ntmps119
      go_wp2
      go_ret
      refine ⟨ret_b ?_, by first | rfl | trivial⟩
      first | exact HR.out.symm | (rw [HR.out]; simp; omega)
    · have i2 : ¬ (n : Int) ≤ 122 := by omega
      have HR : Hid (r = false) := by unfold Hid; rw [HRR.out]; exact decide_eq_false (fun h => h2 h.2)
      go_enter Tryz.func119, Tryz.ntmps119
      go_wp2
      go_ret
      refine ⟨ret_b ?_, by first | rfl | trivial⟩
      first | exact HR.out.symm | (rw [HR.out]; simp; omega)
  · have i1 : ¬ (97 : Int) ≤ (n : Int) := by omega
    have HR : Hid (r = false) := by unfold Hid; rw [HRR.out]; exact decide_eq_false (fun h => h1 h.1)
    go_enter Tryz.func119, Tryz.ntmps119
    go_wp2
    go_ret
    refine ⟨ret_b ?_, by first | rfl | trivial⟩
    first | exact HR.out.symm | (rw [HR.out]; simp; omega)

set_option maxHeartbeats 1000000 in
theorem codIsHex (c : UInt8) (w : World) :
    Calls Tryz.prog 110 #[.int .u8 (c.toNat : Int)] w fun e w' => e = .returned (.bool (hxB c)) ∧ w' = w := by
  have HD := fun w => codIsDigit c w
  unfold dtB at HD
  unfold hxB
  have hlt := c.toNat_lt
  generalize c.toNat = n at *
  have hn : (0 : Int) ≤ (n : Int) := by omega
  obtain ⟨r, HRR⟩ : ∃ r, Hid (r = decide (48 ≤ n ∧ n ≤ 57 ∨ 97 ≤ n ∧ n ≤ 102)) := ⟨_, rfl⟩
  rw [← HRR.out]
  by_cases h0 : 48 ≤ n ∧ n ≤ 57
  · rw [decide_eq_true h0] at HD
    have HR : Hid (r = true) := by unfold Hid; rw [HRR.out]; exact decide_eq_true (.inl h0)
    go_enter Tryz.func110, Tryz.ntmps110
    go_wp2_with (go_at_call 109; refine (HD _).mono ?_; rintro e w' ⟨rfl, rfl⟩)
    go_ret
    refine ⟨ret_b ?_, by first | rfl | trivial⟩
    first | exact HR.out.symm | (rw [HR.out]; simp; omega)
  · rw [decide_eq_false h0] at HD
    by_cases h1 : 97 ≤ n
    · have i1 : (97 : Int) ≤ (n : Int) := by omega
      by_cases h2 : n ≤ 102
      · have i2 : (n : Int) ≤ 102 := by omega
        have HR : Hid (r = true) := by unfold Hid; rw [HRR.out]; exact decide_eq_true (.inr ⟨h1, h2⟩)
        go_enter Tryz.func110, Tryz.ntmps110
        go_wp2_with (go_at_call 109; refine (HD _).mono ?_; rintro e w' ⟨rfl, rfl⟩)
        go_ret
        refine ⟨ret_b ?_, by first | rfl | trivial⟩
        first | exact HR.out.symm | (rw [HR.out]; simp; omega)
      · have i2 : ¬ (n : Int) ≤ 102 := by omega
        have HR : Hid (r = false) := by unfold Hid; rw [HRR.out]; exact decide_eq_false (by omega)
        go_enter Tryz.func110, Tryz.ntmps110
        go_wp2_with (go_at_call 109; refine (HD _).mono ?_; rintro e w' ⟨rfl, rfl⟩)
        go_ret
        refine ⟨ret_b ?_, by first | rfl | trivial⟩
        first | exact HR.out.symm | (rw [HR.out]; simp; omega)
    · have i1 : ¬ (97 : Int) ≤ (n : Int) := by omega
      have HR : Hid (r = false) := by unfold Hid; rw [HRR.out]; exact decide_eq_false (by omega)
      go_enter Tryz.func110, Tryz.ntmps110
      go_wp2_with (go_at_call 109; refine (HD _).mono ?_; rintro e w' ⟨rfl, rfl⟩)
      go_ret
      refine ⟨ret_b ?_, by first | rfl | trivial⟩
      first | exact HR.out.symm | (rw [HR.out]; simp; omega)

set_option maxHeartbeats 1000000 in
theorem codIsAlnum (c : UInt8) (w : World) :
    Calls Tryz.prog 108 #[.int .u8 (c.toNat : Int)] w fun e w' => e = .returned (.bool (acNB c)) ∧ w' = w := by
  have HD := fun w => codIsDigit c w
  have HS := fun w => codIsSmall c w
  unfold dtB at HD
  unfold smB at HS
  unfold acNB acN
  have hlt := c.toNat_lt
  generalize c.toNat = n at *
  have hn : (0 : Int) ≤ (n : Int) := by omega
  obtain ⟨r, HRR⟩ : ∃ r, Hid (r = decide (97 ≤ n ∧ n ≤ 122 ∨ 65 ≤ n ∧ n ≤ 90 ∨ 48 ≤ n ∧ n ≤ 57)) := ⟨_, rfl⟩
  rw [← HRR.out]
  by_cases h0 : 48 ≤ n ∧ n ≤ 57
  · rw [decide_eq_true h0] at HD
    have HR : Hid (r = true) := by unfold Hid; rw [HRR.out]; exact decide_eq_true (.inr (.inr h0))
    go_enter Tryz.func108, Tryz.ntmps108
    go_wp2_with (first | (go_at_call 109; refine (HD _).mono ?_; rintro e w' ⟨rfl, rfl⟩) | (go_at_call 119; refine (HS _).mono ?_; rintro e w' ⟨rfl, rfl⟩))
    go_ret
    refine ⟨ret_b ?_, by first | rfl | trivial⟩
    first | exact HR.out.symm | (rw [HR.out]; simp; omega)
  · rw [decide_eq_false h0] at HD
    by_cases h9 : 97 ≤ n ∧ n ≤ 122
    · rw [decide_eq_true h9] at HS
      have HR : Hid (r = true) := by unfold Hid; rw [HRR.out]; exact decide_eq_true (.inl h9)
      go_enter Tryz.func108, Tryz.ntmps108
      go_wp2_with (first | (go_at_call 109; refine (HD _).mono ?_; rintro e w' ⟨rfl, rfl⟩) | (go_at_call 119; refine (HS _).mono ?_; rintro e w' ⟨rfl, rfl⟩))
      go_ret
      refine ⟨ret_b ?_, by first | rfl | trivial⟩
      first | exact HR.out.symm | (rw [HR.out]; simp; omega)
    · rw [decide_eq_false h9] at HS
      by_cases h1 : 65 ≤ n
      · have i1 : (65 : Int) ≤ (n : Int) := by omega
        by_cases h2 : n ≤ 90
        · have i2 : (n : Int) ≤ 90 := by omega
          have HR : Hid (r = true) := by unfold Hid; rw [HRR.out]; exact decide_eq_true (.inr (.inl ⟨h1, h2⟩))
          go_enter Tryz.func108, Tryz.ntmps108
          go_wp2_with (first | (go_at_call 109; refine (HD _).mono ?_; rintro e w' ⟨rfl, rfl⟩) | (go_at_call 119; refine (HS _).mono ?_; rintro e w' ⟨rfl, rfl⟩))
          go_ret
          refine ⟨ret_b ?_, by first | rfl | trivial⟩
          first | exact HR.out.symm | (rw [HR.out]; simp; omega)
        · have i2 : ¬ (n : Int) ≤ 90 := by omega
          have HR : Hid (r = false) := by unfold Hid; rw [HRR.out]; exact decide_eq_false (by omega)
          go_enter Tryz.func108, Tryz.ntmps108
          go_wp2_with (first | (go_at_call 109; refine (HD _).mono ?_; rintro e w' ⟨rfl, rfl⟩) | (go_at_call 119; refine (HS _).mono ?_; rintro e w' ⟨rfl, rfl⟩))
          go_ret
          refine ⟨ret_b ?_, by first | rfl | trivial⟩
          first | exact HR.out.symm | (rw [HR.out]; simp; omega)
      · have i1 : ¬ (65 : Int) ≤ (n : Int) := by omega
        have HR : Hid (r = false) := by unfold Hid; rw [HRR.out]; exact decide_eq_false (by omega)
        go_enter Tryz.func108, Tryz.ntmps108
        go_wp2_with (first | (go_at_call 109; refine (HD _).mono ?_; rintro e w' ⟨rfl, rfl⟩) | (go_at_call 119; refine (HS _).mono ?_; rintro e w' ⟨rfl, rfl⟩))
        go_ret
        refine ⟨ret_b ?_, by first | rfl | trivial⟩
        first | exact HR.out.symm | (rw [HR.out]; simp; omega)

set_option maxHeartbeats 1000000 in
theorem codInName (c : UInt8) (w : World) :
    Calls Tryz.prog 74 #[.int .u8 (c.toNat : Int)] w fun e w' => e = .returned (.bool (snNB c)) ∧ w' = w := by
  have HD := fun w => codIsDigit c w
  have HS := fun w => codIsSmall c w
  unfold dtB at HD
  unfold smB at HS
  unfold snNB snN
  have hlt := c.toNat_lt
  generalize c.toNat = n at *
  have hn : (0 : Int) ≤ (n : Int) := by omega
  obtain ⟨r, HRR⟩ : ∃ r, Hid (r = decide (48 ≤ n ∧ n ≤ 57 ∨ 97 ≤ n ∧ n ≤ 122 ∨ n = 45 ∨ n = 95)) := ⟨_, rfl⟩
  rw [← HRR.out]
  by_cases h0 : 48 ≤ n ∧ n ≤ 57
  · rw [decide_eq_true h0] at HD
    have HR : Hid (r = true) := by unfold Hid; rw [HRR.out]; exact decide_eq_true (.inl h0)
    go_enter Tryz.func74, Tryz.ntmps74
    go_wp2_with (first | (go_at_call 109; refine (HD _).mono ?_; rintro e w' ⟨rfl, rfl⟩) | (go_at_call 119; refine (HS _).mono ?_; rintro e w' ⟨rfl, rfl⟩))
    go_ret
    refine ⟨ret_b ?_, by first | rfl | trivial⟩
    first | exact HR.out.symm | (rw [HR.out]; simp; omega)
  · rw [decide_eq_false h0] at HD
    by_cases h9 : 97 ≤ n ∧ n ≤ 122
    · rw [decide_eq_true h9] at HS
      have HR : Hid (r = true) := by unfold Hid; rw [HRR.out]; exact decide_eq_true (.inr (.inl h9))
      go_enter Tryz.func74, Tryz.ntmps74
      go_wp2_with (first | (go_at_call 109; refine (HD _).mono ?_; rintro e w' ⟨rfl, rfl⟩) | (go_at_call 119; refine (HS _).mono ?_; rintro e w' ⟨rfl, rfl⟩))
      go_ret
      refine ⟨ret_b ?_, by first | rfl | trivial⟩
      first | exact HR.out.symm | (rw [HR.out]; simp; omega)
    · rw [decide_eq_false h9] at HS
      by_cases h1 : n = 45
      · have HR : Hid (r = true) := by unfold Hid; rw [HRR.out]; exact decide_eq_true (.inr (.inr (.inl h1)))
        have e45 : ((n : Int) == 45) = true := by rw [beq_iff_eq]; omega
        clear h1
        go_enter Tryz.func74, Tryz.ntmps74
        go_wp2_with (first | (go_at_call 109; refine (HD _).mono ?_; rintro e w' ⟨rfl, rfl⟩) | (go_at_call 119; refine (HS _).mono ?_; rintro e w' ⟨rfl, rfl⟩))
        go_ret
        refine ⟨ret_b ?_, by first | rfl | trivial⟩
        first | exact HR.out.symm | (rw [HR.out]; simp; omega)
      · have e45 : ((n : Int) == 45) = false := by rw [beq_eq_false_iff_ne]; omega
        have f45 : ¬ (n : Int) = 45 := by omega
        by_cases h2 : n = 95
        · have HR : Hid (r = true) := by unfold Hid; rw [HRR.out]; exact decide_eq_true (.inr (.inr (.inr h2)))
          have e95 : ((n : Int) == 95) = true := by rw [beq_iff_eq]; omega
          clear h2
          go_enter Tryz.func74, Tryz.ntmps74
          go_wp2_with (first | (go_at_call 109; refine (HD _).mono ?_; rintro e w' ⟨rfl, rfl⟩) | (go_at_call 119; refine (HS _).mono ?_; rintro e w' ⟨rfl, rfl⟩))
          go_ret
          refine ⟨ret_b ?_, by first | rfl | trivial⟩
          first | exact HR.out.symm | (rw [HR.out]; simp; omega)
        · have e95 : ((n : Int) == 95) = false := by rw [beq_eq_false_iff_ne]; omega
          have f95 : ¬ (n : Int) = 95 := by omega
          have HR : Hid (r = false) := by unfold Hid; rw [HRR.out]; exact decide_eq_false (by omega)
          go_enter Tryz.func74, Tryz.ntmps74
          go_wp2_with (first | (go_at_call 109; refine (HD _).mono ?_; rintro e w' ⟨rfl, rfl⟩) | (go_at_call 119; refine (HS _).mono ?_; rintro e w' ⟨rfl, rfl⟩))
          go_ret
          refine ⟨ret_b ?_, by first | rfl | trivial⟩
          first | exact HR.out.symm | (rw [HR.out]; simp; omega)
end Go.Proofs.YtgjmaeodgcigdaaGreatDoor
