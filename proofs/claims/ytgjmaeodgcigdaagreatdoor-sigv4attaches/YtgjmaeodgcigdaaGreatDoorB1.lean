/- steleref06.name. · Slices of bytes that a call itself makes and appends to: laws at this program's types. -/
import Derived.Test.YtgjmaeodgcigdaaGreatDoorB0
import Derived.Deep.RegionHeld3
import Derived.Deep.AppendLies
import Derived.Deep.DrawnRows
namespace Go.Proofs.YtgjmaeodgcigdaaGreatDoor
open Go.RowKit

def snN (n : Nat) : Bool := decide (48 ≤ n ∧ n ≤ 57 ∨ 97 ≤ n ∧ n ≤ 122 ∨ n = 45 ∨ n = 95)
def snNB (c : UInt8) : Bool := snN c.toNat
def snameL (l : List UInt8) : Bool := l.all snNB && decide (1 ≤ l.length ∧ l.length ≤ 64)

set_option maxRecDepth 20000 in
set_option maxHeartbeats 4000000 in
theorem refSName (l : List UInt8) (w : World) (hl : l.length ≤ 140737488351232) :
    Calls Tryz.prog 90 #[.string (str l)] w fun e w' => e = .returned (.bool (snameL l)) ∧ w' = w := by
  have HZ : Hid ((str l).size = l.length) := str_size l
  have HS : Hid ((str l).data.toList = l) := str_list l
  generalize str l = s at *
  have hsz : s.size ≤ 140737488351232 := by rw [HZ.out]; exact hl
  go_enter Tryz.func90, Tryz.ntmps90
  go_wp2
  go_loopw [3] (fun i wr => ∃ (k : Nat), k ≤ s.size ∧ i = .int .i64 k ∧ Hid ((l.take k).all snNB = true) ∧ wr = w) (fun i _ => s.size - (intOf i).toNat)
  case atStart => exact ⟨0, Nat.zero_le _, rfl, rfl, rfl⟩
  case round =>
    obtain ⟨k, hk, rfl, HD, rfl⟩ := hrel
    by_cases hlt : k < s.size
    · have hb0 : (0 : Int) ≤ (k : Int) := by omega
      have hb1 : (k : Int) < (s.size : Int) := by omega
      have hkl : k < l.length := by rw [← HZ.out]; exact hlt
      have hcn : nth l k = sb s (k : Int) := by unfold sb; rw [HS.out]; rfl
      have hx0 := ixs s (k : Int) hb0 hb1
      have HT : Hid (snNB (nth l k) = true → (l.take (k + 1)).all snNB = true) := fun h => all_take hkl HD.out h
      have HF : Hid (snNB (nth l k) = false → snameL l = false) := fun h => by unfold snameL; rw [all_nth hkl h]; rfl
      rw [hcn] at HT HF
      generalize sb s (k : Int) = c at *
      clear hkl hcn HD
      have HTN : Hid (snN c.toNat = true → (l.take (k + 1)).all snNB = true) := HT.out
      have HFN : Hid (snN c.toNat = false → snameL l = false) := HF.out
      have h256 := c.toNat_lt
      clear HT HF
      generalize c.toNat = n at *
      by_cases c0 : n ≤ 44
      · have i1 : (0 : Int) ≤ (n : Int) := by omega
        have i2 : (n : Int) ≤ 44 := by omega
        have e45 : ((n : Int) == 45) = false := by rw [beq_eq_false_iff_ne]; omega
        have f45 : ¬ (n : Int) = 45 := by omega
        have e95 : ((n : Int) == 95) = false := by rw [beq_eq_false_iff_ne]; omega
        have f95 : ¬ (n : Int) = 95 := by omega
        have d57 : decide ((n : Int) ≤ 57) = true := decide_eq_true (by omega)
        have g48 : decide ((48 : Int) ≤ (n : Int)) = false := decide_eq_false (by omega)
        have d122 : decide ((n : Int) ≤ 122) = true := decide_eq_true (by omega)
        have g97 : decide ((97 : Int) ≤ (n : Int)) = false := decide_eq_false (by omega)
        have HR : Hid (snameL l = false) := HFN.out (by unfold snN; simp <;> omega)
        clear HTN HFN
        go_wp2
        go_ret
        exact ⟨ret_b HR.out.symm, by first | rfl | trivial⟩
      by_cases c1 : n = 45
      · subst c1
        have HR : Hid ((l.take (k + 1)).all snNB = true) := HTN.out (by unfold snN; simp <;> omega)
        clear HTN HFN
        go_wp2
        go_roundw
        case rel => exact ⟨k + 1, by omega, by go_num, HR, by first | rfl | trivial⟩
        case measure => simp [intOf]; omega
      by_cases c2 : n ≤ 47
      · have i1 : (46 : Int) ≤ (n : Int) := by omega
        have i2 : (n : Int) ≤ 47 := by omega
        have e45 : ((n : Int) == 45) = false := by rw [beq_eq_false_iff_ne]; omega
        have f45 : ¬ (n : Int) = 45 := by omega
        have e95 : ((n : Int) == 95) = false := by rw [beq_eq_false_iff_ne]; omega
        have f95 : ¬ (n : Int) = 95 := by omega
        have d57 : decide ((n : Int) ≤ 57) = true := decide_eq_true (by omega)
        have g48 : decide ((48 : Int) ≤ (n : Int)) = false := decide_eq_false (by omega)
        have d122 : decide ((n : Int) ≤ 122) = true := decide_eq_true (by omega)
        have g97 : decide ((97 : Int) ≤ (n : Int)) = false := decide_eq_false (by omega)
        have HR : Hid (snameL l = false) := HFN.out (by unfold snN; simp <;> omega)
        clear HTN HFN
        go_wp2
        go_ret
        exact ⟨ret_b HR.out.symm, by first | rfl | trivial⟩
      by_cases c3 : n ≤ 57
      · have i1 : (48 : Int) ≤ (n : Int) := by omega
        have i2 : (n : Int) ≤ 57 := by omega
        have e45 : ((n : Int) == 45) = false := by rw [beq_eq_false_iff_ne]; omega
        have f45 : ¬ (n : Int) = 45 := by omega
        have e95 : ((n : Int) == 95) = false := by rw [beq_eq_false_iff_ne]; omega
        have f95 : ¬ (n : Int) = 95 := by omega
        have d57 : decide ((n : Int) ≤ 57) = true := decide_eq_true (by omega)
        have g48 : decide ((48 : Int) ≤ (n : Int)) = true := decide_eq_true (by omega)
        have d122 : decide ((n : Int) ≤ 122) = true := decide_eq_true (by omega)
        have g97 : decide ((97 : Int) ≤ (n : Int)) = false := decide_eq_false (by omega)
        have HR : Hid ((l.take (k + 1)).all snNB = true) := HTN.out (by unfold snN; simp <;> omega)
        clear HTN HFN
        go_wp2
        go_roundw
        case rel => exact ⟨k + 1, by omega, by go_num, HR, by first | rfl | trivial⟩
        case measure => simp [intOf]; omega
      by_cases c4 : n ≤ 94
      · have i1 : (58 : Int) ≤ (n : Int) := by omega
        have i2 : (n : Int) ≤ 94 := by omega
        have e45 : ((n : Int) == 45) = false := by rw [beq_eq_false_iff_ne]; omega
        have f45 : ¬ (n : Int) = 45 := by omega
        have e95 : ((n : Int) == 95) = false := by rw [beq_eq_false_iff_ne]; omega
        have f95 : ¬ (n : Int) = 95 := by omega
        have d57 : decide ((n : Int) ≤ 57) = false := decide_eq_false (by omega)
        have g48 : decide ((48 : Int) ≤ (n : Int)) = true := decide_eq_true (by omega)
        have d122 : decide ((n : Int) ≤ 122) = true := decide_eq_true (by omega)
        have g97 : decide ((97 : Int) ≤ (n : Int)) = false := decide_eq_false (by omega)
        have HR : Hid (snameL l = false) := HFN.out (by unfold snN; simp <;> omega)
        clear HTN HFN
        go_wp2
        go_ret
        exact ⟨ret_b HR.out.symm, by first | rfl | trivial⟩
      by_cases c5 : n = 95
      · subst c5
        have HR : Hid ((l.take (k + 1)).all snNB = true) := HTN.out (by unfold snN; simp <;> omega)
        clear HTN HFN
        go_wp2
        go_roundw
        case rel => exact ⟨k + 1, by omega, by go_num, HR, by first | rfl | trivial⟩
        case measure => simp [intOf]; omega
      by_cases c6 : n = 96
      · subst c6
        have HR : Hid (snameL l = false) := HFN.out (by unfold snN; simp <;> omega)
        clear HTN HFN
        go_wp2
        go_ret
        exact ⟨ret_b HR.out.symm, by first | rfl | trivial⟩
      by_cases c7 : n ≤ 122
      · have i1 : (97 : Int) ≤ (n : Int) := by omega
        have i2 : (n : Int) ≤ 122 := by omega
        have e45 : ((n : Int) == 45) = false := by rw [beq_eq_false_iff_ne]; omega
        have f45 : ¬ (n : Int) = 45 := by omega
        have e95 : ((n : Int) == 95) = false := by rw [beq_eq_false_iff_ne]; omega
        have f95 : ¬ (n : Int) = 95 := by omega
        have d57 : decide ((n : Int) ≤ 57) = false := decide_eq_false (by omega)
        have g48 : decide ((48 : Int) ≤ (n : Int)) = true := decide_eq_true (by omega)
        have d122 : decide ((n : Int) ≤ 122) = true := decide_eq_true (by omega)
        have g97 : decide ((97 : Int) ≤ (n : Int)) = true := decide_eq_true (by omega)
        have HR : Hid ((l.take (k + 1)).all snNB = true) := HTN.out (by unfold snN; simp <;> omega)
        clear HTN HFN
        go_wp2
        go_roundw
        case rel => exact ⟨k + 1, by omega, by go_num, HR, by first | rfl | trivial⟩
        case measure => simp [intOf]; omega
      have i1 : (123 : Int) ≤ (n : Int) := by omega
      have e45 : ((n : Int) == 45) = false := by rw [beq_eq_false_iff_ne]; omega
      have f45 : ¬ (n : Int) = 45 := by omega
      have e95 : ((n : Int) == 95) = false := by rw [beq_eq_false_iff_ne]; omega
      have f95 : ¬ (n : Int) = 95 := by omega
      have d57 : decide ((n : Int) ≤ 57) = false := decide_eq_false (by omega)
      have g48 : decide ((48 : Int) ≤ (n : Int)) = true := decide_eq_true (by omega)
      have d122 : decide ((n : Int) ≤ 122) = false := decide_eq_false (by omega)
      have g97 : decide ((97 : Int) ≤ (n : Int)) = true := decide_eq_true (by omega)
      have HR : Hid (snameL l = false) := HFN.out (by unfold snN; simp <;> omega)
      clear HTN HFN
      go_wp2
      go_ret
      exact ⟨ret_b HR.out.symm, by first | rfl | trivial⟩
    · have hge : ¬ (k : Int) < (s.size : Int) := by omega
      have HR : Hid (snameL l = decide (1 ≤ s.size ∧ s.size ≤ 64)) := by
        have := HD.out
        rw [List.take_of_length_le (by rw [← HZ.out]; omega)] at this
        unfold Hid snameL; rw [this, HZ.out]; rfl
      by_cases h1 : 1 ≤ s.size
      · by_cases h2 : s.size ≤ 64
        · have h1' : (1 : Int) ≤ (s.size : Int) := by omega
          have h2' : (s.size : Int) ≤ 64 := by omega
          have HV : Hid (snameL l = true) := by unfold Hid; rw [HR.out]; exact decide_eq_true ⟨h1, h2⟩
          go_wp2
          go_ret
          exact ⟨ret_b HV.out.symm, by first | rfl | trivial⟩
        · have h1' : (1 : Int) ≤ (s.size : Int) := by omega
          have h2' : ¬ (s.size : Int) ≤ 64 := by omega
          have HV : Hid (snameL l = false) := by unfold Hid; rw [HR.out]; exact decide_eq_false (fun h => h2 h.2)
          go_wp2
          go_ret
          exact ⟨ret_b HV.out.symm, by first | rfl | trivial⟩
      · have h1' : ¬ (1 : Int) ≤ (s.size : Int) := by omega
        have HV : Hid (snameL l = false) := by unfold Hid; rw [HR.out]; exact decide_eq_false (fun h => h1 h.1)
        go_wp2
        go_ret
        exact ⟨ret_b HV.out.symm, by first | rfl | trivial⟩
end Go.Proofs.YtgjmaeodgcigdaaGreatDoor
namespace Go.Proofs.YtgjmaeodgcigdaaGreatDoor
open Go.RowKit

theorem info8 : (Tryz.prog.info? 5).map (fun i => (i.zero, i.size, i.bytes)) = some (some (.int .u8 0), 1, 1) := by kernel_rfl

/-- bytes as cells -/
def bv (l : List UInt8) : List Value := l.map fun b => .int .u8 (b.toNat : Int)
theorem bv_append (l m : List UInt8) : bv (l ++ m) = bv l ++ bv m := by simp [bv]
theorem bv_length (l : List UInt8) : (bv l).length = l.length := by simp [bv]
theorem bv_one (l : List UInt8) : ∀ u ∈ bv l, u.oneCell' = true := by
  intro u hu
  obtain ⟨b, _, rfl⟩ := List.mem_map.1 hu
  rfl
theorem bv_at (l : List UInt8) (i : Nat) (h : i < l.length) : (bv l)[i]? = some (.int .u8 ((nth l i).toNat : Int)) := by
  rw [nth_eq l i h]; simp [bv, List.getElem?_eq_getElem h]

/-- v owns the bytes l, in blocks from base on -/
def OwnB (w : World) (base : Nat) (v : Value) (l : List UInt8) : Prop := w.ownsRow base 5 1 v l.length (bv l)

theorem OwnB.nil (w : World) (base : Nat) : OwnB w base (.slice none 0 0) [] := World.ownsRow_nil _ _ _ _

theorem OwnB.heap {w w' : World} {base : Nat} {v : Value} {l : List UInt8} (h : OwnB w base v l) (e : w'.heap = w.heap) : OwnB w' base v l := by
  unfold OwnB World.ownsRow at *; rw [e]; exact h

theorem OwnB.base {w : World} {base base' : Nat} {v : Value} {l : List UInt8} (h : OwnB w base v l) (hb : base' ≤ base) : OwnB w base' v l := by
  refine ⟨h.1, ?_⟩
  rcases h.2 with h2 | ⟨g, cap, cur, h3, h4, h5⟩
  · exact .inl h2
  · exact .inr ⟨g, cap, cur, h3, Nat.le_trans hb h4, h5⟩

theorem OwnB.alloc {w : World} {base : Nat} {v : Value} {l : List UInt8} (h : OwnB w base v l) (o : Obj) : OwnB (w.alloc o) base v l := World.ownsRow.alloc h o

theorem OwnB.blk {w : World} {base : Nat} {v : Value} {l : List UInt8} (h : OwnB w base v l) : ∀ k, v.ownBlock = some k → base ≤ k ∧ k < w.heap.size := World.ownsRow.lt h

/-- as a slice of bytes -/
theorem OwnB.isB {w : World} {base : Nat} {v : Value} {l : List UInt8} (h : OwnB w base v l) : ∃ a cap, v = .slice a l.length cap ∧ IsB w a l.length cap l := by
  obtain ⟨h1, h2⟩ := h
  rcases h2 with ⟨rfl, h0⟩ | ⟨g, cap, cur, rfl, hb, hg, hle, hmax, hsz, htk⟩
  · have : l = [] := List.eq_nil_of_length_eq_zero h0
    subst this
    exact ⟨none, 0, rfl, rfl, Nat.le_refl _, Nat.zero_le _, fun _ => rfl, fun hp => absurd hp (Nat.lt_irrefl 0)⟩
  · refine ⟨_, cap, rfl, rfl, hle, hmax, fun e => (by cases e), fun hp => ⟨g, 0, rfl, fun i hi => ?_⟩⟩
    have hc := World.ownsRow.cells (w := w) (base := base) (e := 5) (size := 1) (v := .slice (some ⟨g, 0, none⟩) l.length cap) (n := l.length) (xs := bv l) ⟨h1, .inr ⟨g, cap, cur, rfl, hb, hg, hle, hmax, hsz, htk⟩⟩ (g := g) rfl i _ (bv_at l i hi)
    rw [Addr.add_lit] at hc; exact hc

/-- a byte of it; a byte of it turned -/
theorem OwnB.cellAt {w : World} {base g cap : Nat} {l : List UInt8} {n : Nat} (h : OwnB w base (.slice (some ⟨g, 0, none⟩) n cap) l) (hn : l.length = n) (j : Nat) (hj : j < n) : w.cell? ⟨g, j, none⟩ = some (.int .u8 ((nth l j).toNat : Int)) := by
  subst hn
  rw [World.ownsRow.cellAt h j (by omega), bv_at l j hj]
theorem OwnB.frozenAt {w : World} {base g cap : Nat} {l : List UInt8} {n : Nat} (h : OwnB w base (.slice (some ⟨g, 0, none⟩) n cap) l) (hn : l.length = n) (j : Nat) : w.frozen? ⟨g, j, none⟩ = false := by
  subst hn
  exact World.ownsRow.frozenAt h j
theorem OwnB.set {w : World} {base g cap : Nat} {l : List UInt8} {n : Nat} (h : OwnB w base (.slice (some ⟨g, 0, none⟩) n cap) l) (hn : l.length = n) (j : Nat) (x : UInt8) : OwnB (w.setCell ⟨g, j, none⟩ (.int .u8 (x.toNat : Int))) base (.slice (some ⟨g, 0, none⟩) n cap) (l.set j x) := by
  subst hn
  have := (World.ownsRow.stored h j (.int .u8 (x.toNat : Int))).1
  unfold OwnB
  rw [List.length_set]
  have e : bv (l.set j x) = (bv l).set j (.int .u8 (x.toNat : Int)) := by unfold bv; rw [List.map_set]
  rw [e]; exact this

/-- bytes in a block of their own -/
theorem IsB.ofBlock {w : World} {B : Nat} (l : List UInt8) (hm : l.length ≤ maxLen) (hb : w.heap[B]? = some (.cells (bv l).toArray 5 (0, 0))) : IsB w (some ⟨B, 0, none⟩) l.length l.length l :=
  ⟨rfl, Nat.le_refl _, hm, fun e => (by cases e), fun _ => ⟨B, 0, rfl, fun i hi => by
    rw [cell_of_row w B (0 + i) _ _ _ hb, Nat.zero_add]
    simpa using bv_at l i hi⟩⟩

/-- make([]byte, 0, n) -/
theorem make_own8 {ops : Array Oper} {rest : List Oper} {o : Oper} {a : Act} {Q : Exit → Act → World → Prop} (w : World)
    (hg : o.guard = none) (l c : Operand) (hop : o.op = Op.makeSlice 23 l c) (base : Nat)
    (kl kc : IntKind) (C : Int) (n : Nat) (hl : a.eval l = .int kl 0) (hc : a.eval c = .int kc C) (hC : C = (n : Int)) (b2 : n ≤ 281474976710656) (b4 : base ≤ w.heap.size)
    (hK : ∀ w', OwnB w' base (.slice (some ⟨w.heap.size, 0, none⟩) 0 n) [] → w.grownBy w' none → wpList Tryz.prog ops Q rest (a.put o.dst (.slice (some ⟨w.heap.size, 0, none⟩) 0 n)) w') :
    wpList Tryz.prog ops Q (o :: rest) a w := by
  obtain ⟨i0, hi, hz0, hz1, hz2⟩ := info_parts info8
  exact wpList_make_own w hg l c 23 hop base 5 i0 (.int .u8 0) 1 Tryz.underlying23 hi hz0 hz1 kl kc C n hl hc hC (by rw [hz2]; omega) (by unfold maxLen; omega) b4 hK

theorem made_zeros (n : Nat) : (madeCells (Value.int .u8 0).cells (n * 1)).toList = bv (List.replicate n 0) := by
  simp only [madeCells, Value.cells, bv, List.map_replicate]
  rw [List.eq_replicate_iff]
  simp [Nat.mod_one]

/-- make([]byte, n) -/
theorem make_full8 {ops : Array Oper} {rest : List Oper} {o : Oper} {a : Act} {Q : Exit → Act → World → Prop} (w : World)
    (hg : o.guard = none) (l c : Operand) (hop : o.op = Op.makeSlice 23 l c) (base : Nat)
    (kl kc : IntKind) (L C : Int) (n : Nat) (hl : a.eval l = .int kl L) (hc : a.eval c = .int kc C) (hL : L = (n : Int)) (hC : C = (n : Int)) (b2 : n ≤ 281474976710656) (b4 : base ≤ w.heap.size)
    (hK : ∀ w', OwnB w' base (.slice (some ⟨w.heap.size, 0, none⟩) n n) (List.replicate n 0) → w.grownBy w' none → wpList Tryz.prog ops Q rest (a.put o.dst (.slice (some ⟨w.heap.size, 0, none⟩) n n)) w') :
    wpList Tryz.prog ops Q (o :: rest) a w := by
  obtain ⟨i0, hi, hz0, hz1, hz2⟩ := info_parts info8
  exact wpList_make_full w hg l c 23 hop base 5 i0 (.int .u8 0) 1 Tryz.underlying23 hi hz0 hz1 kl kc L C n hl hc hL hC (by rw [hz2]; omega) (by unfold maxLen; omega) b4
    (fun w' h g => hK w' (by unfold OwnB; rw [List.length_replicate]; rw [made_zeros] at h; exact h) g)

/-- append of bytes that lie in a block of their own, in a region that draws -/
theorem step_app8 {ops : Array Oper} {o : Oper} {a : Act} {K : Act → World → Prop} {Q : Exit → Act → World → Prop} {E : Prop} (w : World) (hgd : o.guard = none) (s x : Operand)
    (ho : o.op = .call { callee := .builtin .append, args := #[s, x], argTypes := #[23, 23] }) (base : Nat)
    (v : Value) (l : List UInt8) (hs : a.eval s = v) (hown : OwnB w base v l) (B m c : Nat) (news : List UInt8) (hx : a.eval x = .slice (some ⟨B, 0, none⟩) m c) (hl : news.length = m)
    (hb : w.heap[B]? = some (.cells (bv news).toArray 5 (0, 0))) (hm : 0 < m) (hbytes : l.length + m ≤ 140737488355328) (hbase : base ≤ w.heap.size) (H : Nat) (hH : w.heap.size = H)
    (h : ∀ g cap w', OwnB w' base (.slice (some ⟨g, 0, none⟩) (l.length + m) cap) (l ++ news) → w.grownBy w' v.ownBlock → (v.ownBlock = some g ∨ g = H) → g < w'.heap.size → K (a.put o.dst (.slice (some ⟨g, 0, none⟩) (l.length + m) cap)) w') :
    if Region.wanted o (yielded ops a.tmps) = true then Oper.wp Tryz.prog o a w K Q else E := by
  obtain ⟨i0, hi, hz0, hz1, hz2⟩ := info_parts info8
  refine step_append_lies w hgd s x 23 ho base 5 i0 (.int .u8 0) 1 1 Tryz.underlying23 hi hz0 hz1 hz2 rfl (by omega) v l.length (bv l) hs hown ⟨B, 0, none⟩ m c (bv news) hx (by rw [bv_length]; omega)
    (fun j u hu => World.news_of_block hb j u (by simpa using hu)) (bv_one news) hm (by unfold maxLen; omega) (by omega) hbase H hH ?_
  intro g cap w' h1 h2 h3 h4
  exact h g cap w' (by unfold OwnB; rw [bv_append, List.length_append, hl]; exact h1) h2 h3 h4

/-- the same in a plain region -/
theorem list_app8 {ops : Array Oper} {rest : List Oper} {o : Oper} {a : Act} {Q : Exit → Act → World → Prop} (w : World) (hgd : o.guard = none) (s x : Operand)
    (ho : o.op = .call { callee := .builtin .append, args := #[s, x], argTypes := #[23, 23] }) (base : Nat)
    (v : Value) (l : List UInt8) (hs : a.eval s = v) (hown : OwnB w base v l) (B m c : Nat) (news : List UInt8) (hx : a.eval x = .slice (some ⟨B, 0, none⟩) m c) (hl : news.length = m)
    (hb : w.heap[B]? = some (.cells (bv news).toArray 5 (0, 0))) (hm : 0 < m) (hbytes : l.length + m ≤ 140737488355328) (hbase : base ≤ w.heap.size) (H : Nat) (hH : w.heap.size = H)
    (h : ∀ g cap w', OwnB w' base (.slice (some ⟨g, 0, none⟩) (l.length + m) cap) (l ++ news) → w.grownBy w' v.ownBlock → (v.ownBlock = some g ∨ g = H) → g < w'.heap.size → wpList Tryz.prog ops Q rest (a.put o.dst (.slice (some ⟨g, 0, none⟩) (l.length + m) cap)) w') :
    wpList Tryz.prog ops Q (o :: rest) a w := by
  obtain ⟨i0, hi, hz0, hz1, hz2⟩ := info_parts info8
  refine wpList_append_lies w hgd s x 23 ho base 5 i0 (.int .u8 0) 1 1 Tryz.underlying23 hi hz0 hz1 hz2 rfl (by omega) v l.length (bv l) hs hown ⟨B, 0, none⟩ m c (bv news) hx (by rw [bv_length]; omega)
    (fun j u hu => World.news_of_block hb j u (by simpa using hu)) (bv_one news) hm (by unfold maxLen; omega) (by omega) hbase H hH ?_
  intro g cap w' h1 h2 h3 h4
  exact h g cap w' (by unfold OwnB; rw [bv_append, List.length_append, hl]; exact h1) h2 h3 h4

end Go.Proofs.YtgjmaeodgcigdaaGreatDoor
