/- What digest.Hex and the document's Hex answer, of any slice of bytes. · Plain facts: the canonical text of a request. · Slices of words that a call itself makes and appends to: laws at this program's types. -/
import Derived.Test.YtgjmaeodgcigdaaGreatDoorB8
import Derived.Test.YtgjmaeodgcigdaaGreatDoorB0
import Derived.Test.YtgjmaeodgcigdaaGreatDoorB1
import Derived.Test.YtgjmaeodgcigdaaGreatDoorS6a
import Derived.Test.YtgjmaeodgcigdaaGreatDoorB4
import Derived.Test.YtgjmaeodgcigdaaGreatDoorB5
namespace Go.Proofs.YtgjmaeodgcigdaaGreatDoor
open Go.RowKit
attribute [local go_sem ↓] Go.wp_at_zero Go.wp_at_succ

/-- the two halves of a byte, and the digit of a half -/
def hiN (x : UInt8) : Nat := x.toNat / 16
def loN (x : UInt8) : Nat := x.toNat % 16
def dg (n : Nat) : UInt8 := nth [48, 49, 50, 51, 52, 53, 54, 55, 56, 57, 97, 98, 99, 100, 101, 102] n

theorem hiN_lt (x : UInt8) : hiN x < 16 := by have := x.toNat_lt; unfold hiN; omega
theorem loN_lt (x : UInt8) : loN x < 16 := by unfold loN; omega
theorem div_hiN (x : UInt8) : (x.toNat : Int) / 16 = (hiN x : Int) := by unfold hiN; omega
theorem mod_loN (x : UInt8) : (x.toNat : Int) % 16 = (loN x : Int) := by unfold loN; omega
theorem and_loN (x : UInt8) : bits .and .u8 (x.toNat : Int) 15 = (loN x : Int) := by
  have h := bits_and8 x 15
  have e : (x &&& 15).toNat = loN x := by
    rw [UInt8.toNat_and]; unfold loN
    exact Nat.and_two_pow_sub_one_eq_mod x.toNat 4
  rw [e] at h; exact h

theorem dg_at (n : Nat) (h : n < 16) (hp : n < (ByteArray.mk #[48, 49, 50, 51, 52, 53, 54, 55, 56, 57, 97, 98, 99, 100, 101, 102]).size) : (ByteArray.mk #[48, 49, 50, 51, 52, 53, 54, 55, 56, 57, 97, 98, 99, 100, 101, 102])[n]'hp = dg n := by
  have : n = 0 ∨ n = 1 ∨ n = 2 ∨ n = 3 ∨ n = 4 ∨ n = 5 ∨ n = 6 ∨ n = 7 ∨ n = 8 ∨ n = 9 ∨ n = 10 ∨ n = 11 ∨ n = 12 ∨ n = 13 ∨ n = 14 ∨ n = 15 := by omega
  rcases this with rfl | rfl | rfl | rfl | rfl | rfl | rfl | rfl | rfl | rfl | rfl | rfl | rfl | rfl | rfl | rfl <;> rfl

theorem ix (n : Nat) (h : n < 16) (u : World) : (Instr.index 9 (.string (ByteArray.mk #[48, 49, 50, 51, 52, 53, 54, 55, 56, 57, 97, 98, 99, 100, 101, 102])) (.int .u8 (n : Int))).run Tryz.prog u = .ok (.int .u8 ((dg n).toNat : Int)) u := by
  have hs : (ByteArray.mk #[48, 49, 50, 51, 52, 53, 54, 55, 56, 57, 97, 98, 99, 100, 101, 102]).size = 16 := rfl
  rw [run_index_string u 9 _ .u8 (n : Int) Tryz.underlying9]
  rw [dif_pos ⟨by omega, by rw [hs]; omega⟩]
  have := dg_at n h (by rw [hs]; exact h)
  simp only [Int.toNat_natCast, this]

def hexL : List UInt8 → List UInt8
  | [] => []
  | x :: l => dg (hiN x) :: dg (loN x) :: hexL l
theorem hexL_append (l m : List UInt8) : hexL (l ++ m) = hexL l ++ hexL m := by
  induction l with
  | nil => rfl
  | cons x l ih => simp only [List.cons_append, hexL, ih]
theorem hexL_length (l : List UInt8) : (hexL l).length = 2 * l.length := by
  induction l with
  | nil => rfl
  | cons x l ih => simp only [hexL, List.length_cons, ih]; omega
theorem hexL_take (l : List UInt8) (k : Nat) (h : k < l.length) : hexL (l.take (k + 1)) = hexL (l.take k) ++ [dg (hiN (nth l k)), dg (loN (nth l k))] := by
  rw [take_nth l k h, hexL_append]; rfl
theorem hexL_take_length (l : List UInt8) (k : Nat) (h : k ≤ l.length) : (hexL (l.take k)).length = 2 * k := by
  rw [hexL_length, List.length_take]; omega
attribute [local go_sem ↓] ix

set_option maxHeartbeats 400000 in
theorem digHex (a0 : Option Addr) (len0 cap0 : Nat) (l : List UInt8) (w : World) (w0 : IsB w a0 len0 cap0 l) (hs : len0 ≤ 70368744177664) :
    Calls Tryz.prog 38 #[.slice a0 len0 cap0] w fun e w' => e = .returned (.string ⟨(hexL l).toArray⟩) ∧ Below w.heap.size w w' := by
  have hl0 := w0.le
  have hm0 := w0.max
  have e0 : Hid (l.length = len0) := w0.len_eq
  have c0 : Hid (IsB w a0 len0 cap0 l) := w0
  clear w0
  unfold maxLen at hm0
  go_enter Tryz.func38, Tryz.ntmps38
  go_wp2_with (at_make; refine make_own8 _ rfl _ _ rfl w.heap.size .i64 .i64 _ (2 * len0) rfl rfl (by omega) (by omega) (Nat.le_refl _) ?_; intro w1 hown1 hgrow1)
  go_loopw [3, 12] (fun v i wr => ∃ k : Nat, k ≤ len0 ∧ i = .int .i64 k ∧ OwnB wr w.heap.size v (hexL (l.take k)) ∧ Below w.heap.size w wr) (fun _ i _ => len0 - (intOf i).toNat)
  case atStart => exact ⟨0, Nat.zero_le _, rfl, hown1, (Below.refl _ _).grown hgrow1 (Nat.le_refl _) (fun k h => by cases h)⟩
  case round =>
    obtain ⟨k, hk, rfl, hown, hbel⟩ := hrel
    by_cases hlt : k < len0
    · obtain ⟨b0, o0, rfl, hc0⟩ := c0.out.cells (by omega)
      have g0 := hc0 k hlt
      have gb : b0 < w.heap.size := cell_lt g0
      have g1 := (hbel.cell (p := ⟨b0, o0 + k, none⟩) gb).trans g0
      clear hc0 hown1 hgrow1
      have hlt' : (k : Int) < (len0 : Int) := by omega
      have hq := div_hiN (nth l k)
      have hb := and_loN (nth l k)
      have hq1 := hiN_lt (nth l k)
      have hb1 := loN_lt (nth l k)
      have HT : Hid (hexL (l.take (k + 1)) = hexL (l.take k) ++ [dg (hiN (nth l k)), dg (loN (nth l k))]) := hexL_take l k (by rw [e0.out]; exact hlt)
      have HL : Hid ((hexL (l.take k)).length = 2 * k) := hexL_take_length l k (by rw [e0.out]; exact hk)
      have HB := hown.blk
      go_wp2
      go_region_held3 (fun w' => True) (trivial)
        ((refine step_app8 _ (by rfl) _ _ (by rfl) w.heap.size _ (hexL (l.take k)) (by rfl) ((hown.alloc _).heap rfl) wr.heap.size 2 2 [dg (hiN (nth l k)), dg (loN (nth l k))] (by rfl) (by rfl) (heap_alloc_new wr _) (by omega) (by rw [HL.out]; omega) (by have := hbel.size; simp; omega) (wr.heap.size + 1) (by simp) ?_; intro gg cap w1 hown1 hgrow hat hlt1))
      all_goals
        go_wp2
        go_roundw
        case rel => exact ⟨k + 1, by omega, by go_num, by rw [HT.out]; exact hown1, ((hbel.alloc hbel.size _).drew).grown hgrow (by have := hbel.size; simp; omega) (fun j hj => (HB j hj).1)⟩
        case measure => simp [intOf]; omega
    · have hcv := conv_own wr w.heap.size _ _ hown
      go_wp2
      go_ret
      have : k = len0 := by omega
      subst this
      exact ⟨ret_str (by rw [List.take_of_length_le (by rw [e0.out]; exact Nat.le_refl _)]), hbel⟩
end Go.Proofs.YtgjmaeodgcigdaaGreatDoor
namespace Go.Proofs.YtgjmaeodgcigdaaGreatDoor

def lineT (hs : List Pr) (t : List UInt8) : List UInt8 := t ++ [58] ++ (findL hs t).getD [] ++ [10]
def linesTo (hs : List Pr) (ts : List (List UInt8)) : Nat → List UInt8
  | 0 => []
  | k + 1 => linesTo hs ts k ++ lineT hs (nthT ts k)
def hasAll (hs : List Pr) (ts : List (List UInt8)) : Bool := ts.all fun t => (findL hs t).isSome
def canonE (r : Rq) (ts : List (List UInt8)) : Int := if namesL ts = false then 11 else if hasAll r.hs ts = false then 11 else if decC r.p = 0 ∧ queryC r.q = 0 then 0 else 13
def canonX (r : Rq) (ts : List (List UInt8)) : List UInt8 :=
  r.m ++ [10] ++ encL true (decS r.p) ++ [10] ++ canonL (queryP r.q) ++ [10] ++ linesTo r.hs ts ts.length ++ [10] ++ joinS [59] ts ++ [10] ++ hexL (sha256L r.b)
def canonT (r : Rq) (ts : List (List UInt8)) : List UInt8 := if canonE r ts = 0 then canonX r ts else []

theorem has_no6 {hs : List Pr} {ts : List (List UInt8)} {k : Nat} (hk : k < ts.length) (h : findL hs (nthT ts k) = none) : hasAll hs ts = false := by
  unfold hasAll
  rw [List.all_eq_false]
  exact ⟨nthT ts k, by rw [nthT_eq ts k hk]; exact List.getElem_mem hk, by rw [h]; simp⟩
theorem find_mem6 {hs : List Pr} {t v : List UInt8} (h : findL hs t = some v) : ∃ i, i < hs.length ∧ (nthP hs i).2 = v := by
  unfold findL at h
  cases hf : hs.find? (fun p => p.1 == t) with
  | none => rw [hf] at h; cases h
  | some p =>
    rw [hf] at h
    have hv : p.2 = v := Option.some.inj h
    obtain ⟨i, hi, e⟩ := List.getElem_of_mem (List.mem_of_find?_eq_some hf)
    exact ⟨i, hi, by rw [nthP_eq hs i hi, e]; exact hv⟩
theorem line_len {hs : List Pr} {t : List UInt8} (M : Nat) (h : ∀ i, i < hs.length → (nthP hs i).2.length ≤ M) : (lineT hs t).length ≤ t.length + M + 2 := by
  unfold lineT
  have hv : ((findL hs t).getD []).length ≤ M := by
    cases hf : findL hs t with
    | none => exact Nat.zero_le _
    | some v =>
      obtain ⟨i, hi, e⟩ := find_mem6 hf
      have := h i hi
      rw [e] at this
      exact this
  simp only [List.length_append, List.length_cons, List.length_nil]
  omega
theorem lines_len {hs : List Pr} {ts : List (List UInt8)} (M : Nat) (h : ∀ i, i < hs.length → (nthP hs i).2.length ≤ M) (ht : ∀ i, i < ts.length → (nthT ts i).length ≤ 64) : ∀ k, k ≤ ts.length → (linesTo hs ts k).length ≤ k * (M + 66) := by
  intro k
  induction k with
  | zero => intro _; simp [linesTo]
  | succ k ih =>
    intro hk
    have h1 := ih (by omega)
    have h2 := ht k (by omega)
    have h3 := line_len (t := nthT ts k) M h
    rw [linesTo, List.length_append, Nat.add_mul, Nat.one_mul]
    omega
theorem sname_len {t : List UInt8} (h : snameL t = true) : t.length ≤ 64 := by
  unfold snameL at h
  rw [Bool.and_eq_true] at h
  exact (of_decide_eq_true h.2).2
theorem names_facts {ts : List (List UInt8)} (h : namesL ts = true) : (∀ i, i < ts.length → (nthT ts i).length ≤ 64) ∧ ts.length ≤ 24 := by
  unfold namesL at h
  rw [Bool.and_eq_true, Bool.and_eq_true] at h
  refine ⟨fun i hi => ?_, (of_decide_eq_true h.2).2⟩
  refine sname_len (List.all_eq_true.1 h.1.1 (nthT ts i) ?_)
  rw [nthT_eq ts i hi]; exact List.getElem_mem hi
theorem canon_len {l : List Pr} (h : ∀ p ∈ l, p.1.length ≤ 30000 ∧ p.2.length ≤ 30000) : (canonL l).length ≤ l.length * 180002 := by
  unfold canonL joinL
  have h1 : ∀ i, i < (sortL l).length → (nthP (sortL l) i).1.length ≤ 90000 ∧ (nthP (sortL l) i).2.length ≤ 90000 := fun i hi => by
    have hm : nthP (sortL l) i ∈ sortL l := by rw [nthP_eq _ i hi]; exact List.getElem_mem hi
    obtain ⟨p, hp, e⟩ := List.mem_map.1 ((sortL_perm l).mem_iff.1 hm)
    obtain ⟨a, b⟩ := h p hp
    rw [← e]
    unfold encP
    have := encL_length false p.1
    have := encL_length false p.2
    exact ⟨by dsimp only; omega, by dsimp only; omega⟩
  have := joinK_length (sortL l) _ h1 _ (Nat.le_refl _)
  rw [sortL_length] at this ⊢
  exact this
end Go.Proofs.YtgjmaeodgcigdaaGreatDoor
namespace Go.Proofs.YtgjmaeodgcigdaaGreatDoor
open Go.RowKit

theorem info32 : (Tryz.prog.info? 131).map (fun i => (i.zero, i.size, i.bytes)) = some (some (.int .u32 0), 1, 4) := by kernel_rfl

/-- a slice of words in a world -/
structure IsW (w : World) (a : Option Addr) (len cap : Nat) (l : List UInt32) : Prop where
  len_eq : l.length = len
  le : len ≤ cap
  max : cap ≤ maxLen
  nil : a = none → cap = 0
  cells : 0 < len → ∃ b off, a = some ⟨b, off, none⟩ ∧ ∀ i, i < len → w.cell? ⟨b, off + i, none⟩ = some (.int .u32 ((nthW l i).toNat : Int))

theorem IsW.below {w w' : World} {n : Nat} {a : Option Addr} {len cap : Nat} {l : List UInt32} (h : IsW w a len cap l) (hb : Below n w w') (hn : n = w.heap.size) : IsW w' a len cap l :=
  ⟨h.len_eq, h.le, h.max, h.nil, fun hp => by
    obtain ⟨b, off, e, hc⟩ := h.cells hp
    refine ⟨b, off, e, fun i hi => ?_⟩
    have := hc i hi
    have hlt : b < w.heap.size := cell_lt this
    rw [hb.cell (p := ⟨b, off + i, none⟩) (by simpa [hn] using hlt)]; exact this⟩

/-- v owns the words l, in blocks from base on -/
def OwnW (w : World) (base : Nat) (v : Value) (l : List UInt32) : Prop := w.ownsRow base 131 1 v l.length (wv l)

theorem OwnW.nil (w : World) (base : Nat) : OwnW w base (.slice none 0 0) [] := World.ownsRow_nil _ _ _ _

theorem OwnW.heap {w w' : World} {base : Nat} {v : Value} {l : List UInt32} (h : OwnW w base v l) (e : w'.heap = w.heap) : OwnW w' base v l := by
  unfold OwnW World.ownsRow at *; rw [e]; exact h

theorem OwnW.base {w : World} {base base' : Nat} {v : Value} {l : List UInt32} (h : OwnW w base v l) (hb : base' ≤ base) : OwnW w base' v l := by
  refine ⟨h.1, ?_⟩
  rcases h.2 with h2 | ⟨g, cap, cur, h3, h4, h5⟩
  · exact .inl h2
  · exact .inr ⟨g, cap, cur, h3, Nat.le_trans hb h4, h5⟩

theorem OwnW.alloc {w : World} {base : Nat} {v : Value} {l : List UInt32} (h : OwnW w base v l) (o : Obj) : OwnW (w.alloc o) base v l := World.ownsRow.alloc h o

theorem OwnW.blk {w : World} {base : Nat} {v : Value} {l : List UInt32} (h : OwnW w base v l) : ∀ k, v.ownBlock = some k → base ≤ k ∧ k < w.heap.size := World.ownsRow.lt h

/-- as a slice of words -/
theorem OwnW.isB {w : World} {base : Nat} {v : Value} {l : List UInt32} (h : OwnW w base v l) : ∃ a cap, v = .slice a l.length cap ∧ IsW w a l.length cap l := by
  obtain ⟨h1, h2⟩ := h
  rcases h2 with ⟨rfl, h0⟩ | ⟨g, cap, cur, rfl, hb, hg, hle, hmax, hsz, htk⟩
  · have : l = [] := List.eq_nil_of_length_eq_zero h0
    subst this
    exact ⟨none, 0, rfl, rfl, Nat.le_refl _, Nat.zero_le _, fun _ => rfl, fun hp => absurd hp (Nat.lt_irrefl 0)⟩
  · refine ⟨_, cap, rfl, rfl, hle, hmax, fun e => (by cases e), fun hp => ⟨g, 0, rfl, fun i hi => ?_⟩⟩
    have hc := World.ownsRow.cells (w := w) (base := base) (e := 131) (size := 1) (v := .slice (some ⟨g, 0, none⟩) l.length cap) (n := l.length) (xs := wv l) ⟨h1, .inr ⟨g, cap, cur, rfl, hb, hg, hle, hmax, hsz, htk⟩⟩ (g := g) rfl i _ (wv_at l i hi)
    rw [Addr.add_lit] at hc; exact hc

/-- a byte of it; a byte of it turned -/
theorem OwnW.cellAt {w : World} {base g cap : Nat} {l : List UInt32} {n : Nat} (h : OwnW w base (.slice (some ⟨g, 0, none⟩) n cap) l) (hn : l.length = n) (j : Nat) (hj : j < n) : w.cell? ⟨g, j, none⟩ = some (.int .u32 ((nthW l j).toNat : Int)) := by
  subst hn
  rw [World.ownsRow.cellAt h j (by omega), wv_at l j hj]
theorem OwnW.frozenAt {w : World} {base g cap : Nat} {l : List UInt32} {n : Nat} (h : OwnW w base (.slice (some ⟨g, 0, none⟩) n cap) l) (hn : l.length = n) (j : Nat) : w.frozen? ⟨g, j, none⟩ = false := by
  subst hn
  exact World.ownsRow.frozenAt h j
theorem OwnW.set {w : World} {base g cap : Nat} {l : List UInt32} {n : Nat} (h : OwnW w base (.slice (some ⟨g, 0, none⟩) n cap) l) (hn : l.length = n) (j : Nat) (x : UInt32) : OwnW (w.setCell ⟨g, j, none⟩ (.int .u32 (x.toNat : Int))) base (.slice (some ⟨g, 0, none⟩) n cap) (l.set j x) := by
  subst hn
  have := (World.ownsRow.stored h j (.int .u32 (x.toNat : Int))).1
  unfold OwnW
  rw [List.length_set]
  have e : wv (l.set j x) = (wv l).set j (.int .u32 (x.toNat : Int)) := by unfold wv; rw [List.map_set]
  rw [e]; exact this

/-- words in a block of their own -/
theorem IsW.ofBlock {w : World} {B : Nat} (l : List UInt32) (hm : l.length ≤ maxLen) (hb : w.heap[B]? = some (.cells (wv l).toArray 131 (0, 0))) : IsW w (some ⟨B, 0, none⟩) l.length l.length l :=
  ⟨rfl, Nat.le_refl _, hm, fun e => (by cases e), fun _ => ⟨B, 0, rfl, fun i hi => by
    rw [cell_of_row w B (0 + i) _ _ _ hb, Nat.zero_add]
    simpa using wv_at l i hi⟩⟩

/-- make([]byte, 0, n) -/
theorem make_own32 {ops : Array Oper} {rest : List Oper} {o : Oper} {a : Act} {Q : Exit → Act → World → Prop} (w : World)
    (hg : o.guard = none) (l c : Operand) (hop : o.op = Op.makeSlice 144 l c) (base : Nat)
    (kl kc : IntKind) (C : Int) (n : Nat) (hl : a.eval l = .int kl 0) (hc : a.eval c = .int kc C) (hC : C = (n : Int)) (b2 : n ≤ 70368744177664) (b4 : base ≤ w.heap.size)
    (hK : ∀ w', OwnW w' base (.slice (some ⟨w.heap.size, 0, none⟩) 0 n) [] → w.grownBy w' none → wpList Tryz.prog ops Q rest (a.put o.dst (.slice (some ⟨w.heap.size, 0, none⟩) 0 n)) w') :
    wpList Tryz.prog ops Q (o :: rest) a w := by
  obtain ⟨i0, hi, hz0, hz1, hz2⟩ := info_parts info32
  exact wpList_make_own w hg l c 144 hop base 131 i0 (.int .u32 0) 1 Tryz.underlying144 hi hz0 hz1 kl kc C n hl hc hC (by rw [hz2]; omega) (by unfold maxLen; omega) b4 hK

theorem made_zerosW (n : Nat) : (madeCells (Value.int .u32 0).cells (n * 1)).toList = wv (List.replicate n 0) := by
  simp only [madeCells, Value.cells, wv, List.map_replicate]
  rw [List.eq_replicate_iff]
  simp [Nat.mod_one]

/-- make([]byte, n) -/
theorem make_full32 {ops : Array Oper} {rest : List Oper} {o : Oper} {a : Act} {Q : Exit → Act → World → Prop} (w : World)
    (hg : o.guard = none) (l c : Operand) (hop : o.op = Op.makeSlice 144 l c) (base : Nat)
    (kl kc : IntKind) (L C : Int) (n : Nat) (hl : a.eval l = .int kl L) (hc : a.eval c = .int kc C) (hL : L = (n : Int)) (hC : C = (n : Int)) (b2 : n ≤ 70368744177664) (b4 : base ≤ w.heap.size)
    (hK : ∀ w', OwnW w' base (.slice (some ⟨w.heap.size, 0, none⟩) n n) (List.replicate n 0) → w.grownBy w' none → wpList Tryz.prog ops Q rest (a.put o.dst (.slice (some ⟨w.heap.size, 0, none⟩) n n)) w') :
    wpList Tryz.prog ops Q (o :: rest) a w := by
  obtain ⟨i0, hi, hz0, hz1, hz2⟩ := info_parts info32
  exact wpList_make_full w hg l c 144 hop base 131 i0 (.int .u32 0) 1 Tryz.underlying144 hi hz0 hz1 kl kc L C n hl hc hL hC (by rw [hz2]; omega) (by unfold maxLen; omega) b4
    (fun w' h g => hK w' (by unfold OwnW; rw [List.length_replicate]; rw [made_zerosW] at h; exact h) g)

/-- append of words that lie in a block of their own, in a region that draws -/
theorem step_app32 {ops : Array Oper} {o : Oper} {a : Act} {K : Act → World → Prop} {Q : Exit → Act → World → Prop} {E : Prop} (w : World) (hgd : o.guard = none) (s x : Operand)
    (ho : o.op = .call { callee := .builtin .append, args := #[s, x], argTypes := #[144, 144] }) (base : Nat)
    (v : Value) (l : List UInt32) (hs : a.eval s = v) (hown : OwnW w base v l) (B m c : Nat) (news : List UInt32) (hx : a.eval x = .slice (some ⟨B, 0, none⟩) m c) (hl : news.length = m)
    (hb : w.heap[B]? = some (.cells (wv news).toArray 131 (0, 0))) (hm : 0 < m) (hbytes : l.length + m ≤ 35184372088832) (hbase : base ≤ w.heap.size) (H : Nat) (hH : w.heap.size = H)
    (h : ∀ g cap w', OwnW w' base (.slice (some ⟨g, 0, none⟩) (l.length + m) cap) (l ++ news) → w.grownBy w' v.ownBlock → (v.ownBlock = some g ∨ g = H) → g < w'.heap.size → K (a.put o.dst (.slice (some ⟨g, 0, none⟩) (l.length + m) cap)) w') :
    if Region.wanted o (yielded ops a.tmps) = true then Oper.wp Tryz.prog o a w K Q else E := by
  obtain ⟨i0, hi, hz0, hz1, hz2⟩ := info_parts info32
  refine step_append_lies w hgd s x 144 ho base 131 i0 (.int .u32 0) 1 4 Tryz.underlying144 hi hz0 hz1 hz2 rfl (by omega) v l.length (wv l) hs hown ⟨B, 0, none⟩ m c (wv news) hx (by rw [wv_length]; omega)
    (fun j u hu => World.news_of_block hb j u (by simpa using hu)) (wv_one news) hm (by unfold maxLen; omega) (by omega) hbase H hH ?_
  intro g cap w' h1 h2 h3 h4
  exact h g cap w' (by unfold OwnW; rw [wv_append, List.length_append, hl]; exact h1) h2 h3 h4

/-- the same in a plain region -/
theorem list_app32 {ops : Array Oper} {rest : List Oper} {o : Oper} {a : Act} {Q : Exit → Act → World → Prop} (w : World) (hgd : o.guard = none) (s x : Operand)
    (ho : o.op = .call { callee := .builtin .append, args := #[s, x], argTypes := #[144, 144] }) (base : Nat)
    (v : Value) (l : List UInt32) (hs : a.eval s = v) (hown : OwnW w base v l) (B m c : Nat) (news : List UInt32) (hx : a.eval x = .slice (some ⟨B, 0, none⟩) m c) (hl : news.length = m)
    (hb : w.heap[B]? = some (.cells (wv news).toArray 131 (0, 0))) (hm : 0 < m) (hbytes : l.length + m ≤ 35184372088832) (hbase : base ≤ w.heap.size) (H : Nat) (hH : w.heap.size = H)
    (h : ∀ g cap w', OwnW w' base (.slice (some ⟨g, 0, none⟩) (l.length + m) cap) (l ++ news) → w.grownBy w' v.ownBlock → (v.ownBlock = some g ∨ g = H) → g < w'.heap.size → wpList Tryz.prog ops Q rest (a.put o.dst (.slice (some ⟨g, 0, none⟩) (l.length + m) cap)) w') :
    wpList Tryz.prog ops Q (o :: rest) a w := by
  obtain ⟨i0, hi, hz0, hz1, hz2⟩ := info_parts info32
  refine wpList_append_lies w hgd s x 144 ho base 131 i0 (.int .u32 0) 1 4 Tryz.underlying144 hi hz0 hz1 hz2 rfl (by omega) v l.length (wv l) hs hown ⟨B, 0, none⟩ m c (wv news) hx (by rw [wv_length]; omega)
    (fun j u hu => World.news_of_block hb j u (by simpa using hu)) (wv_one news) hm (by unfold maxLen; omega) (by omega) hbase H hH ?_
  intro g cap w' h1 h2 h3 h4
  exact h g cap w' (by unfold OwnW; rw [wv_append, List.length_append, hl]; exact h1) h2 h3 h4

end Go.Proofs.YtgjmaeodgcigdaaGreatDoor
