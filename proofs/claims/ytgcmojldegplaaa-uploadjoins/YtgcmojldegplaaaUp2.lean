/- What the document's Put of an upload answers. -/
import Derived.Test.YtgcmojldegplaaaUp1
import Derived.Test.YtgcmojldegplaaaResCell
import Derived.OwnWalk
namespace Go.Proofs.Ytgcmojldegplaaa
open Go.RowKit

/-- a part that stays as long as what came in does -/
def PaW (w : World) (p : Pq) : Prop := ∀ V, Below w.heap.size w V → PaOK V p
/-- the document's row, part by part -/
def stP (x : Pq) (s : List Pq × Bool) (p : Pq) : List Pq × Bool :=
  if s.2 = false ∧ x.1.n ≤ p.1.n then (if p.1.n = x.1.n then (s.1 ++ [x], true) else (s.1 ++ [x] ++ [p], true))
  else (if p.1.n = x.1.n then s else (s.1 ++ [p], s.2))
def fnP (x : Pq) (s : List Pq × Bool) : List Pq := if s.2 then s.1 else s.1 ++ [x]
theorem stP_len (x : Pq) (s : List Pq × Bool) (p : Pq) : (stP x s p).1.length ≤ s.1.length + 2 := by
  unfold stP
  split <;> split <;> simp
theorem stP_mem (x : Pq) (s : List Pq × Bool) (p q : Pq) (h : q ∈ (stP x s p).1) : q ∈ s.1 ∨ q = x ∨ q = p := by
  unfold stP at h
  split at h <;> split at h <;> (try simp only [List.mem_append, List.mem_singleton] at h)
  · exact h.elim .inl (fun h => .inr (.inl h))
  · exact h.elim (fun h => h.elim .inl (fun h => .inr (.inl h))) (fun h => .inr (.inr h))
  · exact .inl h
  · exact h.elim .inl (fun h => .inr (.inr h))
theorem stP_done {x p : Pq} {O : List Pq} (h : x.1.n < p.1.n) : stP x (O, true) p = (O ++ [p], true) := by
  unfold stP
  rw [if_neg (fun h => Bool.noConfusion h.1), if_neg (by omega)]
theorem stP_lt {x p : Pq} {O : List Pq} (h : p.1.n < x.1.n) : stP x (O, false) p = (O ++ [p], false) := by
  unfold stP
  rw [if_neg (fun h => by have := h.2; omega), if_neg (by omega)]
theorem stP_eq {x p : Pq} {O : List Pq} (h : p.1.n = x.1.n) : stP x (O, false) p = (O ++ [x], true) := by
  unfold stP
  rw [if_pos ⟨rfl, by omega⟩, if_pos h]
theorem stP_gt {x p : Pq} {O : List Pq} (h : x.1.n < p.1.n) : stP x (O, false) p = (O ++ [x] ++ [p], true) := by
  unfold stP
  rw [if_pos ⟨rfl, by omega⟩, if_neg (by omega)]
theorem stP_same {x p : Pq} {O : List Pq} {b : Bool} (hb : p.1.n < x.1.n ∨ b = true) (h : p.1.n = x.1.n) : stP x (O, b) p = (O, b) := by
  unfold stP
  rw [if_neg (fun h2 => by rcases hb with hb | hb; omega; rw [hb] at h2; exact Bool.noConfusion h2.1), if_pos h]
theorem stP_app {x p : Pq} {O : List Pq} {b : Bool} (hb : p.1.n < x.1.n ∨ b = true) (h : ¬ p.1.n = x.1.n) : stP x (O, b) p = (O ++ [p], b) := by
  unfold stP
  rw [if_neg (fun h2 => by rcases hb with hb | hb; (have := h2.2; omega); (rw [hb] at h2; exact Bool.noConfusion h2.1)), if_neg h]
/-- all from a number on -/
def AllGtP (n : Int) (l : List Pq) : Prop := ∀ p ∈ l, n < p.1.n
def RiseP : List Pq → Prop
  | [] => True
  | p :: l => AllGtP p.1.n l ∧ RiseP l
theorem foldP_done (x : Pq) : ∀ (l : List Pq) (O : List Pq), AllGtP x.1.n l → l.foldl (stP x) (O, true) = (O ++ l, true)
  | [], O, _ => by simp
  | p :: l, O, h => by
    have hp := h p List.mem_cons_self
    rw [List.foldl_cons, stP_done hp, foldP_done x l _ (fun q hq => h q (List.mem_cons_of_mem _ hq))]
    simp
theorem foldP_put (x : Pq) : ∀ (l : List Pq) (O : List Pq), RiseP l → fnP x (l.foldl (stP x) (O, false)) = O ++ (l.takeWhile (fun p => decide (p.1.n < x.1.n)) ++ x :: (l.dropWhile (fun p => decide (p.1.n < x.1.n))).dropWhile (fun p => decide (p.1.n ≤ x.1.n)))
  | [], O, _ => by simp [fnP]
  | p :: l, O, ⟨h1, h2⟩ => by
    rw [List.foldl_cons]
    rcases Int.lt_trichotomy p.1.n x.1.n with h | h | h
    · rw [stP_lt h, foldP_put x l _ h2]
      rw [List.takeWhile_cons_of_pos (by simpa using h), List.dropWhile_cons_of_pos (by simpa using h)]
      simp
    · rw [stP_eq h, foldP_done x l _ (by rw [← h]; exact h1)]
      rw [List.takeWhile_cons_of_neg (by simp; omega), List.dropWhile_cons_of_neg (by simp; omega), List.dropWhile_cons_of_pos (by simp; omega)]
      cases l with
      | nil => simp [fnP]
      | cons q l =>
        have := h1 q List.mem_cons_self
        rw [List.dropWhile_cons_of_neg (by simp; omega)]
        simp [fnP]
    · rw [stP_gt h, foldP_done x l _ (fun q hq => by have := h1 q hq; omega)]
      rw [List.takeWhile_cons_of_neg (by simp; omega), List.dropWhile_cons_of_neg (by simp; omega), List.dropWhile_cons_of_neg (by simp; omega)]
      simp [fnP]
theorem right_rise : ∀ (l : List Pq) (q : Int), rightGo q (l.map Prod.fst) = true → AllGtP q l ∧ RiseP l
  | [], q, _ => ⟨fun p hp => (List.not_mem_nil hp).elim, trivial⟩
  | p :: l, q, h => by
    obtain ⟨_, _, _, d, e⟩ := right_cons (l := l.map Prod.fst) h
    obtain ⟨h1, h2⟩ := right_rise l p.1.n e
    refine ⟨fun r hr => ?_, h1, h2⟩
    rcases List.mem_cons.1 hr with rfl | hr
    · exact d
    · have := h1 r hr; omega
theorem map_takeP (l : List Pq) (n : Int) : (l.takeWhile (fun p => decide (p.1.n < n))).map Prod.fst = (l.map Prod.fst).takeWhile (fun p => decide (p.n < n)) := by rw [List.takeWhile_map]; rfl
theorem map_dropP (l : List Pq) (n : Int) : (l.dropWhile (fun p => decide (p.1.n < n))).map Prod.fst = (l.map Prod.fst).dropWhile (fun p => decide (p.n < n)) := by rw [List.dropWhile_map]; rfl
theorem map_dropleP (l : List Pq) (n : Int) : (l.dropWhile (fun p => decide (p.1.n ≤ n))).map Prod.fst = (l.map Prod.fst).dropWhile (fun p => decide (p.n ≤ n)) := by rw [List.dropWhile_map]; rfl
theorem fold_putPs (x : Pq) (l : List Pq) (h : rightPs (l.map Prod.fst) = true) : (fnP x (l.foldl (stP x) ([], false))).map Prod.fst = putPs (l.map Prod.fst) x.1.n x.1.d := by
  rw [foldP_put x l [] (right_rise l 0 h).2]
  unfold putPs
  rw [List.nil_append, List.map_append, List.map_cons, map_takeP, map_dropleP, map_dropP]
/-- Put: which errno; what stands in the upload -/
def putE16 (n : Int) (d : List UInt8) : Int := if n < 1 ∨ 4 < n then 42 else if 1536 < d.length then 3 else 0
def upZ : List Value := [.string ByteArray.empty, .string ByteArray.empty, .int .u64 0, .int .u64 0, .slice none 0 0]
theorem putE_n {n : Int} {d : List UInt8} (h : n < 1 ∨ 4 < n) : putE16 n d = 42 := by unfold putE16; rw [if_pos h]
theorem putE_d {n : Int} {d : List UInt8} (h : ¬ (n < 1 ∨ 4 < n)) (h2 : 1536 < d.length) : putE16 n d = 3 := by unfold putE16; rw [if_neg h, if_pos h2]
theorem putE_0 {n : Int} {d : List UInt8} (h : ¬ (n < 1 ∨ 4 < n)) (h2 : ¬ 1536 < d.length) : putE16 n d = 0 := by unfold putE16; rw [if_neg h, if_neg h2]
/-- what a Put gives back -/
structure PutPost (u : UpH) (l : List Pq) (x : Pq) (B : Nat) (w : World) (e : Ending) : Prop where
  no : putE16 x.1.n x.1.d ≠ 0 → e = .returned (.tuple #[.agg upZ.toArray, .int .i64 (putE16 x.1.n x.1.d)])
  yes : putE16 x.1.n x.1.d = 0 → ∃ v l', e = .returned (.tuple #[.agg (upc u v).toArray, .int .i64 0]) ∧ OwnC rtP w B v l' ∧ l' = fnP x (l.foldl (stP x) ([], false)) ∧ l'.length ≤ l.length * 2 + 1 ∧ ∀ q ∈ l', q ∈ l ∨ q = x
theorem fold_len (x : Pq) : ∀ (l : List Pq) (s : List Pq × Bool), (l.foldl (stP x) s).1.length ≤ s.1.length + l.length * 2
  | [], s => by simp
  | p :: l, s => by
    have h1 := stP_len x s p
    have h2 := fold_len x l (stP x s p)
    rw [List.foldl_cons, List.length_cons]; omega
theorem fold_take (x : Pq) (l : List Pq) (k : Nat) (p : Pq) (h : l[k]? = some p) : (l.take (k + 1)).foldl (stP x) ([], false) = stP x ((l.take k).foldl (stP x) ([], false)) p := by
  rw [List.take_add_one, h, Option.toList_some, List.foldl_append]; rfl
theorem fold_mem (x : Pq) : ∀ (l : List Pq) (s : List Pq × Bool) (q : Pq), q ∈ (l.foldl (stP x) s).1 → q ∈ s.1 ∨ q ∈ l ∨ q = x
  | [], s, q, h => .inl h
  | p :: l, s, q, h => by
    rw [List.foldl_cons] at h
    rcases fold_mem x l _ q h with h | h | h
    · rcases stP_mem x s p q h with h | h | h
      · exact .inl h
      · exact .inr (.inr h)
      · exact .inr (.inl (by rw [h]; exact List.mem_cons_self))
    · exact .inr (.inl (List.mem_cons_of_mem _ h))
    · exact .inr (.inr h)
/-- two uploads, known whole: the one that came, what is given back; and what stands below -/
structure TwoU (w W : World) (c0 c1 : List Value) : Prop where
  k0 : Blk W w.heap.size 25 c0
  k1 : Blk W (w.heap.size + 1) 25 c1
  bel : Below w.heap.size w W
theorem TwoU.on {w W W' : World} {c0 c1 : List Value} (h : TwoU w W c0 c1) (hb : Below W.heap.size W W') : TwoU w W' c0 c1 := ⟨h.k0.on hb, h.k1.on hb, h.bel.trans (hb.mono h.bel.size)⟩
theorem TwoU.keep {w W W' : World} {c0 c1 : List Value} (h : TwoU w W c0 c1) (hk : KeepT [43] W W') (hb : Below w.heap.size w W') : TwoU w W' c0 c1 := ⟨hk.blk h.k0 (by decide), hk.blk h.k1 (by decide), hb⟩
theorem TwoU.size2 {w W : World} {c0 c1 : List Value} (h : TwoU w W c0 c1) : w.heap.size + 2 ≤ W.heap.size := by
  have := (Array.getElem?_eq_some_iff.1 h.k1).1; omega
theorem TwoU.new (w : World) (c0 c1 : List Value) : TwoU w ((w.alloc (.cells c0.toArray 25)).alloc (.cells c1.toArray 25)) c0 c1 := by
  have hz : (w.alloc (.cells c0.toArray 25)).heap.size = w.heap.size + 1 := Array.size_push _
  have k1 := Blk.new (w.alloc (.cells c0.toArray 25)) 25 c1
  rw [hz] at k1
  exact ⟨(Blk.new w 25 c0).on ((Below.refl _ _).alloc (Nat.le_refl _) _), k1, ((Below.refl _ w).alloc (Nat.le_refl _) _).alloc (by rw [hz]; omega) _⟩
theorem TwoU.put {w W : World} {b k : ByteArray} {i t : Int} {s : Value} (v : Value) (h : TwoU w W [.string b, .string k, .int .u64 i, .int .u64 t, s] upZ) :
    Blk ((((((W.setCell ⟨w.heap.size, 4, none⟩ v).setCell ⟨w.heap.size + 1, 0, none⟩ (.string b)).setCell ⟨w.heap.size + 1, 1, none⟩ (.string k)).setCell ⟨w.heap.size + 1, 2, none⟩ (.int .u64 i)).setCell ⟨w.heap.size + 1, 3, none⟩ (.int .u64 t)).setCell ⟨w.heap.size + 1, 4, none⟩ v) (w.heap.size + 1) 25 [.string b, .string k, .int .u64 i, .int .u64 t, v] ∧
    Below w.heap.size w ((((((W.setCell ⟨w.heap.size, 4, none⟩ v).setCell ⟨w.heap.size + 1, 0, none⟩ (.string b)).setCell ⟨w.heap.size + 1, 1, none⟩ (.string k)).setCell ⟨w.heap.size + 1, 2, none⟩ (.int .u64 i)).setCell ⟨w.heap.size + 1, 3, none⟩ (.int .u64 t)).setCell ⟨w.heap.size + 1, 4, none⟩ v) ∧
    KeepT [25] W ((((((W.setCell ⟨w.heap.size, 4, none⟩ v).setCell ⟨w.heap.size + 1, 0, none⟩ (.string b)).setCell ⟨w.heap.size + 1, 1, none⟩ (.string k)).setCell ⟨w.heap.size + 1, 2, none⟩ (.int .u64 i)).setCell ⟨w.heap.size + 1, 3, none⟩ (.int .u64 t)).setCell ⟨w.heap.size + 1, 4, none⟩ v) := by
  have b0 := h.k1.other ⟨w.heap.size, 4, none⟩ v (by simp)
  have k0 := (KeepT.refl [25] W).set h.k0 (by decide) 4 v
  have b1 := b0.set 0 (.string b)
  have k1 := k0.set b0 (by decide) 0 (.string b)
  have b2 := b1.set 1 (.string k)
  have k2 := k1.set b1 (by decide) 1 (.string k)
  have b3 := b2.set 2 (.int .u64 i)
  have k3 := k2.set b2 (by decide) 2 (.int .u64 i)
  have b4 := b3.set 3 (.int .u64 t)
  have k4 := k3.set b3 (by decide) 3 (.int .u64 t)
  have b5 := b4.set 4 v
  have k5 := k4.set b4 (by decide) 4 v
  exact ⟨b5, (((((h.bel.setCell (p := ⟨w.heap.size, 4, none⟩) (Nat.le_refl _) _).setCell (p := ⟨w.heap.size + 1, 0, none⟩) (Nat.le_succ _) _).setCell (p := ⟨w.heap.size + 1, 1, none⟩) (Nat.le_succ _) _).setCell (p := ⟨w.heap.size + 1, 2, none⟩) (Nat.le_succ _) _).setCell (p := ⟨w.heap.size + 1, 3, none⟩) (Nat.le_succ _) _).setCell (p := ⟨w.heap.size + 1, 4, none⟩) (Nat.le_succ _) _, k5⟩
set_option maxRecDepth 20000 in
set_option maxHeartbeats 8000000 in
theorem refPut16 (u : UpH) (a : Option Addr) (n cap : Nat) (l : List Pq) (nn : Int) (db : Option Addr) (dm dc : Nat) (data : List UInt8) (w : World) (h : IsPs16 w a n cap l) (hd : data.length = dm) (hn : n ≤ 1000) :
    Calls Try.prog 11 #[.agg (upc u (.slice a n cap)).toArray, .int .i64 nn, .slice db dm dc] w fun e w' => PutPost u l (⟨nn, data⟩, ⟨db, dc⟩) w.heap.size w' e ∧ Below w.heap.size w w' := by
  have HX := mkHid h
  have HLn := mkHid h.row.len
  have HDm := mkHid hd
  clear h hd
  obtain ⟨bkt, key, id, time⟩ := u
  simp only [upc] at *
  have HT := mkHid (TwoU.new w [.string bkt, .string key, .int .u64 (id : Int), .int .u64 (time : Int), .slice a n cap] upZ)
  go_enter Try.func11, Try.ntmps11
  go_upto_region 1 with fail
  generalize hy : World.alloc (World.alloc _ _) _ = y
  replace HT : Hid (TwoU w y [.string bkt, .string key, .int .u64 (id : Int), .int .u64 (time : Int), .slice a n cap] upZ) := by rw [← hy]; exact HT
  clear hy
  have q0 : y.cell? ⟨w.heap.size + 1, 0, none⟩ = some (.string ⟨#[]⟩) := HT.out.k1.cell 0
  have q1 : y.cell? ⟨w.heap.size + 1, 1, none⟩ = some (.string ⟨#[]⟩) := HT.out.k1.cell 1
  have q2 : y.cell? ⟨w.heap.size + 1, 2, none⟩ = some (.int .u64 0) := HT.out.k1.cell 2
  have q3 : y.cell? ⟨w.heap.size + 1, 3, none⟩ = some (.int .u64 0) := HT.out.k1.cell 3
  have q4 : y.cell? ⟨w.heap.size + 1, 4, none⟩ = some (.slice none 0 0) := HT.out.k1.cell 4
  have p0 := HT.out.k1.frozen 0
  have p1 := HT.out.k1.frozen 1
  have p2 := HT.out.k1.frozen 2
  have p3 := HT.out.k1.frozen 3
  have p4 := HT.out.k1.frozen 4
  by_cases hnn : nn < 1 ∨ 4 < nn
  · have HE := mkHid (putE_n (d := data) hnn)
    by_cases h1 : nn < 1
    · go_wp2_with fail
      (try simp only [Exit.inBlock, Exit.then])
      refine bodyPost_ret (results_cellrow_tmp (P := Try.prog) rfl _ _ (w.heap.size + 1) 25 upZ.toArray (0, 0) _ rfl (((((HT.out.k1.set 0 (.string ⟨#[]⟩)).set 1 (.string ⟨#[]⟩)).set 2 (.int .u64 0)).set 3 (.int .u64 0)).set 4 (.slice none 0 0)) Try.underlying25 rfl (by kernel_rfl)) rfl ⟨?_, (((((HT.out.bel.setCell (p := ⟨w.heap.size + 1, 0, none⟩) (Nat.le_succ _) _).setCell (p := ⟨w.heap.size + 1, 1, none⟩) (Nat.le_succ _) _).setCell (p := ⟨w.heap.size + 1, 2, none⟩) (Nat.le_succ _) _).setCell (p := ⟨w.heap.size + 1, 3, none⟩) (Nat.le_succ _) _).setCell (p := ⟨w.heap.size + 1, 4, none⟩) (Nat.le_succ _) _)⟩
      exact ⟨fun _ => by rw [HE.out]; rfl, fun h0 => absurd (HE.out.symm.trans h0) (by decide)⟩
    · have h2 : 4 < nn := hnn.resolve_left h1
      have h1d : decide (nn < 1) = false := decide_eq_false h1
      go_wp2_with fail
      (try simp only [Exit.inBlock, Exit.then])
      refine bodyPost_ret (results_cellrow_tmp (P := Try.prog) rfl _ _ (w.heap.size + 1) 25 upZ.toArray (0, 0) _ rfl (((((HT.out.k1.set 0 (.string ⟨#[]⟩)).set 1 (.string ⟨#[]⟩)).set 2 (.int .u64 0)).set 3 (.int .u64 0)).set 4 (.slice none 0 0)) Try.underlying25 rfl (by kernel_rfl)) rfl ⟨?_, (((((HT.out.bel.setCell (p := ⟨w.heap.size + 1, 0, none⟩) (Nat.le_succ _) _).setCell (p := ⟨w.heap.size + 1, 1, none⟩) (Nat.le_succ _) _).setCell (p := ⟨w.heap.size + 1, 2, none⟩) (Nat.le_succ _) _).setCell (p := ⟨w.heap.size + 1, 3, none⟩) (Nat.le_succ _) _).setCell (p := ⟨w.heap.size + 1, 4, none⟩) (Nat.le_succ _) _)⟩
      exact ⟨fun _ => by rw [HE.out]; rfl, fun h0 => absurd (HE.out.symm.trans h0) (by decide)⟩
  have h1 : ¬ nn < 1 := fun h => hnn (.inl h)
  have h2 : ¬ 4 < nn := fun h => hnn (.inr h)
  have h1d : decide (nn < 1) = false := decide_eq_false h1
  have h2d : decide (4 < nn) = false := decide_eq_false h2
  by_cases hbig : 1536 < dm
  · have hbig' : (1536 : Int) < (dm : Int) := by omega
    have HE := mkHid (putE_d (d := data) hnn (by rw [HDm.out]; exact hbig))
    · go_wp2_with fail
      (try simp only [Exit.inBlock, Exit.then])
      refine bodyPost_ret (results_cellrow_tmp (P := Try.prog) rfl _ _ (w.heap.size + 1) 25 upZ.toArray (0, 0) _ rfl (((((HT.out.k1.set 0 (.string ⟨#[]⟩)).set 1 (.string ⟨#[]⟩)).set 2 (.int .u64 0)).set 3 (.int .u64 0)).set 4 (.slice none 0 0)) Try.underlying25 rfl (by kernel_rfl)) rfl ⟨?_, (((((HT.out.bel.setCell (p := ⟨w.heap.size + 1, 0, none⟩) (Nat.le_succ _) _).setCell (p := ⟨w.heap.size + 1, 1, none⟩) (Nat.le_succ _) _).setCell (p := ⟨w.heap.size + 1, 2, none⟩) (Nat.le_succ _) _).setCell (p := ⟨w.heap.size + 1, 3, none⟩) (Nat.le_succ _) _).setCell (p := ⟨w.heap.size + 1, 4, none⟩) (Nat.le_succ _) _)⟩
      exact ⟨fun _ => by rw [HE.out]; rfl, fun h0 => absurd (HE.out.symm.trans h0) (by decide)⟩
  have hbig' : ¬ (1536 : Int) < (dm : Int) := by omega
  have HE := mkHid (putE_0 (d := data) hnn (by rw [HDm.out]; exact hbig))
  clear hnn hbig q0 q1 q2 q3 q4 p0 p1 p2 p3 p4
  go_upto_region 8 with fail
  have HPx : Hid (pac ((⟨nn, data⟩, ⟨db, dc⟩) : Pq) = [.int .i64 nn, .slice db dm dc]) := by unfold Hid pac; simp only [HDm.out]
  go_loopw [8, 9, 10] (fun o d i wr => ∃ (k : Nat) (O : List Pq) (b : Bool), k ≤ n ∧ i = .int .i64 (k : Int) ∧ d = .bool b ∧ Hid ((l.take k).foldl (stP (⟨nn, data⟩, ⟨db, dc⟩)) ([], false) = (O, b)) ∧ Hid (OwnC rtP wr (w.heap.size + 2) o O) ∧ Hid (TwoU w wr [.string bkt, .string key, .int .u64 (id : Int), .int .u64 (time : Int), .slice a n cap] upZ)) (fun _ _ i _ => n - (Go.RowKit.intOf i).toNat)
  case atStart => exact ⟨0, [], false, Nat.zero_le _, rfl, rfl, rfl, OwnC.nil rtP _ _, HT⟩
  case round =>
    clear HT
    obtain ⟨k, O, b, hk, rfl, rfl, HF, HO, HT⟩ := hrel
    have c4 := HT.out.k0.cell 4
    simp only [List.getElem?_cons_zero, List.getElem?_cons_succ] at c4
    have HOl : Hid (O.length ≤ 2000) := by
      unfold Hid
      have h1 := fold_len (⟨nn, data⟩, ⟨db, dc⟩) (l.take k) ([], false)
      rw [HF.out, List.length_take, HLn.out] at h1
      simp only [List.length_nil] at h1
      omega
    by_cases hlt : k < n
    · have hlt' : (k : Int) < (n : Int) := by omega
      obtain ⟨B, off, p, rfl, hBl, hp, hc⟩ := HX.out.row.at k hlt
      obtain ⟨⟨pn, pd⟩, ⟨pa, pc⟩⟩ := p
      obtain ⟨dl, hdl⟩ : ∃ dl, dl = pd.length := ⟨_, rfl⟩
      have HPp : Hid (pac ((⟨pn, pd⟩, ⟨pa, pc⟩) : Pq) = [.int .i64 pn, .slice pa dl pc]) := by unfold Hid pac; simp only [hdl]
      have HCl : Hid (∀ W, Below w.heap.size w W → W.cell? ⟨B, off + k * 2, none⟩ = some (.int .i64 pn) ∧ W.cell? ⟨B, off + k * 2 + 1, none⟩ = some (.slice pa dl pc)) := fun W hW => by
        have h0 := hc 0 (.int .i64 pn) rfl
        have h1 := hc 1 (.slice pa dl pc) (by rw [hdl]; rfl)
        exact ⟨(hW.cell (p := ⟨B, off + k * 2, none⟩) hBl).trans h0, (hW.cell (p := ⟨B, off + k * 2 + 1, none⟩) hBl).trans h1⟩
      have HFn := mkHid (fold_take (⟨nn, data⟩, ⟨db, dc⟩) l k _ hp)
      rw [HF.out] at HFn
      obtain ⟨e0, e1⟩ := HCl.out wr HT.out.bel
      have Hlt := mkHid hlt
      have hk0 : (0 : Int) ≤ (k : Int) := by omega
      have hnw : IntKind.i64.wrap nn = nn := by rw [IntKind.wrap_i64]; omega
      clear hc hp hBl hdl hlt HF
      cases b with
      | true =>
        by_cases he : pn = nn
        · subst he
          go_wp2_with fail
          go_roundw
          case rel => exact ⟨k + 1, O, true, Hlt.out, by go_num, rfl, HFn.out.trans (stP_same (.inr rfl) rfl), HO, HT⟩
          case measure => simp [Go.RowKit.intOf]; have := Hlt.out; omega
        · have hed : decide (pn = nn) = false := decide_eq_false he
          have HBa3 : Hid (Below wr.heap.size wr (wr.alloc (.cells #[.int .i64 pn, .slice pa dl pc] 43))) := mkHid ((Below.refl _ wr).alloc (Nat.le_refl _) _)
          have HOa3 := mkHid (HO.out.on HBa3.out)
          have HTa3 := mkHid (HT.out.on HBa3.out)
          have HSa3 : Hid (SrcC rtP (wr.alloc (.cells #[.int .i64 pn, .slice pa dl pc] 43)) (some ⟨wr.heap.size, 0, none⟩) 1 1 [((⟨pn, pd⟩, ⟨pa, pc⟩) : Pq)]) := mkHid (Blk.srcC (show Blk _ _ _ (pac ((⟨pn, pd⟩, ⟨pa, pc⟩) : Pq)) by rw [HPp.out]; exact Blk.new _ _ _))
          go_wp2_with (at_builtin; refine list_appC okP _ rfl (.tmp 55) (.tmp 61) rfl (w.heap.size + 2) _ _ rfl HOa3.out (some ⟨wr.heap.size, 0, none⟩) 1 1 [((⟨pn, pd⟩, ⟨pa, pc⟩) : Pq)] rfl HSa3.out (by simp only; have := HOl.out; omega) (by have := HTa3.out.size2; omega) ?_; intro v3 V3 ho3 hg3; have HO3 := mkHid ho3; have HB3 : Hid (Below w.heap.size w V3) := mkHid (HTa3.out.bel.grown hg3 HTa3.out.bel.size (fun j hj => Nat.le_trans (by omega) (HOa3.out.lt hj).1)); have HT3 := mkHid (HTa3.out.keep (KeepT.grownC HOa3.out hg3) HB3.out); clear ho3 hg3)
          go_roundw
          case rel => exact ⟨k + 1, _, true, Hlt.out, by go_num, rfl, HFn.out.trans (stP_app (.inr rfl) he), HO3, HT3⟩
          case measure => simp [Go.RowKit.intOf]; have := Hlt.out; omega
      | false =>
        by_cases hle : nn ≤ pn
        · have hled : decide (nn ≤ pn) = true := decide_eq_true hle
          have HBa1 : Hid (Below wr.heap.size wr (wr.alloc (.cells #[.int .i64 nn, .slice db dm dc] 43))) := mkHid ((Below.refl _ wr).alloc (Nat.le_refl _) _)
          have HOa1 := mkHid (HO.out.on HBa1.out)
          have HTa1 := mkHid (HT.out.on HBa1.out)
          have HSa1 : Hid (SrcC rtP (wr.alloc (.cells #[.int .i64 nn, .slice db dm dc] 43)) (some ⟨wr.heap.size, 0, none⟩) 1 1 [((⟨nn, data⟩, ⟨db, dc⟩) : Pq)]) := mkHid (Blk.srcC (show Blk _ _ _ (pac ((⟨nn, data⟩, ⟨db, dc⟩) : Pq)) by rw [HPx.out]; exact Blk.new _ _ _))
          by_cases he : pn = nn
          · obtain rfl := he.symm
            go_wp2_with (at_builtin; refine list_appC okP _ rfl (.tmp 41) (.tmp 45) rfl (w.heap.size + 2) _ _ rfl HOa1.out (some ⟨wr.heap.size, 0, none⟩) 1 1 [((⟨nn, data⟩, ⟨db, dc⟩) : Pq)] rfl HSa1.out (by simp only; have := HOl.out; omega) (by have := HTa1.out.size2; omega) ?_; intro v1 V1 ho1 hg1; have HO1 := mkHid ho1; have HB1 : Hid (Below w.heap.size w V1) := mkHid (HTa1.out.bel.grown hg1 HTa1.out.bel.size (fun j hj => Nat.le_trans (by omega) (HOa1.out.lt hj).1)); have HT1 := mkHid (HTa1.out.keep (KeepT.grownC HOa1.out hg1) HB1.out); clear ho1 hg1; obtain ⟨e0, e1⟩ := HCl.out _ HB1.out; have c4 := HT1.out.k0.cell 4; simp only [List.getElem?_cons_zero, List.getElem?_cons_succ] at c4)
            go_roundw
            case rel => exact ⟨k + 1, _, true, Hlt.out, by go_num, rfl, HFn.out.trans (stP_eq rfl), HO1, HT1⟩
            case measure => simp [Go.RowKit.intOf]; have := Hlt.out; omega
          · have hed : decide (pn = nn) = false := decide_eq_false he
            go_wp2_with (at_builtin; first
              | (refine list_appC okP _ rfl (.tmp 41) (.tmp 45) rfl (w.heap.size + 2) _ _ rfl HOa1.out (some ⟨wr.heap.size, 0, none⟩) 1 1 [((⟨nn, data⟩, ⟨db, dc⟩) : Pq)] rfl HSa1.out (by simp only; have := HOl.out; omega) (by have := HTa1.out.size2; omega) ?_; intro v1 V1 ho1 hg1; have HO1 := mkHid ho1; have HB1 : Hid (Below w.heap.size w V1) := mkHid (HTa1.out.bel.grown hg1 HTa1.out.bel.size (fun j hj => Nat.le_trans (by omega) (HOa1.out.lt hj).1)); have HT1 := mkHid (HTa1.out.keep (KeepT.grownC HOa1.out hg1) HB1.out); clear ho1 hg1; obtain ⟨e0, e1⟩ := HCl.out _ HB1.out; have c4 := HT1.out.k0.cell 4; simp only [List.getElem?_cons_zero, List.getElem?_cons_succ] at c4; have HBa2 : Hid (Below V1.heap.size V1 (V1.alloc (.cells #[.int .i64 pn, .slice pa dl pc] 43))) := mkHid ((Below.refl _ V1).alloc (Nat.le_refl _) _); have HOa2 := mkHid (HO1.out.on HBa2.out); have HTa2 := mkHid (HT1.out.on HBa2.out); have HSa2 : Hid (SrcC rtP (V1.alloc (.cells #[.int .i64 pn, .slice pa dl pc] 43)) (some ⟨V1.heap.size, 0, none⟩) 1 1 [((⟨pn, pd⟩, ⟨pa, pc⟩) : Pq)]) := mkHid (Blk.srcC (show Blk _ _ _ (pac ((⟨pn, pd⟩, ⟨pa, pc⟩) : Pq)) by rw [HPp.out]; exact Blk.new _ _ _)))
              | (refine list_appC okP _ rfl (.tmp 55) (.tmp 61) rfl (w.heap.size + 2) _ _ rfl HOa2.out (some ⟨V1.heap.size, 0, none⟩) 1 1 [((⟨pn, pd⟩, ⟨pa, pc⟩) : Pq)] rfl HSa2.out (by simp only [List.length_append, List.length_cons, List.length_nil]; have := HOl.out; omega) (by have := HTa2.out.size2; omega) ?_; intro v2 V2 ho2 hg2; have HO2 := mkHid ho2; have HB2 : Hid (Below w.heap.size w V2) := mkHid (HTa2.out.bel.grown hg2 HTa2.out.bel.size (fun j hj => Nat.le_trans (by omega) (HOa2.out.lt hj).1)); have HT2 := mkHid (HTa2.out.keep (KeepT.grownC HOa2.out hg2) HB2.out); clear ho2 hg2))
            go_roundw
            case rel => exact ⟨k + 1, _, true, Hlt.out, by go_num, rfl, HFn.out.trans (stP_gt (by show nn < pn; omega)), HO2, HT2⟩
            case measure => simp [Go.RowKit.intOf]; have := Hlt.out; omega
        · have hled : decide (nn ≤ pn) = false := decide_eq_false hle
          have he : ¬ pn = nn := by omega
          have hed : decide (pn = nn) = false := decide_eq_false he
          have HBa3 : Hid (Below wr.heap.size wr (wr.alloc (.cells #[.int .i64 pn, .slice pa dl pc] 43))) := mkHid ((Below.refl _ wr).alloc (Nat.le_refl _) _)
          have HOa3 := mkHid (HO.out.on HBa3.out)
          have HTa3 := mkHid (HT.out.on HBa3.out)
          have HSa3 : Hid (SrcC rtP (wr.alloc (.cells #[.int .i64 pn, .slice pa dl pc] 43)) (some ⟨wr.heap.size, 0, none⟩) 1 1 [((⟨pn, pd⟩, ⟨pa, pc⟩) : Pq)]) := mkHid (Blk.srcC (show Blk _ _ _ (pac ((⟨pn, pd⟩, ⟨pa, pc⟩) : Pq)) by rw [HPp.out]; exact Blk.new _ _ _))
          go_wp2_with (at_builtin; refine list_appC okP _ rfl (.tmp 55) (.tmp 61) rfl (w.heap.size + 2) _ _ rfl HOa3.out (some ⟨wr.heap.size, 0, none⟩) 1 1 [((⟨pn, pd⟩, ⟨pa, pc⟩) : Pq)] rfl HSa3.out (by simp only; have := HOl.out; omega) (by have := HTa3.out.size2; omega) ?_; intro v3 V3 ho3 hg3; have HO3 := mkHid ho3; have HB3 : Hid (Below w.heap.size w V3) := mkHid (HTa3.out.bel.grown hg3 HTa3.out.bel.size (fun j hj => Nat.le_trans (by omega) (HOa3.out.lt hj).1)); have HT3 := mkHid (HTa3.out.keep (KeepT.grownC HOa3.out hg3) HB3.out); clear ho3 hg3)
          go_roundw
          case rel => exact ⟨k + 1, _, false, Hlt.out, by go_num, rfl, HFn.out.trans (stP_lt (by show pn < nn; omega)), HO3, HT3⟩
          case measure => simp [Go.RowKit.intOf]; have := Hlt.out; omega
    · have hkn : k = n := by omega
      subst hkn
      have hge : ¬ (k : Int) < (k : Int) := by omega
      have HFl : Hid (l.foldl (stP (⟨nn, data⟩, ⟨db, dc⟩)) ([], false) = (O, b)) := by
        unfold Hid
        have := HF.out
        rw [List.take_of_length_le (by rw [HLn.out]; exact Nat.le_refl _)] at this
        exact this
      have HMm := mkHid (fold_mem (⟨nn, data⟩, ⟨db, dc⟩) l ([], false))
      have HLl := mkHid (fold_len (⟨nn, data⟩, ⟨db, dc⟩) l ([], false))
      rw [HFl.out] at HMm HLl
      have c0 := HT.out.k0.cell 0
      have c1 := HT.out.k0.cell 1
      have c2 := HT.out.k0.cell 2
      have c3 := HT.out.k0.cell 3
      have f4 := HT.out.k0.frozen 4
      have q0 : wr.cell? ⟨w.heap.size + 1, 0, none⟩ = some (.string ⟨#[]⟩) := HT.out.k1.cell 0
      have q1 : wr.cell? ⟨w.heap.size + 1, 1, none⟩ = some (.string ⟨#[]⟩) := HT.out.k1.cell 1
      have q2 : wr.cell? ⟨w.heap.size + 1, 2, none⟩ = some (.int .u64 0) := HT.out.k1.cell 2
      have q3 : wr.cell? ⟨w.heap.size + 1, 3, none⟩ = some (.int .u64 0) := HT.out.k1.cell 3
      have q4 : wr.cell? ⟨w.heap.size + 1, 4, none⟩ = some (.slice none 0 0) := HT.out.k1.cell 4
      have p0 := HT.out.k1.frozen 0
      have p1 := HT.out.k1.frozen 1
      have p2 := HT.out.k1.frozen 2
      have p3 := HT.out.k1.frozen 3
      have p4 := HT.out.k1.frozen 4
      simp only [List.getElem?_cons_zero, List.getElem?_cons_succ] at c0 c1 c2 c3
      cases b with
      | true =>
        obtain ⟨oa, oc, ho, hoc, hon⟩ := HO.out.form okP
        subst ho
        obtain ⟨hb, hbel, hkp⟩ := HT.out.put (.slice oa O.length oc)
        have HB := mkHid hb
        have HBe := mkHid hbel
        have HKp := mkHid hkp
        clear HF hb hbel hkp hon
        go_wp2_with fail
        (try simp only [Exit.inBlock, Exit.then])
        refine bodyPost_ret (results_cellrow_tmp (P := Try.prog) rfl _ _ (w.heap.size + 1) 25 _ (0, 0) _ rfl HB.out Try.underlying25 rfl (by kernel_rfl)) rfl ⟨?_, HBe.out⟩
        exact ⟨fun h0 => absurd HE.out h0, fun _ => ⟨_, O, rfl, (HO.out.keep (us := [43]) (KeepO.ofT HKp.out (by decide)) (List.mem_singleton.2 rfl)).base (by omega), by rw [HFl.out]; rfl, by have := HLl.out; simp only [List.length_nil] at this; omega, fun q hq => (HMm.out q hq).elim (fun h => absurd h List.not_mem_nil) (fun h => h)⟩⟩
      | false =>
        have HBa4 : Hid (Below wr.heap.size wr (wr.alloc (.cells #[.int .i64 nn, .slice db dm dc] 43))) := mkHid ((Below.refl _ wr).alloc (Nat.le_refl _) _)
        have HOa4 := mkHid (HO.out.on HBa4.out)
        have HTa4 := mkHid (HT.out.on HBa4.out)
        have HSa4 : Hid (SrcC rtP (wr.alloc (.cells #[.int .i64 nn, .slice db dm dc] 43)) (some ⟨wr.heap.size, 0, none⟩) 1 1 [((⟨nn, data⟩, ⟨db, dc⟩) : Pq)]) := mkHid (Blk.srcC (show Blk _ _ _ (pac ((⟨nn, data⟩, ⟨db, dc⟩) : Pq)) by rw [HPx.out]; exact Blk.new _ _ _))
        have hnw : IntKind.i64.wrap nn = nn := by rw [IntKind.wrap_i64]; omega
        clear HF c0 c1 c2 c3 f4 q0 q1 q2 q3 q4 p0 p1 p2 p3 p4
        go_wp2_with (at_builtin; refine list_appC okP _ rfl (.tmp 65) (.tmp 69) rfl (w.heap.size + 2) _ _ rfl HOa4.out (some ⟨wr.heap.size, 0, none⟩) 1 1 [((⟨nn, data⟩, ⟨db, dc⟩) : Pq)] rfl HSa4.out (by simp only; have := HOl.out; omega) (by have := HTa4.out.size2; omega) ?_; intro v4 V4 ho4 hg4; obtain ⟨O2, hO2⟩ : ∃ O2, O2 = O ++ [((⟨nn, data⟩, ⟨db, dc⟩) : Pq)] := ⟨_, rfl⟩; rw [← hO2] at ho4; have HO2 := mkHid hO2; clear hO2; obtain ⟨oa, oc, hv4, hoc, hon⟩ := ho4.form okP; subst hv4; have HO4 := mkHid ho4; have HB4 : Hid (Below w.heap.size w V4) := mkHid (HTa4.out.bel.grown hg4 HTa4.out.bel.size (fun j hj => Nat.le_trans (by omega) (HOa4.out.lt hj).1)); have HT4 := mkHid (HTa4.out.keep (KeepT.grownC HOa4.out hg4) HB4.out); clear ho4 hg4 hon; have c0 := HT4.out.k0.cell 0; have c1 := HT4.out.k0.cell 1; have c2 := HT4.out.k0.cell 2; have c3 := HT4.out.k0.cell 3; have f4 := HT4.out.k0.frozen 4; have q0 : V4.cell? ⟨w.heap.size + 1, 0, none⟩ = some (.string ⟨#[]⟩) := HT4.out.k1.cell 0; have q1 : V4.cell? ⟨w.heap.size + 1, 1, none⟩ = some (.string ⟨#[]⟩) := HT4.out.k1.cell 1; have q2 : V4.cell? ⟨w.heap.size + 1, 2, none⟩ = some (.int .u64 0) := HT4.out.k1.cell 2; have q3 : V4.cell? ⟨w.heap.size + 1, 3, none⟩ = some (.int .u64 0) := HT4.out.k1.cell 3; have q4 : V4.cell? ⟨w.heap.size + 1, 4, none⟩ = some (.slice none 0 0) := HT4.out.k1.cell 4; have p0 := HT4.out.k1.frozen 0; have p1 := HT4.out.k1.frozen 1; have p2 := HT4.out.k1.frozen 2; have p3 := HT4.out.k1.frozen 3; have p4 := HT4.out.k1.frozen 4; have c4 := HT4.out.k0.cell 4; simp only [List.getElem?_cons_zero, List.getElem?_cons_succ] at c0 c1 c2 c3 c4; obtain ⟨hb, hbel, hkp⟩ := HT4.out.put (.slice oa O2.length oc); have HB := mkHid hb; have HBe := mkHid hbel; have HKp := mkHid hkp; clear hb hbel hkp)
        (try simp only [Exit.inBlock, Exit.then])
        refine bodyPost_ret (results_cellrow_tmp (P := Try.prog) rfl _ _ (w.heap.size + 1) 25 _ (0, 0) _ rfl HB.out Try.underlying25 rfl (by kernel_rfl)) rfl ⟨?_, HBe.out⟩
        exact ⟨fun h0 => absurd HE.out h0, fun _ => ⟨_, _, rfl, (HO4.out.keep (us := [43]) (KeepO.ofT HKp.out (by decide)) (List.mem_singleton.2 rfl)).base (by omega), by rw [HFl.out, HO2.out]; rfl, by have := HLl.out; rw [HO2.out]; simp only [List.length_nil, List.length_append, List.length_cons] at this ⊢; omega, fun q hq => (List.mem_append.1 (HO2.out ▸ hq)).elim (fun h => (HMm.out q h).elim (fun h => absurd h List.not_mem_nil) (fun h => h)) (fun h => .inr (List.mem_singleton.1 h))⟩⟩
end Go.Proofs.Ytgcmojldegplaaa
