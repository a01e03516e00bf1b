/- What audit's fromBehind hands out. · The audit log, plain: a record that is shown is read as it was, bytes that are one are what is shown of it; of two logs with one head; a log that is edited. -/
import Derived.Test.YtbclhaleibjkgaaB36
import Derived.Test.YtbclhaleibjkgaaC0
import Derived.Lib.MinMax
import Derived.Test.YtbclhaleibjkgaaB37
namespace Go.Proofs.Ytbclhaleibjkgaa
open Go.RowKit Go.Shelf
attribute [local go_sem] Oper.semAt_some

/-- the function's two variables, and what their slices hold -/
structure VarC (As Bs : Nat) (a : Option Addr) (n cap : Nat) (b : Option Addr) (m cap' : Nat) (Ba oa Bb ob : Nat) (l l' : List Rq14) (W : World) : Prop where
  a : Blk W As 36 [.slice a n cap]
  b : Blk W Bs 36 [.slice b m cap']
  l : RowsR Ba oa l W
  l' : RowsR Bb ob l' W
def KpC (As Bs : Nat) (a : Option Addr) (n cap : Nat) (b : Option Addr) (m cap' : Nat) (Ba oa Bb ob : Nat) (l l' : List Rq14) (A W : World) : Prop := VarC As Bs a n cap b m cap' Ba oa Bb ob l l' A → VarC As Bs a n cap b m cap' Ba oa Bb ob l l' W
theorem VarC.on {As Bs : Nat} {a : Option Addr} {n cap : Nat} {b : Option Addr} {m cap' Ba oa Bb ob : Nat} {l l' : List Rq14} {A W : World} (h : VarC As Bs a n cap b m cap' Ba oa Bb ob l l' A) (hb : Below A.heap.size A W) : VarC As Bs a n cap b m cap' Ba oa Bb ob l l' W := ⟨h.a.on hb, h.b.on hb, h.l.on hb, h.l'.on hb⟩
theorem rows_keep14 {B off : Nat} {l : List Rq14} {A W : World} (h : RowsR B off l A) (h2 : 0 < l.length → W.heap[B]? = A.heap[B]?) : RowsR B off l W := fun k x hx => range_blk14 (h k x hx) (h2 (by have := (List.getElem?_eq_some_iff.1 hx).1; omega))
theorem VarC.keepO {As Bs : Nat} {a : Option Addr} {n cap : Nat} {b : Option Addr} {m cap' Ba oa Bb ob : Nat} {l l' : List Rq14} {A W : World} (h : VarC As Bs a n cap b m cap' Ba oa Bb ob l l' A) (h1 : W.heap[As]? = A.heap[As]?) (h2 : W.heap[Bs]? = A.heap[Bs]?) (h3 : 0 < l.length → W.heap[Ba]? = A.heap[Ba]?) (h4 : 0 < l'.length → W.heap[Bb]? = A.heap[Bb]?) : VarC As Bs a n cap b m cap' Ba oa Bb ob l l' W := ⟨h1.trans h.a, h2.trans h.b, rows_keep14 h.l h3, rows_keep14 h.l' h4⟩
/-- the k-th pair: from behind -/
def enC (l l' : List Rq14) (k : Nat) : Array Value := match l[l.length - 1 - k]?, l'[l'.length - 1 - k]? with
  | some x, some y => #[.agg (rcc x.1 x.2).toArray, .agg (rcc y.1 y.2).toArray]
  | _, _ => #[.int .i64 0, .int .i64 0]
theorem enC_size (l l' : List Rq14) (k : Nat) : (enC l l' k).size = 2 := by unfold enC; split <;> rfl
theorem enC_eq {l l' : List Rq14} {k i j : Nat} {x y : Rq14} (hi : i + 1 + k = l.length) (hx : l[i]? = some x) (hj : j + 1 + k = l'.length) (hy : l'[j]? = some y) : enC l l' k = #[.agg (rcc x.1 x.2).toArray, .agg (rcc y.1 y.2).toArray] := by
  unfold enC
  rw [show l.length - 1 - k = i by omega, show l'.length - 1 - k = j by omega, hx, hy]
set_option maxHeartbeats 1000000 in
theorem codFrom14 (f : Nat) (a : Option Addr) (n cap : Nat) (b : Option Addr) (m cap' : Nat) (w : World) :
    CallsIn Fence.wide f Try.prog 49 #[.slice a n cap, .slice b m cap'] w fun e w' => e = .returned (.func (.func 67) #[] #[.pointer (some ⟨w.heap.size, 0, none⟩), .pointer (some ⟨w.heap.size + 1, 0, none⟩)]) ∧ w' = (w.alloc (.cells #[.slice a n cap] 36)).alloc (.cells #[.slice b m cap'] 36) := by
  refine callsIn_of_wp Try.func49 rfl trivial ?_ rfl
  simp only [Try.ntmps49, List.size_toArray, List.length_cons, List.length_nil, Nat.reduceAdd, Nat.reduceSub, Array.replicate_succ, Array.replicate_zero, List.push_toArray, List.append_toArray, List.nil_append, List.cons_append]
  gi_wp2
  go_ret
  exact ⟨by simp, rfl⟩
set_option maxRecDepth 100000 in
set_option maxHeartbeats 2000000 in
theorem seqFrom14_0 (f : Nat) (As Bs : Nat) (a : Option Addr) (n cap : Nat) (b : Option Addr) (m cap' : Nat) (Ba oa Bb ob : Nat) (l l' : List Rq14) (h0 : n = 0 ∨ m = 0) :
    SeqS f Try.prog 67 #[.pointer (some ⟨As, 0, none⟩), .pointer (some ⟨Bs, 0, none⟩)] (enC l l') (KpC As Bs a n cap b m cap' Ba oa Bb ob l l') 0 (VarC As Bs a n cap b m cap' Ba oa Bb ob l l') := by
  intro l0 J Jx W hV hJb hJxb hY hJ0
  have HJ0 : Hid (J 0 W) := hJ0
  have c0 : W.cell? ⟨As, 0, none⟩ = some (.slice a n cap) := hV.a.cell 0
  have c1 : W.cell? ⟨Bs, 0, none⟩ = some (.slice b m cap') := hV.b.cell 0
  have hmin : min (n : Int) (m : Int) = 0 := by omega
  clear hJb hJxb hY hV hJ0
  show CallsIn Fence.wide f Try.prog 67 #[.func (.yield l0) #[] #[], .pointer (some ⟨As, 0, none⟩), .pointer (some ⟨Bs, 0, none⟩)] W _
  refine callsIn_of_wp Try.func67 rfl trivial ?_ rfl
  simp only [Try.ntmps67, List.size_toArray, List.length_cons, List.length_nil, Nat.reduceAdd, Nat.reduceSub, Array.replicate_succ, Array.replicate_zero, List.push_toArray, List.append_toArray, List.nil_append, List.cons_append]
  gi_wp2
  clear c0 c1
  gi_loopw [10] (fun i wr => i = .int .i64 0 ∧ Hid (J 0 wr)) (fun _ _ => 0)
  case atStart => exact ⟨rfl, HJ0⟩
  case round =>
    clear HJ0
    obtain ⟨rfl, HJ⟩ := hrel
    gi_wp2
    go_end0
    exact ⟨⟨_, rfl⟩, .inl HJ.out⟩
set_option maxRecDepth 100000 in
set_option maxHeartbeats 4000000 in
theorem seqFrom14_1 (f : Nat) (hf : 1 ≤ f) (As Bs Ba oa Bb ob : Nat) (n cap m cap' : Nat) (l l' : List Rq14) (hl : l.length = n) (hl' : l'.length = m) (hn : n ≤ 100000) (hm : m ≤ 100000) :
    SeqS f Try.prog 67 #[.pointer (some ⟨As, 0, none⟩), .pointer (some ⟨Bs, 0, none⟩)] (enC l l') (KpC As Bs (some ⟨Ba, oa, none⟩) n cap (some ⟨Bb, ob, none⟩) m cap' Ba oa Bb ob l l') (min n m) (VarC As Bs (some ⟨Ba, oa, none⟩) n cap (some ⟨Bb, ob, none⟩) m cap' Ba oa Bb ob l l') := by
  intro l0 J Jx W hV hJb hJxb hY hJ0
  have HJb : Hid (∀ k A B, J k A → Below A.heap.size A B → J k B) := hJb
  have HJxb : Hid (∀ k A B, Jx k A → Below A.heap.size A B → Jx k B) := hJxb
  have HY : Hid (∀ k A, J k A → k < min n m → YieldAt Fence.wide (f - 1) Try.prog l0 (enC l l' k) A fun e C => (e = .returned (.bool true) ∧ J (k + 1) C ∧ KpC As Bs (some ⟨Ba, oa, none⟩) n cap (some ⟨Bb, ob, none⟩) m cap' Ba oa Bb ob l l' A C) ∨ (e = .returned (.bool false) ∧ Jx (k + 1) C ∧ KpC As Bs (some ⟨Ba, oa, none⟩) n cap (some ⟨Bb, ob, none⟩) m cap' Ba oa Bb ob l l' A C)) := hY
  have HV : Hid (VarC As Bs (some ⟨Ba, oa, none⟩) n cap (some ⟨Bb, ob, none⟩) m cap' Ba oa Bb ob l l' W) := hV
  have HJ0 : Hid (J 0 W) := hJ0
  have HL := mkHid hl
  have HL' := mkHid hl'
  obtain ⟨N, hN⟩ : ∃ N, N = min n m := ⟨_, rfl⟩
  have HN := mkHid hN
  have hmin : min (n : Int) (m : Int) = (N : Int) := by omega
  rw [← hN] at HY ⊢
  clear hJb hJxb hY hV hJ0 hl hl' hN
  show CallsIn Fence.wide f Try.prog 67 #[.func (.yield l0) #[] #[], .pointer (some ⟨As, 0, none⟩), .pointer (some ⟨Bs, 0, none⟩)] W _
  refine callsIn_of_wp Try.func67 rfl trivial ?_ rfl
  simp only [Try.ntmps67, List.size_toArray, List.length_cons, List.length_nil, Nat.reduceAdd, Nat.reduceSub, Array.replicate_succ, Array.replicate_zero, List.push_toArray, List.append_toArray, List.nil_append, List.cons_append]
  have c0 : W.cell? ⟨As, 0, none⟩ = some (.slice (some ⟨Ba, oa, none⟩) n cap) := HV.out.a.cell 0
  have c1 : W.cell? ⟨Bs, 0, none⟩ = some (.slice (some ⟨Bb, ob, none⟩) m cap') := HV.out.b.cell 0
  gi_wp2
  clear c0 c1
  gi_loopw [4, 10] (fun _ i wr => ∃ k : Nat, k ≤ N ∧ i = .int .i64 (k : Int) ∧ Hid (VarC As Bs (some ⟨Ba, oa, none⟩) n cap (some ⟨Bb, ob, none⟩) m cap' Ba oa Bb ob l l' wr) ∧ Hid (J k wr)) (fun _ i _ => N - (Go.RowKit.intOf i).toNat)
  case atStart => exact ⟨0, Nat.zero_le _, rfl, HV, HJ0⟩
  case round =>
    clear HV HJ0
    obtain ⟨k, hk, rfl, HV, HJ⟩ := hrel
    by_cases hlt : k < N
    · obtain ⟨i, hi⟩ : ∃ i : Nat, i + 1 + k = n := ⟨n - 1 - k, by have := HN.out; omega⟩
      obtain ⟨j, hj⟩ : ∃ j : Nat, j + 1 + k = m := ⟨m - 1 - k, by have := HN.out; omega⟩
      obtain ⟨x, hx⟩ : ∃ x, l[i]? = some x := ⟨l[i]'(by have := HL.out; omega), List.getElem?_eq_getElem _⟩
      obtain ⟨y, hy⟩ : ∃ y, l'[j]? = some y := ⟨l'[j]'(by have := HL'.out; omega), List.getElem?_eq_getElem _⟩
      have HX : Hid (∀ A, J k A → YieldAt Fence.wide (f - 1) Try.prog l0 #[.agg (rcc x.1 x.2).toArray, .agg (rcc y.1 y.2).toArray] A fun e C => (e = .returned (.bool true) ∧ J (k + 1) C ∧ KpC As Bs (some ⟨Ba, oa, none⟩) n cap (some ⟨Bb, ob, none⟩) m cap' Ba oa Bb ob l l' A C) ∨ (e = .returned (.bool false) ∧ Jx (k + 1) C ∧ KpC As Bs (some ⟨Ba, oa, none⟩) n cap (some ⟨Bb, ob, none⟩) m cap' Ba oa Bb ob l l' A C)) := by
        have := fun A hA => HY.out k A hA hlt
        rw [enC_eq (by have := HL.out; omega) hx (by have := HL'.out; omega) hy] at this
        exact this
      have HS0 : Hid (∀ w1, VarC As Bs (some ⟨Ba, oa, none⟩) n cap (some ⟨Bb, ob, none⟩) m cap' Ba oa Bb ob l l' w1 → w1.rangeAt Ba (oa + i * 10) (rcc x.1 x.2) ∧ w1.rangeAt Bb (ob + j * 10) (rcc y.1 y.2)) := fun w1 h1 => ⟨h1.l i x hx, h1.l' j y hy⟩
      have HI_cx := info14 x.1 x.2
      have HI_cy := info14 y.1 y.2
      have hlt' : (k : Int) < (N : Int) := by omega
      have hsa : (n : Int) - 1 - (k : Int) = (i : Int) := by omega
      have hsb : (m : Int) - 1 - (k : Int) = (j : Int) := by omega
      have wa : IntKind.i64.wrap ((n : Int) - 1) = (n : Int) - 1 := by rw [IntKind.wrap_i64]; omega
      have wb : IntKind.i64.wrap ((m : Int) - 1) = (m : Int) - 1 := by rw [IntKind.wrap_i64]; omega
      have wi : IntKind.i64.wrap (i : Int) = (i : Int) := by rw [IntKind.wrap_i64]; omega
      have wj : IntKind.i64.wrap (j : Int) = (j : Int) := by rw [IntKind.wrap_i64]; omega
      have ha0 : (0 : Int) ≤ (i : Int) := by omega
      have ha1 : (i : Int) < (n : Int) := by omega
      have hb0 : (0 : Int) ≤ (j : Int) := by omega
      have hb1 : (j : Int) < (m : Int) := by omega
      have Hlt := mkHid hlt
      clear hx hy HY hi hj hlt
      generalize rcc x.1 x.2 = cx at *
      generalize rcc y.1 y.2 = cy at *
      have HS : VarC As Bs (some ⟨Ba, oa, none⟩) n cap (some ⟨Bb, ob, none⟩) m cap' Ba oa Bb ob l l' wr.drew := HV.out.on (Below.refl _ _).drew
      have HJd : Hid (J k wr.drew) := HJb.out k _ _ HJ.out (Below.refl _ _).drew
      gi_wp2_with fail
      refine region_W (S := VarC As Bs (some ⟨Ba, oa, none⟩) n cap (some ⟨Bb, ob, none⟩) m cap' Ba oa Bb ob l l') HS (fun HS => ?_)
      refine tkW 13 0 (.func (.yield l0) #[] #[]) (by rfl) (Or.inl ⟨by rfl, ?_⟩) HS ?_
      · intro w1 hSw; go_simp
      (try simp only [Act.put, List.setIfInBounds_toArray, List.set_cons_zero, List.set_cons_succ])
      refine tkW 14 1 (.slice (some ⟨Ba, oa, none⟩) n cap) (by rfl) (Or.inl ⟨by rfl, ?_⟩) HS ?_
      · intro w1 hSw; have c0 : w1.cell? ⟨As, 0, none⟩ = some (.slice (some ⟨Ba, oa, none⟩) n cap) := hSw.a.cell 0; go_simp
      (try simp only [Act.put, List.setIfInBounds_toArray, List.set_cons_zero, List.set_cons_succ])
      refine tkW 15 2 (.slice (some ⟨Ba, oa, none⟩) n cap) (by rfl) (Or.inl ⟨by rfl, ?_⟩) HS ?_
      · intro w1 hSw; have c0 : w1.cell? ⟨As, 0, none⟩ = some (.slice (some ⟨Ba, oa, none⟩) n cap) := hSw.a.cell 0; go_simp
      (try simp only [Act.put, List.setIfInBounds_toArray, List.set_cons_zero, List.set_cons_succ])
      refine tkW 16 3 (.int .i64 (n : Int)) (by rfl) (Or.inl ⟨by rfl, ?_⟩) HS ?_
      · intro w1 hSw; go_simp
      (try simp only [Act.put, List.setIfInBounds_toArray, List.set_cons_zero, List.set_cons_succ])
      refine tkW 17 4 (.int .i64 ((n : Int) - 1)) (by rfl) (Or.inl ⟨by rfl, ?_⟩) HS ?_
      · intro w1 hSw; go_simp
      (try simp only [Act.put, List.setIfInBounds_toArray, List.set_cons_zero, List.set_cons_succ])
      refine tkW 18 5 (.int .i64 (k : Int)) (by rfl) (Or.inl ⟨by rfl, ?_⟩) HS ?_
      · intro w1 hSw; go_simp
      (try simp only [Act.put, List.setIfInBounds_toArray, List.set_cons_zero, List.set_cons_succ])
      refine tkW 19 6 (.int .i64 (i : Int)) (by rfl) (Or.inl ⟨by rfl, ?_⟩) HS ?_
      · intro w1 hSw; go_simp
      (try simp only [Act.put, List.setIfInBounds_toArray, List.set_cons_zero, List.set_cons_succ])
      refine tkW 20 7 (.pointer (some ⟨Ba, oa + i * 10, none⟩)) (by rfl) (Or.inl ⟨by rfl, ?_⟩) HS ?_
      · intro w1 hSw; go_simp
      (try simp only [Act.put, List.setIfInBounds_toArray, List.set_cons_zero, List.set_cons_succ])
      refine tkW 21 8 (.agg (cx).toArray) (by rfl) (yieldsIf_load_mid (by rfl) 26 (.tmp 20) (by rfl) Ba (oa + i * 10) (by rfl) (cx) _ (fun w1 hw1 => (HS0.out w1 hw1).1) Try.underlying26 rfl HI_cx) HS ?_
      (try simp only [Act.put, List.setIfInBounds_toArray, List.set_cons_zero, List.set_cons_succ])
      refine tkW 22 9 (.slice (some ⟨Bb, ob, none⟩) m cap') (by rfl) (Or.inl ⟨by rfl, ?_⟩) HS ?_
      · intro w1 hSw; have c0 : w1.cell? ⟨Bs, 0, none⟩ = some (.slice (some ⟨Bb, ob, none⟩) m cap') := hSw.b.cell 0; go_simp
      (try simp only [Act.put, List.setIfInBounds_toArray, List.set_cons_zero, List.set_cons_succ])
      refine tkW 23 10 (.slice (some ⟨Bb, ob, none⟩) m cap') (by rfl) (Or.inl ⟨by rfl, ?_⟩) HS ?_
      · intro w1 hSw; have c0 : w1.cell? ⟨Bs, 0, none⟩ = some (.slice (some ⟨Bb, ob, none⟩) m cap') := hSw.b.cell 0; go_simp
      (try simp only [Act.put, List.setIfInBounds_toArray, List.set_cons_zero, List.set_cons_succ])
      refine tkW 24 11 (.int .i64 (m : Int)) (by rfl) (Or.inl ⟨by rfl, ?_⟩) HS ?_
      · intro w1 hSw; go_simp
      (try simp only [Act.put, List.setIfInBounds_toArray, List.set_cons_zero, List.set_cons_succ])
      refine tkW 25 12 (.int .i64 ((m : Int) - 1)) (by rfl) (Or.inl ⟨by rfl, ?_⟩) HS ?_
      · intro w1 hSw; go_simp
      (try simp only [Act.put, List.setIfInBounds_toArray, List.set_cons_zero, List.set_cons_succ])
      refine tkW 26 13 (.int .i64 (k : Int)) (by rfl) (Or.inl ⟨by rfl, ?_⟩) HS ?_
      · intro w1 hSw; go_simp
      (try simp only [Act.put, List.setIfInBounds_toArray, List.set_cons_zero, List.set_cons_succ])
      refine tkW 27 14 (.int .i64 (j : Int)) (by rfl) (Or.inl ⟨by rfl, ?_⟩) HS ?_
      · intro w1 hSw; go_simp
      (try simp only [Act.put, List.setIfInBounds_toArray, List.set_cons_zero, List.set_cons_succ])
      refine tkW 28 15 (.pointer (some ⟨Bb, ob + j * 10, none⟩)) (by rfl) (Or.inl ⟨by rfl, ?_⟩) HS ?_
      · intro w1 hSw; go_simp
      (try simp only [Act.put, List.setIfInBounds_toArray, List.set_cons_zero, List.set_cons_succ])
      refine tkW 29 16 (.agg (cy).toArray) (by rfl) (yieldsIf_load_mid (by rfl) 26 (.tmp 28) (by rfl) Bb (ob + j * 10) (by rfl) (cy) _ (fun w1 hw1 => (HS0.out w1 hw1).2) Try.underlying26 rfl HI_cy) HS ?_
      (try simp only [Act.put, List.setIfInBounds_toArray, List.set_cons_zero, List.set_cons_succ])
      obtain ⟨fn, tmps, assign, body, hyy, hR⟩ := HX.out _ HJd.out
      refine oneW 17 (by rfl) (by kernel_rfl) (fun K hK => ?_)
      gi_wp2_with fail
      refine hR.mono ?_
      rintro e W3 (⟨rfl, hJ3, hk3⟩ | ⟨rfl, hJx3, hk3⟩)
      · have HJ3 := mkHid hJ3
        have HV3 := mkHid (hk3 HS)
        refine hK.out _ _ HV3.out (fun HS => ?_)
        (try simp only [Act.put, List.setIfInBounds_toArray, List.set_cons_zero, List.set_cons_succ])
        clear hJ3 hk3 hR hyy hK K
        refine tkW 31 18 (.bool false) (by rfl) (Or.inl ⟨by rfl, ?_⟩) HS ?_
        · intro w1 hSw; go_simp
        (try simp only [Act.put, List.setIfInBounds_toArray, List.set_cons_zero, List.set_cons_succ])
        refine doneW (by kernel_rfl) ?_
        clear HS HS0 HX HJd HJ HV
        gi_wp2
        go_roundw
        case rel => exact ⟨k + 1, Hlt.out, by go_num, HV3, HJ3⟩
        case measure => simp [Go.RowKit.intOf]; omega
      · have HJ3 := mkHid hJx3
        have HV3 := mkHid (hk3 HS)
        refine hK.out _ _ HV3.out (fun HS => ?_)
        (try simp only [Act.put, List.setIfInBounds_toArray, List.set_cons_zero, List.set_cons_succ])
        clear hJx3 hk3 hR hyy hK K
        refine tkW 31 18 (.bool true) (by rfl) (Or.inl ⟨by rfl, ?_⟩) HS ?_
        · intro w1 hSw; go_simp
        (try simp only [Act.put, List.setIfInBounds_toArray, List.set_cons_zero, List.set_cons_succ])
        refine doneW (by kernel_rfl) ?_
        clear HS HS0 HX HJd HJ HV
        gi_wp2
        refine bodyPost_ret (results_none rfl _ _ _) rfl ?_
        exact ⟨⟨_, rfl⟩, .inr ⟨k + 1, HJ3.out⟩⟩
    · have hge : ¬ (k : Int) < (N : Int) := by omega
      have HJN : Hid (J N wr) := by
        have : k = N := by omega
        unfold Hid; rw [← this]; exact HJ.out
      clear hlt HJ HV
      gi_wp2
      go_end0
      exact ⟨⟨_, rfl⟩, .inl HJN.out⟩
theorem seqFrom14 (f : Nat) (hf : 1 ≤ f) (As Bs Ba oa Bb ob : Nat) (a : Option Addr) (n cap : Nat) (b : Option Addr) (m cap' : Nat) (l l' : List Rq14) (hl : l.length = n) (hl' : l'.length = m) (hn : n ≤ 100000) (hm : m ≤ 100000) (ha : 0 < n → a = some ⟨Ba, oa, none⟩) (hb : 0 < m → b = some ⟨Bb, ob, none⟩) :
    SeqS f Try.prog 67 #[.pointer (some ⟨As, 0, none⟩), .pointer (some ⟨Bs, 0, none⟩)] (enC l l') (KpC As Bs a n cap b m cap' Ba oa Bb ob l l') (min n m) (VarC As Bs a n cap b m cap' Ba oa Bb ob l l') := by
  by_cases h0 : n = 0 ∨ m = 0
  · rw [show min n m = 0 by omega]
    exact seqFrom14_0 f As Bs a n cap b m cap' Ba oa Bb ob l l' h0
  · obtain rfl := ha (by omega)
    obtain rfl := hb (by omega)
    exact seqFrom14_1 f hf As Bs Ba oa Bb ob n cap m cap' l l' hl hl' hn hm
end Go.Proofs.Ytbclhaleibjkgaa
namespace Go.Proofs.Ytbclhaleibjkgaa
open Go.RowKit

theorem show_eq14 (r : Rc) : showRc r = uB14 r.seq ++ (uB14 r.clk ++ (sB14 115 (sL r.who) ++ (uB14 (max r.kind 0).toNat ++ (sB14 115 (sL r.bkt) ++ (sB14 115 (sL r.key) ++ (uB14 r.ver ++ (uB14 (max r.err 0).toNat ++ (sB14 98 r.sum ++ (sB14 98 r.prev ++ []))))))))) := by
  unfold showRc
  simp only [uintL_eq14, bytesL_eq14, textL_eq14, List.nil_append, List.append_assoc, List.append_nil]
theorem uB_back (n : Nat) (r : List UInt8) (h : n < 18446744073709551616) : rdUint (uB14 n ++ r) false = (n, r, false) := rdUint_back n r h
theorem sB_back (m : UInt8) (b r : List UInt8) (h : b.length < 4294967296) : rdSome m (sB14 m b ++ r) false = (b, r, false) := rdSome_back m b r h
theorem str_sL (s : ByteArray) : (⟨(sL s).toArray⟩ : ByteArray) = s := by unfold sL; rw [Array.toArray_toList]
/-- as it is read: what is too great is told as less -/
def toldRc (r : Rc) : Rc := { r with kind := toldN (max r.kind 0).toNat, err := toldN (max r.err 0).toNat }
theorem rec_show14 (r : Rc) (hn : RcN r) (hl : rcLen r ≤ 20000) : recR (showRc r) = toldRc r ∧ doneN (ra10 (showRc r)).2.1 (ra10 (showRc r)).2.2 = 0 := by
  have hk : (max r.kind 0).toNat < 18446744073709551616 := by have := hn.kind1; omega
  have he : (max r.err 0).toNat < 18446744073709551616 := by have := hn.err1; omega
  unfold rcLen at hl
  have l1 : (sL r.who).length < 4294967296 := by rw [sL_length]; omega
  have l2 : (sL r.bkt).length < 4294967296 := by rw [sL_length]; omega
  have l3 : (sL r.key).length < 4294967296 := by rw [sL_length]; omega
  have l4 : r.sum.length < 4294967296 := by omega
  have l5 : r.prev.length < 4294967296 := by omega
  have e1 := uB_back r.seq (uB14 r.clk ++ (sB14 115 (sL r.who) ++ (uB14 (max r.kind 0).toNat ++ (sB14 115 (sL r.bkt) ++ (sB14 115 (sL r.key) ++ (uB14 r.ver ++ (uB14 (max r.err 0).toNat ++ (sB14 98 r.sum ++ (sB14 98 r.prev ++ []))))))))) hn.seq
  rw [← show_eq14] at e1
  change ra1 (showRc r) = _ at e1
  have f2 : ra2 (showRc r) = rdUint (ra1 (showRc r)).2.1 (ra1 (showRc r)).2.2 := rfl
  rw [e1] at f2
  simp only [] at f2
  rw [uB_back _ _ hn.clk] at f2
  have f3 : ra3 (showRc r) = rdSome 115 (ra2 (showRc r)).2.1 (ra2 (showRc r)).2.2 := rfl
  rw [f2] at f3
  simp only [] at f3
  rw [sB_back 115 (sL r.who) _ l1] at f3
  have f4 : ra4 (showRc r) = rdUint (ra3 (showRc r)).2.1 (ra3 (showRc r)).2.2 := rfl
  rw [f3] at f4
  simp only [] at f4
  rw [uB_back _ _ hk] at f4
  have f5 : ra5 (showRc r) = rdSome 115 (ra4 (showRc r)).2.1 (ra4 (showRc r)).2.2 := rfl
  rw [f4] at f5
  simp only [] at f5
  rw [sB_back 115 (sL r.bkt) _ l2] at f5
  have f6 : ra6 (showRc r) = rdSome 115 (ra5 (showRc r)).2.1 (ra5 (showRc r)).2.2 := rfl
  rw [f5] at f6
  simp only [] at f6
  rw [sB_back 115 (sL r.key) _ l3] at f6
  have f7 : ra7 (showRc r) = rdUint (ra6 (showRc r)).2.1 (ra6 (showRc r)).2.2 := rfl
  rw [f6] at f7
  simp only [] at f7
  rw [uB_back _ _ hn.ver] at f7
  have f8 : ra8 (showRc r) = rdUint (ra7 (showRc r)).2.1 (ra7 (showRc r)).2.2 := rfl
  rw [f7] at f8
  simp only [] at f8
  rw [uB_back _ _ he] at f8
  have f9 : ra9 (showRc r) = rdSome 98 (ra8 (showRc r)).2.1 (ra8 (showRc r)).2.2 := rfl
  rw [f8] at f9
  simp only [] at f9
  rw [sB_back 98 r.sum _ l4] at f9
  have f10 : ra10 (showRc r) = rdSome 98 (ra9 (showRc r)).2.1 (ra9 (showRc r)).2.2 := rfl
  rw [f9] at f10
  simp only [] at f10
  rw [sB_back 98 r.prev _ l5] at f10
  constructor
  · unfold recR toldRc
    rw [e1, f2, f3, f4, f5, f6, f7, f8, f9, f10]
    simp only [str_sL]
  · rw [f10]; rfl
theorem told_right14 (r : Rc) (h0 : 0 ≤ r.kind) (h1 : 0 ≤ r.err) : rightRc (toldRc r) = rightRc r ∧ (rightRc r = true → toldRc r = r) := by
  obtain ⟨rseq, rclk, rwho, rkind, rbkt, rkey, rver, rerr, rsum, rprev⟩ := r
  simp only [] at h0 h1
  constructor
  · unfold rightRc toldRc toldN
    simp only []
    rw [decide_eq_decide]
    constructor
    · rintro ⟨a, b, c, d, e⟩; exact ⟨by omega, by omega, by omega, by omega, e⟩
    · rintro ⟨a, b, c, d, e⟩; exact ⟨by omega, by omega, by omega, by omega, e⟩
  · intro h
    have h := of_decide_eq_true h
    simp only [] at h
    unfold toldRc toldN
    simp only []
    rw [show ((min (max rkind 0).toNat 2147483647 : Nat) : Int) = rkind by omega, show ((min (max rerr 0).toNat 2147483647 : Nat) : Int) = rerr by omega]
theorem read_show14 (r : Rc) (hn : RcN r) (hl : rcLen r ≤ 20000) (h0 : 0 ≤ r.kind) (h1 : 0 ≤ r.err) : readRc (showRc r) = if rightRc r = true then some r else none := by
  obtain ⟨e, d⟩ := rec_show14 r hn hl
  obtain ⟨t1, t2⟩ := told_right14 r h0 h1
  unfold readRc
  rw [e, t1]
  by_cases h : rightRc r = true
  · rw [if_pos ⟨d, h⟩, if_pos h, t2 h]
  · rw [if_neg (fun x => h x.2), if_neg h]
theorem numTo_div (l : List UInt8) (a : Nat) : ∀ b, numTo l (a + b) / 256 ^ b = numTo l a
  | 0 => by rw [Nat.pow_zero, Nat.div_one, Nat.add_zero]
  | b + 1 => by
    rw [← Nat.add_assoc, numTo, Nat.pow_succ, Nat.mul_comm (256 ^ b), ← Nat.div_div_eq_div_mul]
    have := UInt8.toNat_lt (nth l (1 + (a + b)))
    rw [show (numTo l (a + b) * 256 + (nth l (1 + (a + b))).toNat) / 256 = numTo l (a + b) by omega]
    exact numTo_div l a b
theorem beAt_num (l : List UInt8) (size j : Nat) (hj : j < size) : beAt (numTo l size) size j = nth l (1 + j) := by
  unfold beAt
  have e : (2 : Nat) ^ (8 * (size - 1 - j)) = 256 ^ (size - 1 - j) := by rw [Nat.pow_mul]
  have := numTo_div l (j + 1) (size - 1 - j)
  rw [show j + 1 + (size - 1 - j) = size by omega] at this
  rw [e, this, numTo]
  apply UInt8.toNat_inj.1
  rw [UInt8.toNat_ofNat']
  have := UInt8.toNat_lt (nth l (1 + j))
  omega
theorem beL_num (l : List UInt8) (size : Nat) (h : 1 + size ≤ l.length) : beL (numTo l size) size size = (l.drop 1).take size := by
  apply List.ext_getElem
  · rw [beL_length, List.length_take, List.length_drop]; omega
  · intro i h1 h2
    rw [beL_length] at h1
    simp only [beL, List.getElem_map, List.getElem_range]
    rw [beAt_num l size i h1, List.getElem_take, List.getElem_drop, nth_eq]
theorem head_num (l : List UInt8) (m : UInt8) (size : Nat) (h : 1 + size ≤ l.length) (hm : nth l 0 = m) : l = behL [] m (numTo l size) size size ++ l.drop (1 + size) := by
  unfold behL
  rw [beL_num l size h, List.nil_append]
  cases l with
  | nil => simp at h
  | cons x t =>
    rw [nth_zero_cons] at hm
    rw [hm, List.drop_succ_cons, List.drop_zero, Nat.add_comm 1 size, List.drop_succ_cons, List.cons_append, List.take_append_drop]
theorem rdUint_it {l : List UInt8} {br : Bool} (h : (rdUint l br).2.2 = false) : br = false ∧ l = uB14 (rdUint l br).1 ++ (rdUint l br).2.1 ∧ (rdUint l br).1 < 18446744073709551616 := by
  unfold rdUint at h ⊢
  by_cases ho : okH l br 117 8 = true
  · rw [if_pos ho]
    obtain ⟨a, b, c⟩ := okH_of ho
    exact ⟨a, head_num l 117 8 b c, numTo_lt64 l 8 (by omega)⟩
  · rw [if_neg ho] at h; cases h
theorem rdSome_it {m : UInt8} {l : List UInt8} {br : Bool} (h : (rdSome m l br).2.2 = false) : br = false ∧ l = sB14 m (rdSome m l br).1 ++ (rdSome m l br).2.1 := by
  unfold rdSome at h ⊢
  by_cases ho : okB l br m = true
  · rw [if_pos ho]
    unfold okB at ho
    obtain ⟨o1, o2⟩ := Bool.and_eq_true_iff.1 ho
    have o3 := of_decide_eq_true o2
    obtain ⟨a, b, c⟩ := okH_of o1
    refine ⟨a, ?_⟩
    have e := head_num l m 4 b c
    show l = sB14 m ((l.drop 5).take (numTo l 4)) ++ l.drop (5 + numTo l 4)
    unfold sB14
    rw [List.length_take, List.length_drop, show min (numTo l 4) (l.length - 5) = numTo l 4 by omega, List.append_assoc, ← List.drop_drop, List.take_append_drop]
    exact e
  · rw [if_neg ho] at h; cases h
theorem doneN_zero14 {l : List UInt8} {br : Bool} : doneN l br = 0 ↔ br = false ∧ l = [] := by
  unfold doneN
  cases br <;> cases l <;> simp
theorem sL_mk14 (l : List UInt8) : sL ⟨l.toArray⟩ = l := by unfold sL; simp
theorem show_read14 {b : List UInt8} {r : Rc} (h : readRc b = some r) : showRc r = b ∧ RcN r ∧ rightRc r = true := by
  unfold readRc at h
  split at h
  · rename_i hc
    obtain ⟨hd, hr⟩ := hc
    have e := Option.some.inj h
    obtain ⟨d1, d2⟩ := doneN_zero14.1 hd
    obtain ⟨c9, e10⟩ := rdSome_it (l := (ra9 b).2.1) (br := (ra9 b).2.2) d1
    obtain ⟨c8, e9⟩ := rdSome_it (l := (ra8 b).2.1) (br := (ra8 b).2.2) c9
    obtain ⟨c7, e8, n8⟩ := rdUint_it (l := (ra7 b).2.1) (br := (ra7 b).2.2) c8
    obtain ⟨c6, e7, n7⟩ := rdUint_it (l := (ra6 b).2.1) (br := (ra6 b).2.2) c7
    obtain ⟨c5, e6⟩ := rdSome_it (l := (ra5 b).2.1) (br := (ra5 b).2.2) c6
    obtain ⟨c4, e5⟩ := rdSome_it (l := (ra4 b).2.1) (br := (ra4 b).2.2) c5
    obtain ⟨c3, e4, n4⟩ := rdUint_it (l := (ra3 b).2.1) (br := (ra3 b).2.2) c4
    obtain ⟨c2, e3⟩ := rdSome_it (l := (ra2 b).2.1) (br := (ra2 b).2.2) c3
    obtain ⟨c1, e2, n2⟩ := rdUint_it (l := (ra1 b).2.1) (br := (ra1 b).2.2) c2
    obtain ⟨_, e1, n1⟩ := rdUint_it (l := b) (br := false) c1
    have hrr := of_decide_eq_true hr
    have k1 : (recR b).kind ≤ 19 := hrr.2.1
    have k2 : (recR b).err ≤ 9999 := hrr.2.2.2.1
    have k3 : toldN (ra4 b).1 ≤ 19 := k1
    have k4 : toldN (ra8 b).1 ≤ 9999 := k2
    unfold toldN at k3 k4
    have t4 : (max (toldN (ra4 b).1) 0).toNat = (ra4 b).1 := by unfold toldN; omega
    have t8 : (max (toldN (ra8 b).1) 0).toNat = (ra8 b).1 := by unfold toldN; omega
    subst e
    refine ⟨?_, ⟨n1, n2, n7, ?_, ?_, ?_, ?_⟩, hr⟩
    · rw [show_eq14]
      show uB14 (ra1 b).1 ++ (uB14 (ra2 b).1 ++ (sB14 115 (sL ⟨(ra3 b).1.toArray⟩) ++ (uB14 (max (toldN (ra4 b).1) 0).toNat ++ (sB14 115 (sL ⟨(ra5 b).1.toArray⟩) ++ (sB14 115 (sL ⟨(ra6 b).1.toArray⟩) ++ (uB14 (ra7 b).1 ++ (uB14 (max (toldN (ra8 b).1) 0).toNat ++ (sB14 98 (ra9 b).1 ++ (sB14 98 (ra10 b).1 ++ []))))))))) = b
      rw [t4, t8, sL_mk14, sL_mk14, sL_mk14, ← d2]
      rw [show sB14 98 (ra10 b).1 ++ (ra10 b).2.1 = (ra9 b).2.1 from e10.symm, show sB14 98 (ra9 b).1 ++ (ra9 b).2.1 = (ra8 b).2.1 from e9.symm, show uB14 (ra8 b).1 ++ (ra8 b).2.1 = (ra7 b).2.1 from e8.symm, show uB14 (ra7 b).1 ++ (ra7 b).2.1 = (ra6 b).2.1 from e7.symm, show sB14 115 (ra6 b).1 ++ (ra6 b).2.1 = (ra5 b).2.1 from e6.symm, show sB14 115 (ra5 b).1 ++ (ra5 b).2.1 = (ra4 b).2.1 from e5.symm, show uB14 (ra4 b).1 ++ (ra4 b).2.1 = (ra3 b).2.1 from e4.symm, show sB14 115 (ra3 b).1 ++ (ra3 b).2.1 = (ra2 b).2.1 from e3.symm, show uB14 (ra2 b).1 ++ (ra2 b).2.1 = (ra1 b).2.1 from e2.symm]
      exact e1.symm
    · show -9223372036854775808 ≤ (recR b).kind; have := hrr.1; omega
    · omega
    · show -9223372036854775808 ≤ (recR b).err; have := hrr.2.2.1; omega
    · omega
  · cases h
theorem show_inj14 {r s : Rc} (hr : rightRc r = true) (hs : rightRc s = true) (nr : RcN r) (ns : RcN s) (lr : rcLen r ≤ 20000) (ls : rcLen s ≤ 20000) (e : showRc r = showRc s) : r = s := by
  have h1 := of_decide_eq_true hr
  have h2 := of_decide_eq_true hs
  have e1 := read_show14 r nr lr h1.1 h1.2.2.1
  have e2 := read_show14 s ns ls h2.1 h2.2.2.1
  rw [if_pos hr] at e1
  rw [if_pos hs, ← e, e1] at e2
  exact Option.some.inj e2
/-- two logs, turned about, with one head -/
theorem forged14 : ∀ (a b : List Rc) (h : List UInt8), verB a h = true → verB b h = true → (∀ r ∈ a, RcN r ∧ rcLen r ≤ 20000) → (∀ r ∈ b, RcN r ∧ rcLen r ≤ 20000) →
    (a = b ∧ colB a b = none) ∨ (a ≠ b ∧ ∃ r s, colB a b = some (r, s) ∧ r ∈ a ∧ s ∈ b ∧ showRc r ≠ showRc s ∧ digRc r = digRc s)
  | [], [], h, _, _, _, _ => .inl ⟨rfl, rfl⟩
  | [], s :: b, h, ha, hb, _, _ => by
    rw [verB, decide_eq_true_iff] at ha
    subst ha
    rw [verB, Bool.and_eq_true, Bool.and_eq_true, decide_eq_true_iff] at hb
    have := congrArg List.length hb.1.2
    rw [digRc_len] at this; cases this
  | r :: a, [], h, ha, hb, _, _ => by
    rw [verB, decide_eq_true_iff] at hb
    subst hb
    rw [verB, Bool.and_eq_true, Bool.and_eq_true, decide_eq_true_iff] at ha
    have := congrArg List.length ha.1.2
    rw [digRc_len] at this; cases this
  | r :: a, s :: b, h, ha, hb, na, nb => by
    rw [verB, Bool.and_eq_true, Bool.and_eq_true, Bool.and_eq_true, decide_eq_true_iff, decide_eq_true_iff] at ha hb
    rw [colB]
    by_cases e : r = s
    · subst e
      rw [if_pos ((sameRc_iff r r).2 rfl)]
      rcases forged14 a b r.prev ha.2 hb.2 (fun x hx => na x (List.mem_cons_of_mem _ hx)) (fun x hx => nb x (List.mem_cons_of_mem _ hx)) with ⟨e1, e2⟩ | ⟨e1, x, y, e2, e3, e4, e5⟩
      · exact .inl ⟨by rw [e1], e2⟩
      · exact .inr ⟨fun e => e1 (List.cons.inj e).2, x, y, e2, List.mem_cons_of_mem _ e3, List.mem_cons_of_mem _ e4, e5⟩
    · rw [if_neg (fun x => e ((sameRc_iff r s).1 x)), if_pos (ha.1.2.trans hb.1.2.symm)]
      have n1 := na r List.mem_cons_self
      have n2 := nb s List.mem_cons_self
      exact .inr ⟨fun x => e (List.cons.inj x).1, r, s, rfl, List.mem_cons_self, List.mem_cons_self, fun x => e (show_inj14 ha.1.1.1 hb.1.1.1 n1.1 n2.1 n1.2 n2.2 x), ha.1.2.trans hb.1.2.symm⟩
/-- a log that is edited at one place, turned about -/
theorem edited14 : ∀ (p : List Rc) (x y : Rc) (s : List Rc) (h : List UInt8), verB (p ++ x :: s) h = true → x ≠ y → colB (p ++ x :: s) (p ++ y :: s) = none → verB (p ++ y :: s) h = false
  | [], x, y, s, h, hv, hn, hc => by
    rw [List.nil_append, verB, Bool.and_eq_true, Bool.and_eq_true, Bool.and_eq_true, decide_eq_true_iff, decide_eq_true_iff] at hv
    rw [List.nil_append, List.nil_append, colB, if_neg (fun e => hn ((sameRc_iff x y).1 e))] at hc
    have : digRc x ≠ digRc y := fun e => by rw [if_pos e] at hc; cases hc
    rw [List.nil_append, verB, decide_eq_false (p := digRc y = h) (fun e => this (hv.1.2.trans e.symm)), Bool.and_false, Bool.false_and]
  | r :: p, x, y, s, h, hv, hn, hc => by
    rw [List.cons_append, verB, Bool.and_eq_true] at hv
    rw [List.cons_append, List.cons_append, colB, if_pos ((sameRc_iff r r).2 rfl)] at hc
    rw [List.cons_append, verB, edited14 p x y s r.prev hv.2 hn hc, Bool.and_false]
/-- a log that grows by Next -/
theorem grows14 {l : List Rc} {r : Rc} (hl : verL l ((l.getLast?.map digRc).getD []) = true) (hn : l.length < 1000000) (hs : ∀ x, l.getLast? = some x → x.seq = l.length) (hr : rightRc (nextRc l r) = true) :
    verL (l ++ [nextRc l r]) (digRc (nextRc l r)) = true ∧ (nextRc l r).seq = (l ++ [nextRc l r]).length := by
  have e : (nextRc l r).seq = l.length + 1 ∧ (nextRc l r).prev = (l.getLast?.map digRc).getD [] := by
    unfold nextRc
    cases hg : l.getLast? with
    | none =>
      have : l = [] := List.getLast?_eq_none_iff.1 hg
      subst this
      exact ⟨rfl, rfl⟩
    | some x =>
      have := hs x hg
      exact ⟨by show (x.seq + 1) % 18446744073709551616 = _; omega, rfl⟩
  rw [verL_snoc, e.1, e.2, hl, hr, List.length_append]
  exact ⟨by simp, rfl⟩
end Go.Proofs.Ytbclhaleibjkgaa
