/- What a kind's begin answers. -/
import Derived.Test.YtmgflcglmakceaaSum
import Derived.Test.YtmgflcglmakceaaSpec256
namespace Go.Proofs.Ytmgflcglmakceaa
open Go.RowKit

def kcOf (size : Int) (s : S8) (mf : Nat) : List Value := .int .i64 size :: (wv s.list ++ [.func (.func mf) #[] #[]])
theorem kcOf_length (size : Int) (s : S8) (mf : Nat) : (kcOf size s mf).length = 10 := rfl

def zeros83 : List Value := rc (.int .i64 0 :: (wv (List.replicate 8 0) ++ [.nilFunc])) (List.replicate 8 0) (List.replicate 64 0) 0
theorem zero83 : (Try.prog.info? 69).map (·.zero) = some (some (.agg zeros83.toArray)) := by kernel_rfl
theorem zv83 (w : World) : (zeroValue 69).run Try.prog w = .ok (.agg zeros83.toArray) w := by
  have h := zero83
  cases hq : Try.prog.info? 69 with
  | none => rw [hq] at h; cases h
  | some i =>
    rw [hq] at h
    have hz : i.zero = some (.agg zeros83.toArray) := by simpa using h
    simp [zeroValue, typeInfo, hq, hz]
attribute [local go_sem ↓] zv83
theorem info83 : (Try.prog.info? 69).map (·.size) = some 83 := by kernel_rfl
theorem info10 : (Try.prog.info? 53).map (·.size) = some 10 := by kernel_rfl
theorem zeros83_length : zeros83.length = 83 := rfl

theorem oneCells83 (size : Int) (s : S8) (mf : Nat) : ∀ u ∈ rc (kcOf size s mf) s.list (List.replicate 64 0) 0, u.oneCell' = true := by
  intro u hu
  unfold rc kcOf at hu
  rcases List.mem_append.1 hu with h | h
  · rcases List.mem_cons.1 h with rfl | h
    · rfl
    · rcases List.mem_append.1 h with h | h
      · exact wv_one _ u h
      · rcases List.mem_cons.1 h with rfl | h
        · rfl
        · cases h
  · rcases List.mem_append.1 h with h | h
    · exact wv_one _ u h
    · rcases List.mem_append.1 h with h | h
      · exact bv_one _ u h
      · rcases List.mem_cons.1 h with rfl | h
        · rfl
        · cases h

/-- a struct or an array is built of parts that are known -/
theorem list_build {P : Program} {ops : Array Oper} {rest : List Oper} {o : Oper} {a : Act} {w : World} {Q : Exit → Act → World → Prop} (hgd : o.guard = none) (t : TypeId) (parts : Array (Nat × Operand)) (ho : o.op = .build t parts)
    (vals : List (Nat × Value)) (hv : (parts.map fun (i, x) => (i, a.eval x)).toList = vals) (cells : Array Value) (hb : P.built t vals = some cells)
    (h : wpList P ops Q rest (a.put o.dst (.agg cells)) w) : wpList P ops Q (o :: rest) a w :=
  wpList_plain hgd fun _ hK => wp_build t parts ho (by rw [hv, hb]; rfl) (by rw [hv, hb]; exact hK _ _ h)

set_option maxRecDepth 20000 in
set_option maxHeartbeats 400000 in
theorem digBegin (size : Int) (s : S8) (mf : Nat) (w : World) :
    Calls Try.prog 44 #[.agg (kcOf size s mf).toArray] w fun e w' => e = .returned (.agg (rc (kcOf size s mf) s.list (List.replicate 64 0) 0).toArray) ∧ Below w.heap.size w w' := by
  have Bk : Blk ((w.alloc (.cells (kcOf size s mf).toArray 53)).alloc (.cells zeros83.toArray 69)) w.heap.size 53 (kcOf size s mf) := (Blk.new w _ _).alloc _
  have Bz : Blk ((w.alloc (.cells (kcOf size s mf).toArray 53)).alloc (.cells zeros83.toArray 69)) (w.heap.size + 1) 69 zeros83 := Blk.newAt _ _ _ _ _ (by simp) rfl
  have hr : ((w.alloc (.cells (kcOf size s mf).toArray 53)).alloc (.cells zeros83.toArray 69)).rangeAt w.heap.size 1 (wv s.list) := Bk.range 1 _ (fun j v hj => by
    have : (kcOf size s mf)[1 + j]? = (wv s.list ++ [.func (.func mf) #[] #[]])[j]? := by rw [Nat.add_comm]; rfl
    rw [this, List.getElem?_append_left (List.getElem?_eq_some_iff.1 hj).1]; exact hj)
  have hb : Try.prog.built 69 [(0, .agg (kcOf size s mf).toArray), (1, .agg (wv s.list).toArray)] = some (rc (kcOf size s mf) s.list (List.replicate 64 0) 0).toArray := by kernel_rfl
  go_enter Try.func44, Try.ntmps44
  have hst : (rc (kcOf size s mf) s.list (List.replicate 64 0) 0).toArray.size = 83 := rfl
  go_wp2_with (first | (refine wpList_load_row rfl 53 _ rfl _ rfl _ _ _ _ Bk Try.underlying53 rfl info10 ?_) | (refine wpList_load_mid rfl 50 _ rfl w.heap.size 1 rfl (wv s.list) _ hr Try.underlying50 rfl (by kernel_rfl) ?_) | (refine list_build rfl 69 _ rfl [(0, .agg (kcOf size s mf).toArray), (1, .agg (wv s.list).toArray)] (by simp only [List.map_toArray, List.map_cons, List.map_nil]; rfl) (rc (kcOf size s mf) s.list (List.replicate 64 0) 0).toArray hb ?_) | (refine wpList_store_row rfl 69 _ _ rfl (w.heap.size + 1) (rc (kcOf size s mf) s.list (List.replicate 64 0) 0).toArray rfl rfl _ _ Bz info83 rfl (all_oneCell_toArray (oneCells83 size s mf)) ?_))
  refine bodyPost_ret (v := .agg (rc (kcOf size s mf) s.list (List.replicate 64 0) 0).toArray) ?_ rfl ⟨rfl, bel_row (((Below.refl _ _).alloc (Nat.le_refl _) _).alloc (by simp) _) (by omega) _⟩
  exact results_cell_row Try.results44 _ _ _ _ _ _ _ rfl (Bz.row (rc (kcOf size s mf) s.list (List.replicate 64 0) 0)) Try.underlying69 rfl info83
end Go.Proofs.Ytmgflcglmakceaa
