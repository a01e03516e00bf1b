/- The program's disk: laws for its writes. -/
import Derived.Test.YtacnoagjcacniaaGreatB25
import Derived.Great.BuildSlice
namespace Go.Proofs.YtacnoagjcacniaaGreat
open Go.RowKit

def zWr : List Value := .int .i64 0 :: zSec
theorem zWr_length : zWr.length = 513 := by unfold zWr; rw [List.length_cons, zSec_length]
theorem infoWr3 : (Tryz.prog.info? 108).map (fun i => (i.zero, i.size, i.bytes)) = some (some (.agg zWr.toArray), 513, 520) := by kernel_rfl
theorem infoWr : (Tryz.prog.info? 108).map (·.size) = some 513 := by kernel_rfl
theorem zvWr (w : World) : (zeroValue 108).run Tryz.prog w = .ok (.agg zWr.toArray) w := by
  obtain ⟨i0, hi, hz0, hz1, hz2⟩ := info_parts infoWr3
  simp [zeroValue, typeInfo, hi, hz0]
theorem builtWr (i : Int) : Tryz.prog.built 108 [(0, .int .i64 i)] = some (.int .i64 i :: zSec).toArray := by kernel_rfl
/-- a struct is built of parts that are known -/
theorem list_buildWr {ops : Array Oper} {rest : List Oper} {o : Oper} {a : Act} {w : World} {Q : Exit → Act → World → Prop} (hgd : o.guard = none) (x : Operand) (ho : o.op = .build 108 #[(0, x)])
    (i : Int) (hv : a.eval x = .int .i64 i)
    (h : wpList Tryz.prog ops Q rest (a.put o.dst (.agg (.int .i64 i :: zSec).toArray)) w) : wpList Tryz.prog ops Q (o :: rest) a w := by
  have hq : ((#[(0, x)] : Array (Nat × Operand)).map fun (i, x) => (i, a.eval x)).toList = [(0, .int .i64 i)] := by
    simp only [List.map_toArray, List.map_cons, List.map_nil, hv]
  exact wpList_plain hgd fun _ hK => wp_build 108 _ ho (by rw [hq, builtWr]; rfl) (by rw [hq, builtWr]; exact hK _ _ h)
theorem wz_all (i : Int) : (Value.int .i64 i :: zSec).toArray.all (·.oneCell') = true := all_oneCell_toArray (fun v hv => by
  rcases List.mem_cons.1 hv with rfl | hv
  · rfl
  · exact bv_one _ v hv)
theorem wz_size (i : Int) : (Value.int .i64 i :: zSec).toArray.size = 513 := by rw [List.size_toArray, List.length_cons, zSec_length]
set_option maxRecDepth 20000 in
/-- the bytes come into the write -/
theorem putL_wr (i : Nat) (b : List UInt8) (h : b.length = 512) : putL (.int .i64 (i : Int) :: zSec) 1 (bv b) = wq (i, b) := by
  apply List.ext_getElem?
  intro k
  have hzl := zSec_length
  rw [putL_at _ _ _ _ (by rw [bv_length, List.length_cons]; omega), bv_length, h]
  cases k with
  | zero => rw [if_neg (by omega)]; rfl
  | succ k =>
    by_cases hk : k < 512
    · rw [if_pos (by omega), Nat.add_sub_cancel]; rfl
    · have e1 : (Value.int .i64 (i : Int) :: zSec)[k + 1]? = none := List.getElem?_eq_none (by rw [List.length_cons]; omega)
      have e2 : (wq (i, b))[k + 1]? = none := List.getElem?_eq_none (by rw [wq_length h]; omega)
      rw [if_neg (by omega), e1, e2]
theorem fillWr (z cs : Array Value) (hz : z.size = 513) (hc : cs.size = 513) : Instr.fill (fun i => some (i * 513, 513)) z [(0, .agg cs)] = some cs := by
  have h := Great.fill_whole (s := 513) (by omega) [.agg cs] z (fun v hv => by rw [List.mem_singleton.1 hv]; exact hc) (by rw [hz, List.length_singleton, Nat.one_mul])
  have e : ([Value.agg cs].flatMap fun v => v.cells.toList).toArray = cs := by simp [Value.cells]
  rw [e] at h
  exact h
/-- one write as a slice -/
theorem step_buildWr {ops : Array Oper} {o : Oper} {a : Act} {K : Act → World → Prop} {Q : Exit → Act → World → Prop} {E : Prop} (w : World) (hgd : o.guard = none) (x : Operand) (ho : o.op = .buildSlice 69 1 #[(0, x)])
    (cs : List Value) (hc : cs.length = 513) (hx : a.eval x = .agg cs.toArray) (d : Tmp) (hd : o.dst = some d)
    (h : K (a.put (some d) (.slice (some ⟨w.heap.size, 0, none⟩) 1 1)) (w.alloc (.cells cs.toArray 108))) :
    if Region.wanted o (yielded ops a.tmps) = true then Oper.wp Tryz.prog o a w K Q else E := by
  have hw : Region.wanted o (yielded ops a.tmps) = true := by simp [Region.wanted, hgd]
  rw [if_pos hw]
  obtain ⟨i0, hi, hz0, hz1, hz2⟩ := info_parts infoWr3
  have hq : ((#[(0, x)] : Array (Nat × Operand)).map fun (i, x) => (i, a.eval x)).toList = [(0, .agg cs.toArray)] := by
    simp only [List.map_toArray, List.map_cons, List.map_nil, hx]
  refine wp_buildSlice 69 108 1 _ ho cs.toArray i0 (.agg zWr.toArray) Tryz.underlying69 hi hz0 (by rw [hz1]; decide) (by rw [hz1]; decide) ?_ (by rw [hd]; exact h)
  rw [hq, hz1]
  exact fillWr _ _ (by simp) (by rw [List.size_toArray, hc])
/-- append(l, g) -/
theorem step_appC {ops : Array Oper} {o : Oper} {a : Act} {K : Act → World → Prop} {Q : Exit → Act → World → Prop} {E : Prop} (w : World) (hgd : o.guard = none) (s x : Operand)
    (ho : o.op = .call { callee := .builtin .append, args := #[s, x], argTypes := #[69, 69] }) (base : Nat)
    (v : Value) (l : List (Nat × List UInt8)) (hs : a.eval s = v) (hown : OwnC w base v l) (B : Nat) (g : Nat × List UInt8) (h5 : g.2.length = 512) (hx : a.eval x = .slice (some ⟨B, 0, none⟩) 1 1)
    (hb : Blk w B 108 (wq g)) (hn : l.length ≤ 1000000) (hbase : base ≤ w.heap.size) (d : Tmp) (hd : o.dst = some d)
    (h : ∀ k cap w', OwnC w' base (.slice (some ⟨k, 0, none⟩) (l.length + 1) cap) (l ++ [g]) → w.grownBy w' v.ownBlock → (v.ownBlock = some k ∨ k = w.heap.size) → K (a.put (some d) (.slice (some ⟨k, 0, none⟩) (l.length + 1) cap)) w') :
    if Region.wanted o (yielded ops a.tmps) = true then Oper.wp Tryz.prog o a w K Q else E := by
  obtain ⟨i0, hi, hz0, hz1, hz2⟩ := info_parts infoWr3
  refine step_append_lies w hgd s x 69 ho base 108 i0 (.agg zWr.toArray) 513 520 Tryz.underlying69 hi hz0 hz1 hz2 (by show zWr.toArray.size = 513; rw [List.size_toArray, zWr_length]) (by omega) v l.length (wqs l) hs hown ⟨B, 0, none⟩ 1 1 (wq g) hx (by rw [wq_length h5])
    (fun j u hu => World.news_of_block hb j u (by simpa using hu)) (wq_one g) (by omega) (by unfold maxLen; omega) (by omega) hbase w.heap.size rfl ?_
  intro k cap w' h1 h2 h3 _
  rw [hd]
  refine h k cap w' ?_ h2 h3
  unfold OwnC
  have e : wqs (l ++ [g]) = wqs l ++ wq g := by rw [wqs_append]; simp [wqs]
  rw [e, List.length_append]; exact h1

theorem gr_cell (w : World) (P j : Nat) (u : Value) : w.grownBy (w.setCell ⟨P, j, none⟩ u) (some P) := ⟨rfl, rfl, rfl, by simp [World.setCell], fun k _ hk => Below.heap_setCell _ _ _ _ (fun e => hk (by rw [e]))⟩
theorem gr_drewCell (w : World) (P j : Nat) (u : Value) : w.grownBy (w.drew.setCell ⟨P, j, none⟩ u) (some P) := ⟨rfl, rfl, rfl, by simp [World.setCell], fun k _ hk => (Below.heap_setCell _ _ _ _ (fun e => hk (by rw [e]))).trans rfl⟩
/-- a row of writes has grown -/
theorem KeepB.row {X : Nat → Prop} {V w' : World} {base : Nat} {v : Value} {l : List (Nat × List UInt8)} (ho : OwnC V base v l) (hg : V.grownBy w' v.ownBlock) (hx : ∀ k, v.ownBlock = some k → ¬ X k) : KeepB X V w' := by
  rcases ho.2 with ⟨rfl, _⟩ | ⟨q, cap, cur, rfl, _⟩
  · exact KeepB.none hg
  · exact KeepB.one hg (hx q rfl)
theorem IsPd.push {X : Nat → Prop} {V w' : World} {P base S : Nat} {vC : Value} {arm : Int} {p : Pl} (h : IsPd X V P base S vC arm p) (hg : V.grownBy w' vC.ownBlock) {v : Value} {g : Nat × List UInt8} (ho : OwnC w' base v (p.ca ++ [g])) (hat : v.ownBlock = vC.ownBlock ∨ v.ownBlock = some V.heap.size) :
    IsPd X (w'.setCell ⟨P, 1, none⟩ v) P base S v arm { p with ca := p.ca ++ [g] } ∧ KeepB X V (w'.setCell ⟨P, 1, none⟩ v) ∧ Below base V (w'.setCell ⟨P, 1, none⟩ v) ∧ w'.cell? ⟨P, 1, none⟩ = some vC ∧ w'.frozen? ⟨P, 1, none⟩ = false := by
  have k1 : KeepB X V w' := KeepB.row h.ca hg h.xC
  have b1 : Below base V w' := (Below.refl _ V).grown hg (by have := h.low; have := h.blk.lt; omega) (fun k hk => (World.ownsRow.lt h.ca k hk).1)
  have hP : Blk w' P 79 (pdc S vC arm p) := (hg.block P h.blk.lt (fun e => by
    rcases own_ne h.blk h.ca (by decide) with h2 | h2
    · rw [h2] at e; cases e
    · exact h2 e.symm)).trans h.blk
  have hS : Blk w' S 106 (stc p.n p.st) := (hg.block S h.st.lt (fun e => by
    rcases own_ne h.st h.ca (by decide) with h2 | h2
    · rw [h2] at e; cases e
    · exact h2 e.symm)).trans h.st
  have hg2 := gr_cell w' P 1 v
  refine ⟨?_, k1.trans (KeepB.one hg2 h.xP), b1.trans (bel_one hg2 h.low hP.lt), hP.cell 1, hP.frozen 1⟩
  exact { h with
    blk := hP.set 1 v
    st := (hg2.block S hS.lt (fun e => blk_ne hP hS (by decide) (Option.some.inj e).symm)).trans hS
    ca := World.ownsRow.kept ho hg2 (own_ne hP ho (by decide))
    xC := fun k hk hx => by
      rcases hat with e | e
      · exact h.xC k (by rw [← e]; exact hk) hx
      · have := h.xlt k hx
        rw [e] at hk
        have := Option.some.inj hk
        omega
    xlt := fun k hx => Nat.lt_of_lt_of_le (h.xlt k hx) (Nat.le_trans hg.size hg2.size) }
theorem armOf_less {arm : Int} {a : Option Nat} (h : a = armOf arm) (h0 : 0 < arm) : a.map (· - 1) = armOf (arm - 1) := by
  subst h
  unfold armOf
  rw [if_pos (by omega), if_pos (by omega)]
  simp only [Option.map_some]
  congr 1
  omega
theorem armOf_neg {arm : Int} {a : Option Nat} (h : a = armOf arm) (h0 : arm < 0) : a.map (· - 1) = armOf arm := by
  subst h
  unfold armOf
  rw [if_neg (by omega)]
  rfl
end Go.Proofs.YtacnoagjcacniaaGreat
