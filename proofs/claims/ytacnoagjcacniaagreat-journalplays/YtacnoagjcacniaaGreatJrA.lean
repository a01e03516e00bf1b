/- Laws for slices of writes: cut, appended, one of them turned. -/
import Derived.Test.YtacnoagjcacniaaGreatB22
namespace Go.Proofs.YtacnoagjcacniaaGreat
open Go.RowKit

theorem OwnG.empty (w : World) (base : Nat) (hb : base ≤ w.heap.size) : OwnG 102 (w.alloc (.cells #[] 102)) base (.slice (some ⟨w.heap.size, 0, none⟩) 0 0) [] :=
  World.ownsRow_made w #[] 0 hb (Nat.zero_le _) rfl
/-- writes that can be appended -/
structure SrcG (w : World) (sa : Option Addr) (m c : Nat) (l : List Wg) : Prop where
  len : l.length = m
  nil : sa = none → m = 0 ∧ c = 0
  cells : ∀ ad, sa = some ad → ∀ j u, (wgs l)[j]? = some u → w.cell? (ad.add j) = some u
def cutG (a : Option Addr) (cap k : Nat) : Option Addr := if cap = k then a else a.map (·.add (k * 2))
theorem wgs_take (l : List Wg) (k : Nat) : wgs (l.take k) = (wgs l).take (k * 2) := by
  induction k generalizing l with
  | zero => rfl
  | succ k ih =>
    cases l with
    | nil => rfl
    | cons g l => rw [List.take_succ_cons, wgs, wgs, ih, show (k + 1) * 2 = k * 2 + 1 + 1 by omega, List.take_succ_cons, List.take_succ_cons]
theorem wgs_drop (l : List Wg) (k : Nat) : wgs (l.drop k) = (wgs l).drop (k * 2) := by
  induction k generalizing l with
  | zero => rfl
  | succ k ih =>
    cases l with
    | nil => rfl
    | cons g l => rw [List.drop_succ_cons, wgs, ih, show (k + 1) * 2 = k * 2 + 1 + 1 by omega, List.drop_succ_cons, List.drop_succ_cons]
theorem OwnG.src {w : World} {base : Nat} {a : Option Addr} {n cap : Nat} {ls : List Wg} (h : OwnG 102 w base (.slice a n cap) ls) (hn : n = ls.length) (k : Nat) (hk : k ≤ n) :
    SrcG w a k cap (ls.take k) ∧ SrcG w (cutG a cap k) (n - k) (cap - k) (ls.drop k) := by
  subst hn
  rcases h.2 with ⟨h1, h2⟩ | ⟨g, cap', cur, h3, h4, h5, hle, h7⟩
  · injection h1 with e1 e2 e3
    subst e1 e3
    have hk0 : k = 0 := by omega
    subst hk0
    have hl : ls = [] := List.eq_nil_of_length_eq_zero e2
    subst hl
    exact ⟨⟨rfl, fun _ => ⟨rfl, rfl⟩, fun ad e => by cases e⟩, ⟨rfl, fun _ => ⟨rfl, rfl⟩, fun ad e => by cases e⟩⟩
  · injection h3 with e1 e2 e3
    subst e1 e3
    refine ⟨⟨by rw [List.length_take]; omega, (fun e => by cases e), fun ad e j u hu => ?_⟩, ⟨by rw [List.length_drop], fun e => ?_, fun ad e j u hu => ?_⟩⟩
    · obtain rfl := Option.some.inj e
      rw [wgs_take] at hu
      have hj : j < k * 2 := by
        have := (List.getElem?_eq_some_iff.1 hu).1
        rw [List.length_take] at this; omega
      rw [List.getElem?_take_of_lt hj] at hu
      exact World.ownsRow.cells h (g := g) rfl j u hu
    · unfold cutG at e
      split at e
      · cases e
      · cases e
    · rw [wgs_drop, List.getElem?_drop] at hu
      unfold cutG at e
      split at e
      · rename_i hc
        have := (List.getElem?_eq_some_iff.1 hu).1
        rw [wgs_length] at this
        omega
      · have e2 := Option.some.inj e
        rw [← e2]
        show w.cell? (((⟨g, 0, none⟩ : Addr).add (k * 2)).add j) = some u
        rw [Addr.add_lit, Addr.add_lit]
        have := World.ownsRow.cells h (g := g) rfl (k * 2 + j) u hu
        rw [Addr.add_lit] at this
        rw [show 0 + k * 2 + j = 0 + (k * 2 + j) by omega]
        exact this
theorem SrcG.below {w w' : World} {sa : Option Addr} {m c : Nat} {l : List Wg} (h : SrcG w sa m c l) (hb : Below w.heap.size w w') : SrcG w' sa m c l :=
  ⟨h.len, h.nil, fun ad e j u hu => by have := h.cells ad e j u hu; exact (hb.cell (cell_lt this)).trans this⟩
theorem wgs_one (l : List Wg) : ∀ u ∈ wgs l, u.oneCell' = true := by
  induction l with
  | nil => intro u hu; cases hu
  | cons g l ih =>
    intro u hu
    rcases List.mem_cons.1 hu with rfl | hu
    · rfl
    · rcases List.mem_cons.1 hu with rfl | hu
      · rfl
      · exact ih u hu
/-- append(l, news...) -/
theorem step_appGs {ops : Array Oper} {o : Oper} {a : Act} {K : Act → World → Prop} {Q : Exit → Act → World → Prop} {E : Prop} (w : World) (hgd : o.guard = none) (s x : Operand)
    (ho : o.op = .call { callee := .builtin .append, args := #[s, x], argTypes := #[43, 43] }) (base : Nat)
    (v : Value) (l : List Wg) (hs : a.eval s = v) (hown : OwnG 102 w base v l) (sa : Option Addr) (m c : Nat) (news : List Wg) (hx : a.eval x = .slice sa m c) (hsrc : SrcG w sa m c news)
    (hbytes : (l.length + m) * 32 ≤ 140737488355328) (hbase : base ≤ w.heap.size) (d : Tmp) (hd : o.dst = some d)
    (h : ∀ v' w', OwnG 102 w' base v' (l ++ news) → w.grownBy w' v.ownBlock → K (a.put (some d) v') w') :
    if Region.wanted o (yielded ops a.tmps) = true then Oper.wp Tryz.prog o a w K Q else E := by
  have hw : Region.wanted o (yielded ops a.tmps) = true := by simp [Region.wanted, hgd]
  rw [if_pos hw]
  obtain ⟨i0, hi, hz0, hz1, hz2⟩ := info_parts infoW9
  cases sa with
  | none =>
    obtain ⟨hm, hc⟩ := hsrc.nil rfl
    have hn : news = [] := List.eq_nil_of_length_eq_zero (by rw [hsrc.len, hm])
    subst hn hm hc
    have hrun := run_append_owned_none (P := Tryz.prog) (w := w) base 43 o.type 102 i0 2 Tryz.underlying43 hi v l.length (wgs l) hown
    rw [← hd] at h
    unfold Oper.wp
    simp [execOp, ho, resolve, invoke, builtin, hs, hx, hrun, Result.andThen]
    exact h v w (by rw [List.append_nil]; exact hown) (World.grownBy.refl _ _)
  | some ad =>
    refine wp_append_own w s x 43 ho base 102 i0 wgZ 2 32 Tryz.underlying43 hi hz0 hz1 hz2 rfl (by omega) v l.length (wgs l) hs hown ad m c (wgs news) hx (by rw [wgs_length, hsrc.len]) (hsrc.cells ad rfl) (wgs_one news) (by unfold maxLen; omega) hbytes hbase ?_
    intro v' w' h1 h2 _
    rw [hd]
    exact h v' w' (by unfold OwnG; rw [wgs_append, List.length_append, hsrc.len]; exact h1) h2
/-- the two cuts, as the walk meets them -/
theorem slGh (a : Option Addr) (n cap k : Nat) (hk : k ≤ cap) (ha : a = none ∨ ∃ g, a = some ⟨g, 0, none⟩) (w : World) : (Instr.slice 43 (.slice a n cap) none (some (.int .i64 (k : Int))) none).run Tryz.prog w = .ok (.slice a k cap) w := by
  have he : Tryz.prog.elem 43 = 102 := by kernel_rfl
  have hz : (sizeOf 102).run Tryz.prog w = .ok 2 w := by
    obtain ⟨i0, hi, hz0, hz1, hz2⟩ := info_parts infoW9
    simp [sizeOf, typeInfo, hi, hz1]
  rw [run_slice_h w 43 _ n cap (by rw [he]; exact Tryz.underlying43) .i64 (k : Int) (by omega) (by omega), he, hz]
  simp only [Result.andThen, sliced, Int.toNat_natCast, Nat.zero_mul, Nat.sub_zero]
  rcases ha with rfl | ⟨g, rfl⟩
  · split <;> rfl
  · split <;> simp [Addr.add_lit]
theorem slGl (a : Option Addr) (n cap k : Nat) (hk : k ≤ n) (w : World) : (Instr.slice 43 (.slice a n cap) (some (.int .i64 (k : Int))) none none).run Tryz.prog w = .ok (.slice (cutG a cap k) (n - k) (cap - k)) w := by
  have he : Tryz.prog.elem 43 = 102 := by kernel_rfl
  have hz : (sizeOf 102).run Tryz.prog w = .ok 2 w := by
    obtain ⟨i0, hi, hz0, hz1, hz2⟩ := info_parts infoW9
    simp [sizeOf, typeInfo, hi, hz1]
  rw [run_slice_l w 43 _ n cap (by rw [he]; exact Tryz.underlying43) .i64 (k : Int) (by omega) (by omega), he, hz]
  simp only [Result.andThen, sliced, Int.toNat_natCast, cutG]
end Go.Proofs.YtacnoagjcacniaaGreat
