/- Regions that draw their order and in the end store into what they have loaded, by hand: what is held need not hold behind the last operation. -/
import Derived.Test.YtgcmojldegplaaaTakeH
namespace Go.Proofs.Ytgcmojldegplaaa
open Go Go.RowKit

variable {P : Program} {ops : Array Oper} {Q : Exit → Act → World → Prop} {S : World → Prop} {z : Nat}
/-- any order from here on; S is shown behind each operation but number z -/
def LastOk (P : Program) (ops : Array Oper) (Q : Exit → Act → World → Prop) (S : World → Prop) (z : Nat) : Nat → Array Bool → Act → World → Prop
  | 0, l, a, w => Region.ready .any ops l = [] ∧ Q .normal a w
  | f + 1, l, a, w => (Region.ready .any ops l = [] → Q .normal a w) ∧ ∀ i ∈ Region.ready .any ops l, wpOp P ops Q i (fun a' w' => (i ≠ z → S w') ∧ LastOk P ops Q S z f (l.setIfInBounds i true) a' w') a w
theorem LastOk.any : ∀ (f : Nat) (l : Array Bool) (a : Act) (w : World), LastOk P ops Q S z f l a w → wpAny P .any ops Q f l a w
  | 0, _, _, _, h => h
  | f + 1, _, _, _, h => ⟨h.1, fun i hi => wpOp_mono (fun a' w' k => LastOk.any f _ a' w' k.2) (h.2 i hi)⟩
/-- does z wait for i? -/
def waitsB (ops : Array Oper) (z i : Nat) : Bool := (ops[z]?).any fun o => o.after.any fun e => Region.binds .any e && e.on == i
theorem waits_not {i : Nat} {l : Array Bool} (h : waitsB ops z i = true) (hi : l.getD i false = false) : z ∉ Region.ready .any ops l := fun hz => by
  obtain ⟨_, o, ho, hall⟩ := mem_ready.1 hz
  unfold waitsB at h
  rw [ho] at h
  simp only [Option.any_some, Array.any_eq_true, Bool.and_eq_true, beq_iff_eq] at h
  obtain ⟨x, hx, hb, he⟩ := h
  have := hall _ (Array.getElem_mem hx) hb
  rw [he, hi] at this
  cases this
theorem unlisted {i : Nat} {l : Array Bool} (h : l.getD i true = false) : l.getD i false = false := by
  rcases Nat.lt_or_ge i l.size with k | k
  · simp [k] at h ⊢; exact h
  · simp [Array.getElem?_eq_none k] at h
/-- an operation for which z waits, that yields its value wherever S holds, may be taken first -/
theorem LastOk.first {i : Nat} {o : Oper} {v : Value} (hi : ops[i]? = some o) (hs : Region.noSelect ops = true) (hw : waitsB ops z i = true)
    (hQ : ∀ c a w, Q (.panic c) (a.put o.dst v) w → Q (.panic c) a w) : ∀ (f : Nat) (l : Array Bool) (a : Act) (w : World),
      (∀ j oj, ops[j]? = some oj → j ≠ i → l.getD j true = false → (∀ e ∈ oj.after, Region.binds .any e = true → e.on ≠ i) → o.apart ops oj = true) →
      i ∈ Region.ready .any ops l → YieldsIf P ops S o v a → S w → LastOk P ops Q S z f (l.setIfInBounds i true) (a.put o.dst v) w → LastOk P ops Q S z (f + 1) l a w := by
  have hsel := Region.noSelect_spec hs
  intro f
  induction f with
  | zero =>
    intro l a w _ hr hy hS H
    refine ⟨fun h => (by rw [h] at hr; cases hr), fun j hj => ?_⟩
    by_cases e : j = i
    · subst e; exact hy.wpOp hi hS ⟨fun _ => hS, H⟩
    · have := ready_mono hj e
      rw [H.1] at this
      cases this
  | succ f ih =>
    intro l a w hf hr hy hS H
    refine ⟨fun h => (by rw [h] at hr; cases hr), fun j hj => ?_⟩
    by_cases e : j = i
    · subst e; exact hy.wpOp hi hS ⟨fun _ => hS, H⟩
    · obtain ⟨hju, oj, hoj, hall⟩ := mem_ready.1 hj
      have hi0 := (mem_ready.1 hr).1
      have hjz : j ≠ z := fun h => waits_not hw (unlisted hi0) (h ▸ hj)
      have hnot : ∀ x ∈ oj.after, Region.binds .any x = true → x.on ≠ i := fun x hx hb h => by
        have := hall x hx hb
        rw [h, unlisted hi0] at this
        cases this
      have h2 := wpOp_putIf hoj (hf j oj hoj e hju hnot) (fun cs b => hsel i o cs b hi) (fun cs b => hsel j oj cs b hoj) hQ hy (H.2 j (ready_mono hj e))
      refine wpOp_mono (fun a' w' k => ⟨k.2.1, ih _ a' w' (fun x ox hx hxi hu hno => hf x ox hx hxi ?_ hno) (ready_mono hr (Ne.symm e)) k.1 (k.2.1 hjz) ?_⟩) h2
      · by_cases hjx : j = x
        · subst hjx; exact hju
        · rw [getD_set_ne true hjx] at hu; exact hu
      · rw [Array.setIfInBounds_comm _ _ e]
        exact k.2.2
/-- the moves: the region's beginning, an operation taken, those that come up, the end -/
theorem lk0 {id : Nat} {a : Act} {w : World} (S : World → Prop) (z : Nat) (hS : S w.drew) (h : S w.drew → LastOk P ops Q S z ops.size (Array.replicate ops.size false) a w.drew) (hm : P.follows .mixedOrders = true := by kernel_rfl) : (Code.region id ops true).wp P Q a w :=
  wp_region_any hm (LastOk.any _ _ _ _ (h hS))
theorem lkT {o : Oper} {f : Nat} {l : Array Bool} {a : Act} {w : World} (d : Tmp) (i : Nat) (v : Value) (hi : ops[i]? = some o) (hy : YieldsIf P ops S o v a) (hS : S w)
    (h : LastOk P ops Q S z f (l.setIfInBounds i true) (a.put (some d) v) w) (hs : Region.noSelect ops = true := by kernel_rfl) (hw : waitsB ops z i = true := by kernel_rfl) (hf : Region.free .any ops l i = true := by kernel_rfl) (hr : (Region.ready .any ops l).contains i = true := by kernel_rfl)
    (hQ : ∀ c a w, Q (.panic c) (a.put o.dst v) w → Q (.panic c) a w := by exact fun _ _ _ h => h) (hd : o.dst = some d := by rfl) : LastOk P ops Q S z (f + 1) l a w :=
  LastOk.first hi hs hw hQ f l a w (Region.free_spec hi hf) (by simpa using hr) hy hS (by rw [hd]; exact h)
/-- each of these comes up next -/
def NextL (P : Program) (ops : Array Oper) (Q : Exit → Act → World → Prop) (S : World → Prop) (z f : Nat) (l : Array Bool) (a : Act) (w : World) (rs : List Nat) : Prop :=
  ∀ i ∈ rs, wpOp P ops Q i (fun a' w' => (i ≠ z → S w') ∧ LastOk P ops Q S z f (l.setIfInBounds i true) a' w') a w
theorem NextL.nil {f : Nat} {l : Array Bool} {a : Act} {w : World} : NextL P ops Q S z f l a w [] := fun _ h => by cases h
theorem NextL.cons {f : Nat} {l : Array Bool} {a : Act} {w : World} {i : Nat} {o : Oper} {rs : List Nat} (ho : ops[i]? = some o)
    (h : ∀ K' : Act → World → Prop, Shut (∀ a w, S w → (S w → LastOk P ops Q S z f (l.setIfInBounds i true) a w) → K' a w) → if Region.wanted o (yielded ops a.tmps) = true then Oper.wp P o a w K' Q else K' (a.put o.dst undef) w)
    (hs : NextL P ops Q S z f l a w rs) : NextL P ops Q S z f l a w (i :: rs) := fun j hj => by
  rcases List.mem_cons.1 hj with rfl | hj
  · exact wpOp_step ho (fun K' hK => h K' (fun a w hS hW => hK a w ⟨fun _ => hS, hW hS⟩))
  · exact hs j hj
theorem lkR {rs : List Nat} {f : Nat} {l : Array Bool} {a : Act} {w : World} (hr : Region.ready .any ops l = rs) (hne : rs ≠ []) (h : NextL P ops Q S z f l a w rs) : LastOk P ops Q S z (f + 1) l a w :=
  ⟨fun h0 => absurd (hr ▸ h0) hne, hr ▸ h⟩
theorem lk1 {f : Nat} {l : Array Bool} {a : Act} {w : World} {o : Oper} (i : Nat) (ho : ops[i]? = some o)
    (h : ∀ K' : Act → World → Prop, Shut (∀ a w, S w → (S w → LastOk P ops Q S z f (l.setIfInBounds i true) a w) → K' a w) → if Region.wanted o (yielded ops a.tmps) = true then Oper.wp P o a w K' Q else K' (a.put o.dst undef) w) (hr : Region.ready .any ops l = [i] := by kernel_rfl) : LastOk P ops Q S z (f + 1) l a w :=
  lkR hr (by simp) (NextL.cons ho h NextL.nil)
/-- the last one -/
theorem lkZ {f : Nat} {l : Array Bool} {a : Act} {w : World} {o : Oper} (ho : ops[z]? = some o)
    (h : ∀ K' : Act → World → Prop, Shut (∀ a w, Q .normal a w → K' a w) → if Region.wanted o (yielded ops a.tmps) = true then Oper.wp P o a w K' Q else K' (a.put o.dst undef) w) (hr : Region.ready .any ops l = [z] := by kernel_rfl) (hd : Region.ready .any ops (l.setIfInBounds z true) = [] := by kernel_rfl) : LastOk P ops Q S z (f + 1) l a w :=
  lkR hr (by simp) (fun j hj => by
    have : j = z := by simpa using hj
    subst this
    exact wpOp_step ho (fun K' hK => h K' (fun a w hQ => hK a w ⟨fun e => absurd rfl e, by
      cases f with
      | zero => exact ⟨hd, hQ⟩
      | succ f => exact ⟨fun _ => hQ, by rw [hd]; simp⟩⟩)))
end Go.Proofs.Ytgcmojldegplaaa
