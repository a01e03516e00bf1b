/- The document's Commit. · The document's transaction beside the program's: what each call leaves. · How both stand ahead of a transaction. · JournalPlays: how both sides stand within a transaction. · Space, plain: which sectors a map says are taken. · What the document's Taken and Count answer. · The document's transaction of space: how it stands, and its small calls. -/
import Derived.Test.YthjdmfbengpepaaGreatB17
import Derived.Deep.CutBlock
import Derived.Deep.CutRange
import Derived.Test.YthjdmfbengpepaaGreatB22
import Derived.Test.YthjdmfbengpepaaGreatJrC
import Derived.Test.YthjdmfbengpepaaGreatB0
import Derived.Test.YthjdmfbengpepaaGreatB2
import Derived.Test.YthjdmfbengpepaaGreatB1
namespace Go.Proofs.YthjdmfbengpepaaGreat
open Go.RowKit

theorem ret_iE {a b : Int} (h : a = b) : Ending.returned (.int .i64 a) = .returned (.int .i64 b) := by rw [h]
theorem OwnG.lit {w : World} {B base : Nat} {g : Wg} (hb : Blk w B 88 (wgc g)) (hB : base ≤ B) : OwnG 88 w base (.slice (some ⟨B, 0, none⟩) 1 1) [g] :=
  ⟨rfl, .inr ⟨B, 1, (wgc g).toArray, rfl, hB, hb, Nat.le_refl _, by decide, rfl, rfl⟩⟩
/-- what a commit leaves -/
structure CmPost (X : Nat → Prop) (w w' : World) (U J D base m : Nat) (vL : Value) (ls : List Wg) (t : Tl) (j : Jl) : Prop where
  rt : RtAt w' U J base vL ls (cmT t j).over
  rj : RjAt w' J D (cmJ t j).seq (cmJ t j).dead
  k : IsRk X w' D base m (cmJ t j).p
  keep : KeepT CT w w'
  kb : KeepB X w w'
  bel : Below base w w'

end Go.Proofs.YthjdmfbengpepaaGreat
namespace Go.Proofs.YthjdmfbengpepaaGreat
open Go.RowKit

theorem own_keepE {E : Nat → Prop} {w w' : World} (h : KeepE E w w') {e : TypeId} {base size n : Nat} {v : Value} {xs : List Value} (ho : w.ownsRow base e size v n xs) (hE : ∀ k, v.ownBlock = some k → ¬ E k) : w'.ownsRow base e size v n xs := by
  refine ⟨ho.1, ?_⟩
  rcases ho.2 with h2 | ⟨g, cap, cur, h3, h4, h5, h6⟩
  · exact .inl h2
  · refine .inr ⟨g, cap, cur, h3, h4, (h.same g (Array.getElem?_eq_some_iff.1 h5).1 (hE g (by rw [h3]; rfl))).trans h5, h6⟩
theorem own_ty {w : World} {e : TypeId} {base size n : Nat} {v : Value} {xs : List Value} (ho : w.ownsRow base e size v n xs) {k : Nat} (hk : v.ownBlock = some k) : ∃ c fz, w.heap[k]? = some (.cells c e fz) := by
  rcases ho.2 with h2 | ⟨g, cap, cur, h3, h4, h5, h6⟩
  · rw [h2.1] at hk; cases hk
  · rw [h3] at hk
    have e2 : g = k := by simpa [Value.ownBlock] using hk
    subst e2
    exact ⟨_, _, h5⟩
theorem blk_off {w : World} {A t u : Nat} {cs : List Value} (hA : Blk w A t cs) {k : Nat} {c : Array Value} {fz : Nat × Nat} (hk : w.heap[k]? = some (.cells c u fz)) (hne : t ≠ u) : k ≠ A := fun e => by
  subst e
  have := Option.some.inj (Eq.trans (Eq.symm hk) hA)
  injection this with _ h2 _
  exact hne h2.symm
/-- the document's side of a transaction -/
structure RefT (w : World) (U K D base m : Nat) (vL : Value) (ls : List Wg) (t : Tl) (j : Jl) : Prop where
  rt : RtAt w U K base vL ls t.over
  ls : ls.map plW = t.l
  rj : RjAt w K D j.seq j.dead
  rk : IsRk (fun k => vL.ownBlock = some k) w D base m j.p
  few : FewM j.p m
  len : t.l.length ≤ 48
  at_ : ∀ g ∈ t.l, g.1 < j.p.n
  lowU : base ≤ U
  lowK : base ≤ K
  seq : j.seq < 18446744073709551616
theorem RefT.on {w w' : World} {U K D base m : Nat} {vL : Value} {ls : List Wg} {t : Tl} {j : Jl} (h : RefT w U K D base m vL ls t j) (hb : Below w.heap.size w w') : RefT w' U K D base m vL ls t j :=
  { h with rt := ⟨h.rt.blk.on hb, h.rt.gs.on hb⟩, rj := Blk.on h.rj hb, rk := h.rk.on hb }
theorem GsAt.keepO {w w' : World} {base : Nat} {v : Value} {l : List Wg} (h : GsAt w base v l) {us : List TypeId} (hk : KeepO us w w') (h1 : 88 ∈ us) (h2 : 5 ∈ us) : GsAt w' base v l := ⟨own_keepO hk h.own h1, fun g hg => ⟨(h.bys g hg).1, own_keepO hk (h.bys g hg).2 h2⟩⟩
theorem RefT.keepP {w w' : World} {U K D base m : Nat} {vL : Value} {ls : List Wg} {t : Tl} {j : Jl} (h : RefT w U K D base m vL ls t j) (hk : KP base w w') : RefT w' U K D base m vL ls t j :=
  { h with rt := ⟨hk.o.blk h.rt.blk (by decide), h.rt.gs.keepO hk.o (by decide) (by decide)⟩, rj := hk.o.blk h.rj (by decide), rk := h.rk.keepO hk.o (by decide) (by decide) (by decide) }
theorem RefT.low {w : World} {U K D base m : Nat} {vL : Value} {ls : List Wg} {t : Tl} {j : Jl} (h : RefT w U K D base m vL ls t j) : base ≤ w.heap.size := h.rk.low
/-- a new one -/
theorem RefT.begin_ {X : Nat → Prop} {w w' : World} {U K D base m : Nat} {j : Jl} (hU : Blk w' U 92 [.pointer (some ⟨K, 0, none⟩), .slice none 0 0, .bool false]) (hb : Below w.heap.size w w') (hlU : base ≤ U) (hlK : base ≤ K) (rj : RjAt w K D j.seq j.dead) (rk : IsRk X w D base m j.p) (few : FewM j.p m) (seq : j.seq < 18446744073709551616) : RefT w' U K D base m (.slice none 0 0) [] ⟨[], false⟩ j :=
  ⟨⟨hU, ⟨OwnG.nil _ _ _, fun g hg => (by cases hg)⟩⟩, rfl, Blk.on rj hb, (rk.on hb).wider (w := w') (Below.refl _ _) (fun k hk => (by cases hk)), few, Nat.zero_le _, fun g hg => (by cases hg), hlU, hlK, seq⟩
theorem putQ_mem (l : Qs) (i : Nat) (b : List UInt8) : ∀ g ∈ putQ l i b, g ∈ l ∨ g = (i, b) := by
  induction l with
  | nil => intro g hg; exact .inr (List.mem_singleton.1 hg)
  | cons x l ih =>
    intro g hg
    rw [putQ] at hg
    split at hg
    · rcases List.mem_cons.1 hg with e | e
      · exact .inl (by rw [e]; simp)
      · rcases ih g e with h | h
        · exact .inl (List.mem_cons_of_mem _ h)
        · exact .inr h
    · split at hg
      · rcases List.mem_cons.1 hg with e | e
        · exact .inr e
        · exact .inl (List.mem_cons_of_mem _ e)
      · rcases List.mem_cons.1 hg with e | e
        · exact .inr e
        · exact .inl e
theorem tlWrite_at (t : Tl) (j : Jl) (i : Int) (b : List UInt8) (h : ∀ g ∈ t.l, g.1 < j.p.n) : ∀ g ∈ (t.write j i b).l, g.1 < j.p.n := by
  unfold Tl.write
  split
  · rename_i hz
    intro g hg
    rcases putQ_mem _ _ _ g hg with e | e
    · exact h g e
    · rw [e]
      unfold Tl.wrE at hz
      split at hz
      · cases hz
      · split at hz
        · cases hz
        · rename_i ha
          have ha2 : areaI j.p.n i = true := by cases hq : areaI j.p.n i with | true => rfl | false => exact absurd hq ha
          unfold areaI at ha2
          have := of_decide_eq_true ha2
          show i.toNat < j.p.n
          omega
  · exact h
/-- Write at the document's -/
theorem RefT.write {w : World} {U K D base m : Nat} {vL : Value} {ls : List Wg} {t : Tl} {j : Jl} (h : RefT w U K D base m vL ls t j) (i : Int) {ba : Option Addr} {bc : Nat} {b : List UInt8} (hB : IsB w ba b.length bc b) :
    Calls Tryz.prog 108 #[.pointer (some ⟨U, 0, none⟩), .int .i64 i, .slice ba b.length bc] w fun e w' => e = .returned (.int .i64 (t.wrE j i b)) ∧ (∃ vL' ls', RefT w' U K D base m vL' ls' (t.write j i b) j) ∧ KeepT CT w w' ∧ Below base w w' := by
  obtain ⟨tl, over⟩ := t
  obtain ⟨p, seq, dead⟩ := j
  have hls := h.ls
  dsimp only at hls
  subst hls
  refine (refTWrite10 U K D base m seq dead over vL ls p i ba bc b w h.rt h.lowU h.rj h.rk (by have := h.len; simpa using this) hB).mono ?_
  rintro e w' ⟨he, ⟨vL', ls', hrt, hls', hown⟩, hE, hbel⟩
  have hTy : ∀ k, (k = U ∨ vL.ownBlock = some k) → k < w.heap.size → ∃ c t fz, w.heap[k]? = some (.cells c t fz) ∧ t ∈ [92, 88] := fun k hk _ => by
    rcases hk with rfl | hk
    · exact ⟨_, _, _, h.rt.blk, by simp⟩
    · obtain ⟨c, fz, h1⟩ := own_ty h.rt.gs.own hk
      exact ⟨c, _, fz, h1, by simp⟩
  have hT : KeepT [92, 88] w w' := hE.toT hTy
  have hrk := h.rk
  obtain ⟨r, vS, vC, a, bq, c, d, e2, f⟩ := hrk
  have hUlt := h.rt.blk.lt
  have nS : ∀ k, (vS.ownBlock = some k ∨ vC.ownBlock = some k) → ¬ (k = U ∨ vL.ownBlock = some k) := fun k hk hn => by
    have hw : ∃ c fz, w.heap[k]? = some (.cells c 88 fz) := by
      rcases hk with hk | hk
      · exact own_ty a.ownS hk
      · exact own_ty a.ownC hk
    obtain ⟨c1, fz, h1⟩ := hw
    rcases hn with hn | hn
    · exact blk_off h.rt.blk h1 (by decide) hn
    · exact e2 k hk hn
  have hlt : ∀ k, (vS.ownBlock = some k ∨ vC.ownBlock = some k) → k < w.heap.size := fun k hk => by
    rcases hk with hk | hk
    · exact (a.ownS.blk k hk).2
    · exact (a.ownC.blk k hk).2
  have hIs : IsRD w' D base r vS vC := ⟨hT.blk a.blk (by decide), a.low, own_keepE hE a.ownS (fun k hk => nS k (.inl hk)), own_keepE hE a.ownC (fun k hk => nS k (.inr hk)), a.bS.keep hT (by decide), a.bC.keep hT (by decide), a.apart⟩
  have hov : (Tl.write ⟨ls.map plW, over⟩ ⟨p, seq, dead⟩ i b).over = over := tlWrite_over _ _ _ _
  refine ⟨he, ⟨vL', ls', ⟨by rw [hov]; exact hrt, hls', hT.blk h.rj (by decide), ⟨r, vS, vC, hIs, bq, c, fun hx => ?_, fun k hk hx => ?_, fun k hx => (hrt.gs.own.blk k hx).2⟩, h.few, tlWrite_len _ _ _ _ h.len, tlWrite_at _ _ _ _ h.at_, h.lowU, h.lowK, h.seq⟩⟩, hT.wide (by decide), hbel⟩
  · rcases hown D hx with h1 | h1
    · exact d h1
    · have := a.blk.lt; omega
  · rcases hown k hx with h1 | h1
    · exact e2 k hk h1
    · have := hlt k hk; omega
/-- Read at the document's -/
theorem RefT.read {w : World} {U K D base m : Nat} {vL : Value} {ls : List Wg} {t : Tl} {j : Jl} (h : RefT w U K D base m vL ls t j) (hm : m ≤ 100000) (i : Int) :
    Calls Tryz.prog 96 #[.pointer (some ⟨U, 0, none⟩), .int .i64 i] w fun e w' => ∃ v, e = .returned (.tuple #[v, .int .i64 (t.rdE j i)]) ∧ OwnB w' w.heap.size v (t.rdB j i) ∧ Below w.heap.size w w' := by
  obtain ⟨tl, over⟩ := t
  obtain ⟨p, seq, dead⟩ := j
  have hls := h.ls
  dsimp only at hls
  subst hls
  exact refTRead10 U K D base m seq dead over vL ls p i w h.rt h.rj h.rk hm (by have := h.len; simp at this; omega)
theorem cmJ_n (t : Tl) (j : Jl) : (cmJ t j).p.n = j.p.n := by
  have hA : (cmA t j).1.n = j.p.n := by unfold cmA; exact steps_n _ _
  have hB : (cmB t j).1.n = j.p.n := by
    unfold cmB
    split
    · exact (steps_n _ _).trans hA
    · exact hA
  have hC : (cmC t j).1.n = j.p.n := by
    unfold cmC
    split
    · exact (steps_n _ _).trans hB
    · exact hB
  unfold cmJ
  split
  · rfl
  split
  · rfl
  split
  · exact hC
  · exact hC
theorem cmJ_seq (t : Tl) (j : Jl) (h : j.seq < 18446744073709551616) : (cmJ t j).seq < 18446744073709551616 := by
  unfold cmJ
  split
  · exact h
  split
  · exact h
  split
  · show (j.seq + 1) % 18446744073709551616 < _
    omega
  · exact h
end Go.Proofs.YthjdmfbengpepaaGreat
namespace Go.Proofs.YthjdmfbengpepaaGreat
open Go.RowKit

theorem rkNew (base : Nat) (w : World) (hb : base ≤ w.heap.size) : Calls Tryz.prog 9 #[.int .i64 64] w fun e w' => (∃ D, e = .returned (.pointer (some ⟨D, 0, none⟩)) ∧ IsRk (fun _ => False) w' D base 0 (Pl.new 64)) ∧ Below w.heap.size w w' := by
  have H := refNew9 64 w
  simp only [if_pos (show (64 : Int) ≤ 64 ∧ (64 : Int) ≤ 4096 by omega)] at H
  refine H.mono ?_
  rintro e w' ⟨⟨rfl, hD⟩, hbel⟩
  exact ⟨⟨_, rfl, ⟨_, _, _, hD.base hb, rfl, ⟨by show (64 : Int).toNat ≤ 4096; decide, Nat.zero_le _, fun g hg => (by cases hg), Nat.zero_le _, Nat.zero_le _, Nat.zero_le _⟩, fun h => h, fun _ _ h => h, fun _ h => h.elim⟩⟩, hbel⟩
/-- how both stand ahead of a transaction -/
structure PlayB (JA : World → Nat → Nat → Nat → Jl → Prop) (w : World) (J K P D base m : Nat) (j : Jl) : Prop where
  ja : JA w J P base j
  rj : RjAt w K D j.seq j.dead
  rk : IsRk (fun _ => False) w D base m j.p
  few : FewM j.p m
  lowK : base ≤ K
  seq : j.seq < 18446744073709551616

end Go.Proofs.YthjdmfbengpepaaGreat
namespace Go.Proofs.YthjdmfbengpepaaGreat
open Go.RowKit

theorem flush_up {p : Pl} (h : p.flE = 0) : p.flush.off = false := by
  unfold Pl.flE at h
  unfold Pl.flush
  cases ho : p.off with
  | true => rw [ho] at h; cases h
  | false => simp
theorem steps_up : ∀ (l : Qs) (p : Pl), stepsE p l = 0 → (stepsP p l).off = false := by
  intro l
  induction l with
  | nil => intro p h; exact flush_up h
  | cons g l ih =>
    intro p h
    rw [stepsE] at h
    rw [stepsP]
    split at h
    · rename_i hz
      rw [if_pos hz]
      exact ih _ h
    · rename_i hz
      exact absurd h hz
theorem mount_up {p : Pl} (h : mountE p = 0) : (mountP p).off = false := by
  unfold mountE at h
  unfold mountP
  split at h
  · rename_i hz; exact absurd h hz
  · rename_i hz
    rw [if_neg hz]
    have h0 : p.off = false := by
      cases ho : p.off with
      | false => rfl
      | true =>
        have e : p.rdE 0 = 51 := by unfold Pl.rdE; rw [ho]; rfl
        exact absurd (by rw [e]; decide) hz
    cases hh : heldJ p with
    | none => exact h0
    | some q =>
      obtain ⟨s, l⟩ := q
      rw [hh] at h
      exact steps_up l p h
theorem cmT_twice (t : Tl) (j : Jl) : cmT (cmT t j) (cmJ t j) = cmT t j := by
  by_cases h : t.over = true ∨ j.dead = true
  · have e1 : cmT t j = t := by unfold cmT; rw [if_pos h]
    have e2 : cmJ t j = j := by unfold cmJ; rw [if_pos h]
    rw [e1, e2]
    exact e1
  · have e1 : (cmT t j).over = true := by unfold cmT; rw [if_neg h]
    generalize cmJ t j = k
    generalize cmT t j = u at *
    unfold cmT
    rw [if_pos (.inl e1)]
abbrev UQ : List TypeId := [4, 5, 3, 94, 46, 39, 44, 31, 41, 25]
/-- what the statement's own data ask of a call -/
structure KQ (base : Nat) (w w' : World) : Prop where
  o : KeepO UQ w w'
  b : Below base w w'
theorem KQ.refl (base : Nat) (w : World) : KQ base w w := ⟨KeepO.refl _ _, Below.refl _ _⟩
theorem KQ.trans {base : Nat} {a b c : World} (h : KQ base a b) (k : KQ base b c) : KQ base a c := ⟨h.o.trans k.o, h.b.trans k.b⟩
theorem KQ.ofP {base : Nat} {w w' : World} (h : KP base w w') : KQ base w w' := ⟨h.o.less (by decide), h.b⟩
theorem KQ.ofC {base : Nat} {w w' : World} (h : KeepT CT w w') (hb : Below base w w') : KQ base w w' := ⟨KeepO.ofT h (by decide), hb⟩
theorem KQ.of_below {base : Nat} {w w' : World} (h : Below w.heap.size w w') (hb : base ≤ w.heap.size) : KQ base w w' := ⟨KeepO.of_below h, h.mono hb⟩
/-- both transactions -/
structure TB (TA : World → Nat → Nat → Nat → Nat → Tl → Jl → Prop) (w : World) (T U J K P D base m : Nat) (t : Tl) (j : Jl) : Prop where
  ta : TA w T J P base t j
  rt : ∃ vL ls, RefT w U K D base m vL ls t j
theorem TB.len {TA : World → Nat → Nat → Nat → Nat → Tl → Jl → Prop} {w : World} {T U J K P D base m : Nat} {t : Tl} {j : Jl} (h : TB TA w T U J K P D base m t j) : t.l.length ≤ 48 := by obtain ⟨_, _, h⟩ := h.rt; exact h.len
theorem TB.few {TA : World → Nat → Nat → Nat → Nat → Tl → Jl → Prop} {w : World} {T U J K P D base m : Nat} {t : Tl} {j : Jl} (h : TB TA w T U J K P D base m t j) : FewM j.p m := by obtain ⟨_, _, h⟩ := h.rt; exact h.few
theorem TB.seq {TA : World → Nat → Nat → Nat → Nat → Tl → Jl → Prop} {w : World} {T U J K P D base m : Nat} {t : Tl} {j : Jl} (h : TB TA w T U J K P D base m t j) : j.seq < 18446744073709551616 := by obtain ⟨_, _, h⟩ := h.rt; exact h.seq
theorem TB.low {TA : World → Nat → Nat → Nat → Nat → Tl → Jl → Prop} {w : World} {T U J K P D base m : Nat} {t : Tl} {j : Jl} (h : TB TA w T U J K P D base m t j) : base ≤ w.heap.size := by obtain ⟨_, _, h⟩ := h.rt; exact h.low
theorem TB.on {JA : World → Nat → Nat → Nat → Jl → Prop} {TA : World → Nat → Nat → Nat → Nat → Tl → Jl → Prop} (ok : JrnOK JA TA) {w w' : World} {T U J K P D base m : Nat} {t : Tl} {j : Jl} (h : TB TA w T U J K P D base m t j) (hb : Below w.heap.size w w') : TB TA w' T U J K P D base m t j := by
  obtain ⟨vL, ls, hr⟩ := h.rt
  exact ⟨ok.keepT h.ta (KeepT.of_below hb), vL, ls, hr.on hb⟩
/-- the cell of the document's list of sectors -/
theorem RefT.cellL {w : World} {U K D base m : Nat} {vL : Value} {ls : List Wg} {t : Tl} {j : Jl} (h : RefT w U K D base m vL ls t j) : ∃ a n c, n = t.l.length ∧ vL = .slice a n c ∧ w.cell? ⟨U, 1, none⟩ = some (.slice a n c) := by
  obtain ⟨a, c, e, _⟩ := h.rt.gs.own.form
  have hl : ls.length = t.l.length := by rw [← h.ls, List.length_map]
  refine ⟨a, _, c, hl, e, ?_⟩
  have := h.rt.blk.cell 1
  rw [e] at this
  exact this
theorem refWriteV {w : World} {U K D base m : Nat} {vL : Value} {ls : List Wg} {t : Tl} {j : Jl} {base' : Nat} {v : Value} {b : List UInt8} (h : RefT w U K D base m vL ls t j) (i : Int) (hv : OwnB w base' v b) :
    Calls Tryz.prog 108 #[.pointer (some ⟨U, 0, none⟩), .int .i64 i, v] w fun e w' => e = .returned (.int .i64 (t.wrE j i b)) ∧ Hid (∃ vL' ls', RefT w' U K D base m vL' ls' (t.write j i b) j) ∧ Hid (KeepT CT w w') ∧ Hid (Below base w w') := by
  obtain ⟨ba, bc, rfl, hB⟩ := hv.isB
  exact h.write i hB
end Go.Proofs.YthjdmfbengpepaaGreat
namespace Go.Proofs.YthjdmfbengpepaaGreat
open Go.RowKit

def bitN (b : List UInt8) (k : Nat) : Bool := decide ((nth b (k / 8)).toNat / 2 ^ (k % 8) % 2 = 1)
/-- Taken -/
def takenL (b : List UInt8) (i : Int) : Bool := decide (0 ≤ i) && bitN b i.toNat
theorem nth_behind (b : List UInt8) (q : Nat) (h : b.length ≤ q) : nth b q = 0 := by
  unfold nth; rw [List.getD_eq_getElem?_getD, List.getElem?_eq_none h]; rfl
theorem bitN_behind (b : List UInt8) (k : Nat) (h : b.length ≤ k / 8) : bitN b k = false := by
  unfold bitN; rw [nth_behind b _ h]; simp
theorem takenL_nat (b : List UInt8) (k : Nat) : takenL b (k : Int) = bitN b k := by unfold takenL; simp
theorem takenL_neg (b : List UInt8) (i : Int) (h : i < 0) : takenL b i = false := by unfold takenL; rw [decide_eq_false (by omega)]; rfl
/-- how many of the first k are taken -/
def cntL (b : List UInt8) : Nat → Nat
  | 0 => 0
  | k + 1 => cntL b k + (if bitN b k = true then 1 else 0)
theorem cntL_le (b : List UInt8) (k : Nat) : cntL b k ≤ k := by
  induction k with
  | zero => exact Nat.le_refl _
  | succ k ih => rw [cntL]; split <;> omega
theorem cntL_behind (b : List UInt8) (k : Nat) (h : 8 * b.length ≤ k) (d : Nat) : cntL b (k + d) = cntL b k := by
  induction d with
  | zero => rfl
  | succ d ih => rw [← Nat.add_assoc, cntL, bitN_behind b _ (by omega), ih]; simp
/-- Count -/
def countL (b : List UInt8) (n : Int) : Nat := cntL b (min n.toNat (8 * b.length))
theorem countL_all (b : List UInt8) (n : Int) : countL b n = cntL b n.toNat := by
  unfold countL
  by_cases h : n.toNat ≤ 8 * b.length
  · rw [Nat.min_eq_left h]
  · rw [Nat.min_eq_right (by omega)]
    have := cntL_behind b (8 * b.length) (Nat.le_refl _) (n.toNat - 8 * b.length)
    rw [← this]; congr 1; omega
/-- the least that is free, from i on; n: none -/
def tkGo (b : List UInt8) : Nat → Nat → Nat
  | 0, i => i
  | f + 1, i => if bitN b i = true then tkGo b f (i + 1) else i
def tkI (b : List UInt8) (n : Nat) : Nat := tkGo b (n - 51) 51
theorem tkGo_hit (b : List UInt8) : ∀ (f i k : Nat), i ≤ k → k < i + f → (∀ x, i ≤ x → x < k → bitN b x = true) → bitN b k = false → tkGo b f i = k := by
  intro f
  induction f with
  | zero => intro i k h1 h2; omega
  | succ f ih =>
    intro i k h1 h2 h3 h4
    rw [tkGo]
    by_cases e : i = k
    · subst e; rw [h4]; rfl
    · rw [if_pos (h3 i (Nat.le_refl _) (by omega))]
      exact ih (i + 1) k (by omega) (by omega) (fun x hx hk => h3 x (by omega) hk) h4
theorem tkGo_none (b : List UInt8) : ∀ (f i : Nat), (∀ x, i ≤ x → x < i + f → bitN b x = true) → tkGo b f i = i + f := by
  intro f
  induction f with
  | zero => intro i _; rfl
  | succ f ih =>
    intro i h
    rw [tkGo, if_pos (h i (Nat.le_refl _) (by omega)), ih (i + 1) (fun x hx hk => h x (by omega) (by omega))]
    omega
theorem tkI_hit (b : List UInt8) (n k : Nat) (h1 : 51 ≤ k) (h2 : k < n) (h3 : ∀ x, 51 ≤ x → x < k → bitN b x = true) (h4 : bitN b k = false) : tkI b n = k := tkGo_hit b _ _ k h1 (by omega) h3 h4
theorem tkI_none (b : List UInt8) (n : Nat) (h1 : 51 ≤ n) (h3 : ∀ x, 51 ≤ x → x < n → bitN b x = true) : tkI b n = n := by
  unfold tkI; rw [tkGo_none b _ _ (fun x hx hk => h3 x hx (by omega))]; omega
/-- how many from 51 on, below k, are free -/
def freeL (b : List UInt8) : Nat → Nat
  | 0 => 0
  | d + 1 => freeL b d + (if bitN b (51 + d) = true then 0 else 1)
theorem freeL_le (b : List UInt8) (d : Nat) : freeL b d ≤ d := by
  induction d with
  | zero => exact Nat.le_refl _
  | succ d ih => rw [freeL]; split <;> omega
/-- a sector's bit turned -/
def flipL (b : List UInt8) (k : Nat) : List UInt8 := b.set (k / 8) (nth b (k / 8) ^^^ UInt8.ofNat (2 ^ (k % 8)))
theorem flipL_length (b : List UInt8) (k : Nat) : (flipL b k).length = b.length := List.length_set
end Go.Proofs.YthjdmfbengpepaaGreat
namespace Go.Proofs.YthjdmfbengpepaaGreat
open Go.RowKit

theorem and1_s (n : Nat) (h : n < 256) : bits .and .u8 (n : Int) 1 = ((n % 2 : Nat) : Int) := by
  have e := bits_and8 (UInt8.ofNat n) 1
  rw [UInt8.toNat_and, UInt8.toNat_ofNat', Nat.mod_eq_of_lt h] at e
  rw [show (n &&& (1 : UInt8).toNat) = n % 2 from Nat.and_two_pow_sub_one_eq_mod n 1] at e
  exact e
theorem eq1_dec (y : Nat) : (((y : Int) == 1) : Bool) = decide (y = 1) := by
  by_cases h : y = 1
  · subst h; rfl
  · rw [decide_eq_false h, beq_eq_false_iff_ne]; omega
set_option maxHeartbeats 1000000 in
theorem refTaken11 (a : Option Addr) (len cap : Nat) (l : List UInt8) (i : Int) (w : World) (h : IsB w a len cap l) (h0 : -9223372036854775808 ≤ i) (h1 : i ≤ 9223372036854775807) :
    Calls Tryz.prog 46 #[.slice a len cap, .int .i64 i] w fun e w' => e = .returned (.bool (takenL l i)) ∧ Below w.heap.size w w' := by
  have hmax := h.max
  unfold maxLen at hmax
  have hle := h.le
  have hlm : (len : Int) ≤ 9223372036854775807 := by omega
  clear hmax hle
  have H := mkHid h
  clear h
  by_cases hn : i < 0
  · have HV : Hid (false = takenL l i) := (takenL_neg l i hn).symm
    go_enter Tryz.func46, Tryz.ntmps46
    go_wp2_with fail
    go_ret
    exact ⟨ret_b HV.out, Below.refl _ _⟩
  · obtain ⟨k, rfl⟩ : ∃ k : Nat, i = (k : Int) := ⟨i.toNat, by omega⟩
    have HT : Hid (takenL l (k : Int) = bitN l k) := takenL_nat l k
    obtain ⟨q, hq⟩ : ∃ q, q = k / 8 := ⟨_, rfl⟩
    obtain ⟨r, hr⟩ : ∃ r, r = k % 8 := ⟨_, rfl⟩
    have hr8 : r < 8 := by omega
    have hqm : (q : Int) ≤ 9223372036854775807 := by omega
    have hq1 : (k : Int).tdiv 8 = (q : Int) := by rw [Int.tdiv_eq_ediv_of_nonneg (by omega)]; omega
    have hr1 : (k : Int).tmod 8 = (r : Int) := by rw [Int.tmod_eq_emod_of_nonneg (by omega)]; omega
    have HQ := mkHid hq
    have HR := mkHid hr
    clear hq hr
    by_cases hlt : q < len
    · have hlt' : (q : Int) < (len : Int) := by omega
      obtain ⟨b0, o0, rfl, hc0⟩ := H.out.cells (by omega)
      have g0 := hc0 q hlt
      clear hc0
      obtain ⟨y, hy⟩ : ∃ y : Nat, y = (nth l q).toNat / 2 ^ r % 2 := ⟨_, rfl⟩
      have HV : bits .and .u8 (((nth l q).toNat : Int) / 2 ^ r) 1 = (y : Int) := by
        have := and1_s ((nth l q).toNat / 2 ^ r) (Nat.lt_of_le_of_lt (Nat.div_le_self _ _) (nth l q).toNat_lt)
        rw [hy, ← this]; simp
      have HB : Hid (decide (y = 1) = bitN l k) := by unfold Hid bitN; rw [hy, HQ.out, HR.out]
      clear hy
      go_enter Tryz.func46, Tryz.ntmps46
      go_wp2_with fail
      go_ret
      refine ⟨ret_b ?_, Below.refl _ _⟩
      rw [HT.out, ← HB.out]
      exact eq1_dec y
    · have hlt' : ¬ (q : Int) < (len : Int) := by omega
      have HV : Hid (false = takenL l (k : Int)) := by
        unfold Hid
        rw [HT.out, bitN_behind l k (by have := H.out.len_eq; have := HQ.out; omega)]
      go_enter Tryz.func46, Tryz.ntmps46
      go_wp2_with fail
      go_ret
      exact ⟨ret_b HV.out, Below.refl _ _⟩
set_option maxHeartbeats 1000000 in
theorem refCount11 (a : Option Addr) (len cap : Nat) (l : List UInt8) (n : Int) (w : World) (h : IsB w a len cap l) (h0 : -9223372036854775808 ≤ n) (h1 : n ≤ 9223372036854775807) :
    Calls Tryz.prog 75 #[.slice a len cap, .int .i64 n] w fun e w' => e = .returned (.int .i64 (countL l n : Int)) ∧ Below w.heap.size w w' := by
  have hmax := h.max
  unfold maxLen at hmax
  have hle := h.le
  have hlm : (len : Int) ≤ 9223372036854775807 := by omega
  clear hmax hle
  have hlen := h.len_eq
  have H := mkHid h
  clear h
  go_enter Tryz.func75, Tryz.ntmps75
  go_wp2_with fail
  go_loopw [5, 6] (fun o i wr => ∃ k : Nat, k ≤ 8 * len ∧ k ≤ n.toNat ∧ i = .int .i64 (k : Int) ∧ o = .int .i64 (cntL l k : Int) ∧ Hid (Below w.heap.size w wr)) (fun _ i _ => 8 * len - (intOf i).toNat)
  case atStart => exact ⟨0, Nat.zero_le _, Nat.zero_le _, rfl, rfl, Below.refl _ _⟩
  case round =>
    obtain ⟨k, hk, hkn, rfl, rfl, HB⟩ := hrel
    obtain ⟨q, hq⟩ : ∃ q, q = k / 8 := ⟨_, rfl⟩
    have hq1 : (k : Int).tdiv 8 = (q : Int) := by rw [Int.tdiv_eq_ediv_of_nonneg (by omega)]; omega
    have hcl := cntL_le l k
    by_cases hn : (k : Int) < n
    · by_cases hlt : q < len
      · have hlt' : (q : Int) < (len : Int) := by omega
        have HT : Hid (takenL l (k : Int) = bitN l k) := takenL_nat l k
        have HC : Hid (cntL l (k + 1) = cntL l k + (if bitN l k = true then 1 else 0)) := rfl
        have HI : Hid (IsB wr a len cap l) := H.out.below HB.out rfl
        have hks : k < 8 * len := by omega
        clear hq
        have hcl2 : ((cntL l k : Nat) : Int) ≤ 9223372036854775806 := by omega
        by_cases hT : bitN l k = true
        · have HT1 : Hid (takenL l (k : Int) = true) := by unfold Hid; rw [HT.out, hT]
          have HC1 : Hid (cntL l (k + 1) = cntL l k + 1) := by unfold Hid; rw [HC.out, if_pos hT]
          clear HT HC hT
          go_wp2_with (go_at_call 46; refine (refTaken11 a len cap l (k : Int) _ HI.out (by omega) (by omega)).mono ?_; rintro e y1 ⟨rfl, hb1⟩; rw [HT1.out])
          go_roundw
          case rel => exact ⟨k + 1, by omega, by omega, by go_num, by rw [HC1.out]; go_num, HB.out.trans (hb1.mono HB.out.size)⟩
          case measure => simp [intOf]; omega
        · have HT1 : Hid (takenL l (k : Int) = false) := by unfold Hid; rw [HT.out]; exact Bool.eq_false_iff.2 hT
          have HC1 : Hid (cntL l (k + 1) = cntL l k) := by unfold Hid; rw [HC.out, if_neg hT]; rfl
          clear HT HC hT
          go_wp2_with (go_at_call 46; refine (refTaken11 a len cap l (k : Int) _ HI.out (by omega) (by omega)).mono ?_; rintro e y1 ⟨rfl, hb1⟩; rw [HT1.out])
          go_roundw
          case rel => exact ⟨k + 1, by omega, by omega, by go_num, by rw [HC1.out], HB.out.trans (hb1.mono HB.out.size)⟩
          case measure => simp [intOf]; omega
      · have hlt' : ¬ (q : Int) < (len : Int) := by omega
        have hqm : (q : Int) ≤ 9223372036854775807 := by omega
        have HC : Hid (cntL l k = countL l n) := by unfold Hid countL; rw [hlen]; congr 1; omega
        go_wp2_with fail
        go_ret
        exact ⟨ret_i (by rw [← HC.out]), HB.out⟩
    · have HC : Hid (cntL l k = countL l n) := by unfold Hid; rw [countL_all]; congr 1; omega
      go_wp2_with fail
      go_ret
      exact ⟨ret_i (by rw [← HC.out]), HB.out⟩
end Go.Proofs.YthjdmfbengpepaaGreat
namespace Go.Proofs.YthjdmfbengpepaaGreat
open Go.RowKit

/-- what a call of the document's leaves alone -/
structure KC (base : Nat) (w w' : World) : Prop where
  t : KeepT CT w w'
  b : Below base w w'
theorem KC.of_below {base : Nat} {w w' : World} (h : Below w.heap.size w w') (hb : base ≤ w.heap.size) : KC base w w' := ⟨KeepT.of_below h, h.mono hb⟩
theorem KC.trans {base : Nat} {a b c : World} (h : KC base a b) (k : KC base b c) : KC base a c := ⟨h.t.trans k.t, h.b.trans k.b⟩
abbrev U11 : List TypeId := [81, 88, 92, 85, 5, 4, 94, 3, 46, 39, 44, 31, 41, 25]
/-- what a call of the program's space leaves alone -/
structure KS (base : Nat) (w w' : World) : Prop where
  o : KeepO U11 w w'
  b : Below base w w'
theorem KS.trans {base : Nat} {a b c : World} (h : KS base a b) (k : KS base b c) : KS base a c := ⟨h.o.trans k.o, h.b.trans k.b⟩
theorem KS.of_below {base : Nat} {w w' : World} (h : Below w.heap.size w w') (hb : base ≤ w.heap.size) : KS base w w' := ⟨KeepO.of_below h, h.mono hb⟩
theorem KS.ofP {base : Nat} {w w' : World} (h : KP base w w') : KS base w w' := ⟨h.o.less (by decide), h.b⟩
theorem KQ.ofS {base : Nat} {w w' : World} (h : KS base w w') : KQ base w w' := ⟨h.o.less (by decide), h.b⟩
theorem RefT.keepS {w w' : World} {U K D base m : Nat} {vL : Value} {ls : List Wg} {t : Tl} {j : Jl} (h : RefT w U K D base m vL ls t j) (hk : KS base w w') : RefT w' U K D base m vL ls t j :=
  { h with rt := ⟨hk.o.blk h.rt.blk (by decide), h.rt.gs.keepO hk.o (by decide) (by decide)⟩, rj := hk.o.blk h.rj (by decide), rk := h.rk.keepO hk.o (by decide) (by decide) (by decide) }
/-- the map -/
def mapL (t : Tl) (j : Jl) : List UInt8 := t.rdB j 49
structure RefS (w : World) (R U K D base m : Nat) (t : Tl) (j : Jl) : Prop where
  blk : Blk w R 94 [.pointer (some ⟨U, 0, none⟩)]
  low : base ≤ R
  rt : ∃ vL ls, RefT w U K D base m vL ls t j
  lens : ∀ g ∈ t.l, g.2.length = 512
theorem RefS.on {w w' : World} {R U K D base m : Nat} {t : Tl} {j : Jl} (h : RefS w R U K D base m t j) (hb : Below w.heap.size w w') : RefS w' R U K D base m t j := by
  obtain ⟨vL, ls, hr⟩ := h.rt
  exact ⟨h.blk.on hb, h.low, ⟨vL, ls, hr.on hb⟩, h.lens⟩
theorem RefS.keepS {w w' : World} {R U K D base m : Nat} {t : Tl} {j : Jl} (h : RefS w R U K D base m t j) (hk : KS base w w') : RefS w' R U K D base m t j := by
  obtain ⟨vL, ls, hr⟩ := h.rt
  exact ⟨hk.o.blk h.blk (by decide), h.low, ⟨vL, ls, hr.keepS hk⟩, h.lens⟩
theorem RefS.few {w : World} {R U K D base m : Nat} {t : Tl} {j : Jl} (h : RefS w R U K D base m t j) : FewM j.p m := by obtain ⟨_, _, hr⟩ := h.rt; exact hr.few
theorem RefS.len {w : World} {R U K D base m : Nat} {t : Tl} {j : Jl} (h : RefS w R U K D base m t j) : t.l.length ≤ 48 := by obtain ⟨_, _, hr⟩ := h.rt; exact hr.len
theorem RefS.lo {w : World} {R U K D base m : Nat} {t : Tl} {j : Jl} (h : RefS w R U K D base m t j) : base ≤ w.heap.size := by obtain ⟨_, _, hr⟩ := h.rt; exact hr.low
theorem RefS.seq {w : World} {R U K D base m : Nat} {t : Tl} {j : Jl} (h : RefS w R U K D base m t j) : j.seq < 18446744073709551616 := by obtain ⟨_, _, hr⟩ := h.rt; exact hr.seq
theorem find_512 {l : Qs} (h : ∀ g ∈ l, g.2.length = 512) {i : Int} {b : List UInt8} (hb : Tl.find l i = some b) : b.length = 512 := by
  unfold Tl.find at hb
  obtain ⟨g, hg, rfl⟩ := Option.map_eq_some_iff.1 hb
  exact h g (List.mem_of_find?_eq_some hg)
/-- the map can be read while the disk is up -/
theorem map_ok {t : Tl} {j : Jl} {m : Nat} (hf : FewM j.p m) (ho : j.p.off = false) (hl : ∀ g ∈ t.l, g.2.length = 512) : t.rdE j 49 = 0 ∧ (mapL t j).length = 512 := by
  have hn := hf.n0
  have ha : areaI j.p.n 49 = true := by unfold areaI; exact decide_eq_true (by omega)
  unfold mapL Tl.rdE Tl.rdB
  cases hq : Tl.find t.l 49 with
  | some b => exact ⟨rfl, find_512 hl hq⟩
  | none =>
    have hi : inR j.p.n 49 = true := by unfold inR; exact decide_eq_true (by omega)
    simp only [ha]
    refine ⟨?_, ?_⟩
    · unfold Pl.rdE Pl.stE; rw [ho, hi]; rfl
    · unfold Pl.rdB; rw [ho, hi]; exact put512 _ _ hf.st (fun g hg => (hf.at_ g hg).2) _
theorem tlWrite_512 {t : Tl} {j : Jl} {i : Int} {b : List UInt8} (h : ∀ g ∈ t.l, g.2.length = 512) : ∀ g ∈ (t.write j i b).l, g.2.length = 512 := by
  unfold Tl.write
  split
  · rename_i hz
    intro g hg
    rcases putQ_mem _ _ _ g hg with e | e
    · exact h g e
    · rw [e]
      unfold Tl.wrE at hz
      split at hz
      · cases hz
      · split at hz
        · cases hz
        · split at hz
          · cases hz
          · rename_i hb; exact Classical.not_not.1 hb
  · exact h
set_option maxHeartbeats 1000000 in
theorem refBits11 {w : World} {R U K D base m : Nat} {t : Tl} {j : Jl} (h : RefS w R U K D base m t j) (hm : m ≤ 100000) :
    Calls Tryz.prog 45 #[.pointer (some ⟨R, 0, none⟩)] w fun e w' => ∃ v, e = .returned v ∧ OwnB w' w.heap.size v (mapL t j) ∧ Below w.heap.size w w' := by
  obtain ⟨vL, ls, hr⟩ := h.rt
  have c0 : w.cell? ⟨R, 0, none⟩ = some (.pointer (some ⟨U, 0, none⟩)) := h.blk.cell 0
  have HRd := hr.read hm 49
  clear hr h
  go_enter Tryz.func45, Tryz.ntmps45
  go_wp2_with (go_at_call 96; refine HRd.mono ?_; rintro e y1 ⟨v, rfl, hv, hb⟩)
  go_ret
  exact ⟨_, rfl, hv, hb⟩
/-- Read -/
def spRdE (t : Tl) (j : Jl) (i : Int) : Int := if i < 50 then 50 else t.rdE j i
def spRdB (t : Tl) (j : Jl) (i : Int) : List UInt8 := if i < 50 then [] else t.rdB j i
/-- Write -/
def spWrE (t : Tl) (j : Jl) (i : Int) (b : List UInt8) : Int := if i < 50 then 50 else t.wrE j i b
def spWr (t : Tl) (j : Jl) (i : Int) (b : List UInt8) : Tl := if i < 50 then t else t.write j i b
theorem RefS.turn {w w' : World} {R U K D base m : Nat} {t : Tl} {j : Jl} (h : RefS w R U K D base m t j) {i : Int} {b : List UInt8} (hr : ∃ vL ls, RefT w' U K D base m vL ls (t.write j i b) j) (hk : KeepT CT w w') : RefS w' R U K D base m (t.write j i b) j := ⟨hk.blk h.blk (by decide), h.low, hr, tlWrite_512 h.lens⟩
theorem RefS.writeV {w : World} {R U K D base m : Nat} {t : Tl} {j : Jl} {base' : Nat} {v : Value} {b : List UInt8} (h : RefS w R U K D base m t j) (i : Int) (hv : OwnB w base' v b) :
    Calls Tryz.prog 108 #[.pointer (some ⟨U, 0, none⟩), .int .i64 i, v] w fun e w' => e = .returned (.int .i64 (t.wrE j i b)) ∧ Hid (RefS w' R U K D base m (t.write j i b) j) ∧ Hid (KC base w w') := by
  obtain ⟨vL, ls, hr⟩ := h.rt
  refine (refWriteV hr i hv).mono ?_
  rintro e w' ⟨h1, h2, h3, h4⟩
  exact ⟨h1, h.turn h2.out h3.out, ⟨h3.out, h4.out⟩⟩
set_option maxHeartbeats 1000000 in
theorem refSWrite11 {w : World} {R U K D base m : Nat} {t : Tl} {j : Jl} (h : RefS w R U K D base m t j) (i : Int) {base' : Nat} {v : Value} {b : List UInt8} (hv : OwnB w base' v b) :
    Calls Tryz.prog 54 #[.pointer (some ⟨R, 0, none⟩), .int .i64 i, v] w fun e w' => e = .returned (.int .i64 (spWrE t j i b)) ∧ Hid (RefS w' R U K D base m (spWr t j i b) j) ∧ Hid (KC base w w') := by
  have c0 : w.cell? ⟨R, 0, none⟩ = some (.pointer (some ⟨U, 0, none⟩)) := h.blk.cell 0
  have HWr := h.writeV i hv
  have HS := mkHid h
  have HL := mkHid h.lo
  obtain ⟨ba, bc, rfl, _⟩ := hv.isB
  clear h hv
  by_cases hi : i < 50
  · have HE : Hid ((50 : Int) = spWrE t j i b ∧ t = spWr t j i b) := by unfold Hid spWrE spWr; rw [if_pos hi, if_pos hi]; exact ⟨rfl, rfl⟩
    clear HWr
    go_enter Tryz.func54, Tryz.ntmps54
    go_wp2_with fail
    go_ret
    exact ⟨ret_i HE.out.1, by rw [← HE.out.2]; exact HS, KC.of_below (Below.refl _ _) HL.out⟩
  · have HE : Hid (t.wrE j i b = spWrE t j i b ∧ t.write j i b = spWr t j i b) := by unfold Hid spWrE spWr; rw [if_neg hi, if_neg hi]; exact ⟨rfl, rfl⟩
    go_enter Tryz.func54, Tryz.ntmps54
    go_wp2_with (go_at_call 108; refine HWr.mono ?_; rintro e y1 ⟨rfl, hs, hk⟩)
    go_ret
    exact ⟨ret_i HE.out.1, by rw [← HE.out.2]; exact hs, hk⟩
set_option maxHeartbeats 1000000 in
/-- Left -/
theorem refLeft11 {w : World} {R U K D base m : Nat} {t : Tl} {j : Jl} (h : RefS w R U K D base m t j) :
    Calls Tryz.prog 51 #[.pointer (some ⟨R, 0, none⟩)] w fun e w' => e = .returned (.int .i64 (48 - (t.l.length : Int))) ∧ Below w.heap.size w w' := by
  obtain ⟨vL, ls, hr⟩ := h.rt
  have c0 : w.cell? ⟨R, 0, none⟩ = some (.pointer (some ⟨U, 0, none⟩)) := h.blk.cell 0
  obtain ⟨aL, nl, cL, hnl, rfl, c1⟩ := hr.cellL
  have hl := hr.len
  rw [← hnl] at hl
  have HN := mkHid hnl
  clear hr h hnl
  go_enter Tryz.func51, Tryz.ntmps51
  go_wp2_with fail
  go_ret
  exact ⟨ret_i (by rw [HN.out]), Below.refl _ _⟩
end Go.Proofs.YthjdmfbengpepaaGreat
