/- The document's transaction beside the program's: what each call leaves. -/
import Derived.Test.YtacnoagjcacniaaGreatJs5
import Derived.Test.YtacnoagjcacniaaGreatJrC
import Derived.Test.YtacnoagjcacniaaGreatJrE
namespace Go.Proofs.YtacnoagjcacniaaGreat
open Go.RowKit

theorem own_keepE {E : Nat → Prop} {w w' : World} (h : KeepE E w w') {e : TypeId} {base size n : Nat} {v : Value} {xs : List Value} (ho : w.ownsRow base e size v n xs) (hE : ∀ k, v.ownBlock = some k → ¬ E k) : w'.ownsRow base e size v n xs := by
  refine ⟨ho.1, ?_⟩
  rcases ho.2 with h2 | ⟨g, cap, cur, h3, h4, h5, h6⟩
  · exact .inl h2
  · refine .inr ⟨g, cap, cur, h3, h4, (h.same g (Array.getElem?_eq_some_iff.1 h5).1 (hE g (by rw [h3]; rfl))).trans h5, h6⟩
theorem own_ty {w : World} {e : TypeId} {base size n : Nat} {v : Value} {xs : List Value} (ho : w.ownsRow base e size v n xs) {k : Nat} (hk : v.ownBlock = some k) : ∃ c fz, w.heap[k]? = some (.cells c e fz) := by
  rcases ho.2 with h2 | ⟨g, cap, cur, h3, h4, h5, h6⟩
  · rw [h2.1] at hk; cases hk
  · rw [h3] at hk
    have e2 : g = k := by simpa [Value.ownBlock] using hk
    subst e2
    exact ⟨_, _, h5⟩
theorem blk_off {w : World} {A t u : Nat} {cs : List Value} (hA : Blk w A t cs) {k : Nat} {c : Array Value} {fz : Nat × Nat} (hk : w.heap[k]? = some (.cells c u fz)) (hne : t ≠ u) : k ≠ A := fun e => by
  subst e
  have := Option.some.inj (Eq.trans (Eq.symm hk) hA)
  injection this with _ h2 _
  exact hne h2.symm
/-- the document's side of a transaction -/
structure RefT (w : World) (U K D base m : Nat) (vL : Value) (ls : List Wg) (t : Tl) (j : Jl) : Prop where
  rt : RtAt w U K base vL ls t.over
  ls : ls.map plW = t.l
  rj : RjAt w K D j.seq j.dead
  rk : IsRk (fun k => vL.ownBlock = some k) w D base m j.p
  few : FewM j.p m
  len : t.l.length ≤ 48
  at_ : ∀ g ∈ t.l, g.1 < j.p.n
  lowU : base ≤ U
  lowK : base ≤ K
  seq : j.seq < 18446744073709551616
theorem RefT.on {w w' : World} {U K D base m : Nat} {vL : Value} {ls : List Wg} {t : Tl} {j : Jl} (h : RefT w U K D base m vL ls t j) (hb : Below w.heap.size w w') : RefT w' U K D base m vL ls t j :=
  { h with rt := ⟨h.rt.blk.on hb, h.rt.gs.on hb⟩, rj := Blk.on h.rj hb, rk := h.rk.on hb }
theorem GsAt.keepO {w w' : World} {base : Nat} {v : Value} {l : List Wg} (h : GsAt w base v l) {us : List TypeId} (hk : KeepO us w w') (h1 : 102 ∈ us) (h2 : 5 ∈ us) : GsAt w' base v l := ⟨own_keepO hk h.own h1, fun g hg => ⟨(h.bys g hg).1, own_keepO hk (h.bys g hg).2 h2⟩⟩
theorem RefT.keepP {w w' : World} {U K D base m : Nat} {vL : Value} {ls : List Wg} {t : Tl} {j : Jl} (h : RefT w U K D base m vL ls t j) (hk : KP base w w') : RefT w' U K D base m vL ls t j :=
  { h with rt := ⟨hk.o.blk h.rt.blk (by decide), h.rt.gs.keepO hk.o (by decide) (by decide)⟩, rj := hk.o.blk h.rj (by decide), rk := h.rk.keepO hk.o (by decide) (by decide) (by decide) }
theorem RefT.low {w : World} {U K D base m : Nat} {vL : Value} {ls : List Wg} {t : Tl} {j : Jl} (h : RefT w U K D base m vL ls t j) : base ≤ w.heap.size := h.rk.low
/-- a new one -/
theorem RefT.begin_ {X : Nat → Prop} {w w' : World} {U K D base m : Nat} {j : Jl} (hU : Blk w' U 45 [.pointer (some ⟨K, 0, none⟩), .slice none 0 0, .bool false]) (hb : Below w.heap.size w w') (hlU : base ≤ U) (hlK : base ≤ K) (rj : RjAt w K D j.seq j.dead) (rk : IsRk X w D base m j.p) (few : FewM j.p m) (seq : j.seq < 18446744073709551616) : RefT w' U K D base m (.slice none 0 0) [] ⟨[], false⟩ j :=
  ⟨⟨hU, ⟨OwnG.nil _ _ _, fun g hg => (by cases hg)⟩⟩, rfl, Blk.on rj hb, (rk.on hb).wider (w := w') (Below.refl _ _) (fun k hk => (by cases hk)), few, Nat.zero_le _, fun g hg => (by cases hg), hlU, hlK, seq⟩
theorem putQ_mem (l : Qs) (i : Nat) (b : List UInt8) : ∀ g ∈ putQ l i b, g ∈ l ∨ g = (i, b) := by
  induction l with
  | nil => intro g hg; exact .inr (List.mem_singleton.1 hg)
  | cons x l ih =>
    intro g hg
    rw [putQ] at hg
    split at hg
    · rcases List.mem_cons.1 hg with e | e
      · exact .inl (by rw [e]; simp)
      · rcases ih g e with h | h
        · exact .inl (List.mem_cons_of_mem _ h)
        · exact .inr h
    · split at hg
      · rcases List.mem_cons.1 hg with e | e
        · exact .inr e
        · exact .inl (List.mem_cons_of_mem _ e)
      · rcases List.mem_cons.1 hg with e | e
        · exact .inr e
        · exact .inl e
theorem tlWrite_at (t : Tl) (j : Jl) (i : Int) (b : List UInt8) (h : ∀ g ∈ t.l, g.1 < j.p.n) : ∀ g ∈ (t.write j i b).l, g.1 < j.p.n := by
  unfold Tl.write
  split
  · rename_i hz
    intro g hg
    rcases putQ_mem _ _ _ g hg with e | e
    · exact h g e
    · rw [e]
      unfold Tl.wrE at hz
      split at hz
      · cases hz
      · split at hz
        · cases hz
        · rename_i ha
          have ha2 : areaI j.p.n i = true := by cases hq : areaI j.p.n i with | true => rfl | false => exact absurd hq ha
          unfold areaI at ha2
          have := of_decide_eq_true ha2
          show i.toNat < j.p.n
          omega
  · exact h
/-- Write at the document's -/
theorem RefT.write {w : World} {U K D base m : Nat} {vL : Value} {ls : List Wg} {t : Tl} {j : Jl} (h : RefT w U K D base m vL ls t j) (i : Int) {ba : Option Addr} {bc : Nat} {b : List UInt8} (hB : IsB w ba b.length bc b) :
    Calls Tryz.prog 17 #[.pointer (some ⟨U, 0, none⟩), .int .i64 i, .slice ba b.length bc] w fun e w' => e = .returned (.int .i64 (t.wrE j i b)) ∧ (∃ vL' ls', RefT w' U K D base m vL' ls' (t.write j i b) j) ∧ KeepT CT w w' ∧ Below base w w' := by
  obtain ⟨tl, over⟩ := t
  obtain ⟨p, seq, dead⟩ := j
  have hls := h.ls
  dsimp only at hls
  subst hls
  refine (refTWrite10 U K D base m seq dead over vL ls p i ba bc b w h.rt h.lowU h.rj h.rk (by have := h.len; simpa using this) hB).mono ?_
  rintro e w' ⟨he, ⟨vL', ls', hrt, hls', hown⟩, hE, hbel⟩
  have hTy : ∀ k, (k = U ∨ vL.ownBlock = some k) → k < w.heap.size → ∃ c t fz, w.heap[k]? = some (.cells c t fz) ∧ t ∈ [45, 102] := fun k hk _ => by
    rcases hk with rfl | hk
    · exact ⟨_, _, _, h.rt.blk, by simp⟩
    · obtain ⟨c, fz, h1⟩ := own_ty h.rt.gs.own hk
      exact ⟨c, _, fz, h1, by simp⟩
  have hT : KeepT [45, 102] w w' := hE.toT hTy
  have hrk := h.rk
  obtain ⟨r, vS, vC, a, bq, c, d, e2, f⟩ := hrk
  have hUlt := h.rt.blk.lt
  have nS : ∀ k, (vS.ownBlock = some k ∨ vC.ownBlock = some k) → ¬ (k = U ∨ vL.ownBlock = some k) := fun k hk hn => by
    have hw : ∃ c fz, w.heap[k]? = some (.cells c 102 fz) := by
      rcases hk with hk | hk
      · exact own_ty a.ownS hk
      · exact own_ty a.ownC hk
    obtain ⟨c1, fz, h1⟩ := hw
    rcases hn with hn | hn
    · exact blk_off h.rt.blk h1 (by decide) hn
    · exact e2 k hk hn
  have hlt : ∀ k, (vS.ownBlock = some k ∨ vC.ownBlock = some k) → k < w.heap.size := fun k hk => by
    rcases hk with hk | hk
    · exact (a.ownS.blk k hk).2
    · exact (a.ownC.blk k hk).2
  have hIs : IsRD w' D base r vS vC := ⟨hT.blk a.blk (by decide), a.low, own_keepE hE a.ownS (fun k hk => nS k (.inl hk)), own_keepE hE a.ownC (fun k hk => nS k (.inr hk)), a.bS.keep hT (by decide), a.bC.keep hT (by decide), a.apart⟩
  have hov : (Tl.write ⟨ls.map plW, over⟩ ⟨p, seq, dead⟩ i b).over = over := tlWrite_over _ _ _ _
  refine ⟨he, ⟨vL', ls', ⟨by rw [hov]; exact hrt, hls', hT.blk h.rj (by decide), ⟨r, vS, vC, hIs, bq, c, fun hx => ?_, fun k hk hx => ?_, fun k hx => (hrt.gs.own.blk k hx).2⟩, h.few, tlWrite_len _ _ _ _ h.len, tlWrite_at _ _ _ _ h.at_, h.lowU, h.lowK, h.seq⟩⟩, hT.wide (by decide), hbel⟩
  · rcases hown D hx with h1 | h1
    · exact d h1
    · have := a.blk.lt; omega
  · rcases hown k hx with h1 | h1
    · exact e2 k hk h1
    · have := hlt k hk; omega
/-- Read at the document's -/
theorem RefT.read {w : World} {U K D base m : Nat} {vL : Value} {ls : List Wg} {t : Tl} {j : Jl} (h : RefT w U K D base m vL ls t j) (hm : m ≤ 100000) (i : Int) :
    Calls Tryz.prog 20 #[.pointer (some ⟨U, 0, none⟩), .int .i64 i] w fun e w' => ∃ v, e = .returned (.tuple #[v, .int .i64 (t.rdE j i)]) ∧ OwnB w' w.heap.size v (t.rdB j i) ∧ Below w.heap.size w w' := by
  obtain ⟨tl, over⟩ := t
  obtain ⟨p, seq, dead⟩ := j
  have hls := h.ls
  dsimp only at hls
  subst hls
  exact refTRead10 U K D base m seq dead over vL ls p i w h.rt h.rj h.rk hm (by have := h.len; simp at this; omega)
theorem cmJ_n (t : Tl) (j : Jl) : (cmJ t j).p.n = j.p.n := by
  have hA : (cmA t j).1.n = j.p.n := by unfold cmA; exact steps_n _ _
  have hB : (cmB t j).1.n = j.p.n := by
    unfold cmB
    split
    · exact (steps_n _ _).trans hA
    · exact hA
  have hC : (cmC t j).1.n = j.p.n := by
    unfold cmC
    split
    · exact (steps_n _ _).trans hB
    · exact hB
  unfold cmJ
  split
  · rfl
  split
  · rfl
  split
  · exact hC
  · exact hC
theorem cmJ_seq (t : Tl) (j : Jl) (h : j.seq < 18446744073709551616) : (cmJ t j).seq < 18446744073709551616 := by
  unfold cmJ
  split
  · exact h
  split
  · exact h
  split
  · show (j.seq + 1) % 18446744073709551616 < _
    omega
  · exact h
/-- Commit at the document's -/
theorem RefT.commit {w : World} {U K D base m : Nat} {vL : Value} {ls : List Wg} {t : Tl} {j : Jl} (h : RefT w U K D base m vL ls t j) (hm : m ≤ 80000) :
    Calls Tryz.prog 23 #[.pointer (some ⟨U, 0, none⟩)] w fun e w' => e = .returned (.int .i64 (cmE t j)) ∧ RefT w' U K D base (m + 150) vL ls (cmT t j) (cmJ t j) ∧ KeepT CT w w' ∧ Below base w w' := by
  obtain ⟨tl, over⟩ := t
  obtain ⟨p, seq, dead⟩ := j
  have hls := h.ls
  dsimp only at hls
  subst hls
  have hn4 := h.few.n
  refine (refCommit10 U K D base m seq dead over vL ls p w h.rt h.rj h.rk (fun _ hk => hk) h.lowU h.lowK (fun hx => ?_) (fun hx => ?_) (by have := h.len; simpa using this) (fun g hg => ?_) hm).mono ?_
  · obtain ⟨c, fz, h1⟩ := own_ty h.rt.gs.own hx
    exact blk_off h.rt.blk h1 (by decide) rfl
  · obtain ⟨c, fz, h1⟩ := own_ty h.rt.gs.own hx
    exact blk_off h.rj h1 (by decide) rfl
  · have h1 : g.at_ < p.n := h.at_ (plW g) (List.mem_map_of_mem hg)
    have h2 : p.n ≤ 4096 := hn4
    omega
  · rintro e w' ⟨he, hc⟩
    exact ⟨he, ⟨hc.rt, by rw [cmT_l], hc.rj, hc.k, (h.few.commit (j := ⟨p, seq, dead⟩) (t := ⟨ls.map plW, over⟩) h.len).more (by omega), by rw [cmT_l]; exact h.len, by rw [cmT_l, cmJ_n]; exact h.at_, h.lowU, h.lowK, cmJ_seq _ _ h.seq⟩, hc.keep, hc.bel⟩
end Go.Proofs.YtacnoagjcacniaaGreat
