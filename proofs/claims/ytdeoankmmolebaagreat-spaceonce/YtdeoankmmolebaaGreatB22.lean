/- The document's Commit: plain; the slots. · The journal, plain: how much there may be; what steps, mounts and commits keep. -/
import Derived.Test.YtdeoankmmolebaaGreatB21
import Derived.Test.YtdeoankmmolebaaGreatJr6
namespace Go.Proofs.YtdeoankmmolebaaGreat
open Go.RowKit

/-- the next number -/
def nxt (s : Nat) : Nat := (s + 1) % 18446744073709551616
def slotQ (l : Qs) : Qs := (List.range l.length).map fun i => (1 + i, (l.getD i (0, [])).2)
/-- the three steps of a commit -/
def cmA (t : Tl) (j : Jl) : Pl × Int := (stepsP j.p (slotQ t.l), stepsE j.p (slotQ t.l))
def cmB (t : Tl) (j : Jl) : Pl × Int := if (cmA t j).2 = 0 then (stepsP (cmA t j).1 [(0, sealJ (nxt j.seq) t.l)], stepsE (cmA t j).1 [(0, sealJ (nxt j.seq) t.l)]) else cmA t j
def cmC (t : Tl) (j : Jl) : Pl × Int := if (cmB t j).2 = 0 then (stepsP (cmB t j).1 t.l, stepsE (cmB t j).1 t.l) else cmB t j
def cmE (t : Tl) (j : Jl) : Int := if t.over = true ∨ j.dead = true then 51 else if t.l = [] then 0 else (cmC t j).2
def cmJ (t : Tl) (j : Jl) : Jl :=
  if t.over = true ∨ j.dead = true then j else if t.l = [] then j else if (cmC t j).2 = 0 then ⟨(cmC t j).1, nxt j.seq, j.dead⟩ else ⟨(cmC t j).1, j.seq, true⟩
def cmT (t : Tl) (j : Jl) : Tl := if t.over = true ∨ j.dead = true then t else { t with over := true }

def slotG (ls : List Wg) (k : Nat) : List Wg := (List.range k).map fun i => ⟨1 + i, (nthG ls i).b, (nthG ls i).ad, (nthG ls i).cap⟩
theorem slotG_succ (ls : List Wg) (k : Nat) : slotG ls (k + 1) = slotG ls k ++ [⟨1 + k, (nthG ls k).b, (nthG ls k).ad, (nthG ls k).cap⟩] := by
  unfold slotG; rw [List.range_succ, List.map_append]; rfl
theorem slotG_length (ls : List Wg) (k : Nat) : (slotG ls k).length = k := by simp [slotG]
theorem slotG_map (ls : List Wg) : (slotG ls ls.length).map plW = slotQ (ls.map plW) := by
  unfold slotG slotQ
  rw [List.map_map, List.length_map]
  refine List.map_congr_left (fun i _ => ?_)
  rw [map_getD]; rfl
theorem slotG_bys {w : World} {base : Nat} {ls : List Wg} (h : Bys w base ls) (k : Nat) (hk : k ≤ ls.length) : Bys w base (slotG ls k) := fun g hg => by
  obtain ⟨i, hi, rfl⟩ := List.mem_map.1 hg
  have hil : i < ls.length := Nat.lt_of_lt_of_le (List.mem_range.1 hi) hk
  have := h (nthG ls i) (by rw [nthG_eq ls i hil]; exact List.getElem_mem hil)
  exact this
theorem slotG_at (ls : List Wg) (k : Nat) (hk : k ≤ 1000) : ∀ g ∈ slotG ls k, g.at_ ≤ 1000000 := fun g hg => by
  obtain ⟨i, hi, rfl⟩ := List.mem_map.1 hg
  have := List.mem_range.1 hi
  show 1 + i ≤ _
  omega
abbrev CT : List TypeId := [82, 98, 105, 96]
/-- how things stand in a commit -/
structure CmAt (X : Nat → Prop) (w0 w : World) (U J D base m seq : Nat) (vL : Value) (ls : List Wg) (p : Pl) : Prop where
  t : RtAt w U J base vL ls true
  j : RjAt w J D seq false
  k : IsRk X w D base m p
  keep : KeepT CT w0 w
  kb : KeepB X w0 w
  bel : Below base w0 w
theorem CmAt.on {X : Nat → Prop} {w0 w w' : World} {U J D base m seq : Nat} {vL : Value} {ls : List Wg} {p : Pl} (h : CmAt X w0 w U J D base m seq vL ls p) (hb : Below w.heap.size w w') : CmAt X w0 w' U J D base m seq vL ls p :=
  ⟨⟨h.t.blk.on hb, h.t.gs.on hb⟩, Blk.on h.j hb, h.k.on hb, h.keep.trans (KeepT.of_below hb), h.kb.trans (KeepB.of_below hb), h.bel.trans (hb.mono h.k.low)⟩
theorem GsAt.ownX {X : Nat → Prop} {w w' : World} {base : Nat} {v : Value} {l : List Wg} (h : GsAt w base v l) (hx : ∀ k, v.ownBlock = some k → X k) (hT : KeepT RD w w') (hB : KeepB X w w') : GsAt w' base v l := h.keepX hx hT hB
/-- steps of whatever writes, in a commit -/
theorem steps_cm {X : Nat → Prop} {w0 w w1 : World} {U J D base m seq : Nat} {vL : Value} {ls : List Wg} {p : Pl} (h : CmAt X w0 w U J D base m seq vL ls p) (hx : ∀ k, vL.ownBlock = some k → X k) (hb : Below w.heap.size w w1) (v : Value) (l : List Wg) (hg : GsAt w1 base v l) (hv : ∀ k, v.ownBlock = some k → X k ∨ w.heap.size ≤ k) (hm : m + l.length ≤ 90000) (ha : ∀ g ∈ l, g.at_ ≤ 1000000) :
    Calls Tryz.prog 111 #[.pointer (some ⟨D, 0, none⟩), v] w1 fun e w' => e = .returned (.int .i64 (stepsE p (l.map plW))) ∧ CmAt X w0 w' U J D base (m + l.length + 1) seq vL ls (stepsP p (l.map plW)) ∧ KeepT RD w1 w' := by
  have hXl : ∀ k, X k → k < w.heap.size := by obtain ⟨_, _, _, _, _, _, _, _, f⟩ := h.k; exact f
  have hI : IsRk (fun k => X k ∨ (w.heap.size ≤ k ∧ k < w1.heap.size)) w1 D base m p := h.k.wider hb (fun k hk => by
    rcases hk with hk | hk
    · exact ⟨.inl hk, Nat.lt_of_lt_of_le (hXl k hk) hb.size⟩
    · exact ⟨.inr hk.1, hk.2⟩)
  have h1 := h.on hb
  refine (refSteps10 D base m p v l w1 hI hm hg (fun k hk => ?_) ha).mono ?_
  · rcases hv k hk with h2 | h2
    · exact .inl h2
    · exact .inr ⟨h2, (hg.own.blk k hk).2⟩
  · rintro e w' ⟨he, hk, hT, hKB, hB⟩
    have hKX : KeepB X w1 w' := hKB.less (fun k hk => .inl hk)
    exact ⟨he, ⟨⟨hT.blk h1.t.blk (by decide), h1.t.gs.keepX hx hT hKX⟩, hT.blk h1.j (by decide), hk.thin (fun k hk => .inl hk), h1.keep.trans (hT.wide (by decide)), h1.kb.trans hKX, h1.bel.trans hB⟩, hT⟩
end Go.Proofs.YtdeoankmmolebaaGreat
namespace Go.Proofs.YtdeoankmmolebaaGreat
open Go.RowKit

/-- a disk with sectors of 512 bytes, and how much there may be -/
structure FewM (p : Pl) (m : Nat) : Prop where
  n0 : 64 ≤ p.n
  n : p.n ≤ 4096
  ca : p.ca.length ≤ m
  at_ : ∀ g ∈ p.ca, g.1 < p.n ∧ g.2.length = 512
  st : ∀ i, (p.st i).length = 512
  wr : p.wr ≤ m
  fl : p.fl ≤ m
theorem FewM.few {p : Pl} {m : Nat} (h : FewM p m) (hm : m ≤ 1000000) : FewP p := ⟨h.n, Nat.le_trans h.ca hm, h.at_, Nat.le_trans h.wr hm, Nat.le_trans h.fl hm⟩
theorem FewM.more {p : Pl} {m k : Nat} (h : FewM p m) (hm : m ≤ k) : FewM p k := ⟨h.n0, h.n, Nat.le_trans h.ca hm, h.at_, h.st, Nat.le_trans h.wr hm, Nat.le_trans h.fl hm⟩
theorem put512 (l : Qs) : ∀ (st : Nat → List UInt8), (∀ i, (st i).length = 512) → (∀ g ∈ l, g.2.length = 512) → ∀ i, (l.foldl Pl.put st i).length = 512 := by
  induction l with
  | nil => intro st h _ i; exact h i
  | cons g l ih =>
    intro st h hl i
    rw [List.foldl_cons]
    refine ih _ (fun k => ?_) (fun x hx => hl x (by simp [hx])) i
    unfold Pl.put
    split
    · exact hl g (by simp)
    · exact h k
theorem few_mnew (n : Nat) (h0 : 64 ≤ n) (h1 : n ≤ 4096) : FewM (Pl.new n) 0 := ⟨h0, h1, Nat.le_refl _, fun g hg => (by cases hg), fun i => by show zero512.length = 512; unfold zero512; rw [List.length_replicate], Nat.le_refl _, Nat.le_refl _⟩
theorem FewM.write {p : Pl} {m : Nat} (h : FewM p m) (i : Int) (b : List UInt8) : FewM (p.write i b) (m + 1) := by
  unfold Pl.write
  split
  · exact h.more (by omega)
  split
  · exact h.more (by omega)
  rename_i hi
  split
  · exact h.more (by omega)
  rename_i hb
  split
  · exact ⟨h.n0, h.n, Nat.le_succ_of_le h.ca, h.at_, h.st, Nat.le_succ_of_le h.wr, Nat.le_succ_of_le h.fl⟩
  · refine ⟨h.n0, h.n, ?_, fun g hg => ?_, h.st, Nat.succ_le_succ h.wr, Nat.le_succ_of_le h.fl⟩
    · show (p.ca ++ [(i.toNat, b)]).length ≤ m + 1
      have := h.ca
      simp; omega
    · rcases List.mem_append.1 hg with hg | hg
      · exact h.at_ g hg
      · rw [List.mem_singleton.1 hg]
        have hi2 : inR p.n i = true := by cases hq : inR p.n i with | true => rfl | false => exact absurd hq hi
        unfold inR at hi2
        have := of_decide_eq_true hi2
        exact ⟨by show i.toNat < p.n; omega, by by_cases hq : b.length = 512; exact hq; exact absurd hq hb⟩
theorem FewM.flush {p : Pl} {m : Nat} (h : FewM p m) : FewM p.flush (m + 1) := by
  unfold Pl.flush
  split
  · exact h.more (by omega)
  · exact ⟨h.n0, h.n, Nat.zero_le _, fun g hg => (by cases hg), put512 _ _ h.st (fun g hg => (h.at_ g hg).2), Nat.le_succ_of_le h.wr, Nat.succ_le_succ h.fl⟩
theorem FewM.armed {p : Pl} {m : Nat} (h : FewM p m) (z : Int) : FewM (p.armed z) m := ⟨h.n0, h.n, h.ca, h.at_, h.st, h.wr, h.fl⟩
theorem kept_mem : ∀ (l : Qs) (ks : List Bool) (g : Nat × List UInt8), g ∈ Pl.kept l ks → g ∈ l := by
  intro l
  induction l with
  | nil => intro ks g hg; simp [Pl.kept] at hg
  | cons x l ih =>
    intro ks g hg
    cases ks with
    | nil => simp [Pl.kept] at hg
    | cons k ks =>
      rw [Pl.kept] at hg
      split at hg
      · rcases List.mem_cons.1 hg with e | e
        · rw [e]; simp
        · exact List.mem_cons_of_mem _ (ih ks g e)
      · exact List.mem_cons_of_mem _ (ih ks g hg)
theorem FewM.crash {p : Pl} {m : Nat} (h : FewM p m) (ks : List Bool) : FewM (p.crash ks) m :=
  ⟨h.n0, h.n, Nat.zero_le _, fun g hg => (by cases hg), put512 _ _ h.st (fun g hg => (h.at_ g (kept_mem _ _ g hg)).2), h.wr, h.fl⟩
theorem write_n (p : Pl) (i : Int) (b : List UInt8) : (p.write i b).n = p.n := by
  unfold Pl.write; repeat' split
  all_goals rfl
theorem flush_n (p : Pl) : p.flush.n = p.n := by unfold Pl.flush; split <;> rfl
theorem steps_n : ∀ (l : Qs) (p : Pl), (stepsP p l).n = p.n := by
  intro l
  induction l with
  | nil => intro p; exact flush_n p
  | cons g l ih =>
    intro p
    rw [stepsP]
    split
    · rw [ih, write_n]
    · exact write_n _ _ _
theorem FewM.steps : ∀ (l : Qs) {p : Pl} {m : Nat}, FewM p m → FewM (stepsP p l) (m + l.length + 1) := by
  intro l
  induction l with
  | nil => intro p m h; exact h.flush
  | cons g l ih =>
    intro p m h
    rw [stepsP]
    split
    · exact (ih (h.write _ _)).more (by rw [List.length_cons]; omega)
    · exact (h.write _ _).more (by rw [List.length_cons]; omega)
theorem FewM.mount {p : Pl} {m : Nat} (h : FewM p m) : FewM (mountP p) (m + 50) := by
  unfold mountP
  split
  · exact h.more (by omega)
  · split
    · exact h.more (by omega)
    · rename_i s l he
      exact (FewM.steps l h).more (by have := (heldJ_len he).1; omega)
theorem mount_n (p : Pl) : (mountP p).n = p.n := by
  unfold mountP
  split
  · rfl
  · split
    · rfl
    · exact steps_n _ _
theorem slotQ_length (l : Qs) : (slotQ l).length = l.length := by simp [slotQ]
theorem FewM.cmA {p : Pl} {m : Nat} {t : Tl} {j : Jl} (hj : j.p = p) (h : FewM p m) (hl : t.l.length ≤ 48) : FewM (Go.Proofs.YtdeoankmmolebaaGreat.cmA t j).1 (m + 49) := by
  unfold Go.Proofs.YtdeoankmmolebaaGreat.cmA
  rw [hj]
  exact (FewM.steps _ h).more (by rw [slotQ_length]; omega)
theorem FewM.cmB {p : Pl} {m : Nat} {t : Tl} {j : Jl} (hj : j.p = p) (h : FewM p m) (hl : t.l.length ≤ 48) : FewM (Go.Proofs.YtdeoankmmolebaaGreat.cmB t j).1 (m + 51) := by
  unfold Go.Proofs.YtdeoankmmolebaaGreat.cmB
  split
  · exact (FewM.steps _ (h.cmA hj hl)).more (by rw [List.length_singleton]; omega)
  · exact (h.cmA hj hl).more (by omega)
theorem FewM.cmC {p : Pl} {m : Nat} {t : Tl} {j : Jl} (hj : j.p = p) (h : FewM p m) (hl : t.l.length ≤ 48) : FewM (Go.Proofs.YtdeoankmmolebaaGreat.cmC t j).1 (m + 100) := by
  unfold Go.Proofs.YtdeoankmmolebaaGreat.cmC
  split
  · exact (FewM.steps _ (h.cmB hj hl)).more (by omega)
  · exact (h.cmB hj hl).more (by omega)
theorem FewM.commit {m : Nat} {t : Tl} {j : Jl} (h : FewM j.p m) (hl : t.l.length ≤ 48) : FewM (cmJ t j).p (m + 100) := by
  unfold cmJ
  split
  · exact h.more (by omega)
  split
  · exact h.more (by omega)
  split
  · exact h.cmC rfl hl
  · exact h.cmC rfl hl
theorem putQ_len (l : Qs) (i : Nat) (b : List UInt8) : (putQ l i b).length ≤ l.length + 1 ∧ (hitQ l i = true → (putQ l i b).length = l.length) := by
  induction l with
  | nil => exact ⟨Nat.le_refl _, fun h => by cases h⟩
  | cons g l ih =>
    rw [putQ, hitQ]
    split
    · exact ⟨by simpa using ih.1, fun h => by simpa using ih.2 h⟩
    · split
      · exact ⟨by simp, fun _ => by simp⟩
      · rename_i h1 h2
        exact ⟨by simp, fun h => absurd (by simpa using h) h2⟩
theorem tlWrite_len (t : Tl) (j : Jl) (i : Int) (b : List UInt8) (h : t.l.length ≤ 48) : (t.write j i b).l.length ≤ 48 := by
  unfold Tl.write
  split
  · rename_i hz
    unfold Tl.wrE at hz
    split at hz
    · cases hz
    split at hz
    · cases hz
    split at hz
    · cases hz
    split at hz
    · cases hz
    · rename_i hf
      show (putQ t.l i.toNat b).length ≤ 48
      have := putQ_len t.l i.toNat b
      cases hq : hitQ t.l i.toNat with
      | true => rw [this.2 hq]; exact h
      | false =>
        have hlt : ¬ 48 ≤ t.l.length := fun e => hf ⟨hq, e⟩
        have := this.1
        omega
  · exact h
theorem tlWrite_over (t : Tl) (j : Jl) (i : Int) (b : List UInt8) : (t.write j i b).over = t.over := by unfold Tl.write; split <;> rfl
theorem cmT_l (t : Tl) (j : Jl) : (cmT t j).l = t.l := by unfold cmT; split <;> rfl
/-- a second commit says that it is over -/
theorem cmE_twice (t : Tl) (j : Jl) : cmE (cmT t j) (cmJ t j) = 51 ∧ cmJ (cmT t j) (cmJ t j) = cmJ t j := by
  by_cases h : t.over = true ∨ j.dead = true
  · have e1 : cmT t j = t := by unfold cmT; rw [if_pos h]
    have e2 : cmJ t j = j := by unfold cmJ; rw [if_pos h]
    rw [e1, e2]
    exact ⟨by unfold cmE; rw [if_pos h], e2⟩
  · have e1 : (cmT t j).over = true := by unfold cmT; rw [if_neg h]
    exact ⟨by unfold cmE; rw [if_pos (.inl e1)], by generalize cmJ t j = k; unfold cmJ; rw [if_pos (.inl e1)]⟩

/-- while nothing is to go wrong, steps go through -/
theorem steps_ok : ∀ (l : Qs) (p : Pl), p.off = false → p.arm = none → (∀ g ∈ l, g.1 < p.n ∧ g.2.length = 512) →
    stepsE p l = 0 ∧ stepsP p l = ⟨p.n, (p.ca ++ l).foldl Pl.put p.st, [], false, none, p.wr + l.length, p.fl + 1⟩ := by
  intro l
  induction l with
  | nil =>
    intro p h0 h1 _
    obtain ⟨n, st, ca, off, arm, wr, fl⟩ := p
    dsimp only at h0 h1
    subst h0 h1
    refine ⟨rfl, ?_⟩
    rw [stepsP, Pl.flush]
    simp
  | cons g l ih =>
    intro p h0 h1 hg
    have hg0 := hg g (by simp)
    have hin : inR p.n (g.1 : Int) = true := by unfold inR; exact decide_eq_true ⟨by omega, by omega⟩
    have hw : p.wrE (g.1 : Int) g.2 = 0 := by unfold Pl.wrE; rw [h0, hin, h1]; simp [hg0.2]
    have hp : p.write (g.1 : Int) g.2 = { p with arm := none, wr := p.wr + 1, ca := p.ca ++ [g] } := by
      unfold Pl.write; rw [h0, hin, h1]; simp [hg0.2]
    obtain ⟨h2, h3⟩ := ih { p with arm := none, wr := p.wr + 1, ca := p.ca ++ [g] } h0 rfl (fun x hx => hg x (by simp [hx]))
    rw [stepsE, stepsP, if_pos hw, if_pos hw, hp]
    refine ⟨h2, h3.trans ?_⟩
    simp [Nat.add_assoc, Nat.add_comm 1]
end Go.Proofs.YtdeoankmmolebaaGreat
