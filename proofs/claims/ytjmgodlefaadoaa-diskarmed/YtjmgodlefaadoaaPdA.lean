/- The program's disk keeps the document; a nil one too. -/
import Derived.Test.YtjmgodlefaadoaaPd9
import Derived.Test.YtjmgodlefaadoaaDk18
namespace Go.Proofs.Ytjmgodlefaadoaa
open Go.RowKit

theorem IsD.on {X : Nat → Prop} {w w' : World} {P base : Nat} {p : Pl} (h : IsD X w P base p) (hb : Below w.heap.size w w') : IsD X w' P base p := by
  obtain ⟨S, vC, arm, h⟩ := h
  exact ⟨S, vC, arm, h.on hb⟩
theorem IsD.low {X : Nat → Prop} {w : World} {P base : Nat} {p : Pl} (h : IsD X w P base p) : base ≤ w.heap.size := by
  obtain ⟨S, vC, arm, h⟩ := h
  have := h.low
  have := h.blk.lt
  omega
theorem diskOK (X : Nat → Prop) : DiskOK X (IsD X) where
  keep := fun ⟨S, vC, arm, h⟩ hk => ⟨S, vC, arm, h.keep hk⟩
  new := fun z w base hb hX _ _ => codNew X z w base hb hX
  write := fun w P base p i ba bc b h hf _ _ _ hB => codWrite X w P base p i ba bc b h hf hB
  flush := fun w P base p h hf => codFlush X w P base p h hf
  arm := fun w P base p z h _ hlo hhi => codArm X P base p z w h hlo hhi
  crash := fun w P base p ka kc ks h hf hl hks => codCrash X w P base p ka kc ks h hf hl hks
  read := fun w P base p i h hf _ _ => (codRead X P base p i w h hf).mono fun e w' ⟨⟨a, c, he, hb, _⟩, hbel⟩ => ⟨⟨_, he, ⟨a, c, rfl, hb⟩⟩, h.on hbel, KeepX.of_below hbel, hbel.mono h.low⟩
  stable := fun w P base p i h hf _ _ => (codStable X P base p i w h hf).mono fun e w' ⟨⟨a, c, he, hb, _⟩, hbel⟩ => ⟨⟨_, he, ⟨a, c, rfl, hb⟩⟩, h.on hbel, KeepX.of_below hbel, hbel.mono h.low⟩
  count := fun w P base p h _ => by
    have hd := h
    obtain ⟨S, vC, arm, h⟩ := h
    exact (codCount P _ _ w (h.blk.cell 4) (h.blk.cell 5)).mono fun e w' ⟨he, hb⟩ => ⟨he, hd.on hb, KeepX.of_below hb, hb.mono hd.low⟩
  size := fun w P base p h _ => by
    have hd := h
    obtain ⟨S, vC, arm, h⟩ := h
    exact (codSize P S p.n w (h.blk.cell 0)).mono fun e w' ⟨he, hw⟩ => by subst hw; exact ⟨he, hd, KeepX.refl _ _, Below.refl _ _⟩
  down := fun w P base p h _ => by
    have hd := h
    obtain ⟨S, vC, arm, h⟩ := h
    exact (codDown P p.off w (h.blk.cell 3)).mono fun e w' ⟨he, hw⟩ => by subst hw; exact ⟨he, hd, KeepX.refl _ _, Below.refl _ _⟩
  cached := fun w P base p h hf => by
    have hd := h
    obtain ⟨S, vC, arm, h⟩ := h
    obtain ⟨a, cap, rfl, _⟩ := h.ca.form (fun g hg => (hf.at_ g hg).2)
    exact (codCached P a p.ca.length cap w (h.blk.cell 1)).mono fun e w' ⟨he, hw⟩ => by subst hw; exact ⟨he, hd, KeepX.refl _ _, Below.refl _ _⟩
theorem diskAll : DiskAll IsD where
  ok := diskOK
  readX := fun X w P base p i h hf _ _ => (codRead X P base p i w h hf).mono fun e w' ⟨⟨a, c, he, hb, hA⟩, hbel⟩ => by
    refine ⟨⟨a, c, he, hb, ?_⟩, KeepX.of_below hbel, hbel.mono h.low⟩
    obtain ⟨S, vC, arm, h⟩ := h
    have hn : ∀ k, k < w.heap.size → ¬ X k → ¬ (X k ∨ ∃ A, a = some A ∧ k = A.block) := fun k hk hx h2 => by
      rcases h2 with h2 | ⟨A, e1, e2⟩
      · exact hx h2
      · have := (hA A e1).1
        omega
    refine ⟨S, vC, arm, (h.on hbel).more _ (hn P h.blk.lt h.xP) (hn S h.st.lt h.xS) (fun k hk => hn k (World.ownsRow.lt h.ca k hk).2 (h.xC k hk)) (fun k hk => ?_)⟩
    rcases hk with hk | ⟨A, e1, e2⟩
    · exact Nat.lt_of_lt_of_le (h.xlt k hk) hbel.size
    · rw [e2]; exact (hA A e1).2

theorem nilArm (z : Int) (w : World) : Calls Try.prog 21 #[.pointer none, .int .i64 z] w fun e w' => (∃ x, e = .returned x) ∧ Below w.heap.size w w' := by
  go_enter Try.func21, Try.ntmps21
  go_wp2_with fail
  go_end0
  exact ⟨⟨_, rfl⟩, Below.refl _ _⟩
theorem nilCrash (ka : Option Addr) (kn kc : Nat) (w : World) : Calls Try.prog 18 #[.pointer none, .slice ka kn kc] w fun e w' => (∃ x, e = .returned x) ∧ Below w.heap.size w w' := by
  go_enter Try.func18, Try.ntmps18
  go_wp2_with fail
  (try simp only [Exit.inBlock, Exit.then]); refine bodyPost_ret (results_none rfl _ _ _) rfl ?_
  exact ⟨⟨_, rfl⟩, Below.refl _ _⟩
theorem nilRead (i : Int) (w : World) : Calls Try.prog 19 #[.pointer none, .int .i64 i] w fun e w' => (∃ v, e = .returned (.tuple #[v, .int .i64 2])) ∧ Below w.heap.size w w' := by
  go_enter Try.func19, Try.ntmps19
  go_wp2_with fail
  refine (codReachNil i w).mono ?_
  rintro e w1 ⟨rfl, rfl⟩
  go_wp2_with fail
  go_ret2
  exact ⟨⟨_, rfl⟩, Below.refl _ _⟩
theorem nilStable (i : Int) (w : World) : Calls Try.prog 22 #[.pointer none, .int .i64 i] w fun e w' => (∃ v, e = .returned (.tuple #[v, .int .i64 2])) ∧ Below w.heap.size w w' := by
  go_enter Try.func22, Try.ntmps22
  go_wp2_with fail
  go_ret2
  exact ⟨⟨_, rfl⟩, Below.refl _ _⟩
theorem nilCount (w : World) : Calls Try.prog 11 #[.pointer none] w fun e w' => e = .returned (.tuple #[.int .u64 0, .int .u64 0]) ∧ Below w.heap.size w w' := by
  go_enter Try.func11, Try.ntmps11
  go_wp2_with fail
  go_ret2
  exact ⟨rfl, Below.refl _ _⟩
theorem nilWrite (i : Int) (ba : Option Addr) (bn bc : Nat) (w : World) : Calls Try.prog 15 #[.pointer none, .int .i64 i, .slice ba bn bc] w fun e w' => e = .returned (.int .i64 2) ∧ Below w.heap.size w w' := by
  go_enter Try.func15, Try.ntmps15
  go_wp2_with fail
  refine (codReachNil i w).mono ?_
  rintro e w1 ⟨rfl, rfl⟩
  go_wp2_with fail
  go_ret
  exact ⟨rfl, Below.refl _ _⟩
theorem nilFlush (w : World) : Calls Try.prog 17 #[.pointer none] w fun e w' => e = .returned (.int .i64 2) ∧ Below w.heap.size w w' := by
  go_enter Try.func17, Try.ntmps17
  go_wp2_with fail
  refine (codReadyNil w).mono ?_
  rintro e w1 ⟨rfl, rfl⟩
  go_wp2_with fail
  go_ret
  exact ⟨rfl, Below.refl _ _⟩
theorem nilDown (w : World) : Calls Try.prog 13 #[.pointer none] w fun e w' => e = .returned (.bool true) ∧ Below w.heap.size w w' := by
  go_enter Try.func13, Try.ntmps13
  go_wp2_with fail
  go_ret
  exact ⟨rfl, Below.refl _ _⟩
theorem nilSize (w : World) : Calls Try.prog 12 #[.pointer none] w fun e w' => e = .returned (.int .i64 0) ∧ Below w.heap.size w w' := by
  go_enter Try.func12, Try.ntmps12
  go_wp2_with fail
  go_ret
  exact ⟨rfl, Below.refl _ _⟩
theorem nilCached (w : World) : Calls Try.prog 14 #[.pointer none] w fun e w' => e = .returned (.int .i64 0) ∧ Below w.heap.size w w' := by
  go_enter Try.func14, Try.ntmps14
  go_wp2_with fail
  go_ret
  exact ⟨rfl, Below.refl _ _⟩
theorem diskNil : DiskNil where
  arm := fun w z => nilArm z w
  crash := fun w ka kn kc => nilCrash ka kn kc w
  read := fun w i => nilRead i w
  stable := fun w i => nilStable i w
  count := nilCount
  write := fun w i ba bn bc => nilWrite i ba bn bc w
  flush := nilFlush
  down := nilDown
  size := nilSize
  cached := nilCached
end Go.Proofs.Ytjmgodlefaadoaa
