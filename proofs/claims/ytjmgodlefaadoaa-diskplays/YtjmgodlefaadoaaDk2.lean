/- The document's disk in a world; New, is, last. -/
import Derived.Test.YtjmgodlefaadoaaDk1
import Derived.Test.YtjmgodlefaadoaaRet
namespace Go.Proofs.Ytjmgodlefaadoaa
open Go.RowKit

/-- how the document's disk stands -/
structure Rd where
  n : Nat
  S : List Wg
  C : List Wg
  off : Bool
  armed : Bool
  left : Nat
  wr : Nat
  fl : Nat
def rdc (r : Rd) (vS vC : Value) : List Value := [.int .i64 (r.n : Int), vS, vC, .bool r.off, .bool r.armed, .int .i64 (r.left : Int), .int .u64 (r.wr : Int), .int .u64 (r.fl : Int)]
/-- the bytes of writes, each in a block of its own -/
def Bys (w : World) (base : Nat) (l : List Wg) : Prop := ∀ g ∈ l, g.b.length = 512 ∧ OwnB w base (.slice g.ad g.b.length g.cap) g.b
structure IsRD (w : World) (D base : Nat) (r : Rd) (vS vC : Value) : Prop where
  blk : Blk w D 41 (rdc r vS vC)
  low : base ≤ D
  ownS : OwnG 77 w base vS r.S
  ownC : OwnG 77 w base vC r.C
  bS : Bys w base r.S
  bC : Bys w base r.C
  apart : ∀ k, vS.ownBlock = some k → vC.ownBlock ≠ some k
theorem own_keep {ts : List TypeId} {w w' : World} (h : KeepT ts w w') {e : TypeId} {base size n : Nat} {v : Value} {xs : List Value} (ho : w.ownsRow base e size v n xs) (he : e ∉ ts) : w'.ownsRow base e size v n xs := by
  refine ⟨ho.1, ?_⟩
  rcases ho.2 with h2 | ⟨g, cap, cur, h3, h4, h5, h6⟩
  · exact .inl h2
  · exact .inr ⟨g, cap, cur, h3, h4, h.same g _ h5 (fun c t fz e1 => by injection e1 with _ h7 _; rw [← h7]; exact he), h6⟩
theorem Bys.keep {ts : List TypeId} {w w' : World} (h : KeepT ts w w') {base : Nat} {l : List Wg} (hb : Bys w base l) (he : 5 ∉ ts) : Bys w' base l := fun g hg => ⟨(hb g hg).1, own_keep h (hb g hg).2 he⟩
theorem Bys.mem {w : World} {base : Nat} {l m : List Wg} (hb : Bys w base l) (h : ∀ g ∈ m, g ∈ l) : Bys w base m := fun g hg => hb g (h g hg)
theorem Bys.append {w : World} {base : Nat} {l m : List Wg} (h1 : Bys w base l) (h2 : Bys w base m) : Bys w base (l ++ m) := fun g hg => (List.mem_append.1 hg).elim (h1 g) (h2 g)
theorem IsRD.keep {ts : List TypeId} {w w' : World} {D base : Nat} {r : Rd} {vS vC : Value} (h : IsRD w D base r vS vC) (hk : KeepT ts w w') (h1 : 41 ∉ ts) (h2 : 77 ∉ ts) (h3 : 5 ∉ ts) : IsRD w' D base r vS vC :=
  ⟨hk.blk h.blk h1, h.low, own_keep hk h.ownS h2, own_keep hk h.ownC h2, h.bS.keep hk h3, h.bC.keep hk h3, h.apart⟩
theorem IsRD.on {w w' : World} {D base : Nat} {r : Rd} {vS vC : Value} (h : IsRD w D base r vS vC) (hb : Below w.heap.size w w') : IsRD w' D base r vS vC :=
  h.keep (ts := []) (KeepT.of_below hb) (by simp) (by simp) (by simp)

set_option maxRecDepth 20000 in
theorem refNew9 (z : Int) (w : World) :
    Calls Try.prog 9 #[.int .i64 z] w fun e w' => (if 64 ≤ z ∧ z ≤ 4096 then e = .returned (.pointer (some ⟨w.heap.size, 0, none⟩)) ∧ IsRD w' w.heap.size w.heap.size ⟨z.toNat, [], [], false, false, 0, 0, 0⟩ (.slice none 0 0) (.slice none 0 0) else e = .returned (.pointer none)) ∧ Below w.heap.size w w' := by
  by_cases h1 : z < 64
  · have d1 : decide (z < 64) = true := decide_eq_true h1
    have HN : Hid (¬ (64 ≤ z ∧ z ≤ 4096)) := fun h => by omega
    go_enter Try.func9, Try.ntmps9
    go_wp2
    go_ret
    exact ⟨by first | rfl | (rw [if_neg HN.out]; rfl), Below.refl _ _⟩
  · have d1 : decide (z < 64) = false := decide_eq_false h1
    by_cases h2 : 4096 < z
    · have d2 : decide (4096 < z) = true := decide_eq_true h2
      have HN : Hid (¬ (64 ≤ z ∧ z ≤ 4096)) := fun h => by omega
      go_enter Try.func9, Try.ntmps9
      go_wp2
      go_ret
      exact ⟨by first | rfl | (rw [if_neg HN.out]; rfl), Below.refl _ _⟩
    · have d2 : decide (4096 < z) = false := decide_eq_false h2
      have HN : Hid (64 ≤ z ∧ z ≤ 4096) := ⟨by omega, by omega⟩
      have HZ : Hid (((z.toNat : Nat) : Int) = z) := by unfold Hid; omega
      go_enter Try.func9, Try.ntmps9
      go_wp2
      go_ret
      refine ⟨?_, (Below.refl _ w).alloc (Nat.le_refl _) _⟩
      (try rw [if_pos HN.out])
      refine ⟨rfl, ⟨?_, Nat.le_refl _, OwnG.nil _ _ _, OwnG.nil _ _ _, fun g hg => (by cases hg), fun g hg => (by cases hg), fun k hk => (by simp [Value.ownBlock] at hk)⟩⟩
      refine Blk.newAt w _ _ _ _ rfl ?_
      unfold rdc
      rw [HZ.out]
      rfl

set_option maxRecDepth 20000 in
theorem refIs9 (D n : Nat) (i : Int) (w : World) (hc : w.cell? ⟨D, 0, none⟩ = some (.int .i64 (n : Int))) :
    Calls Try.prog 39 #[.pointer (some ⟨D, 0, none⟩), .int .i64 i] w fun e w' => e = .returned (.bool (decide (0 ≤ i ∧ i < n))) ∧ w' = w := by
  by_cases h0 : 0 ≤ i
  · have d0 : decide (0 ≤ i) = true := decide_eq_true h0
    have HV : Hid (decide (i < (n : Int)) = decide (0 ≤ i ∧ i < n)) := by
      unfold Hid; congr 1; exact propext ⟨fun h => ⟨h0, h⟩, fun h => h.2⟩
    go_enter Try.func39, Try.ntmps39
    go_wp2
    go_ret
    exact ⟨ret_b (by first | rfl | exact HV.out), rfl⟩
  · have d0 : decide (0 ≤ i) = false := decide_eq_false h0
    have h0' : i < 0 := by omega
    have HV : Hid (false = decide (0 ≤ i ∧ i < n)) := by unfold Hid; exact (decide_eq_false (fun h => h0 h.1)).symm
    go_enter Try.func39, Try.ntmps39
    go_wp2
    go_ret
    exact ⟨ret_b (by first | rfl | exact HV.out), rfl⟩

theorem lastW_drop {l : List Wg} {k i : Nat} (hk : k < l.length) : lastW (l.drop k) i = match lastW (l.drop (k + 1)) i with | some b => some b | none => if (nthW l k).at_ = i then some (nthW l k).b else none := by
  rw [List.drop_eq_getElem_cons hk, lastW, nthW_eq l k hk]
  cases lastW (l.drop (k + 1)) i <;> rfl
theorem lastW_found {l : List Wg} {k i : Nat} (hk : k < l.length) (h : lastW (l.drop (k + 1)) i = none) (ha : (nthW l k).at_ = i) : lastW l i = some (nthW l k).b := by
  have h2 := lastW_drop (l := l) (i := i) hk
  rw [h, if_pos ha] at h2
  have h3 := lastW_append (l.take k) (l.drop k) i
  rw [List.take_append_drop, h2] at h3
  exact h3
theorem lastW_more {l : List Wg} {k i : Nat} (hk : k < l.length) (h : lastW (l.drop (k + 1)) i = none) (ha : ¬ (nthW l k).at_ = i) : lastW (l.drop k) i = none := by
  have h2 := lastW_drop (l := l) (i := i) hk
  rw [h, if_neg ha] at h2
  exact h2

set_option maxRecDepth 20000 in
set_option maxHeartbeats 1000000 in
theorem refLast9 (v : Value) (l : List Wg) (base i : Nat) (w : World) (ho : OwnG 77 w base v l) (hb : Bys w base l) (hl : l.length ≤ 1000000000) :
    Calls Try.prog 40 #[v, .int .i64 (i : Int)] w fun e w' => ∃ v', e = .returned (.tuple #[v', .bool (lastW l i).isSome]) ∧ OwnB w' w.heap.size v' ((lastW l i).getD zero512) ∧ Below w.heap.size w w' := by
  obtain ⟨a, cap, rfl, hle, hmx, hnl, hcs⟩ := ho.form
  obtain ⟨n, hn⟩ : ∃ n, n = l.length := ⟨_, rfl⟩
  have HN : Hid (n = l.length) := hn
  rw [← hn] at hle hcs hl ⊢
  have HCs : Hid (0 < n → ∃ g, a = some ⟨g, 0, none⟩ ∧ base ≤ g ∧ g < w.heap.size ∧ ∀ i, i < n → w.cell? ⟨g, i * 2, none⟩ = some (.int .i64 ((nthW l i).at_ : Int)) ∧ w.cell? ⟨g, i * 2 + 1, none⟩ = some (.slice (nthW l i).ad (nthW l i).b.length (nthW l i).cap)) := hcs
  have HB : Hid (Bys w base l) := hb
  clear hn hcs hb ho
  go_enter Try.func40, Try.ntmps40
  go_wp2
  go_loopw [6] (fun kv wr => ∃ k : Nat, k ≤ n ∧ kv = .int .i64 ((k : Int) - 1) ∧ Hid (lastW (l.drop k) i = none) ∧ wr = w) (fun kv _ => (intOf kv + 1).toNat)
  case atStart => exact ⟨n, Nat.le_refl _, by go_num, by unfold Hid; rw [HN.out, List.drop_length]; rfl, rfl⟩
  case round =>
    obtain ⟨k, hk, rfl, HD, hwr⟩ := hrel
    subst hwr
    by_cases h0 : 0 < k
    · obtain ⟨j, rfl⟩ : ∃ j, k = j + 1 := ⟨k - 1, by omega⟩
      obtain ⟨g, rfl, hg1, hg2, hc⟩ := HCs.out (by omega)
      obtain ⟨c0, c1⟩ := hc j (by omega)
      have e1 : ((j + 1 : Nat) : Int) - 1 = (j : Int) := by omega
      rw [e1]
      have hj0 : (0 : Int) ≤ (j : Int) := by omega
      have hjn : (j : Int) < (n : Int) := by omega
      have HjL : Hid (j < l.length) := by unfold Hid; rw [← HN.out]; omega
      have hmem : nthW l j ∈ l := by rw [nthW_eq l j HjL.out]; exact List.getElem_mem HjL.out
      obtain ⟨hb512, hbo⟩ := HB.out _ hmem
      by_cases ha : (nthW l j).at_ = i
      · have hai : ((nthW l j).at_ : Int) = (i : Int) := by omega
        have HF := lastW_found HjL.out HD.out ha
        obtain ⟨ab, cb, eb, hib⟩ := hbo.isB
        simp only [Value.slice.injEq] at eb
        obtain ⟨rfl, _, rfl⟩ := eb
        have HI : Hid (IsB wr (nthW l j).ad (nthW l j).b.length (nthW l j).cap (nthW l j).b) := hib
        have HR : Hid ((lastW l i).isSome = true ∧ (lastW l i).getD zero512 = (nthW l j).b) := by unfold Hid; rw [HF]; exact ⟨rfl, rfl⟩
        have h512 : (nthW l j).b.length ≤ 512 := by omega
        clear HF hib ha hc hbo
        generalize (nthW l j).ad = ad at *
        generalize (nthW l j).cap = cb at *
        generalize hbl : (nthW l j).b = bb at *
        generalize (nthW l j).at_ = at2 at *
        generalize hbn : bb.length = bn at *
        subst hb512
        clear h512
        go_wp2_with (at_builtin; go_loud (refine list_appS _ rfl (.tmp 21) (.tmp 26) rfl wr.heap.size (.slice (some ⟨wr.heap.size, 0, none⟩) 0 0) [] rfl (OwnB.empty wr _ (Nat.le_refl _)) ad 512 cb bb rfl (HI.out.below ((Below.refl _ wr).alloc (Nat.le_refl _) _) rfl) (by simp) (by simp) ?_; intro v1 w1 ho1 hg1; have D1 : Below wr.heap.size wr w1 := grow_bel ((Below.refl _ wr).alloc (Nat.le_refl _) _) (OwnB.empty wr _ (Nat.le_refl _)) hg1))
        go_ret2
        refine ⟨v1, ?_, ?_, D1⟩
        · rw [HR.out.1]; rfl
        · rw [HR.out.2]; exact ho1
      · have hai : (((nthW l j).at_ : Int) == (i : Int)) = false := by rw [beq_eq_false_iff_ne]; omega
        have hai' : ¬ ((nthW l j).at_ : Int) = (i : Int) := by omega
        have HM : Hid (lastW (l.drop j) i = none) := lastW_more HjL.out HD.out ha
        clear ha hc HD hbo
        generalize (nthW l j).at_ = at2 at *
        go_wp2
        go_roundw
        case rel => exact ⟨j, by omega, by go_num, HM, by first | rfl | trivial⟩
        case measure => first | (simp [intOf]; done) | (simp [intOf]; omega)
    · have hk0 : k = 0 := by omega
      subst hk0
      have HR : Hid (lastW l i = none) := by have := HD.out; rw [List.drop_zero] at this; exact this
      have hneg : ((0 : Nat) : Int) - 1 = -1 := by omega
      rw [hneg]
      clear HD
      go_wp2_with (at_make; refine make_full8 _ rfl _ _ rfl wr.heap.size .i64 .i64 _ _ 512 rfl rfl rfl rfl (by omega) (Nat.le_refl _) ?_; intro w1 ho1 hg1)
      go_ret2
      refine ⟨_, by rw [HR.out]; rfl, by rw [HR.out]; exact ho1, ?_⟩
      exact ⟨hg1.1, hg1.2, hg1.3, hg1.4, fun j hj => hg1.5 j hj (by simp)⟩
end Go.Proofs.Ytjmgodlefaadoaa
