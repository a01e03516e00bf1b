/- What the frame tells of a slice of parts that came in. -/
import Derived.Test.YtbojhfphgiimnaaBulk
import Derived.Test.YtbojhfphgiimnaaBackW
import Derived.Deep.SlicePairs
namespace Go.Proofs.Ytbojhfphgiimnaa
open Go.ChangeShapes Go.WideShapes

theorem bulk_mem {H : Type} {d : DataW H} : ∀ {l : List (DataW H)}, d ∈ l → Rows.uptoBulk d ≤ Rows.uptoBulkAll l
  | [], h => by cases h
  | x :: l, h => by
    simp only [Rows.uptoBulkAll]
    rcases List.mem_cons.1 h with rfl | h
    · omega
    · have := bulk_mem h
      omega

theorem cellsPt : Try.prog.cellsOf 50 = 3 := by kernel_rfl

theorem open_part {H : Type} {enc : TypeId × Value → H} {W : World} {n : Nat} {cs : List Value} {d : DataW H} {pl : List MemPlace} (h : DataW.trod enc Try.prog W 0 (fun _ => true) true n 50 cs = some (d, pl)) :
    ∃ (k : Int) (m : Nat) (b : List UInt8) (a : Option Addr) (cap : Nat), cs = [.int .i64 k, .int .u64 (m : Int), .slice a b.length cap] ∧ m < 18446744073709551616 ∧ b.length ≤ Rows.uptoBulk d ∧ IsB W a b.length cap b := by
  obtain ⟨xs, k, hk, hxy, hcl, hxl, hf⟩ := DataW.trod_struct Try.underlying50 h
  rw [cellsPt] at hcl
  match xs, hxl, cs, hcl with
  | [y0, y1, y2], _, [v0, v1, v2], _ =>
    have g0 := hf 0 _ rfl
    have g1 := hf 1 _ rfl
    have g2 := hf 2 _ rfl
    have c3 : Try.prog.cellsOf 3 = 1 := by kernel_rfl
    have c23 : Try.prog.cellsOf 23 = 1 := by kernel_rfl
    have c22 : Try.prog.cellsOf 22 = 1 := by kernel_rfl
    simp [c3, c23, c22] at g0 g1 g2
    obtain ⟨k0, e0, _, _⟩ := DataW.trod_int Try.underlying3 g0
    obtain ⟨k1, e1, _, hw1⟩ := DataW.trod_int Try.underlying23 g1
    simp only [List.cons.injEq, and_true] at e0 e1
    subst e0 e1
    have hr1 : 0 ≤ k1 ∧ k1 ≤ 18446744073709551615 := by simpa [Lit.wf, IntKind.min, IntKind.max, IntKind.signed, IntKind.bits] using hw1
    obtain ⟨m, rfl⟩ : ∃ m : Nat, k1 = (m : Int) := ⟨k1.toNat, by omega⟩
    have hd : d = .agg [y0.1, y1.1, y2.1] := by have := (Prod.mk.inj hxy).1; simpa using this
    have hbulk : Rows.uptoBulk y2.1 ≤ Rows.uptoBulk d := by
      rw [hd]; simp only [Rows.uptoBulk, Rows.uptoBulkAll]; omega
    rcases open_ints Try.underlying22 Try.underlying5 (by kernel_rfl) g2 with ⟨hcs, _⟩ | ⟨x, l, c, zs, hcs, _, hl, hm, hz, hx, hcell, hwz⟩
    · simp only [List.cons.injEq, and_true] at hcs
      subst hcs
      exact ⟨k0, m, [], none, 0, rfl, by omega, Nat.zero_le _, isB_none W⟩
    · simp only [List.cons.injEq, and_true] at hcs
      subst hcs
      have hz0 : zs.length = c := by simpa using hz
      have hrow : IsRow .u8 W (some x) l c zs := .inr ⟨_, rfl, hl, hm, hz0, hcell, hwz⟩
      obtain ⟨b, hb⟩ := hrow.bytes
      have hlb := hb.len_eq
      subst hlb
      refine ⟨k0, m, b, some x, c, rfl, by omega, ?_, hb⟩
      refine Nat.le_trans ?_ hbulk
      rw [hx]
      refine Nat.le_trans ?_ (bulk_slice _ _)
      simp only [lits, List.length_map, List.length_take]; omega

theorem open_parts {H : Type} {enc : TypeId × Value → H} {W : World} {fuel : Nat} {a : Option Addr} {len cap : Nat} {x : DataW H × List MemPlace} (h : DataW.trod enc Try.prog W 0 (fun _ => true) true fuel 47 [.slice a len cap] = some x) :
    ∃ ps, IsPs W a len cap ps ∧ (∀ i, i < ps.length → (nthP ps i).n < 18446744073709551616 ∧ (nthP ps i).b.length ≤ Rows.uptoBulk x.1) := by
  rcases Deep.open_slice Try.underlying47 h with ⟨hcs, _⟩ | ⟨ad, l, c, m, n, D, Pl, hcs, _, hl, hm, hmm, hx, hel⟩
  · simp only [List.cons.injEq, and_true, Value.slice.injEq] at hcs
    obtain ⟨rfl, rfl, rfl⟩ := hcs
    exact ⟨[], ⟨rfl, Nat.le_refl _, Nat.zero_le _, fun h => absurd h (Nat.lt_irrefl 0)⟩, fun i hi => absurd hi (Nat.not_lt_zero _)⟩
  · simp only [List.cons.injEq, and_true, Value.slice.injEq] at hcs
    obtain ⟨rfl, rfl, rfl⟩ := hcs
    have hmc : m = cap := by simpa using hmm
    subst hmc
    rw [cellsPt] at hel
    have each : ∀ i, i < len → ∃ q : Pt × Option Addr × Nat, W.cell? (ad.add (i * 3)) = some (.int .i64 q.1.k) ∧ W.cell? (ad.add (i * 3 + 1)) = some (.int .u64 (q.1.n : Int)) ∧ W.cell? (ad.add (i * 3 + 2)) = some (.slice q.2.1 q.1.b.length q.2.2) ∧ IsB W q.2.1 q.1.b.length q.2.2 q.1.b ∧ q.1.n < 18446744073709551616 ∧ q.1.b.length ≤ Rows.uptoBulk x.1 := by
      intro i hi
      obtain ⟨cs', h1, h2⟩ := hel i (by omega)
      obtain ⟨_, _, hcell⟩ := World.cells?_some h1
      obtain ⟨k, mm, b, aa, cc, rfl, hmm, hbb, hib⟩ := open_part h2
      have e0 := hcell 0 (by omega)
      have e1 := hcell 1 (by omega)
      have e2 := hcell 2 (by omega)
      rw [Deep.add_add] at e0 e1 e2
      refine ⟨(⟨k, mm, b⟩, aa, cc), by simpa using e0, by simpa using e1, by simpa using e2, hib, hmm, ?_⟩
      refine Nat.le_trans hbb ?_
      rw [hx]
      simp only [Rows.uptoBulk]
      have := bulk_mem (d := D i) (l := (List.range len).map D) (List.mem_map.2 ⟨i, List.mem_range.2 hi, rfl⟩)
      omega
    haveI : Inhabited Pt := ⟨⟨0, 0, []⟩⟩
    obtain ⟨q, hq⟩ := Deep.choose_lt each
    have hn : ∀ i, i < len → nthP ((List.range len).map fun i => (q i).1) i = (q i).1 := fun i hi => by
      rw [nthP_eq _ _ (by simpa using hi)]; simp
    refine ⟨(List.range len).map fun i => (q i).1, ⟨by simp, hl, hm, fun hp => ?_⟩, fun i hi => ?_⟩
    · obtain ⟨b, off, spot⟩ := ad
      have hspot : spot = none := by simpa [Addr.add] using World.cell?_spot (hq 0 hp).1
      subst hspot
      refine ⟨b, off, rfl, fun i hi => ?_⟩
      obtain ⟨h0, h1, h2, h3, _, _⟩ := hq i hi
      rw [Addr.add_lit] at h0 h1 h2
      rw [hn i hi]
      exact ⟨(q i).2.1, (q i).2.2, h0, h1, h2, h3⟩
    · have hi' : i < len := by simpa using hi
      rw [hn i hi']
      exact ⟨(hq i hi').2.2.2.2.1, (hq i hi').2.2.2.2.2⟩
end Go.Proofs.Ytbojhfphgiimnaa
