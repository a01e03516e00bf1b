/- What the document's Crash does. · Regions that draw their order, by hand. · Appends of bytes and of a write, at a step of a region that draws. -/
import Derived.Test.YtacnoagjcacniaaGreatB3
import Derived.Test.YtacnoagjcacniaaGreatB0
import Derived.Deep.RegionHeld3
import Derived.Test.YtacnoagjcacniaaGreatB2
namespace Go.Proofs.YtacnoagjcacniaaGreat
open Go.RowKit

/-- a slice of truths in a world -/
structure IsKs (w : World) (a : Option Addr) (n cap : Nat) (l : List Bool) : Prop where
  len_eq : l.length = n
  cells : 0 < n → ∃ b off, a = some ⟨b, off, none⟩ ∧ ∀ i, i < n → w.cell? ⟨b, off + i, none⟩ = some (.bool (l.getD i false))
theorem keptW_step (C : List Wg) (ks : List Bool) (k : Nat) (hC : k < C.length) (hk : k < ks.length) : keptW (C.take (k + 1)) (ks.take (k + 1)) = keptW (C.take k) (ks.take k) ++ (if ks.getD k false = true then [nthG C k] else []) := by
  induction k generalizing C ks with
  | zero =>
    match C, ks, hC, hk with
    | g :: C, b :: ks, _, _ =>
      cases b <;> simp [keptW, nthG]
  | succ k ih =>
    match C, ks, hC, hk with
    | g :: C, b :: ks, hC, hk =>
      have := ih C ks (by simpa using hC) (by simpa using hk)
      rw [List.take_succ_cons, List.take_succ_cons, keptW, this, List.take_succ_cons, List.take_succ_cons, keptW]
      have e1 : nthG (g :: C) (k + 1) = nthG C k := rfl
      have e2 : (b :: ks).getD (k + 1) false = ks.getD k false := rfl
      rw [e1, e2]
      cases b <;> simp
theorem keptW_stop (C : List Wg) (ks : List Bool) (k : Nat) (h : k = C.length ∨ k = ks.length) : keptW (C.take k) (ks.take k) = keptW C ks := by
  induction k generalizing C ks with
  | zero =>
    rcases h with h | h
    · rw [List.eq_nil_of_length_eq_zero h.symm]; simp [keptW]
    · rw [List.eq_nil_of_length_eq_zero h.symm]; simp [keptW]
  | succ k ih =>
    match C, ks with
    | [], ks => simp [keptW]
    | g :: C, [] => simp [keptW]
    | g :: C, b :: ks =>
      rw [List.take_succ_cons, List.take_succ_cons, keptW, ih C ks (by simpa using h), keptW]
theorem keptW_len (C : List Wg) (ks : List Bool) : (keptW C ks).length ≤ C.length := by
  induction C generalizing ks with
  | nil => simp [keptW]
  | cons g C ih =>
    cases ks with
    | nil => simp [keptW]
    | cons b ks =>
      have := ih ks
      rw [keptW]
      split
      · simp; exact this
      · simp; omega
def crashR (r : Rd) (ks : List Bool) : Rd := { r with S := (keptW r.C ks).foldl settleW r.S, C := [], off := false, armed := false, left := 0 }

set_option maxRecDepth 20000 in
set_option maxHeartbeats 4000000 in
theorem refCrash9E (D base : Nat) (r : Rd) (vS vC : Value) (ka : Option Addr) (kn kc : Nat) (ks : List Bool) (w : World) (h : IsRD w D base r vS vC) (hf : r.S.length + r.C.length ≤ 1000000)
    (hks : ∀ W, KeepE (fun k => k = D) w W → Below base w W → IsKs W ka kn kc ks) (hkn : kn ≤ 140737488351232) :
    Calls Tryz.prog 28 #[.pointer (some ⟨D, 0, none⟩), .slice ka kn kc] w fun e w' => (∃ x, e = .returned x) ∧ (∃ vS', IsRD w' D base (crashR r ks) vS' (.slice none 0 0) ∧ ∀ k, vS'.ownBlock = some k → vS.ownBlock = some k ∨ w.heap.size ≤ k) ∧ KeepE (fun k => k = D) w w' ∧ Below base w w' := by
  have HH : Hid (IsRD w D base r vS vC) := h
  have HKs : Hid (∀ W, KeepE (fun k => k = D) w W → Below base w W → IsKs W ka kn kc ks) := hks
  have HKn : Hid (ks.length = kn) := (hks w (KeepE.refl _ _) (Below.refl _ _)).len_eq
  obtain ⟨n, hn⟩ : ∃ n, n = r.C.length := ⟨_, rfl⟩
  have HN : Hid (n = r.C.length) := hn
  obtain ⟨a, cap, hvC, _⟩ := h.ownC.form
  rw [← hn] at hvC
  have hn6 : n ≤ 1000000 := by omega
  have hlow := h.low
  clear h hn hks
  subst hvC
  go_enter Tryz.func28, Tryz.ntmps28
  go_wp2_with fail
  go_loopw [4] (fun i wr => ∃ (k : Nat) (vS' : Value), k ≤ n ∧ k ≤ kn ∧ i = .int .i64 (k : Int) ∧ Hid (IsRD wr D base { r with S := (keptW (r.C.take k) (ks.take k)).foldl settleW r.S } vS' (.slice a n cap)) ∧ Hid (∀ k, vS'.ownBlock = some k → vS.ownBlock = some k ∨ w.heap.size ≤ k) ∧ Hid (KeepE (fun k => k = D) w wr) ∧ Hid (Below base w wr)) (fun i _ => n - (intOf i).toNat)
  case atStart => exact ⟨0, vS, Nat.zero_le _, Nat.zero_le _, rfl, HH.out, fun _ h => .inl h, KeepE.refl _ _, Below.refl _ _⟩
  case round =>
    obtain ⟨k, vS', hk, hk2, rfl, HI, HV, HK, HB⟩ := hrel
    have d2 : wr.cell? ⟨D, 2, none⟩ = some (.slice a n cap) := HI.out.blk.cell 2
    by_cases hlt : k < n ∧ k < kn
    · obtain ⟨hl1, hl2⟩ := hlt
      have hl1' : (k : Int) < (n : Int) := by omega
      have hl2' : (k : Int) < (kn : Int) := by omega
      have HKL : Hid (k < r.C.length) := by unfold Hid; rw [← HN.out]; exact hl1
      have HKM : Hid (k < ks.length) := by unfold Hid; rw [HKn.out]; exact hl2
      obtain ⟨kb, ko, eka, hkc⟩ := (HKs.out wr HK.out HB.out).cells (by omega)
      subst eka
      have kc0 := hkc k hl2
      have HSt0 := keptW_step r.C ks k HKL.out HKM.out
      cases hb : ks.getD k false with
      | false =>
        rw [hb] at kc0
        rw [hb, if_neg (by simp), List.append_nil] at HSt0
        have HI2 := HI
        rw [← HSt0] at HI2
        clear HI HSt0 hb hkc
        go_wp2_with fail
        go_roundw
        case rel => exact ⟨k + 1, vS', by omega, by omega, by go_num, HI2, HV, HK, HB⟩
        case measure => simp [intOf]; omega
      | true =>
        rw [hb] at kc0
        rw [hb, if_pos rfl] at HSt0
        obtain ⟨a9, c9, e9, _, _, _, hcs⟩ := HI.out.ownC.form
        obtain ⟨B, eB, _, _, hc⟩ := hcs (by have := HKL.out; exact Nat.lt_of_le_of_lt (Nat.zero_le _) this)
        simp only [Value.slice.injEq] at e9
        obtain ⟨rfl, _, rfl⟩ := e9
        subst eB
        obtain ⟨e0, e1⟩ := hc k HKL.out
        have hmem : nthG r.C k ∈ r.C := by rw [nthG_eq _ k HKL.out]; exact List.getElem_mem HKL.out
        have hB1 : Bys wr base [nthG r.C k] := fun x hx => by rw [List.mem_singleton.1 hx]; exact HI.out.bC _ hmem
        have HSt := refSettle9E D base _ vS' _ (nthG r.C k) wr HI.out hB1 (by
          have h1 := fold_len (keptW (r.C.take k) (ks.take k)) r.S
          have h2 := keptW_len (r.C.take k) (ks.take k)
          rw [List.length_take] at h2
          show ((keptW (r.C.take k) (ks.take k)).foldl settleW r.S).length ≤ _
          have := HN.out
          omega)
        have HFt : Hid ((keptW (r.C.take (k + 1)) (ks.take (k + 1))).foldl settleW r.S = settleW ((keptW (r.C.take k) (ks.take k)).foldl settleW r.S) (nthG r.C k)) := by unfold Hid; rw [HSt0, List.foldl_append]; rfl
        clear hc hcs hmem hB1 hb HSt0 hkc
        generalize nthG r.C k = gk at *
        go_wp2_with fail
        refine HSt.mono ?_
        rintro e y ⟨⟨x, rfl⟩, ⟨vS2, hI2, hv2⟩, hk2', hb2⟩
        have HV2 : Hid (∀ k, vS2.ownBlock = some k → vS.ownBlock = some k ∨ w.heap.size ≤ k) := fun k hk => .inr (Nat.le_trans HK.out.size (hv2 k hk))
        clear hv2
        have HI2 : Hid (IsRD y D base { r with S := (keptW (r.C.take (k + 1)) (ks.take (k + 1))).foldl settleW r.S } vS2 (.slice (some ⟨B, 0, none⟩) n cap)) := by unfold Hid; rw [HFt.out]; exact hI2
        clear hI2 HSt
        go_wp2_with fail
        go_roundw
        case rel => exact ⟨k + 1, vS2, by omega, by omega, by go_num, HI2, HV2, HK.out.trans hk2', HB.out.trans hb2⟩
        case measure => simp [intOf]; omega
    · have hst : k = r.C.length ∨ k = ks.length := by
        rw [← HN.out, HKn.out]; omega
      have hI := HI.out
      rw [keptW_stop r.C ks k hst] at hI
      have f2 := hI.blk.frozen 2
      have X2 : IsRD (wr.setCell ⟨D, 2, none⟩ (.slice none 0 0)) D base { r with S := (keptW r.C ks).foldl settleW r.S, C := [] } vS' (.slice none 0 0) := hI.field 2 _ rfl rfl (.inr ⟨rfl, rfl⟩)
      have k2 : KeepE (fun k => k = D) w (wr.setCell ⟨D, 2, none⟩ (.slice none 0 0)) := HK.out.set hI.blk (by rfl) 2 _
      have b2 : Below base w (wr.setCell ⟨D, 2, none⟩ (.slice none 0 0)) := HB.out.setCell (p := ⟨D, 2, none⟩) hlow _
      have d3 : (wr.setCell ⟨D, 2, none⟩ (.slice none 0 0)).cell? ⟨D, 3, none⟩ = some (.bool r.off) := X2.blk.cell 3
      have f3 := X2.blk.frozen 3
      have HX2 := mkHid X2
      clear hI X2 HI hst
      by_cases hl1 : k < n
      · have hl1' : (k : Int) < (n : Int) := by omega
        have hl2' : ¬ (k : Int) < (kn : Int) := by omega
        go_upto_region 6 with fail
        generalize wr.setCell ⟨D, 2, none⟩ (.slice none 0 0) = Y at *
        have X3 : IsRD (Y.setCell ⟨D, 3, none⟩ (.bool false)) D base { r with S := (keptW r.C ks).foldl settleW r.S, C := [], off := false } vS' (.slice none 0 0) := HX2.out.field 3 _ rfl rfl (.inr ⟨rfl, rfl⟩)
        have k3 : KeepE (fun k => k = D) w (Y.setCell ⟨D, 3, none⟩ (.bool false)) := k2.set HX2.out.blk (by rfl) 3 _
        have b3 : Below base w (Y.setCell ⟨D, 3, none⟩ (.bool false)) := b2.setCell (p := ⟨D, 3, none⟩) hlow _
        have d4 : (Y.setCell ⟨D, 3, none⟩ (.bool false)).cell? ⟨D, 4, none⟩ = some (.bool r.armed) := X3.blk.cell 4
        have f4 := X3.blk.frozen 4
        have HX3 := mkHid X3
        clear X3 k2 b2
        go_upto_region 7 with fail
        generalize Y.setCell ⟨D, 3, none⟩ (.bool false) = Z at *
        have X4 : IsRD (Z.setCell ⟨D, 4, none⟩ (.bool false)) D base { r with S := (keptW r.C ks).foldl settleW r.S, C := [], off := false, armed := false } vS' (.slice none 0 0) := HX3.out.field 4 _ rfl rfl (.inr ⟨rfl, rfl⟩)
        have k4 : KeepE (fun k => k = D) w (Z.setCell ⟨D, 4, none⟩ (.bool false)) := k3.set HX3.out.blk (by rfl) 4 _
        have b4 : Below base w (Z.setCell ⟨D, 4, none⟩ (.bool false)) := b3.setCell (p := ⟨D, 4, none⟩) hlow _
        have d5 : (Z.setCell ⟨D, 4, none⟩ (.bool false)).cell? ⟨D, 5, none⟩ = some (.int .i64 (r.left : Int)) := X4.blk.cell 5
        have f5 := X4.blk.frozen 5
        have HX4 := mkHid X4
        clear X4 k3 b3
        go_upto_region 8 with fail
        generalize Z.setCell ⟨D, 4, none⟩ (.bool false) = V at *
        go_wp2_with fail
        go_end0
        exact ⟨⟨_, rfl⟩, ⟨vS', HX4.out.field 5 _ rfl rfl (.inr ⟨rfl, rfl⟩), HV.out⟩, k4.set HX4.out.blk (by rfl) 5 _, b4.setCell (p := ⟨D, 5, none⟩) hlow _⟩
      · have hl1' : ¬ (k : Int) < (n : Int) := by omega
        go_upto_region 6 with fail
        generalize wr.setCell ⟨D, 2, none⟩ (.slice none 0 0) = Y at *
        have X3 : IsRD (Y.setCell ⟨D, 3, none⟩ (.bool false)) D base { r with S := (keptW r.C ks).foldl settleW r.S, C := [], off := false } vS' (.slice none 0 0) := HX2.out.field 3 _ rfl rfl (.inr ⟨rfl, rfl⟩)
        have k3 : KeepE (fun k => k = D) w (Y.setCell ⟨D, 3, none⟩ (.bool false)) := k2.set HX2.out.blk (by rfl) 3 _
        have b3 : Below base w (Y.setCell ⟨D, 3, none⟩ (.bool false)) := b2.setCell (p := ⟨D, 3, none⟩) hlow _
        have d4 : (Y.setCell ⟨D, 3, none⟩ (.bool false)).cell? ⟨D, 4, none⟩ = some (.bool r.armed) := X3.blk.cell 4
        have f4 := X3.blk.frozen 4
        have HX3 := mkHid X3
        clear X3 k2 b2
        go_upto_region 7 with fail
        generalize Y.setCell ⟨D, 3, none⟩ (.bool false) = Z at *
        have X4 : IsRD (Z.setCell ⟨D, 4, none⟩ (.bool false)) D base { r with S := (keptW r.C ks).foldl settleW r.S, C := [], off := false, armed := false } vS' (.slice none 0 0) := HX3.out.field 4 _ rfl rfl (.inr ⟨rfl, rfl⟩)
        have k4 : KeepE (fun k => k = D) w (Z.setCell ⟨D, 4, none⟩ (.bool false)) := k3.set HX3.out.blk (by rfl) 4 _
        have b4 : Below base w (Z.setCell ⟨D, 4, none⟩ (.bool false)) := b3.setCell (p := ⟨D, 4, none⟩) hlow _
        have d5 : (Z.setCell ⟨D, 4, none⟩ (.bool false)).cell? ⟨D, 5, none⟩ = some (.int .i64 (r.left : Int)) := X4.blk.cell 5
        have f5 := X4.blk.frozen 5
        have HX4 := mkHid X4
        clear X4 k3 b3
        go_upto_region 8 with fail
        generalize Z.setCell ⟨D, 4, none⟩ (.bool false) = V at *
        go_wp2_with fail
        go_end0
        exact ⟨⟨_, rfl⟩, ⟨vS', HX4.out.field 5 _ rfl rfl (.inr ⟨rfl, rfl⟩), HV.out⟩, k4.set HX4.out.blk (by rfl) 5 _, b4.setCell (p := ⟨D, 5, none⟩) hlow _⟩
end Go.Proofs.YtacnoagjcacniaaGreat
namespace Go.Proofs.YtacnoagjcacniaaGreat
open Go.RowKit

/-- an operation of a region is taken first, its temporary told -/
theorem takeH {P : Program} {md : Region.Mode} {ops : Array Oper} {Q : Exit → Act → World → Prop} {S : World → Prop} {i : Nat} {oi : Oper} {v : Value} {fuel : Nat} {listed : Array Bool} {a : Act} {w : World} (d : Option Tmp) (hi : ops[i]? = some oi)
    (hs : Region.noSelect ops = true) (hf : Region.free md ops listed i = true) (hr : (Region.ready md ops listed).contains i = true)
    (hQ : ∀ c a w, Q (.panic c) (a.put oi.dst v) w → Q (.panic c) a w) (hy : YieldsIf P ops S oi v a) (hS : S w) (hd : oi.dst = d)
    (h : wpAnyH P md ops Q S fuel (listed.setIfInBounds i true) (a.put d v) w) : wpAnyH P md ops Q S (fuel + 1) listed a w := by
  subst hd; exact wpAnyH_take hi hs hf hr hQ hy hS h
/-- the one that comes up -/
theorem oneH {P : Program} {md : Region.Mode} {ops : Array Oper} {Q : Exit → Act → World → Prop} {S : World → Prop} {fuel : Nat} {listed : Array Bool} {a : Act} {w : World} (i : Nat) {oi : Oper} (hi : ops[i]? = some oi)
    (hr : Region.ready md ops listed = [i]) (hw : Region.wanted oi (yielded ops a.tmps) = true)
    (h : oi.wp P a w (fun a' w' => S w' ∧ wpAnyH P md ops Q S fuel (listed.setIfInBounds i true) a' w') Q) : wpAnyH P md ops Q S (fuel + 1) listed a w := by
  refine wpAnyH_all hr (by simp) fun j hj => ?_
  have : j = i := by simpa using hj
  subst this
  unfold wpOp
  simp only [hi, hw, if_true]
  exact .inl h
end Go.Proofs.YtacnoagjcacniaaGreat
namespace Go.Proofs.YtacnoagjcacniaaGreat
open Go.RowKit

theorem wp_appB {o : Oper} {a : Act} {K : Act → World → Prop} {Q : Exit → Act → World → Prop} (w : World) (s x : Operand)
    (ho : o.op = .call { callee := .builtin .append, args := #[s, x], argTypes := #[49, 49] }) (base : Nat)
    (v : Value) (l : List UInt8) (hs : a.eval s = v) (hown : OwnB w base v l) (sa : Option Addr) (m c : Nat) (news : List UInt8) (hx : a.eval x = .slice sa m c) (hB : IsB w sa m c news)
    (hbytes : l.length + m ≤ 140737488355328) (hbase : base ≤ w.heap.size)
    (h : ∀ v' w', OwnB w' base v' (l ++ news) → w.grownBy w' v.ownBlock → K (a.put o.dst v') w') : o.wp Tryz.prog a w K Q := by
  obtain ⟨i0, hi, hz0, hz1, hz2⟩ := info_parts info8
  have hlen := hB.len_eq
  cases sa with
  | none =>
    have h0 := hB.nil rfl
    have hle := hB.le
    have hn : news = [] := List.eq_nil_of_length_eq_zero (by omega)
    subst hn
    have hm0 : m = 0 := by simpa using hlen.symm
    subst hm0 h0
    have hrun := run_append_owned_none (P := Tryz.prog) (w := w) base 49 o.type 5 i0 1 Tryz.underlying49 hi v l.length (bv l) hown
    unfold Oper.wp
    simp [execOp, ho, resolve, invoke, builtin, hs, hx, hrun, Result.andThen]
    exact h v w (by rw [List.append_nil]; exact hown) (World.grownBy.refl _ _)
  | some ad =>
    have hc : ∀ j u, (bv news)[j]? = some u → w.cell? (ad.add j) = some u := fun j u hj => by
      have hjl : j < news.length := by
        rcases Nat.lt_or_ge j news.length with h | h
        · exact h
        · rw [List.getElem?_eq_none (by rw [bv_length]; exact h)] at hj; cases hj
      obtain ⟨b, off, e1, hcc⟩ := hB.cells (by omega)
      have e1 := Option.some.inj e1
      rw [e1, Addr.add_lit, hcc j (by omega), ← bv_at news j hjl]
      exact hj
    obtain ⟨v', w', hrun, r1, r2, r3⟩ := run_append_own (P := Tryz.prog) w base 49 o.type 5 i0 (.int .u8 0) 1 1 Tryz.underlying49 hi hz0 hz1 hz2 rfl (by omega) v l.length (bv l) hown ad m c (bv news) (by rw [bv_length]; omega) hc (bv_one news) (by unfold maxLen; omega) (by omega) hbase
    unfold Oper.wp execOp
    simp only [ho, resolve, invoke, builtin, Sem.run_bind, Sem.run_pure, Result.andThen_ok, List.map_toArray, List.map_cons, List.map_nil, hs, hx, hrun]
    exact h v' w' (by unfold OwnB; rw [bv_append, List.length_append, hlen]; exact r1) r2
theorem step_appB {ops : Array Oper} {o : Oper} {a : Act} {K : Act → World → Prop} {Q : Exit → Act → World → Prop} {E : Prop} (w : World) (hgd : o.guard = none) (s x : Operand)
    (ho : o.op = .call { callee := .builtin .append, args := #[s, x], argTypes := #[49, 49] }) (base : Nat)
    (v : Value) (l : List UInt8) (hs : a.eval s = v) (hown : OwnB w base v l) (sa : Option Addr) (m c : Nat) (news : List UInt8) (hx : a.eval x = .slice sa m c) (hB : IsB w sa m c news)
    (hbytes : l.length + m ≤ 140737488355328) (hbase : base ≤ w.heap.size) (d : Tmp) (hd : o.dst = some d)
    (h : ∀ v' w', OwnB w' base v' (l ++ news) → w.grownBy w' v.ownBlock → K (a.put (some d) v') w') :
    if Region.wanted o (yielded ops a.tmps) = true then Oper.wp Tryz.prog o a w K Q else E := by
  have hw : Region.wanted o (yielded ops a.tmps) = true := by simp [Region.wanted, hgd]
  rw [if_pos hw]
  exact wp_appB w s x ho base v l hs hown sa m c news hx hB hbytes hbase (by rw [hd]; exact h)
/-- append(l, g), and where the new row lies -/
theorem step_appGl {ops : Array Oper} {o : Oper} {a : Act} {K : Act → World → Prop} {Q : Exit → Act → World → Prop} {E : Prop} (st e : TypeId) (hu : Tryz.prog.underlying st = some (.slice e))
    (hinfo : (Tryz.prog.info? e).map (fun i => (i.zero, i.size, i.bytes)) = some (some wgZ, 2, 32)) (w : World) (hgd : o.guard = none) (s x : Operand)
    (ho : o.op = .call { callee := .builtin .append, args := #[s, x], argTypes := #[st, st] }) (base : Nat)
    (v : Value) (l : List Wg) (hs : a.eval s = v) (hown : OwnG e w base v l) (B : Nat) (g : Wg) (hx : a.eval x = .slice (some ⟨B, 0, none⟩) 1 1)
    (hb : w.heap[B]? = some (.cells (wgc g).toArray e (0, 0))) (hbytes : (l.length + 1) * 32 ≤ 140737488355328) (hbase : base ≤ w.heap.size) (d : Tmp) (hd : o.dst = some d)
    (h : ∀ k cap w', OwnG e w' base (.slice (some ⟨k, 0, none⟩) (l.length + 1) cap) (l ++ [g]) → w.grownBy w' v.ownBlock → (v.ownBlock = some k ∨ k = w.heap.size) → K (a.put (some d) (.slice (some ⟨k, 0, none⟩) (l.length + 1) cap)) w') :
    if Region.wanted o (yielded ops a.tmps) = true then Oper.wp Tryz.prog o a w K Q else E := by
  obtain ⟨i0, hi, hz0, hz1, hz2⟩ := info_parts hinfo
  refine step_append_lies w hgd s x st ho base e i0 wgZ 2 32 hu hi hz0 hz1 hz2 rfl (by omega) v l.length (wgs l) hs hown ⟨B, 0, none⟩ 1 1 (wgc g) hx rfl
    (fun j u hu => World.news_of_block hb j u (by simpa using hu)) (wgc_one g) (by omega) (by unfold maxLen; omega) hbytes hbase w.heap.size rfl ?_
  intro k cap w' h1 h2 h3 _
  rw [hd]
  exact h k cap w' (by unfold OwnG; rw [wgs_append, List.length_append]; exact h1) h2 h3
end Go.Proofs.YtacnoagjcacniaaGreat
