/- What the document's Flush and Arm do. · What the document's Crash does. · Regions that draw their order, by hand. · Appends of bytes and of a write, at a step of a region that draws. -/
import Derived.Test.YtdeoankmmolebaaGreatB2
import Derived.Deep.CutBlock
import Derived.Deep.CutRange
import Derived.Test.YtdeoankmmolebaaGreatB0
import Derived.Deep.RegionHeld3
import Derived.Test.YtdeoankmmolebaaGreatB1
namespace Go.Proofs.YtdeoankmmolebaaGreat
open Go.RowKit

def flushR (r : Rd) : Rd := if r.off = true then r else { r with S := r.C.foldl settleW r.S, C := [], fl := r.fl + 1 }
def fluC (r : Rd) (vC : Value) : Value := if r.off = true then vC else .slice none 0 0
def flE (r : Rd) : Int := if r.off = true then 51 else 0
def armR (r : Rd) (z : Int) : Rd := { r with armed := decide (0 ≤ z), left := (max z 0).toNat }
theorem fold_len (m S : List Wg) : (m.foldl settleW S).length ≤ S.length + m.length := by
  induction m generalizing S with
  | nil => exact Nat.le_refl _
  | cons g m ih =>
    rw [List.foldl_cons, List.length_cons]
    have h1 := ih (settleW S g)
    have h2 := settle_len S g
    omega
theorem fold_take (l S : List Wg) (k : Nat) (h : k < l.length) : (l.take (k + 1)).foldl settleW S = settleW ((l.take k).foldl settleW S) (nthG l k) := by
  rw [takeW l k h, List.foldl_append]; rfl
/-- the disk's block and where a field lies -/
theorem IsRD.field {w : World} {D base : Nat} {r r' : Rd} {vS vC vC' : Value} (h : IsRD w D base r vS vC) (j : Nat) (u : Value) (hc : (rdc r vS vC).set j u = rdc r' vS vC') (hS : r'.S = r.S) (hC : (r'.C = r.C ∧ vC' = vC) ∨ (r'.C = [] ∧ vC' = .slice none 0 0)) : IsRD (w.setCell ⟨D, j, none⟩ u) D base r' vS vC' := by
  have hk : KeepT [82] w (w.setCell ⟨D, j, none⟩ u) := (KeepT.refl _ w).set h.blk (by simp) j u
  have hb := h.blk.set j u
  rw [hc] at hb
  refine ⟨hb, h.low, by rw [hS]; exact own_keep hk h.ownS (by decide), ?_, by rw [hS]; exact h.bS.keep hk (by decide), ?_, ?_⟩
  · rcases hC with ⟨e1, e2⟩ | ⟨e1, e2⟩
    · rw [e1, e2]; exact own_keep hk h.ownC (by decide)
    · rw [e1, e2]; exact OwnG.nil _ _ _
  · rcases hC with ⟨e1, _⟩ | ⟨e1, _⟩
    · rw [e1]; exact h.bC.keep hk (by decide)
    · rw [e1]; exact fun g hg => by cases hg
  · intro k hk2
    rcases hC with ⟨_, e2⟩ | ⟨_, e2⟩
    · rw [e2]; exact h.apart k hk2
    · rw [e2]; simp [Value.ownBlock]

set_option maxRecDepth 20000 in
set_option maxHeartbeats 2000000 in
theorem refFlush9E (D base : Nat) (r : Rd) (vS vC : Value) (w : World) (h : IsRD w D base r vS vC) (hf : r.S.length + r.C.length ≤ 1000000) (hfl : r.fl ≤ 1000000000) :
    Calls Tryz.prog 43 #[.pointer (some ⟨D, 0, none⟩)] w fun e w' => e = .returned (.int .i64 (flE r)) ∧ (∃ vS', IsRD w' D base (flushR r) vS' (fluC r vC) ∧ ∀ k, vS'.ownBlock = some k → vS.ownBlock = some k ∨ w.heap.size ≤ k) ∧ KeepE (fun k => k = D) w w' ∧ Below base w w' := by
  have c3 : w.cell? ⟨D, 3, none⟩ = some (.bool r.off) := h.blk.cell 3
  have HH : Hid (IsRD w D base r vS vC) := h
  cases hoff : r.off with
  | true =>
    rw [hoff] at c3
    have Q1 : Hid (flE r = 51) := by unfold Hid flE; rw [hoff]; rfl
    have Q2 : Hid (flushR r = r) := by unfold Hid flushR; rw [hoff]; rfl
    have Q3 : Hid (fluC r vC = vC) := by unfold Hid fluC; rw [hoff]; rfl
    clear hoff h
    go_enter Tryz.func43, Tryz.ntmps43
    go_wp2_with fail
    go_ret
    exact ⟨by rw [Q1.out]; rfl, ⟨vS, by rw [Q2.out, Q3.out]; exact HH.out, fun _ h => .inl h⟩, KeepE.refl _ _, Below.refl _ _⟩
  | false =>
    rw [hoff] at c3
    have Q1 : Hid (flE r = 0) := by unfold Hid flE; rw [hoff]; rfl
    have Q3 : Hid (fluC r vC = .slice none 0 0) := by unfold Hid fluC; rw [hoff]; rfl
    have Q2 : Hid (flushR r = { r with S := r.C.foldl settleW r.S, C := [], fl := r.fl + 1 }) := by unfold Hid flushR; rw [hoff]; rfl
    obtain ⟨n, hn⟩ : ∃ n, n = r.C.length := ⟨_, rfl⟩
    have HN : Hid (n = r.C.length) := hn
    obtain ⟨a, cap, hvC, _⟩ := h.ownC.form
    rw [← hn] at hvC
    have hn6 : n ≤ 1000000 := by omega
    have hlow := h.low
    clear hoff h hn
    subst hvC
    go_enter Tryz.func43, Tryz.ntmps43
    go_wp2_with fail
    go_loopw [3] (fun i wr => ∃ (k : Nat) (vS' : Value), k ≤ n ∧ i = .int .i64 (k : Int) ∧ Hid (IsRD wr D base { r with S := (r.C.take k).foldl settleW r.S } vS' (.slice a n cap)) ∧ Hid (∀ k, vS'.ownBlock = some k → vS.ownBlock = some k ∨ w.heap.size ≤ k) ∧ Hid (KeepE (fun k => k = D) w wr) ∧ Hid (Below base w wr)) (fun i _ => n - (intOf i).toNat)
    case atStart => exact ⟨0, vS, Nat.zero_le _, rfl, HH.out, fun _ h => .inl h, KeepE.refl _ _, Below.refl _ _⟩
    case round =>
      obtain ⟨k, vS', hk, rfl, HI, HV, HK, HB⟩ := hrel
      have d2 : wr.cell? ⟨D, 2, none⟩ = some (.slice a n cap) := HI.out.blk.cell 2
      by_cases hlt : k < n
      · have hlt' : (k : Int) < (n : Int) := by omega
        have HKL : Hid (k < r.C.length) := by unfold Hid; rw [← HN.out]; exact hlt
        obtain ⟨a9, c9, e9, _, _, _, hcs⟩ := HI.out.ownC.form
        obtain ⟨B, eB, _, _, hc⟩ := hcs (by have := HKL.out; exact Nat.lt_of_le_of_lt (Nat.zero_le _) this)
        simp only [Value.slice.injEq] at e9
        obtain ⟨rfl, _, rfl⟩ := e9
        subst eB
        obtain ⟨e0, e1⟩ := hc k HKL.out
        have hmem : nthG r.C k ∈ r.C := by rw [nthG_eq _ k HKL.out]; exact List.getElem_mem HKL.out
        have hB1 : Bys wr base [nthG r.C k] := fun x hx => by rw [List.mem_singleton.1 hx]; exact HI.out.bC _ hmem
        have HSt := refSettle9E D base _ vS' _ (nthG r.C k) wr HI.out hB1 (by
          have h1 := fold_len (r.C.take k) r.S
          rw [List.length_take] at h1
          show ((r.C.take k).foldl settleW r.S).length ≤ _
          have := HN.out
          omega)
        have HFt : Hid ((r.C.take (k + 1)).foldl settleW r.S = settleW ((r.C.take k).foldl settleW r.S) (nthG r.C k)) := fold_take r.C r.S k HKL.out
        clear hc hcs hmem hB1 c3
        generalize nthG r.C k = gk at *
        go_wp2_with fail
        refine HSt.mono ?_
        rintro e y ⟨⟨x, rfl⟩, ⟨vS2, hI2, hv2⟩, hk2, hb2⟩
        have HV2 : Hid (∀ k, vS2.ownBlock = some k → vS.ownBlock = some k ∨ w.heap.size ≤ k) := fun k hk => .inr (Nat.le_trans HK.out.size (hv2 k hk))
        clear hv2
        have HI2 : Hid (IsRD y D base { r with S := (r.C.take (k + 1)).foldl settleW r.S } vS2 (.slice (some ⟨B, 0, none⟩) n cap)) := by unfold Hid; rw [HFt.out]; exact hI2
        clear hI2 HSt
        go_wp2_with fail
        go_roundw
        case rel => exact ⟨k + 1, vS2, by omega, by go_num, HI2, HV2, HK.out.trans hk2, HB.out.trans hb2⟩
        case measure => simp [intOf]; omega
      · have hge : ¬ (k : Int) < (n : Int) := by omega
        have hkn : k = n := by omega
        subst hkn
        have hfd : r.C.take k = r.C := List.take_of_length_le (by rw [← HN.out]; exact Nat.le_refl _)
        have hI := HI.out
        rw [hfd] at hI
        have f2 := hI.blk.frozen 2
        have hI2 : IsRD (wr.setCell ⟨D, 2, none⟩ (.slice none 0 0)) D base { r with S := r.C.foldl settleW r.S, C := [] } vS' (.slice none 0 0) := hI.field 2 _ rfl rfl (.inr ⟨rfl, rfl⟩)
        have k2 : KeepE (fun k => k = D) w (wr.setCell ⟨D, 2, none⟩ (.slice none 0 0)) := HK.out.set hI.blk (by rfl) 2 _
        have b2 : Below base w (wr.setCell ⟨D, 2, none⟩ (.slice none 0 0)) := HB.out.setCell (p := ⟨D, 2, none⟩) hlow _
        have d7 : (wr.setCell ⟨D, 2, none⟩ (.slice none 0 0)).cell? ⟨D, 7, none⟩ = some (.int .u64 (r.fl : Int)) := hI2.blk.cell 7
        have f7 := hI2.blk.frozen 7
        have HI2 := mkHid hI2
        clear hI hI2 HI c3
        go_upto_region 8 with fail
        generalize wr.setCell ⟨D, 2, none⟩ (.slice none 0 0) = Y at *
        go_wp2_with fail
        go_ret
        refine ⟨by rw [Q1.out]; rfl, ⟨vS', ?_, HV.out⟩, k2.set HI2.out.blk (by rfl) 7 _, b2.setCell (p := ⟨D, 7, none⟩) hlow _⟩
        rw [Q2.out, Q3.out]
        refine HI2.out.field 7 _ ?_ rfl (.inr ⟨rfl, rfl⟩)
        unfold rdc
        rfl
end Go.Proofs.YtdeoankmmolebaaGreat
namespace Go.Proofs.YtdeoankmmolebaaGreat
open Go.RowKit

/-- a slice of truths in a world -/
structure IsKs (w : World) (a : Option Addr) (n cap : Nat) (l : List Bool) : Prop where
  len_eq : l.length = n
  cells : 0 < n → ∃ b off, a = some ⟨b, off, none⟩ ∧ ∀ i, i < n → w.cell? ⟨b, off + i, none⟩ = some (.bool (l.getD i false))
theorem keptW_step (C : List Wg) (ks : List Bool) (k : Nat) (hC : k < C.length) (hk : k < ks.length) : keptW (C.take (k + 1)) (ks.take (k + 1)) = keptW (C.take k) (ks.take k) ++ (if ks.getD k false = true then [nthG C k] else []) := by
  induction k generalizing C ks with
  | zero =>
    match C, ks, hC, hk with
    | g :: C, b :: ks, _, _ =>
      cases b <;> simp [keptW, nthG]
  | succ k ih =>
    match C, ks, hC, hk with
    | g :: C, b :: ks, hC, hk =>
      have := ih C ks (by simpa using hC) (by simpa using hk)
      rw [List.take_succ_cons, List.take_succ_cons, keptW, this, List.take_succ_cons, List.take_succ_cons, keptW]
      have e1 : nthG (g :: C) (k + 1) = nthG C k := rfl
      have e2 : (b :: ks).getD (k + 1) false = ks.getD k false := rfl
      rw [e1, e2]
      cases b <;> simp
theorem keptW_stop (C : List Wg) (ks : List Bool) (k : Nat) (h : k = C.length ∨ k = ks.length) : keptW (C.take k) (ks.take k) = keptW C ks := by
  induction k generalizing C ks with
  | zero =>
    rcases h with h | h
    · rw [List.eq_nil_of_length_eq_zero h.symm]; simp [keptW]
    · rw [List.eq_nil_of_length_eq_zero h.symm]; simp [keptW]
  | succ k ih =>
    match C, ks with
    | [], ks => simp [keptW]
    | g :: C, [] => simp [keptW]
    | g :: C, b :: ks =>
      rw [List.take_succ_cons, List.take_succ_cons, keptW, ih C ks (by simpa using h), keptW]
theorem keptW_len (C : List Wg) (ks : List Bool) : (keptW C ks).length ≤ C.length := by
  induction C generalizing ks with
  | nil => simp [keptW]
  | cons g C ih =>
    cases ks with
    | nil => simp [keptW]
    | cons b ks =>
      have := ih ks
      rw [keptW]
      split
      · simp; exact this
      · simp; omega
def crashR (r : Rd) (ks : List Bool) : Rd := { r with S := (keptW r.C ks).foldl settleW r.S, C := [], off := false, armed := false, left := 0 }

end Go.Proofs.YtdeoankmmolebaaGreat
namespace Go.Proofs.YtdeoankmmolebaaGreat
open Go.RowKit

/-- an operation of a region is taken first, its temporary told -/
theorem takeH {P : Program} {md : Region.Mode} {ops : Array Oper} {Q : Exit → Act → World → Prop} {S : World → Prop} {i : Nat} {oi : Oper} {v : Value} {fuel : Nat} {listed : Array Bool} {a : Act} {w : World} (d : Option Tmp) (hi : ops[i]? = some oi)
    (hs : Region.noSelect ops = true) (hf : Region.free md ops listed i = true) (hr : (Region.ready md ops listed).contains i = true)
    (hQ : ∀ c a w, Q (.panic c) (a.put oi.dst v) w → Q (.panic c) a w) (hy : YieldsIf P ops S oi v a) (hS : S w) (hd : oi.dst = d)
    (h : wpAnyH P md ops Q S fuel (listed.setIfInBounds i true) (a.put d v) w) : wpAnyH P md ops Q S (fuel + 1) listed a w := by
  subst hd; exact wpAnyH_take hi hs hf hr hQ hy hS h
/-- the one that comes up -/
theorem oneH {P : Program} {md : Region.Mode} {ops : Array Oper} {Q : Exit → Act → World → Prop} {S : World → Prop} {fuel : Nat} {listed : Array Bool} {a : Act} {w : World} (i : Nat) {oi : Oper} (hi : ops[i]? = some oi)
    (hr : Region.ready md ops listed = [i]) (hw : Region.wanted oi (yielded ops a.tmps) = true)
    (h : oi.wp P a w (fun a' w' => S w' ∧ wpAnyH P md ops Q S fuel (listed.setIfInBounds i true) a' w') Q) : wpAnyH P md ops Q S (fuel + 1) listed a w := by
  refine wpAnyH_all hr (by simp) fun j hj => ?_
  have : j = i := by simpa using hj
  subst this
  unfold wpOp
  simp only [hi, hw, if_true]
  exact .inl h
end Go.Proofs.YtdeoankmmolebaaGreat
namespace Go.Proofs.YtdeoankmmolebaaGreat
open Go.RowKit

theorem wp_appB {o : Oper} {a : Act} {K : Act → World → Prop} {Q : Exit → Act → World → Prop} (w : World) (s x : Operand)
    (ho : o.op = .call { callee := .builtin .append, args := #[s, x], argTypes := #[22, 22] }) (base : Nat)
    (v : Value) (l : List UInt8) (hs : a.eval s = v) (hown : OwnB w base v l) (sa : Option Addr) (m c : Nat) (news : List UInt8) (hx : a.eval x = .slice sa m c) (hB : IsB w sa m c news)
    (hbytes : l.length + m ≤ 140737488355328) (hbase : base ≤ w.heap.size)
    (h : ∀ v' w', OwnB w' base v' (l ++ news) → w.grownBy w' v.ownBlock → K (a.put o.dst v') w') : o.wp Tryz.prog a w K Q := by
  obtain ⟨i0, hi, hz0, hz1, hz2⟩ := info_parts info8
  have hlen := hB.len_eq
  cases sa with
  | none =>
    have h0 := hB.nil rfl
    have hle := hB.le
    have hn : news = [] := List.eq_nil_of_length_eq_zero (by omega)
    subst hn
    have hm0 : m = 0 := by simpa using hlen.symm
    subst hm0 h0
    have hrun := run_append_owned_none (P := Tryz.prog) (w := w) base 22 o.type 5 i0 1 Tryz.underlying22 hi v l.length (bv l) hown
    unfold Oper.wp
    simp [execOp, ho, resolve, invoke, builtin, hs, hx, hrun, Result.andThen]
    exact h v w (by rw [List.append_nil]; exact hown) (World.grownBy.refl _ _)
  | some ad =>
    have hc : ∀ j u, (bv news)[j]? = some u → w.cell? (ad.add j) = some u := fun j u hj => by
      have hjl : j < news.length := by
        rcases Nat.lt_or_ge j news.length with h | h
        · exact h
        · rw [List.getElem?_eq_none (by rw [bv_length]; exact h)] at hj; cases hj
      obtain ⟨b, off, e1, hcc⟩ := hB.cells (by omega)
      have e1 := Option.some.inj e1
      rw [e1, Addr.add_lit, hcc j (by omega), ← bv_at news j hjl]
      exact hj
    obtain ⟨v', w', hrun, r1, r2, r3⟩ := run_append_own (P := Tryz.prog) w base 22 o.type 5 i0 (.int .u8 0) 1 1 Tryz.underlying22 hi hz0 hz1 hz2 rfl (by omega) v l.length (bv l) hown ad m c (bv news) (by rw [bv_length]; omega) hc (bv_one news) (by unfold maxLen; omega) (by omega) hbase
    unfold Oper.wp execOp
    simp only [ho, resolve, invoke, builtin, Sem.run_bind, Sem.run_pure, Result.andThen_ok, List.map_toArray, List.map_cons, List.map_nil, hs, hx, hrun]
    exact h v' w' (by unfold OwnB; rw [bv_append, List.length_append, hlen]; exact r1) r2
theorem step_appB {ops : Array Oper} {o : Oper} {a : Act} {K : Act → World → Prop} {Q : Exit → Act → World → Prop} {E : Prop} (w : World) (hgd : o.guard = none) (s x : Operand)
    (ho : o.op = .call { callee := .builtin .append, args := #[s, x], argTypes := #[22, 22] }) (base : Nat)
    (v : Value) (l : List UInt8) (hs : a.eval s = v) (hown : OwnB w base v l) (sa : Option Addr) (m c : Nat) (news : List UInt8) (hx : a.eval x = .slice sa m c) (hB : IsB w sa m c news)
    (hbytes : l.length + m ≤ 140737488355328) (hbase : base ≤ w.heap.size) (d : Tmp) (hd : o.dst = some d)
    (h : ∀ v' w', OwnB w' base v' (l ++ news) → w.grownBy w' v.ownBlock → K (a.put (some d) v') w') :
    if Region.wanted o (yielded ops a.tmps) = true then Oper.wp Tryz.prog o a w K Q else E := by
  have hw : Region.wanted o (yielded ops a.tmps) = true := by simp [Region.wanted, hgd]
  rw [if_pos hw]
  exact wp_appB w s x ho base v l hs hown sa m c news hx hB hbytes hbase (by rw [hd]; exact h)
/-- append(l, g), and where the new row lies -/
theorem step_appGl {ops : Array Oper} {o : Oper} {a : Act} {K : Act → World → Prop} {Q : Exit → Act → World → Prop} {E : Prop} (st e : TypeId) (hu : Tryz.prog.underlying st = some (.slice e))
    (hinfo : (Tryz.prog.info? e).map (fun i => (i.zero, i.size, i.bytes)) = some (some wgZ, 2, 32)) (w : World) (hgd : o.guard = none) (s x : Operand)
    (ho : o.op = .call { callee := .builtin .append, args := #[s, x], argTypes := #[st, st] }) (base : Nat)
    (v : Value) (l : List Wg) (hs : a.eval s = v) (hown : OwnG e w base v l) (B : Nat) (g : Wg) (hx : a.eval x = .slice (some ⟨B, 0, none⟩) 1 1)
    (hb : w.heap[B]? = some (.cells (wgc g).toArray e (0, 0))) (hbytes : (l.length + 1) * 32 ≤ 140737488355328) (hbase : base ≤ w.heap.size) (d : Tmp) (hd : o.dst = some d)
    (h : ∀ k cap w', OwnG e w' base (.slice (some ⟨k, 0, none⟩) (l.length + 1) cap) (l ++ [g]) → w.grownBy w' v.ownBlock → (v.ownBlock = some k ∨ k = w.heap.size) → K (a.put (some d) (.slice (some ⟨k, 0, none⟩) (l.length + 1) cap)) w') :
    if Region.wanted o (yielded ops a.tmps) = true then Oper.wp Tryz.prog o a w K Q else E := by
  obtain ⟨i0, hi, hz0, hz1, hz2⟩ := info_parts hinfo
  refine step_append_lies w hgd s x st ho base e i0 wgZ 2 32 hu hi hz0 hz1 hz2 rfl (by omega) v l.length (wgs l) hs hown ⟨B, 0, none⟩ 1 1 (wgc g) hx rfl
    (fun j u hu => World.news_of_block hb j u (by simpa using hu)) (wgc_one g) (by omega) (by unfold maxLen; omega) hbytes hbase w.heap.size rfl ?_
  intro k cap w' h1 h2 h3 _
  rw [hd]
  exact h k cap w' (by unfold OwnG; rw [wgs_append, List.length_append]; exact h1) h2 h3
end Go.Proofs.YtdeoankmmolebaaGreat
