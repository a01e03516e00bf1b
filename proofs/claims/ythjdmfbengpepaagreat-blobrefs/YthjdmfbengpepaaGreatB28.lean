/- SpaceOnce: slices of numbers that the statement makes; has, less. · Blobs, plain: a ref, how many sectors bytes fill, which refs are right. · What the document's Need and Right answer. · The program's blob: Need, slices.Contains over numbers, right, shown, told. · Results that lie in a variable. -/
import Derived.Test.YthjdmfbengpepaaGreatB26
import Derived.Test.YthjdmfbengpepaaGreatB27
import Derived.BigQuiet
import Derived.Deep.QuietTactic
import Derived.Lib.MinMax
import Derived.Test.YthjdmfbengpepaaGreatB0
import Derived.Laws.ResultCell
import Derived.Laws.Rows
namespace Go.Proofs.YthjdmfbengpepaaGreat
open Go.RowKit

def zv (l : List Int) : List Value := l.map fun z => .int .i64 z
theorem zv_append (l m : List Int) : zv (l ++ m) = zv l ++ zv m := by simp [zv]
theorem zv_at (l : List Int) (i : Nat) (h : i < l.length) : (zv l)[i]? = some (.int .i64 (l.getD i 0)) := by
  simp [zv, List.getElem?_eq_getElem h]
/-- numbers that the call made -/
def OwnZ (w : World) (base : Nat) (v : Value) (l : List Int) : Prop := w.ownsRow base 3 1 v l.length (zv l)
theorem OwnZ.nil (w : World) (base : Nat) : OwnZ w base (.slice none 0 0) [] := World.ownsRow_nil _ _ _ _
/-- numbers in a world -/
structure IsZ (w : World) (a : Option Addr) (len : Nat) (l : List Int) : Prop where
  len_eq : l.length = len
  cells : 0 < len → ∃ g off, a = some ⟨g, off, none⟩ ∧ g < w.heap.size ∧ ∀ i, i < len → w.cell? ⟨g, off + i, none⟩ = some (.int .i64 (l.getD i 0))
theorem IsZ.below {w w' : World} {a : Option Addr} {len : Nat} {l : List Int} (h : IsZ w a len l) (hb : Below w.heap.size w w') : IsZ w' a len l :=
  ⟨h.len_eq, fun hp => by
    obtain ⟨g, off, e, hl, hc⟩ := h.cells hp
    exact ⟨g, off, e, Nat.lt_of_lt_of_le hl hb.size, fun i hi => (hb.cell (p := ⟨g, off + i, none⟩) hl).trans (hc i hi)⟩⟩
theorem OwnZ.isZ {w : World} {base : Nat} {v : Value} {l : List Int} (h : OwnZ w base v l) : ∃ a cap, v = .slice a l.length cap ∧ IsZ w a l.length l := by
  obtain ⟨h1, h2⟩ := h
  rcases h2 with ⟨rfl, h0⟩ | ⟨g, cap, cur, rfl, hb, hg, hle, hmax, hsz, htk⟩
  · have : l = [] := List.eq_nil_of_length_eq_zero h0
    subst this
    exact ⟨none, 0, rfl, rfl, fun hp => absurd hp (Nat.lt_irrefl 0)⟩
  · refine ⟨_, cap, rfl, rfl, fun hp => ⟨g, 0, rfl, (Array.getElem?_eq_some_iff.1 hg).1, fun i hi => ?_⟩⟩
    have hc := World.ownsRow.cells (w := w) (base := base) (e := 3) (size := 1) (v := .slice (some ⟨g, 0, none⟩) l.length cap) (n := l.length) (xs := zv l) ⟨h1, .inr ⟨g, cap, cur, rfl, hb, hg, hle, hmax, hsz, htk⟩⟩ (g := g) rfl i _ (zv_at l i hi)
    rw [Addr.add_lit] at hc; exact hc
theorem IsZ.take {w : World} {a : Option Addr} {len k : Nat} {l : List Int} (h : IsZ w a len l) (hk : k ≤ len) : IsZ w a k (l.take k) :=
  ⟨by rw [List.length_take, h.len_eq]; omega, fun hp => by
    obtain ⟨g, off, e, hl, hc⟩ := h.cells (by omega)
    refine ⟨g, off, e, hl, fun i hi => ?_⟩
    rw [hc i (by omega)]
    have hi2 : i < l.length := by rw [h.len_eq]; omega
    simp [hi, hi2]⟩
theorem OwnZ.cap {w : World} {base n cap : Nat} {a : Option Addr} {l : List Int} (h : OwnZ w base (.slice a n cap) l) : l.length ≤ cap := by
  obtain ⟨_, h2⟩ := h
  rcases h2 with ⟨e, h0⟩ | ⟨g, c, cur, e, _, _, hle, _⟩
  · omega
  · injection e with _ _ e3
    subst e3
    exact hle
theorem KeepT.grownZ {w w' : World} {base : Nat} {v : Value} {l : List Int} (ho : OwnZ w base v l) (hg : w.grownBy w' v.ownBlock) : KeepT [3] w w' :=
  ⟨hg.size, fun k o hk hno => by
    refine (hg.block k (Array.getElem?_eq_some_iff.1 hk).1 (fun eb => ?_)).trans hk
    rcases ho.2 with ⟨rfl, _⟩ | ⟨g, cap, cur, rfl, _, hgb, _⟩
    · simp [Value.ownBlock] at eb
    · have hkg : k = g := by simpa [Value.ownBlock] using eb
      subst hkg
      have : o = .cells cur 3 (0, 0) := Option.some.inj (hk.symm.trans hgb)
      exact hno _ _ _ this (by decide)⟩
theorem OwnZ.is' {w : World} {base n cap : Nat} {a : Option Addr} {l : List Int} (h : OwnZ w base (.slice a n cap) l) : IsZ w a l.length l := by
  obtain ⟨a', c', e, hI⟩ := h.isZ
  injection e with e1 e2 e3
  subst e1
  exact hI
/-- append(numbers, z) -/
theorem list_appZ {ops : Array Oper} {rest : List Oper} {o : Oper} {a : Act} {Q : Exit → Act → World → Prop} (w : World) (hgd : o.guard = none) (s x : Operand)
    (ho : o.op = .call { callee := .builtin .append, args := #[s, x], argTypes := #[42, 42] }) (base : Nat)
    (v : Value) (l : List Int) (hs : a.eval s = v) (hown : OwnZ w base v l) (B : Nat) (z : Int) (hx : a.eval x = .slice (some ⟨B, 0, none⟩) 1 1)
    (hb : w.heap[B]? = some (.cells #[.int .i64 z] 3 (0, 0))) (hle : l.length ≤ 4096) (hbase : base ≤ w.heap.size)
    (h : ∀ v' w', OwnZ w' base v' (l ++ [z]) → w.grownBy w' v.ownBlock → wpList Tryz.prog ops Q rest (a.put o.dst v') w') :
    wpList Tryz.prog ops Q (o :: rest) a w := by
  obtain ⟨i0, hi, hz0, hz1, hz2⟩ := info_parts infoI3
  refine wpList_append_own w hgd s x 42 ho base 3 i0 (.int .i64 0) 1 8 Tryz.underlying42 hi hz0 hz1 hz2 rfl (by omega) v l.length _ hs hown ⟨B, 0, none⟩ 1 1 [.int .i64 z] hx (by simp) (fun j u hu => World.news_of_block hb j u (by simpa using hu)) (fun u hu => by rw [List.mem_singleton.1 hu]; rfl) (by unfold maxLen; omega) (by omega) hbase ?_
  intro v' w' h1 h2 _
  refine h v' w' ?_ h2
  unfold OwnZ
  rw [List.length_append, zv_append]
  exact h1
theorem mem_getD {l : List Int} {n : Int} (h : n ∈ l) : ∃ i, i < l.length ∧ l.getD i 0 = n := by
  obtain ⟨i, hi, e⟩ := List.getElem_of_mem h
  exact ⟨i, hi, by simp [hi, e]⟩
theorem getD_mem {l : List Int} {i : Nat} (h : i < l.length) : l.getD i 0 ∈ l := by
  have : l.getD i 0 = l[i] := by simp [h]
  rw [this]; exact List.getElem_mem h
theorem lessL_snoc (l : List Int) (z n : Int) : lessL (l ++ [z]) n = if z = n then lessL l n else lessL l n ++ [z] := by
  unfold lessL
  rw [List.filter_append]
  by_cases h : z = n
  · rw [if_pos h, List.filter_cons_of_neg (by simp [h]), List.filter_nil, List.append_nil]
  · rw [if_neg h, List.filter_cons_of_pos (by simp [h]), List.filter_nil]
theorem take_snoc (l : List Int) (k : Nat) (h : k < l.length) : l.take (k + 1) = l.take k ++ [l.getD k 0] := by
  have : l.getD k 0 = l[k] := by simp [h]
  rw [this, List.take_succ_eq_append_getElem h]
theorem less_len (l : List Int) (n : Int) : (lessL l n).length ≤ l.length := List.length_filter_le _ _
end Go.Proofs.YthjdmfbengpepaaGreat
namespace Go.Proofs.YthjdmfbengpepaaGreat
open Go.RowKit

/-- a ref -/
structure Rf where
  len : Int
  sum : List UInt8
  secs : List Int
def rf0 : Rf := ⟨0, [], []⟩
/-- Need -/
def needL (n : Int) : Int := if n < 1 then 0 else (n - 1) / 512 + 1
theorem needL_nn (n : Int) : 0 ≤ needL n := by unfold needL; split <;> omega
/-- are the first k sectors in the area, and none twice? -/
def secOk (l : List Int) (k : Nat) : Prop := ∀ i, i < k → (51 ≤ l.getD i 0 ∧ l.getD i 0 < 4096) ∧ ∀ x, x < i → l.getD x 0 ≠ l.getD i 0
instance (l : List Int) (k : Nat) : Decidable (secOk l k) := by unfold secOk; exact inferInstance
theorem secOk_zero (l : List Int) : secOk l 0 := fun _ hi => absurd hi (Nat.not_lt_zero _)
theorem secOk_succ {l : List Int} {k : Nat} (h : secOk l k) (h1 : 51 ≤ l.getD k 0 ∧ l.getD k 0 < 4096) (h2 : ∀ x, x < k → l.getD x 0 ≠ l.getD k 0) : secOk l (k + 1) := fun i hi => by
  rcases Nat.lt_succ_iff_lt_or_eq.1 hi with h' | h'
  · exact h i h'
  · subst h'; exact ⟨h1, h2⟩
/-- may its numbers be so? -/
def headOk (r : Rf) : Prop := 0 ≤ r.len ∧ r.len ≤ 6144 ∧ r.sum.length = 32 ∧ (r.secs.length : Int) = needL r.len
instance (r : Rf) : Decidable (headOk r) := by unfold headOk; exact inferInstance
/-- Right -/
def rightL (r : Rf) : Bool := decide (headOk r ∧ secOk r.secs r.secs.length)
theorem right_no1 {r : Rf} (h : ¬ headOk r) : false = rightL r := (decide_eq_false (fun x => h x.1)).symm
theorem right_no2 {r : Rf} (h : ¬ secOk r.secs r.secs.length) : false = rightL r := (decide_eq_false (fun x => h x.2)).symm
theorem right_yes {r : Rf} (h1 : headOk r) (h2 : secOk r.secs r.secs.length) : true = rightL r := (decide_eq_true ⟨h1, h2⟩).symm
/-- a ref as a value, its slices in a world -/
structure RfA where
  a : Option Addr
  c : Nat
  b : Option Addr
  d : Nat
def rfc (r : Rf) (q : RfA) : List Value := [.int .i64 r.len, .slice q.a r.sum.length q.c, .slice q.b r.secs.length q.d]
structure IsRf (w : World) (r : Rf) (q : RfA) : Prop where
  sum : IsB w q.a r.sum.length q.c r.sum
  secs : IsZ w q.b r.secs.length r.secs
  len0 : -9223372036854775808 ≤ r.len
  len1 : r.len ≤ 9223372036854775807
  cap : r.secs.length ≤ q.d
theorem IsRf.below {w w' : World} {r : Rf} {q : RfA} (h : IsRf w r q) (hb : Below w.heap.size w w') : IsRf w' r q := ⟨h.sum.below hb rfl, h.secs.below hb, h.len0, h.len1, h.cap⟩
/-- a ref that stays as long as rows of bytes and numbers do -/
abbrev RfU : List TypeId := [5, 3]
def RfK (w : World) (r : Rf) (q : RfA) : Prop := ∀ W, KeepO RfU w W → IsRf W r q
theorem RfK.is {w : World} {r : Rf} {q : RfA} (h : RfK w r q) : IsRf w r q := h w (KeepO.refl _ _)
theorem RfK.keep {w w' : World} {r : Rf} {q : RfA} (h : RfK w r q) (hk : KeepO RfU w w') : RfK w' r q := fun W hW => h W (hk.trans hW)
theorem RfK.own {w : World} {base : Nat} {r : Rf} {q : RfA} (hs : OwnB w base (.slice q.a r.sum.length q.c) r.sum) (hz : OwnZ w base (.slice q.b r.secs.length q.d) r.secs) (h0 : -9223372036854775808 ≤ r.len) (h1 : r.len ≤ 9223372036854775807) : RfK w r q := fun _ hW =>
  ⟨own_isB (own_keepO hW hs (by decide)), OwnZ.is' (own_keepO hW hz (by decide)), h0, h1, hz.cap⟩
theorem RfK.zero (w : World) : RfK w rf0 ⟨none, 0, none, 0⟩ := fun _ _ => ⟨isB_none _, ⟨rfl, fun h => absurd h (Nat.lt_irrefl 0)⟩, by show (-9223372036854775808 : Int) ≤ 0; omega, by show (0 : Int) ≤ 9223372036854775807; omega, Nat.le_refl _⟩
end Go.Proofs.YthjdmfbengpepaaGreat
namespace Go.Proofs.YthjdmfbengpepaaGreat
open Go.RowKit

set_option maxHeartbeats 1000000 in
theorem refNeed12 (n : Int) (w : World) (h1 : n ≤ 9223372036854775807) :
    Calls Tryz.prog 30 #[.int .i64 n] w fun e w' => e = .returned (.int .i64 (needL n)) ∧ w' = w := by
  by_cases hn : n < 1
  · have HV : Hid ((0 : Int) = needL n) := by unfold Hid needL; rw [if_pos hn]
    go_enter Tryz.func30, Tryz.ntmps30
    go_wp2_with fail
    go_ret
    exact ⟨ret_i HV.out, rfl⟩
  · obtain ⟨k, hk⟩ : ∃ k : Nat, n = (k : Int) + 1 := ⟨(n - 1).toNat, by omega⟩
    subst hk
    obtain ⟨q, hq⟩ : ∃ q, q = k / 512 := ⟨_, rfl⟩
    have hq1 : (k : Int).tdiv 512 = (q : Int) := by rw [Int.tdiv_eq_ediv_of_nonneg (by omega)]; omega
    have HV : Hid ((q : Int) + 1 = needL ((k : Int) + 1)) := by unfold Hid needL; rw [if_neg hn]; omega
    have e1 : (k : Int) + 1 - 1 = (k : Int) := by omega
    have hqk : q ≤ k := by rw [hq]; exact Nat.div_le_self _ _
    have hkm : (k : Int) + 1 ≤ 9223372036854775807 := h1
    clear hq h1
    go_enter Tryz.func30, Tryz.ntmps30
    go_wp2_with fail
    go_ret
    exact ⟨ret_i HV.out, rfl⟩
set_option maxRecDepth 20000 in
set_option maxHeartbeats 2000000 in
theorem refRight12 (r : Rf) (q : RfA) (w : World) (h : IsRf w r q) :
    Calls Tryz.prog 31 #[.agg (rfc r q).toArray] w fun e w' => e = .returned (.bool (rightL r)) ∧ Below w.heap.size w w' := by
  have hY : Below w.heap.size w (w.alloc (.cells (rfc r q).toArray 46)) := (Below.refl _ w).alloc (Nat.le_refl _) _
  have kb := Blk.new w 46 (rfc r q)
  obtain ⟨rl, rs, rz⟩ := r
  obtain ⟨qa, qc, qb, qd⟩ := q
  have c0 : (w.alloc (.cells (rfc ⟨rl, rs, rz⟩ ⟨qa, qc, qb, qd⟩).toArray 46)).cell? ⟨w.heap.size, 0, none⟩ = some (.int .i64 rl) := kb.cell 0
  have c1 : (w.alloc (.cells (rfc ⟨rl, rs, rz⟩ ⟨qa, qc, qb, qd⟩).toArray 46)).cell? ⟨w.heap.size, 1, none⟩ = some (.slice qa rs.length qc) := kb.cell 1
  have c2 : (w.alloc (.cells (rfc ⟨rl, rs, rz⟩ ⟨qa, qc, qb, qd⟩).toArray 46)).cell? ⟨w.heap.size, 2, none⟩ = some (.slice qb rz.length qd) := kb.cell 2
  have HZ := mkHid (h.secs.below hY)
  have h0 : -9223372036854775808 ≤ rl := h.len0
  have h1 : rl ≤ 9223372036854775807 := h.len1
  have HY := mkHid hY
  have HNd := fun W => refNeed12 rl W h1
  have HHd : Hid (headOk ⟨rl, rs, rz⟩ ↔ (0 ≤ rl ∧ rl ≤ 6144 ∧ rs.length = 32 ∧ (rz.length : Int) = needL rl)) := Iff.rfl
  have hnn := needL_nn rl
  clear h kb hY
  simp only [rfc] at *
  generalize rs.length = n at *
  generalize hzl : rz.length = zl at *
  have HZl := mkHid hzl
  clear hzl
  by_cases hA : rl < 0
  · have HV := mkHid (right_no1 (r := ⟨rl, rs, rz⟩) (fun h => by have := HHd.out.1 h; omega))
    go_enter Tryz.func31, Tryz.ntmps31
    go_wp2_with fail
    go_quiet (fail)
    go_wp2
    go_ret
    exact ⟨ret_b HV.out, bel_drewN HY.out _⟩
  have dA : decide (rl < 0) = false := decide_eq_false hA
  by_cases hB : 6144 < rl
  · have HV := mkHid (right_no1 (r := ⟨rl, rs, rz⟩) (fun h => by have := HHd.out.1 h; omega))
    go_enter Tryz.func31, Tryz.ntmps31
    go_wp2_with fail
    go_quiet (fail)
    go_wp2
    go_ret
    exact ⟨ret_b HV.out, bel_drewN HY.out _⟩
  have dB : decide (6144 < rl) = false := decide_eq_false hB
  by_cases hC : ¬ n = 32
  · have hC' : ¬ (n : Int) = 32 := by omega
    have bC : ((n : Int) != 32) = true := by simp [hC']
    have HV := mkHid (right_no1 (r := ⟨rl, rs, rz⟩) (fun h => by have := HHd.out.1 h; omega))
    go_enter Tryz.func31, Tryz.ntmps31
    go_wp2_with fail
    go_quiet (fail)
    go_wp2
    go_ret
    exact ⟨ret_b HV.out, bel_drewN HY.out _⟩
  obtain rfl := Classical.not_not.1 hC
  by_cases hD : ¬ (zl : Int) = needL rl
  · have bD : ((zl : Int) != needL rl) = true := by simp [hD]
    have HV := mkHid (right_no1 (r := ⟨rl, rs, rz⟩) (fun h => by have := HHd.out.1 h; omega))
    go_enter Tryz.func31, Tryz.ntmps31
    go_wp2_with fail
    go_quiet (first | (go_at_call 30; exact Calls.quiet_of_same (HNd _)))
    go_wp2
    go_ret
    exact ⟨ret_b HV.out, bel_drewN HY.out _⟩
  have hD := Classical.not_not.1 hD
  have HHo : Hid (headOk ⟨rl, rs, rz⟩) := HHd.out.2 ⟨by omega, by omega, rfl, hD⟩
  have hz13 : zl ≤ 13 := by
    have : needL rl ≤ 12 := by unfold needL; split <;> omega
    omega
  rw [← hD] at HNd
  have HC : ∀ x, ((w.alloc (.cells #[.int .i64 rl, .slice qa 32 qc, .slice qb zl qd] 46)).drewN x).cell? ⟨w.heap.size, 2, none⟩ = some (.slice qb zl qd) := fun x => c2
  have HB : Hid (∀ x, Below w.heap.size w ((w.alloc (.cells #[.int .i64 rl, .slice qa 32 qc, .slice qb zl qd] 46)).drewN x)) := fun x => bel_drewN HY.out x
  have HZs : Hid (∀ x, IsZ ((w.alloc (.cells #[.int .i64 rl, .slice qa 32 qc, .slice qb zl qd] 46)).drewN x) qb zl rz) := fun x => HZ.out.below (bel_drewN (Below.refl _ _) x)
  clear hD hnn HHd HZ HY
  go_enter Tryz.func31, Tryz.ntmps31
  go_wp2_with fail
  go_quiet (first | (go_at_call 30; exact Calls.quiet_of_same (HNd _)))
  go_wp2_with fail
  generalize w.alloc (.cells #[.int .i64 rl, .slice qa 32 qc, .slice qb zl qd] 46) = Y at *
  go_loopw [3] (fun i wr => ∃ k x : Nat, wr = Y.drewN x ∧ k ≤ zl ∧ i = .int .i64 (k : Int) ∧ Hid (secOk rz k)) (fun i _ => zl - (Go.RowKit.intOf i).toNat)
  case atStart => exact ⟨0, nq, rfl, Nat.zero_le _, rfl, secOk_zero _⟩
  case round =>
    obtain ⟨k, x, rfl, hk, rfl, HA⟩ := hrel
    have d2 := HC x
    by_cases hlt : k < zl
    · have hlt' : (k : Int) < (zl : Int) := by omega
      obtain ⟨g, off, rfl, _, hcs⟩ := (HZs.out x).cells (by omega)
      have e0 := hcs k hlt
      obtain ⟨y, hy⟩ : ∃ y, y = rz.getD k 0 := ⟨_, rfl⟩
      rw [← hy] at e0
      have HYy := mkHid hy
      clear hy
      by_cases hlo : y < 51
      · have HV := mkHid (right_no2 (r := ⟨rl, rs, rz⟩) (fun h => by
          have h1 := (h k (by show k < rz.length; rw [HZl.out]; exact hlt)).1
          change 51 ≤ rz.getD k 0 ∧ _ at h1
          rw [← HYy.out] at h1; omega))
        clear hcs
        go_wp2_with fail
        go_ret
        exact ⟨ret_b HV.out, HB.out x⟩
      by_cases hhi : 4096 ≤ y
      · have HV := mkHid (right_no2 (r := ⟨rl, rs, rz⟩) (fun h => by
          have h1 := (h k (by show k < rz.length; rw [HZl.out]; exact hlt)).1
          change 51 ≤ rz.getD k 0 ∧ rz.getD k 0 < 4096 at h1
          rw [← HYy.out] at h1; omega))
        have dlo : decide (y < 51) = false := decide_eq_false hlo
        clear hcs
        go_wp2_with fail
        go_ret
        exact ⟨ret_b HV.out, HB.out x⟩
      have dlo : decide (y < 51) = false := decide_eq_false hlo
      have dhi : decide (4096 ≤ y) = false := decide_eq_false hhi
      have HCs := mkHid hcs
      clear hcs
      go_wp2_with fail
      go_loopw [4] (fun i wr => ∃ j x : Nat, wr = Y.drewN x ∧ j ≤ k ∧ i = .int .i64 (j : Int) ∧ Hid (∀ q, q < j → rz.getD q 0 ≠ y)) (fun i _ => k - (Go.RowKit.intOf i).toNat)
      case atStart => exact ⟨0, x, rfl, Nat.zero_le _, rfl, fun q hq => absurd hq (Nat.not_lt_zero _)⟩
      case round =>
        obtain ⟨j, x1, rfl, hj, rfl, HQ⟩ := hrel
        have f2 := HC x1
        obtain ⟨_, _, hg1, _, hcs⟩ := (HZs.out x1).cells (by omega)
        obtain ⟨rfl, rfl, _⟩ := Addr.mk.inj (Option.some.inj hg1)
        by_cases hjk : j < k
        · have hjk' : (j : Int) < (k : Int) := by omega
          have hjz : (j : Int) < (zl : Int) := by omega
          have f0 : Y.cell? ⟨g, off + j, none⟩ = some (.int .i64 (rz.getD j 0)) := hcs j (by omega)
          have f1 : Y.cell? ⟨g, off + k, none⟩ = some (.int .i64 (rz.getD k 0)) := hcs k hlt
          rw [← HYy.out] at f1
          clear hcs
          by_cases he : rz.getD j 0 = y
          · have HV := mkHid (right_no2 (r := ⟨rl, rs, rz⟩) (fun h => (h k (by show k < rz.length; rw [HZl.out]; exact hlt)).2 j hjk (by rw [← HYy.out]; exact he)))
            rw [he] at f0
            clear he
            go_upto_region 11 with fail
            go_quiet (fail)
            go_wp2_with fail
            go_ret
            exact ⟨ret_b HV.out, HB.out _⟩
          · have HQ1 : Hid (∀ q, q < j + 1 → rz.getD q 0 ≠ y) := fun q hq => by
              rcases Nat.lt_succ_iff_lt_or_eq.1 hq with h | h
              · exact HQ.out q h
              · rw [h]; exact he
            generalize rz.getD j 0 = y2 at *
            have hne : (y2 == y) = false := beq_eq_false_iff_ne.2 he
            go_upto_region 11 with fail
            go_quiet (fail)
            go_wp2_with fail
            go_roundw
            case rel => exact ⟨j + 1, x1 + nq, by first | rfl | exact World.drewN_drewN .., by omega, by go_num, HQ1⟩
            case measure => simp [Go.RowKit.intOf]; omega
        · have hjk' : ¬ (j : Int) < (k : Int) := by omega
          have HA1 : Hid (secOk rz (k + 1)) := secOk_succ HA.out (by rw [← HYy.out]; omega) (fun q hq => by rw [← HYy.out]; exact HQ.out q (by omega))
          clear hcs
          go_wp2_with fail
          go_roundw
          case rel => exact ⟨k + 1, x1, rfl, by omega, by go_num, HA1⟩
          case measure => simp [Go.RowKit.intOf]; omega
    · have hlt' : ¬ (k : Int) < (zl : Int) := by omega
      have HV := mkHid (right_yes HHo.out (by show secOk rz rz.length; rw [HZl.out]; exact (show k = zl by omega) ▸ HA.out))
      go_wp2_with fail
      go_ret
      exact ⟨ret_b HV.out, HB.out x⟩
end Go.Proofs.YthjdmfbengpepaaGreat
namespace Go.Proofs.YthjdmfbengpepaaGreat
open Go.RowKit

set_option maxHeartbeats 1000000 in
theorem codNeed12 (n : Int) (w : World) (h1 : n ≤ 9223372036854775807) :
    Calls Tryz.prog 29 #[.int .i64 n] w fun e w' => e = .returned (.int .i64 (needL n)) ∧ w' = w := by
  by_cases hn : n < 1
  · have HV : Hid ((0 : Int) = needL n) := by unfold Hid needL; rw [if_pos hn]
    go_enter Tryz.func29, Tryz.ntmps29
    go_wp2_with fail
    go_ret
    exact ⟨ret_i HV.out, rfl⟩
  · obtain ⟨k, hk⟩ : ∃ k : Nat, n = (k : Int) + 1 := ⟨(n - 1).toNat, by omega⟩
    subst hk
    obtain ⟨q, hq⟩ : ∃ q, q = k / 512 := ⟨_, rfl⟩
    have hq1 : (k : Int).tdiv 512 = (q : Int) := by rw [Int.tdiv_eq_ediv_of_nonneg (by omega)]; omega
    have HV : Hid ((q : Int) + 1 = needL ((k : Int) + 1)) := by unfold Hid needL; rw [if_neg hn]; omega
    have e1 : (k : Int) + 1 - 1 = (k : Int) := by omega
    have hqk : q ≤ k := by rw [hq]; exact Nat.div_le_self _ _
    have hkm : (k : Int) + 1 ≤ 9223372036854775807 := h1
    clear hq h1
    go_enter Tryz.func29, Tryz.ntmps29
    go_wp2_with fail
    go_ret
    exact ⟨ret_i HV.out, rfl⟩
theorem getD_mem' {l : List Int} {k : Nat} (h : k < l.length) : l.getD k 0 ∈ l := by
  have : l.getD k 0 = l[k] := by simp [h]
  rw [this]; exact List.getElem_mem _
theorem mem_getD' {l : List Int} {n : Int} (h : n ∈ l) : ∃ i, i < l.length ∧ l.getD i 0 = n := by
  obtain ⟨i, hi, e⟩ := List.getElem_of_mem h
  exact ⟨i, hi, by simp [hi, e]⟩
set_option maxHeartbeats 1000000 in
theorem codIndexZ (a : Option Addr) (len cap : Nat) (l : List Int) (n : Int) (w : World) (h : IsZ w a len l) (hl : len ≤ 100000) :
    Calls Tryz.prog 132 #[.slice a len cap, .int .i64 n] w fun e w' => (∃ z : Int, e = .returned (.int .i64 z) ∧ decide (0 ≤ z) = decide (n ∈ l)) ∧ w' = w := by
  have H := mkHid h
  clear h
  go_enter Tryz.func132, Tryz.ntmps132
  go_wp2_with fail
  go_loopw [8] (fun i wr => wr = w ∧ ∃ k : Nat, k ≤ len ∧ i = .int .i64 (k : Int) ∧ Hid (∀ x, x < k → l.getD x 0 ≠ n)) (fun i _ => len - (Go.RowKit.intOf i).toNat)
  case atStart => exact ⟨rfl, 0, Nat.zero_le _, rfl, fun x h => absurd h (Nat.not_lt_zero _)⟩
  case round =>
    obtain ⟨rfl, k, hk, rfl, HA⟩ := hrel
    by_cases hlt : k < len
    · have hlt' : (k : Int) < (len : Int) := by omega
      obtain ⟨g, off, rfl, _, hc⟩ := H.out.cells (by omega)
      have c0 := hc k hlt
      clear hc
      by_cases he : l.getD k 0 = n
      · have HV : Hid (decide ((0 : Int) ≤ (k : Int)) = decide (n ∈ l)) := by
          have h1 : n ∈ l := by rw [← he]; exact getD_mem' (by rw [H.out.len_eq]; exact hlt)
          unfold Hid; rw [decide_eq_true h1, decide_eq_true (by omega)]
        rw [he] at c0
        clear he
        go_wp2_with fail
        go_ret
        exact ⟨⟨_, rfl, HV.out⟩, rfl⟩
      · have HA1 : Hid (∀ x, x < k + 1 → l.getD x 0 ≠ n) := fun x hx => by
          rcases Nat.lt_succ_iff_lt_or_eq.1 hx with h | h
          · exact HA.out x h
          · rw [h]; exact he
        have he2 : ¬ n = l.getD k 0 := fun e => he e.symm
        generalize l.getD k 0 = z at *
        go_wp2_with fail
        go_roundw
        case rel => exact ⟨by first | rfl | trivial, k + 1, by omega, by go_num, HA1⟩
        case measure => simp [Go.RowKit.intOf]; omega
    · have hlt' : ¬ (k : Int) < (len : Int) := by omega
      have HV : Hid (decide ((0 : Int) ≤ -1) = decide (n ∈ l)) := by
        unfold Hid
        rw [decide_eq_false (by omega), decide_eq_false (fun hm => by
          obtain ⟨i, hi, e⟩ := mem_getD' hm
          exact HA.out i (by have := H.out.len_eq; omega) e)]
      go_wp2_with fail
      go_ret
      exact ⟨⟨_, rfl, by first | exact HV.out | exact decide_eq_decide.1 HV.out⟩, rfl⟩
theorem codContainsZ (a : Option Addr) (len cap : Nat) (l : List Int) (n : Int) (w : World) (h : IsZ w a len l) (hl : len ≤ 100000) :
    Calls Tryz.prog 91 #[.slice a len cap, .int .i64 n] w fun e w' => e = .returned (.bool (decide (n ∈ l))) ∧ w' = w := by
  have HI := codIndexZ a len cap l n w h hl
  generalize decide (n ∈ l) = d at *
  clear h
  go_enter Tryz.func91, Tryz.ntmps91
  go_wp2_with fail
  refine HI.mono ?_
  rintro e w' ⟨⟨z, rfl, hz⟩, rfl⟩
  subst hz
  clear HI
  go_wp2_with fail
  go_ret
  exact ⟨rfl, rfl⟩
theorem codShown (n : Int) (w : World) (h0 : -9223372036854775808 ≤ n) (h1 : n ≤ 9223372036854775807) :
    Calls Tryz.prog 68 #[.int .i64 n] w fun e w' => e = .returned (.int .u64 (((max n 0).toNat : Nat) : Int)) ∧ w' = w := by
  obtain ⟨m, hm⟩ : ∃ m : Nat, m = (max n 0).toNat := ⟨_, rfl⟩
  have hm1 : max n 0 = (m : Int) := by omega
  have hw : IntKind.u64.wrap (m : Int) = (m : Int) := wrap64_nat m (by omega)
  rw [← hm]
  clear hm
  go_enter Tryz.func68, Tryz.ntmps68
  go_wp2_with fail
  go_ret
  exact ⟨rfl, rfl⟩
theorem codTold (n : Nat) (w : World) :
    Calls Tryz.prog 59 #[.int .u64 (n : Int)] w fun e w' => e = .returned (.int .i64 ((min n 2147483647 : Nat) : Int)) ∧ w' = w := by
  obtain ⟨m, hm⟩ : ∃ m : Nat, m = min n 2147483647 := ⟨_, rfl⟩
  have hm1 : min (n : Int) 2147483647 = (m : Int) := by omega
  have hw : IntKind.i64.wrap (m : Int) = (m : Int) := by rw [IntKind.wrap_i64]; omega
  rw [← hm]
  clear hm
  go_enter Tryz.func59, Tryz.ntmps59
  go_wp2_with fail
  go_ret
  exact ⟨rfl, rfl⟩
set_option maxRecDepth 20000 in
set_option maxHeartbeats 2000000 in
theorem codRight12 (r : Rf) (q : RfA) (w : World) (h : IsRf w r q) :
    Calls Tryz.prog 41 #[.agg (rfc r q).toArray] w fun e w' => e = .returned (.bool (rightL r)) ∧ Below w.heap.size w w' := by
  have hY : Below w.heap.size w (w.alloc (.cells (rfc r q).toArray 44)) := (Below.refl _ w).alloc (Nat.le_refl _) _
  have kb := Blk.new w 44 (rfc r q)
  obtain ⟨rl, rs, rz⟩ := r
  obtain ⟨qa, qc, qb, qd⟩ := q
  have c0 : (w.alloc (.cells (rfc ⟨rl, rs, rz⟩ ⟨qa, qc, qb, qd⟩).toArray 44)).cell? ⟨w.heap.size, 0, none⟩ = some (.int .i64 rl) := kb.cell 0
  have c1 : (w.alloc (.cells (rfc ⟨rl, rs, rz⟩ ⟨qa, qc, qb, qd⟩).toArray 44)).cell? ⟨w.heap.size, 1, none⟩ = some (.slice qa rs.length qc) := kb.cell 1
  have c2 : (w.alloc (.cells (rfc ⟨rl, rs, rz⟩ ⟨qa, qc, qb, qd⟩).toArray 44)).cell? ⟨w.heap.size, 2, none⟩ = some (.slice qb rz.length qd) := kb.cell 2
  have HZ := mkHid (h.secs.below hY)
  have h0 : -9223372036854775808 ≤ rl := h.len0
  have h1 : rl ≤ 9223372036854775807 := h.len1
  have hcp : rz.length ≤ qd := h.cap
  have HY := mkHid hY
  have HNd := fun W => codNeed12 rl W h1
  have HHd : Hid (headOk ⟨rl, rs, rz⟩ ↔ (0 ≤ rl ∧ rl ≤ 6144 ∧ rs.length = 32 ∧ (rz.length : Int) = needL rl)) := Iff.rfl
  have hnn := needL_nn rl
  clear h kb hY
  simp only [rfc] at *
  generalize rs.length = n at *
  generalize hzl : rz.length = zl at *
  have HZl := mkHid hzl
  clear hzl
  by_cases hA : rl < 0
  · have HV := mkHid (right_no1 (r := ⟨rl, rs, rz⟩) (fun h => by have := HHd.out.1 h; omega))
    go_enter Tryz.func41, Tryz.ntmps41
    go_wp2_with fail
    go_quiet (fail)
    go_wp2
    go_ret
    exact ⟨ret_b HV.out, bel_drewN HY.out _⟩
  have dA : decide (rl < 0) = false := decide_eq_false hA
  by_cases hB : 6144 < rl
  · have HV := mkHid (right_no1 (r := ⟨rl, rs, rz⟩) (fun h => by have := HHd.out.1 h; omega))
    go_enter Tryz.func41, Tryz.ntmps41
    go_wp2_with fail
    go_quiet (fail)
    go_wp2
    go_ret
    exact ⟨ret_b HV.out, bel_drewN HY.out _⟩
  have dB : decide (6144 < rl) = false := decide_eq_false hB
  by_cases hC : ¬ n = 32
  · have hC' : ¬ (n : Int) = 32 := by omega
    have bC : ((n : Int) != 32) = true := by simp [hC']
    have HV := mkHid (right_no1 (r := ⟨rl, rs, rz⟩) (fun h => by have := HHd.out.1 h; omega))
    go_enter Tryz.func41, Tryz.ntmps41
    go_wp2_with fail
    go_quiet (fail)
    go_wp2
    go_ret
    exact ⟨ret_b HV.out, bel_drewN HY.out _⟩
  obtain rfl := Classical.not_not.1 hC
  by_cases hD : ¬ (zl : Int) = needL rl
  · have bD : ((zl : Int) != needL rl) = true := by simp [hD]
    have HV := mkHid (right_no1 (r := ⟨rl, rs, rz⟩) (fun h => by have := HHd.out.1 h; omega))
    go_enter Tryz.func41, Tryz.ntmps41
    go_wp2_with fail
    go_quiet (first | (go_at_call 29; exact Calls.quiet_of_same (HNd _)))
    go_wp2
    go_ret
    exact ⟨ret_b HV.out, bel_drewN HY.out _⟩
  have hD := Classical.not_not.1 hD
  have HHo : Hid (headOk ⟨rl, rs, rz⟩) := HHd.out.2 ⟨by omega, by omega, rfl, hD⟩
  have hz13 : zl ≤ 13 := by
    have : needL rl ≤ 12 := by unfold needL; split <;> omega
    omega
  rw [← hD] at HNd
  have HC : ∀ x, ((w.alloc (.cells #[.int .i64 rl, .slice qa 32 qc, .slice qb zl qd] 44)).drewN x).cell? ⟨w.heap.size, 2, none⟩ = some (.slice qb zl qd) := fun x => c2
  have HB : Hid (∀ x, Below w.heap.size w ((w.alloc (.cells #[.int .i64 rl, .slice qa 32 qc, .slice qb zl qd] 44)).drewN x)) := fun x => bel_drewN HY.out x
  have HZs : Hid (∀ x, IsZ ((w.alloc (.cells #[.int .i64 rl, .slice qa 32 qc, .slice qb zl qd] 44)).drewN x) qb zl rz) := fun x => HZ.out.below (bel_drewN (Below.refl _ _) x)
  clear hD hnn HHd HZ HY
  go_enter Tryz.func41, Tryz.ntmps41
  go_wp2_with fail
  go_quiet (first | (go_at_call 29; exact Calls.quiet_of_same (HNd _)))
  have e2 := HC nq
  go_wp2_with fail
  clear e2
  generalize w.alloc (.cells #[.int .i64 rl, .slice qa 32 qc, .slice qb zl qd] 44) = Y at *
  go_loopw [31] (fun i wr => ∃ k x : Nat, wr = Y.drewN x ∧ k ≤ zl ∧ i = .int .i64 (k : Int) ∧ Hid (secOk rz k)) (fun i _ => zl - (Go.RowKit.intOf i).toNat)
  case atStart => exact ⟨0, nq, rfl, Nat.zero_le _, rfl, secOk_zero _⟩
  case round =>
    obtain ⟨k, x, rfl, hk, rfl, HA⟩ := hrel
    have d2 := HC x
    by_cases hlt : k < zl
    · have hlt' : (k : Int) < (zl : Int) := by omega
      have HZx := mkHid ((HZs.out x).take (Nat.le_of_lt hlt))
      obtain ⟨g, off, rfl, _, hcs⟩ := (HZs.out x).cells (by omega)
      have e0 := hcs k hlt
      obtain ⟨y, hy⟩ : ∃ y, y = rz.getD k 0 := ⟨_, rfl⟩
      rw [← hy] at e0
      have HYy := mkHid hy
      clear hy hcs
      by_cases hlo : y < 51
      · have HV := mkHid (right_no2 (r := ⟨rl, rs, rz⟩) (fun h => by
          have h1 := (h k (by show k < rz.length; rw [HZl.out]; exact hlt)).1
          change 51 ≤ rz.getD k 0 ∧ _ at h1
          rw [← HYy.out] at h1; omega))
        go_wp2_with fail
        go_ret
        exact ⟨ret_b HV.out, HB.out x⟩
      by_cases hhi : 4096 ≤ y
      · have HV := mkHid (right_no2 (r := ⟨rl, rs, rz⟩) (fun h => by
          have h1 := (h k (by show k < rz.length; rw [HZl.out]; exact hlt)).1
          change 51 ≤ rz.getD k 0 ∧ rz.getD k 0 < 4096 at h1
          rw [← HYy.out] at h1; omega))
        have dlo : decide (y < 51) = false := decide_eq_false hlo
        go_wp2_with fail
        go_ret
        exact ⟨ret_b HV.out, HB.out x⟩
      have dlo : decide (y < 51) = false := decide_eq_false hlo
      have dhi : decide (4096 ≤ y) = false := decide_eq_false hhi
      have HCt := codContainsZ (some ⟨g, off, none⟩) k qd (rz.take k) y (Y.drewN x) HZx.out (by omega)
      have hkq : (k : Int) ≤ (qd : Int) := by omega
      by_cases hm : y ∈ rz.take k
      · have HV := mkHid (right_no2 (r := ⟨rl, rs, rz⟩) (fun h => by
          obtain ⟨i, hi, e⟩ := mem_getD' hm
          have hik : i < k := by rw [List.length_take] at hi; omega
          have hzl : rz.length = zl := HZl.out
          have e3 : rz.getD i 0 = y := by rw [← e]; simp [hik, show i < rz.length by omega]
          exact (h k (by show k < rz.length; rw [hzl]; exact hlt)).2 i hik (by show rz.getD i 0 = rz.getD k 0; rw [← HYy.out]; exact e3)))
        rw [decide_eq_true hm] at HCt
        clear hm
        go_wp2_with fail
        refine HCt.mono ?_
        rintro e w' ⟨rfl, rfl⟩
        clear HCt
        go_wp2_with fail
        go_ret
        exact ⟨ret_b HV.out, HB.out x⟩
      · have HA1 : Hid (secOk rz (k + 1)) := secOk_succ HA.out (by rw [← HYy.out]; omega) (fun i hi e => hm (by
          have hzl : rz.length = zl := HZl.out
          rw [HYy.out, ← e]
          have e3 : (rz.take k).getD i 0 = rz.getD i 0 := by simp [hi, show i < rz.length by omega]
          rw [← e3]
          exact getD_mem' (by rw [List.length_take]; omega)))
        rw [decide_eq_false hm] at HCt
        clear hm
        go_wp2_with fail
        refine HCt.mono ?_
        rintro e w' ⟨rfl, rfl⟩
        clear HCt
        go_wp2_with fail
        go_roundw
        case rel => exact ⟨k + 1, x, by first | rfl | trivial, by omega, by go_num, HA1⟩
        case measure => simp [Go.RowKit.intOf]; omega
    · have hlt' : ¬ (k : Int) < (zl : Int) := by omega
      obtain rfl : k = zl := by omega
      have HV := mkHid (right_yes HHo.out (by rw [HZl.out]; exact HA.out))
      go_wp2_with fail
      go_ret
      exact ⟨ret_b HV.out, HB.out x⟩
end Go.Proofs.YthjdmfbengpepaaGreat
namespace Go.Proofs.YthjdmfbengpepaaGreat
open Go.RowKit

theorem results_cell1 {P : Program} {fn : Func} {p : Tmp} {ty : TypeId} (h : fn.results = #[.cell p ty]) (tmps : Array Value) (w : World) (g : Nat) (x : Value)
    (hp : tmps.getD p undef = .pointer (some ⟨g, 0, none⟩)) (hl : (loadVar ty ⟨g, 0, none⟩).run P w = .ok x w) : (results fn tmps).run P w = .ok x w := by
  have q1 : tmps[p]?.getD undef = .pointer (some ⟨g, 0, none⟩) := by simpa using hp
  simp only [results, h]
  simp [q1, asAddr, hl]

theorem results_cellrow {P : Program} {fn : Func} {p : Tmp} {ty : TypeId} (h : fn.results = #[.cell p ty]) (tmps : Array Value) (w : World) (g : Nat) (t : TypeId) (cs : Array Value) (fr : Nat × Nat) (d : TypeDesc)
    (hp : tmps.getD p undef = .pointer (some ⟨g, 0, none⟩)) (hg : w.heap[g]? = some (.cells cs t fr))
    (hu : P.underlying ty = some d) (hd : (match d with | .struct _ | .array _ _ => true | _ => false) = true) (hi : (P.info? ty).map (·.size) = some cs.size) :
    (results fn tmps).run P w = .ok (.agg cs) w := results_cell1 h tmps w g _ hp (run_loadVar_row w g t ty cs fr d hg hu hd hi)
theorem results_cellrow_tmp {P : Program} {fn : Func} {p u : Tmp} {ty : TypeId} (h : fn.results = #[.cell p ty, .tmp u]) (tmps : Array Value) (w : World) (g : Nat) (t : TypeId) (cs : Array Value) (fr : Nat × Nat) (d : TypeDesc)
    (hp : tmps.getD p undef = .pointer (some ⟨g, 0, none⟩)) (hg : w.heap[g]? = some (.cells cs t fr))
    (hu : P.underlying ty = some d) (hd : (match d with | .struct _ | .array _ _ => true | _ => false) = true) (hi : (P.info? ty).map (·.size) = some cs.size) :
    (results fn tmps).run P w = .ok (.tuple #[.agg cs, tmps.getD u undef]) w := by
  rw [results_cell_tmp h, hp]
  simp [asAddr, Result.andThen, run_loadVar_row w g t ty cs fr d hg hu hd hi]
end Go.Proofs.YthjdmfbengpepaaGreat
