/- What the run's add does. -/
import Derived.Test.YtbclhaleibjkgaaB5
import Derived.Test.YtbclhaleibjkgaaAbsorb
import Derived.Test.YtbclhaleibjkgaaB12
import Derived.Laws.CopyOwn
namespace Go.Proofs.Ytbclhaleibjkgaa
open Go.RowKit

/-- the same, a load of an array -/
theorem oneLoadH {P : Program} {md : Region.Mode} {ops : Array Oper} {Q : Exit → Act → World → Prop} {S : World → Prop} {fuel : Nat} {listed : Array Bool} {a : Act} {w : World} (i : Nat) (d : Option Tmp) {oi : Oper} (hi : ops[i]? = some oi)
    (hr : Region.ready md ops listed = [i]) (hw : Region.wanted oi (yielded ops a.tmps) = true) (ty : TypeId) (x : Operand) (ho : oi.op = .load ty x)
    (b o : Nat) (hx : a.eval x = .pointer (some ⟨b, o, none⟩)) (cs : List Value) (ds : TypeDesc) (hc : w.rangeAt b o cs) (hu : P.underlying ty = some ds) (hd : ds.isRow = true) (hsz : (P.info? ty).map (·.size) = some cs.length) (hdst : oi.dst = d) (hS : S w)
    (h : wpAnyH P md ops Q S fuel (listed.setIfInBounds i true) (a.put d (.agg cs.toArray)) w) : wpAnyH P md ops Q S (fuel + 1) listed a w := by
  subst hdst
  exact oneH i hi hr hw (wp_load_mid ty x ho b o hx cs ds hc hu hd hsz ⟨hS, h⟩)
/-- the same, a store of an array -/
theorem oneStoreH {P : Program} {md : Region.Mode} {ops : Array Oper} {Q : Exit → Act → World → Prop} {S : World → Prop} {fuel : Nat} {listed : Array Bool} {a : Act} {w : World} (i : Nat) {oi : Oper} (hi : ops[i]? = some oi)
    (hr : Region.ready md ops listed = [i]) (hw : Region.wanted oi (yielded ops a.tmps) = true) (ty : TypeId) (x y : Operand) (ho : oi.op = .store ty x y)
    (b o : Nat) (cs : List Value) (hx : a.eval x = .pointer (some ⟨b, o, none⟩)) (hy : a.eval y = .agg cs.toArray) (ht : w.there b o cs.length) (hsz : (P.info? ty).map (·.size) = some cs.length) (h1 : ∀ v ∈ cs, v.oneCell' = true) (hdst : oi.dst = none) (hS : S (w.setCells b o cs))
    (h : wpAnyH P md ops Q S fuel (listed.setIfInBounds i true) a (w.setCells b o cs)) : wpAnyH P md ops Q S (fuel + 1) listed a w := by
  refine oneH i hi hr hw (wp_store_mid ty x y ho b o cs.toArray hx hy (by simpa using ht) (by simpa using hsz) (all_oneCell_toArray h1) ?_)
  rw [hdst]
  exact ⟨hS, h⟩
/-- the same, a call of a function value -/
theorem oneCallH {P : Program} {md : Region.Mode} {ops : Array Oper} {Q : Exit → Act → World → Prop} {S : World → Prop} {fuel : Nat} {listed : Array Bool} {a : Act} {w : World} (i : Nat) (d : Option Tmp) {oi : Oper} (hi : ops[i]? = some oi)
    (hr : Region.ready md ops listed = [i]) (hw : Region.wanted oi (yielded ops a.tmps) = true) (f : Nat) (args : Array Value)
    (he : (execOp a.eval oi).run P w = .ok (.enter f args) w) (hdst : oi.dst = d) (R : Value → World → Prop)
    (hc : Calls P f args w fun e w' => ∃ v, e = .returned v ∧ R v w')
    (h : ∀ v w', R v w' → S w' ∧ wpAnyH P md ops Q S fuel (listed.setIfInBounds i true) (a.put d v) w') : wpAnyH P md ops Q S (fuel + 1) listed a w := by
  subst hdst
  refine oneH i hi hr hw ?_
  unfold Oper.wp
  rw [he]
  simp only [Oper.upon]
  refine hc.mono ?_
  rintro e w' ⟨v, rfl, hR⟩
  exact h v w' hR

/-- what is asked of a mixing function -/
def MixOK (mf : Nat) (mix : List UInt32 → List UInt8 → List UInt32) : Prop :=
  (∀ ws bl, (mix ws bl).length = 8) ∧ (∀ args w, (callFunc mf args).run Try.prog w = .ok (.enter mf args) w) ∧ ∀ ws bl w, ws.length = 8 → bl.length = 64 → Calls Try.prog mf #[.agg (wv ws).toArray, .agg (bv bl).toArray] w fun e w' => e = .returned (.agg (wv (mix ws bl)).toArray) ∧ Below w.heap.size w w'

/-- a slice's length, for a measure -/
def sliceLen : Value → Nat | .slice _ k _ => k | _ => 0

/-- where a slice lies that is cut at its head -/

theorem slA (G o p : Nat) (hp : p < 64) (w : World) : (Instr.sliceAt 93 (.pointer (some ⟨G, o, none⟩)) (some (.int .i64 (p : Int))) none none).run Try.prog w = .ok (.slice (some ⟨G, o + p, none⟩) (64 - p) (64 - p)) w := by
  have he : Try.prog.elem 93 = 5 := by kernel_rfl
  have hn : Try.prog.arrayLen 93 = 64 := by kernel_rfl
  have hz : (sizeOf 5).run Try.prog w = .ok 1 w := by
    obtain ⟨i0, hi, hz0, hz1, hz2⟩ := info_parts info8
    simp [sizeOf, typeInfo, hi, hz1]
  rw [run_sliceAt_array_l w 93 ⟨G, o, none⟩ (by rw [he, hn]; exact Try.underlying93) .i64 (p : Int) (by omega) (by rw [hn]; omega), he, hn, hz]
  simp only [Result.andThen, slicedAt, Int.toNat_natCast, Nat.mul_one, Addr.add_lit]
  rw [if_neg (by omega)]

attribute [local go_sem ↓] slA slB

theorem infoR8 : (Try.prog.info? 5).map (·.size) = some 1 := by kernel_rfl

set_option maxRecDepth 20000 in
set_option maxHeartbeats 1000000 in
theorem digAdd (mf : Nat) (mix : List UInt32 → List UInt8 → List UInt32) (start : List UInt32) (hok : MixOK mf mix) (kc : List Value) (hk : kc.length = 10) (hf : kc[9]? = some (.func (.func mf) #[] #[]))
    (G T : Nat) (ws : List UInt32) (buf : List UInt8) (A0 l : List UInt8) (a : Option Addr) (len cap : Nat) (w : World)
    (hw8 : ws.length = 8) (hb : Blk w G T (rc kc ws buf A0.length)) (hi : Inv mix start A0 A0.length ws buf) (hl : IsB w a len cap l) (hG : 0 < len → ∀ b off, a = some ⟨b, off, none⟩ → b ≠ G) (hn : A0.length + len < 9223372036854775808) :
    Calls Try.prog 70 #[.pointer (some ⟨G, 0, none⟩), .slice a len cap] w fun e w' => e = .returned (.tuple #[]) ∧ ∃ ws' buf', ws'.length = 8 ∧ Blk w' G T (rc kc ws' buf' (A0.length + len)) ∧ Inv mix start (A0 ++ l) (A0.length + len) ws' buf' ∧ w.grownBy w' (some G) := by
  obtain ⟨n, hN⟩ : ∃ n, n = A0.length := ⟨_, rfl⟩
  rw [← hN] at hb hi hn ⊢
  have HN : Hid (n = A0.length) := hN
  clear hN
  have c82 := (hb.cell 82).trans (rc_taken kc ws buf n hk hw8 hi.size)
  have f82 := hb.frozen 82
  have HB : Hid (Blk w G T (rc kc ws buf n)) := hb
  have HI : Hid (Inv mix start A0 n ws buf) := hi
  have HL : Hid (IsB w a len cap l) := hl
  have hle := hl.le
  have hmx := hl.max
  unfold maxLen at hmx
  clear hb hi hl
  go_enter Try.func70, Try.ntmps70
  go_wp2
  have H0 : Hid (Blk (w.setCell ⟨G, 82, none⟩ (.int .u64 ((n : Int) + (len : Int)))) G T (rc kc ws buf (n + len))) := by
    have := HB.out.set 82 (.int .u64 ((n + len : Nat) : Int))
    rw [rc_setTaken kc ws buf n (n + len) hk hw8 HI.out.size] at this
    unfold Hid; rw [show ((n : Int) + (len : Int)) = ((n + len : Nat) : Int) by omega]; exact this
  have H1 : Hid (w.grownBy (w.setCell ⟨G, 82, none⟩ (.int .u64 ((n : Int) + (len : Int)))) (some G)) :=
    ⟨rfl, rfl, rfl, by simp [World.setCell], fun k _ hk => Below.heap_setCell _ _ _ _ (fun e => hk (by rw [e]))⟩
  have H2 : Hid (IsB (w.setCell ⟨G, 82, none⟩ (.int .u64 ((n : Int) + (len : Int)))) a len cap l) :=
    ⟨HL.out.len_eq, HL.out.le, HL.out.max, HL.out.nil, fun hp => by
      obtain ⟨b, off, e, hc⟩ := HL.out.cells hp
      exact ⟨b, off, e, fun i hi => by rw [World.cell?_setCell_other _ _ _ _ (fun e' => hG hp b off e (by injection e' with e1; exact e1.symm))]; exact hc i hi⟩⟩
  have HE : Hid (l.length = len) := HL.out.len_eq
  clear c82 f82 HB HL
  go_loopw [1, 4] (fun v i wr => ∃ (c p : Nat) (a' : Option Addr) (cap' : Nat) (ws' : List UInt32) (buf' : List UInt8), c ≤ len ∧ Hid ((n + c) % 64 = p) ∧ p < 64 ∧ v = .slice a' (len - c) cap' ∧ i = .int .i64 (p : Int) ∧ Hid (IsB wr a' (len - c) cap' (l.drop c)) ∧ (0 < len - c → ∀ b off, a' = some ⟨b, off, none⟩ → b ≠ G) ∧ Hid (ws'.length = 8) ∧ Blk wr G T (rc kc ws' buf' (n + len)) ∧ Hid (Inv mix start (A0 ++ l) (n + c) ws' buf') ∧ w.grownBy wr (some G))
    (fun v _ _ => sliceLen v)
  case atStart => exact ⟨0, n % 64, a, cap, ws, buf, by omega, rfl, Nat.mod_lt _ (by decide), rfl, by go_num, H2.out, hG, hw8, H0.out, HI.out.more (by rw [HN.out]; exact Nat.le_refl _) l, H1.out⟩
  case round =>
    clear H0 H1 H2 HI hG hw8
    obtain ⟨c, p, a', cap', ws', buf', hc, hp, hp64, rfl, rfl, hl', hG', hw8', hB, hI, hg⟩ := hrel
    obtain ⟨r, hr⟩ : ∃ r, len - c = r := ⟨_, rfl⟩
    rw [hr] at hl' hG' ⊢
    have Hr : Hid (len - c = r) := hr
    clear hr
    by_cases hr0 : 0 < r
    · obtain ⟨b, off, rfl, hcell⟩ := hl'.out.cells hr0
      have hbG := hG' hr0 b off rfl
      obtain ⟨m, hm1, hm2, hm3, hm4⟩ : ∃ m, m ≤ r ∧ m ≤ 64 - p ∧ 0 < m ∧ Nat.min r (64 - p) = m := ⟨Nat.min r (64 - p), Nat.min_le_left _ _, Nat.min_le_right _ _, by show 0 < min r (64 - p); omega, rfl⟩
      obtain ⟨x, hx⟩ : ∃ x, x = (l.drop c).take m := ⟨_, rfl⟩
      have hxl : x.length = m := by rw [hx, List.length_take, hl'.out.len_eq]; omega
      have HX : Hid (x = (l.drop c).take m) := hx
      have hcs : ∀ j v, (bv x)[j]? = some v → wr.cell? ((⟨b, off, none⟩ : Addr).add j) = some v := by
        intro j v hj
        have hjl : j < x.length := by
          rcases Nat.lt_or_ge j x.length with h | h
          · exact h
          · rw [List.getElem?_eq_none (by rw [bv_length]; exact h)] at hj; cases hj
        rw [bv_at x j hjl] at hj
        rw [Addr.add_lit, hcell j (by omega), ← hj, hx, nth_take _ _ _ (by omega)]
      have hrun : (Builtin.copy_ #[24, 24] 3 #[.slice (some ⟨G, 18 + p, none⟩) (64 - p) (64 - p), .slice (some ⟨b, off, none⟩) r cap']).run Try.prog wr = .ok (.int .i64 (m : Int)) (wr.setRow G (rc kc ws' (spl buf' p x) (n + len)).toArray) := by
        have h := run_copy_row (P := Try.prog) wr 24 24 3 5 G (18 + p) (64 - p) (64 - p) ⟨b, off, none⟩ r cap' _ T (bv x) Try.underlying24 infoR8 hB (by rw [bv_length, hxl, hm4]) hcs (by rw [bv_length, List.size_toArray, rc_length kc ws' buf' (n + len) hk hw8'.out hI.out.size]; omega) (bv_one x)
        rw [h]
        have hrc := rc_copy kc ws' buf' (n + len) p x hk hw8'.out hI.out.size (by omega)
        rw [List.append_assoc]
        show Result.ok _ (wr.setRow G ((rc kc ws' buf' (n + len)).take (18 + p) ++ (bv x ++ (rc kc ws' buf' (n + len)).drop (18 + p + (bv x).length))).toArray) = _
        rw [hrc, bv_length, hxl]; rfl
      have B2 : Hid (Blk (wr.setRow G (rc kc ws' (spl buf' p x) (n + len)).toArray) G T (rc kc ws' (spl buf' p x) (n + len))) := hB.row _
      have g2 : Hid (w.grownBy (wr.setRow G (rc kc ws' (spl buf' p x) (n + len)).toArray) (some G)) :=
        ⟨hg.os, hg.tape, hg.output, by have := hg.size; simpa [World.setRow] using this, fun k hk0 hk1 => by rw [setRow_other _ _ _ _ (fun e => hk1 (by rw [e]))]; exact hg.block k hk0 hk1⟩
      have L2 : Hid (IsB (wr.setRow G (rc kc ws' (spl buf' p x) (n + len)).toArray) (cutA b off cap' m) (r - m) (cap' - m) (l.drop (c + m))) := by
        have hle' := hl'.out.le
        refine ⟨by rw [List.length_drop, HE.out]; have := Hr.out; omega, by omega, by have := hl'.out.max; omega, fun e => (by unfold cutA at e; cases e), fun hp => ⟨b, off + m, by unfold cutA; rw [if_neg (by omega)], fun i hi => ?_⟩⟩
        rw [cell_setRow_other _ _ _ _ hbG, Nat.add_assoc, hcell (m + i) (by omega), nth_drop, nth_drop, Nat.add_assoc]
      have hcut : ∀ b' off', cutA b off cap' m = some ⟨b', off', none⟩ → b' ≠ G := by
        intro b' off' e
        unfold cutA at e
        split at e <;> (injection e with e; injection e with e1 _; rw [← e1]; exact hbG)
      have hA : ((A0 ++ l).drop (n + c)).take m = x := by
        rw [hx, HN.out, List.drop_append, List.drop_eq_nil_of_le (by omega), List.nil_append]
        congr 2; omega
      have hAl : n + c + m ≤ (A0 ++ l).length := by rw [List.length_append, HE.out, ← HN.out]; have := Hr.out; omega
      have I1 : Hid (p + m < 64 → Inv mix start (A0 ++ l) (n + (c + m)) ws' (spl buf' p x)) := by
        intro h
        have := hI.out.part (m := m) hAl (by rw [hp.out]; exact h)
        rw [hA, hp.out, Nat.add_assoc] at this; exact this
      have I2 : Hid (p + m = 64 → Inv mix start (A0 ++ l) (n + (c + m)) (mix ws' (spl buf' p x)) (spl buf' p x)) := by
        intro h
        have := hI.out.full (m := m) hAl (by rw [hp.out]; exact h)
        rw [hA, hp.out, Nat.add_assoc] at this; exact this
      have hsz2 : Hid ((spl buf' p x).length = 64) := by unfold Hid; rw [spl_length _ _ _ (by rw [hI.out.size]; omega)]; exact hI.out.size
      clear hcs hcell hB hg hI hx hA hAl hxl
      by_cases hfull : p + m = 64
      · have heq : ((p : Int) + (m : Int) == 64) = true := by simp; omega
        have hpm : (p : Int) + (m : Int) = 64 := by omega
        go_wp2
        obtain ⟨bf, hbf⟩ : ∃ bf, bf = spl buf' p x := ⟨_, rfl⟩
        rw [← hbf] at B2 g2 L2 I2 hsz2 hrun ⊢
        refine wp_named (fun w2 => Blk w2 G T (rc kc ws' bf (n + len)) ∧ IsB w2 (cutA b off cap' m) (r - m) (cap' - m) (l.drop (c + m)) ∧ w.grownBy w2 (some G)) ⟨B2.out, L2.out, g2.out⟩ ?_
        clear B2 L2 g2 hrun hbf I1
        rintro w2 ⟨B2, L2, g2⟩
        have r9 := (B2.cell 9).trans ((rc_kind kc ws' bf (n + len) 9 hk (by omega)).trans hf)
        have rw8 : w2.rangeAt G 10 (wv ws') := B2.range 10 _ (fun j v hj => by
          have hjl : j < ws'.length := by
            rcases Nat.lt_or_ge j ws'.length with h | h
            · exact h
            · rw [List.getElem?_eq_none (by rw [wv_length]; exact h)] at hj; cases hj
          rw [wv_at ws' j hjl] at hj
          rw [rc_word kc ws' bf (n + len) j hk hw8'.out (by have := hw8'.out; omega)]; exact hj)
        have rb64 : w2.rangeAt G 18 (bv bf) := B2.range 18 _ (fun j v hj => by
          have hjl : j < bf.length := by
            rcases Nat.lt_or_ge j bf.length with h | h
            · exact h
            · rw [List.getElem?_eq_none (by rw [bv_length]; exact h)] at hj; cases hj
          rw [bv_at bf j hjl] at hj
          rw [rc_byte kc ws' bf (n + len) j hk hw8'.out hsz2.out (by have := hsz2.out; omega)]; exact hj)
        have th8 : w2.there G 10 8 := B2.there 10 8 (by rw [rc_length kc ws' bf (n + len) hk hw8'.out hsz2.out]; omega)
        have hu35 := Try.underlying70
        have hi35 : (Try.prog.info? 70).map (·.size) = some (wv ws').length := by rw [wv_length, hw8'.out]; kernel_rfl
        have hi35' : (Try.prog.info? 70).map (·.size) = some (wv (mix ws' bf)).length := by rw [wv_length, hok.1]; kernel_rfl
        have hu51 := Try.underlying93
        have hi51 : (Try.prog.info? 93).map (·.size) = some (bv bf).length := by rw [bv_length, hsz2.out]; kernel_rfl
        have hl35 : (wv ws').length = 8 := by rw [wv_length, hw8'.out]
        have hl35' : (wv (mix ws' bf)).length = 8 := by rw [wv_length, hok.1]
        have hl51 : (bv bf).length = 64 := by rw [bv_length, hsz2.out]
        have ho35 := wv_one ws'
        have ho35' := wv_one (mix ws' bf)
        have ho51 := bv_one bf
        have HB2 : Hid (Blk w2 G T (rc kc ws' bf (n + len))) := B2
        have HL2 : Hid (IsB w2 (cutA b off cap' m) (r - m) (cap' - m) (l.drop (c + m))) := L2
        clear B2 L2
        refine wp_region_noPanic ?_
        refine wp_region_held_drew (S := fun w' => w'.cell? ⟨G, 9, none⟩ = some (.func (.func mf) #[] #[]) ∧ w'.rangeAt G 18 (bv bf) ∧ w'.there G 10 8) (by kernel_rfl) ⟨r9, rb64, th8⟩ (fun hHeld => ?_)
        refine takeH (some 40) (i := 0) (v := ?_) rfl (by kernel_rfl) (by kernel_rfl) (by kernel_rfl) (fun _ _ _ h => h) (Or.inl ⟨by rfl, ?_⟩) hHeld rfl ?_
        rotate_left
        · intro w hSw; obtain ⟨hS1, hS2, hS3⟩ := hSw; go_simp; with_reducible rfl
        simp only [Act.put, List.setIfInBounds_toArray, List.set_cons_zero, List.set_cons_succ]
        refine takeH (some 41) (i := 1) (v := ?_) rfl (by kernel_rfl) (by kernel_rfl) (by kernel_rfl) (fun _ _ _ h => h) (Or.inl ⟨by rfl, ?_⟩) hHeld rfl ?_
        rotate_left
        · intro w hSw; obtain ⟨hS1, hS2, hS3⟩ := hSw; go_simp; with_reducible rfl
        simp only [Act.put, List.setIfInBounds_toArray, List.set_cons_zero, List.set_cons_succ]
        refine takeH (some 42) (i := 2) (v := ?_) rfl (by kernel_rfl) (by kernel_rfl) (by kernel_rfl) (fun _ _ _ h => h) (Or.inl ⟨by rfl, ?_⟩) hHeld rfl ?_
        rotate_left
        · intro w hSw; obtain ⟨hS1, hS2, hS3⟩ := hSw; go_simp; with_reducible rfl
        simp only [Act.put, List.setIfInBounds_toArray, List.set_cons_zero, List.set_cons_succ]
        refine takeH (some 43) (i := 3) (v := ?_) rfl (by kernel_rfl) (by kernel_rfl) (by kernel_rfl) (fun _ _ _ h => h) (Or.inl ⟨by rfl, ?_⟩) hHeld rfl ?_
        rotate_left
        · intro w hSw; obtain ⟨hS1, hS2, hS3⟩ := hSw; go_simp; with_reducible rfl
        simp only [Act.put, List.setIfInBounds_toArray, List.set_cons_zero, List.set_cons_succ]
        refine takeH (some 44) (i := 4) (v := ?_) rfl (by kernel_rfl) (by kernel_rfl) (by kernel_rfl) (fun _ _ _ h => h) (Or.inl ⟨by rfl, ?_⟩) hHeld rfl ?_
        rotate_left
        · intro w hSw; obtain ⟨hS1, hS2, hS3⟩ := hSw; go_simp; with_reducible rfl
        simp only [Act.put, List.setIfInBounds_toArray, List.set_cons_zero, List.set_cons_succ]
        refine takeH (some 45) (i := 5) (v := ?_) rfl (by kernel_rfl) (by kernel_rfl) (by kernel_rfl) (fun _ _ _ h => h) (Or.inl ⟨by rfl, ?_⟩) hHeld rfl ?_
        rotate_left
        · intro w hSw; obtain ⟨hS1, hS2, hS3⟩ := hSw; go_simp; with_reducible rfl
        simp only [Act.put, List.setIfInBounds_toArray, List.set_cons_zero, List.set_cons_succ]
        refine takeH (some 46) (i := 6) (v := ?_) rfl (by kernel_rfl) (by kernel_rfl) (by kernel_rfl) (fun _ _ _ h => h) (Or.inl ⟨by rfl, ?_⟩) hHeld rfl ?_
        rotate_left
        · intro w hSw; obtain ⟨hS1, hS2, hS3⟩ := hSw; go_simp; with_reducible rfl
        simp only [Act.put, List.setIfInBounds_toArray, List.set_cons_zero, List.set_cons_succ]
        refine takeH (some 47) (i := 7) (v := ?_) rfl (by kernel_rfl) (by kernel_rfl) (by kernel_rfl) (fun _ _ _ h => h) (Or.inl ⟨by rfl, ?_⟩) hHeld rfl ?_
        rotate_left
        · intro w hSw; obtain ⟨hS1, hS2, hS3⟩ := hSw; go_simp; with_reducible rfl
        simp only [Act.put, List.setIfInBounds_toArray, List.set_cons_zero, List.set_cons_succ]
        refine takeH (some 48) (i := 8) (v := ?_) rfl (by kernel_rfl) (by kernel_rfl) (by kernel_rfl) (fun _ _ _ h => h) (Or.inl ⟨by rfl, ?_⟩) hHeld rfl ?_
        rotate_left
        · intro w hSw; obtain ⟨hS1, hS2, hS3⟩ := hSw; go_simp; with_reducible rfl
        simp only [Act.put, List.setIfInBounds_toArray, List.set_cons_zero, List.set_cons_succ]
        refine takeH (some 50) (i := 10) (v := ?_) rfl (by kernel_rfl) (by kernel_rfl) (by kernel_rfl) (fun _ _ _ h => h) (Or.inl ⟨by rfl, ?_⟩) hHeld rfl ?_
        rotate_left
        · intro w hSw; obtain ⟨hS1, hS2, hS3⟩ := hSw; go_simp; with_reducible rfl
        simp only [Act.put, List.setIfInBounds_toArray, List.set_cons_zero, List.set_cons_succ]
        refine takeH (some 51) (i := 11) (v := ?_) rfl (by kernel_rfl) (by kernel_rfl) (by kernel_rfl) (fun _ _ _ h => h) (Or.inl ⟨by rfl, ?_⟩) hHeld rfl ?_
        rotate_left
        · intro w hSw; obtain ⟨hS1, hS2, hS3⟩ := hSw; go_simp; with_reducible rfl
        simp only [Act.put, List.setIfInBounds_toArray, List.set_cons_zero, List.set_cons_succ]
        refine takeH (some 52) (i := 12) (v := ?_) rfl (by kernel_rfl) (by kernel_rfl) (by kernel_rfl) (fun _ _ _ h => h) (Or.inl ⟨by rfl, ?_⟩) hHeld rfl ?_
        rotate_left
        · intro w hSw; obtain ⟨hS1, hS2, hS3⟩ := hSw; go_simp; with_reducible rfl
        simp only [Act.put, List.setIfInBounds_toArray, List.set_cons_zero, List.set_cons_succ]
        refine takeH (some 53) (i := 13) (v := .agg (bv bf).toArray) rfl (by kernel_rfl) (by kernel_rfl) (by kernel_rfl) (fun _ _ _ h => h) (yieldsIf_load_mid (by rfl) _ _ rfl G 18 rfl (bv bf) _ (fun w h => h.2.1) hu51 rfl hi51) hHeld rfl ?_
        simp only [Act.put, List.setIfInBounds_toArray, List.set_cons_zero, List.set_cons_succ]
        refine oneLoadH 9 (some 49) rfl (by kernel_rfl) (by rfl) _ _ rfl G 10 rfl (wv ws') _ rw8 hu35 rfl hi35 rfl hHeld ?_
        simp only [Act.put, List.setIfInBounds_toArray, List.set_cons_zero, List.set_cons_succ]
        refine oneCallH 14 (some 54) rfl (by kernel_rfl) (by rfl) mf #[.agg (wv ws').toArray, .agg (bv bf).toArray] ?_ rfl (fun v w3 => v = .agg (wv (mix ws' bf)).toArray ∧ Below w2.heap.size w2 w3) ?_ ?_
        · have hcf := hok.2.1 #[.agg (wv ws').toArray, .agg (bv bf).toArray] w2.drew
          go_simp
        · exact (hok.2.2 ws' bf w2.drew hw8'.out hsz2.out).mono (by rintro e w3 ⟨rfl, h⟩; exact ⟨_, rfl, rfl, ⟨h.os, h.tape, h.output, h.size, h.block⟩⟩)
        rintro v w3 ⟨rfl, bel3⟩
        have B3 := HB2.out.on bel3
        have r9' := (B3.cell 9).trans ((rc_kind kc ws' bf (n + len) 9 hk (by omega)).trans hf)
        have th8' : w3.there G 10 8 := B3.there 10 8 (by rw [rc_length kc ws' bf (n + len) hk hw8'.out hsz2.out]; omega)
        have rb64' : w3.rangeAt G 18 (bv bf) := fun j v hj => by rw [bel3.cell (p := ⟨G, 18 + j, none⟩) HB2.out.lt]; exact rb64 j v hj
        refine ⟨⟨r9', rb64', th8'⟩, ?_⟩
        simp only [Act.put, List.setIfInBounds_toArray, List.set_cons_zero, List.set_cons_succ]
        have hHeld : w3.cell? ⟨G, 9, none⟩ = some (.func (.func mf) #[] #[]) ∧ w3.rangeAt G 18 (bv bf) ∧ w3.there G 10 8 := ⟨r9', rb64', th8'⟩
        refine takeH (some 55) (i := 15) (v := ?_) rfl (by kernel_rfl) (by kernel_rfl) (by kernel_rfl) (fun _ _ _ h => h) (Or.inl ⟨by rfl, ?_⟩) hHeld rfl ?_
        rotate_left
        · intro w hSw; obtain ⟨hS1, hS2, hS3⟩ := hSw; go_simp; with_reducible rfl
        simp only [Act.put, List.setIfInBounds_toArray, List.set_cons_zero, List.set_cons_succ]
        refine takeH (some 56) (i := 16) (v := ?_) rfl (by kernel_rfl) (by kernel_rfl) (by kernel_rfl) (fun _ _ _ h => h) (Or.inl ⟨by rfl, ?_⟩) hHeld rfl ?_
        rotate_left
        · intro w hSw; obtain ⟨hS1, hS2, hS3⟩ := hSw; go_simp; with_reducible rfl
        simp only [Act.put, List.setIfInBounds_toArray, List.set_cons_zero, List.set_cons_succ]
        have B4 := Blk.setCells (wv (mix ws' bf)) 10 w3 _ (by rw [hl35', rc_length kc ws' bf (n + len) hk hw8'.out hsz2.out]; omega) B3
        rw [hl35', rc_words kc ws' (mix ws' bf) bf (n + len) hk hw8'.out] at B4
        have hb4 : (mix ws' bf).length = 8 := hok.1 _ _
        refine oneStoreH 17 rfl (by kernel_rfl) (by rfl) _ _ _ rfl G 10 (wv (mix ws' bf)) rfl rfl (by rw [hl35']; exact th8') hi35' (wv_one _) rfl ⟨?_, ?_, ?_⟩ ?_
        · exact (B4.cell 9).trans ((rc_kind kc (mix ws' bf) bf (n + len) 9 hk (by omega)).trans hf)
        · exact World.rangeAt_setCells_apart rb64' _ _ _ (.inr (.inr (by rw [hl35']; omega)))
        · exact World.there_setCells th8' _ _ _
        refine wpAnyH_done (by kernel_rfl) ?_ _
        refine NoPanic.normal ?_
        go_wp2
        go_roundw
        case rel => exact ⟨c + m, 0, cutA b off cap' m, cap' - m, mix ws' bf, bf, by have := Hr.out; omega, by have := hp.out; unfold Hid; omega, by omega, by have := Hr.out; rw [show len - (c + m) = r - m by omega], rfl, by have := Hr.out; rw [show len - (c + m) = r - m by omega]; exact (HL2.out.below bel3 rfl).setCells G 10 _ (fun _ => hcut), fun _ => hcut, hb4, B4, I2.out hfull, gb_setCells (gb_below g2 bel3) 10 _⟩
        case measure => simp [sliceLen]; omega
      · have hne : ((p : Int) + (m : Int) == 64) = false := by simp; omega
        go_wp2
        go_roundw
        case rel => exact ⟨c + m, p + m, cutA b off cap' m, cap' - m, ws', spl buf' p x, by have := Hr.out; omega, by have := hp.out; unfold Hid; omega, by omega, by have := Hr.out; rw [show len - (c + m) = r - m by omega], by go_num, by have := Hr.out; rw [show len - (c + m) = r - m by omega]; exact L2.out, fun _ => hcut, hw8', B2.out, I1.out (by omega), g2.out⟩
        case measure => simp [sliceLen]; omega
    · have hr00 : r = 0 := by omega
      subst hr00
      have hcl : c = len := by have := Hr.out; omega
      go_wp2
      go_end0
      refine ⟨rfl, ws', buf', hw8'.out, hB, ?_, hg⟩
      have := hI.out
      rw [hcl] at this; exact this
end Go.Proofs.Ytbclhaleibjkgaa
