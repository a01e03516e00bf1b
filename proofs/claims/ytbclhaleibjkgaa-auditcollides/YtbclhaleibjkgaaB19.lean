/- Plain facts: what is laid behind a text, and how a digest's words become bytes. · What the run's sum answers. -/
import Derived.Test.YtbclhaleibjkgaaAbsorb
import Derived.Test.YtbclhaleibjkgaaAdd
namespace Go.Proofs.Ytbclhaleibjkgaa

/-- how many zeros -/
def zN (n : Nat) : Nat := (119 - n % 64) % 64
theorem zN_lt (n : Nat) : zN n < 64 := Nat.mod_lt _ (by decide)
theorem zN_wrap (n : Nat) : IntKind.u64.wrap (55 - (n : Int)) % 64 = (zN n : Int) := by
  unfold zN
  simp [IntKind.wrap, IntKind.signed, IntKind.bits]
  omega
theorem zN_tmod (n : Nat) : (IntKind.u64.wrap (55 - (n : Int))).tmod 64 = (zN n : Int) := by
  rw [Int.tmod_eq_emod_of_nonneg (by simp [IntKind.wrap, IntKind.signed, IntKind.bits]; omega)]; exact zN_wrap n
theorem zN_len (n : Nat) : (n + (1 + zN n + 8)) % 64 = 0 := by unfold zN; omega

/-- byte i of eight, the highest first -/
def be (N i : Nat) : UInt8 := UInt8.ofNat (N / 2 ^ (56 - 8 * i))
def be8 (N : Nat) : List UInt8 := (List.range 8).map (be N)
def padOf (n : Nat) : List UInt8 := 128 :: (List.replicate (zN n) 0 ++ be8 (n * 8))
theorem padOf_length (n : Nat) : (padOf n).length = 1 + zN n + 8 := by simp [padOf, be8]; omega

theorem nth_set (l : List UInt8) (i k : Nat) (x : UInt8) (h : i < l.length) : nth (l.set i x) k = if k = i then x else nth l k := by
  unfold nth
  rw [List.getD_eq_getElem?_getD, List.getD_eq_getElem?_getD, List.getElem?_set]
  by_cases e : i = k
  · subst e; simp [h]
  · rw [if_neg e, if_neg (fun e' => e e'.symm)]
theorem nth_replicate (n k : Nat) : nth (List.replicate n 0) k = 0 := by
  unfold nth; rw [List.getD_eq_getElem?_getD, List.getElem?_replicate]; split <;> rfl
theorem nth_range (f : Nat → UInt8) (n k : Nat) (h : k < n) : nth ((List.range n).map f) k = f k := by
  rw [nth_eq _ _ (by simpa using h)]; simp

/-- the pad's array behind j rounds -/
def pl (z N : Nat) : Nat → List UInt8
  | 0 => (List.replicate 72 0).set 0 128
  | j + 1 => (pl z N j).set (1 + z + j) (be N j)
theorem pl_length (z N : Nat) : ∀ j, (pl z N j).length = 72
  | 0 => by simp [pl]
  | j + 1 => by rw [pl, List.length_set]; exact pl_length z N j
theorem pl_nth (z N : Nat) (hz : z < 64) : ∀ j, j ≤ 8 → ∀ i, i < 72 → nth (pl z N j) i = if i = 0 then 128 else if 1 + z ≤ i ∧ i < 1 + z + j then be N (i - (1 + z)) else 0
  | 0, _, i, hi => by
    rw [pl, nth_set _ _ _ _ (by simp), nth_replicate]
    by_cases e : i = 0
    · rw [if_pos e, if_pos e]
    · rw [if_neg e, if_neg e, if_neg (by omega)]
  | j + 1, hj, i, hi => by
    rw [pl, nth_set _ _ _ _ (by rw [pl_length]; omega), pl_nth z N hz j (by omega) i hi]
    by_cases e : i = 1 + z + j
    · rw [if_pos e, if_neg (by omega), if_pos (by omega)]
      congr 1; omega
    · rw [if_neg e]
      by_cases e0 : i = 0
      · rw [if_pos e0, if_pos e0]
      · rw [if_neg e0, if_neg e0]
        by_cases e1 : 1 + z ≤ i ∧ i < 1 + z + j
        · rw [if_pos e1, if_pos (by omega)]
        · rw [if_neg e1, if_neg (by omega)]
theorem pl_take (n : Nat) : (pl (zN n) (n * 8) 8).take (1 + zN n + 8) = padOf n := by
  have hz := zN_lt n
  refine extNth _ _ (by rw [List.length_take, pl_length, padOf_length]; omega) fun i hi => ?_
  rw [List.length_take, pl_length] at hi
  rw [nth_take _ _ _ (by omega), pl_nth _ _ hz 8 (by omega) i (by omega)]
  unfold padOf
  by_cases e0 : i = 0
  · subst e0; rw [if_pos rfl]; rfl
  · rw [if_neg e0]
    obtain ⟨k, rfl⟩ : ∃ k, i = k + 1 := ⟨i - 1, by omega⟩
    have : nth (128 :: (List.replicate (zN n) 0 ++ be8 (n * 8))) (k + 1) = nth (List.replicate (zN n) 0 ++ be8 (n * 8)) k := by simp [nth]
    rw [this]
    by_cases e1 : k < zN n
    · rw [if_neg (by omega), nth_append_left _ _ _ (by simpa using e1), nth_replicate]
    · rw [if_pos (by omega), nth_append_right _ _ _ (by simpa using e1), List.length_replicate]
      unfold be8
      rw [nth_range _ _ _ (by omega)]
      congr 1; omega

/-- byte i of a digest's words -/
def dgW (ws : List UInt32) (i : Nat) : UInt8 := UInt8.ofNat ((nthW ws (i / 4)).toNat / 2 ^ (24 - 8 * (i % 4)))
def outB (ws : List UInt32) (k : Nat) : List UInt8 := (List.range k).map (dgW ws)
theorem outB_length (ws : List UInt32) (k : Nat) : (outB ws k).length = k := by simp [outB]
theorem outB_succ (ws : List UInt32) (k : Nat) : outB ws (k + 1) = outB ws k ++ [dgW ws k] := by
  unfold outB; rw [List.range_succ, List.map_append]; rfl
def outF (ws : List UInt32) (n k : Nat) : List UInt8 := outB ws k ++ List.replicate (n - k) 0
theorem outF_length (ws : List UInt32) (n k : Nat) (h : k ≤ n) : (outF ws n k).length = n := by simp [outF, outB_length]; omega
theorem outF_set (ws : List UInt32) (n k : Nat) (h : k < n) : (outF ws n k).set k (dgW ws k) = outF ws n (k + 1) := by
  unfold outF
  obtain ⟨m, hm⟩ : ∃ m, n - k = m + 1 := ⟨n - k - 1, by omega⟩
  have hm' : n - (k + 1) = m := by omega
  rw [hm, hm', outB_succ, List.set_append_right _ _ (by rw [outB_length]; exact Nat.le_refl _), outB_length, Nat.sub_self, List.replicate_succ, List.set_cons_zero, List.append_assoc]
  rfl

/-- the whole: the digest of A -/
def hashL (mix : List UInt32 → List UInt8 → List UInt32) (start : List UInt32) (size : Nat) (A : List UInt8) : List UInt8 :=
  outB (ab mix start (A ++ padOf A.length) ((A.length + (1 + zN A.length + 8)) / 64)) size

theorem be_val (n i : Nat) : (n : Int) * 8 / 2 ^ (56 - 8 * i) % 256 = ((be (n * 8) i).toNat : Int) := by
  unfold be; rw [UInt8.toNat_ofNat', Int.natCast_emod, Int.natCast_ediv, Int.natCast_mul, Int.natCast_pow]; rfl
theorem dgW_val (ws : List UInt32) (i : Nat) : ((nthW ws (i / 4)).toNat : Int) / 2 ^ (24 - 8 * (i % 4)) % 256 = ((dgW ws i).toNat : Int) := by
  unfold dgW; rw [UInt8.toNat_ofNat', Int.natCast_emod, Int.natCast_ediv, Int.natCast_pow]; rfl
theorem byte_of (N k : Nat) : IntKind.u8.wrap ((N / 2 ^ k : Nat) : Int) = ((UInt8.ofNat (N / 2 ^ k)).toNat : Int) := by
  rw [UInt8.toNat_ofNat']
  simp [IntKind.wrap, IntKind.signed, IntKind.bits]
end Go.Proofs.Ytbclhaleibjkgaa
namespace Go.Proofs.Ytbclhaleibjkgaa
open Go.RowKit

theorem zero72 : (Try.prog.info? 106).map (·.zero) = some (some (.agg (bv (List.replicate 72 0)).toArray)) := by kernel_rfl
theorem zv72 (w : World) : (zeroValue 106).run Try.prog w = .ok (.agg (bv (List.replicate 72 0)).toArray) w := by
  have h := zero72
  cases hq : Try.prog.info? 106 with
  | none => rw [hq] at h; cases h
  | some i =>
    rw [hq] at h
    have hz : i.zero = some (.agg (bv (List.replicate 72 0)).toArray) := by simpa using h
    simp [zeroValue, typeInfo, hq, hz]
theorem slP (G z : Nat) (hz : z < 64) (w : World) : (Instr.sliceAt 106 (.pointer (some ⟨G, 0, none⟩)) none (some (.int .i64 (1 + (z : Int) + 8))) none).run Try.prog w = .ok (.slice (some ⟨G, 0, none⟩) (1 + z + 8) 72) w := by
  have he : Try.prog.elem 106 = 5 := by kernel_rfl
  have hn : Try.prog.arrayLen 106 = 72 := by kernel_rfl
  have hz1 : (sizeOf 5).run Try.prog w = .ok 1 w := by
    obtain ⟨i0, hi, hz0, hz1, hz2⟩ := info_parts info8
    simp [sizeOf, typeInfo, hi, hz1]
  rw [run_sliceAt_array_h w 106 ⟨G, 0, none⟩ (by rw [he, hn]; exact Try.underlying106) .i64 (1 + (z : Int) + 8) (by omega) (by rw [hn]; omega), he, hn, hz1]
  have e : (1 + (z : Int) + 8).toNat = 1 + z + 8 := by omega
  simp only [Result.andThen, slicedAt, e]
  rfl
attribute [local go_sem ↓] zv72 slP

set_option maxRecDepth 20000 in
set_option maxHeartbeats 1000000 in
theorem digSum (mf : Nat) (mix : List UInt32 → List UInt8 → List UInt32) (start : List UInt32) (hok : MixOK mf mix) (size : Nat) (hsz : size ≤ 32) (kc : List Value) (hk : kc.length = 10) (hf : kc[9]? = some (.func (.func mf) #[] #[])) (hk0 : kc[0]? = some (.int .i64 (size : Int)))
    (ws : List UInt32) (buf : List UInt8) (A : List UInt8) (w : World) (hw8 : ws.length = 8) (hi : Inv mix start A A.length ws buf) (hn : A.length < 4294967296) :
    Calls Try.prog 71 #[.agg (rc kc ws buf A.length).toArray] w fun e w' => ∃ v, e = .returned v ∧ OwnB w' w.heap.size v (hashL mix start size A) ∧ Below w.heap.size w w' := by
  obtain ⟨n, hN⟩ : ∃ n, n = A.length := ⟨_, rfl⟩
  rw [← hN] at hi hn ⊢
  have HN : Hid (n = A.length) := hN
  clear hN
  have HI : Hid (Inv mix start A n ws buf) := hi
  have HB : Hid (Blk (w.alloc (.cells (rc kc ws buf n).toArray 95)) w.heap.size 95 (rc kc ws buf n)) := Blk.new w _ _
  have c82 : (w.alloc (.cells (rc kc ws buf n).toArray 95)).cell? ⟨w.heap.size, 82, none⟩ = some (.int .u64 (n : Int)) := (HB.out.cell 82).trans (rc_taken kc ws buf n hk hw8 hi.size)
  have hz := zN_tmod n
  have hz64 := zN_lt n
  generalize hzz : zN n = z at *
  have HZ : Hid (zN n = z) := hzz
  clear hzz hi
  go_enter Try.func71, Try.ntmps71
  go_wp2
  go_loopw [18] (fun c wr => ∃ j : Nat, j ≤ 8 ∧ c = .int .i64 j ∧ Blk wr w.heap.size 95 (rc kc ws buf n) ∧ Blk wr (w.heap.size + 1) 106 (bv (pl z (n * 8) j)) ∧ Below w.heap.size w wr) (fun c _ => 8 - (intOf c).toNat)
  case atStart => exact ⟨0, by omega, rfl, (Blk.newAt w _ _ _ _ rfl rfl).alloc _, Blk.newAt _ _ _ _ (bv (pl z (n * 8) 0)) (by simp) rfl, ((Below.refl _ _).alloc (Nat.le_refl _) _).alloc (by simp) _⟩
  case round =>
    clear c82 HB
    obtain ⟨j, hj, rfl, b0, b1, hbel⟩ := hrel
    by_cases hlt : j < 8
    · have hc := (b1.cell (1 + z + j)).trans (bv_at _ (1 + z + j) (by rw [pl_length]; omega))
      have ff := b1.frozen (1 + z + j)
      have HV : Hid ((n : Int) * 8 / 2 ^ (56 - 8 * j) % 256 = ((be (n * 8) j).toNat : Int)) := be_val n j
      have HS : Hid (Blk (wr.setCell ⟨w.heap.size + 1, 1 + z + j, none⟩ (.int .u8 ((be (n * 8) j).toNat : Int))) (w.heap.size + 1) 106 (bv (pl z (n * 8) (j + 1)))) := by
        have := b1.set (1 + z + j) (.int .u8 ((be (n * 8) j).toNat : Int))
        have e : (bv (pl z (n * 8) j)).set (1 + z + j) (.int .u8 ((be (n * 8) j).toNat : Int)) = bv (pl z (n * 8) (j + 1)) := by rw [pl]; unfold bv; rw [List.map_set]
        rw [e] at this; exact this
      have H0 : Hid (Blk wr w.heap.size 95 (rc kc ws buf n)) := b0
      clear b0 b1
      have h1 : 1 + (z : Int) + (j : Int) < 72 := by omega
      have h2 : (0 : Int) ≤ 1 + (z : Int) + (j : Int) := by omega
      have h3 : (0 : Int) ≤ 56 - 8 * (j : Int) := by omega
      have h4 : 56 - 8 * (j : Int) ≤ 64 := by omega
      go_wp2
      go_roundw
      case rel => exact ⟨j + 1, by omega, by go_num, H0.out.other _ _ (by show w.heap.size ≠ w.heap.size + 1; omega), by rw [HV.out]; exact HS.out, hbel.setCell (by show w.heap.size ≤ w.heap.size + 1; omega) _⟩
      case measure => simp [intOf]; omega
    · have b1 : Blk wr (w.heap.size + 1) 106 (bv (pl z (n * 8) 8)) := by
        have e : j = 8 := by omega
        subst e; exact b1
      have HP : Hid (IsB wr (some ⟨w.heap.size + 1, 0, none⟩) (1 + z + 8) 72 (padOf n)) := by
        refine ⟨by rw [padOf_length, HZ.out], by omega, by decide, fun e => (by cases e), fun _ => ⟨w.heap.size + 1, 0, rfl, fun i hi => ?_⟩⟩
        rw [Nat.zero_add, b1.cell, bv_at _ _ (by rw [pl_length]; omega), ← pl_take n, HZ.out, nth_take _ _ _ (by omega)]
      have HB2 : Hid (Blk wr w.heap.size 95 (rc kc ws buf n)) := b0
      clear b0 b1
      go_wp2_with fail
      have hadd := digAdd mf mix start hok kc hk hf w.heap.size 95 ws buf A (padOf n) (some ⟨w.heap.size + 1, 0, none⟩) (1 + z + 8) 72 wr hw8 (by rw [← HN.out]; exact HB2.out) (by rw [← HN.out]; exact HI.out) HP.out (fun _ b off e => by injection e with e; injection e with e1 _; omega) (by rw [← HN.out]; omega)
      rw [← HN.out] at hadd
      refine hadd.mono ?_
      rintro e w3 ⟨rfl, ws', buf', hw8', b3, hI3, hg3⟩
      have hbel3 : Below w.heap.size w w3 := hbel.grown hg3 hbel.size (fun k hk => by injection hk with hk; omega)
      have HW : Hid (ws' = ab mix start (A ++ padOf n) ((n + (1 + z + 8)) / 64)) := hI3.words
      have hb3 : Hid (buf'.length = 64) := hI3.size
      clear hadd hI3 hg3 hbel HB2 HP
      have c0 : w3.cell? ⟨w.heap.size, 0, none⟩ = some (.int .i64 (size : Int)) := (b3.cell 0).trans ((rc_kind kc ws' buf' _ 0 hk (by omega)).trans hk0)
      go_wp2_with (at_make; refine make_full8 _ rfl _ _ rfl w.heap.size .i64 .i64 _ _ size rfl rfl rfl rfl (by omega) hbel3.size ?_; intro w4 hown4 hgrow4)
      have b4 : Blk w4 w.heap.size 95 (rc kc ws' buf' (n + (1 + z + 8))) := by
        unfold Blk; rw [hgrow4.block _ b3.lt (by intro e; cases e)]; exact b3
      have hbel4 : Below w.heap.size w w4 := hbel3.grown hgrow4 hbel3.size (fun k hk => by cases hk)
      have hG3 : w.heap.size < w3.heap.size := b3.lt
      clear b3 hbel3 hgrow4 c0 hlt hj hz
      generalize hg3 : w3.heap.size = g3 at *
      clear hg3
      go_loopw [44] (fun c wr => ∃ k : Nat, k ≤ size ∧ c = .int .i64 k ∧ Blk wr w.heap.size 95 (rc kc ws' buf' (n + (1 + z + 8))) ∧ OwnB wr w.heap.size (.slice (some ⟨g3, 0, none⟩) size size) (outF ws' size k) ∧ Below w.heap.size w wr) (fun c _ => size - (intOf c).toNat)
      case atStart => exact ⟨0, Nat.zero_le _, rfl, b4, hown4, hbel4⟩
      case round =>
        clear b4 hown4 hbel4
        obtain ⟨k, hk', rfl, b5, hown5, hbel5⟩ := hrel
        by_cases hlt : k < size
        · have cw := (b5.cell (10 + k / 4)).trans (rc_word kc ws' buf' _ (k / 4) hk hw8' (by omega))
          have co := hown5.cellAt (outF_length ws' size k hk') k hlt
          have fo := hown5.frozenAt (outF_length ws' size k hk') k
          have HS : Hid (OwnB (wr.setCell ⟨g3, k, none⟩ (.int .u8 ((dgW ws' k).toNat : Int))) w.heap.size (.slice (some ⟨g3, 0, none⟩) size size) (outF ws' size (k + 1))) := by
            have := hown5.set (outF_length ws' size k hk') k (dgW ws' k)
            rw [outF_set ws' size k hlt] at this; exact this
          have HV : Hid (((nthW ws' (k / 4)).toNat : Int) / 2 ^ (24 - 8 * (k % 4)) % 256 = ((dgW ws' k).toNat : Int)) := dgW_val ws' k
          have H5 : Hid (Blk wr w.heap.size 95 (rc kc ws' buf' (n + (1 + z + 8)))) := b5
          clear b5 hown5
          have e1 : (k : Int) / 4 < 8 := by omega
          have e2 : (0 : Int) ≤ (k : Int) / 4 := by omega
          have e3 : (0 : Int) ≤ 24 - 8 * ((k : Int) % 4) := by omega
          have e4 : 24 - 8 * ((k : Int) % 4) ≤ 32 := by omega
          have e5 : (k : Int) < (size : Int) := by omega
          go_wp2
          go_roundw
          case rel => exact ⟨k + 1, by omega, by go_num, H5.out.other _ _ (by show w.heap.size ≠ g3; omega), by rw [HV.out]; exact HS.out, hbel5.setCell (by show w.heap.size ≤ g3; omega) _⟩
          case measure => simp [intOf]; omega
        · have HK : Hid (outF ws' size k = hashL mix start size A) := by
            have e : k = size := by omega
            subst e
            unfold Hid outF hashL
            rw [Nat.sub_self, ← HN.out, HZ.out, ← HW.out]; simp
          rw [HK.out] at hown5
          go_wp2
          go_ret
          exact ⟨_, rfl, hown5, hbel5⟩
end Go.Proofs.Ytbclhaleibjkgaa
