/- Plain facts: what is laid behind a text, and how a digest's words become bytes. · What the run's sum answers. · What word and schedule256 answer. -/
import Derived.Test.YthjdmfbengpepaaGreatB7
import Derived.Test.YthjdmfbengpepaaGreatAdd
namespace Go.Proofs.YthjdmfbengpepaaGreat

/-- how many zeros -/
def zN (n : Nat) : Nat := (119 - n % 64) % 64
theorem zN_lt (n : Nat) : zN n < 64 := Nat.mod_lt _ (by decide)
theorem zN_wrap (n : Nat) : IntKind.u64.wrap (55 - (n : Int)) % 64 = (zN n : Int) := by
  unfold zN
  simp [IntKind.wrap, IntKind.signed, IntKind.bits]
  omega
theorem zN_tmod (n : Nat) : (IntKind.u64.wrap (55 - (n : Int))).tmod 64 = (zN n : Int) := by
  rw [Int.tmod_eq_emod_of_nonneg (by simp [IntKind.wrap, IntKind.signed, IntKind.bits]; omega)]; exact zN_wrap n
theorem zN_len (n : Nat) : (n + (1 + zN n + 8)) % 64 = 0 := by unfold zN; omega

/-- byte i of eight, the highest first -/
def be (N i : Nat) : UInt8 := UInt8.ofNat (N / 2 ^ (56 - 8 * i))
def be8 (N : Nat) : List UInt8 := (List.range 8).map (be N)
def padOf (n : Nat) : List UInt8 := 128 :: (List.replicate (zN n) 0 ++ be8 (n * 8))
theorem padOf_length (n : Nat) : (padOf n).length = 1 + zN n + 8 := by simp [padOf, be8]; omega

theorem nth_set (l : List UInt8) (i k : Nat) (x : UInt8) (h : i < l.length) : nth (l.set i x) k = if k = i then x else nth l k := by
  unfold nth
  rw [List.getD_eq_getElem?_getD, List.getD_eq_getElem?_getD, List.getElem?_set]
  by_cases e : i = k
  · subst e; simp [h]
  · rw [if_neg e, if_neg (fun e' => e e'.symm)]
theorem nth_replicate (n k : Nat) : nth (List.replicate n 0) k = 0 := by
  unfold nth; rw [List.getD_eq_getElem?_getD, List.getElem?_replicate]; split <;> rfl
theorem nth_range (f : Nat → UInt8) (n k : Nat) (h : k < n) : nth ((List.range n).map f) k = f k := by
  rw [nth_eq _ _ (by simpa using h)]; simp

/-- the pad's array behind j rounds -/
def pl (z N : Nat) : Nat → List UInt8
  | 0 => (List.replicate 72 0).set 0 128
  | j + 1 => (pl z N j).set (1 + z + j) (be N j)
theorem pl_length (z N : Nat) : ∀ j, (pl z N j).length = 72
  | 0 => by simp [pl]
  | j + 1 => by rw [pl, List.length_set]; exact pl_length z N j
theorem pl_nth (z N : Nat) (hz : z < 64) : ∀ j, j ≤ 8 → ∀ i, i < 72 → nth (pl z N j) i = if i = 0 then 128 else if 1 + z ≤ i ∧ i < 1 + z + j then be N (i - (1 + z)) else 0
  | 0, _, i, hi => by
    rw [pl, nth_set _ _ _ _ (by simp), nth_replicate]
    by_cases e : i = 0
    · rw [if_pos e, if_pos e]
    · rw [if_neg e, if_neg e, if_neg (by omega)]
  | j + 1, hj, i, hi => by
    rw [pl, nth_set _ _ _ _ (by rw [pl_length]; omega), pl_nth z N hz j (by omega) i hi]
    by_cases e : i = 1 + z + j
    · rw [if_pos e, if_neg (by omega), if_pos (by omega)]
      congr 1; omega
    · rw [if_neg e]
      by_cases e0 : i = 0
      · rw [if_pos e0, if_pos e0]
      · rw [if_neg e0, if_neg e0]
        by_cases e1 : 1 + z ≤ i ∧ i < 1 + z + j
        · rw [if_pos e1, if_pos (by omega)]
        · rw [if_neg e1, if_neg (by omega)]
theorem pl_take (n : Nat) : (pl (zN n) (n * 8) 8).take (1 + zN n + 8) = padOf n := by
  have hz := zN_lt n
  refine extNth _ _ (by rw [List.length_take, pl_length, padOf_length]; omega) fun i hi => ?_
  rw [List.length_take, pl_length] at hi
  rw [nth_take _ _ _ (by omega), pl_nth _ _ hz 8 (by omega) i (by omega)]
  unfold padOf
  by_cases e0 : i = 0
  · subst e0; rw [if_pos rfl]; rfl
  · rw [if_neg e0]
    obtain ⟨k, rfl⟩ : ∃ k, i = k + 1 := ⟨i - 1, by omega⟩
    have : nth (128 :: (List.replicate (zN n) 0 ++ be8 (n * 8))) (k + 1) = nth (List.replicate (zN n) 0 ++ be8 (n * 8)) k := by simp [nth]
    rw [this]
    by_cases e1 : k < zN n
    · rw [if_neg (by omega), nth_append_left _ _ _ (by simpa using e1), nth_replicate]
    · rw [if_pos (by omega), nth_append_right _ _ _ (by simpa using e1), List.length_replicate]
      unfold be8
      rw [nth_range _ _ _ (by omega)]
      congr 1; omega

/-- byte i of a digest's words -/
def dgW (ws : List UInt32) (i : Nat) : UInt8 := UInt8.ofNat ((nthW ws (i / 4)).toNat / 2 ^ (24 - 8 * (i % 4)))
def outB (ws : List UInt32) (k : Nat) : List UInt8 := (List.range k).map (dgW ws)
theorem outB_length (ws : List UInt32) (k : Nat) : (outB ws k).length = k := by simp [outB]
theorem outB_succ (ws : List UInt32) (k : Nat) : outB ws (k + 1) = outB ws k ++ [dgW ws k] := by
  unfold outB; rw [List.range_succ, List.map_append]; rfl
def outF (ws : List UInt32) (n k : Nat) : List UInt8 := outB ws k ++ List.replicate (n - k) 0
theorem outF_length (ws : List UInt32) (n k : Nat) (h : k ≤ n) : (outF ws n k).length = n := by simp [outF, outB_length]; omega
theorem outF_set (ws : List UInt32) (n k : Nat) (h : k < n) : (outF ws n k).set k (dgW ws k) = outF ws n (k + 1) := by
  unfold outF
  obtain ⟨m, hm⟩ : ∃ m, n - k = m + 1 := ⟨n - k - 1, by omega⟩
  have hm' : n - (k + 1) = m := by omega
  rw [hm, hm', outB_succ, List.set_append_right _ _ (by rw [outB_length]; exact Nat.le_refl _), outB_length, Nat.sub_self, List.replicate_succ, List.set_cons_zero, List.append_assoc]
  rfl

/-- the whole: the digest of A -/
def hashL (mix : List UInt32 → List UInt8 → List UInt32) (start : List UInt32) (size : Nat) (A : List UInt8) : List UInt8 :=
  outB (ab mix start (A ++ padOf A.length) ((A.length + (1 + zN A.length + 8)) / 64)) size

theorem be_val (n i : Nat) : (n : Int) * 8 / 2 ^ (56 - 8 * i) % 256 = ((be (n * 8) i).toNat : Int) := by
  unfold be; rw [UInt8.toNat_ofNat', Int.natCast_emod, Int.natCast_ediv, Int.natCast_mul, Int.natCast_pow]; rfl
theorem dgW_val (ws : List UInt32) (i : Nat) : ((nthW ws (i / 4)).toNat : Int) / 2 ^ (24 - 8 * (i % 4)) % 256 = ((dgW ws i).toNat : Int) := by
  unfold dgW; rw [UInt8.toNat_ofNat', Int.natCast_emod, Int.natCast_ediv, Int.natCast_pow]; rfl
theorem byte_of (N k : Nat) : IntKind.u8.wrap ((N / 2 ^ k : Nat) : Int) = ((UInt8.ofNat (N / 2 ^ k)).toNat : Int) := by
  rw [UInt8.toNat_ofNat']
  simp [IntKind.wrap, IntKind.signed, IntKind.bits]
end Go.Proofs.YthjdmfbengpepaaGreat
namespace Go.Proofs.YthjdmfbengpepaaGreat
open Go.RowKit

theorem zero72 : (Tryz.prog.info? 214).map (·.zero) = some (some (.agg (bv (List.replicate 72 0)).toArray)) := by kernel_rfl
theorem zv72 (w : World) : (zeroValue 214).run Tryz.prog w = .ok (.agg (bv (List.replicate 72 0)).toArray) w := by
  have h := zero72
  cases hq : Tryz.prog.info? 214 with
  | none => rw [hq] at h; cases h
  | some i =>
    rw [hq] at h
    have hz : i.zero = some (.agg (bv (List.replicate 72 0)).toArray) := by simpa using h
    simp [zeroValue, typeInfo, hq, hz]
theorem slP (G z : Nat) (hz : z < 64) (w : World) : (Instr.sliceAt 214 (.pointer (some ⟨G, 0, none⟩)) none (some (.int .i64 (1 + (z : Int) + 8))) none).run Tryz.prog w = .ok (.slice (some ⟨G, 0, none⟩) (1 + z + 8) 72) w := by
  have he : Tryz.prog.elem 214 = 5 := by kernel_rfl
  have hn : Tryz.prog.arrayLen 214 = 72 := by kernel_rfl
  have hz1 : (sizeOf 5).run Tryz.prog w = .ok 1 w := by
    obtain ⟨i0, hi, hz0, hz1, hz2⟩ := info_parts info8
    simp [sizeOf, typeInfo, hi, hz1]
  rw [run_sliceAt_array_h w 214 ⟨G, 0, none⟩ (by rw [he, hn]; exact Tryz.underlying214) .i64 (1 + (z : Int) + 8) (by omega) (by rw [hn]; omega), he, hn, hz1]
  have e : (1 + (z : Int) + 8).toNat = 1 + z + 8 := by omega
  simp only [Result.andThen, slicedAt, e]
  rfl
attribute [local go_sem ↓] zv72 slP

set_option maxRecDepth 20000 in
set_option maxHeartbeats 1000000 in
theorem digSum (mf : Nat) (mix : List UInt32 → List UInt8 → List UInt32) (start : List UInt32) (hok : MixOK mf mix) (size : Nat) (hsz : size ≤ 32) (kc : List Value) (hk : kc.length = 10) (hf : kc[9]? = some (.func (.func mf) #[] #[])) (hk0 : kc[0]? = some (.int .i64 (size : Int)))
    (ws : List UInt32) (buf : List UInt8) (A : List UInt8) (w : World) (hw8 : ws.length = 8) (hi : Inv mix start A A.length ws buf) (hn : A.length < 4294967296) :
    Calls Tryz.prog 138 #[.agg (rc kc ws buf A.length).toArray] w fun e w' => ∃ v, e = .returned v ∧ OwnB w' w.heap.size v (hashL mix start size A) ∧ Below w.heap.size w w' := by
  obtain ⟨n, hN⟩ : ∃ n, n = A.length := ⟨_, rfl⟩
  rw [← hN] at hi hn ⊢
  have HN : Hid (n = A.length) := hN
  clear hN
  have HI : Hid (Inv mix start A n ws buf) := hi
  have HB : Hid (Blk (w.alloc (.cells (rc kc ws buf n).toArray 192)) w.heap.size 192 (rc kc ws buf n)) := Blk.new w _ _
  have c82 : (w.alloc (.cells (rc kc ws buf n).toArray 192)).cell? ⟨w.heap.size, 82, none⟩ = some (.int .u64 (n : Int)) := (HB.out.cell 82).trans (rc_taken kc ws buf n hk hw8 hi.size)
  have hz := zN_tmod n
  have hz64 := zN_lt n
  generalize hzz : zN n = z at *
  have HZ : Hid (zN n = z) := hzz
  clear hzz hi
  go_enter Tryz.func138, Tryz.ntmps138
  go_wp2
  go_loopw [18] (fun c wr => ∃ j : Nat, j ≤ 8 ∧ c = .int .i64 j ∧ Blk wr w.heap.size 192 (rc kc ws buf n) ∧ Blk wr (w.heap.size + 1) 214 (bv (pl z (n * 8) j)) ∧ Below w.heap.size w wr) (fun c _ => 8 - (intOf c).toNat)
  case atStart => exact ⟨0, by omega, rfl, (Blk.newAt w _ _ _ _ rfl rfl).alloc _, Blk.newAt _ _ _ _ (bv (pl z (n * 8) 0)) (by simp) rfl, ((Below.refl _ _).alloc (Nat.le_refl _) _).alloc (by simp) _⟩
  case round =>
    clear c82 HB
    obtain ⟨j, hj, rfl, b0, b1, hbel⟩ := hrel
    by_cases hlt : j < 8
    · have hc := (b1.cell (1 + z + j)).trans (bv_at _ (1 + z + j) (by rw [pl_length]; omega))
      have ff := b1.frozen (1 + z + j)
      have HV : Hid ((n : Int) * 8 / 2 ^ (56 - 8 * j) % 256 = ((be (n * 8) j).toNat : Int)) := be_val n j
      have HS : Hid (Blk (wr.setCell ⟨w.heap.size + 1, 1 + z + j, none⟩ (.int .u8 ((be (n * 8) j).toNat : Int))) (w.heap.size + 1) 214 (bv (pl z (n * 8) (j + 1)))) := by
        have := b1.set (1 + z + j) (.int .u8 ((be (n * 8) j).toNat : Int))
        have e : (bv (pl z (n * 8) j)).set (1 + z + j) (.int .u8 ((be (n * 8) j).toNat : Int)) = bv (pl z (n * 8) (j + 1)) := by rw [pl]; unfold bv; rw [List.map_set]
        rw [e] at this; exact this
      have H0 : Hid (Blk wr w.heap.size 192 (rc kc ws buf n)) := b0
      clear b0 b1
      have h1 : 1 + (z : Int) + (j : Int) < 72 := by omega
      have h2 : (0 : Int) ≤ 1 + (z : Int) + (j : Int) := by omega
      have h3 : (0 : Int) ≤ 56 - 8 * (j : Int) := by omega
      have h4 : 56 - 8 * (j : Int) ≤ 64 := by omega
      go_wp2
      go_roundw
      case rel => exact ⟨j + 1, by omega, by go_num, H0.out.other _ _ (by show w.heap.size ≠ w.heap.size + 1; omega), by rw [HV.out]; exact HS.out, hbel.setCell (by show w.heap.size ≤ w.heap.size + 1; omega) _⟩
      case measure => simp [intOf]; omega
    · have b1 : Blk wr (w.heap.size + 1) 214 (bv (pl z (n * 8) 8)) := by
        have e : j = 8 := by omega
        subst e; exact b1
      have HP : Hid (IsB wr (some ⟨w.heap.size + 1, 0, none⟩) (1 + z + 8) 72 (padOf n)) := by
        refine ⟨by rw [padOf_length, HZ.out], by omega, by decide, fun e => (by cases e), fun _ => ⟨w.heap.size + 1, 0, rfl, fun i hi => ?_⟩⟩
        rw [Nat.zero_add, b1.cell, bv_at _ _ (by rw [pl_length]; omega), ← pl_take n, HZ.out, nth_take _ _ _ (by omega)]
      have HB2 : Hid (Blk wr w.heap.size 192 (rc kc ws buf n)) := b0
      clear b0 b1
      go_wp2_with fail
      have hadd := digAdd mf mix start hok kc hk hf w.heap.size 192 ws buf A (padOf n) (some ⟨w.heap.size + 1, 0, none⟩) (1 + z + 8) 72 wr hw8 (by rw [← HN.out]; exact HB2.out) (by rw [← HN.out]; exact HI.out) HP.out (fun _ b off e => by injection e with e; injection e with e1 _; omega) (by rw [← HN.out]; omega)
      rw [← HN.out] at hadd
      refine hadd.mono ?_
      rintro e w3 ⟨rfl, ws', buf', hw8', b3, hI3, hg3⟩
      have hbel3 : Below w.heap.size w w3 := hbel.grown hg3 hbel.size (fun k hk => by injection hk with hk; omega)
      have HW : Hid (ws' = ab mix start (A ++ padOf n) ((n + (1 + z + 8)) / 64)) := hI3.words
      have hb3 : Hid (buf'.length = 64) := hI3.size
      clear hadd hI3 hg3 hbel HB2 HP
      have c0 : w3.cell? ⟨w.heap.size, 0, none⟩ = some (.int .i64 (size : Int)) := (b3.cell 0).trans ((rc_kind kc ws' buf' _ 0 hk (by omega)).trans hk0)
      go_wp2_with (at_make; refine make_full8 _ rfl _ _ rfl w.heap.size .i64 .i64 _ _ size rfl rfl rfl rfl (by omega) hbel3.size ?_; intro w4 hown4 hgrow4)
      have b4 : Blk w4 w.heap.size 192 (rc kc ws' buf' (n + (1 + z + 8))) := by
        unfold Blk; rw [hgrow4.block _ b3.lt (by intro e; cases e)]; exact b3
      have hbel4 : Below w.heap.size w w4 := hbel3.grown hgrow4 hbel3.size (fun k hk => by cases hk)
      have hG3 : w.heap.size < w3.heap.size := b3.lt
      clear b3 hbel3 hgrow4 c0 hlt hj hz
      generalize hg3 : w3.heap.size = g3 at *
      clear hg3
      go_loopw [44] (fun c wr => ∃ k : Nat, k ≤ size ∧ c = .int .i64 k ∧ Blk wr w.heap.size 192 (rc kc ws' buf' (n + (1 + z + 8))) ∧ OwnB wr w.heap.size (.slice (some ⟨g3, 0, none⟩) size size) (outF ws' size k) ∧ Below w.heap.size w wr) (fun c _ => size - (intOf c).toNat)
      case atStart => exact ⟨0, Nat.zero_le _, rfl, b4, hown4, hbel4⟩
      case round =>
        clear b4 hown4 hbel4
        obtain ⟨k, hk', rfl, b5, hown5, hbel5⟩ := hrel
        by_cases hlt : k < size
        · have cw := (b5.cell (10 + k / 4)).trans (rc_word kc ws' buf' _ (k / 4) hk hw8' (by omega))
          have co := hown5.cellAt (outF_length ws' size k hk') k hlt
          have fo := hown5.frozenAt (outF_length ws' size k hk') k
          have HS : Hid (OwnB (wr.setCell ⟨g3, k, none⟩ (.int .u8 ((dgW ws' k).toNat : Int))) w.heap.size (.slice (some ⟨g3, 0, none⟩) size size) (outF ws' size (k + 1))) := by
            have := hown5.set (outF_length ws' size k hk') k (dgW ws' k)
            rw [outF_set ws' size k hlt] at this; exact this
          have HV : Hid (((nthW ws' (k / 4)).toNat : Int) / 2 ^ (24 - 8 * (k % 4)) % 256 = ((dgW ws' k).toNat : Int)) := dgW_val ws' k
          have H5 : Hid (Blk wr w.heap.size 192 (rc kc ws' buf' (n + (1 + z + 8)))) := b5
          clear b5 hown5
          have e1 : (k : Int) / 4 < 8 := by omega
          have e2 : (0 : Int) ≤ (k : Int) / 4 := by omega
          have e3 : (0 : Int) ≤ 24 - 8 * ((k : Int) % 4) := by omega
          have e4 : 24 - 8 * ((k : Int) % 4) ≤ 32 := by omega
          have e5 : (k : Int) < (size : Int) := by omega
          go_wp2
          go_roundw
          case rel => exact ⟨k + 1, by omega, by go_num, H5.out.other _ _ (by show w.heap.size ≠ g3; omega), by rw [HV.out]; exact HS.out, hbel5.setCell (by show w.heap.size ≤ g3; omega) _⟩
          case measure => simp [intOf]; omega
        · have HK : Hid (outF ws' size k = hashL mix start size A) := by
            have e : k = size := by omega
            subst e
            unfold Hid outF hashL
            rw [Nat.sub_self, ← HN.out, HZ.out, ← HW.out]; simp
          rw [HK.out] at hown5
          go_wp2
          go_ret
          exact ⟨_, rfl, hown5, hbel5⟩
end Go.Proofs.YthjdmfbengpepaaGreat
namespace Go.Proofs.YthjdmfbengpepaaGreat
open Go.RowKit

/-- the first j bytes of word i, as a number -/
def wn (bl : List UInt8) (i : Nat) : Nat → Nat
  | 0 => 0
  | j + 1 => wn bl i j * 256 + (nth bl (4 * i + j)).toNat
theorem wn_lt (bl : List UInt8) (i : Nat) : ∀ j, wn bl i j < 256 ^ j
  | 0 => by simp [wn]
  | j + 1 => by
    have h1 := wn_lt bl i j
    have h2 := (nth bl (4 * i + j)).toNat_lt
    rw [wn, Nat.pow_succ]; omega
theorem wn_lt24 (bl : List UInt8) (i j : Nat) (h : j ≤ 3) : wn bl i j < 16777216 :=
  Nat.lt_of_lt_of_le (wn_lt bl i j) (Nat.pow_le_pow_right (by omega) h : 256 ^ j ≤ 256 ^ 3)
def wd (bl : List UInt8) (i : Nat) : UInt32 := UInt32.ofNat (wn bl i 4)
theorem wd_nat (bl : List UInt8) (i : Nat) : ((wd bl i).toNat : Int) = (wn bl i 4 : Int) := by
  have h := wn_lt bl i 4
  unfold wd; rw [UInt32.toNat_ofNat', Nat.mod_eq_of_lt (by simpa using h)]

theorem or_nat (x b : Nat) (hx : x < 16777216) (hb : b < 256) : bits .or .u32 ((x : Int) * 256 % 4294967296) (b : Int) = ((x * 256 + b : Nat) : Int) := by
  have e1 : ((x : Int) * 256 % 4294967296) = ((UInt32.ofNat (x * 256)).toNat : Int) := by rw [UInt32.toNat_ofNat']; omega
  have e2 : ((b : Int)) = ((UInt32.ofNat b).toNat : Int) := by rw [UInt32.toNat_ofNat']; omega
  rw [e1, e2, bits_or32, UInt32.toNat_or, UInt32.toNat_ofNat', UInt32.toNat_ofNat', Nat.mod_eq_of_lt (by omega : x * 256 < 2 ^ 32), Nat.mod_eq_of_lt (by omega : b < 2 ^ 32)]
  have : 256 * x + b = 256 * x ||| b := Nat.two_pow_add_eq_or_of_lt (i := 8) hb x
  rw [Nat.mul_comm x 256, ← this]

/-- cells of an array that lies in a block of its own -/
theorem blk_cell {w : World} {B t : Nat} {cs : List Value} (hb : w.heap[B]? = some (.cells cs.toArray t (0, 0))) (j : Nat) : w.cell? ⟨B, j, none⟩ = cs[j]? := by
  rw [cell_of_row w B j _ _ _ hb]; simp

set_option maxRecDepth 20000 in
set_option maxHeartbeats 1000000 in
theorem digWord (bl : List UInt8) (hl : bl.length = 64) (i : Nat) (hi : i < 16) (w : World) :
    Calls Tryz.prog 165 #[.agg (bv bl).toArray, .int .i64 (i : Int)] w fun e w' => e = .returned (.int .u32 ((wd bl i).toNat : Int)) ∧ Below w.heap.size w w' := by
  have HL : Hid (bl.length = 64) := hl
  clear hl
  go_enter Tryz.func165, Tryz.ntmps165
  go_wp2
  go_loopw [5, 7] (fun v c wr => ∃ j : Nat, j ≤ 4 ∧ c = .int .i64 j ∧ v = .int .u32 (wn bl i j : Int) ∧ wr.heap[w.heap.size]? = some (.cells (bv bl).toArray 190 (0, 0)) ∧ Below w.heap.size w wr) (fun _ c _ => 4 - (intOf c).toNat)
  case atStart => exact ⟨0, by omega, rfl, rfl, heap_alloc_new w _, (Below.refl _ _).alloc (Nat.le_refl _) _⟩
  case round =>
    obtain ⟨j, hj, rfl, rfl, hb, hbel⟩ := hrel
    by_cases hlt : j < 4
    · have hc := (blk_cell hb (4 * i + j)).trans (bv_at bl (4 * i + j) (by rw [HL.out]; omega))
      have H : Hid (bits .or .u32 ((wn bl i j : Int) * 256 % 4294967296) ((nth bl (4 * i + j)).toNat : Int) = (wn bl i (j + 1) : Int)) :=
        or_nat (wn bl i j) _ (wn_lt24 bl i j (by omega)) (nth bl (4 * i + j)).toNat_lt
      have hu : ((nth bl (4 * i + j)).toNat : Int) < 256 := by have := (nth bl (4 * i + j)).toNat_lt; omega
      have hlt' : 4 * (i : Int) + (j : Int) < 64 := by omega
      have hge : (0 : Int) ≤ 4 * (i : Int) + (j : Int) := by omega
      have HB : Hid (wr.heap[w.heap.size]? = some (.cells (bv bl).toArray 190 (0, 0))) := hb
      clear hb
      go_wp2
      go_roundw
      case rel => exact ⟨j + 1, by omega, by go_num, by rw [H.out], HB.out, hbel⟩
      case measure => simp [intOf]; omega
    · have : j = 4 := by omega
      subst this
      go_wp2
      go_ret
      exact ⟨ret_int32 (wd_nat bl i).symm, hbel⟩

/-- the words of the schedule, one behind the other -/
def sig0 (x : UInt32) : UInt32 := xor32 (xor32 (rot x 7) (rot x 18)) (shr32 x 3)
def sig1 (x : UInt32) : UInt32 := xor32 (xor32 (rot x 17) (rot x 19)) (shr32 x 10)
def nextW (p : List UInt32) (n : Nat) : UInt32 := add32 (add32 (add32 (nthW p (n - 16)) (sig0 (nthW p (n - 15)))) (nthW p (n - 7))) (sig1 (nthW p (n - 2)))
def wl (bl : List UInt8) : Nat → List UInt32
  | 0 => []
  | n + 1 => wl bl n ++ [if n < 16 then wd bl n else nextW (wl bl n) n]
theorem wl_length (bl : List UInt8) : ∀ n, (wl bl n).length = n
  | 0 => rfl
  | n + 1 => by rw [wl, List.length_append, wl_length bl n]; rfl
def wfill (bl : List UInt8) (n : Nat) : List UInt32 := wl bl n ++ List.replicate (64 - n) 0
theorem wfill_length (bl : List UInt8) (n : Nat) (h : n ≤ 64) : (wfill bl n).length = 64 := by
  unfold wfill; rw [List.length_append, wl_length, List.length_replicate]; omega
theorem wfill_set (bl : List UInt8) (n : Nat) (h : n < 64) (x : UInt32) (hx : x = if n < 16 then wd bl n else nextW (wl bl n) n) : (wfill bl n).set n x = wfill bl (n + 1) := by
  unfold wfill
  obtain ⟨m, hm⟩ : ∃ m, 64 - n = m + 1 := ⟨64 - n - 1, by omega⟩
  have hm' : 64 - (n + 1) = m := by omega
  rw [hm, hm', wl, List.set_append_right _ _ (by rw [wl_length]; exact Nat.le_refl _), wl_length, Nat.sub_self, List.replicate_succ, List.set_cons_zero, List.append_assoc, hx]
  rfl
theorem wfill_at (bl : List UInt8) (n i : Nat) (h : i < n) : nthW (wfill bl n) i = nthW (wl bl n) i := by
  have h1 : i < (wl bl n).length := by rw [wl_length]; exact h
  rw [nthW_eq _ _ h1, nthW_eq _ _ (by unfold wfill; rw [List.length_append]; omega)]
  unfold wfill
  rw [List.getElem_append_left h1]
theorem wfill_cell (bl : List UInt8) (n i : Nat) (hn : n ≤ 64) (h : i < n) : (wv (wfill bl n))[i]? = some (.int .u32 ((nthW (wl bl n) i).toNat : Int)) := by
  rw [wv_at _ _ (by rw [wfill_length bl n hn]; omega), wfill_at bl n i h]
theorem wfill_any (bl : List UInt8) (n i : Nat) (hn : n ≤ 64) (h : i < 64) : ∃ v, (wv (wfill bl n))[i]? = some v :=
  ⟨_, wv_at _ _ (by rw [wfill_length bl n hn]; omega)⟩

theorem infoA8 : (Tryz.prog.info? 190).map (·.size) = some 64 := by kernel_rfl
theorem infoA32 : (Tryz.prog.info? 210).map (·.size) = some 64 := by kernel_rfl

attribute [local go_sem] w_add w_addw w_xor w_and w_not w_shr3 w_shr10

set_option maxRecDepth 20000 in
set_option maxHeartbeats 4000000 in
theorem digSched (bl : List UInt8) (hl : bl.length = 64) (w : World) :
    Calls Tryz.prog 156 #[.agg (bv bl).toArray] w fun e w' => e = .returned (.agg (wv (wl bl 64)).toArray) ∧ Below w.heap.size w w' := by
  have HL : Hid (bl.length = 64) := hl
  have hsz : Hid ((Tryz.prog.info? 190).map (·.size) = some (bv bl).toArray.size) := by unfold Hid; rw [infoA8, List.size_toArray, bv_length, hl]
  clear hl
  go_enter Tryz.func156, Tryz.ntmps156
  go_wp2
  go_loopw [9] (fun c wr => ∃ j : Nat, j ≤ 16 ∧ c = .int .i64 j ∧ Blk wr w.heap.size 190 (bv bl) ∧ Blk wr (w.heap.size + 1) 210 (wv (List.replicate 64 0)) ∧ Blk wr (w.heap.size + 2) 210 (wv (wfill bl j)) ∧ Below w.heap.size w wr) (fun c _ => 16 - (intOf c).toNat)
  case atStart => exact ⟨0, by omega, rfl, ((Blk.newAt w _ _ _ (bv bl) rfl rfl).alloc _).alloc _, (Blk.newAt _ _ _ _ (wv (List.replicate 64 0)) (by simp) rfl).alloc _, Blk.newAt _ _ _ _ (wv (wfill bl 0)) (by simp) rfl, (((Below.refl _ _).alloc (Nat.le_refl _) _).alloc (by simp) _).alloc (by simp; omega) _⟩
  case round =>
    obtain ⟨j, hj, rfl, b0, b1, b2, hbel⟩ := hrel
    by_cases hlt : j < 16
    · have hlt' : (j : Int) < 64 := by omega
      go_wp2_with (refine wpList_load_row rfl _ _ rfl _ rfl _ _ _ _ b0 Tryz.underlying190 rfl hsz.out ?_)
      refine (digWord bl HL.out j hlt _).mono ?_
      rintro e w1 ⟨rfl, bel1⟩
      have l0 := b0.lt
      have l1 := b1.lt
      have l2 := b2.lt
      have b0' := b0.below bel1 l0
      have b1' := b1.below bel1 l1
      have b2' := b2.below bel1 l2
      have hc := (b2'.cell j).trans (wv_at _ j (by rw [wfill_length bl j (by omega)]; omega))
      have hf := b2'.frozen j
      have HS : Hid (Blk (w1.setCell ⟨w.heap.size + 2, j, none⟩ (.int .u32 ((wd bl j).toNat : Int))) (w.heap.size + 2) 210 (wv (wfill bl (j + 1)))) := by
        have := b2'.set j (.int .u32 ((wd bl j).toNat : Int))
        rw [← wv_set, wfill_set bl j (by omega) _ (by rw [if_pos hlt])] at this; exact this
      have bel1' := hbel.trans (bel1.mono hbel.size)
      have H0 : Hid (Blk w1 w.heap.size 190 (bv bl)) := b0'
      have H1 : Hid (Blk w1 (w.heap.size + 1) 210 (wv (List.replicate 64 0))) := b1'
      clear b0 b1 b2 b0' b1' b2' hbel bel1
      go_wp2
      go_roundw
      case rel => exact ⟨j + 1, by omega, by go_num, H0.out.other _ _ (by show w.heap.size ≠ w.heap.size + 2; omega), H1.out.other _ _ (by show w.heap.size + 1 ≠ w.heap.size + 2; omega), HS.out, bel1'.setCell (by show w.heap.size ≤ w.heap.size + 2; omega) _⟩
      case measure => simp [intOf]; omega
    · have b2 : Blk wr (w.heap.size + 2) 210 (wv (wfill bl 16)) := by
        have e : j = 16 := by omega
        rw [← e]; exact b2
      go_wp2
      clear hlt hj
      go_loopw [18] (fun c wr => ∃ t : Nat, 16 ≤ t ∧ t ≤ 64 ∧ c = .int .i64 ((t : Int) - 16) ∧ Blk wr (w.heap.size + 1) 210 (wv (List.replicate 64 0)) ∧ Blk wr (w.heap.size + 2) 210 (wv (wfill bl t)) ∧ Below w.heap.size w wr) (fun c _ => 48 - (intOf c).toNat)
      case atStart => exact ⟨16, by omega, by omega, rfl, b1, b2, hbel⟩
      case round =>
        clear b0 b1 b2 hbel
        obtain ⟨t, ht, ht', rfl, b1, b2, hbel⟩ := hrel
        by_cases hlt : t < 64
        · have hr : ∀ i, i < t → _ := fun i hi => (b2.cell i).trans (wfill_cell bl t i (by omega) hi)
          have c15 := hr (t - 15) (by omega)
          have c2 := hr (t - 2) (by omega)
          have c16 := hr (t - 16) (by omega)
          have c7 := hr (t - 7) (by omega)
          clear hr
          have g0 : (t : Int) - 16 < 48 := by omega
          have g1 : (0 : Int) ≤ (t : Int) - 16 := by omega
          have g2 : (t : Int) - 16 < 64 := by omega
          have g3 : (0 : Int) ≤ (t : Int) - 15 := by omega
          have g4 : (t : Int) - 15 < 64 := by omega
          have g5 : (0 : Int) ≤ (t : Int) - 7 := by omega
          have g6 : (t : Int) - 7 < 64 := by omega
          have g7 : (0 : Int) ≤ (t : Int) - 2 := by omega
          have g8 : (t : Int) - 2 < 64 := by omega
          have g9 : (t : Int) < 64 := by omega
          go_wp2
          go_quiet ((go_at_call 157; exact Calls.quiet_of_same (digRightI _ _ (by decide) (by decide) _)))
          have c2 : (wr.drewN nq).cell? _ = _ := c2
          have c16 : (wr.drewN nq).cell? _ = _ := c16
          have c7 : (wr.drewN nq).cell? _ = _ := c7
          have b1 : Blk (wr.drewN nq) _ _ _ := b1
          have b2 : Blk (wr.drewN nq) _ _ _ := b2
          have hbel : Below _ _ (wr.drewN nq) := bel_drewN hbel _
          clear c15
          generalize wr.drewN nq = w2 at *
          go_wp2
          go_quiet ((go_at_call 157; exact Calls.quiet_of_same (digRightI _ _ (by decide) (by decide) _)))
          have c16 : (w2.drewN nq).cell? _ = _ := c16
          have c7 : (w2.drewN nq).cell? _ = _ := c7
          have b1 : Blk (w2.drewN nq) _ _ _ := b1
          have b2 : Blk (w2.drewN nq) _ _ _ := b2
          have hbel : Below _ _ (w2.drewN nq) := bel_drewN hbel _
          clear c2
          generalize w2.drewN nq = w3 at *
          have cz := (b2.cell t).trans (wv_at _ t (by rw [wfill_length bl _ (by omega)]; omega))
          have fz := b2.frozen t
          have HN : Hid (nextW (wl bl t) t = add32 (add32 (add32 (nthW (wl bl t) (t - 16)) (xor32 (xor32 (rot (nthW (wl bl t) (t - 15)) 7) (rot (nthW (wl bl t) (t - 15)) 18)) (shr32 (nthW (wl bl t) (t - 15)) 3))) (nthW (wl bl t) (t - 7))) (xor32 (xor32 (rot (nthW (wl bl t) (t - 2)) 17) (rot (nthW (wl bl t) (t - 2)) 19)) (shr32 (nthW (wl bl t) (t - 2)) 10))) := rfl
          have HS : Hid (∀ w4 : World, w4.heap = w3.heap → Blk (w4.setCell ⟨w.heap.size + 2, t, none⟩ (.int .u32 ((nextW (wl bl t) t).toNat : Int))) (w.heap.size + 2) 210 (wv (wfill bl (t + 1)))) := by
            intro w4 e
            have b3 : Blk w4 (w.heap.size + 2) 210 (wv (wfill bl t)) := by unfold Blk; rw [e]; exact b2
            have := b3.set t (.int .u32 ((nextW (wl bl t) t).toNat : Int))
            rw [← wv_set, wfill_set bl t (by omega) _ (by rw [if_neg (by omega)])] at this; exact this
          have H1 : Hid (Blk w3 (w.heap.size + 1) 210 (wv (List.replicate 64 0))) := b1
          clear b1 b2
          obtain ⟨p, hp⟩ : ∃ p, t - 16 = p := ⟨_, rfl⟩
          obtain ⟨q, hq⟩ : ∃ q, t - 7 = q := ⟨_, rfl⟩
          rw [hp] at c16 HN
          rw [hq] at c7 HN
          have q16 : IntKind.i64.wrap ((t : Int) - 16) = (p : Int) := by rw [wrapi64_in _ (by omega) (by omega)]; omega
          have q7 : IntKind.i64.wrap ((t : Int) - 7) = (q : Int) := by rw [wrapi64_in _ (by omega) (by omega)]; omega
          have p1 : (p : Int) < 64 := by omega
          have p2 : (q : Int) < 64 := by omega
          have n1 : ¬ (t = p) := by omega
          have n2 : ¬ (t = q) := by omega
          clear hp hq
          go_wp2
          go_region_held3 (fun w' => w'.cell? ⟨w.heap.size + 2, p, none⟩ = some (.int .u32 ((nthW (wl bl t) p).toNat : Int)) ∧ w'.cell? ⟨w.heap.size + 2, q, none⟩ = some (.int .u32 ((nthW (wl bl t) q).toNat : Int))) (first | exact ⟨keepc c16 (addr_ne n1), keepc c7 (addr_ne n2)⟩ | go_keep) (fail)
          clear q16 q7
          go_wp2
          go_roundw
          case rel => exact ⟨t + 1, by omega, by omega, by go_num, H1.out.other _ _ (by show w.heap.size + 1 ≠ w.heap.size + 2; omega), by rw [← HN.out]; exact HS.out _ rfl, hbel.drew.setCell (by show w.heap.size ≤ w.heap.size + 2; omega) _⟩
          case measure => simp [intOf]; omega
        · have hs2 : Hid ((Tryz.prog.info? 210).map (·.size) = some (wv (wfill bl t)).toArray.size) := by unfold Hid; rw [infoA32, List.size_toArray, wv_length, wfill_length bl t ht']
          have hs3 : Hid ((wv (List.replicate 64 0)).toArray.size = (wv (wfill bl t)).toArray.size) := by unfold Hid; rw [List.size_toArray, List.size_toArray, wv_length, wv_length, wfill_length bl t ht', List.length_replicate]
          have HF : Hid (wfill bl t = wl bl 64) := by
            have e : t = 64 := by omega
            unfold Hid wfill; rw [e]; simp
          have hge : ¬ ((t : Int) - 16 < 48) := by omega
          go_wp2_with (first | (refine wpList_load_row rfl _ _ rfl _ rfl _ _ _ _ b2 Tryz.underlying210 rfl hs2.out ?_) | (refine wpList_store_row rfl _ _ _ rfl _ _ rfl rfl _ _ b1 hs2.out hs3.out (wv_all _) ?_))
          refine bodyPost_ret (v := .agg (wv (wfill bl t)).toArray) ?_ rfl ⟨by rw [HF.out], bel_row hbel (by omega) _⟩
          exact results_cell_row Tryz.results156 _ _ _ _ _ _ _ rfl (b1.row (wv (wfill bl t))) Tryz.underlying210 rfl hs2.out
end Go.Proofs.YthjdmfbengpepaaGreat
