/- What word and schedule256 answer. -/
import Derived.Test.YtbclhaleibjkgaaWords
namespace Go.Proofs.Ytbclhaleibjkgaa
open Go.RowKit

/-- the first j bytes of word i, as a number -/
def wn (bl : List UInt8) (i : Nat) : Nat → Nat
  | 0 => 0
  | j + 1 => wn bl i j * 256 + (nth bl (4 * i + j)).toNat
theorem wn_lt (bl : List UInt8) (i : Nat) : ∀ j, wn bl i j < 256 ^ j
  | 0 => by simp [wn]
  | j + 1 => by
    have h1 := wn_lt bl i j
    have h2 := (nth bl (4 * i + j)).toNat_lt
    rw [wn, Nat.pow_succ]; omega
theorem wn_lt24 (bl : List UInt8) (i j : Nat) (h : j ≤ 3) : wn bl i j < 16777216 :=
  Nat.lt_of_lt_of_le (wn_lt bl i j) (Nat.pow_le_pow_right (by omega) h : 256 ^ j ≤ 256 ^ 3)
def wd (bl : List UInt8) (i : Nat) : UInt32 := UInt32.ofNat (wn bl i 4)
theorem wd_nat (bl : List UInt8) (i : Nat) : ((wd bl i).toNat : Int) = (wn bl i 4 : Int) := by
  have h := wn_lt bl i 4
  unfold wd; rw [UInt32.toNat_ofNat', Nat.mod_eq_of_lt (by simpa using h)]

theorem or_nat (x b : Nat) (hx : x < 16777216) (hb : b < 256) : bits .or .u32 ((x : Int) * 256 % 4294967296) (b : Int) = ((x * 256 + b : Nat) : Int) := by
  have e1 : ((x : Int) * 256 % 4294967296) = ((UInt32.ofNat (x * 256)).toNat : Int) := by rw [UInt32.toNat_ofNat']; omega
  have e2 : ((b : Int)) = ((UInt32.ofNat b).toNat : Int) := by rw [UInt32.toNat_ofNat']; omega
  rw [e1, e2, bits_or32, UInt32.toNat_or, UInt32.toNat_ofNat', UInt32.toNat_ofNat', Nat.mod_eq_of_lt (by omega : x * 256 < 2 ^ 32), Nat.mod_eq_of_lt (by omega : b < 2 ^ 32)]
  have : 256 * x + b = 256 * x ||| b := Nat.two_pow_add_eq_or_of_lt (i := 8) hb x
  rw [Nat.mul_comm x 256, ← this]

/-- cells of an array that lies in a block of its own -/
theorem blk_cell {w : World} {B t : Nat} {cs : List Value} (hb : w.heap[B]? = some (.cells cs.toArray t (0, 0))) (j : Nat) : w.cell? ⟨B, j, none⟩ = cs[j]? := by
  rw [cell_of_row w B j _ _ _ hb]; simp

set_option maxRecDepth 20000 in
set_option maxHeartbeats 1000000 in
theorem digWord (bl : List UInt8) (hl : bl.length = 64) (i : Nat) (hi : i < 16) (w : World) :
    Calls Try.prog 80 #[.agg (bv bl).toArray, .int .i64 (i : Int)] w fun e w' => e = .returned (.int .u32 ((wd bl i).toNat : Int)) ∧ Below w.heap.size w w' := by
  have HL : Hid (bl.length = 64) := hl
  clear hl
  go_enter Try.func80, Try.ntmps80
  go_wp2
  go_loopw [5, 7] (fun v c wr => ∃ j : Nat, j ≤ 4 ∧ c = .int .i64 j ∧ v = .int .u32 (wn bl i j : Int) ∧ wr.heap[w.heap.size]? = some (.cells (bv bl).toArray 93 (0, 0)) ∧ Below w.heap.size w wr) (fun _ c _ => 4 - (intOf c).toNat)
  case atStart => exact ⟨0, by omega, rfl, rfl, heap_alloc_new w _, (Below.refl _ _).alloc (Nat.le_refl _) _⟩
  case round =>
    obtain ⟨j, hj, rfl, rfl, hb, hbel⟩ := hrel
    by_cases hlt : j < 4
    · have hc := (blk_cell hb (4 * i + j)).trans (bv_at bl (4 * i + j) (by rw [HL.out]; omega))
      have H : Hid (bits .or .u32 ((wn bl i j : Int) * 256 % 4294967296) ((nth bl (4 * i + j)).toNat : Int) = (wn bl i (j + 1) : Int)) :=
        or_nat (wn bl i j) _ (wn_lt24 bl i j (by omega)) (nth bl (4 * i + j)).toNat_lt
      have hu : ((nth bl (4 * i + j)).toNat : Int) < 256 := by have := (nth bl (4 * i + j)).toNat_lt; omega
      have hlt' : 4 * (i : Int) + (j : Int) < 64 := by omega
      have hge : (0 : Int) ≤ 4 * (i : Int) + (j : Int) := by omega
      have HB : Hid (wr.heap[w.heap.size]? = some (.cells (bv bl).toArray 93 (0, 0))) := hb
      clear hb
      go_wp2
      go_roundw
      case rel => exact ⟨j + 1, by omega, by go_num, by rw [H.out], HB.out, hbel⟩
      case measure => simp [intOf]; omega
    · have : j = 4 := by omega
      subst this
      go_wp2
      go_ret
      exact ⟨ret_int32 (wd_nat bl i).symm, hbel⟩

/-- the words of the schedule, one behind the other -/
def sig0 (x : UInt32) : UInt32 := xor32 (xor32 (rot x 7) (rot x 18)) (shr32 x 3)
def sig1 (x : UInt32) : UInt32 := xor32 (xor32 (rot x 17) (rot x 19)) (shr32 x 10)
def nextW (p : List UInt32) (n : Nat) : UInt32 := add32 (add32 (add32 (nthW p (n - 16)) (sig0 (nthW p (n - 15)))) (nthW p (n - 7))) (sig1 (nthW p (n - 2)))
def wl (bl : List UInt8) : Nat → List UInt32
  | 0 => []
  | n + 1 => wl bl n ++ [if n < 16 then wd bl n else nextW (wl bl n) n]
theorem wl_length (bl : List UInt8) : ∀ n, (wl bl n).length = n
  | 0 => rfl
  | n + 1 => by rw [wl, List.length_append, wl_length bl n]; rfl
def wfill (bl : List UInt8) (n : Nat) : List UInt32 := wl bl n ++ List.replicate (64 - n) 0
theorem wfill_length (bl : List UInt8) (n : Nat) (h : n ≤ 64) : (wfill bl n).length = 64 := by
  unfold wfill; rw [List.length_append, wl_length, List.length_replicate]; omega
theorem wfill_set (bl : List UInt8) (n : Nat) (h : n < 64) (x : UInt32) (hx : x = if n < 16 then wd bl n else nextW (wl bl n) n) : (wfill bl n).set n x = wfill bl (n + 1) := by
  unfold wfill
  obtain ⟨m, hm⟩ : ∃ m, 64 - n = m + 1 := ⟨64 - n - 1, by omega⟩
  have hm' : 64 - (n + 1) = m := by omega
  rw [hm, hm', wl, List.set_append_right _ _ (by rw [wl_length]; exact Nat.le_refl _), wl_length, Nat.sub_self, List.replicate_succ, List.set_cons_zero, List.append_assoc, hx]
  rfl
theorem wfill_at (bl : List UInt8) (n i : Nat) (h : i < n) : nthW (wfill bl n) i = nthW (wl bl n) i := by
  have h1 : i < (wl bl n).length := by rw [wl_length]; exact h
  rw [nthW_eq _ _ h1, nthW_eq _ _ (by unfold wfill; rw [List.length_append]; omega)]
  unfold wfill
  rw [List.getElem_append_left h1]
theorem wfill_cell (bl : List UInt8) (n i : Nat) (hn : n ≤ 64) (h : i < n) : (wv (wfill bl n))[i]? = some (.int .u32 ((nthW (wl bl n) i).toNat : Int)) := by
  rw [wv_at _ _ (by rw [wfill_length bl n hn]; omega), wfill_at bl n i h]
theorem wfill_any (bl : List UInt8) (n i : Nat) (hn : n ≤ 64) (h : i < 64) : ∃ v, (wv (wfill bl n))[i]? = some v :=
  ⟨_, wv_at _ _ (by rw [wfill_length bl n hn]; omega)⟩

theorem infoA8 : (Try.prog.info? 93).map (·.size) = some 64 := by kernel_rfl
theorem infoA32 : (Try.prog.info? 102).map (·.size) = some 64 := by kernel_rfl

attribute [local go_sem] w_add w_addw w_xor w_and w_not w_shr3 w_shr10

set_option maxRecDepth 20000 in
set_option maxHeartbeats 4000000 in
theorem digSched (bl : List UInt8) (hl : bl.length = 64) (w : World) :
    Calls Try.prog 77 #[.agg (bv bl).toArray] w fun e w' => e = .returned (.agg (wv (wl bl 64)).toArray) ∧ Below w.heap.size w w' := by
  have HL : Hid (bl.length = 64) := hl
  have hsz : Hid ((Try.prog.info? 93).map (·.size) = some (bv bl).toArray.size) := by unfold Hid; rw [infoA8, List.size_toArray, bv_length, hl]
  clear hl
  go_enter Try.func77, Try.ntmps77
  go_wp2
  go_loopw [9] (fun c wr => ∃ j : Nat, j ≤ 16 ∧ c = .int .i64 j ∧ Blk wr w.heap.size 93 (bv bl) ∧ Blk wr (w.heap.size + 1) 102 (wv (List.replicate 64 0)) ∧ Blk wr (w.heap.size + 2) 102 (wv (wfill bl j)) ∧ Below w.heap.size w wr) (fun c _ => 16 - (intOf c).toNat)
  case atStart => exact ⟨0, by omega, rfl, ((Blk.newAt w _ _ _ (bv bl) rfl rfl).alloc _).alloc _, (Blk.newAt _ _ _ _ (wv (List.replicate 64 0)) (by simp) rfl).alloc _, Blk.newAt _ _ _ _ (wv (wfill bl 0)) (by simp) rfl, (((Below.refl _ _).alloc (Nat.le_refl _) _).alloc (by simp) _).alloc (by simp; omega) _⟩
  case round =>
    obtain ⟨j, hj, rfl, b0, b1, b2, hbel⟩ := hrel
    by_cases hlt : j < 16
    · have hlt' : (j : Int) < 64 := by omega
      go_wp2_with (refine wpList_load_row rfl _ _ rfl _ rfl _ _ _ _ b0 Try.underlying93 rfl hsz.out ?_)
      refine (digWord bl HL.out j hlt _).mono ?_
      rintro e w1 ⟨rfl, bel1⟩
      have l0 := b0.lt
      have l1 := b1.lt
      have l2 := b2.lt
      have b0' := b0.below bel1 l0
      have b1' := b1.below bel1 l1
      have b2' := b2.below bel1 l2
      have hc := (b2'.cell j).trans (wv_at _ j (by rw [wfill_length bl j (by omega)]; omega))
      have hf := b2'.frozen j
      have HS : Hid (Blk (w1.setCell ⟨w.heap.size + 2, j, none⟩ (.int .u32 ((wd bl j).toNat : Int))) (w.heap.size + 2) 102 (wv (wfill bl (j + 1)))) := by
        have := b2'.set j (.int .u32 ((wd bl j).toNat : Int))
        rw [← wv_set, wfill_set bl j (by omega) _ (by rw [if_pos hlt])] at this; exact this
      have bel1' := hbel.trans (bel1.mono hbel.size)
      have H0 : Hid (Blk w1 w.heap.size 93 (bv bl)) := b0'
      have H1 : Hid (Blk w1 (w.heap.size + 1) 102 (wv (List.replicate 64 0))) := b1'
      clear b0 b1 b2 b0' b1' b2' hbel bel1
      go_wp2
      go_roundw
      case rel => exact ⟨j + 1, by omega, by go_num, H0.out.other _ _ (by show w.heap.size ≠ w.heap.size + 2; omega), H1.out.other _ _ (by show w.heap.size + 1 ≠ w.heap.size + 2; omega), HS.out, bel1'.setCell (by show w.heap.size ≤ w.heap.size + 2; omega) _⟩
      case measure => simp [intOf]; omega
    · have b2 : Blk wr (w.heap.size + 2) 102 (wv (wfill bl 16)) := by
        have e : j = 16 := by omega
        rw [← e]; exact b2
      go_wp2
      clear hlt hj
      go_loopw [18] (fun c wr => ∃ t : Nat, 16 ≤ t ∧ t ≤ 64 ∧ c = .int .i64 ((t : Int) - 16) ∧ Blk wr (w.heap.size + 1) 102 (wv (List.replicate 64 0)) ∧ Blk wr (w.heap.size + 2) 102 (wv (wfill bl t)) ∧ Below w.heap.size w wr) (fun c _ => 48 - (intOf c).toNat)
      case atStart => exact ⟨16, by omega, by omega, rfl, b1, b2, hbel⟩
      case round =>
        clear b0 b1 b2 hbel
        obtain ⟨t, ht, ht', rfl, b1, b2, hbel⟩ := hrel
        by_cases hlt : t < 64
        · have hr : ∀ i, i < t → _ := fun i hi => (b2.cell i).trans (wfill_cell bl t i (by omega) hi)
          have c15 := hr (t - 15) (by omega)
          have c2 := hr (t - 2) (by omega)
          have c16 := hr (t - 16) (by omega)
          have c7 := hr (t - 7) (by omega)
          clear hr
          have g0 : (t : Int) - 16 < 48 := by omega
          have g1 : (0 : Int) ≤ (t : Int) - 16 := by omega
          have g2 : (t : Int) - 16 < 64 := by omega
          have g3 : (0 : Int) ≤ (t : Int) - 15 := by omega
          have g4 : (t : Int) - 15 < 64 := by omega
          have g5 : (0 : Int) ≤ (t : Int) - 7 := by omega
          have g6 : (t : Int) - 7 < 64 := by omega
          have g7 : (0 : Int) ≤ (t : Int) - 2 := by omega
          have g8 : (t : Int) - 2 < 64 := by omega
          have g9 : (t : Int) < 64 := by omega
          go_wp2
          go_quiet ((go_at_call 78; exact Calls.quiet_of_same (digRightI _ _ (by decide) (by decide) _)))
          have c2 : (wr.drewN nq).cell? _ = _ := c2
          have c16 : (wr.drewN nq).cell? _ = _ := c16
          have c7 : (wr.drewN nq).cell? _ = _ := c7
          have b1 : Blk (wr.drewN nq) _ _ _ := b1
          have b2 : Blk (wr.drewN nq) _ _ _ := b2
          have hbel : Below _ _ (wr.drewN nq) := bel_drewN hbel _
          clear c15
          generalize wr.drewN nq = w2 at *
          go_wp2
          go_quiet ((go_at_call 78; exact Calls.quiet_of_same (digRightI _ _ (by decide) (by decide) _)))
          have c16 : (w2.drewN nq).cell? _ = _ := c16
          have c7 : (w2.drewN nq).cell? _ = _ := c7
          have b1 : Blk (w2.drewN nq) _ _ _ := b1
          have b2 : Blk (w2.drewN nq) _ _ _ := b2
          have hbel : Below _ _ (w2.drewN nq) := bel_drewN hbel _
          clear c2
          generalize w2.drewN nq = w3 at *
          have cz := (b2.cell t).trans (wv_at _ t (by rw [wfill_length bl _ (by omega)]; omega))
          have fz := b2.frozen t
          have HN : Hid (nextW (wl bl t) t = add32 (add32 (add32 (nthW (wl bl t) (t - 16)) (xor32 (xor32 (rot (nthW (wl bl t) (t - 15)) 7) (rot (nthW (wl bl t) (t - 15)) 18)) (shr32 (nthW (wl bl t) (t - 15)) 3))) (nthW (wl bl t) (t - 7))) (xor32 (xor32 (rot (nthW (wl bl t) (t - 2)) 17) (rot (nthW (wl bl t) (t - 2)) 19)) (shr32 (nthW (wl bl t) (t - 2)) 10))) := rfl
          have HS : Hid (∀ w4 : World, w4.heap = w3.heap → Blk (w4.setCell ⟨w.heap.size + 2, t, none⟩ (.int .u32 ((nextW (wl bl t) t).toNat : Int))) (w.heap.size + 2) 102 (wv (wfill bl (t + 1)))) := by
            intro w4 e
            have b3 : Blk w4 (w.heap.size + 2) 102 (wv (wfill bl t)) := by unfold Blk; rw [e]; exact b2
            have := b3.set t (.int .u32 ((nextW (wl bl t) t).toNat : Int))
            rw [← wv_set, wfill_set bl t (by omega) _ (by rw [if_neg (by omega)])] at this; exact this
          have H1 : Hid (Blk w3 (w.heap.size + 1) 102 (wv (List.replicate 64 0))) := b1
          clear b1 b2
          obtain ⟨p, hp⟩ : ∃ p, t - 16 = p := ⟨_, rfl⟩
          obtain ⟨q, hq⟩ : ∃ q, t - 7 = q := ⟨_, rfl⟩
          rw [hp] at c16 HN
          rw [hq] at c7 HN
          have q16 : IntKind.i64.wrap ((t : Int) - 16) = (p : Int) := by rw [wrapi64_in _ (by omega) (by omega)]; omega
          have q7 : IntKind.i64.wrap ((t : Int) - 7) = (q : Int) := by rw [wrapi64_in _ (by omega) (by omega)]; omega
          have p1 : (p : Int) < 64 := by omega
          have p2 : (q : Int) < 64 := by omega
          have n1 : ¬ (t = p) := by omega
          have n2 : ¬ (t = q) := by omega
          clear hp hq
          go_wp2
          go_region_held3 (fun w' => w'.cell? ⟨w.heap.size + 2, p, none⟩ = some (.int .u32 ((nthW (wl bl t) p).toNat : Int)) ∧ w'.cell? ⟨w.heap.size + 2, q, none⟩ = some (.int .u32 ((nthW (wl bl t) q).toNat : Int))) (first | exact ⟨keepc c16 (addr_ne n1), keepc c7 (addr_ne n2)⟩ | go_keep) (fail)
          clear q16 q7
          go_wp2
          go_roundw
          case rel => exact ⟨t + 1, by omega, by omega, by go_num, H1.out.other _ _ (by show w.heap.size + 1 ≠ w.heap.size + 2; omega), by rw [← HN.out]; exact HS.out _ rfl, hbel.drew.setCell (by show w.heap.size ≤ w.heap.size + 2; omega) _⟩
          case measure => simp [intOf]; omega
        · have hs2 : Hid ((Try.prog.info? 102).map (·.size) = some (wv (wfill bl t)).toArray.size) := by unfold Hid; rw [infoA32, List.size_toArray, wv_length, wfill_length bl t ht']
          have hs3 : Hid ((wv (List.replicate 64 0)).toArray.size = (wv (wfill bl t)).toArray.size) := by unfold Hid; rw [List.size_toArray, List.size_toArray, wv_length, wv_length, wfill_length bl t ht', List.length_replicate]
          have HF : Hid (wfill bl t = wl bl 64) := by
            have e : t = 64 := by omega
            unfold Hid wfill; rw [e]; simp
          have hge : ¬ ((t : Int) - 16 < 48) := by omega
          go_wp2_with (first | (refine wpList_load_row rfl _ _ rfl _ rfl _ _ _ _ b2 Try.underlying102 rfl hs2.out ?_) | (refine wpList_store_row rfl _ _ _ rfl _ _ rfl rfl _ _ b1 hs2.out hs3.out (wv_all _) ?_))
          refine bodyPost_ret (v := .agg (wv (wfill bl t)).toArray) ?_ rfl ⟨by rw [HF.out], bel_row hbel (by omega) _⟩
          exact results_cell_row Try.results77 _ _ _ _ _ _ _ rfl (b1.row (wv (wfill bl t))) Try.underlying102 rfl hs2.out
end Go.Proofs.Ytbclhaleibjkgaa
