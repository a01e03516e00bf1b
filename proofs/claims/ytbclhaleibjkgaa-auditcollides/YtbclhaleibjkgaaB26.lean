/- What the document's words answers. · An append of words leaves the cells that were owned as they were. -/
import Derived.Test.YtbclhaleibjkgaaB25
import Derived.Test.YtbclhaleibjkgaaOwnW
namespace Go.Proofs.Ytbclhaleibjkgaa
open Go.RowKit
attribute [local go_sem ↓] Go.wp_at_zero Go.wp_at_succ

theorem word_of (b0 b1 b2 b3 : UInt8) :
    bits .or .u32 (bits .or .u32 (bits .or .u32 (IntKind.u32.wrap ((b0.toNat : Int) * 16777216)) (IntKind.u32.wrap ((b1.toNat : Int) * 65536))) (IntKind.u32.wrap ((b2.toNat : Int) * 256))) (b3.toNat : Int)
      = ((((b0.toNat * 256 + b1.toNat) * 256 + b2.toNat) * 256 + b3.toNat : Nat) : Int) := by
  have h0 := b0.toNat_lt
  have h1 := b1.toNat_lt
  have h2 := b2.toNat_lt
  have h3 := b3.toNat_lt
  have w : ∀ x : Nat, x < 4294967296 → IntKind.u32.wrap (x : Int) = ((UInt32.ofNat x).toNat : Int) := by
    intro x hx; rw [wrap32_nat x hx, UInt32.toNat_ofNat', Nat.mod_eq_of_lt hx]
  have e0 : (b0.toNat : Int) * 16777216 = ((b0.toNat * 16777216 : Nat) : Int) := by omega
  have e1 : (b1.toNat : Int) * 65536 = ((b1.toNat * 65536 : Nat) : Int) := by omega
  have e2 : (b2.toNat : Int) * 256 = ((b2.toNat * 256 : Nat) : Int) := by omega
  have e3 : (b3.toNat : Int) = ((UInt32.ofNat b3.toNat).toNat : Int) := by rw [UInt32.toNat_ofNat', Nat.mod_eq_of_lt (by omega)]
  rw [e0, e1, e2, w _ (by omega), w _ (by omega), w _ (by omega), e3, bits_or32, bits_or32, bits_or32]
  rw [UInt32.toNat_or, UInt32.toNat_or, UInt32.toNat_or, UInt32.toNat_ofNat', UInt32.toNat_ofNat', UInt32.toNat_ofNat', UInt32.toNat_ofNat',
    Nat.mod_eq_of_lt (by omega : b0.toNat * 16777216 < 2 ^ 32), Nat.mod_eq_of_lt (by omega : b1.toNat * 65536 < 2 ^ 32), Nat.mod_eq_of_lt (by omega : b2.toNat * 256 < 2 ^ 32), Nat.mod_eq_of_lt (by omega : b3.toNat < 2 ^ 32)]
  have a1 : b0.toNat * 16777216 ||| b1.toNat * 65536 = b0.toNat * 16777216 + b1.toNat * 65536 := by
    have := Nat.two_pow_add_eq_or_of_lt (i := 24) (b := b1.toNat * 65536) (by omega) b0.toNat
    rw [Nat.mul_comm b0.toNat, ← this]
  have a2 : (b0.toNat * 16777216 + b1.toNat * 65536) ||| b2.toNat * 256 = b0.toNat * 16777216 + b1.toNat * 65536 + b2.toNat * 256 := by
    have := Nat.two_pow_add_eq_or_of_lt (i := 16) (b := b2.toNat * 256) (by omega) (b0.toNat * 256 + b1.toNat)
    have e : 2 ^ 16 * (b0.toNat * 256 + b1.toNat) = b0.toNat * 16777216 + b1.toNat * 65536 := by omega
    rw [e] at this; exact this.symm
  have a3 : (b0.toNat * 16777216 + b1.toNat * 65536 + b2.toNat * 256) ||| b3.toNat = b0.toNat * 16777216 + b1.toNat * 65536 + b2.toNat * 256 + b3.toNat := by
    have := Nat.two_pow_add_eq_or_of_lt (i := 8) (b := b3.toNat) (by omega) ((b0.toNat * 256 + b1.toNat) * 256 + b2.toNat)
    have e : 2 ^ 8 * ((b0.toNat * 256 + b1.toNat) * 256 + b2.toNat) = b0.toNat * 16777216 + b1.toNat * 65536 + b2.toNat * 256 := by omega
    rw [e] at this; exact this.symm
  rw [a1, a2, a3]
  omega

theorem word_wd (bl : List UInt8) (i : Nat) :
    bits .or .u32 (bits .or .u32 (bits .or .u32 (IntKind.u32.wrap (((nth bl (4 * i)).toNat : Int) * 16777216)) (IntKind.u32.wrap (((nth bl (4 * i + 1)).toNat : Int) * 65536))) (IntKind.u32.wrap (((nth bl (4 * i + 2)).toNat : Int) * 256))) ((nth bl (4 * i + 3)).toNat : Int)
      = ((wd bl i).toNat : Int) := by
  rw [word_of, wd_nat]
  simp [wn]

theorem wl_low (bl : List UInt8) (n : Nat) (h : n < 16) : wl bl (n + 1) = wl bl n ++ [wd bl n] := by rw [wl, if_pos h]

set_option maxRecDepth 20000 in
set_option maxHeartbeats 1000000 in
theorem refWords (a : Option Addr) (cap : Nat) (bl : List UInt8) (w : World) (h : IsB w a 64 cap bl) :
    Calls Try.prog 57 #[.slice a 64 cap] w fun e w' => ∃ v, e = .returned v ∧ OwnW w' w.heap.size v (wl bl 16) ∧ Below w.heap.size w w' := by
  obtain ⟨b0, o0, rfl, hc0⟩ := h.cells (by omega)
  have HC : Hid (∀ i, i < 64 → w.cell? ⟨b0, o0 + i, none⟩ = some (.int .u8 ((nth bl i).toNat : Int))) := hc0
  have gb : b0 < w.heap.size := cell_lt (hc0 0 (by omega))
  clear h hc0
  go_enter Try.func57, Try.ntmps57
  go_wp2
  go_loopw [3, 4] (fun v i wr => ∃ k t : Nat, k ≤ 16 ∧ Hid (t = 4 * k) ∧ i = .int .i64 (t : Int) ∧ OwnW wr w.heap.size v (wl bl k) ∧ Below w.heap.size w wr) (fun _ i _ => 64 - (intOf i).toNat)
  case atStart => exact ⟨0, 0, Nat.zero_le _, rfl, rfl, OwnW.nil _ _, Below.refl _ _⟩
  case round =>
    obtain ⟨k, t, hk, ht, rfl, hown, hbel⟩ := hrel
    have HL : Hid ((wl bl k).length = k) := wl_length bl k
    by_cases hlt : k < 16
    · obtain ⟨t1, ht1⟩ : ∃ t1, t1 = t + 1 := ⟨_, rfl⟩
      obtain ⟨t2, ht2⟩ : ∃ t2, t2 = t + 2 := ⟨_, rfl⟩
      obtain ⟨t3, ht3⟩ : ∃ t3, t3 = t + 3 := ⟨_, rfl⟩
      have ht0 := ht.out
      have c0 := (hbel.cell (p := ⟨b0, o0 + t, none⟩) gb).trans (HC.out t (by omega))
      have c1 := (hbel.cell (p := ⟨b0, o0 + t1, none⟩) gb).trans (HC.out t1 (by omega))
      have c2 := (hbel.cell (p := ⟨b0, o0 + t2, none⟩) gb).trans (HC.out t2 (by omega))
      have c3 := (hbel.cell (p := ⟨b0, o0 + t3, none⟩) gb).trans (HC.out t3 (by omega))
      have gz : b0 < wr.heap.size := Nat.lt_of_lt_of_le gb hbel.size
      have l0 : (t : Int) < 64 := by omega
      have l1 : (t1 : Int) < 64 := by omega
      have l2 : (t2 : Int) < 64 := by omega
      have l3 : (t3 : Int) < 64 := by omega
      have q1 : IntKind.i64.wrap ((t : Int) + 1) = (t1 : Int) := by rw [wrapi64_in _ (by omega) (by omega)]; omega
      have q2 : IntKind.i64.wrap ((t : Int) + 2) = (t2 : Int) := by rw [wrapi64_in _ (by omega) (by omega)]; omega
      have q3 : IntKind.i64.wrap ((t : Int) + 3) = (t3 : Int) := by rw [wrapi64_in _ (by omega) (by omega)]; omega
      have HO : Hid (wl bl (k + 1) = wl bl k ++ [wd bl k]) := wl_low bl k hlt
      have hwd : bits .or .u32 (bits .or .u32 (bits .or .u32 (IntKind.u32.wrap (((nth bl t).toNat : Int) * 16777216)) (IntKind.u32.wrap (((nth bl t1).toNat : Int) * 65536))) (IntKind.u32.wrap (((nth bl t2).toNat : Int) * 256))) ((nth bl t3).toNat : Int) = ((wd bl k).toNat : Int) := by
        rw [ht3, ht2, ht1, ht0]; exact word_wd bl k
      have r0 := wrap32_nat (nth bl t).toNat (by have := (nth bl t).toNat_lt; omega)
      have r1 := wrap32_nat (nth bl t1).toNat (by have := (nth bl t1).toNat_lt; omega)
      have r2 := wrap32_nat (nth bl t2).toNat (by have := (nth bl t2).toNat_lt; omega)
      have r3 := wrap32_nat (nth bl t3).toNat (by have := (nth bl t3).toNat_lt; omega)
      have HB := hown.blk
      clear ht0 ht1 ht2 ht3
      go_wp2
      go_region_held3 (fun w' => w'.cell? ⟨b0, o0 + t, none⟩ = some (.int .u8 ((nth bl t).toNat : Int)) ∧ w'.cell? ⟨b0, o0 + t1, none⟩ = some (.int .u8 ((nth bl t1).toNat : Int)) ∧ w'.cell? ⟨b0, o0 + t2, none⟩ = some (.int .u8 ((nth bl t2).toNat : Int)) ∧ w'.cell? ⟨b0, o0 + t3, none⟩ = some (.int .u8 ((nth bl t3).toNat : Int)))
        ((go_split_ands; refine ⟨?_, ?_, ?_, ?_⟩ <;> (first | go_keep | (rw [hgrow.cell_far _ (by simp; omega) (fun e => by have := (HB _ e.symm).1; simp at this; omega)]; assumption))))
        ((refine step_app32 _ (by rfl) _ _ (by rfl) w.heap.size _ (wl bl k) (by rfl) ((hown.alloc _).heap rfl) wr.heap.size 1 1 [wd bl k] (by rfl) (by rfl) (heap_alloc_new wr _) (by omega) (by rw [HL.out]; omega) (by have := hbel.size; simp; omega) (wr.heap.size + 1) (by simp) ?_; intro gg cap w1 hown1 hgrow hat hlt1))
      all_goals
        clear q1 q2 q3 hwd r0 r1 r2 r3
        go_wp2
        go_roundw
        case rel => exact ⟨k + 1, t + 4, by omega, by have := ht.out; unfold Hid; omega, by go_num, by rw [HO.out]; exact hown1, ((hbel.alloc hbel.size _).drew).grown hgrow (by have := hbel.size; simp; omega) (fun j hj => (HB j hj).1)⟩
        case measure => simp [intOf]; omega
    · have e : k = 16 := by omega
      have hge : ¬ ((t : Int) < 64) := by have := ht.out; omega
      have HO : Hid (OwnW wr w.heap.size u3 (wl bl 16)) := by rw [← e]; exact hown
      go_wp2
      go_ret
      exact ⟨_, rfl, HO.out, hbel⟩
end Go.Proofs.Ytbclhaleibjkgaa
namespace Go.Proofs.Ytbclhaleibjkgaa
open Go.RowKit

/-- an append leaves the cells that were owned as they were -/
theorem app_keeps (w : World) (ty : TypeId) (base g n cap : Nat) (l : List UInt32) (hn : l.length = n) (hown : OwnW w base (.slice (some ⟨g, 0, none⟩) n cap) l)
    (a : Addr) (m c : Nat) (news : List UInt32) (hl : news.length = m) (hnews : ∀ j u, (wv news)[j]? = some u → w.cell? (a.add j) = some u) (hb : n + m ≤ 35184372088832) {v' : Value} {w' : World}
    (hr : (Builtin.append_ #[76, 76] ty #[.slice (some ⟨g, 0, none⟩) n cap, .slice (some a) m c]).run Try.prog w = .ok v' w') (j : Nat) (hj : j < n) : w'.cell? ⟨g, j, none⟩ = w.cell? ⟨g, j, none⟩ := by
  subst hn
  obtain ⟨i0, hi, hz0, hz1, hz2⟩ := info_parts info32
  have hglt : g < w.heap.size := (hown.blk g rfl).2
  rcases hown.2 with ⟨h, _⟩ | ⟨g', cap', cur, h, hbg, hg, hnc, hcm, hcs, htake⟩
  · cases h
  · simp only [Value.slice.injEq, Option.some.injEq, Addr.mk.injEq, and_true, true_and] at h
    obtain ⟨rfl, rfl⟩ := h
    by_cases hroom : l.length + m ≤ cap
    · have hr2 := run_append_room (P := Try.prog) w 76 ty 69 i0 Try.underlying76 hi g l.length cap cur hg a m c (wv news) (by rw [wv_length, hl, hz1]; omega) hnews (wv_one news) hroom (by rw [wv_length, hl, hz1]; omega)
      rw [hr2] at hr
      have hw := (Result.ok.inj hr).2
      rw [← hw, cell_setRow_same w g j cur _ _ _ hg, cell_of_row w g j cur _ _ hg, hz1]
      simp only [Nat.mul_one, List.getElem?_toArray, List.append_assoc]
      have hcl : cur.toList.length = cap * 1 := by rw [Array.length_toList]; exact hcs
      rw [List.getElem?_append_left (by rw [List.length_take]; omega), List.getElem?_take, if_pos hj]
      simp
    · have holds : ∀ j u, (wv l)[j]? = some u → w.cell? ((⟨g, 0, none⟩ : Addr).add j) = some u := World.ownsRow.cells hown (g := g) rfl
      have hr2 := run_append_grow (P := Try.prog) w 76 ty 69 i0 (.int .u32 0) Try.underlying76 hi hz0 ⟨g, 0, none⟩ l.length cap (wv l) (by rw [wv_length, hz1]; omega) holds a m c (wv news) (by rw [wv_length, hl, hz1]; omega) hnews (by omega) (by omega) (growslice_fits (by omega) (by rw [hz2]; omega))
      rw [hr2] at hr
      have hw := (Result.ok.inj hr).2
      rw [← hw]
      exact World.cell?_alloc_lt _ _ _ hglt

/-- append of words in a region that draws; what was there stays -/
theorem step_app32k {ops : Array Oper} {o : Oper} {a : Act} {K : Act → World → Prop} {Q : Exit → Act → World → Prop} {E : Prop} (w : World) (hgd : o.guard = none) (s x : Operand)
    (ho : o.op = .call { callee := .builtin .append, args := #[s, x], argTypes := #[76, 76] }) (base : Nat)
    (g0 n c0 : Nat) (l : List UInt32) (hn : l.length = n) (hs : a.eval s = .slice (some ⟨g0, 0, none⟩) n c0) (hown : OwnW w base (.slice (some ⟨g0, 0, none⟩) n c0) l) (B m c : Nat) (news : List UInt32) (hx : a.eval x = .slice (some ⟨B, 0, none⟩) m c) (hl : news.length = m)
    (hb : w.heap[B]? = some (.cells (wv news).toArray 69 (0, 0))) (hm : 0 < m) (hbytes : n + m ≤ 35184372088832) (hbase : base ≤ w.heap.size)
    (h : ∀ g cap w', OwnW w' base (.slice (some ⟨g, 0, none⟩) (n + m) cap) (l ++ news) → w.grownBy w' (some g0) → (∀ j, j < n → w'.cell? ⟨g0, j, none⟩ = w.cell? ⟨g0, j, none⟩) → K (a.put o.dst (.slice (some ⟨g, 0, none⟩) (n + m) cap)) w') :
    if Region.wanted o (yielded ops a.tmps) = true then Oper.wp Try.prog o a w K Q else E := by
  subst hn
  obtain ⟨i0, hi, hz0, hz1, hz2⟩ := info_parts info32
  have hw : Region.wanted o (yielded ops a.tmps) = true := by simp [Region.wanted, hgd]
  rw [if_pos hw]
  have hnews : ∀ j u, (wv news)[j]? = some u → w.cell? ((⟨B, 0, none⟩ : Addr).add j) = some u := fun j u hu => World.news_of_block hb j u (by simpa using hu)
  obtain ⟨g, cap, w', hr, h2, h3, h4, h5⟩ := run_append_lies (P := Try.prog) w 76 o.type base 69 i0 (.int .u32 0) 1 4 Try.underlying76 hi hz0 hz1 hz2 rfl (by omega) (.slice (some ⟨g0, 0, none⟩) l.length c0) l.length (wv l) hown ⟨B, 0, none⟩ m c (wv news) (by rw [wv_length]; omega) hnews (wv_one news) hm (by unfold maxLen; omega) (by omega) hbase _ rfl
  have hk := app_keeps w o.type base g0 l.length c0 l rfl hown ⟨B, 0, none⟩ m c news hl hnews hbytes hr
  unfold Oper.wp execOp
  simp only [ho, resolve, invoke, builtin, Sem.run_bind, Sem.run_pure, Result.andThen_ok, List.map_toArray, List.map_cons, List.map_nil, hs, hx, hr]
  exact h g cap w' (by unfold OwnW; rw [wv_append, List.length_append, hl]; exact h2) h3 hk

end Go.Proofs.Ytbclhaleibjkgaa
