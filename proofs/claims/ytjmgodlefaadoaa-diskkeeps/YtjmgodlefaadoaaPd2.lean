/- The program's disk: a sector's bytes in new memory. -/
import Derived.Test.YtjmgodlefaadoaaPd1
namespace Go.Proofs.Ytjmgodlefaadoaa
open Go.RowKit

theorem infoSec : (Try.prog.info? 71).map (·.size) = some 512 := by kernel_rfl
theorem infoU8 : (Try.prog.info? 5).map (·.size) = some 1 := by kernel_rfl
/-- copy(dst, src), dst a part of a block, src of as many bytes -/
theorem copyB (W : World) (B T o : Nat) (cs : List Value) (hB : Blk W B T cs) (a : Option Addr) (n c : Nat) (k : List UInt8) (hk : IsB W a n c k) (hn : 0 < n) (hfit : o + n ≤ cs.length) :
    ∃ W', (Builtin.copy_ #[31, 31] 3 #[.slice (some ⟨B, o, none⟩) n n, .slice a n c]).run Try.prog W = .ok (.int .i64 (n : Int)) W' ∧ Blk W' B T (putL cs o (bv k)) ∧ W.grownBy W' (some B) := by
  obtain ⟨b, off, rfl, hc⟩ := hk.cells hn
  have hlen := hk.len_eq
  have hcs : ∀ j v, (bv k)[j]? = some v → W.cell? ((⟨b, off, none⟩ : Addr).add j) = some v := by
    intro j v hj
    have hjl : j < k.length := by have := (List.getElem?_eq_some_iff.1 hj).1; rwa [bv_length] at this
    rw [bv_at k j hjl] at hj
    rw [Addr.add_lit, hc j (by omega), ← hj]
  have h := run_copy_row (P := Try.prog) W 31 31 3 5 B o n n ⟨b, off, none⟩ n c _ T (bv k) Try.underlying31 infoU8 hB (by rw [bv_length, hlen]; show n = min n n; omega) hcs (by rw [bv_length, List.size_toArray]; omega) (bv_one k)
  have e2 : cs.take o ++ bv k ++ cs.drop (o + (bv k).length) = putL cs o (bv k) := by
    apply List.ext_getElem?
    intro j
    rw [putL_at _ _ _ _ (by rw [bv_length]; omega), bv_length, hlen]
    by_cases h1 : j < o
    · rw [if_neg (by omega), List.append_assoc, List.getElem?_append_left (by rw [List.length_take]; omega), List.getElem?_take_of_lt h1]
    · by_cases h2 : j < o + n
      · have hl2 : (cs.take o ++ bv k).length = o + n := by rw [List.length_append, List.length_take, bv_length]; omega
        rw [if_pos (by omega), List.getElem?_append_left (by omega), List.getElem?_append_right (by rw [List.length_take]; omega), List.length_take, show min o cs.length = o by omega]
      · have hl2 : (cs.take o ++ bv k).length = o + n := by rw [List.length_append, List.length_take, bv_length]; omega
        rw [if_neg (by omega), List.getElem?_append_right (by omega), hl2, List.getElem?_drop, show o + n + (j - (o + n)) = j by omega]
  refine ⟨_, ?_, hB.row (putL cs o (bv k)), ⟨rfl, rfl, rfl, by simp [World.setRow], fun i _ hi => setRow_other W B i _ (fun e => hi (by rw [e]))⟩⟩
  rw [h, bv_length, hlen]
  rw [bv_length, hlen] at e2
  rw [← e2]
  rfl
/-- all of a block's bytes -/
theorem putL_all (k : List UInt8) (cs : List Value) (h : cs.length = k.length) : putL cs 0 (bv k) = bv k := by
  apply List.ext_getElem?
  intro j
  rw [putL_at _ _ _ _ (by rw [bv_length]; omega), bv_length]
  by_cases hj : j < k.length
  · rw [if_pos (by omega), Nat.sub_zero]
  · rw [if_neg (by omega), List.getElem?_eq_none (by omega), List.getElem?_eq_none (by rw [bv_length]; omega)]

/-- the copy into what was made -/
theorem Bytes2 (w0 w1 : World) {H : Nat} {b z : List UInt8} (hi : IsB w0 (some ⟨H, 0, none⟩) 512 512 b) (ho : OwnB w1 w0.heap.size (.slice (some ⟨w0.heap.size, 0, none⟩) 512 512) z) (hg : w0.grownBy w1 none) :
    ∃ w2, (Builtin.copy_ #[31, 31] 3 #[.slice (some ⟨w0.heap.size, 0, none⟩) 512 512, .slice (some ⟨H, 0, none⟩) 512 512]).run Try.prog w1 = .ok (.int .i64 512) w2 ∧ Blk w2 w0.heap.size 5 (bv b) ∧ w1.grownBy w2 (some w0.heap.size) := by
  obtain ⟨_, h2⟩ := ho
  rcases h2 with ⟨h, _⟩ | ⟨g, cap, cur, e, _, hgb, _, _, hsz, _⟩
  · cases h
  · injection e with e1 _ e3
    have e4 : w0.heap.size = g := by injection e1 with e1; injection e1 with e1
    subst e4
    have hcl : cur.toList.length = 512 := by rw [Array.length_toList, hsz, ← e3]
    have hB : Blk w1 w0.heap.size 5 cur.toList := by unfold Blk; rw [hgb]
    have hi1 : IsB w1 (some ⟨H, 0, none⟩) 512 512 b := hi.below (n := w0.heap.size) ⟨hg.1, hg.2, hg.3, hg.4, fun k hk => hg.5 k hk (by simp)⟩ rfl
    obtain ⟨w2, h1, h2, h3⟩ := copyB w1 _ _ 0 _ hB _ 512 512 b hi1 (by omega) (by omega)
    rw [putL_all b _ (by rw [hcl, hi.len_eq])] at h2
    exact ⟨w2, h1, h2, h3⟩
set_option maxRecDepth 20000 in
set_option maxHeartbeats 1000000 in
theorem codBytes (b : List UInt8) (w : World) (hb : b.length = 512) :
    Calls Try.prog 37 #[.agg (bv b).toArray] w fun e w' => ∃ g, e = .returned (.slice (some ⟨g, 0, none⟩) 512 512) ∧ w.heap.size ≤ g ∧ Blk w' g 5 (bv b) ∧ Below w.heap.size w w' := by
  have hB0 : Blk (w.alloc (.cells (bv b).toArray 71)) w.heap.size 71 (bv b) := Blk.new w _ _
  have HD0 : Hid (Below w.heap.size w (w.alloc (.cells (bv b).toArray 71))) := (Below.refl _ w).alloc (Nat.le_refl _) _
  have HL : Hid (b.length = 512) := hb
  have HI : Hid (IsB (w.alloc (.cells (bv b).toArray 71)) (some ⟨w.heap.size, 0, none⟩) 512 512 b) := ⟨hb, Nat.le_refl _, by decide, fun e => (by cases e), fun _ => ⟨_, 0, rfl, fun i hi => by rw [hB0.cell, Nat.zero_add, bv_at b i (by omega)]⟩⟩
  have HX : Hid (Blk (w.alloc (.cells (bv b).toArray 71)) w.heap.size 71 (bv b)) := hB0
  clear hB0 hb
  generalize hcs : bv b = cs at *
  have HC : Hid (bv b = cs) := hcs
  clear hcs
  go_enter Try.func37, Try.ntmps37
  go_upto_region 1 with fail
  generalize hH : w.heap.size = H at *
  have HH : Hid (w.heap.size = H) := hH
  clear hH
  generalize w.alloc (.cells cs.toArray 71) = w0 at *
  go_wp2_with (at_make; refine make_full8 w0 rfl _ _ rfl w0.heap.size .i64 .i64 _ _ 512 rfl rfl rfl rfl (by omega) (Nat.le_refl _) ?_; intro w1 ho1 hg1; have HG := mkHid (And.intro ho1 hg1); obtain ⟨w2, hr, hB2, hg2⟩ := Bytes2 w0 w1 HI.out ho1 hg1; clear ho1 hg1; have HB2 := mkHid hB2; have HG2 := mkHid hg2; clear hB2 hg2; generalize hS : w0.heap.size = S0 at *; have HS := mkHid hS; clear hS)
  go_ret
  refine ⟨S0, rfl, ?_, ?_, ?_⟩
  · rw [← HS.out]; exact HD0.out.size
  · rw [HC.out] at HB2; exact HB2.out
  · have h1 : Below w0.heap.size w0 w1 := (Below.refl _ w0).grown HG.out.2 (Nat.le_refl _) (fun k e => by cases e)
    have h2 : Below w0.heap.size w1 w2 := (Below.refl _ w1).grown HG2.out h1.size (fun k e => by rw [HS.out]; have := Option.some.inj e; omega)
    rw [HH.out]
    exact HD0.out.trans ((h1.trans h2).mono (by rw [← HH.out]; exact HD0.out.size))
end Go.Proofs.Ytjmgodlefaadoaa
