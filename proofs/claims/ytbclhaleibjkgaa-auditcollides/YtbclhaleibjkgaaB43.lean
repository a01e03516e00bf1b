/- The statements' light. · How much the document's disk may hold. · The statements' step: one call of both disks. · The statements' step: Arm, Crash, Read, Stable, and no call. · The statements' step: Write; any call. -/
import Derived.Test.YtbclhaleibjkgaaAu7
import Derived.Test.YtbclhaleibjkgaaB6
import Derived.Test.YtbclhaleibjkgaaB15
namespace Go.Proofs.Ytbclhaleibjkgaa
open Go.RowKit

/-- its texts and bytes are no greater than what can come in -/
structure RcZ (r : Rc) : Prop where
  who : r.who.size ≤ 140737488351232
  bkt : r.bkt.size ≤ 140737488351232
  key : r.key.size ≤ 140737488351232
  sum : r.sum.length ≤ 140737488351232
  prev : r.prev.length ≤ 140737488351232
def lightR (l : List Rc) : Bool := l.all (fun r => decide (rcLen r ≤ 5000)) && decide (l.length ≤ 100)
theorem light_len5 {l : List Rc} (h : lightR l = true) : (∀ r ∈ l, rcLen r ≤ 5000) ∧ l.length ≤ 100 := by
  obtain ⟨h1, h2⟩ := Bool.and_eq_true_iff.1 h
  exact ⟨fun r hr => of_decide_eq_true (List.all_eq_true.1 h1 r hr), of_decide_eq_true h2⟩
theorem light_len {l : List Rc} (h : lightR l = true) : (∀ r ∈ l, rcLen r ≤ 20000) ∧ l.length ≤ 100 :=
  ⟨fun r hr => Nat.le_trans ((light_len5 h).1 r hr) (by decide), (light_len5 h).2⟩
theorem light_no {l : List Rc} {r : Rc} (hr : r ∈ l) (h : 5000 < rcLen r) : lightR l = false := by
  unfold lightR
  rw [Bool.and_eq_false_iff]
  left
  rw [List.all_eq_false]
  exact ⟨r, hr, by rw [decide_eq_true_iff]; omega⟩
theorem light_yes {l : List Rc} (h : ∀ r ∈ l, rcLen r ≤ 5000) : lightR l = decide (l.length ≤ 100) := by
  unfold lightR
  rw [List.all_eq_true.2 (fun r hr => decide_eq_true (h r hr)), Bool.true_and]
set_option maxRecDepth 20000 in
set_option maxHeartbeats 2000000 in
theorem lawLight14 (a : Option Addr) (n cap : Nat) (l : List Rq14) (w : World) (h : IsRl w a n l) (hz : ∀ x ∈ l, RcZ x.1) (hn : n ≤ 140737488351232) :
    Calls Try.prog 9 #[.slice a n cap] w fun e w' => e = .returned (.bool (lightR (l.map Prod.fst))) ∧ Below w.heap.size w w' := by
  have HL : Hid (l.length = n) := h.len
  have HX := mkHid h
  have HZ := mkHid hz
  have HN := fun r => @light_no (l.map Prod.fst) r
  have HY := @light_yes (l.map Prod.fst)
  rw [List.length_map, HL.out] at HY
  clear h hz
  generalize lightR (l.map Prod.fst) = LR at *
  rcases Nat.eq_zero_or_pos n with hn0 | hn0
  · have hl0 : l = [] := List.length_eq_zero_iff.1 (HL.out.trans hn0)
    subst hn0 hl0
    have HLR : Hid (LR = true) := HY (fun x hx => by cases hx)
    clear HN HY HX HZ HL hn
    go_enter Try.func9, Try.ntmps9
    go_wp2
    go_loopw [3] (fun i wr => i = .int .i64 0 ∧ wr = w) (fun _ _ => 0)
    case atStart => exact ⟨rfl, rfl⟩
    case round =>
      obtain ⟨rfl, rfl⟩ := hrel
      go_wp2
      go_ret
      exact ⟨by rw [HLR.out]; rfl, Below.refl _ _⟩
  obtain ⟨B, off, rfl, hc⟩ := HX.out.cells hn0
  have HCC := mkHid hc
  clear hc
  go_enter Try.func9, Try.ntmps9
  go_wp2
  go_loopw [3] (fun i wr => ∃ (k : Nat), k ≤ n ∧ i = .int .i64 (k : Int) ∧ Hid (Below w.heap.size w wr) ∧ Hid (∀ x ∈ (l.map Prod.fst).take k, rcLen x ≤ 5000)) (fun i _ => n - (Go.RowKit.intOf i).toNat)
  case atStart => exact ⟨0, Nat.zero_le _, rfl, Below.refl _ _, fun x hx => by cases hx⟩
  case round =>
    obtain ⟨k, hk, rfl, HB, HF⟩ := hrel
    by_cases hlt : k < n
    · have hc := HCC.out
      obtain ⟨x, hx⟩ : ∃ x, l[k]? = some x := ⟨l[k]'(by have := HL.out; omega), List.getElem?_eq_getElem _⟩
      have hzx := HZ.out x (List.mem_of_getElem? hx)
      have hC := range_below14 (hc k x hx) HB.out
      have HI := info14 x.1 x.2
      have HMem : Hid (x.1 ∈ l.map Prod.fst) := List.mem_map.2 ⟨x, List.mem_of_getElem? hx, rfl⟩
      have HF2 : Hid (rcLen x.1 ≤ 5000 → ∀ y ∈ (l.map Prod.fst).take (k + 1), rcLen y ≤ 5000) := fun h5 y hy => by
        rw [List.take_add_one, List.getElem?_map, hx] at hy
        rcases List.mem_append.1 hy with hy | hy
        · exact HF.out y hy
        · have : y = x.1 := by simpa using hy
          subst this; exact h5
      have HNx := mkHid (HN x.1 HMem.out)
      have z1 := hzx.who
      have z2 := hzx.bkt
      have z3 := hzx.key
      have z4 := hzx.sum
      have z5 := hzx.prev
      clear hc hx hzx HX HZ HF HN
      obtain ⟨⟨xseq, xclk, xwho, xkind, xbkt, xkey, xver, xerr, xsum, xprev⟩, ⟨xa, xc, xb, xd⟩⟩ := x
      have HQ : Hid (rcLen ⟨xseq, xclk, xwho, xkind, xbkt, xkey, xver, xerr, xsum, xprev⟩ = xwho.size + xbkt.size + xkey.size + xsum.length + xprev.length) := rfl
      simp only [] at HNx HF2 z1 z2 z3 z4 z5 hC HI
      generalize rcLen ⟨xseq, xclk, xwho, xkind, xbkt, xkey, xver, xerr, xsum, xprev⟩ = LN at *
      simp only [rcc] at hC HI
      generalize hpl : xprev.length = pl at *
      generalize hsl : xsum.length = sl at *
      clear hpl hsl
      have hlt0 : (0 : Int) ≤ (k : Int) := by omega
      have hlt' : (k : Int) < (n : Int) := by omega
      have HBa := mkHid (HB.out.alloc HB.out.size (.cells #[.int .u64 (xseq : Int), .int .u64 (xclk : Int), .string xwho, .int .i64 xkind, .string xbkt, .string xkey, .int .u64 (xver : Int), .int .i64 xerr, .slice xa sl xc, .slice xb pl xd] 26))
      by_cases h5 : LN ≤ 5000
      · have h5' : ¬ (5000 : Int) < (xwho.size : Int) + (xbkt.size : Int) + (xkey.size : Int) + (sl : Int) + (pl : Int) := by have := HQ.out; omega
        have HF3 := mkHid (HF2.out h5)
        clear HF2 HNx HQ
        go_wp2_with (first | (refine wpList_load_mid rfl 26 _ rfl B (off + k * 10) rfl _ _ hC Try.underlying26 rfl HI ?_))
        go_roundw
        case rel => exact ⟨k + 1, by omega, by go_num, HBa, HF3⟩
        case measure => simp [Go.RowKit.intOf]; omega
      · have h5' : (5000 : Int) < (xwho.size : Int) + (xbkt.size : Int) + (xkey.size : Int) + (sl : Int) + (pl : Int) := by have := HQ.out; omega
        have HF3 := mkHid (HNx.out (by omega))
        clear HF2 HNx HQ
        go_wp2_with (first | (refine wpList_load_mid rfl 26 _ rfl B (off + k * 10) rfl _ _ hC Try.underlying26 rfl HI ?_))
        go_ret
        exact ⟨by rw [HF3.out]; rfl, HBa.out⟩
    · have hkn : k = n := by omega
      subst hkn
      have hge : ¬ (k : Int) < (k : Int) := by omega
      have HLR : Hid (LR = decide (k ≤ 100)) := HY (fun x hx => HF.out x (by rw [List.take_of_length_le (by rw [List.length_map]; have := HL.out; omega)]; exact hx))
      clear HY HN HF HX HZ
      go_wp2
      go_ret
      have HDq : decide ((k : Int) ≤ 100) = decide (k ≤ 100) := decide_eq_decide.2 (by omega)
      exact ⟨by rw [HLR.out, ← HDq]; rfl, HB.out⟩
end Go.Proofs.Ytbclhaleibjkgaa
namespace Go.Proofs.Ytbclhaleibjkgaa
open Go.RowKit

/-- how much there may be behind k calls -/
structure FewR (r : Rd) (k : Nat) : Prop where
  n : r.n ≤ 4096
  sc : r.S.length + r.C.length ≤ k
  at_ : ∀ g ∈ r.C, g.at_ < r.n ∧ g.b.length = 512
  wr : r.wr ≤ k
  fl : r.fl ≤ k
  left : r.left ≤ 9223372036854775807
theorem FewR.few {r : Rd} {k : Nat} (h : FewR r k) (hk : k ≤ 100000) : FewP (plOf r) := by
  obtain ⟨h1, h2, h3, h4, h5, _⟩ := h
  refine ⟨h1, ?_, ?_, ?_, ?_⟩
  · simp [plOf]; omega
  · intro g hg
    obtain ⟨x, hx, rfl⟩ := List.mem_map.1 hg
    exact h3 x hx
  · simp [plOf]; omega
  · simp [plOf]; omega
theorem FewR.more {r : Rd} {k : Nat} (h : FewR r k) : FewR r (k + 1) := by
  obtain ⟨h1, h2, h3, h4, h5, h6⟩ := h
  exact ⟨h1, by omega, h3, by omega, by omega, h6⟩
theorem FewR.flush {r : Rd} {k : Nat} (h : FewR r k) : FewR (flushR r) (k + 1) := by
  unfold flushR
  split
  · exact h.more
  · obtain ⟨h1, h2, h3, h4, h5, h6⟩ := h
    refine ⟨h1, ?_, fun g hg => (by cases hg), by show r.wr ≤ _; omega, by show r.fl + 1 ≤ _; omega, h6⟩
    have := fold_len r.C r.S
    show (List.foldl settleW r.S r.C).length + 0 ≤ _
    omega
theorem FewR.arm {r : Rd} {k : Nat} (h : FewR r k) (z : Int) (hz : z ≤ 9223372036854775807) : FewR (armR r z) (k + 1) := by
  obtain ⟨h1, h2, h3, h4, h5, h6⟩ := h
  refine ⟨h1, by show r.S.length + r.C.length ≤ _; omega, h3, by show r.wr ≤ _; omega, by show r.fl ≤ _; omega, by show (max z 0).toNat ≤ _; omega⟩
theorem FewR.crash {r : Rd} {k : Nat} (h : FewR r k) (ks : List Bool) : FewR (crashR r ks) (k + 1) := by
  obtain ⟨h1, h2, h3, h4, h5, h6⟩ := h
  refine ⟨h1, ?_, fun g hg => (by cases hg), by show r.wr ≤ _; omega, by show r.fl ≤ _; omega, by show 0 ≤ _; omega⟩
  have := fold_len (keptW r.C ks) r.S
  have := keptW_len r.C ks
  show (List.foldl settleW r.S (keptW r.C ks)).length + 0 ≤ _
  omega
theorem FewR.write {r r' : Rd} {i : Int} {b : List UInt8} {k : Nat} (h : FewR r k) (hw : WrTo r i b r') : FewR r' (k + 1) := by
  rcases hw with ⟨he, g, e1, e2, rfl⟩ | ⟨_, _, rfl⟩ | ⟨_, _, rfl⟩
  · obtain ⟨h1, h2, h3, h4, h5, h6⟩ := h
    refine ⟨h1, ?_, ?_, by show r.wr + 1 ≤ _; omega, by show r.fl ≤ _; omega, ?_⟩
    · show r.S.length + (r.C ++ [g]).length ≤ _
      rw [List.length_append]; simp only [List.length_cons, List.length_nil]; omega
    · intro x hx
      rcases List.mem_append.1 hx with hx | hx
      · exact h3 x hx
      · obtain rfl := List.mem_singleton.1 hx
        unfold wrE at he
        cases ho : r.off with
        | true => rw [ho] at he; simp at he
        | false =>
          cases hi : inR r.n i with
          | false => rw [ho, hi] at he; simp at he
          | true =>
            by_cases hb : b.length = 512
            · refine ⟨?_, by rw [e2]; exact hb⟩
              have := of_decide_eq_true hi
              show x.at_ < r.n
              omega
            · rw [ho, hi] at he; simp [hb] at he
    · show nextL r ≤ _
      unfold nextL; split <;> omega
  · obtain ⟨h1, h2, h3, h4, h5, h6⟩ := h
    exact ⟨h1, by show r.S.length + r.C.length ≤ _; omega, h3, by show r.wr ≤ _; omega, by show r.fl ≤ _; omega, h6⟩
  · exact h.more
end Go.Proofs.Ytbclhaleibjkgaa
namespace Go.Proofs.Ytbclhaleibjkgaa
open Go.RowKit

end Go.Proofs.Ytbclhaleibjkgaa
namespace Go.Proofs.Ytbclhaleibjkgaa
open Go.RowKit

end Go.Proofs.Ytbclhaleibjkgaa
namespace Go.Proofs.Ytbclhaleibjkgaa
open Go.RowKit

theorem oqb_len {w : World} {base : Nat} {o : Oq} (h : OkQ w base o) : (oqb o).length ≤ 140737488351232 := by
  unfold oqb
  split
  · exact h.rawLen
  · rw [secL_len]; omega

end Go.Proofs.Ytbclhaleibjkgaa
