/- The document's Verify. -/
import Derived.Test.YtbclhaleibjkgaaB36
import Derived.Test.YtbclhaleibjkgaaB37
namespace Go.Proofs.Ytbclhaleibjkgaa
open Go.RowKit

/-- Verify's answer: OK (0), or ErrChain (53) -/
def verN (l : List Rc) (h : List UInt8) : Int := if verL l h = true then 0 else 53
theorem verN_no {l : List Rc} {h : List UInt8} (e : verF 0 [] l = none) : verN l h = 53 := by
  unfold verN
  rw [if_neg (fun x => by rw [(verL_F _ l rfl h).1 x] at e; cases e)]
theorem verN_some {l : List Rc} {h g : List UInt8} (e : verF 0 [] l = some g) : verN l h = if eqB g h = true then 0 else 53 := by
  unfold verN eqB
  by_cases hg : g = h
  · subst hg
    rw [if_pos ((verL_F _ l rfl g).2 e), if_pos (by simp)]
  · rw [if_neg (fun x => hg (Option.some.inj (e.symm.trans ((verL_F _ l rfl h).1 x)))), if_neg (by simpa using hg)]
theorem drop14 {l : List Rq14} {k : Nat} {x : Rq14} (hx : l[k]? = some x) : (l.map Prod.fst).drop k = x.1 :: (l.map Prod.fst).drop (k + 1) := by
  obtain ⟨hk, e⟩ := List.getElem?_eq_some_iff.1 hx
  rw [List.drop_eq_getElem_cons (by rw [List.length_map]; exact hk), List.getElem_map, e]
attribute [local go_sem] undef
set_option maxRecDepth 20000 in
set_option maxHeartbeats 2000000 in
theorem refVerify14 (a : Option Addr) (n cap : Nat) (l : List Rq14) (hv : Value) (hd : List UInt8) (w : World) (h : IsRl w a n l) (hh : IsV w hv hd) (hs : ∀ x ∈ l, rcLen x.1 ≤ 20000) (hn : n ≤ 100000) :
    Calls Try.prog 23 #[.slice a n cap, hv] w fun e w' => e = .returned (.int .i64 (verN (l.map Prod.fst) hd)) ∧ Below w.heap.size w w' := by
  have HL : Hid (l.length = n) := h.len
  have HN0 := @verN_no (l.map Prod.fst) hd
  have HN1 := fun g => @verN_some (l.map Prod.fst) hd g
  generalize verN (l.map Prod.fst) hd = VN at *
  have HH := mkHid hh
  have HX := mkHid h
  have HSs := mkHid hs
  clear hh h hs
  rcases Nat.eq_zero_or_pos n with hn0 | hn0
  · have hl0 : l = [] := List.length_eq_zero_iff.1 (HL.out.trans hn0)
    subst hn0 hl0
    have HVN := mkHid (HN1 [] rfl)
    have HSm := refSameV (.slice none 0 0) hv [] hd w (IsV.nil w) HH.out
    clear HN0 HN1 HX HSs HL hn
    generalize eqB [] hd = EQ at *
    go_enter Try.func23, Try.ntmps23
    go_wp2
    go_loopw [5, 6] (fun v i wr => v = .slice none 0 0 ∧ i = .int .i64 0 ∧ wr = w) (fun _ _ _ => 0)
    case atStart => exact ⟨rfl, rfl, rfl⟩
    case round =>
      obtain ⟨rfl, rfl, rfl⟩ := hrel
      go_wp2_with fail
      refine HSm.mono ?_
      rintro e y1 ⟨rfl, nn, hy⟩
      have HB1 : Hid (Below wr.heap.size wr y1) := by unfold Hid; rw [hy]; exact bel_drewN (Below.refl _ _) nn
      clear hy HSm
      cases EQ with
      | true =>
        have HV2 : Hid (VN = 0) := HVN.out.trans (if_pos rfl)
        clear HVN
        go_wp2_with fail
        go_ret
        exact ⟨by rw [HV2.out]; rfl, HB1.out⟩
      | false =>
        have HV2 : Hid (VN = 53) := HVN.out.trans (if_neg (by decide))
        clear HVN
        go_wp2_with fail
        go_ret
        exact ⟨by rw [HV2.out]; rfl, HB1.out⟩
  obtain ⟨B, off, rfl, hc⟩ := HX.out.cells hn0
  have HCC := mkHid hc
  clear hc
  go_enter Try.func23, Try.ntmps23
  go_wp2
  go_loopw [5, 6] (fun v i wr => ∃ (k : Nat) (g : List UInt8), k ≤ n ∧ i = .int .i64 (k : Int) ∧ Hid (IsV wr v g) ∧ Hid (Below w.heap.size w wr) ∧ Hid (verF 0 [] (l.map Prod.fst) = verF k g ((l.map Prod.fst).drop k))) (fun _ i _ => n - (Go.RowKit.intOf i).toNat)
  case atStart => exact ⟨0, [], Nat.zero_le _, rfl, IsV.nil _, Below.refl _ _, rfl⟩
  case round =>
    obtain ⟨k, g, hk, rfl, HV, HB, HF⟩ := hrel
    by_cases hlt : k < n
    · have hc := HCC.out
      obtain ⟨x, hx⟩ : ∃ x, l[k]? = some x := ⟨l[k]'(by have := HL.out; omega), List.getElem?_eq_getElem _⟩
      have hlen : rcLen x.1 ≤ 20000 := HSs.out x (List.mem_of_getElem? hx)
      have hX := HX.out.recs x (List.mem_of_getElem? hx)
      have hC := hc k x hx
      have HC : ∀ W, Below w.heap.size w W → W.rangeAt B (off + k * 10) (rcc x.1 x.2) := fun W hW => range_below14 hC hW
      have HD : ∀ W, Below w.heap.size w W → Calls Try.prog 14 #[.agg (rcc x.1 x.2).toArray] W fun e w' => ∃ v, e = .returned v ∧ OwnB w' W.heap.size v (digRc x.1) ∧ Below W.heap.size W w' := fun W hW => refDigest14 x.1 x.2 W (hX.below hW) hlen
      have HR : ∀ W, Calls Try.prog 26 #[.agg (rcc x.1 x.2).toArray] W fun e w' => e = .returned (.bool (rightRc x.1)) ∧ Below W.heap.size W w' := fun W => refRight14 x.1 x.2 W
      have HP : ∀ W, Below w.heap.size w W → IsV W (.slice x.2.b x.1.prev.length x.2.d) x.1.prev := fun W hW => (hX.prev.below hW rfl).isV
      have HI := info14 x.1 x.2
      have HF2 : Hid (verF 0 [] (l.map Prod.fst) = if rightRc x.1 = true ∧ x.1.seq = k + 1 ∧ x.1.prev = g then verF (k + 1) (digRc x.1) ((l.map Prod.fst).drop (k + 1)) else none) := by
        unfold Hid; rw [HF.out, drop14 hx, verF]
      have HSq : Hid (x.1.seq < 18446744073709551616) := hX.num.seq
      clear hlen hX hC hc hx HF HX HSs
      obtain ⟨⟨xseq, xclk, xwho, xkind, xbkt, xkey, xver, xerr, xsum, xprev⟩, ⟨xa, xc, xb, xd⟩⟩ := x
      simp only [] at HC HD HR HP HF2 HSq HI
      generalize digRc ⟨xseq, xclk, xwho, xkind, xbkt, xkey, xver, xerr, xsum, xprev⟩ = DG at *
      generalize rightRc ⟨xseq, xclk, xwho, xkind, xbkt, xkey, xver, xerr, xsum, xprev⟩ = RG at *
      simp only [rcc] at HC HD HR HI
      generalize hpl : xprev.length = pl at *
      generalize hsl : xsum.length = sl at *
      clear hpl hsl
      have hC0 := HC wr HB.out
      have e0 : wr.cell? ⟨B, off + k * 10, none⟩ = some (.int .u64 (xseq : Int)) := hC0 0 _ rfl
      have hlt0 : (0 : Int) ≤ (k : Int) := by omega
      have hlt' : (k : Int) < (n : Int) := by omega
      have hw1 : IntKind.u64.wrap ((k : Int) + 1) = (k : Int) + 1 := by rw [show (k : Int) + 1 = ((k + 1 : Nat) : Int) by omega]; exact wrap64_nat _ (by omega)
      cases RG with
      | false =>
        have HNo := mkHid (HN0 (by rw [HF2.out, if_neg (by rintro ⟨h, _⟩; cases h)]))
        clear HN0 HN1 HF2
        go_wp2_with (first | (refine wpList_load_mid rfl 26 _ rfl B (off + k * 10) rfl _ _ hC0 Try.underlying26 rfl HI ?_))
        refine (HR wr).mono ?_
        rintro e y1 ⟨rfl, hb1⟩
        have HB1 := mkHid (HB.out.trans (hb1.mono HB.out.size))
        clear hb1
        go_wp2_with fail
        go_ret
        exact ⟨by rw [HNo.out]; rfl, HB1.out⟩
      | true =>
        by_cases hsq : xseq = k + 1
        · subst hsq
          have HE0 : ∀ W, Below w.heap.size w W → W.cell? ⟨B, off + k * 10, none⟩ = some (.int .u64 ((k : Int) + 1)) := fun W hW => (HC W hW) 0 _ rfl
          have HE9 : ∀ W, Below w.heap.size w W → W.cell? ⟨B, off + k * 10 + 9, none⟩ = some (.slice xb pl xd) := fun W hW => (HC W hW) 9 _ rfl
          have HSm := fun W hW => refSameV (.slice xb pl xd) u5 xprev g W (HP W hW)
          have HF4 : Hid (verF 0 [] (l.map Prod.fst) = if eqB xprev g = true then verF (k + 1) DG ((l.map Prod.fst).drop (k + 1)) else none) := by
            unfold Hid; rw [HF2.out]; unfold eqB
            by_cases hp : xprev = g
            · rw [if_pos ⟨rfl, rfl, hp⟩, if_pos (by simpa using hp)]
            · rw [if_neg (fun h => hp h.2.2), if_neg (by simpa using hp)]
          clear HF2 HP HN1 HSq
          generalize eqB xprev g = EQ at *
          go_wp2_with (first | (refine wpList_load_mid rfl 26 _ rfl B (off + k * 10) rfl _ _ hC0 Try.underlying26 rfl HI ?_))
          refine (HR wr).mono ?_
          rintro e y1 ⟨rfl, hb1⟩
          have HB1 := mkHid (HB.out.trans (hb1.mono HB.out.size))
          have HV1 := mkHid (HV.out.below hb1 rfl)
          have e0 := HE0 y1 HB1.out
          have e9 := HE9 y1 HB1.out
          clear hb1 hC0 HR HE0 HE9 HB HV
          go_wp2_with fail
          refine (HSm y1 HB1.out HV1.out).mono ?_
          rintro e y2 ⟨rfl, nn, hy⟩
          have HB2 : Hid (Below w.heap.size w y2) := by unfold Hid; rw [hy]; exact bel_drewN HB1.out nn
          clear hy HSm e0 e9 HB1 HV1
          cases EQ with
          | false =>
            have HNo := mkHid (HN0 (HF4.out.trans (if_neg (by decide))))
            clear HN0 HF4 HD HC
            go_wp2_with fail
            go_ret
            exact ⟨by rw [HNo.out]; rfl, HB2.out⟩
          | true =>
            have HF5 : Hid (verF 0 [] (l.map Prod.fst) = verF (k + 1) DG ((l.map Prod.fst).drop (k + 1))) := HF4.out.trans (if_pos rfl)
            have hC2 := HC y2 HB2.out
            clear HN0 HF4
            go_wp2_with (first | (refine wpList_load_mid rfl 26 _ rfl B (off + k * 10) rfl _ _ hC2 Try.underlying26 rfl HI ?_))
            refine (HD y2 HB2.out).mono ?_
            rintro e y3 ⟨v3, rfl, ho3, hb3⟩
            have HB3 := mkHid (HB2.out.trans (hb3.mono HB2.out.size))
            have HV3 := mkHid ho3.isV
            clear ho3 hb3 hC2 HC HD HI HB2
            go_wp2_with fail
            rw [show (Value.tuple #[] : Value) = undef from rfl]
            go_roundw
            case rel => exact ⟨k + 1, DG, by omega, by go_num, HV3, HB3, HF5⟩
            case measure => simp [Go.RowKit.intOf]; omega
        · have hn1 : ¬ (xseq : Int) = (k : Int) + 1 := by omega
          have HNo := mkHid (HN0 (by rw [HF2.out, if_neg (by rintro ⟨_, h, _⟩; exact hsq h)]))
          have HE0 : ∀ W, Below w.heap.size w W → W.cell? ⟨B, off + k * 10, none⟩ = some (.int .u64 (xseq : Int)) := fun W hW => (HC W hW) 0 _ rfl
          clear HN0 HN1 HF2 hsq HD HP HC
          go_wp2_with (first | (refine wpList_load_mid rfl 26 _ rfl B (off + k * 10) rfl _ _ hC0 Try.underlying26 rfl HI ?_))
          refine (HR wr).mono ?_
          rintro e y1 ⟨rfl, hb1⟩
          have HB1 := mkHid (HB.out.trans (hb1.mono HB.out.size))
          have e0 := HE0 y1 HB1.out
          clear hb1 hC0 HR HI HE0
          go_wp2_with fail
          go_ret
          exact ⟨by rw [HNo.out]; rfl, HB1.out⟩
    · have hkn : k = n := by omega
      subst hkn
      have hge : ¬ (k : Int) < (k : Int) := by omega
      have HF3 : Hid (verF 0 [] (l.map Prod.fst) = some g) := by
        unfold Hid; rw [HF.out, List.drop_of_length_le (by rw [List.length_map]; have := HL.out; omega), verF]
      have HVN := mkHid (HN1 g HF3.out)
      have HSm := refSameV _ hv g hd wr HV.out (HH.out.below HB.out rfl)
      clear HN0 HN1 HF HF3 HH HX HSs
      generalize eqB g hd = EQ at *
      go_wp2_with fail
      refine HSm.mono ?_
      rintro e y1 ⟨rfl, nn, hy⟩
      have HB1 : Hid (Below w.heap.size w y1) := by unfold Hid; rw [hy]; exact bel_drewN HB.out nn
      clear hy
      cases EQ with
      | true =>
        have HV2 : Hid (VN = 0) := HVN.out.trans (if_pos rfl)
        clear HVN
        go_wp2_with fail
        go_ret
        exact ⟨by rw [HV2.out]; rfl, HB1.out⟩
      | false =>
        have HV2 : Hid (VN = 53) := HVN.out.trans (if_neg (by decide))
        clear HVN
        go_wp2_with fail
        go_ret
        exact ⟨by rw [HV2.out]; rfl, HB1.out⟩
end Go.Proofs.Ytbclhaleibjkgaa
