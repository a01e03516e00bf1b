/- AuditChains: the walk. -/
import Derived.Test.YtooffagdbppmaabAu20
import Derived.Test.YtooffagdbppmaabAu12
import Derived.Test.YtooffagdbppmaabAu13
import Derived.Test.YtooffagdbppmaabB43
import Derived.Test.YtooffagdbppmaabAu8
import Derived.Test.YtooffagdbppmaabAu5
namespace Go.Proofs.Ytooffagdbppmaab
open Go.RowKit

theorem right_lenK14 {r : Rc} (h : rightRc r = true) : rcLen r ≤ 5000 := by
  have := of_decide_eq_true h
  unfold rcLen
  omega
/-- a log that has grown by Next -/
structure LogK14 (W : World) (base : Nat) (v : Value) (A : List Rq14) (k : Nat) : Prop where
  own : OwnRc W base v A
  all : ∀ x ∈ A, RecK14 W x.1 x.2 ∧ rightRc x.1 = true
  len : A.length ≤ k
  ver : verL (A.map Prod.fst) (((A.map Prod.fst).getLast?.map digRc).getD []) = true
  seq : ∀ x, (A.map Prod.fst).getLast? = some x → x.seq = (A.map Prod.fst).length
theorem LogK14.on {W W' : World} {base : Nat} {v : Value} {A : List Rq14} {k k' : Nat} (h : LogK14 W base v A k) (hb : Below W.heap.size W W') (hk : k ≤ k') : LogK14 W' base v A k' :=
  ⟨h.own.on hb, fun x hx => ⟨(h.all x hx).1.keep (KeepO.of_below hb), (h.all x hx).2⟩, Nat.le_trans h.len hk, h.ver, h.seq⟩
theorem LogK14.small {W : World} {base : Nat} {v : Value} {A : List Rq14} {k : Nat} (h : LogK14 W base v A k) : ∀ x ∈ A, rcLen x.1 ≤ 5000 := fun x hx => right_lenK14 (h.all x hx).2
theorem LogK14.add {W W' : World} {base : Nat} {v v' : Value} {A : List Rq14} {k : Nat} {r : Rc} {p : RcA} (h : LogK14 W base v A k) (hk : k < 1000) (ho : OwnRc W' base v' (A ++ [(nextRc (A.map Prod.fst) r, p)])) (hg : W.grownBy W' v.ownBlock) (hr : rightRc (nextRc (A.map Prod.fst) r) = true) (hp : RecK14 W (nextRc (A.map Prod.fst) r) p) :
    LogK14 W' base v' (A ++ [(nextRc (A.map Prod.fst) r, p)]) (k + 1) ∧ verL ((A ++ [(nextRc (A.map Prod.fst) r, p)]).map Prod.fst) (digRc (nextRc (A.map Prod.fst) r)) = true := by
  have hkeep : KeepO [5] W W' := KeepO.ofT (KeepT.grownRc h.own hg) (by decide)
  obtain ⟨g1, g2⟩ := grows14 (r := r) h.ver (by have := h.len; rw [List.length_map]; omega) h.seq hr
  have e : (A ++ [(nextRc (A.map Prod.fst) r, p)]).map Prod.fst = A.map Prod.fst ++ [nextRc (A.map Prod.fst) r] := by rw [List.map_append]; rfl
  refine ⟨⟨ho, fun x hx => ?_, by rw [List.length_append]; have := h.len; simp; omega, ?_, ?_⟩, ?_⟩
  · rcases List.mem_append.1 hx with hx | hx
    · exact ⟨(h.all x hx).1.keep hkeep, (h.all x hx).2⟩
    · obtain rfl := List.mem_singleton.1 hx; exact ⟨hp.keep hkeep, hr⟩
  · rw [e, List.getLast?_append]; exact g1
  · rw [e]; intro x hx
    rw [List.getLast?_append] at hx
    obtain rfl : nextRc (A.map Prod.fst) r = x := by simpa using hx
    exact g2
  · rw [e]; exact g1
theorem verN_yes14 {l : List Rc} {h : List UInt8} (e : verL l h = true) : verN l h = 0 := if_pos e
theorem verN_nil14 (l : List Rc) (r : Rc) : verN (l ++ [r]) [] = 53 := by
  unfold verN
  rw [verL_snoc, decide_eq_false (p := digRc r = []) (fun e => by have := congrArg List.length e; rw [digRc_len] at this; cases this)]
  simp
set_option maxRecDepth 20000 in
set_option maxHeartbeats 4000000 in
theorem chains14 (a : Option Addr) (n cap : Nat) (l : List Rq14) (w : World) (h : IsRl w a n l) (hz : ∀ x ∈ l, RcZ x.1) (hn : n ≤ 140737488351232) :
    Calls Try.prog 3 #[.slice a n cap] w fun e w' => e = .returned (.bool true) ∧ Below w.heap.size w w' := by
  have HLt := lawLight14 a n cap l w h hz hn
  have HL2 := @light_of14 l
  have HX := mkHid h
  have HLn := mkHid h.len
  clear h hz
  generalize lightR (l.map Prod.fst) = LT at *
  cases LT with
  | false =>
    clear HL2 HX HLn
    go_enter Try.func3, Try.ntmps3
    go_wp2_with fail
    refine HLt.mono ?_
    rintro e y1 ⟨rfl, hb1⟩
    have HB1 := mkHid hb1
    clear hb1 HLt
    go_wp2_with fail
    refine (lawAlive14 y1).mono ?_
    rintro e y2 ⟨rfl, hb2⟩
    have HB2 := mkHid (HB1.out.trans (hb2.mono HB1.out.size))
    clear hb2
    go_wp2_with fail
    go_ret
    exact ⟨rfl, HB2.out⟩
  | true =>
  obtain ⟨hs, hm⟩ := HL2 rfl
  rw [HLn.out] at hm
  have HSs := mkHid hs
  clear HL2 hs
  obtain ⟨B, off, hae, hrow⟩ : ∃ B off, (0 < n → a = some ⟨B, off, none⟩) ∧ ∀ (k : Nat) (x : Rq14), l[k]? = some x → w.rangeAt B (off + k * 10) (rcc x.1 x.2) := by
    rcases Nat.eq_zero_or_pos n with h0 | h0
    · have hl0 : l = [] := List.length_eq_zero_iff.1 (HLn.out.trans h0)
      subst hl0
      exact ⟨0, 0, fun x => absurd x (by omega), fun k x hx => by cases hx⟩
    · obtain ⟨B, off, e, hc⟩ := HX.out.cells h0
      exact ⟨B, off, fun _ => e, hc⟩
  have HRow := mkHid hrow
  have HVn := fun W => codVerify14 none 0 0 [] (.slice none 0 0) [] W ⟨rfl, fun h => absurd h (Nat.lt_irrefl 0), fun x hx => by cases hx⟩ (IsV.nil W) (fun x hx => by cases hx) (Nat.zero_le _)
  rw [show verN (([] : List Rq14).map Prod.fst) [] = 0 from by decide] at HVn
  clear hrow hn
  have hae2 : a = some ⟨B, off, none⟩ ∨ n = 0 := by rcases Nat.eq_zero_or_pos n with h0 | h0; exact .inr h0; exact .inl (hae h0)
  clear hae
  rcases hae2 with rfl | rfl
  rotate_left
  · go_enter Try.func3, Try.ntmps3
    go_wp2_with fail
    refine HLt.mono ?_
    rintro e y1 ⟨rfl, hb1⟩
    have HB1 := mkHid hb1
    clear hb1 HLt
    go_wp2
    go_loopw [3, 4] (fun v i wr => v = .slice none 0 0 ∧ i = .int .i64 0 ∧ wr = y1) (fun _ _ _ => 0)
    case atStart => exact ⟨rfl, rfl, rfl⟩
    case round =>
      obtain ⟨rfl, rfl, rfl⟩ := hrel
      go_wp2_with fail
      refine (HVn wr).mono ?_
      rintro e y2 ⟨rfl, hb2⟩
      have HB2 := mkHid (HB1.out.trans (hb2.mono HB1.out.size))
      clear hb2
      go_wp2_with fail
      refine (lawAlive14 y2).mono ?_
      rintro e y3 ⟨rfl, hb3⟩
      have HB3 := mkHid (HB2.out.trans (hb3.mono HB2.out.size))
      clear hb3
      go_wp2_with fail
      go_ret
      exact ⟨rfl, HB3.out⟩
  go_enter Try.func3, Try.ntmps3
  go_wp2_with fail
  refine HLt.mono ?_
  rintro e y1 ⟨rfl, hb1⟩
  have HB1 := mkHid hb1
  clear hb1 HLt
  go_wp2
  go_loopw [3, 4] (fun v i wr => ∃ (k : Nat) (A : List Rq14), k ≤ n ∧ i = .int .i64 (k : Int) ∧ Hid (LogK14 wr w.heap.size v A k) ∧ Hid (Below w.heap.size w wr)) (fun _ i _ => n - (Go.RowKit.intOf i).toNat)
  case atStart => exact ⟨0, [], Nat.zero_le _, rfl, ⟨OwnRc.nil _ _, (fun x hx => by cases hx), Nat.le_refl _, by decide, (fun x hx => by cases hx)⟩, HB1⟩
  case round =>
    clear HB1
    obtain ⟨k, A, hk, rfl, HA, HB⟩ := hrel
    by_cases hlt : k < n
    · obtain ⟨x, hx⟩ : ∃ x, l[k]? = some x := ⟨l[k]'(by have := HLn.out; omega), List.getElem?_eq_getElem _⟩
      have hC := range_below14 (HRow.out k x hx) HB.out
      have HI := info14 x.1 x.2
      obtain ⟨va, vc, hve, -⟩ := HA.out.own.form
      subst hve
      have HNx := codNextK14 va A.length vc A x.1 x.2 wr (HA.out.own.isRl (fun x hx => (HA.out.all x hx).1.is)) ((HX.out.recs x (List.mem_of_getElem? hx)).below HB.out) HA.out.small (HSs.out x (List.mem_of_getElem? hx)) (by have := HA.out.len; omega)
      unfold NxPostK at HNx
      have hlt0 : (0 : Int) ≤ (k : Int) := by omega
      have hlt' : (k : Int) < (n : Int) := by omega
      have HAl := mkHid HA.out.len
      have HOg : Hid (∀ g, (Value.slice va A.length vc).ownBlock = some g → g < wr.heap.size) := fun g e => (World.ownsRow.lt HA.out.own g e).2
      clear hx
      generalize rcc x.1 x.2 = rcx at *
      generalize A.length = an at *
      generalize hNN : nextRc (A.map Prod.fst) x.1 = NN at *
      have HNN := mkHid hNN
      clear hNN
      obtain ⟨nseq, nclk, nwho, nkind, nbkt, nkey, nver, nerr, nsum, nprev⟩ := NN
      go_wp2_with (first | (refine wpList_load_mid rfl 29 _ rfl B (off + k * 10) rfl _ _ hC Try.underlying29 rfl HI ?_))
      refine HNx.mono ?_
      rintro e y2 ⟨⟨pa, pc, pb, pd⟩, rfl, hrk, hb2⟩
      have hbA : Below y2.heap.size y2 (y2.alloc (.cells #[.int .u64 (nseq : Int), .int .u64 (nclk : Int), .string nwho, .int .i64 nkind, .string nbkt, .string nkey, .int .u64 (nver : Int), .int .i64 nerr, .slice pa nsum.length pc, .slice pb nprev.length pd] 29)) := (Below.refl _ y2).alloc (Nat.le_refl _) _
      have HP3 := mkHid (Blk.new y2 29 [.int .u64 (nseq : Int), .int .u64 (nclk : Int), .string nwho, .int .i64 nkind, .string nbkt, .string nkey, .int .u64 (nver : Int), .int .i64 nerr, .slice pa nsum.length pc, .slice pb nprev.length pd])
      have hb3 := hb2.trans (hbA.mono hb2.size)
      have HA3 := mkHid (HA.out.on hb3 (Nat.le_succ k))
      have HB3 := mkHid (HB.out.trans (hb3.mono HB.out.size))
      have HK3 : Hid (RecK14 (y2.alloc (.cells #[.int .u64 (nseq : Int), .int .u64 (nclk : Int), .string nwho, .int .i64 nkind, .string nbkt, .string nkey, .int .u64 (nver : Int), .int .i64 nerr, .slice pa nsum.length pc, .slice pb nprev.length pd] 29)) ⟨nseq, nclk, nwho, nkind, nbkt, nkey, nver, nerr, nsum, nprev⟩ ⟨pa, pc, pb, pd⟩) := hrk.keep (KeepO.of_below hbA)
      have HA4 : Hid (LogK14 (y2.alloc (.cells #[.int .u64 (nseq : Int), .int .u64 (nclk : Int), .string nwho, .int .i64 nkind, .string nbkt, .string nkey, .int .u64 (nver : Int), .int .i64 nerr, .slice pa nsum.length pc, .slice pb nprev.length pd] 29)) w.heap.size (.slice va an vc) A k) := HA.out.on hb3 (Nat.le_refl k)
      have HOg2 : Hid (∀ g, (Value.slice va an vc).ownBlock = some g → g ≠ y2.heap.size) := fun g e => by have := HOg.out g e; have := hb2.size; omega
      clear HA HB hb2 hbA hb3 hrk HNx hC HI HOg
      simp only [rcc]
      go_upto_region 8 with fail
      generalize y2.alloc (.cells #[.int .u64 (nseq : Int), .int .u64 (nclk : Int), .string nwho, .int .i64 nkind, .string nbkt, .string nkey, .int .u64 (nver : Int), .int .i64 nerr, .slice pa nsum.length pc, .slice pb nprev.length pd] 29) = Y3 at *
      generalize y2.heap.size = P at *
      have HRt := refRight14 ⟨nseq, nclk, nwho, nkind, nbkt, nkey, nver, nerr, nsum, nprev⟩ ⟨pa, pc, pb, pd⟩ Y3
      rw [show rcc ⟨nseq, nclk, nwho, nkind, nbkt, nkey, nver, nerr, nsum, nprev⟩ ⟨pa, pc, pb, pd⟩ = [.int .u64 (nseq : Int), .int .u64 (nclk : Int), .string nwho, .int .i64 nkind, .string nbkt, .string nkey, .int .u64 (nver : Int), .int .i64 nerr, .slice pa nsum.length pc, .slice pb nprev.length pd] from rfl] at HRt
      generalize hRG : rightRc ⟨nseq, nclk, nwho, nkind, nbkt, nkey, nver, nerr, nsum, nprev⟩ = RG at *
      have HRG := mkHid hRG
      clear hRG
      go_wp2_with (first | (refine wpList_load_row rfl 29 _ rfl _ rfl _ _ _ _ HP3.out Try.underlying29 rfl (by kernel_rfl) ?_))
      refine HRt.mono ?_
      rintro e y4 ⟨rfl, hb4⟩
      cases RG with
      | false =>
        have HA5 := mkHid (HA3.out.on hb4 (Nat.le_refl _))
        have HB5 := mkHid (HB3.out.trans (hb4.mono HB3.out.size))
        clear hb4 HA3 HA4 HB3 HP3 HRt HK3 HRG
        go_wp2_with fail
        go_roundw
        case rel => exact ⟨k + 1, A, by omega, by go_num, HA5, HB5⟩
        case measure => simp [Go.RowKit.intOf]; omega
      | true =>
        have HP5 := mkHid (HP3.out.on hb4)
        have HA5 := mkHid (HA4.out.on hb4 (Nat.le_refl _))
        have HB5 := mkHid (HB3.out.trans (hb4.mono HB3.out.size))
        have HK5 := mkHid (HK3.out.keep (KeepO.of_below hb4))
        clear hb4 HA3 HA4 HB3 HP3 HRt HK3
        go_upto_region 9 with fail
        have hbX : Below y4.heap.size y4 (y4.alloc (.cells #[.int .u64 (nseq : Int), .int .u64 (nclk : Int), .string nwho, .int .i64 nkind, .string nbkt, .string nkey, .int .u64 (nver : Int), .int .i64 nerr, .slice pa nsum.length pc, .slice pb nprev.length pd] 29)) := (Below.refl _ y4).alloc (Nat.le_refl _) _
        have HAx := mkHid (HA5.out.on hbX (Nat.le_refl _))
        have HBx := mkHid (HB5.out.trans (hbX.mono HB5.out.size))
        have HPx := mkHid (HP5.out.on hbX)
        have HXx := mkHid (Blk.new y4 29 [.int .u64 (nseq : Int), .int .u64 (nclk : Int), .string nwho, .int .i64 nkind, .string nbkt, .string nkey, .int .u64 (nver : Int), .int .i64 nerr, .slice pa nsum.length pc, .slice pb nprev.length pd])
        have HAdd := fun W' v' ho hg => LogK14.add (W' := W') (v' := v') (r := x.1) (p := ⟨pa, pc, pb, pd⟩) HAx.out (by omega) ho hg
        rw [HNN.out] at HAdd
        have HAd2 := mkHid (fun W' v' ho hg => HAdd W' v' ho hg HRG.out (HK5.out.keep (KeepO.of_below hbX)))
        have hsz := HBx.out.size
        clear HAdd hbX HK5 HB5 HA5
        go_upto_region 10 with (first | (refine wpList_load_row rfl 29 _ rfl _ rfl _ _ _ _ HP5.out Try.underlying29 rfl (by kernel_rfl) ?_) | (at_builtin; refine list_appRc _ rfl (.tmp 25) (.tmp 27) rfl w.heap.size _ A rfl HAx.out.own y4.heap.size (⟨nseq, nclk, nwho, nkind, nbkt, nkey, nver, nerr, nsum, nprev⟩, ⟨pa, pc, pb, pd⟩) rfl HXx.out (by have := HAx.out.len; omega) hsz ?_; intro v6 y6 ho6 hg6))
        obtain ⟨HL6, HV6⟩ := HAd2.out y6 v6 ho6 hg6
        have HP6 := mkHid ((hg6.block P HPx.out.lt (fun e => HOg2.out P e.symm rfl)).trans HPx.out : Blk y6 P 29 [.int .u64 (nseq : Int), .int .u64 (nclk : Int), .string nwho, .int .i64 nkind, .string nbkt, .string nkey, .int .u64 (nver : Int), .int .i64 nerr, .slice pa nsum.length pc, .slice pb nprev.length pd])
        have HB6 : Hid (Below w.heap.size w y6) := HBx.out.grown hg6 HBx.out.size (fun g e => (World.ownsRow.lt HAx.out.own g e).1)
        have HLg := mkHid HL6
        have HVr := mkHid (verN_yes14 HV6)
        have HVs : Hid (verN ((A ++ [((⟨nseq, nclk, nwho, nkind, nbkt, nkey, nver, nerr, nsum, nprev⟩ : Rc), (⟨pa, pc, pb, pd⟩ : RcA))]).map Prod.fst) [] = 53) := by unfold Hid; rw [List.map_append]; exact verN_nil14 _ _
        obtain ⟨va6, vc6, hve, -⟩ := HL6.own.form
        subst hve
        clear HAd2 ho6 hg6 HL6 HV6 HAx HBx HPx HXx HP5 HNN HOg2 HAl
        have HIr := mkHid (HLg.out.all _ (List.mem_append_right _ (List.mem_singleton.2 rfl))).1.is
        have HDg := codDigest14 ⟨nseq, nclk, nwho, nkind, nbkt, nkey, nver, nerr, nsum, nprev⟩ ⟨pa, pc, pb, pd⟩ y6 HIr.out (right_lenK14 HRG.out)
        have HVc := fun W v hd (hW : Below y6.heap.size y6 W) (hv : IsV W v hd) => codVerify14 va6 _ vc6 _ v hd W ((HLg.out.on hW (Nat.le_refl _)).own.isRl (fun x hx => ((HLg.out.on hW (Nat.le_refl _)).all x hx).1.is)) hv HLg.out.small (by have := HLg.out.len; omega)
        rw [show rcc ⟨nseq, nclk, nwho, nkind, nbkt, nkey, nver, nerr, nsum, nprev⟩ ⟨pa, pc, pb, pd⟩ = [.int .u64 (nseq : Int), .int .u64 (nclk : Int), .string nwho, .int .i64 nkind, .string nbkt, .string nkey, .int .u64 (nver : Int), .int .i64 nerr, .slice pa nsum.length pc, .slice pb nprev.length pd] from rfl] at HDg
        generalize digRc ⟨nseq, nclk, nwho, nkind, nbkt, nkey, nver, nerr, nsum, nprev⟩ = DG at *
        generalize A ++ [((⟨nseq, nclk, nwho, nkind, nbkt, nkey, nver, nerr, nsum, nprev⟩ : Rc), (⟨pa, pc, pb, pd⟩ : RcA))] = A2 at *
        generalize A2.length = an2 at *
        clear HIr HRG
        go_wp2_with (first | (refine wpList_load_row rfl 29 _ rfl _ rfl _ _ _ _ HP6.out Try.underlying29 rfl (by kernel_rfl) ?_))
        refine HDg.mono ?_
        rintro e y7 ⟨v7, rfl, ho7, hb7⟩
        have HV7 := mkHid ho7.isV
        have HB7 := mkHid hb7
        have hVc1 := HVc y7 v7 DG hb7 ho7.isV
        rw [HVr.out] at hVc1
        clear ho7 hb7 HDg HP6
        go_wp2_with fail
        refine hVc1.mono ?_
        rintro e y8 ⟨rfl, hb8⟩
        have HB8 := mkHid (HB7.out.trans (hb8.mono HB7.out.size))
        have hVc2 := HVc y8 (.slice none 0 0) [] HB8.out (IsV.nil _)
        rw [HVs.out] at hVc2
        clear hb8 hVc1 HVc
        go_wp2_with fail
        refine hVc2.mono ?_
        rintro e y9 ⟨rfl, hb9⟩
        have HB9 := mkHid (HB8.out.trans (hb9.mono HB8.out.size))
        have HL9 := mkHid (HLg.out.on HB9.out (Nat.le_refl _))
        have HBn := mkHid (HB6.out.trans (HB9.out.mono HB6.out.size))
        clear hb9 hVc2 HB7 HB8 HB9 HLg HB6 HVr HVs HV7
        go_wp2_with fail
        go_roundw
        case rel => exact ⟨k + 1, A2, by omega, by go_num, HL9, HBn⟩
        case measure => simp [Go.RowKit.intOf]; omega
    · have hkn : k = n := by omega
      subst hkn
      have hge : ¬ (k : Int) < (k : Int) := by omega
      go_wp2_with fail
      refine (HVn wr).mono ?_
      rintro e y2 ⟨rfl, hb2⟩
      have HB2 := mkHid (HB.out.trans (hb2.mono HB.out.size))
      clear hb2
      go_wp2_with fail
      refine (lawAlive14 y2).mono ?_
      rintro e y3 ⟨rfl, hb3⟩
      have HB3 := mkHid (HB2.out.trans (hb3.mono HB2.out.size))
      clear hb3
      go_wp2_with fail
      go_ret
      exact ⟨rfl, HB3.out⟩
end Go.Proofs.Ytooffagdbppmaab
