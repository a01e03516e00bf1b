/- The document's Due. (Made by wip/mkdue17.py.) -/
import Derived.Test.YtjmkfkkkjcjplaaEx1
import Derived.Test.YtjmkfkkkjcjplaaUp0
namespace Go.Proofs.Ytjmkfkkkjcjplaa
open Go.RowKit

attribute [local go_sem] undef
/-- a bucket and a version, known whole, and what stands below -/
structure BvAt (w W : World) (V : Nat) (bc vc : List Value) : Prop where
  lo : w.heap.size < V
  b : Blk W w.heap.size 27 bc
  v : Blk W V 37 vc
  bel : Below w.heap.size w W
theorem BvAt.on {w W W' : World} {V : Nat} {bc vc : List Value} (h : BvAt w W V bc vc) (hb : Below W.heap.size W W') : BvAt w W' V bc vc := ⟨h.lo, h.b.on hb, h.v.on hb, h.bel.trans (hb.mono h.bel.size)⟩
theorem BvAt.ten {w W : World} {V : Nat} {bc : List Value} {a0 a1 a2 a3 a4 a5 a6 a7 a8 a9 : Value} (h : BvAt w W V bc [a0, a1, a2, a3, a4, a5, a6, a7, a8, a9]) : W.cell? ⟨V, 0, none⟩ = some a0 ∧ W.cell? ⟨V, 1, none⟩ = some a1 ∧ W.cell? ⟨V, 2, none⟩ = some a2 ∧ W.cell? ⟨V, 3, none⟩ = some a3 ∧ W.cell? ⟨V, 4, none⟩ = some a4 ∧ W.cell? ⟨V, 5, none⟩ = some a5 ∧ W.cell? ⟨V, 6, none⟩ = some a6 ∧ W.cell? ⟨V, 7, none⟩ = some a7 ∧ W.cell? ⟨V, 8, none⟩ = some a8 ∧ W.cell? ⟨V, 9, none⟩ = some a9 :=
  ⟨h.v.cell 0, h.v.cell 1, h.v.cell 2, h.v.cell 3, h.v.cell 4, h.v.cell 5, h.v.cell 6, h.v.cell 7, h.v.cell 8, h.v.cell 9⟩
theorem BvAt.nine {w W : World} {V : Nat} {vc : List Value} {a0 a1 a2 a3 a4 a5 a6 a7 a8 : Value} (h : BvAt w W V [a0, a1, a2, a3, a4, a5, a6, a7, a8] vc) : W.cell? ⟨w.heap.size, 0, none⟩ = some a0 ∧ W.cell? ⟨w.heap.size, 1, none⟩ = some a1 ∧ W.cell? ⟨w.heap.size, 7, none⟩ = some a7 ∧ W.cell? ⟨w.heap.size, 8, none⟩ = some a8 :=
  ⟨h.b.cell 0, h.b.cell 1, h.b.cell 7, h.b.cell 8⟩
theorem dueAt_no1 {b : Bk} {l : List Vs} {now i : Nat} {v : Vs} (h : ¬ v.bkt = b.name) : dueAt b l now i v = false := by unfold dueAt; rw [decide_eq_false h, Bool.false_and]
theorem dueAt_no2 {b : Bk} {l : List Vs} {now i : Nat} {v : Vs} (h : ¬ mayDelK v.hold v.rm v.ru now false = 0) : dueAt b l now i v = false := by unfold dueAt; rw [decide_eq_false h, Bool.false_and, Bool.and_false]
theorem dueAt_last {b : Bk} {l : List Vs} {now i : Nat} {v : Vs} (h1 : v.bkt = b.name) (h2 : mayDelK v.hold v.rm v.ru now false = 0) (h3 : latestK l v.bkt v.key = (i : Int)) : dueAt b l now i v = (!v.mark && (decide (b.ver = 0) && (decide (0 < b.exp) && decide (laterN v.time b.exp ≤ now)))) := by
  unfold dueAt; rw [decide_eq_true h1, decide_eq_true h2, if_pos h3]; rfl
theorem dueAt_old {b : Bk} {l : List Vs} {now i : Nat} {v : Vs} (h1 : v.bkt = b.name) (h2 : mayDelK v.hold v.rm v.ru now false = 0) (h3 : ¬ latestK l v.bkt v.key = (i : Int)) : dueAt b l now i v = (decide (0 < b.nonc) && decide (laterN v.time b.nonc ≤ now)) := by
  unfold dueAt; rw [decide_eq_true h1, decide_eq_true h2, if_neg h3]; rfl
theorem OwnRw.low {α : Type} {R : RT α} {w w' : World} {base : Nat} {v : Value} {l : List α} (h : OwnRw R w base v l) (hb : Below w.heap.size w w') : OwnRw R w' base v l := h.on hb
theorem oneU_grown {w W V : World} {X : Nat} {bc vc : List Value} {v : Value} {l : List Nat} (h : BvAt w W X bc vc) (hv : OwnRw rtU W (w.heap.size + 1) v l) (hg : W.grownBy V v.ownBlock) : OneB w V 27 bc := by
  have hl : ∀ j, v.ownBlock = some j → w.heap.size + 1 ≤ j := fun j hj => (hv.lt hj).1
  have hs : w.heap.size + 1 ≤ W.heap.size := h.b.lt
  exact ⟨h.b.below (n := w.heap.size + 1) ((Below.refl _ _).grown hg hs (fun j hj => hl j hj)) (by omega), h.bel.grown hg h.bel.size (fun j hj => by have := hl j hj; omega)⟩
set_option maxRecDepth 20000 in
set_option maxHeartbeats 16000000 in
theorem refDue (b : Bk) (a : Option Addr) (n cap : Nat) (l : List Vq) (now : Nat) (w : World) (h : IsVl w a n cap l) (hn : n ≤ 1000) (he : b.exp ≤ 9223372036854775807) (hnc : b.nonc ≤ 9223372036854775807) :
    Calls Try.prog 11 #[.agg (bkc b).toArray, .slice a n cap, .int .u64 (now : Int)] w fun e w' => (∃ v, e = .returned v ∧ OwnRw rtU w' w.heap.size v (dueK b (l.map Prod.fst) now)) ∧ Below w.heap.size w w' := by
  have HO := mkHid (OneB.new w 27 (bkc b))
  have HX := mkHid h
  have HLn := mkHid h.row.len
  clear h
  have HR : Hid (dueK b (l.map Prod.fst) now = dueN b (l.map Prod.fst) now n) := by unfold Hid dueK; rw [List.length_map, HLn.out]
  rw [HR.out]
  clear HR
  obtain ⟨name, ver, lock, mfa, dflt, days, pol, exp, nonc⟩ := b
  simp only [bkc] at *
  go_enter Try.func11, Try.ntmps11
  go_upto_region 1 with fail
  generalize World.alloc _ _ = y at *
  go_wp2_with fail
  go_loopw [7, 8] (fun o i wr => ∃ m : Nat, m ≤ n ∧ i = .int .i64 (m : Int) ∧ Hid (OwnRw rtU wr (w.heap.size + 1) o (dueN ⟨name, ver, lock, mfa, dflt, days, pol, exp, nonc⟩ (l.map Prod.fst) now m)) ∧ Hid (OneB w wr 27 [.string name, .int .i64 ver, .bool lock, .bool mfa, .int .i64 dflt, .int .i64 days, .string pol, .int .i64 exp, .int .i64 nonc])) (fun _ i _ => n - (Go.RowKit.intOf i).toNat)
  case atStart => exact ⟨0, Nat.zero_le _, rfl, OwnRw.nil rtU _ _, HO⟩
  case round =>
    clear HO
    obtain ⟨m, hm, rfl, HD, HO⟩ := hrel
    by_cases hlt : m < n
    rotate_left
    · obtain rfl : m = n := by omega
      have hge : ¬ (m : Int) < (m : Int) := by omega
      obtain ⟨oa, oc, ho, -⟩ := HD.out.form okU
      subst ho
      go_wp2_with fail
      go_ret
      exact ⟨⟨_, rfl, HD.out.base (by omega)⟩, HO.out.bel⟩
    have hlt' : (m : Int) < (n : Int) := by omega
    have Hlt := mkHid hlt
    have hm0 : (0 : Int) ≤ (m : Int) := by omega
    obtain ⟨B, off, p, rfl, hp, hpm, hcs⟩ := vq_cells HX.out.row m hlt
    have Hpok := mkHid (HX.out.ok p (List.mem_of_getElem? hp))
    obtain ⟨e0, e1, e2, e3, e4, e5, e6, e7, e8, e9⟩ := hcs wr HO.out.bel
    have HN := mkHid (dueN_at (b := ⟨name, ver, lock, mfa, dflt, days, pol, exp, nonc⟩) (now := now) hpm)
    obtain ⟨DN, hDN⟩ : ∃ DN, DN = dueN ⟨name, ver, lock, mfa, dflt, days, pol, exp, nonc⟩ (l.map Prod.fst) now m := ⟨_, rfl⟩
    have HLen : Hid (DN.length ≤ m) := by unfold Hid; rw [hDN]; exact dueN_len _ _ _ m
    rw [← hDN] at HD HN
    clear hDN
    obtain ⟨oa, oc, ho, -⟩ := HD.out.form okU
    subst ho
    obtain ⟨⟨vbkt, vkey, vid, vord, vmark, vdata, vrm, vru, vhold, vtime⟩, ⟨va, vc⟩⟩ := p
    simp only at e0 e1 e2 e3 e4 e5 e6 e7 e8 e9 HN Hpok
    obtain ⟨dl, hdl⟩ : ∃ dl, dl = vdata.length := ⟨_, rfl⟩
    rw [← hdl] at e5
    have Hdl := mkHid hdl
    have HVn : Hid (BvAt w (wr.alloc (.cells ([.string vbkt, .string vkey, .int .u64 (vid : Int), .int .u64 (vord : Int), .bool vmark, .slice va dl vc, .int .i64 vrm, .int .u64 (vru : Int), .bool vhold, .int .u64 (vtime : Int)] : List Value).toArray 37)) wr.heap.size [.string name, .int .i64 ver, .bool lock, .bool mfa, .int .i64 dflt, .int .i64 days, .string pol, .int .i64 exp, .int .i64 nonc] [.string vbkt, .string vkey, .int .u64 (vid : Int), .int .u64 (vord : Int), .bool vmark, .slice va dl vc, .int .i64 vrm, .int .u64 (vru : Int), .bool vhold, .int .u64 (vtime : Int)]) := ⟨HO.out.k.lt, HO.out.k.alloc _, Blk.new wr _ _, HO.out.bel.alloc HO.out.bel.size _⟩
    have HDn := mkHid (HD.out.on (((Below.refl _ wr).alloc (Nat.le_refl _) (.cells ([.string vbkt, .string vkey, .int .u64 (vid : Int), .int .u64 (vord : Int), .bool vmark, .slice va dl vc, .int .i64 vrm, .int .u64 (vru : Int), .bool vhold, .int .u64 (vtime : Int)] : List Value).toArray 37))))
    have CM := refMayDelete ⟨vbkt, vkey, vid, vord, vmark, vdata, vrm, vru, vhold, vtime⟩ ⟨va, vc⟩ now false
    unfold vsc at CM
    simp only [← hdl] at CM
    obtain ⟨L, hL⟩ : ∃ L, L = l.map Prod.fst := ⟨_, rfl⟩
    rw [← hL] at HN
    have HLL := mkHid hL
    have CL : Hid (∀ W, Below w.heap.size w W → Calls Try.prog 7 #[.slice (some ⟨B, off, none⟩) n cap, .string vbkt, .string vkey] W fun e w' => e = .returned (.int .i64 (latestK L vbkt vkey)) ∧ Below W.heap.size W w') := fun W hW => by rw [HLL.out]; exact refLatest _ n cap l vbkt vkey W (HX.out.below hW) hn
    clear hcs hp hpm hlt hm hdl hL HD HO
    go_upto_region 6 with fail
    generalize wr.alloc (.cells #[.string vbkt, .string vkey, .int .u64 (vid : Int), .int .u64 (vord : Int), .bool vmark, .slice va dl vc, .int .i64 vrm, .int .u64 (vru : Int), .bool vhold, .int .u64 (vtime : Int)] 37) = Y at *
    generalize wr.heap.size = V at *
    clear e0 e1 e2 e3 e4 e5 e6 e7 e8 e9
    obtain ⟨e0, e1, e2, e3, e4, e5, e6, e7, e8, e9⟩ := HVn.out.ten
    obtain ⟨f0, f1, f7, f8⟩ := HVn.out.nine
    by_cases hbn : vbkt = name
    rotate_left
    · have hbd : (vbkt.toList == name.toList) = false := by rw [byte_eq17]; exact decide_eq_false hbn
      have HF : Hid (dueN ⟨name, ver, lock, mfa, dflt, days, pol, exp, nonc⟩ L now (m + 1) = DN) := by unfold Hid; rw [HN.out, dueAt_no1 (b := ⟨name, ver, lock, mfa, dflt, days, pol, exp, nonc⟩) hbn]; rfl
      clear HN
      go_wp2_with fail
      (try rw [show (Value.tuple #[] : Value) = undef from rfl])
      go_roundw
      case rel => exact ⟨m + 1, Hlt.out, by go_num, by rw [← HLL.out, HF.out]; exact HDn, mkHid ⟨HVn.out.b, HVn.out.bel⟩⟩
      case measure => simp [Go.RowKit.intOf]; have := Hlt.out; omega
    subst hbn
    have hmd := Eq.refl (mayDelK vhold vrm vru now false)
    generalize hr : mayDelK vhold vrm vru now false = r at CM
    clear hmd
    have HMr := mkHid hr
    clear hr
    by_cases hr0 : r = 0
    rotate_left
    · have hrd : (r == 0) = false := by rw [beq_eq_false_iff_ne]; exact hr0
      have HF : Hid (dueN ⟨vbkt, ver, lock, mfa, dflt, days, pol, exp, nonc⟩ L now (m + 1) = DN) := by unfold Hid; rw [HN.out, dueAt_no2 (b := ⟨vbkt, ver, lock, mfa, dflt, days, pol, exp, nonc⟩) (by rw [HMr.out]; exact hr0)]; rfl
      clear HN
      go_wp2_with fail
      refine (CM _).mono ?_
      rintro e Y1 ⟨rfl, hb1⟩
      have HV1 := mkHid (HVn.out.on hb1)
      have HD1 := mkHid (HDn.out.on hb1)
      clear hb1
      go_wp2_with fail
      (try rw [show (Value.tuple #[] : Value) = undef from rfl])
      go_roundw
      case rel => exact ⟨m + 1, Hlt.out, by go_num, by rw [← HLL.out, HF.out]; exact HD1, mkHid ⟨HV1.out.b, HV1.out.bel⟩⟩
      case measure => simp [Go.RowKit.intOf]; have := Hlt.out; omega
    subst hr0
    go_upto_region 7 with (go_at_call 16; refine (CM _).mono ?_; rintro e Y1 ⟨rfl, hb1⟩)
    have HV1 := mkHid (HVn.out.on hb1)
    have HD1 := mkHid (HDn.out.on hb1)
    clear hb1 HVn HDn CM e0 e1 e2 e3 e4 e5 e6 e7 e8 e9 f0 f1 f7 f8
    obtain ⟨e0, e1, e2, e3, e4, e5, e6, e7, e8, e9⟩ := HV1.out.ten
    obtain ⟨f0, f1, f7, f8⟩ := HV1.out.nine
    have CL1 := CL.out Y1 HV1.out.bel
    generalize hz : latestK L vbkt vkey = z at CL1
    have HZ := mkHid hz
    clear hz
    go_upto_region 8 with (go_at_call 7; refine CL1.mono ?_; rintro e Y2 ⟨rfl, hb1⟩)
    have HV2 := mkHid (HV1.out.on hb1)
    have HD2 := mkHid (HD1.out.on hb1)
    clear hb1 HV1 HD1 CL CL1 e0 e1 e2 e3 e4 e5 e6 e7 e8 e9 f0 f1 f7 f8
    obtain ⟨e0, e1, e2, e3, e4, e5, e6, e7, e8, e9⟩ := HV2.out.ten
    obtain ⟨f0, f1, f7, f8⟩ := HV2.out.nine
    by_cases hzm : z = (m : Int)
    · subst hzm
      have HDu := mkHid (dueAt_last (b := ⟨vbkt, ver, lock, mfa, dflt, days, pol, exp, nonc⟩) (v := ⟨vbkt, vkey, vid, vord, vmark, vdata, vrm, vru, vhold, vtime⟩) rfl HMr.out HZ.out)
      simp only at HDu
      cases vmark
      rotate_left
      · have HF : Hid (dueN ⟨vbkt, ver, lock, mfa, dflt, days, pol, exp, nonc⟩ L now (m + 1) = DN) := by unfold Hid; rw [HN.out, HDu.out]; rfl
        clear HN
        go_wp2_with fail
        (try rw [show (Value.tuple #[] : Value) = undef from rfl])
        go_roundw
        case rel => exact ⟨m + 1, Hlt.out, by go_num, by rw [← HLL.out, HF.out]; exact HD2, mkHid ⟨HV2.out.b, HV2.out.bel⟩⟩
        case measure => simp [Go.RowKit.intOf]; have := Hlt.out; omega
      by_cases hv0 : ver = 0
      rotate_left
      · have hvd : (ver == 0) = false := by rw [beq_eq_false_iff_ne]; exact hv0
        have HF : Hid (dueN ⟨vbkt, ver, lock, mfa, dflt, days, pol, exp, nonc⟩ L now (m + 1) = DN) := by unfold Hid; rw [HN.out, HDu.out, decide_eq_false hv0]; rfl
        clear HN
        go_wp2_with fail
        (try rw [show (Value.tuple #[] : Value) = undef from rfl])
        go_roundw
        case rel => exact ⟨m + 1, Hlt.out, by go_num, by rw [← HLL.out, HF.out]; exact HD2, mkHid ⟨HV2.out.b, HV2.out.bel⟩⟩
        case measure => simp [Go.RowKit.intOf]; have := Hlt.out; omega
      obtain ⟨vb, hvd, hvb⟩ : ∃ vb : Bool, (ver == 0) = vb ∧ vb = true := ⟨_, rfl, by rw [beq_iff_eq]; exact hv0⟩
      rw [decide_eq_true hv0] at HDu
      clear hv0
      by_cases hx0 : 0 < exp
      rotate_left
      · have hxd : decide (0 < exp) = false := decide_eq_false hx0
        have HF : Hid (dueN ⟨vbkt, ver, lock, mfa, dflt, days, pol, exp, nonc⟩ L now (m + 1) = DN) := by unfold Hid; rw [HN.out, HDu.out, hxd]; rfl
        clear HN
        go_wp2_with fail
        (try rw [show (Value.tuple #[] : Value) = undef from rfl])
        go_roundw
        case rel => exact ⟨m + 1, Hlt.out, by go_num, by rw [← HLL.out, HF.out]; exact HD2, mkHid ⟨HV2.out.b, HV2.out.bel⟩⟩
        case measure => simp [Go.RowKit.intOf]; have := Hlt.out; omega
      have hxd : decide (0 < exp) = true := decide_eq_true hx0
      have C3 := refLater vtime exp Y2 Hpok.out.2 (by simpa using he)
      generalize hq : laterN vtime exp = q at C3
      have HQ := mkHid hq
      clear hq
      by_cases hqn : q ≤ now
      · have hqd : decide ((q : Int) ≤ (now : Int)) = true := decide_eq_true (by omega)
        have hqi : (q : Int) ≤ (now : Int) := by omega
        have HDv := mkHid (HDu.out.trans (show _ = true by rw [HQ.out, hxd, decide_eq_true hqn]; rfl))
        clear HDu
        go_upto_region 9 with (go_at_call 17; refine C3.mono ?_; rintro e Y3 ⟨rfl, hww⟩; rw [hww]; clear hww Y3)
        clear C3
        have HF : Hid (dueN ⟨vbkt, ver, lock, mfa, dflt, days, pol, exp, nonc⟩ L now (m + 1) = DN ++ [vord]) := by unfold Hid; rw [HN.out, HDv.out]; rfl
        have hsz := HV2.out.b.lt
        have HSa : Hid (∀ Z : World, SrcC rtU (Z.alloc (.cells #[.int .u64 (vord : Int)] 28)) (some ⟨Z.heap.size, 0, none⟩) 1 1 [vord]) := fun Z => Blk.srcC (R := rtU) (Blk.new Z _ _)
        have HBa := mkHid ((Below.refl _ Y2).alloc (Nat.le_refl _) (.cells #[.int .u64 (vord : Int)] 28))
        have hlen := HLen.out
        have hmn := Hlt.out
        have HDb := mkHid (HD2.out.on HBa.out)
        have HVb := mkHid (HV2.out.on HBa.out)
        have hszb : w.heap.size + 1 ≤ (Y2.alloc (.cells #[.int .u64 (vord : Int)] 28)).heap.size := by have := HVb.out.b.lt; omega
        clear HN
        go_wp2_with (at_builtin; refine list_appC okU _ rfl (.tmp 87) (.tmp 90) rfl (w.heap.size + 1) _ DN rfl HDb.out _ 1 1 [vord] rfl (HSa.out _) (by show (DN.length + 1) * 8 ≤ _; omega) hszb ?_; intro v2 V2 ho2 hg2; have HD2 := mkHid ho2; have HO2 : Hid (OneB w V2 27 [.string vbkt, .int .i64 ver, .bool lock, .bool mfa, .int .i64 dflt, .int .i64 days, .string pol, .int .i64 exp, .int .i64 nonc]) := mkHid (oneU_grown HVb.out HDb.out hg2); clear ho2 hg2)
        (try rw [show (Value.tuple #[] : Value) = undef from rfl])
        go_roundw
        case rel => exact ⟨m + 1, Hlt.out, by go_num, by rw [← HLL.out, HF.out]; exact HD2, HO2⟩
        case measure => simp [Go.RowKit.intOf]; have := Hlt.out; omega
      · have hqd : decide ((q : Int) ≤ (now : Int)) = false := decide_eq_false (by omega)
        have hqi : ¬ (q : Int) ≤ (now : Int) := by omega
        have HDv := mkHid (HDu.out.trans (show _ = false by rw [HQ.out, hxd, decide_eq_false hqn]; rfl))
        clear HDu
        go_upto_region 9 with (go_at_call 17; refine C3.mono ?_; rintro e Y3 ⟨rfl, hww⟩; rw [hww]; clear hww Y3)
        clear C3
        have HF : Hid (dueN ⟨vbkt, ver, lock, mfa, dflt, days, pol, exp, nonc⟩ L now (m + 1) = DN) := by unfold Hid; rw [HN.out, HDv.out]; rfl
        clear HN
        go_wp2_with fail
        (try rw [show (Value.tuple #[] : Value) = undef from rfl])
        go_roundw
        case rel => exact ⟨m + 1, Hlt.out, by go_num, by rw [← HLL.out, HF.out]; exact HD2, mkHid ⟨HV2.out.b, HV2.out.bel⟩⟩
        case measure => simp [Go.RowKit.intOf]; have := Hlt.out; omega
    · have hzd : (z == (m : Int)) = false := by rw [beq_eq_false_iff_ne]; exact hzm
      have HDu := mkHid (dueAt_old (b := ⟨vbkt, ver, lock, mfa, dflt, days, pol, exp, nonc⟩) (v := ⟨vbkt, vkey, vid, vord, vmark, vdata, vrm, vru, vhold, vtime⟩) (now := now) rfl HMr.out (by rw [HZ.out]; exact hzm))
      simp only at HDu
      by_cases hx0 : 0 < nonc
      rotate_left
      · have hxd : decide (0 < nonc) = false := decide_eq_false hx0
        have HF : Hid (dueN ⟨vbkt, ver, lock, mfa, dflt, days, pol, exp, nonc⟩ L now (m + 1) = DN) := by unfold Hid; rw [HN.out, HDu.out, hxd]; rfl
        clear HN
        go_wp2_with fail
        (try rw [show (Value.tuple #[] : Value) = undef from rfl])
        go_roundw
        case rel => exact ⟨m + 1, Hlt.out, by go_num, by rw [← HLL.out, HF.out]; exact HD2, mkHid ⟨HV2.out.b, HV2.out.bel⟩⟩
        case measure => simp [Go.RowKit.intOf]; have := Hlt.out; omega
      have hxd : decide (0 < nonc) = true := decide_eq_true hx0
      have C3 := refLater vtime nonc Y2 Hpok.out.2 (by simpa using hnc)
      generalize hq : laterN vtime nonc = q at C3
      have HQ := mkHid hq
      clear hq
      by_cases hqn : q ≤ now
      · have hqd : decide ((q : Int) ≤ (now : Int)) = true := decide_eq_true (by omega)
        have hqi : (q : Int) ≤ (now : Int) := by omega
        have HDv := mkHid (HDu.out.trans (show _ = true by rw [HQ.out, hxd, decide_eq_true hqn]; rfl))
        clear HDu
        go_upto_region 10 with (go_at_call 17; refine C3.mono ?_; rintro e Y3 ⟨rfl, hww⟩; rw [hww]; clear hww Y3)
        clear C3
        have HF : Hid (dueN ⟨vbkt, ver, lock, mfa, dflt, days, pol, exp, nonc⟩ L now (m + 1) = DN ++ [vord]) := by unfold Hid; rw [HN.out, HDv.out]; rfl
        have hsz := HV2.out.b.lt
        have HSa : Hid (∀ Z : World, SrcC rtU (Z.alloc (.cells #[.int .u64 (vord : Int)] 28)) (some ⟨Z.heap.size, 0, none⟩) 1 1 [vord]) := fun Z => Blk.srcC (R := rtU) (Blk.new Z _ _)
        have HBa := mkHid ((Below.refl _ Y2).alloc (Nat.le_refl _) (.cells #[.int .u64 (vord : Int)] 28))
        have hlen := HLen.out
        have hmn := Hlt.out
        have HDb := mkHid (HD2.out.on HBa.out)
        have HVb := mkHid (HV2.out.on HBa.out)
        have hszb : w.heap.size + 1 ≤ (Y2.alloc (.cells #[.int .u64 (vord : Int)] 28)).heap.size := by have := HVb.out.b.lt; omega
        clear HN
        go_wp2_with (at_builtin; refine list_appC okU _ rfl (.tmp 87) (.tmp 90) rfl (w.heap.size + 1) _ DN rfl HDb.out _ 1 1 [vord] rfl (HSa.out _) (by show (DN.length + 1) * 8 ≤ _; omega) hszb ?_; intro v2 V2 ho2 hg2; have HD2 := mkHid ho2; have HO2 : Hid (OneB w V2 27 [.string vbkt, .int .i64 ver, .bool lock, .bool mfa, .int .i64 dflt, .int .i64 days, .string pol, .int .i64 exp, .int .i64 nonc]) := mkHid (oneU_grown HVb.out HDb.out hg2); clear ho2 hg2)
        (try rw [show (Value.tuple #[] : Value) = undef from rfl])
        go_roundw
        case rel => exact ⟨m + 1, Hlt.out, by go_num, by rw [← HLL.out, HF.out]; exact HD2, HO2⟩
        case measure => simp [Go.RowKit.intOf]; have := Hlt.out; omega
      · have hqd : decide ((q : Int) ≤ (now : Int)) = false := decide_eq_false (by omega)
        have hqi : ¬ (q : Int) ≤ (now : Int) := by omega
        have HDv := mkHid (HDu.out.trans (show _ = false by rw [HQ.out, hxd, decide_eq_false hqn]; rfl))
        clear HDu
        go_upto_region 10 with (go_at_call 17; refine C3.mono ?_; rintro e Y3 ⟨rfl, hww⟩; rw [hww]; clear hww Y3)
        clear C3
        have HF : Hid (dueN ⟨vbkt, ver, lock, mfa, dflt, days, pol, exp, nonc⟩ L now (m + 1) = DN) := by unfold Hid; rw [HN.out, HDv.out]; rfl
        clear HN
        go_wp2_with fail
        (try rw [show (Value.tuple #[] : Value) = undef from rfl])
        go_roundw
        case rel => exact ⟨m + 1, Hlt.out, by go_num, by rw [← HLL.out, HF.out]; exact HD2, mkHid ⟨HV2.out.b, HV2.out.bel⟩⟩
        case measure => simp [Go.RowKit.intOf]; have := Hlt.out; omega
end Go.Proofs.Ytjmkfkkkjcjplaa
