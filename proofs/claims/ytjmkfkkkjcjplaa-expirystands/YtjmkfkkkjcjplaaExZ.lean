/- The program's expiry: Due; all that is asked of it. -/
import Derived.Test.YtjmkfkkkjcjplaaExZc
import Derived.Shelf.Abstract
namespace Go.Proofs.Ytjmkfkkkjcjplaa
open Go.RowKit

attribute [local go_sem] undef
/-- what the closure has at hand -/
structure ClAt (W : World) (b : Bk) (a : Option Addr) (n cap : Nat) (l : List Vq) (now B1 B2 B3 B4 M : Nat) : Prop where
  h1 : Blk W B1 22 [.slice a n cap]
  h2 : Blk W B2 27 (bkc b)
  h3 : Blk W B3 28 [.int .u64 (now : Int)]
  h4 : Blk W B4 mapT [.map (some M)]
  hO : OwnL W M (l.map Prod.fst) n
theorem ClAt.on {W W' : World} {b : Bk} {a : Option Addr} {n cap : Nat} {l : List Vq} {now B1 B2 B3 B4 M : Nat} (h : ClAt W b a n cap l now B1 B2 B3 B4 M) (hb : Below W.heap.size W W') : ClAt W' b a n cap l now B1 B2 B3 B4 M := ⟨h.h1.on hb, h.h2.on hb, h.h3.on hb, h.h4.on hb, h.hO.below hb⟩
def cloV (B1 B2 B3 B4 : Nat) : Value := .func (.func 19) #[] #[.pointer (some ⟨B1, 0, none⟩), .pointer (some ⟨B2, 0, none⟩), .pointer (some ⟨B3, 0, none⟩), .pointer (some ⟨B4, 0, none⟩)]
set_option maxRecDepth 20000 in
set_option maxHeartbeats 1000000 in
theorem codRules17 (b : Bk) (a : Option Addr) (n cap : Nat) (l : List Vq) (now : Nat) (w : World) (h : IsVl w a n cap l) (hn : n ≤ 100) :
    Calls Try.prog 15 #[.agg (bkc b).toArray, .slice a n cap, .int .u64 (now : Int)] w fun e w' => (∃ B1 B2 B3 B4 M, e = .returned (cloV B1 B2 B3 B4) ∧ ClAt w' b a n cap l now B1 B2 B3 B4 M) ∧ Below w.heap.size w w' := by
  have W1 : Below w.heap.size w (((w.alloc (.cells (bkc b).toArray 27)).alloc (.cells #[.slice a n cap] 22)).alloc (.cells #[.int .u64 (now : Int)] 28)) := (((Below.refl _ w).alloc (Nat.le_refl _) _).alloc (by simp) _).alloc (by simp; omega) _
  have k0 : Blk (((w.alloc (.cells (bkc b).toArray 27)).alloc (.cells #[.slice a n cap] 22)).alloc (.cells #[.int .u64 (now : Int)] 28)) w.heap.size 27 (bkc b) := ((Blk.newAt w w.heap.size 27 _ (bkc b) rfl rfl).alloc _).alloc _
  have k1 : Blk (((w.alloc (.cells (bkc b).toArray 27)).alloc (.cells #[.slice a n cap] 22)).alloc (.cells #[.int .u64 (now : Int)] 28)) (w.heap.size + 1) 22 [.slice a n cap] := (Blk.newAt _ (w.heap.size + 1) 22 _ _ (by simp) rfl).alloc _
  have k2 : Blk (((w.alloc (.cells (bkc b).toArray 27)).alloc (.cells #[.slice a n cap] 22)).alloc (.cells #[.int .u64 (now : Int)] 28)) (w.heap.size + 1 + 1) 28 [.int .u64 (now : Int)] := Blk.newAt _ (w.heap.size + 1 + 1) 28 _ _ (by simp) rfl
  obtain ⟨name, ver, lock, mfa, dflt, days, pol, exp, nonc⟩ := b
  simp only [bkc] at *
  generalize hW : ((w.alloc _).alloc (.cells #[.slice a n cap] 22)).alloc (.cells #[.int .u64 (now : Int)] 28) = Y0 at *
  have HC := codLatM17 a n cap l Y0 (h.below W1) hn
  have c1 := k1.cell 0
  simp only [List.getElem?_cons_zero] at c1
  have hmf : ∀ (fn : Fn) (first cap : Array Value) (w : World), (Instr.makeFunc fn first cap).run Try.prog w = .ok (.func fn first cap) w := fun _ _ _ _ => rfl
  have HW1 := mkHid W1
  have HK0 := mkHid k0
  have HK1 := mkHid k1
  have HK2 := mkHid k2
  clear h k0 k1 k2 W1
  go_enter Try.func15, Try.ntmps15
  go_upto_region 1 with fail
  clear hW
  go_wp2_with (go_at_call 14; refine HC.mono ?_; rintro e y1 ⟨⟨M, rfl, hM, hO⟩, hb1⟩)
  go_ret
  have hb2 : Below y1.heap.size y1 (y1.alloc (.cells #[.map (some M)] mapT)) := (Below.refl _ y1).alloc (Nat.le_refl _) _
  refine ⟨⟨w.heap.size + 1, w.heap.size, w.heap.size + 1 + 1, y1.heap.size, M, rfl, (HK1.out.on hb1).on hb2, (HK0.out.on hb1).on hb2, (HK2.out.on hb1).on hb2, Blk.newAt _ _ _ _ _ rfl rfl, hO.below hb2⟩, ?_⟩
  have h1 := HW1.out.trans (hb1.mono HW1.out.size)
  exact h1.trans (hb2.mono h1.size)
/-- what tells if a version is due -/
structure ClP (W0 : World) (b : Bk) (n : Nat) (l : List Vq) (now F : Nat) (cp : Array Value) : Prop where
  fn : ∀ args W, (callFunc F args).run Try.prog W = .ok (.enter F args) W
  call : ∀ W m p, Below W0.heap.size W0 W → m < n → l[m]? = some p → Calls Try.prog F (#[.int .i64 ((m : Nat) : Int)] ++ cp) W fun e w' => e = .returned (.bool (dueAt b (l.map Prod.fst) now m p.1)) ∧ Below W.heap.size W w'
theorem codRulesP17 (b : Bk) (a : Option Addr) (n cap : Nat) (l : List Vq) (now : Nat) (w : World) (h : IsVl w a n cap l) (hn : n ≤ 100) (he : b.exp ≤ 9223372036854775807) (hnc : b.nonc ≤ 9223372036854775807) :
    Calls Try.prog 15 #[.agg (bkc b).toArray, .slice a n cap, .int .u64 (now : Int)] w fun e w' => (∃ F cp, e = .returned (.func (.func F) #[] cp) ∧ ClP w' b n l now F cp) ∧ Below w.heap.size w w' := by
  refine (codRules17 b a n cap l now w h hn).mono ?_
  rintro e y1 ⟨⟨B1, B2, B3, B4, M, rfl, hC⟩, hb⟩
  refine ⟨⟨_, _, rfl, fun args W => by simp [callFunc, Try.func19]; rfl, fun W m p hW hm hp => ?_⟩, hb⟩
  have hc := hC.on hW
  exact codRule17 b a n cap l now m p B1 B2 B3 B4 M W (h.below (hb.trans (hW.mono hb.size))) hm hp hc.h1 hc.h2 hc.h3 hc.h4 hc.hO he hnc
set_option maxRecDepth 20000 in
set_option maxHeartbeats 4000000 in
theorem codDue17 (b : Bk) (a : Option Addr) (n cap : Nat) (l : List Vq) (now : Nat) (w : World) (h : IsVl w a n cap l) (hn : n ≤ 100) (he : b.exp ≤ 9223372036854775807) (hnc : b.nonc ≤ 9223372036854775807) :
    Calls Try.prog 10 #[.agg (bkc b).toArray, .slice a n cap, .int .u64 (now : Int)] w fun e w' => (∃ v, e = .returned v ∧ OwnRw rtU w' w.heap.size v (dueK b (l.map Prod.fst) now)) ∧ Below w.heap.size w w' := by
  have HX := mkHid h
  have HLn := mkHid h.row.len
  have hY : Hid (Below w.heap.size w (w.alloc (.cells (bkc b).toArray 27))) := (Below.refl _ w).alloc (Nat.le_refl _) _
  have kb := Blk.newAt w w.heap.size 27 (bkc b).toArray (bkc b) rfl rfl
  have HRu := codRulesP17 b a n cap l now _ (h.below hY.out) hn he hnc
  have HR : Hid (dueK b (l.map Prod.fst) now = dueN b (l.map Prod.fst) now n) := by unfold Hid dueK; rw [List.length_map, HLn.out]
  rw [HR.out]
  clear HR h
  have HB := mkHid (Eq.refl b)
  obtain ⟨name, ver, lock, mfa, dflt, days, pol, exp, nonc⟩ := b
  simp only [bkc] at *
  obtain ⟨bb, hbb⟩ : ∃ bb : Bk, bb = ⟨name, ver, lock, mfa, dflt, days, pol, exp, nonc⟩ := ⟨_, rfl⟩
  rw [← hbb] at HRu ⊢
  clear hbb HB
  go_enter Try.func10, Try.ntmps10
  go_upto_region 1 with fail
  generalize World.alloc _ _ = y at *
  have b0 := kb.cell 0
  have b1 := kb.cell 1
  have b2 := kb.cell 2
  have b3 := kb.cell 3
  have b4 := kb.cell 4
  have b5 := kb.cell 5
  have b6 := kb.cell 6
  have b7 := kb.cell 7
  have b8 := kb.cell 8
  simp only [List.getElem?_cons_zero, List.getElem?_cons_succ] at b0 b1 b2 b3 b4 b5 b6 b7 b8
  clear kb
  go_upto_region 3 with (go_at_call 15; refine HRu.mono ?_; rintro e y1 ⟨⟨F, cp, rfl, hC⟩, hb1⟩)
  clear b0 b1 b2 b3 b4 b5 b6 b7 b8 HRu
  have HC := mkHid hC
  have HY1 := mkHid (hY.out.trans (hb1.mono hY.out.size))
  have hf := hC.fn
  clear hC hb1 hY
  go_wp2_with fail
  go_loopw [8, 17] (fun o i wr => ∃ m : Nat, m ≤ n ∧ i = .int .i64 (m : Int) ∧ Hid (OwnRw rtU wr y1.heap.size o (dueN bb (l.map Prod.fst) now m)) ∧ Hid (Below y1.heap.size y1 wr)) (fun _ i _ => n - (Go.RowKit.intOf i).toNat)
  case atStart => exact ⟨0, Nat.zero_le _, rfl, OwnRw.nil rtU _ _, Below.refl _ _⟩
  case round =>
    obtain ⟨m, hm, rfl, HD, HW⟩ := hrel
    obtain ⟨oa, oc, ho, -⟩ := HD.out.form okU
    subst ho
    by_cases hlt : m < n
    rotate_left
    · obtain rfl : m = n := by omega
      have hge : ¬ (m : Int) < (m : Int) := by omega
      go_wp2_with fail
      go_ret
      exact ⟨⟨_, rfl, HD.out.base HY1.out.size⟩, HY1.out.trans (HW.out.mono HY1.out.size)⟩
    have hlt' : (m : Int) < (n : Int) := by omega
    have Hlt := mkHid hlt
    have hm0 : (0 : Int) ≤ (m : Int) := by omega
    obtain ⟨B, off, p, rfl, hp, hpm, hcs⟩ := vq_cells HX.out.row m hlt
    have HRl : Hid (∀ W, Below y1.heap.size y1 W → Calls Try.prog F (#[.int .i64 ((m : Nat) : Int)] ++ cp) W fun e w' => e = .returned (.bool (dueAt bb (l.map Prod.fst) now m p.1)) ∧ Below W.heap.size W w') := fun W hW => HC.out.call W m p hW Hlt.out hp
    obtain ⟨e0, e1, e2, e3, e4, e5, e6, e7, e8, e9⟩ := hcs wr (HY1.out.trans (HW.out.mono HY1.out.size))
    have HN := mkHid (dueN_at (b := bb) (now := now) hpm)
    obtain ⟨DN, hDN⟩ : ∃ DN, DN = dueN bb (l.map Prod.fst) now m := ⟨_, rfl⟩
    have HLen : Hid (DN.length ≤ m) := by unfold Hid; rw [hDN]; exact dueN_len _ _ _ m
    rw [← hDN] at HD HN ⊢
    generalize dueAt bb (l.map Prod.fst) now m p.1 = d at *
    obtain ⟨⟨bkt, key, id, ord, mark, data, rm, ru, hold, time⟩, ⟨qa, qc⟩⟩ := p
    simp only at *
    generalize hdl : data.length = dl at *
    have HWa := mkHid (HW.out.alloc HW.out.size (.cells #[.string bkt, .string key, .int .u64 (id : Int), .int .u64 (ord : Int), .bool mark, .slice qa dl qc, .int .i64 rm, .int .u64 (ru : Int), .bool hold, .int .u64 (time : Int)] 37))
    have KV : Hid (Blk (wr.alloc (.cells #[.string bkt, .string key, .int .u64 (id : Int), .int .u64 (ord : Int), .bool mark, .slice qa dl qc, .int .i64 rm, .int .u64 (ru : Int), .bool hold, .int .u64 (time : Int)] 37)) wr.heap.size 37 [.string bkt, .string key, .int .u64 (id : Int), .int .u64 (ord : Int), .bool mark, .slice qa dl qc, .int .i64 rm, .int .u64 (ru : Int), .bool hold, .int .u64 (time : Int)]) := Blk.newAt _ _ _ _ _ rfl rfl
    have HDa := mkHid (HD.out.on ((Below.refl _ wr).alloc (Nat.le_refl _) (.cells #[.string bkt, .string key, .int .u64 (id : Int), .int .u64 (ord : Int), .bool mark, .slice qa dl qc, .int .i64 rm, .int .u64 (ru : Int), .bool hold, .int .u64 (time : Int)] 37)))
    have hsz1 := HW.out.size
    clear hcs hp hpm hlt hm hDN HW HD
    go_upto_region 6 with fail
    generalize World.alloc _ _ = Y at *
    clear e0 e1 e2 e3 e4 e5 e6 e7 e8 e9
    have HRm := HRl.out Y HWa.out
    cases d with
    | false =>
      go_wp2_with (go_at_fn F; refine HRm.mono ?_; rintro e y2 ⟨rfl, hb2⟩)
      have HF : Hid (dueN bb (l.map Prod.fst) now (m + 1) = DN) := HN.out
      (try rw [show (Value.tuple #[] : Value) = undef from rfl])
      go_roundw
      case rel => exact ⟨m + 1, Hlt.out, by go_num, by rw [HF.out]; exact HDa.out.on hb2, HWa.out.trans (hb2.mono HWa.out.size)⟩
      case measure => simp [Go.RowKit.intOf]; have := Hlt.out; omega
    | true =>
      go_upto_region 7 with (go_at_fn F; refine HRm.mono ?_; rintro e y2 ⟨rfl, hb2⟩)
      have HF : Hid (dueN bb (l.map Prod.fst) now (m + 1) = DN ++ [ord]) := HN.out
      have k3 := (KV.out.on hb2).cell 3
      simp only [List.getElem?_cons_zero, List.getElem?_cons_succ] at k3
      have HW2 := mkHid (HWa.out.trans (hb2.mono HWa.out.size))
      have HD2 := mkHid (HDa.out.on hb2)
      have HSa : Hid (∀ Z : World, SrcC rtU (Z.alloc (.cells #[.int .u64 (ord : Int)] 28)) (some ⟨Z.heap.size, 0, none⟩) 1 1 [ord]) := fun Z => Blk.srcC (R := rtU) (Blk.new Z _ _)
      have HWb := mkHid (HW2.out.alloc HW2.out.size (.cells #[.int .u64 (ord : Int)] 28))
      have HDb := mkHid (HD2.out.on ((Below.refl _ y2).alloc (Nat.le_refl _) (.cells #[.int .u64 (ord : Int)] 28)))
      have hlen := HLen.out
      have hmn := Hlt.out
      have hszb : y1.heap.size ≤ (y2.alloc (.cells #[.int .u64 (ord : Int)] 28)).heap.size := HWb.out.size
      clear HN HRm hb2 KV
      go_wp2_with (at_builtin; refine list_appC okU _ rfl (.tmp 25) (.tmp 28) rfl y1.heap.size _ DN rfl HDb.out _ 1 1 [ord] rfl (HSa.out _) (by show (DN.length + 1) * 8 ≤ _; omega) hszb ?_; intro v2 V2 ho2 hg2)
      (try rw [show (Value.tuple #[] : Value) = undef from rfl])
      go_roundw
      case rel => exact ⟨m + 1, Hlt.out, by go_num, by rw [HF.out]; exact ho2, HWb.out.grown hg2 HWb.out.size (fun j hj => (HDb.out.lt hj).1)⟩
      case measure => simp [Go.RowKit.intOf]; have := Hlt.out; omega
theorem exOK : ExOK where
  latest := fun a n cap l b k w h hn hb hk => codLatest17 a n cap l b k w h hn hb hk
  due := fun b a n cap l now w h hn _ he _ hnc _ => codDue17 b a n cap l now w h hn he hnc
end Go.Proofs.Ytjmkfkkkjcjplaa
