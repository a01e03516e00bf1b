/- The program's expiry: over; the map of the latest; Latest. -/
import Derived.Test.YtjmkfkkkjcjplaaExZa
import Derived.Maps.OwnOps
import Derived.Maps.RangeWalk
namespace Go.Proofs.Ytjmkfkkkjcjplaa
open Go.RowKit

attribute [local go_sem] undef
/-- block M of w is the map behind the first so many -/
def OwnL (w : World) (M : Nat) (l : List Vs) (k : Nat) : Prop := ∃ D, w.ownsMap Try.prog objT (plainElem Try.prog 3) M k D ∧ LatD l k D
theorem OwnL.kept {w w' : World} {M k : Nat} {l : List Vs} {row : Option Nat} (h : OwnL w M l k) (hg : w.grownBy w' row) (hne : some M ≠ row) : OwnL w' M l k := let ⟨D, h1, h2⟩ := h; ⟨D, h1.kept hg hne, h2⟩
theorem OwnL.alloc {w : World} {M k : Nat} {l : List Vs} (h : OwnL w M l k) (o : Obj) : OwnL (w.alloc o) M l k := let ⟨D, h1, h2⟩ := h; ⟨D, h1.alloc o, h2⟩
theorem OwnL.drew {w : World} {M k : Nat} {l : List Vs} (h : OwnL w M l k) : OwnL w.drew M l k := h
theorem OwnL.lt {w : World} {M k : Nat} {l : List Vs} (h : OwnL w M l k) : M < w.heap.size := let ⟨_, h1, _⟩ := h; h1.lt
theorem OwnL.below {w w' : World} {M k : Nat} {l : List Vs} (h : OwnL w M l k) (hb : Below w.heap.size w w') : OwnL w' M l k := h.kept (row := none) ⟨hb.os, hb.tape, hb.output, hb.size, fun k hk _ => hb.block k hk⟩ (by simp)
theorem OwnL.skip {w : World} {M m n : Nat} {l : List Vs} {v : Vs} (h : OwnL w M l m) (hv : l[m]? = some v) (hn : 0 ≤ latN l v.bkt v.key m ∧ v.ord ≤ ordAt l (latN l v.bkt v.key m)) : OwnL (w.drewN n) M l (m + 1) := let ⟨D, h1, h2⟩ := h; ⟨D, h1.mono (Nat.le_succ m), h2.skip hv hn⟩
abbrev mapT : TypeId := 42
theorem undMap : Try.prog.underlying mapT = some (.map objT 3) := Try.underlying42
theorem wpLook17 {ops : Array Oper} {rest : List Oper} {o : Oper} {a : Act} {Q : Exit → Act → World → Prop} (w : World) (hg : o.guard = none) (m x : Operand) (hop : o.op = Op.lookup mapT m x true) (M k : Nat) (l : List Vs) (b key : ByteArray)
    (hm : a.eval m = .map (some M)) (hown : OwnL w M l k) (hx : a.eval x = keyV b key) (hb : b.size ≤ maxLen) (hk : key.size ≤ maxLen) (zz : Int) (th : Bool) (hz : (0 ≤ latN l b key k ∧ zz = latN l b key k ∧ th = true) ∨ (latN l b key k < 0 ∧ zz = 0 ∧ th = false))
    (hK : wpList Try.prog ops Q rest (a.put o.dst (.tuple #[.int .i64 zz, .bool th])) w) : wpList Try.prog ops Q (o :: rest) a w := by
  obtain ⟨D, h1, h2⟩ := hown
  refine wpList_lookup_own_ok_int w hg m x mapT hop objT 3 .i64 keyedObj undMap Try.underlying3 (by rfl) M k D hm h1 (keyV b key) (keyK b key) hx (keyOf_obj hb hk) ?_
  intro c hat _
  have hh := h2.has b key hb hk
  have hn := h2.num b key hb hk
  rw [show (DataW.lit (.int .i64 0) : Dm) = nmD 0 from rfl, hn] at hat
  injection hat with hat
  injection hat with _ hat
  rcases hz with ⟨h3, rfl, rfl⟩ | ⟨h3, rfl, rfl⟩
  · rw [if_pos h3] at hat
    rw [hh, decide_eq_true h3, ← hat]; exact hK
  · rw [if_neg (by omega)] at hat
    rw [hh, decide_eq_false (by omega), ← hat]; exact hK
theorem wpLookN17 {ops : Array Oper} {rest : List Oper} {o : Oper} {a : Act} {Q : Exit → Act → World → Prop} (w : World) (hg : o.guard = none) (m x : Operand) (hop : o.op = Op.lookup mapT m x false) (M k : Nat) (l : List Vs) (b key : ByteArray)
    (hm : a.eval m = .map (some M)) (hown : OwnL w M l k) (hx : a.eval x = keyV b key) (hb : b.size ≤ maxLen) (hk : key.size ≤ maxLen) (h0 : 0 ≤ latN l b key k)
    (hK : wpList Try.prog ops Q rest (a.put o.dst (.int .i64 (latN l b key k))) w) : wpList Try.prog ops Q (o :: rest) a w := by
  obtain ⟨D, h1, h2⟩ := hown
  refine wpList_lookup_own_int w hg m x mapT hop objT 3 .i64 keyedObj undMap Try.underlying3 (by rfl) M k D hm h1 (keyV b key) (keyK b key) hx (keyOf_obj hb hk) ?_
  intro c hat _
  have hn := h2.num b key hb hk
  rw [show (DataW.lit (.int .i64 0) : Dm) = nmD 0 from rfl, hn, if_pos h0] at hat
  injection hat with hat
  injection hat with _ hat
  rw [← hat]; exact hK
theorem wpUpd17 {ops : Array Oper} {rest : List Oper} {o : Oper} {a : Act} {Q : Exit → Act → World → Prop} (w : World) (hg : o.guard = none) (m x y : Operand) (hop : o.op = Op.mapUpdate mapT m x y) (M k : Nat) (l : List Vs) (v : Vs)
    (hm : a.eval m = .map (some M)) (hown : OwnL w M l k) (hx : a.eval x = keyV v.bkt v.key) (hy : a.eval y = .int .i64 (k : Int)) (hs : v.bkt.size ≤ maxLen ∧ v.key.size ≤ maxLen) (hk : k ≤ 1000) (hv : l[k]? = some v) (hc : latN l v.bkt v.key k < 0 ∨ ordAt l (latN l v.bkt v.key k) < v.ord)
    (hK : ∀ w', OwnL w' M l (k + 1) → w.grownBy w' (some M) → wpList Try.prog ops Q rest (a.put o.dst undef) w') : wpList Try.prog ops Q (o :: rest) a w := by
  obtain ⟨D, h1, h2⟩ := hown
  refine wpList_mapUpdate_own w hg m x y mapT hop objT 3 keyedObj undMap (plainElem Try.prog 3) M k D hm h1 (by unfold maxLen; omega) (keyV v.bkt v.key) (.int .i64 (k : Int)) (keyK v.bkt v.key) hx hy (keyOf_obj hs.1 hs.2) (nmD (k : Int)) [] (plainElem_int Try.underlying3 (by simp [Lit.wf, IntKind.min, IntKind.max, IntKind.signed, IntKind.bits]; omega)) ?_
  intro w' h3 h4
  exact hK w' ⟨_, h3, h2.put hv hs hc⟩ h4
set_option maxHeartbeats 1000000 in
theorem codOver17 (t : Nat) (d : Int) (now : Nat) (w : World) (ht : t < 18446744073709551616) (hd : d ≤ 9223372036854775807) :
    Calls Try.prog 21 #[.int .u64 (t : Int), .int .i64 d, .int .u64 (now : Int)] w fun e w' => e = .returned (.bool (decide (0 < d) && decide (laterN t d ≤ now))) ∧ w' = w := by
  have HL := fun W => codLater t d W ht hd
  by_cases h : 0 < d
  · rw [decide_eq_true h, Bool.true_and]
    generalize laterN t d = z at *
    have HC := mkHid HL
    clear HL
    go_enter Try.func21, Try.ntmps21
    go_wp2_with (go_at_call 23; refine (HC.out _).mono ?_; rintro e y1 ⟨rfl, rfl⟩)
    go_ret
    exact ⟨ret_b (by first | rfl | (rw [Bool.eq_iff_iff]; simp)), rfl⟩
  · rw [decide_eq_false h, Bool.false_and]
    clear HL
    go_enter Try.func21, Try.ntmps21
    go_wp2_with fail
    go_ret
    exact ⟨rfl, rfl⟩
set_option maxRecDepth 20000 in
set_option maxHeartbeats 4000000 in
theorem codLatM17 (a : Option Addr) (n cap : Nat) (l : List Vq) (w : World) (h : IsVl w a n cap l) (hn : n ≤ 100) :
    Calls Try.prog 14 #[.slice a n cap] w fun e w' => (∃ M, e = .returned (.map (some M)) ∧ w.heap.size ≤ M ∧ OwnL w' M (l.map Prod.fst) n) ∧ Below w.heap.size w w' := by
  have HX := mkHid h
  have HS0 : Hid (OwnL (w.alloc (.map #[] 0)) w.heap.size (l.map Prod.fst) 0) := ⟨.map [], World.ownsMap_made w Try.prog objT _, LatD.start _⟩
  have HB0 : Hid (Below w.heap.size w (w.alloc (.map #[] 0))) := (Below.refl _ w).alloc (Nat.le_refl _) _
  clear h
  have hmk := run_makeMap (P := Try.prog) mapT w
  go_enter Try.func14, Try.ntmps14
  go_upto_region 2 with fail
  clear hmk
  generalize World.alloc _ _ = y at *
  go_wp2_with fail
  go_loopw [12] (fun i wr => ∃ m : Nat, m ≤ n ∧ i = .int .i64 (m : Int) ∧ Hid (OwnL wr w.heap.size (l.map Prod.fst) m) ∧ Hid (Below w.heap.size w wr)) (fun i _ => n - (Go.RowKit.intOf i).toNat)
  case atStart => exact ⟨0, Nat.zero_le _, rfl, HS0.out, HB0.out⟩
  case round =>
    clear HS0 HB0
    obtain ⟨m, hm, rfl, HO, HB⟩ := hrel
    by_cases hlt : m < n
    rotate_left
    · obtain rfl : m = n := by omega
      have hge : ¬ (m : Int) < (m : Int) := by omega
      go_wp2_with fail
      go_ret
      exact ⟨⟨w.heap.size, rfl, Nat.le_refl _, HO.out⟩, HB.out⟩
    have hlt' : (m : Int) < (n : Int) := by omega
    have Hlt := mkHid hlt
    have hm0 : (0 : Int) ≤ (m : Int) := by omega
    obtain ⟨B, off, p, rfl, hp, hpm, hcs⟩ := vq_cells HX.out.row m hlt
    obtain ⟨e0, e1, e2, e3, e4, e5, e6, e7, e8, e9⟩ := hcs wr HB.out
    have HSz := mkHid (HX.out.sz p (List.mem_of_getElem? hp))
    have HV := mkHid hpm
    clear hcs hp hlt hm
    have HLt := mkHid (latN_lt (l.map Prod.fst) p.1.bkt p.1.key m)
    by_cases hz : latN (l.map Prod.fst) p.1.bkt p.1.key m < 0
    · have HZ : Hid (latN (l.map Prod.fst) p.1.bkt p.1.key m < 0) := hz
      clear hz
      obtain ⟨v, ⟨qa, qc⟩⟩ := p
      obtain ⟨bkt, key, id, ord, mark, data, rm, ru, hold, time⟩ := v
      simp only at *
      generalize hdl : data.length = dl at *
      have HB1 := mkHid ((HB.out.alloc HB.out.size (.cells #[.string bkt, .string key, .int .u64 (id : Int), .int .u64 (ord : Int), .bool mark, .slice qa dl qc, .int .i64 rm, .int .u64 (ru : Int), .bool hold, .int .u64 (time : Int)] 37)).alloc (by have := HB.out.size; simp; omega) (.cells #[.string bkt, .string key] objT))
      have HO1 := mkHid ((HO.out.alloc (.cells #[.string bkt, .string key, .int .u64 (id : Int), .int .u64 (ord : Int), .bool mark, .slice qa dl qc, .int .i64 rm, .int .u64 (ru : Int), .bool hold, .int .u64 (time : Int)] 37)).alloc (.cells #[.string bkt, .string key] objT))
      go_wp2_with (at_lookup; refine wpLook17 _ rfl _ _ rfl w.heap.size m (l.map Prod.fst) bkt key rfl HO1.out rfl HSz.out.1 HSz.out.2 0 false (.inr ⟨HZ.out, rfl, rfl⟩) ?_)
      go_quiet (fail)
      go_wp2_with (at_mapUpdate; refine wpUpd17 _ rfl _ _ _ rfl w.heap.size m (l.map Prod.fst) _ rfl HO1.out.drew rfl rfl HSz.out (by have := Hlt.out; omega) HV.out (.inl HZ.out) ?_; intro w1 hO1 hg1; go_frame)
      rw [show (Value.tuple #[] : Value) = undef from rfl]
      go_roundw
      case rel => exact ⟨m + 1, Hlt.out, by go_num, hO1, (bel_drewN HB1.out _).grown hg1 HB1.out.size (by rintro k ⟨⟩; exact Nat.le_refl _)⟩
      case measure => simp [Go.RowKit.intOf]; have := Hlt.out; omega
    · have HZ := mkHid hz
      obtain ⟨q, hq⟩ : ∃ q : Nat, latN (l.map Prod.fst) p.1.bkt p.1.key m = (q : Int) := ⟨(latN (l.map Prod.fst) p.1.bkt p.1.key m).toNat, by omega⟩
      have HQ := mkHid hq
      have hqm : q < m := by have := HLt.out; omega
      obtain ⟨B', off', p', hB', hp', hpm', hcs'⟩ := vq_cells HX.out.row q (by have := Hlt.out; omega)
      obtain ⟨rfl, rfl⟩ : B = B' ∧ off = off' := by cases hB'; exact ⟨rfl, rfl⟩
      have HOq : Hid (ordAt (l.map Prod.fst) (q : Int) = p'.1.ord) := ordAt_at hpm'
      have hq0 : (0 : Int) ≤ (q : Int) := by omega
      have hqn : (q : Int) < (n : Int) := by have := Hlt.out; omega
      have HC3 : Hid (∀ W, Below w.heap.size w W → W.cell? ⟨B, off + q * 10 + 3, none⟩ = some (.int .u64 (p'.1.ord : Int))) := fun W hW => (hcs' W hW).2.2.2.1
      clear hp' hpm' hcs' hB' hz hq hqm
      generalize p'.1.ord = po at *
      clear p'
      obtain ⟨v, ⟨qa, qc⟩⟩ := p
      obtain ⟨bkt, key, id, ord, mark, data, rm, ru, hold, time⟩ := v
      simp only at *
      generalize hdl : data.length = dl at *
      by_cases ho : po < ord
      · have ho' : (po : Int) < (ord : Int) := by omega
        have HOr := mkHid ho
        clear ho
        have HB1 := mkHid ((HB.out.alloc HB.out.size (.cells #[.string bkt, .string key, .int .u64 (id : Int), .int .u64 (ord : Int), .bool mark, .slice qa dl qc, .int .i64 rm, .int .u64 (ru : Int), .bool hold, .int .u64 (time : Int)] 37)).alloc (by have := HB.out.size; simp; omega) (.cells #[.string bkt, .string key] objT))
        have HO1 := mkHid ((HO.out.alloc (.cells #[.string bkt, .string key, .int .u64 (id : Int), .int .u64 (ord : Int), .bool mark, .slice qa dl qc, .int .i64 rm, .int .u64 (ru : Int), .bool hold, .int .u64 (time : Int)] 37)).alloc (.cells #[.string bkt, .string key] objT))
        have e3' := HC3.out _ HB1.out
        go_wp2_with (at_lookup; refine wpLook17 _ rfl _ _ rfl w.heap.size m (l.map Prod.fst) bkt key rfl HO1.out rfl HSz.out.1 HSz.out.2 (q : Int) true (.inl ⟨by rw [HQ.out]; omega, HQ.out.symm, rfl⟩) ?_)
        go_quiet (fail)
        go_wp2_with (at_mapUpdate; refine wpUpd17 _ rfl _ _ _ rfl w.heap.size m (l.map Prod.fst) _ rfl HO1.out.drew rfl rfl HSz.out (by have := Hlt.out; omega) HV.out (.inr (by rw [HQ.out, HOq.out]; exact HOr.out)) ?_; intro w1 hO1 hg1; go_frame)
        rw [show (Value.tuple #[] : Value) = undef from rfl]
        go_roundw
        case rel => exact ⟨m + 1, Hlt.out, by go_num, hO1, (bel_drewN HB1.out _).grown hg1 HB1.out.size (by rintro k ⟨⟩; exact Nat.le_refl _)⟩
        case measure => simp [Go.RowKit.intOf]; have := Hlt.out; omega
      · have ho' : ¬ (po : Int) < (ord : Int) := by omega
        have HOr := mkHid ho
        clear ho
        have HB1 := mkHid ((HB.out.alloc HB.out.size (.cells #[.string bkt, .string key, .int .u64 (id : Int), .int .u64 (ord : Int), .bool mark, .slice qa dl qc, .int .i64 rm, .int .u64 (ru : Int), .bool hold, .int .u64 (time : Int)] 37)).alloc (by have := HB.out.size; simp; omega) (.cells #[.string bkt, .string key] objT))
        have HO1 := mkHid ((HO.out.alloc (.cells #[.string bkt, .string key, .int .u64 (id : Int), .int .u64 (ord : Int), .bool mark, .slice qa dl qc, .int .i64 rm, .int .u64 (ru : Int), .bool hold, .int .u64 (time : Int)] 37)).alloc (.cells #[.string bkt, .string key] objT))
        have e3' := HC3.out _ HB1.out
        go_wp2_with (at_lookup; refine wpLook17 _ rfl _ _ rfl w.heap.size m (l.map Prod.fst) bkt key rfl HO1.out rfl HSz.out.1 HSz.out.2 (q : Int) true (.inl ⟨by rw [HQ.out]; omega, HQ.out.symm, rfl⟩) ?_)
        go_quiet (fail)
        go_wp2_with fail
        rw [show (Value.tuple #[] : Value) = undef from rfl]
        go_roundw
        case rel => exact ⟨m + 1, Hlt.out, by go_num, (OwnL.skip (HO1.out) HV.out ⟨by rw [HQ.out]; omega, Nat.le_of_not_lt (by rw [HQ.out, HOq.out]; exact HOr.out)⟩), bel_drewN HB1.out _⟩
        case measure => simp [Go.RowKit.intOf]; have := Hlt.out; omega
end Go.Proofs.Ytjmkfkkkjcjplaa
