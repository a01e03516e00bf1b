/- The program's expiry: Latest; is the version at a place due (the closure)? -/
import Derived.Test.YtjmkfkkkjcjplaaExZb
namespace Go.Proofs.Ytjmkfkkkjcjplaa
open Go.RowKit

attribute [local go_sem] undef
theorem latN_mem {l : List Vs} {i : Nat} {v : Vs} (hv : l[i]? = some v) : ∀ m, i < m → 0 ≤ latN l v.bkt v.key m
  | 0, h => absurd h (Nat.not_lt_zero _)
  | m + 1, h => by
    rcases Nat.lt_or_ge i m with h1 | h1
    · have ih := latN_mem hv m h1
      unfold latN
      split
      · exact ih
      · split
        · exact Int.natCast_nonneg m
        · exact ih
    · obtain rfl : i = m := by omega
      rw [latN_at _ _ hv]
      split
      · exact Int.natCast_nonneg i
      · rename_i hc
        unfold ofK at hc
        simp only [decide_true, Bool.true_and, Bool.or_eq_true, decide_eq_true_eq, not_or] at hc
        omega
set_option maxRecDepth 20000 in
set_option maxHeartbeats 1000000 in
theorem codLatest17 (a : Option Addr) (n cap : Nat) (l : List Vq) (b k : ByteArray) (w : World) (h : IsVl w a n cap l) (hn : n ≤ 100) (hb : b.size ≤ maxLen) (hk : k.size ≤ maxLen) :
    Calls Try.prog 6 #[.slice a n cap, .string b, .string k] w fun e w' => e = .returned (.int .i64 (latestK (l.map Prod.fst) b k)) ∧ Below w.heap.size w w' := by
  have HC := codLatM17 a n cap l w h hn
  have HR : Hid (latestK (l.map Prod.fst) b k = latN (l.map Prod.fst) b k n) := by unfold Hid latestK; rw [List.length_map, h.row.len]
  have HG := (latN_lt (l.map Prod.fst) b k n).1
  rw [HR.out]
  have HB := mkHid hb
  have HK := mkHid hk
  clear HR h hb hk
  by_cases hz : latN (l.map Prod.fst) b k n < 0
  · have HZ := mkHid hz
    have hm1 : Hid (latN (l.map Prod.fst) b k n = -1) := by unfold Hid; omega
    rw [hm1.out]
    clear hz HG
    go_enter Try.func6, Try.ntmps6
    go_wp2_with (first | (go_at_call 14; refine HC.mono ?_; rintro e y1 ⟨⟨M, rfl, hM, hO⟩, hb⟩) | (at_lookup; refine wpLook17 _ rfl _ _ rfl M n (l.map Prod.fst) b k rfl hO rfl HB.out HK.out 0 false (.inr ⟨HZ.out, rfl, rfl⟩) ?_))
    go_ret
    exact ⟨rfl, hb⟩
  · have HZ := mkHid hz
    clear hz HG
    obtain ⟨z, hz⟩ : ∃ z, z = latN (l.map Prod.fst) b k n := ⟨_, rfl⟩
    rw [← hz]
    have HE := mkHid hz
    clear hz
    go_enter Try.func6, Try.ntmps6
    go_wp2_with (first | (go_at_call 14; refine HC.mono ?_; rintro e y1 ⟨⟨M, rfl, hM, hO⟩, hb⟩) | (at_lookup; refine wpLook17 _ rfl _ _ rfl M n (l.map Prod.fst) b k rfl hO rfl HB.out HK.out z true (.inl ⟨by have := HZ.out; omega, HE.out, rfl⟩) ?_))
    go_ret
    exact ⟨rfl, hb⟩
set_option maxRecDepth 20000 in
set_option maxHeartbeats 4000000 in
theorem codRule17 (b : Bk) (a : Option Addr) (n cap : Nat) (l : List Vq) (now i : Nat) (p : Vq) (B1 B2 B3 B4 M : Nat) (w : World) (h : IsVl w a n cap l) (hi : i < n) (hp : l[i]? = some p) (h1 : Blk w B1 22 [.slice a n cap]) (h2 : Blk w B2 27 (bkc b)) (h3 : Blk w B3 28 [.int .u64 (now : Int)]) (h4 : Blk w B4 mapT [.map (some M)]) (hO : OwnL w M (l.map Prod.fst) n)
    (he : b.exp ≤ 9223372036854775807) (hnc : b.nonc ≤ 9223372036854775807) :
    Calls Try.prog 19 #[.int .i64 (i : Int), .pointer (some ⟨B1, 0, none⟩), .pointer (some ⟨B2, 0, none⟩), .pointer (some ⟨B3, 0, none⟩), .pointer (some ⟨B4, 0, none⟩)] w fun e w' => e = .returned (.bool (dueAt b (l.map Prod.fst) now i p.1)) ∧ Below w.heap.size w w' := by
  obtain ⟨B, off, p', rfl, hp', hpm, hcs⟩ := vq_cells h.row i hi
  obtain rfl : p = p' := Option.some.inj (hp.symm.trans hp')
  have HSz := mkHid (h.sz p (List.mem_of_getElem? hp))
  have HTm := mkHid (h.ok p (List.mem_of_getElem? hp)).2
  have HG : Hid (0 ≤ latN (l.map Prod.fst) p.1.bkt p.1.key n) := latN_mem hpm n hi
  have HR : Hid (latestK (l.map Prod.fst) p.1.bkt p.1.key = latN (l.map Prod.fst) p.1.bkt p.1.key n) := by unfold Hid latestK; rw [List.length_map, h.row.len]
  obtain ⟨e0, e1, e2, e3, e4, e5, e6, e7, e8, e9⟩ := hcs w (Below.refl _ w)
  clear hp' hp hcs
  obtain ⟨⟨bkt, key, id, ord, mark, data, rm, ru, hold, time⟩, ⟨qa, qc⟩⟩ := p
  obtain ⟨name, ver, lock, mfa, dflt, days, pol, exp, nonc⟩ := b
  simp only at *
  have HMd := fun W => codMayDelete ⟨bkt, key, id, ord, mark, data, rm, ru, hold, time⟩ ⟨qa, qc⟩ now false W
  simp only [vsc] at HMd
  simp only [bkc] at h2
  generalize hD : dueAt _ _ _ _ _ = D
  unfold dueAt at hD
  simp only at hD
  rw [HR.out] at hD
  clear HR
  generalize hdl : data.length = dl at *
  generalize mayDelK hold rm ru now false = md at *
  have kY : Blk (w.alloc (.cells #[.string bkt, .string key, .int .u64 (id : Int), .int .u64 (ord : Int), .bool mark, .slice qa dl qc, .int .i64 rm, .int .u64 (ru : Int), .bool hold, .int .u64 (time : Int)] 37)) w.heap.size 37 [.string bkt, .string key, .int .u64 (id : Int), .int .u64 (ord : Int), .bool mark, .slice qa dl qc, .int .i64 rm, .int .u64 (ru : Int), .bool hold, .int .u64 (time : Int)] := Blk.newAt _ _ _ _ _ rfl rfl
  have hY : Below w.heap.size w (w.alloc (.cells #[.string bkt, .string key, .int .u64 (id : Int), .int .u64 (ord : Int), .bool mark, .slice qa dl qc, .int .i64 rm, .int .u64 (ru : Int), .bool hold, .int .u64 (time : Int)] 37)) := (Below.refl _ w).alloc (Nat.le_refl _) _
  have c1 := h1.cell 0
  simp only [List.getElem?_cons_zero] at c1
  have hi' : (i : Int) < (n : Int) := by omega
  have hi0 : (0 : Int) ≤ (i : Int) := by omega
  have HO := mkHid (hO.below hY)
  have K2 := mkHid (h2.on hY)
  have K3 := mkHid (h3.on hY)
  have K4 := mkHid (h4.on hY)
  have HY := mkHid hY
  have KY := mkHid kY
  clear kY hY h1 h2 h3 h4 hO hpm h hi
  have HD := mkHid hD
  clear hD
  go_enter Try.func19, Try.ntmps19
  go_upto_region 2 with fail
  generalize World.alloc _ _ = Y at *
  clear e0 e1 e2 e3 e4 e5 e6 e7 e8 e9 c1
  have d0 := KY.out.cell 0
  have f0 := K2.out.cell 0
  have g0 := K3.out.cell 0
  simp only [List.getElem?_cons_zero] at d0 f0 g0
  have d1 := KY.out.cell 1
  have d2 := KY.out.cell 2
  have d3 := KY.out.cell 3
  have d4 := KY.out.cell 4
  have d5 := KY.out.cell 5
  have d6 := KY.out.cell 6
  have d7 := KY.out.cell 7
  have d8 := KY.out.cell 8
  have d9 := KY.out.cell 9
  simp only [List.getElem?_cons_zero, List.getElem?_cons_succ] at d1 d2 d3 d4 d5 d6 d7 d8 d9
  have dk : ∀ W, Below Y.heap.size Y W → (∀ j v, [.string bkt, .string key, .int .u64 (id : Int), .int .u64 (ord : Int), .bool mark, .slice qa dl qc, .int .i64 rm, .int .u64 (ru : Int), .bool hold, .int .u64 (time : Int)][j]? = some v → W.cell? ⟨w.heap.size, j, none⟩ = some v) := fun W hW j v hv => ((KY.out.on hW).cell j).trans hv
  by_cases hb : bkt = name
  rotate_left
  · have hbd : (bkt.toList == name.toList) = false := by rw [byte_eq17]; exact decide_eq_false hb
    have HE : Hid (false = D) := by rw [← HD.out, decide_eq_false hb, Bool.false_and]; rfl
    go_wp2_with fail
    go_ret
    exact ⟨ret_b HE.out, HY.out⟩
  obtain rfl := hb
  have hD := HD.out
  rw [decide_eq_true rfl, Bool.true_and] at hD
  have hbd : (bkt.toList == bkt.toList) = true := by simp
  by_cases hm : md = 0
  rotate_left
  · have HE : Hid (false = D) := by rw [← hD, decide_eq_false hm, Bool.false_and]; rfl
    have hmd : (md == 0) = false := by simpa using hm
    clear hD
    go_wp2_with (go_at_call 20; refine (HMd _).mono ?_; rintro e y1 ⟨rfl, hb1⟩)
    go_ret
    exact ⟨ret_b HE.out, HY.out.trans (hb1.mono HY.out.size)⟩
  subst hm
  rw [decide_eq_true rfl, Bool.true_and] at hD
  have HD2 := mkHid hD
  have HT := mkHid (show time < 18446744073709551616 from HTm.out)
  clear hD HD
  go_upto_region 4 with (go_at_call 20; refine (HMd _).mono ?_; rintro e y1 ⟨rfl, hb1⟩)
  clear d0 d1 d2 d3 d4 d5 d6 d7 d8 d9 f0 g0 HMd hbd dk
  have HY1 := mkHid (HY.out.trans (hb1.mono HY.out.size))
  have HO1 := mkHid (HO.out.below hb1)
  have d0 := (KY.out.on hb1).cell 0
  have d1 := (KY.out.on hb1).cell 1
  have d4 := (KY.out.on hb1).cell 4
  have d9 := (KY.out.on hb1).cell 9
  have f1 := (K2.out.on hb1).cell 1
  have f7 := (K2.out.on hb1).cell 7
  have f8 := (K2.out.on hb1).cell 8
  have g0 := (K3.out.on hb1).cell 0
  have p0 := (K4.out.on hb1).cell 0
  simp only [List.getElem?_cons_zero, List.getElem?_cons_succ] at d0 d1 d4 d9 f1 f7 f8 g0 p0
  clear hb1 KY K2 K3 K4 HY HO
  by_cases hli : latN (l.map Prod.fst) bkt key n = (i : Int)
  · rw [if_pos hli] at HD2
    have HLi := mkHid hli
    have hdd : ((i : Int) == (i : Int)) = true := by simp
    have HLk : Hid (∀ {ops : Array Oper} {rest : List Oper} {o : Oper} {a : Act} {Q : Exit → Act → World → Prop} (_ : o.guard = none) (m x : Operand) (_ : o.op = Op.lookup mapT m x false) (_ : a.eval m = .map (some M)) (_ : a.eval x = keyV bkt key) (_ : wpList Try.prog ops Q rest (a.put o.dst (.int .i64 (i : Int))) y1), wpList Try.prog ops Q (o :: rest) a y1) := by
      intro ops rest o a Q hg m x hop hm hx hK
      refine wpLookN17 y1 hg m x hop M n (l.map Prod.fst) bkt key hm HO1.out hx HSz.out.1 HSz.out.2 HG.out ?_
      rw [HLi.out]; exact hK
    clear hli
    by_cases hv : ver = 0
    rotate_left
    · have HE : Hid (false = D) := by rw [← HD2.out, decide_eq_false hv, Bool.false_and, Bool.and_false]; rfl
      have hvd : (ver == 0) = false := by simpa using hv
      clear hv
      go_wp2_with (at_lookup; refine HLk.out rfl _ _ rfl rfl rfl ?_)
      go_ret
      exact ⟨ret_b HE.out, HY1.out⟩
    subst hv
    cases mark with
    | true =>
      have HE : Hid (false = D) := by rw [← HD2.out]; rfl
      go_wp2_with (at_lookup; refine HLk.out rfl _ _ rfl rfl rfl ?_)
      go_ret
      exact ⟨ret_b HE.out, HY1.out⟩
    | false =>
      have HE : Hid ((decide (0 < exp) && decide (laterN time exp ≤ now)) = D) := by rw [← HD2.out]; rfl
      have HOv := mkHid (fun W => codOver17 time exp now W HT.out he)
      go_wp2_with (first | (at_lookup; refine HLk.out rfl _ _ rfl rfl rfl ?_) | (go_at_call 21; refine (HOv.out _).mono ?_; rintro e y2 ⟨rfl, rfl⟩))
      go_ret
      exact ⟨ret_b HE.out, HY1.out⟩
  · rw [if_neg hli] at HD2
    have HG2 := HG.out
    obtain ⟨q, hq⟩ : ∃ q : Nat, latN (l.map Prod.fst) bkt key n = (q : Int) := ⟨(latN (l.map Prod.fst) bkt key n).toNat, by omega⟩
    rw [hq] at hli
    have HQ := mkHid hq
    have hqi : ((q : Int) == (i : Int)) = false := by simpa using hli
    have HLk : Hid (∀ {ops : Array Oper} {rest : List Oper} {o : Oper} {a : Act} {Q : Exit → Act → World → Prop} (_ : o.guard = none) (m x : Operand) (_ : o.op = Op.lookup mapT m x false) (_ : a.eval m = .map (some M)) (_ : a.eval x = keyV bkt key) (_ : wpList Try.prog ops Q rest (a.put o.dst (.int .i64 (q : Int))) y1), wpList Try.prog ops Q (o :: rest) a y1) := by
      intro ops rest o a Q hg m x hop hm hx hK
      refine wpLookN17 y1 hg m x hop M n (l.map Prod.fst) bkt key hm HO1.out hx HSz.out.1 HSz.out.2 HG.out ?_
      rw [HQ.out]; exact hK
    have HOv := mkHid (fun W => codOver17 time nonc now W HT.out hnc)
    clear hq hli HG2
    go_wp2_with (first | (at_lookup; refine HLk.out rfl _ _ rfl rfl rfl ?_) | (go_at_call 21; refine (HOv.out _).mono ?_; rintro e y2 ⟨rfl, rfl⟩))
    go_ret
    exact ⟨ret_b HD2.out, HY1.out⟩
end Go.Proofs.Ytjmkfkkkjcjplaa
