/- What uri.Canon answers. · The library's contracts at this dump, as the guide's tool lays them. · sigv4: room for a signature; headers joined; names sorted; bytes cloned. -/
import Derived.Test.YtgjmaeodgcigdaaGreatDoorB26
import Derived.Test.YtgjmaeodgcigdaaGreatDoorB5
import Derived.Deep.RegionHeld3
import Derived.Deep.RegionWith
import Derived.Deep.CutBlock
import Derived.Deep.CutRange
import Derived.WalkLawsBesides
import Derived.Shelf.Sort.Plain
import Derived.Shelf.Slices.Turned
import Derived.Test.YtgjmaeodgcigdaaGreatDoorProg
import Derived.Test.YtgjmaeodgcigdaaGreatDoorB25
import Derived.Test.YtgjmaeodgcigdaaGreatDoorB19
import Derived.Lib.AppendZeros
import Derived.Sort.OwnSorted
namespace Go.Proofs.YtgjmaeodgcigdaaGreatDoor
open Go.RowKit

theorem infoUP3 : (Tryz.prog.info? 122).map (fun i => (i.zero, i.size, i.bytes)) = some (some (.agg #[.string ⟨#[]⟩, .string ⟨#[]⟩]), 2, 32) := by kernel_rfl
/-- make([]Pair, 0, n) -/
theorem make_ownQ {ops : Array Oper} {rest : List Oper} {o : Oper} {a : Act} {Q : Exit → Act → World → Prop} (w : World)
    (hg : o.guard = none) (l c : Operand) (hop : o.op = Op.makeSlice 71 l c) (base : Nat)
    (kl kc : IntKind) (C : Int) (n : Nat) (hl : a.eval l = .int kl 0) (hc : a.eval c = .int kc C) (hC : C = (n : Int)) (b2 : n ≤ 100000) (b4 : base ≤ w.heap.size)
    (hK : ∀ w', OwnP 122 w' base (.slice (some ⟨w.heap.size, 0, none⟩) 0 n) [] → w.grownBy w' none → wpList Tryz.prog ops Q rest (a.put o.dst (.slice (some ⟨w.heap.size, 0, none⟩) 0 n)) w') :
    wpList Tryz.prog ops Q (o :: rest) a w := by
  obtain ⟨i0, hi, hz0, hz1, hz2⟩ := info_parts infoUP3
  exact wpList_make_own w hg l c 71 hop base 122 i0 (.agg #[.string ⟨#[]⟩, .string ⟨#[]⟩]) 2 Tryz.underlying71 hi hz0 hz1 kl kc C n hl hc hC (by rw [hz2]; omega) (by unfold maxLen; omega) b4 hK
/-- make([]string, 0, n) -/
theorem make_ownT {ops : Array Oper} {rest : List Oper} {o : Oper} {a : Act} {Q : Exit → Act → World → Prop} (w : World)
    (hg : o.guard = none) (l c : Operand) (hop : o.op = Op.makeSlice 26 l c) (base : Nat)
    (kl kc : IntKind) (C : Int) (n : Nat) (hl : a.eval l = .int kl 0) (hc : a.eval c = .int kc C) (hC : C = (n : Int)) (b2 : n ≤ 100000) (b4 : base ≤ w.heap.size)
    (hK : ∀ w', OwnT w' base (.slice (some ⟨w.heap.size, 0, none⟩) 0 n) [] → w.grownBy w' none → wpList Tryz.prog ops Q rest (a.put o.dst (.slice (some ⟨w.heap.size, 0, none⟩) 0 n)) w') :
    wpList Tryz.prog ops Q (o :: rest) a w := by
  obtain ⟨i0, hi, hz0, hz1, hz2⟩ := info_parts infoS
  exact wpList_make_own w hg l c 26 hop base 9 i0 (.string ⟨#[]⟩) 1 Tryz.underlying26 hi hz0 hz1 kl kc C n hl hc hC (by rw [hz2]; omega) (by unfold maxLen; omega) b4 hK

theorem kept_cell {w w' : World} {row : Option Nat} {B j : Nat} {u : Value} (hg : w.grownBy w' row) (hne : ∀ k, row = some k → k ≠ B) (h : w.cell? ⟨B, j, none⟩ = some u) : w'.cell? ⟨B, j, none⟩ = some u :=
  (World.cell?_of_block (hg.block B (cell_lt h) (fun e => hne B e.symm rfl))).trans h

theorem OwnT.any {w : World} {base : Nat} {v : Value} {l : List (List UInt8)} (h : OwnT w base v l) : ∃ a cap, v = .slice a l.length cap := by
  rcases h.2 with ⟨rfl, h0⟩ | ⟨g, cap, cur, rfl, _⟩
  · exact ⟨none, 0, by rw [h0]⟩
  · exact ⟨_, _, rfl⟩
theorem codJoin (N : Nat) (v : Value) (T : List (List UInt8)) (w : World) (h : OwnT w N v T) (hl : T.length ≤ 50) (hb : (Lib.join T [38]).length ≤ 10000000) :
    Calls Tryz.prog 37 #[v, .string ⟨#[38]⟩] w fun e w' => e = .returned (.string (str (Lib.join T [38]))) ∧ Below w.heap.size w w' := by
  by_cases h0 : T = []
  · subst h0
    obtain ⟨a, cap, rfl⟩ := h.any
    refine (Tryz.strings_Join_none a cap ⟨#[38]⟩ w).mono ?_
    rintro e w' ⟨rfl, rfl⟩
    exact ⟨rfl, Below.refl _ _⟩
  · obtain ⟨g, cap, rfl, hb1, hb2⟩ := h.form (List.length_pos_iff.2 h0)
    have hc := h.cap rfl
    have e1 : (T.map str).map (fun x => x.data.toList) = T := by
      rw [List.map_map]
      have : ((fun x : ByteArray => x.data.toList) ∘ str) = id := by funext x; exact str_list x
      rw [this, List.map_id]
    have hown : w.ownsRow N 9 1 (.slice (some ⟨g, 0, none⟩) T.length cap) T.length (T.map sv) := h
    have hJ := Tryz.strings_Join g 0 cap (T.map str) ⟨#[38]⟩ w (fun j x hx => by
      have hj : j < T.length := by
        rcases Nat.lt_or_ge j T.length with h | h
        · exact h
        · rw [List.getElem?_eq_none (by simpa using h)] at hx; cases hx
      rw [Nat.zero_add, hown.cellAt j (by omega)]
      rw [List.getElem?_map] at hx ⊢
      cases ht : T[j]? with
      | none => rw [ht] at hx; cases hx
      | some y => rw [ht] at hx; cases hx; rfl) hb2 (by rw [List.length_map]; omega) (by rw [List.length_map]; exact hc.1) (by rw [e1]; show (Lib.join T [38]).length ≤ _; omega)
    rw [e1, List.length_map] at hJ
    exact hJ
theorem codSort2 (N : Nat) (a : Option Addr) (n cap : Nat) (l : List Pr) (w : World) (hN : N ≤ w.heap.size) (hn : l.length = n) (h : OwnP 122 w N (.slice a n cap) (l.map encP)) (hl : n ≤ 50) :
    Calls Tryz.prog 83 #[.slice a n cap, .func (.func 84) #[] #[]] w fun e w' => e = .returned (.tuple #[]) ∧ Below N w w' ∧ IsP w' a n cap (sortL l) := by
  refine (codSort N _ l w hN h (by omega)).mono ?_
  rintro e w' ⟨rfl, hb, a', cap', ev, hi⟩
  subst hn
  cases ev
  exact ⟨rfl, hb, hi⟩

set_option maxRecDepth 20000 in
set_option maxHeartbeats 4000000 in
theorem codCanon (a : Option Addr) (n cap : Nat) (l : List Pr) (w : World) (h : IsP w a n cap l) (hn : n ≤ 50) (hz : ∀ p ∈ l, p.1.length ≤ 30000 ∧ p.2.length ≤ 30000) :
    Calls Tryz.prog 36 #[.slice a n cap] w fun e w' => e = .returned (.string (str (canonL l))) ∧ Below w.heap.size w w' := by
  have HL : Hid (l.length = n) := h.len_eq
  have H : Hid (IsP w a n cap l) := h
  have HZ : Hid (∀ k, k < n → (nthP l k).1.length ≤ 30000 ∧ (nthP l k).2.length ≤ 30000) := fun k hk => by rw [nthP_eq l k (by rw [HL.out]; exact hk)]; exact hz _ (List.getElem_mem _)
  clear h hz
  go_enter Tryz.func36, Tryz.ntmps36
  go_wp2_with (at_make; refine make_ownQ _ rfl _ _ rfl w.heap.size .i64 .i64 _ n rfl rfl (by omega) (by omega) (Nat.le_refl _) ?_; intro w1 hown1 hgrow1)
  go_loopw [3, 14] (fun v i wr => ∃ (k : Nat), k ≤ n ∧ i = .int .i64 k ∧ OwnP 122 wr w.heap.size v ((l.take k).map encP) ∧ Below w.heap.size w wr) (fun _ i _ => n - (intOf i).toNat)
  case atStart => exact ⟨0, Nat.zero_le _, rfl, hown1, (Below.refl _ _).grown hgrow1 (Nat.le_refl _) (fun k h => by cases h)⟩
  case round =>
    clear hown1 hgrow1
    obtain ⟨k, hk, rfl, hown, hbel⟩ := hrel
    by_cases hlt : k < n
    · obtain ⟨b, off, rfl, hc⟩ := H.out.cells (by omega)
      obtain ⟨c1, c2⟩ := hc k hlt
      have gb : b < w.heap.size := cell_lt c1
      have g1 := (hbel.cell (p := ⟨b, off + k * 2, none⟩) gb).trans c1
      have g2 := (hbel.cell (p := ⟨b, off + k * 2 + 1, none⟩) gb).trans c2
      have hb0 : (0 : Int) ≤ (k : Int) := by omega
      have hb1 : (k : Int) < (n : Int) := by omega
      have HT : (l.take (k + 1)).map encP = (l.take k).map encP ++ [encP (nthP l k)] := by rw [take_nthP l k (by rw [HL.out]; exact hlt), List.map_append]; rfl
      have HK : ((l.take k).map encP).length = k := by rw [List.length_map, List.length_take, HL.out]; omega
      obtain ⟨z1, z2⟩ := HZ.out k hlt
      clear hc c1 c2
      generalize nthP l k = p at *
      obtain ⟨p1, p2⟩ := p
      have HE1 := fun w => codEncodeL p1 false w (by simp at z1; omega)
      have HE2 := fun w => codEncodeL p2 false w (by simp at z2; omega)
      clear z1 z2
      generalize (l.take k).map encP = out at *
      have HT' : Hid ((l.take (k + 1)).map encP = out ++ [(encL false p1, encL false p2)]) := HT
      have HK' : Hid (out.length = k) := HK
      clear HT HK
      generalize encL false p1 = e1 at *
      generalize encL false p2 = e2 at *
      go_upto_region 5 with fail
      have BL := Blk.newAt wr wr.heap.size 122 _ [.string (str p1), .string (str p2)] rfl rfl
      have q1 := BL.cell 0
      have q2 := BL.cell 1
      simp only [List.getElem?_cons_zero, List.getElem?_cons_succ] at q1 q2
      have hBx := BL.lt
      have HO : Hid (OwnP 122 (wr.alloc (.cells #[.string (str p1), .string (str p2)] 122)) w.heap.size u3 out) := hown.alloc _
      have HNE : Hid (∀ k, u3.ownBlock = some k → k ≠ wr.heap.size) := fun k hk => by have := (hown.blk k hk).2; omega
      have HBK : Hid (∀ k, u3.ownBlock = some k → w.heap.size ≤ k) := fun k hk => (hown.blk k hk).1
      have TX : Below w.heap.size w (wr.alloc (.cells #[.string (str p1), .string (str p2)] 122)) := hbel.alloc hbel.size _
      clear BL hown hbel g1 g2 gb
      generalize wr.alloc (.cells #[.string (str p1), .string (str p2)] 122) = X at *
      generalize wr.heap.size = B at *
      generalize str p1 = s1 at *
      generalize str p2 = s2 at *
      go_region_held3 (fun w' => w'.cell? ⟨B, 0, none⟩ = some (.string s1) ∧ w'.cell? ⟨B, 1, none⟩ = some (.string s2))
        (first | exact ⟨r1, r2⟩ | (exact ⟨((d2.alloc d2.size _).cell (p := ⟨B, 0, none⟩) hBx).trans q1, ((d2.alloc d2.size _).cell (p := ⟨B, 1, none⟩) hBx).trans q2⟩) | (exact ⟨(d2.cell (p := ⟨B, 0, none⟩) hBx).trans q1, (d2.cell (p := ⟨B, 1, none⟩) hBx).trans q2⟩) | (exact ⟨(d1.cell (p := ⟨B, 0, none⟩) hBx).trans q1, (d1.cell (p := ⟨B, 1, none⟩) hBx).trans q2⟩) | (exact ⟨(((Below.refl X.heap.size X).drew).cell (p := ⟨B, 0, none⟩) hBx).trans q1, (((Below.refl X.heap.size X).drew).cell (p := ⟨B, 1, none⟩) hBx).trans q2⟩) | go_keep)
        (first | (go_at_call 35; have hdd := d1; refine (HE2 _).mono ?_; rintro e x2 ⟨rfl, b2⟩; have d2 : Below X.heap.size X x2 := d1.trans (b2.mono d1.size)) | (go_at_call 35; refine (HE1 _).mono ?_; rintro e x1 ⟨rfl, b1⟩; have d1 : Below X.heap.size X x1 := ((Below.refl X.heap.size X).drew).trans (b1.mono (Nat.le_refl _))) | (have hdd := d2; refine step_appQ 71 122 Tryz.underlying71 infoUP3 _ (by rfl) _ _ (by rfl) w.heap.size _ out (by rfl) ((HO.out.on d2).alloc _) x2.heap.size e1 e2 (by rfl) (heap_alloc_new x2 _) (by rw [HK'.out]; omega) (by have := TX.size; have := d2.size; simp; omega) (x2.heap.size + 1) (by simp) ?_; intro gg capg w1 hown1 hgrow hat hlt1; have r1 := kept_cell hgrow HNE.out (((d2.alloc d2.size _).cell (p := ⟨B, 0, none⟩) hBx).trans q1); have r2 := kept_cell hgrow HNE.out (((d2.alloc d2.size _).cell (p := ⟨B, 1, none⟩) hBx).trans q2); have D3 : Below w.heap.size w w1 := ((TX.trans (d2.mono TX.size)).alloc (by have := TX.size; have := d2.size; omega) _).grown hgrow (by have := TX.size; have := d2.size; simp; omega) (fun j hj => HBK.out j hj)))
      all_goals
        go_wp2
        go_roundw
        case rel => exact ⟨k + 1, by omega, by go_num, by rw [HT'.out]; exact hown1, D3⟩
        case measure => simp [intOf]; omega
    · have ek : k = n := by omega
      subst ek
      rw [List.take_of_length_le (by rw [HL.out]; exact Nat.le_refl _)] at hown
      obtain ⟨a', cap', ev, -⟩ := hown.isP
      rw [List.length_map, HL.out] at ev
      rw [ev] at hown ⊢
      have HS := codSort2 w.heap.size a' k cap' l wr hbel.size HL.out hown hn
      have HLen : Hid ((sortL l).length = k) := by unfold Hid; rw [sortL_length, HL.out]
      have HZ2 : Hid (∀ i, i < k → (nthP (sortL l) i).1.length ≤ 90000 ∧ (nthP (sortL l) i).2.length ≤ 90000) := by
        intro i hi
        rw [nthP_eq _ _ (by rw [HLen.out]; exact hi)]
        have hm := (sortL_perm l).mem_iff.1 (List.getElem_mem (l := sortL l) (n := i) (by rw [HLen.out]; exact hi))
        obtain ⟨p, hp, e⟩ := List.mem_map.1 hm
        obtain ⟨j, hj, e2⟩ := List.getElem_of_mem hp
        have hz := HZ.out j (by rw [HL.out] at hj; exact hj)
        rw [nthP_eq _ _ hj, e2] at hz
        rw [← e]
        have h1 := encL_length false p.1
        have h2 := encL_length false p.2
        exact ⟨by show (encL false p.1).length ≤ 90000; omega, by show (encL false p.2).length ≤ 90000; omega⟩
      have HF : Hid (canonL l = joinL (sortL l)) := rfl
      have HJ : Hid ((joinL (sortL l)).length ≤ 10000000) := by
        have := joinK_length (sortL l) k (fun i hi => HZ2.out i hi) k (Nat.le_refl _)
        unfold Hid joinL; rw [HLen.out]; omega
      clear hown ev HZ H
      generalize sortL l = out at *
      go_wp2_with (first | (go_at_call 83; refine HS.mono ?_; rintro e x1 ⟨rfl, b1, hi⟩) | (at_make; refine make_ownT _ rfl _ _ rfl x1.heap.size .i64 .i64 _ k rfl rfl (by omega) (by omega) (Nat.le_refl _) ?_; intro x2 hown2 hgrow2))
      have HI : Hid (IsP x1 a' k cap' out) := hi
      have T1 : Below w.heap.size w x1 := hbel.trans b1
      clear hi b1 HS hbel
      go_loopw [6, 36] (fun v i wy => ∃ (j : Nat), j ≤ k ∧ i = .int .i64 (j : Int) ∧ OwnT wy x1.heap.size v ((out.take j).map pt) ∧ Below x1.heap.size x1 wy) (fun _ i _ => k - (intOf i).toNat)
      case atStart => exact ⟨0, Nat.zero_le _, rfl, hown2, (Below.refl _ _).grown hgrow2 (Nat.le_refl _) (fun k h => by cases h)⟩
      case round =>
        clear hown2 hgrow2
        obtain ⟨j, hj, rfl, hown, hby⟩ := hrel
        by_cases hlt2 : j < k
        · obtain ⟨b2, off2, rfl, hc⟩ := HI.out.cells (by omega)
          obtain ⟨c1, c2⟩ := hc j hlt2
          have gb : b2 < x1.heap.size := cell_lt c1
          have g1 := (hby.cell (p := ⟨b2, off2 + j * 2, none⟩) gb).trans c1
          have g2 := (hby.cell (p := ⟨b2, off2 + j * 2 + 1, none⟩) gb).trans c2
          have hb2 : (0 : Int) ≤ (j : Int) := by omega
          have hb3 : (j : Int) < (k : Int) := by omega
          obtain ⟨m1, m2⟩ := HZ2.out j hlt2
          have s1 : (str (nthP out j).1).size ≤ 90000 := by rw [str_size]; exact m1
          have s2 : (str (nthP out j).2).size ≤ 90000 := by rw [str_size]; exact m2
          have S1 : ((str (nthP out j).1).size : Int) ≤ 90000 := by omega
          have S2 : ((str (nthP out j).2).size : Int) ≤ 90000 := by omega
          have HT : Hid ((out.take (j + 1)).map pt = (out.take j).map pt ++ [pt (nthP out j)]) := by unfold Hid; rw [take_nthP out j (by rw [HLen.out]; exact hlt2), List.map_append]; rfl
          have HK : Hid (((out.take j).map pt).length = j) := by unfold Hid; rw [List.length_map, List.length_take, HLen.out]; omega
          have Hcat : str (nthP out j).1 ++ ByteArray.mk #[61] ++ str (nthP out j).2 = str (pt (nthP out j)) := cat3 _ _
          clear hc c1 c2 m1 m2 s1 s2
          generalize (out.take j).map pt = tx at *
          generalize nthP out j = x at *
          generalize str x.1 = t1 at *
          generalize str x.2 = t2 at *
          have HB := hown.blk
          go_wp2_with (at_builtin; refine list_appX _ rfl _ _ rfl x1.heap.size _ tx rfl ((hown.alloc _).alloc _) (wr.heap.size + 1) (pt x) rfl (by rw [← Hcat]; exact Blk.newAt _ _ _ _ [_] (by simp) rfl) (by rw [HK.out]; omega) (by have := hby.size; simp; omega) ?_; intro v1 y1 hown1 hgrow)
          go_roundw
          case rel => exact ⟨j + 1, by omega, by go_num, by rw [HT.out]; exact hown1, ((hby.alloc hby.size _).alloc (by have := hby.size; simp; omega) _).grown hgrow (by have := hby.size; simp; omega) (fun i hi => (HB i hi).1)⟩
          case measure => simp [intOf]; omega
        · have ej : j = k := by omega
          subst ej
          have hge : ¬ (j : Int) < (j : Int) := by omega
          rw [List.take_of_length_le (by rw [HLen.out]; exact Nat.le_refl _)] at hown
          have HG := codJoin x1.heap.size _ (out.map pt) wr hown (by rw [List.length_map, HLen.out]; exact hn) (by rw [join_pt]; exact HJ.out)
          rw [join_pt, ← HF.out] at HG
          clear hown
          go_wp2_with (go_at_call 37; refine HG.mono ?_; rintro e x4 ⟨rfl, b4⟩)
          go_ret
          have T2 := T1.trans (hby.mono T1.size)
          exact ⟨rfl, T2.trans (b4.mono T2.size)⟩
end Go.Proofs.YtgjmaeodgcigdaaGreatDoor
namespace Go.Proofs
open Go.Shelf
def Tryz.lays190_ren : Go.Shelf.Ren := ⟨fun | 190 => 114 | 125 => 128 | 258 => 145 | 128 => 158 | 129 => 159 | 302 => 174 | 303 => 175 | 304 => 176 | 305 => 177 | 306 => 178 | 307 => 179 | 308 => 180 | 309 => 181 | 310 => 182 | 333 => 194 | 329 => 185 | 330 => 186 | 334 => 195 | 335 => 196 | 336 => 197 | 344 => 199 | n => n, fun | 31 => 26 | 9 => 9 | 3 => 3 | 46 => 118 | 0 => 0 | 51 => 131 | 53 => 38 | 4 => 4 | 183 => 197 | 182 => 196 | 131 => 201 | 5 => 5 | 218 => 221 | 222 => 225 | 228 => 232 | 229 => 181 | n => n, fun | n => n⟩
theorem Tryz.lays190 : Go.Proofs.Lays.n190 Tryz.prog Tryz.lays190_ren := {
  mixed := by kernel_rfl
  f125 := Tryz.func128.trans (congrArg some (by kernel_rfl))
  f128 := Tryz.func158.trans (congrArg some (by kernel_rfl))
  f129 := Tryz.func159.trans (congrArg some (by kernel_rfl))
  f190 := Tryz.func114.trans (congrArg some (by kernel_rfl))
  f258 := Tryz.func145.trans (congrArg some (by kernel_rfl))
  f302 := Tryz.func174.trans (congrArg some (by kernel_rfl))
  f303 := Tryz.func175.trans (congrArg some (by kernel_rfl))
  f304 := Tryz.func176.trans (congrArg some (by kernel_rfl))
  f305 := Tryz.func177.trans (congrArg some (by kernel_rfl))
  f306 := Tryz.func178.trans (congrArg some (by kernel_rfl))
  f307 := Tryz.func179.trans (congrArg some (by kernel_rfl))
  f308 := Tryz.func180.trans (congrArg some (by kernel_rfl))
  f309 := Tryz.func181.trans (congrArg some (by kernel_rfl))
  f310 := Tryz.func182.trans (congrArg some (by kernel_rfl))
  f329 := Tryz.func185.trans (congrArg some (by kernel_rfl))
  f330 := Tryz.func186.trans (congrArg some (by kernel_rfl))
  f333 := Tryz.func194.trans (congrArg some (by kernel_rfl))
  f334 := Tryz.func195.trans (congrArg some (by kernel_rfl))
  f335 := Tryz.func196.trans (congrArg some (by kernel_rfl))
  f336 := Tryz.func197.trans (congrArg some (by kernel_rfl))
  f344 := Tryz.func199.trans (congrArg some (by kernel_rfl))
  t0 := Tryz.underlying0
  a0 := Tryz.isAgg0
  z0 := Tryz.sizeOf0
  v0 := Tryz.zeroValue0
  t3 := Tryz.underlying3
  a3 := Tryz.isAgg3
  z3 := Tryz.sizeOf3
  v3 := Tryz.zeroValue3
  t4 := Tryz.underlying4
  a4 := Tryz.isAgg4
  z4 := Tryz.sizeOf4
  v4 := Tryz.zeroValue4
  t5 := Tryz.underlying5
  a5 := Tryz.isAgg5
  z5 := Tryz.sizeOf5
  v5 := Tryz.zeroValue5
  t9 := Tryz.underlying9
  a9 := Tryz.isAgg9
  z9 := Tryz.sizeOf9
  v9 := Tryz.zeroValue9
  t31 := Tryz.underlying26
  a31 := Tryz.isAgg26
  z31 := Tryz.sizeOf26
  v31 := Tryz.zeroValue26
  t46 := Tryz.underlying118
  a46 := Tryz.isAgg118
  z46 := Tryz.sizeOf118
  v46 := Tryz.zeroValue118
  t51 := Tryz.underlying131
  a51 := Tryz.isAgg131
  z51 := Tryz.sizeOf131
  v51 := Tryz.zeroValue131
  t53 := Tryz.underlying38
  a53 := Tryz.isAgg38
  z53 := Tryz.sizeOf38
  v53 := Tryz.zeroValue38
  t131 := Tryz.underlying201
  a131 := Tryz.isAgg201
  z131 := Tryz.sizeOf201
  v131 := Tryz.zeroValue201
  t182 := Tryz.underlying196
  a182 := Tryz.isAgg196
  z182 := Tryz.sizeOf196
  v182 := Tryz.zeroValue196
  t183 := Tryz.underlying197
  a183 := Tryz.isAgg197
  z183 := Tryz.sizeOf197
  v183 := Tryz.zeroValue197
  t218 := Tryz.underlying221
  a218 := Tryz.isAgg221
  z218 := Tryz.sizeOf221
  v218 := Tryz.zeroValue221
  t222 := Tryz.underlying225
  a222 := Tryz.isAgg225
  z222 := Tryz.sizeOf225
  v222 := Tryz.zeroValue225
  t228 := Tryz.underlying232
  a228 := Tryz.isAgg232
  z228 := Tryz.sizeOf232
  v228 := Tryz.zeroValue232
  t229 := Tryz.underlying181
  a229 := Tryz.isAgg181
  z229 := Tryz.sizeOf181
  v229 := Tryz.zeroValue181 }
open Go.Sort Go.RowKit in
theorem Tryz.slices_Sort_string (blk off cap : Nat) (ss : List (List UInt8)) (w : World) (hH : Holds encStr w blk off ss.toArray) (hblk : blk < w.heap.size) (hsz : ss.length < 4611686018427387904) :
    Calls Tryz.prog 114 #[.slice (some ⟨blk, off, none⟩) ss.length cap] w fun e w' =>
      e = .returned (.tuple #[]) ∧ ∃ n os, w' = grow (putRow encStr (Sort.ahead w n) blk off (ss.mergeSort fun x y => decide (x ≤ y)).toArray) os := Any.slices_Sort_string Tryz.lays190 blk off cap ss w hH hblk hsz
def Tryz.lays109_ren : Go.Shelf.Ren := ⟨fun | 109 => 148 | n => n, fun | 31 => 26 | 9 => 9 | 3 => 3 | 0 => 0 | 4 => 4 | n => n, fun | n => n⟩
theorem Tryz.lays109 : Go.Proofs.Lays.n109 Tryz.prog Tryz.lays109_ren := {
  mixed := by kernel_rfl
  f109 := Tryz.func148.trans (congrArg some (by kernel_rfl))
  t0 := Tryz.underlying0
  a0 := Tryz.isAgg0
  z0 := Tryz.sizeOf0
  v0 := Tryz.zeroValue0
  t3 := Tryz.underlying3
  a3 := Tryz.isAgg3
  z3 := Tryz.sizeOf3
  v3 := Tryz.zeroValue3
  t4 := Tryz.underlying4
  a4 := Tryz.isAgg4
  z4 := Tryz.sizeOf4
  v4 := Tryz.zeroValue4
  t9 := Tryz.underlying9
  a9 := Tryz.isAgg9
  z9 := Tryz.sizeOf9
  v9 := Tryz.zeroValue9
  t31 := Tryz.underlying26
  a31 := Tryz.isAgg26
  z31 := Tryz.sizeOf26
  v31 := Tryz.zeroValue26 }
open Go.Lib in
theorem Tryz.slices_Index_string (b off n c : Nat) (zs : List ByteArray) (x : ByteArray) (w : World) (hz : n ≤ zs.length) (hbig : n ≤ 9223372036854775807) (hc : ∀ j, j < zs.length → w.cell? ⟨b, off + j, none⟩ = some (.string (zs.getD j ByteArray.empty))) :
    Calls Tryz.prog 148 #[.slice (some ⟨b, off, none⟩) n c, .string x] w fun e w' => e = .returned (.int .i64 (Lib.idxOfS (zs.take n) x)) ∧ w' = w := Any.slices_Index_string Tryz.lays109 b off n c zs x w hz hbig hc
open Go.Lib in
theorem Tryz.slices_Index_string_empty (a : Option Addr) (c : Nat) (x : ByteArray) (w : World) :
    Calls Tryz.prog 148 #[.slice a 0 c, .string x] w fun e w' => e = .returned (.int .i64 (Lib.idxOfS [] x)) ∧ w' = w := Any.slices_Index_string_empty Tryz.lays109 a c x w
def Tryz.lays110_ren : Go.Shelf.Ren := ⟨fun | 110 => 116 | 109 => 148 | n => n, fun | 31 => 26 | 9 => 9 | 4 => 4 | 3 => 3 | 0 => 0 | n => n, fun | n => n⟩
theorem Tryz.lays110 : Go.Proofs.Lays.n110 Tryz.prog Tryz.lays110_ren := {
  mixed := by kernel_rfl
  f109 := Tryz.func148.trans (congrArg some (by kernel_rfl))
  f110 := Tryz.func116.trans (congrArg some (by kernel_rfl))
  t0 := Tryz.underlying0
  a0 := Tryz.isAgg0
  z0 := Tryz.sizeOf0
  v0 := Tryz.zeroValue0
  t3 := Tryz.underlying3
  a3 := Tryz.isAgg3
  z3 := Tryz.sizeOf3
  v3 := Tryz.zeroValue3
  t4 := Tryz.underlying4
  a4 := Tryz.isAgg4
  z4 := Tryz.sizeOf4
  v4 := Tryz.zeroValue4
  t9 := Tryz.underlying9
  a9 := Tryz.isAgg9
  z9 := Tryz.sizeOf9
  v9 := Tryz.zeroValue9
  t31 := Tryz.underlying26
  a31 := Tryz.isAgg26
  z31 := Tryz.sizeOf26
  v31 := Tryz.zeroValue26 }
open Go.Lib in
theorem Tryz.slices_Contains_string (b off n c : Nat) (zs : List ByteArray) (x : ByteArray) (w : World) (hz : n ≤ zs.length) (hbig : n ≤ 9223372036854775807) (hc : ∀ j, j < zs.length → w.cell? ⟨b, off + j, none⟩ = some (.string (zs.getD j ByteArray.empty))) :
    Calls Tryz.prog 116 #[.slice (some ⟨b, off, none⟩) n c, .string x] w fun e w' => e = .returned (.bool (Lib.containsS (zs.take n) x)) ∧ w' = w := Any.slices_Contains_string Tryz.lays110 b off n c zs x w hz hbig hc
open Go.Lib in
theorem Tryz.slices_Contains_string_empty (a : Option Addr) (c : Nat) (x : ByteArray) (w : World) :
    Calls Tryz.prog 116 #[.slice a 0 c, .string x] w fun e w' => e = .returned (.bool false) ∧ w' = w := Any.slices_Contains_string_empty Tryz.lays110 a c x w
end Go.Proofs
namespace Go.Proofs.YtgjmaeodgcigdaaGreatDoor
open Go.RowKit

def roomB (hs : List Pr) : Bool := !(findL hs sAuthN).isSome && (!(findL hs sDateN).isSome && decide (hs.length ≤ 22))

set_option maxRecDepth 20000 in
set_option maxHeartbeats 2000000 in
theorem codRoom (m p q bd : Value) (ha : Option Addr) (hn hc : Nat) (hs : List Pr) (w : World) (hP : IsP w ha hn hc hs) :
    Calls Tryz.prog 63 #[.agg #[m, p, q, .slice ha hn hc, bd]] w fun e w' => e = .returned (.bool (roomB hs)) ∧ Below w.heap.size w w' := by
  have T0 : Below w.heap.size w (w.alloc (.cells #[m, p, q, .slice ha hn hc, bd] 34)) := (Below.refl _ w).alloc (Nat.le_refl _) _
  have K0 := Blk.newAt w w.heap.size 34 _ [m, p, q, .slice ha hn hc, bd] rfl rfl
  have c0 := K0.cell 0
  have c1 := K0.cell 1
  have c2 := K0.cell 2
  have c3 := K0.cell 3
  have c4 := K0.cell 4
  have G1 : ∀ W, Below w.heap.size w W → Calls Tryz.prog 75 #[.agg #[m, p, q, .slice ha hn hc, bd], .string ⟨#[97, 117, 116, 104, 111, 114, 105, 122, 97, 116, 105, 111, 110]⟩] W fun e w' => e = .returned (.tuple #[.string (str (vAu hs)), .bool (findL hs sAuthN).isSome]) ∧ Below W.heap.size W w' := fun W hW => codGet _ _ _ _ ha hn hc hs sAuthN W (hP.below hW rfl)
  have G2 : ∀ W, Below w.heap.size w W → Calls Tryz.prog 75 #[.agg #[m, p, q, .slice ha hn hc, bd], .string ⟨#[120, 45, 97, 109, 122, 45, 100, 97, 116, 101]⟩] W fun e w' => e = .returned (.tuple #[.string (str (vDa hs)), .bool (findL hs sDateN).isSome]) ∧ Below W.heap.size W w' := fun W hW => codGet _ _ _ _ ha hn hc hs sDateN W (hP.below hW rfl)
  have hl := hP.len_eq
  unfold roomB
  rw [hl]
  clear hP hl
  obtain ⟨r, HR⟩ : ∃ r, Hid (r = (!(findL hs sAuthN).isSome && (!(findL hs sDateN).isSome && decide (hn ≤ 22)))) := ⟨_, rfl⟩
  rw [← HR.out]
  generalize (findL hs sAuthN).isSome = b1 at *
  generalize (findL hs sDateN).isSome = b2 at *
  generalize str (vAu hs) = s1 at *
  generalize str (vDa hs) = s2 at *
  go_enter Tryz.func63, Tryz.ntmps63
  go_upto_region 3 with (go_at_call 75; first
    | (have hmk := K1; refine (G2 _ T1).mono ?_; rintro e w2 ⟨rfl, hb2⟩; have K2 := K1.on hb2; have T2 := T1.trans (hb2.mono T1.size))
    | (refine (G1 _ T0).mono ?_; rintro e w1 ⟨rfl, hb1⟩; have K1 := K0.on hb1; have T1 := T0.trans (hb1.mono T0.size); have d0 := K1.cell 0; have d1 := K1.cell 1; have d2 := K1.cell 2; have d3 := K1.cell 3; have d4 := K1.cell 4))
  have e3 := K2.cell 3
  clear G1 G2 K0 K1 T0 T1 hb1 hb2 c0 c1 c2 c3 c4 d0 d1 d2 d3 d4
  cases b1 with
  | true =>
    go_wp2
    go_ret
    exact ⟨ret_bb (by rw [HR.out]; rfl), T2⟩
  | false =>
    cases b2 with
    | true =>
      go_wp2
      go_ret
      exact ⟨ret_bb (by rw [HR.out]; rfl), T2⟩
    | false =>
      by_cases h22 : hn ≤ 22
      · have i22 : (hn : Int) ≤ 22 := by omega
        go_wp2
        go_ret
        exact ⟨ret_bb (by rw [HR.out, decide_eq_true h22]; first | rfl | (simp; omega)), T2⟩
      · have i22 : ¬ (hn : Int) ≤ 22 := by omega
        go_wp2
        go_ret
        exact ⟨ret_bb (by rw [HR.out, decide_eq_false h22]; first | rfl | (simp; omega)), T2⟩

theorem infoH6 : (Tryz.prog.info? 68).map (fun i => (i.zero, i.size, i.bytes)) = some (some (.agg #[.string ⟨#[]⟩, .string ⟨#[]⟩]), 2, 32) := by kernel_rfl

set_option maxRecDepth 20000 in
set_option maxHeartbeats 1000000 in
theorem codGrow (n : Nat) (w : World) (h1 : 1 ≤ n) (h2 : n ≤ 1000) :
    Calls Tryz.prog 113 #[.slice none 0 0, .int .i64 (n : Int)] w fun e w' => ∃ v, e = .returned v ∧ OwnP 68 w' w.heap.size v [] ∧ Below w.heap.size w w' := by
  obtain ⟨i0, hi, hz0, hz1, hz2⟩ := info_parts infoH6
  have hrun := Lib.run_append_nil_zeros (P := Tryz.prog) w 32 3 32 68 i0 (.agg #[.string ⟨#[]⟩, .string ⟨#[]⟩]) .i64 .i64 Tryz.underlying32 Tryz.underlying3 hi hz0 n (by omega) (by omega) (by omega) (by rw [hz2]; omega)
  have hcap := grownCap_ge w n 0 68
  have hmx := grownCap_le_maxLen w n 0 68 (by unfold maxLen; omega)
  generalize grownCap w n 0 68 = cap at *
  have HO : Hid (OwnP 68 (w.drew.alloc (.cells (Builtin.zeroCells (Value.agg #[.string ⟨#[]⟩, .string ⟨#[]⟩]).cells n ++ Builtin.zeroCells (Value.agg #[.string ⟨#[]⟩, .string ⟨#[]⟩]).cells (cap - n)) 68)) w.heap.size (.slice (some ⟨w.heap.size, 0, none⟩) 0 cap) []) :=
    World.ownsRow_made w.drew _ cap (Nat.le_refl _) hmx (by rw [Array.size_append, size_zeroCells, size_zeroCells]; show n * 2 + (cap - n) * 2 = cap * 2; omega)
  have HB : Hid (Below w.heap.size w (w.drew.alloc (.cells (Builtin.zeroCells (Value.agg #[.string ⟨#[]⟩, .string ⟨#[]⟩]).cells n ++ Builtin.zeroCells (Value.agg #[.string ⟨#[]⟩, .string ⟨#[]⟩]).cells (cap - n)) 68))) := ((Below.refl _ w).drew).alloc (Nat.le_refl _) _
  generalize hW : w.drew.alloc (.cells (Builtin.zeroCells (Value.agg #[.string ⟨#[]⟩, .string ⟨#[]⟩]).cells n ++ Builtin.zeroCells (Value.agg #[.string ⟨#[]⟩, .string ⟨#[]⟩]).cells (cap - n)) 68) = W at *
  have i1 : ¬ (n : Int) < 0 := by omega
  have i2 : (0 : Int) < (n : Int) := by omega
  have i3 : IntKind.i64.wrap (n : Int) = n := wrapi64_in _ (by omega) (by omega)
  clear hi hz0 hz1 hz2 hW hmx
  go_enter Tryz.func113, Tryz.ntmps113
  go_wp2_with (at_builtin; refine Lib.wpList_append_run _ rfl _ _ _ _ rfl _ _ rfl rfl _ _ hrun ?_)
  go_ret
  exact ⟨_, rfl, HO.out, HB.out⟩
end Go.Proofs.YtgjmaeodgcigdaaGreatDoor
