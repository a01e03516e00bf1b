/- The library's contracts at this dump, as the guide's tool lays them. · The keys of a transaction's map, in order. · What digest.New and Hash's Add, Sum do (beside Sha256). -/
import Derived.Shelf.SlGeneric
import Derived.Shelf.SlIterI.Nil
import Derived.Shelf.SortM.Plain
import Derived.Shelf.SortM.SortNone
import Derived.Test.YtdeoankmmolebaaGreatProg
import Derived.Test.YtdeoankmmolebaaGreatB27
import Derived.Test.YtdeoankmmolebaaGreatAdd
import Derived.Test.YtdeoankmmolebaaGreatB11
import Derived.Test.YtdeoankmmolebaaGreatB13
namespace Go.Proofs
open Go.Shelf
def Tryz.keysA_ren : Go.Shelf.Ren := ⟨fun | 7 => 115 | 10 => 137 | n => n, fun | 23 => 129 | 26 => 3 | 3 => 139 | 28 => 167 | 0 => 0 | 27 => 166 | 33 => 110 | 4 => 4 | n => n, fun | n => n⟩
theorem Tryz.keysA : Go.Proofs.SlLaysZI.n7 Tryz.prog Tryz.keysA_ren := {
  mixed := by kernel_rfl
  f7 := ⟨Tryz.f115.name, by decide, Tryz.func115.trans (congrArg some (by kernel_rfl))⟩
  f10 := ⟨Tryz.f137.name, by decide, Tryz.func137.trans (congrArg some (by kernel_rfl))⟩
  t0 := Tryz.underlying0
  a0 := Tryz.isAgg0
  z0 := Tryz.sizeOf0
  v0 := Tryz.zeroValue0
  t4 := Tryz.underlying4
  a4 := Tryz.isAgg4
  z4 := Tryz.sizeOf4
  v4 := Tryz.zeroValue4
  t23 := Tryz.underlying129
  a23 := Tryz.isAgg129
  z23 := Tryz.sizeOf129
  v23 := Tryz.zeroValue129
  t26 := Tryz.underlying3
  a26 := Tryz.isAgg3
  z26 := Tryz.sizeOf3
  v26 := Tryz.zeroValue3
  t27 := Tryz.underlying166
  a27 := Tryz.isAgg166
  z27 := Tryz.sizeOf166
  v27 := Tryz.zeroValue166
  t28 := Tryz.underlying167
  a28 := Tryz.isAgg167
  z28 := Tryz.sizeOf167
  v28 := Tryz.zeroValue167
  t33 := Tryz.underlying110
  a33 := Tryz.isAgg110
  z33 := Tryz.sizeOf110
  v33 := Tryz.zeroValue110 }
def Tryz.sortedA_ren : Go.Shelf.Ren := ⟨fun | 6 => 114 | 8 => 135 | 9 => 136 | 11 => 147 | 13 => 149 | 12 => 148 | 23 => 172 | 24 => 173 | 14 => 163 | 15 => 164 | 16 => 165 | 17 => 166 | 18 => 167 | 19 => 168 | 20 => 169 | 21 => 170 | 22 => 171 | 25 => 183 | 26 => 184 | 27 => 185 | 28 => 186 | 29 => 187 | 30 => 188 | 31 => 189 | n => n, fun | 26 => 3 | 28 => 167 | 24 => 54 | 0 => 0 | 3 => 3 | 37 => 65 | 48 => 71 | 50 => 75 | 4 => 4 | 40 => 216 | 39 => 215 | 45 => 115 | 5 => 5 | 9 => 9 | 51 => 227 | 55 => 230 | 57 => 232 | 58 => 233 | 33 => 110 | n => n, fun | n => n⟩
theorem Tryz.sortedA : Go.Proofs.SlLaysZI.n6 Tryz.prog Tryz.sortedA_ren := {
  mixed := by kernel_rfl
  f6 := ⟨Tryz.f114.name, by decide, Tryz.func114.trans (congrArg some (by kernel_rfl))⟩
  f8 := ⟨Tryz.f135.name, by decide, Tryz.func135.trans (congrArg some (by kernel_rfl))⟩
  f11 := ⟨Tryz.f147.name, by decide, Tryz.func147.trans (congrArg some (by kernel_rfl))⟩
  t0 := Tryz.underlying0
  a0 := Tryz.isAgg0
  z0 := Tryz.sizeOf0
  v0 := Tryz.zeroValue0
  t24 := Tryz.underlying54
  a24 := Tryz.isAgg54
  z24 := Tryz.sizeOf54
  v24 := Tryz.zeroValue54
  t26 := Tryz.underlying3
  a26 := Tryz.isAgg3
  z26 := Tryz.sizeOf3
  v26 := Tryz.zeroValue3
  t28 := Tryz.underlying167
  a28 := Tryz.isAgg167
  z28 := Tryz.sizeOf167
  v28 := Tryz.zeroValue167
  i26 := by kernel_rfl }
def Tryz.sortA_ren : Go.Shelf.Ren := ⟨fun | 5 => 136 | 8 => 149 | 7 => 148 | 19 => 172 | 20 => 173 | 10 => 163 | 11 => 164 | 12 => 165 | 13 => 166 | 14 => 167 | 15 => 168 | 16 => 169 | 17 => 170 | 18 => 171 | 30 => 183 | 31 => 184 | 32 => 185 | 33 => 186 | 34 => 187 | 35 => 188 | 40 => 189 | n => n, fun | 23 => 54 | 25 => 3 | 3 => 3 | 32 => 65 | 22 => 54 | 0 => 0 | 44 => 71 | 46 => 75 | 4 => 4 | 36 => 216 | 35 => 215 | 41 => 115 | 5 => 5 | 9 => 9 | 53 => 227 | 57 => 230 | 63 => 232 | 64 => 233 | n => n, fun | n => n⟩
theorem Tryz.sortA : Go.Proofs.SlLaysM.n5 Tryz.prog Tryz.sortA_ren := {
  mixed := by kernel_rfl
  f5 := ⟨Tryz.f136.name, by decide, Tryz.func136.trans (congrArg some (by kernel_rfl))⟩
  f7 := ⟨Tryz.f148.name, by decide, Tryz.func148.trans (congrArg some (by kernel_rfl))⟩
  f8 := Tryz.func149.trans (congrArg some (by kernel_rfl))
  f10 := ⟨Tryz.f163.name, by decide, Tryz.func163.trans (congrArg some (by kernel_rfl))⟩
  f11 := ⟨Tryz.f164.name, by decide, Tryz.func164.trans (congrArg some (by kernel_rfl))⟩
  f12 := ⟨Tryz.f165.name, by decide, Tryz.func165.trans (congrArg some (by kernel_rfl))⟩
  f13 := ⟨Tryz.f166.name, by decide, Tryz.func166.trans (congrArg some (by kernel_rfl))⟩
  f14 := ⟨Tryz.f167.name, by decide, Tryz.func167.trans (congrArg some (by kernel_rfl))⟩
  f15 := ⟨Tryz.f168.name, by decide, Tryz.func168.trans (congrArg some (by kernel_rfl))⟩
  f16 := ⟨Tryz.f169.name, by decide, Tryz.func169.trans (congrArg some (by kernel_rfl))⟩
  f17 := ⟨Tryz.f170.name, by decide, Tryz.func170.trans (congrArg some (by kernel_rfl))⟩
  f18 := ⟨Tryz.f171.name, by decide, Tryz.func171.trans (congrArg some (by kernel_rfl))⟩
  f19 := Tryz.func172.trans (congrArg some (by kernel_rfl))
  f20 := Tryz.func173.trans (congrArg some (by kernel_rfl))
  f30 := ⟨Tryz.f183.name, by decide, Tryz.func183.trans (congrArg some (by kernel_rfl))⟩
  f31 := Tryz.func184.trans (congrArg some (by kernel_rfl))
  f32 := Tryz.func185.trans (congrArg some (by kernel_rfl))
  f33 := ⟨Tryz.f186.name, by decide, Tryz.func186.trans (congrArg some (by kernel_rfl))⟩
  f34 := ⟨Tryz.f187.name, by decide, Tryz.func187.trans (congrArg some (by kernel_rfl))⟩
  f35 := ⟨Tryz.f188.name, by decide, Tryz.func188.trans (congrArg some (by kernel_rfl))⟩
  f40 := ⟨Tryz.f189.name, by decide, Tryz.func189.trans (congrArg some (by kernel_rfl))⟩
  t0 := Tryz.underlying0
  a0 := Tryz.isAgg0
  z0 := Tryz.sizeOf0
  v0 := Tryz.zeroValue0
  t3 := Tryz.underlying3
  a3 := Tryz.isAgg3
  z3 := Tryz.sizeOf3
  v3 := Tryz.zeroValue3
  t4 := Tryz.underlying4
  a4 := Tryz.isAgg4
  z4 := Tryz.sizeOf4
  v4 := Tryz.zeroValue4
  t5 := Tryz.underlying5
  a5 := Tryz.isAgg5
  z5 := Tryz.sizeOf5
  v5 := Tryz.zeroValue5
  t9 := Tryz.underlying9
  a9 := Tryz.isAgg9
  z9 := Tryz.sizeOf9
  v9 := Tryz.zeroValue9
  t22 := Tryz.underlying54
  a22 := Tryz.isAgg54
  z22 := Tryz.sizeOf54
  v22 := Tryz.zeroValue54
  t23 := Tryz.underlying54
  a23 := Tryz.isAgg54
  z23 := Tryz.sizeOf54
  v23 := Tryz.zeroValue54
  t25 := Tryz.underlying3
  a25 := Tryz.isAgg3
  z25 := Tryz.sizeOf3
  v25 := Tryz.zeroValue3
  t32 := Tryz.underlying65
  a32 := Tryz.isAgg65
  z32 := Tryz.sizeOf65
  v32 := Tryz.zeroValue65
  t35 := Tryz.underlying215
  a35 := Tryz.isAgg215
  z35 := Tryz.sizeOf215
  v35 := Tryz.zeroValue215
  t36 := Tryz.underlying216
  a36 := Tryz.isAgg216
  z36 := Tryz.sizeOf216
  v36 := Tryz.zeroValue216
  t41 := Tryz.underlying115
  a41 := Tryz.isAgg115
  z41 := Tryz.sizeOf115
  v41 := Tryz.zeroValue115
  t44 := Tryz.underlying71
  a44 := Tryz.isAgg71
  z44 := Tryz.sizeOf71
  v44 := Tryz.zeroValue71
  t46 := Tryz.underlying75
  a46 := Tryz.isAgg75
  z46 := Tryz.sizeOf75
  v46 := Tryz.zeroValue75
  t53 := Tryz.underlying227
  a53 := Tryz.isAgg227
  z53 := Tryz.sizeOf227
  v53 := Tryz.zeroValue227
  t57 := Tryz.underlying230
  a57 := Tryz.isAgg230
  z57 := Tryz.sizeOf230
  v57 := Tryz.zeroValue230
  t63 := Tryz.underlying232
  a63 := Tryz.isAgg232
  z63 := Tryz.sizeOf232
  v63 := Tryz.zeroValue232
  t64 := Tryz.underlying233
  a64 := Tryz.isAgg233
  z64 := Tryz.sizeOf233
  v64 := Tryz.zeroValue233 }
end Go.Proofs
namespace Go.Proofs.YtdeoankmmolebaaGreat
open Go.RowKit Go.Sort Go.Shelf

theorem sortsA (m : Nat) : AnyZI.SortsIn Tryz.prog Tryz.sortedA_ren Fence.wide m :=
  ⟨fun blk off cap ss W hH hblk hsz => callsIn_wide.2 (AnyM.slices_Sort_int Tryz.sortA blk off cap ss W hH hblk hsz),
   fun p cap W => callsIn_wide.2 (AnyM.slices_Sort_int_none Tryz.sortA p cap W)⟩
theorem codKeys (mb : Option Nat) (W : World) :
    Calls Tryz.prog 115 #[.map mb] W fun e w' => e = .returned (.func (.func 137) #[] #[.pointer (some ⟨W.heap.size, 0, none⟩)]) ∧ w' = W.alloc (.cells #[.map mb] 129) :=
  (callsIn_wide (n := 5)).1 (AnyZI.keys_in Tryz.keysA Fence.wide 5 trivial rfl mb W)
theorem row_isIs {w : World} {base : Nat} {v : Value} {l : Qs} (h : w.ownsRow base 3 1 v l.length ((l.map fun g => (g.1 : Int)).map encZ)) : ∃ a cap, v = .slice a l.length cap ∧ IsIs w a l.length cap l := by
  have hx : ∀ i, i < l.length → ((l.map fun g => (g.1 : Int)).map encZ)[i]? = some (.int .i64 ((nthL l i).1 : Int)) := fun i hi => by
    unfold nthL
    simp [hi, encZ]
  rcases h.2 with ⟨rfl, h0⟩ | ⟨g, cap, cur, rfl, hb, hg, hle, hmax, hsz, htk⟩
  · refine ⟨none, 0, by rw [h0], ⟨rfl, fun hp => absurd hp (by omega)⟩⟩
  · refine ⟨_, cap, rfl, ⟨rfl, fun hp => ⟨g, 0, rfl, ⟨_, _, hg⟩, fun i hi => ?_⟩⟩⟩
    have hc := World.ownsRow.cells (w := w) (base := base) (e := 3) (size := 1) (v := .slice (some ⟨g, 0, none⟩) l.length cap) (n := l.length) (xs := (l.map fun g => (g.1 : Int)).map encZ) ⟨h.1, .inr ⟨g, cap, cur, rfl, hb, hg, hle, hmax, hsz, htk⟩⟩ (g := g) rfl i _ (hx i hi)
    rw [Addr.add_lit] at hc
    exact hc
/-- slices.Sorted of a map's keys -/
theorem codSorted (w : World) (M : Nat) (l : Qs) (h : OwnM w M l) (hs : SortQ l) (h48 : l.length ≤ 48) :
    Calls Tryz.prog 114 #[.func (.func 137) #[] #[.pointer (some ⟨w.heap.size, 0, none⟩)]] (w.alloc (.cells #[.map (some M)] 129)) fun e w' => ∃ a cap, e = .returned (.slice a l.length cap) ∧ IsIs w' a l.length cap l ∧ Below w.heap.size w w' := by
  have hbl := h.lt
  have hseq : SeqGives Fence.wide 2 Tryz.prog 137 #[.pointer (some ⟨w.heap.size, 0, none⟩)] encZ (fun ss => ss.Perm (intKeys (mapD l))) (Maps.size (mapD l)) (w.alloc (.cells #[.map (some M)] 129)) :=
    AnyZI.keys_gives (ρ := Tryz.keysA_ren) { Tryz.keysA with } Fence.wide _ trivial rfl (by omega) w.heap.size M l.length (mapD l) _ (by simp) (by simp) (ownM_on h ((Below.refl _ w).alloc (Nat.le_refl _) _))
  have cS := AnyZI.sorted_in Tryz.sortedA Fence.wide 5 trivial trivial trivial trivial rfl (by omega) (sortsA _) (enters_of Tryz.func136 (by kernel_rfl) rfl) 137 #[.pointer (some ⟨w.heap.size, 0, none⟩)] trivial (enters_of Tryz.func137 (by kernel_rfl) rfl) _ _ (by rw [mapD_size]; unfold maxLen; omega) (by rw [mapD_size]; omega) _ hseq
  change CallsIn _ _ Tryz.prog 114 _ _ _ at cS
  refine ((callsIn_wide (n := 5)).1 cS).mono ?_
  rintro e w' ⟨v, ss, rfl, hS, hrow, _, hb⟩
  have hlen : ss.length = l.length := by
    have := hS.length_eq
    rw [mapD_keys, List.length_map] at this
    exact this
  have hk : ss.mergeSort (fun x y => decide (x ≤ y)) = l.map fun g => (g.1 : Int) := sorted_keys l hs ss hS
  rw [hk, hlen] at hrow
  obtain ⟨a, cap, rfl, hI⟩ := row_isIs hrow
  exact ⟨a, cap, rfl, hI, ((Below.refl _ w).alloc (Nat.le_refl _) _).trans (hb.mono (by simp))⟩
end Go.Proofs.YtdeoankmmolebaaGreat
namespace Go.Proofs.YtdeoankmmolebaaGreat
open Go.RowKit
attribute [local go_sem ↓] zv83

def kc256 : List Value := kcOf (32 : Nat) s256 139

/-- a Hash, in block G, that has taken A -/
def IsH (w : World) (G : Nat) (A : List UInt8) : Prop :=
  ∃ ws buf, ws.length = 8 ∧ Blk w G 183 (rc kc256 ws buf A.length) ∧ Inv mix256L s256.list A A.length ws buf

theorem IsH.on {w w' : World} {G : Nat} {A : List UInt8} (h : IsH w G A) (hb : Below w.heap.size w w') : IsH w' G A := by
  obtain ⟨ws, buf, h1, h2, h3⟩ := h
  exact ⟨ws, buf, h1, h2.on hb, h3⟩
theorem IsH.lt {w : World} {G : Nat} {A : List UInt8} (h : IsH w G A) : G < w.heap.size := by
  obtain ⟨ws, buf, h1, h2, h3⟩ := h
  exact h2.lt

set_option maxRecDepth 20000 in
set_option maxHeartbeats 1000000 in
theorem hNew (w : World) : Calls Tryz.prog 99 #[] w fun e w' => ∃ G, e = .returned (.pointer (some ⟨G, 0, none⟩)) ∧ w.heap.size ≤ G ∧ IsH w' G [] ∧ Below w.heap.size w w' := by
  have hb : Tryz.prog.built 183 [(0, .agg (rc kc256 s256.list (List.replicate 64 0) 0).toArray)] = some (rc kc256 s256.list (List.replicate 64 0) 0).toArray := by kernel_rfl
  go_enter Tryz.func99, Tryz.ntmps99
  go_wp2_with fail
  refine (digKind256 w).mono ?_
  rintro e w1 ⟨rfl, b1⟩
  go_wp2_with fail
  refine (digBegin (32 : Nat) s256 139 w1).mono ?_
  rintro e w2 ⟨rfl, b2⟩
  have t2 : Below w.heap.size w w2 := b1.trans (b2.mono b1.size)
  go_wp2_with (refine list_build rfl 183 _ rfl [(0, .agg (rc kc256 s256.list (List.replicate 64 0) 0).toArray)] (by simp only [List.map_toArray, List.map_cons, List.map_nil]; rfl) (rc kc256 s256.list (List.replicate 64 0) 0).toArray hb ?_)
  go_ret
  exact ⟨w2.heap.size, rfl, t2.size, ⟨s256.list, List.replicate 64 0, rfl, Blk.newAt w2 _ _ _ _ rfl rfl, Inv.start_ _ _ _ _ (List.length_replicate ..)⟩, t2.alloc t2.size _⟩

set_option maxRecDepth 20000 in
set_option maxHeartbeats 1000000 in
theorem hAdd (G : Nat) (A l : List UInt8) (a : Option Addr) (len cap : Nat) (w : World) (h : IsH w G A) (hl : IsB w a len cap l) (hG : 0 < len → ∀ b off, a = some ⟨b, off, none⟩ → b ≠ G) (hn : A.length + len < 9223372036854775808) :
    Calls Tryz.prog 100 #[.pointer (some ⟨G, 0, none⟩), .slice a len cap] w fun e w' => e = .returned (.tuple #[]) ∧ IsH w' G (A ++ l) ∧ w.grownBy w' (some G) := by
  obtain ⟨ws, buf, h8, hb, hi⟩ := h
  have HB : Hid (Blk w G 183 (rc kc256 ws buf A.length)) := hb
  have HI : Hid (Inv mix256L s256.list A A.length ws buf) := hi
  have HL : Hid (IsB w a len cap l) := hl
  have HE : Hid (l.length = len) := hl.len_eq
  have HG : Hid (0 < len → ∀ b off, a = some ⟨b, off, none⟩ → b ≠ G) := hG
  clear hb hi hl hG
  go_enter Tryz.func100, Tryz.ntmps100
  go_wp2_with fail
  refine (digAdd 139 mix256L s256.list mixOK256 kc256 rfl rfl G 183 ws buf A l a len cap w h8 HB.out HI.out HL.out HG.out hn).mono ?_
  rintro e w1 ⟨rfl, ws', buf', h8', hb', hi', hg⟩
  have HN : Hid (IsH w1 G (A ++ l)) := ⟨ws', buf', h8', by rw [List.length_append, HE.out]; exact hb', by rw [List.length_append, HE.out]; exact hi'⟩
  clear hb' hi'
  go_wp2_with fail
  go_end0
  exact ⟨rfl, HN.out, hg⟩

theorem info83' : (Tryz.prog.info? 179).map (·.size) = some 83 := by kernel_rfl

set_option maxRecDepth 20000 in
set_option maxHeartbeats 1000000 in
theorem hSum (G : Nat) (A : List UInt8) (w : World) (h : IsH w G A) (hn : A.length < 4294967296) :
    Calls Tryz.prog 102 #[.pointer (some ⟨G, 0, none⟩)] w fun e w' => ∃ v, e = .returned v ∧ OwnB w' w.heap.size v (sha256L A) ∧ Below w.heap.size w w' := by
  obtain ⟨ws, buf, h8, hb, hi⟩ := h
  have hsz : (Tryz.prog.info? 179).map (·.size) = some (rc kc256 ws buf A.length).toArray.size := by rw [info83', List.size_toArray, rc_length kc256 ws buf A.length rfl h8 hi.size]
  have HI : Hid (Inv mix256L s256.list A A.length ws buf) := hi
  clear hi
  go_enter Tryz.func102, Tryz.ntmps102
  go_wp2_with (refine wpList_load_row rfl 179 _ rfl _ rfl _ _ _ _ hb Tryz.underlying179 rfl hsz ?_)
  refine (digSum 139 mix256L s256.list mixOK256 32 (by omega) kc256 rfl rfl rfl ws buf A w h8 HI.out hn).mono ?_
  rintro e w1 ⟨v, rfl, ho, hb1⟩
  have HO : Hid (OwnB w1 w.heap.size v (sha256L A)) := ho
  clear ho
  go_wp2_with fail
  go_ret
  exact ⟨_, rfl, HO.out, hb1⟩

end Go.Proofs.YtdeoankmmolebaaGreat
