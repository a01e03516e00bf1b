/- The library's contracts at this dump, as the guide's tool lays them. · The keys of a transaction's map, in order. · What digest.New and Hash's Add, Sum do (beside Sha256). -/
import Derived.Shelf.SlGeneric
import Derived.Shelf.SlIterI.Nil
import Derived.Shelf.SortM.Plain
import Derived.Shelf.SortM.SortNone
import Derived.Test.YtacnoagjcacniaaGreatProg
import Derived.Test.YtacnoagjcacniaaGreatB31
import Derived.Test.YtacnoagjcacniaaGreatAdd
import Derived.Test.YtacnoagjcacniaaGreatB12
import Derived.Test.YtacnoagjcacniaaGreatB14
namespace Go.Proofs
open Go.Shelf
def Tryz.keysA_ren : Go.Shelf.Ren := ⟨fun | 7 => 63 | 10 => 92 | n => n, fun | 23 => 84 | 26 => 3 | 3 => 98 | 28 => 129 | 0 => 0 | 27 => 128 | 33 => 100 | 4 => 4 | n => n, fun | n => n⟩
theorem Tryz.keysA : Go.Proofs.SlLaysZI.n7 Tryz.prog Tryz.keysA_ren := {
  mixed := by kernel_rfl
  f7 := ⟨Tryz.f63.name, by decide, Tryz.func63.trans (congrArg some (by kernel_rfl))⟩
  f10 := ⟨Tryz.f92.name, by decide, Tryz.func92.trans (congrArg some (by kernel_rfl))⟩
  t0 := Tryz.underlying0
  a0 := Tryz.isAgg0
  z0 := Tryz.sizeOf0
  v0 := Tryz.zeroValue0
  t4 := Tryz.underlying4
  a4 := Tryz.isAgg4
  z4 := Tryz.sizeOf4
  v4 := Tryz.zeroValue4
  t23 := Tryz.underlying84
  a23 := Tryz.isAgg84
  z23 := Tryz.sizeOf84
  v23 := Tryz.zeroValue84
  t26 := Tryz.underlying3
  a26 := Tryz.isAgg3
  z26 := Tryz.sizeOf3
  v26 := Tryz.zeroValue3
  t27 := Tryz.underlying128
  a27 := Tryz.isAgg128
  z27 := Tryz.sizeOf128
  v27 := Tryz.zeroValue128
  t28 := Tryz.underlying129
  a28 := Tryz.isAgg129
  z28 := Tryz.sizeOf129
  v28 := Tryz.zeroValue129
  t33 := Tryz.underlying100
  a33 := Tryz.isAgg100
  z33 := Tryz.sizeOf100
  v33 := Tryz.zeroValue100 }
def Tryz.sortedA_ren : Go.Shelf.Ren := ⟨fun | 6 => 62 | 8 => 90 | 9 => 91 | 11 => 117 | 13 => 119 | 12 => 118 | 23 => 150 | 24 => 151 | 14 => 141 | 15 => 142 | 16 => 143 | 17 => 144 | 18 => 145 | 19 => 146 | 20 => 147 | 21 => 148 | 22 => 149 | 25 => 161 | 26 => 162 | 27 => 163 | 28 => 164 | 29 => 165 | 30 => 166 | 31 => 170 | n => n, fun | 26 => 3 | 28 => 129 | 24 => 114 | 0 => 0 | 3 => 3 | 37 => 168 | 48 => 72 | 50 => 56 | 4 => 4 | 40 => 200 | 39 => 199 | 45 => 204 | 5 => 5 | 9 => 9 | 51 => 213 | 55 => 216 | 57 => 221 | 58 => 222 | 33 => 100 | n => n, fun | n => n⟩
theorem Tryz.sortedA : Go.Proofs.SlLaysZI.n6 Tryz.prog Tryz.sortedA_ren := {
  mixed := by kernel_rfl
  f6 := ⟨Tryz.f62.name, by decide, Tryz.func62.trans (congrArg some (by kernel_rfl))⟩
  f8 := ⟨Tryz.f90.name, by decide, Tryz.func90.trans (congrArg some (by kernel_rfl))⟩
  f11 := ⟨Tryz.f117.name, by decide, Tryz.func117.trans (congrArg some (by kernel_rfl))⟩
  t0 := Tryz.underlying0
  a0 := Tryz.isAgg0
  z0 := Tryz.sizeOf0
  v0 := Tryz.zeroValue0
  t24 := Tryz.underlying114
  a24 := Tryz.isAgg114
  z24 := Tryz.sizeOf114
  v24 := Tryz.zeroValue114
  t26 := Tryz.underlying3
  a26 := Tryz.isAgg3
  z26 := Tryz.sizeOf3
  v26 := Tryz.zeroValue3
  t28 := Tryz.underlying129
  a28 := Tryz.isAgg129
  z28 := Tryz.sizeOf129
  v28 := Tryz.zeroValue129
  i26 := by kernel_rfl }
def Tryz.sortA_ren : Go.Shelf.Ren := ⟨fun | 5 => 91 | 8 => 119 | 7 => 118 | 19 => 150 | 20 => 151 | 10 => 141 | 11 => 142 | 12 => 143 | 13 => 144 | 14 => 145 | 15 => 146 | 16 => 147 | 17 => 148 | 18 => 149 | 30 => 161 | 31 => 162 | 32 => 163 | 33 => 164 | 34 => 165 | 35 => 166 | 40 => 170 | n => n, fun | 23 => 114 | 25 => 3 | 3 => 3 | 32 => 168 | 22 => 114 | 0 => 0 | 44 => 72 | 46 => 56 | 4 => 4 | 36 => 200 | 35 => 199 | 41 => 204 | 5 => 5 | 9 => 9 | 53 => 213 | 57 => 216 | 63 => 221 | 64 => 222 | n => n, fun | n => n⟩
theorem Tryz.sortA : Go.Proofs.SlLaysM.n5 Tryz.prog Tryz.sortA_ren := {
  mixed := by kernel_rfl
  f5 := ⟨Tryz.f91.name, by decide, Tryz.func91.trans (congrArg some (by kernel_rfl))⟩
  f7 := ⟨Tryz.f118.name, by decide, Tryz.func118.trans (congrArg some (by kernel_rfl))⟩
  f8 := Tryz.func119.trans (congrArg some (by kernel_rfl))
  f10 := ⟨Tryz.f141.name, by decide, Tryz.func141.trans (congrArg some (by kernel_rfl))⟩
  f11 := ⟨Tryz.f142.name, by decide, Tryz.func142.trans (congrArg some (by kernel_rfl))⟩
  f12 := ⟨Tryz.f143.name, by decide, Tryz.func143.trans (congrArg some (by kernel_rfl))⟩
  f13 := ⟨Tryz.f144.name, by decide, Tryz.func144.trans (congrArg some (by kernel_rfl))⟩
  f14 := ⟨Tryz.f145.name, by decide, Tryz.func145.trans (congrArg some (by kernel_rfl))⟩
  f15 := ⟨Tryz.f146.name, by decide, Tryz.func146.trans (congrArg some (by kernel_rfl))⟩
  f16 := ⟨Tryz.f147.name, by decide, Tryz.func147.trans (congrArg some (by kernel_rfl))⟩
  f17 := ⟨Tryz.f148.name, by decide, Tryz.func148.trans (congrArg some (by kernel_rfl))⟩
  f18 := ⟨Tryz.f149.name, by decide, Tryz.func149.trans (congrArg some (by kernel_rfl))⟩
  f19 := Tryz.func150.trans (congrArg some (by kernel_rfl))
  f20 := Tryz.func151.trans (congrArg some (by kernel_rfl))
  f30 := ⟨Tryz.f161.name, by decide, Tryz.func161.trans (congrArg some (by kernel_rfl))⟩
  f31 := Tryz.func162.trans (congrArg some (by kernel_rfl))
  f32 := Tryz.func163.trans (congrArg some (by kernel_rfl))
  f33 := ⟨Tryz.f164.name, by decide, Tryz.func164.trans (congrArg some (by kernel_rfl))⟩
  f34 := ⟨Tryz.f165.name, by decide, Tryz.func165.trans (congrArg some (by kernel_rfl))⟩
  f35 := ⟨Tryz.f166.name, by decide, Tryz.func166.trans (congrArg some (by kernel_rfl))⟩
  f40 := ⟨Tryz.f170.name, by decide, Tryz.func170.trans (congrArg some (by kernel_rfl))⟩
  t0 := Tryz.underlying0
  a0 := Tryz.isAgg0
  z0 := Tryz.sizeOf0
  v0 := Tryz.zeroValue0
  t3 := Tryz.underlying3
  a3 := Tryz.isAgg3
  z3 := Tryz.sizeOf3
  v3 := Tryz.zeroValue3
  t4 := Tryz.underlying4
  a4 := Tryz.isAgg4
  z4 := Tryz.sizeOf4
  v4 := Tryz.zeroValue4
  t5 := Tryz.underlying5
  a5 := Tryz.isAgg5
  z5 := Tryz.sizeOf5
  v5 := Tryz.zeroValue5
  t9 := Tryz.underlying9
  a9 := Tryz.isAgg9
  z9 := Tryz.sizeOf9
  v9 := Tryz.zeroValue9
  t22 := Tryz.underlying114
  a22 := Tryz.isAgg114
  z22 := Tryz.sizeOf114
  v22 := Tryz.zeroValue114
  t23 := Tryz.underlying114
  a23 := Tryz.isAgg114
  z23 := Tryz.sizeOf114
  v23 := Tryz.zeroValue114
  t25 := Tryz.underlying3
  a25 := Tryz.isAgg3
  z25 := Tryz.sizeOf3
  v25 := Tryz.zeroValue3
  t32 := Tryz.underlying168
  a32 := Tryz.isAgg168
  z32 := Tryz.sizeOf168
  v32 := Tryz.zeroValue168
  t35 := Tryz.underlying199
  a35 := Tryz.isAgg199
  z35 := Tryz.sizeOf199
  v35 := Tryz.zeroValue199
  t36 := Tryz.underlying200
  a36 := Tryz.isAgg200
  z36 := Tryz.sizeOf200
  v36 := Tryz.zeroValue200
  t41 := Tryz.underlying204
  a41 := Tryz.isAgg204
  z41 := Tryz.sizeOf204
  v41 := Tryz.zeroValue204
  t44 := Tryz.underlying72
  a44 := Tryz.isAgg72
  z44 := Tryz.sizeOf72
  v44 := Tryz.zeroValue72
  t46 := Tryz.underlying56
  a46 := Tryz.isAgg56
  z46 := Tryz.sizeOf56
  v46 := Tryz.zeroValue56
  t53 := Tryz.underlying213
  a53 := Tryz.isAgg213
  z53 := Tryz.sizeOf213
  v53 := Tryz.zeroValue213
  t57 := Tryz.underlying216
  a57 := Tryz.isAgg216
  z57 := Tryz.sizeOf216
  v57 := Tryz.zeroValue216
  t63 := Tryz.underlying221
  a63 := Tryz.isAgg221
  z63 := Tryz.sizeOf221
  v63 := Tryz.zeroValue221
  t64 := Tryz.underlying222
  a64 := Tryz.isAgg222
  z64 := Tryz.sizeOf222
  v64 := Tryz.zeroValue222 }
end Go.Proofs
namespace Go.Proofs.YtacnoagjcacniaaGreat
open Go.RowKit Go.Sort Go.Shelf

theorem sortsA (m : Nat) : AnyZI.SortsIn Tryz.prog Tryz.sortedA_ren Fence.wide m :=
  ⟨fun blk off cap ss W hH hblk hsz => callsIn_wide.2 (AnyM.slices_Sort_int Tryz.sortA blk off cap ss W hH hblk hsz),
   fun p cap W => callsIn_wide.2 (AnyM.slices_Sort_int_none Tryz.sortA p cap W)⟩
theorem codKeys (mb : Option Nat) (W : World) :
    Calls Tryz.prog 63 #[.map mb] W fun e w' => e = .returned (.func (.func 92) #[] #[.pointer (some ⟨W.heap.size, 0, none⟩)]) ∧ w' = W.alloc (.cells #[.map mb] 84) :=
  (callsIn_wide (n := 5)).1 (AnyZI.keys_in Tryz.keysA Fence.wide 5 trivial rfl mb W)
theorem row_isIs {w : World} {base : Nat} {v : Value} {l : Qs} (h : w.ownsRow base 3 1 v l.length ((l.map fun g => (g.1 : Int)).map encZ)) : ∃ a cap, v = .slice a l.length cap ∧ IsIs w a l.length cap l := by
  have hx : ∀ i, i < l.length → ((l.map fun g => (g.1 : Int)).map encZ)[i]? = some (.int .i64 ((nthL l i).1 : Int)) := fun i hi => by
    unfold nthL
    simp [hi, encZ]
  rcases h.2 with ⟨rfl, h0⟩ | ⟨g, cap, cur, rfl, hb, hg, hle, hmax, hsz, htk⟩
  · refine ⟨none, 0, by rw [h0], ⟨rfl, fun hp => absurd hp (by omega)⟩⟩
  · refine ⟨_, cap, rfl, ⟨rfl, fun hp => ⟨g, 0, rfl, ⟨_, _, hg⟩, fun i hi => ?_⟩⟩⟩
    have hc := World.ownsRow.cells (w := w) (base := base) (e := 3) (size := 1) (v := .slice (some ⟨g, 0, none⟩) l.length cap) (n := l.length) (xs := (l.map fun g => (g.1 : Int)).map encZ) ⟨h.1, .inr ⟨g, cap, cur, rfl, hb, hg, hle, hmax, hsz, htk⟩⟩ (g := g) rfl i _ (hx i hi)
    rw [Addr.add_lit] at hc
    exact hc
/-- slices.Sorted of a map's keys -/
theorem codSorted (w : World) (M : Nat) (l : Qs) (h : OwnM w M l) (hs : SortQ l) (h48 : l.length ≤ 48) :
    Calls Tryz.prog 62 #[.func (.func 92) #[] #[.pointer (some ⟨w.heap.size, 0, none⟩)]] (w.alloc (.cells #[.map (some M)] 84)) fun e w' => ∃ a cap, e = .returned (.slice a l.length cap) ∧ IsIs w' a l.length cap l ∧ Below w.heap.size w w' := by
  have hbl := h.lt
  have hseq : SeqGives Fence.wide 2 Tryz.prog 92 #[.pointer (some ⟨w.heap.size, 0, none⟩)] encZ (fun ss => ss.Perm (intKeys (mapD l))) (Maps.size (mapD l)) (w.alloc (.cells #[.map (some M)] 84)) :=
    AnyZI.keys_gives (ρ := Tryz.keysA_ren) { Tryz.keysA with } Fence.wide _ trivial rfl (by omega) w.heap.size M l.length (mapD l) _ (by simp) (by simp) (ownM_on h ((Below.refl _ w).alloc (Nat.le_refl _) _))
  have cS := AnyZI.sorted_in Tryz.sortedA Fence.wide 5 trivial trivial trivial trivial rfl (by omega) (sortsA _) (enters_of Tryz.func91 (by kernel_rfl) rfl) 92 #[.pointer (some ⟨w.heap.size, 0, none⟩)] trivial (enters_of Tryz.func92 (by kernel_rfl) rfl) _ _ (by rw [mapD_size]; unfold maxLen; omega) (by rw [mapD_size]; omega) _ hseq
  change CallsIn _ _ Tryz.prog 62 _ _ _ at cS
  refine ((callsIn_wide (n := 5)).1 cS).mono ?_
  rintro e w' ⟨v, ss, rfl, hS, hrow, _, hb⟩
  have hlen : ss.length = l.length := by
    have := hS.length_eq
    rw [mapD_keys, List.length_map] at this
    exact this
  have hk : ss.mergeSort (fun x y => decide (x ≤ y)) = l.map fun g => (g.1 : Int) := sorted_keys l hs ss hS
  rw [hk, hlen] at hrow
  obtain ⟨a, cap, rfl, hI⟩ := row_isIs hrow
  exact ⟨a, cap, rfl, hI, ((Below.refl _ w).alloc (Nat.le_refl _) _).trans (hb.mono (by simp))⟩
end Go.Proofs.YtacnoagjcacniaaGreat
namespace Go.Proofs.YtacnoagjcacniaaGreat
open Go.RowKit
attribute [local go_sem ↓] zv83

def kc256 : List Value := kcOf (32 : Nat) s256 153

/-- a Hash, in block G, that has taken A -/
def IsH (w : World) (G : Nat) (A : List UInt8) : Prop :=
  ∃ ws buf, ws.length = 8 ∧ Blk w G 187 (rc kc256 ws buf A.length) ∧ Inv mix256L s256.list A A.length ws buf

theorem IsH.on {w w' : World} {G : Nat} {A : List UInt8} (h : IsH w G A) (hb : Below w.heap.size w w') : IsH w' G A := by
  obtain ⟨ws, buf, h1, h2, h3⟩ := h
  exact ⟨ws, buf, h1, h2.on hb, h3⟩
theorem IsH.lt {w : World} {G : Nat} {A : List UInt8} (h : IsH w G A) : G < w.heap.size := by
  obtain ⟨ws, buf, h1, h2, h3⟩ := h
  exact h2.lt

set_option maxRecDepth 20000 in
set_option maxHeartbeats 1000000 in
theorem hNew (w : World) : Calls Tryz.prog 107 #[] w fun e w' => ∃ G, e = .returned (.pointer (some ⟨G, 0, none⟩)) ∧ w.heap.size ≤ G ∧ IsH w' G [] ∧ Below w.heap.size w w' := by
  have hb : Tryz.prog.built 187 [(0, .agg (rc kc256 s256.list (List.replicate 64 0) 0).toArray)] = some (rc kc256 s256.list (List.replicate 64 0) 0).toArray := by kernel_rfl
  go_enter Tryz.func107, Tryz.ntmps107
  go_wp2_with fail
  refine (digKind256 w).mono ?_
  rintro e w1 ⟨rfl, b1⟩
  go_wp2_with fail
  refine (digBegin (32 : Nat) s256 153 w1).mono ?_
  rintro e w2 ⟨rfl, b2⟩
  have t2 : Below w.heap.size w w2 := b1.trans (b2.mono b1.size)
  go_wp2_with (refine list_build rfl 187 _ rfl [(0, .agg (rc kc256 s256.list (List.replicate 64 0) 0).toArray)] (by simp only [List.map_toArray, List.map_cons, List.map_nil]; rfl) (rc kc256 s256.list (List.replicate 64 0) 0).toArray hb ?_)
  go_ret
  exact ⟨w2.heap.size, rfl, t2.size, ⟨s256.list, List.replicate 64 0, rfl, Blk.newAt w2 _ _ _ _ rfl rfl, Inv.start_ _ _ _ _ (List.length_replicate ..)⟩, t2.alloc t2.size _⟩

set_option maxRecDepth 20000 in
set_option maxHeartbeats 1000000 in
theorem hAdd (G : Nat) (A l : List UInt8) (a : Option Addr) (len cap : Nat) (w : World) (h : IsH w G A) (hl : IsB w a len cap l) (hG : 0 < len → ∀ b off, a = some ⟨b, off, none⟩ → b ≠ G) (hn : A.length + len < 9223372036854775808) :
    Calls Tryz.prog 108 #[.pointer (some ⟨G, 0, none⟩), .slice a len cap] w fun e w' => e = .returned (.tuple #[]) ∧ IsH w' G (A ++ l) ∧ w.grownBy w' (some G) := by
  obtain ⟨ws, buf, h8, hb, hi⟩ := h
  have HB : Hid (Blk w G 187 (rc kc256 ws buf A.length)) := hb
  have HI : Hid (Inv mix256L s256.list A A.length ws buf) := hi
  have HL : Hid (IsB w a len cap l) := hl
  have HE : Hid (l.length = len) := hl.len_eq
  have HG : Hid (0 < len → ∀ b off, a = some ⟨b, off, none⟩ → b ≠ G) := hG
  clear hb hi hl hG
  go_enter Tryz.func108, Tryz.ntmps108
  go_wp2_with fail
  refine (digAdd 153 mix256L s256.list mixOK256 kc256 rfl rfl G 187 ws buf A l a len cap w h8 HB.out HI.out HL.out HG.out hn).mono ?_
  rintro e w1 ⟨rfl, ws', buf', h8', hb', hi', hg⟩
  have HN : Hid (IsH w1 G (A ++ l)) := ⟨ws', buf', h8', by rw [List.length_append, HE.out]; exact hb', by rw [List.length_append, HE.out]; exact hi'⟩
  clear hb' hi'
  go_wp2_with fail
  go_end0
  exact ⟨rfl, HN.out, hg⟩

theorem info83' : (Tryz.prog.info? 183).map (·.size) = some 83 := by kernel_rfl

set_option maxRecDepth 20000 in
set_option maxHeartbeats 1000000 in
theorem hSum (G : Nat) (A : List UInt8) (w : World) (h : IsH w G A) (hn : A.length < 4294967296) :
    Calls Tryz.prog 110 #[.pointer (some ⟨G, 0, none⟩)] w fun e w' => ∃ v, e = .returned v ∧ OwnB w' w.heap.size v (sha256L A) ∧ Below w.heap.size w w' := by
  obtain ⟨ws, buf, h8, hb, hi⟩ := h
  have hsz : (Tryz.prog.info? 183).map (·.size) = some (rc kc256 ws buf A.length).toArray.size := by rw [info83', List.size_toArray, rc_length kc256 ws buf A.length rfl h8 hi.size]
  have HI : Hid (Inv mix256L s256.list A A.length ws buf) := hi
  clear hi
  go_enter Tryz.func110, Tryz.ntmps110
  go_wp2_with (refine wpList_load_row rfl 183 _ rfl _ rfl _ _ _ _ hb Tryz.underlying183 rfl hsz ?_)
  refine (digSum 153 mix256L s256.list mixOK256 32 (by omega) kc256 rfl rfl rfl ws buf A w h8 HI.out hn).mono ?_
  rintro e w1 ⟨v, rfl, ho, hb1⟩
  have HO : Hid (OwnB w1 w.heap.size v (sha256L A)) := ho
  clear ho
  go_wp2_with fail
  go_ret
  exact ⟨_, rfl, HO.out, hb1⟩

end Go.Proofs.YtacnoagjcacniaaGreat
