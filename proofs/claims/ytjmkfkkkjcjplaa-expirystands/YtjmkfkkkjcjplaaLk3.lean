/- Buckets and versions as values; what the program and the document say of a version that is to be deleted, and which retention a bucket gives. -/
import Derived.Test.YtjmkfkkkjcjplaaLk2
import Derived.Test.YtjmkfkkkjcjplaaResCell
import Derived.Test.YtjmkfkkkjcjplaaCodLater
import Derived.Test.YtjmkfkkkjcjplaaRefLater
namespace Go.Proofs.Ytjmkfkkkjcjplaa
open Go.RowKit

/-- a version -/
structure Vs where
  bkt : ByteArray
  key : ByteArray
  id : Nat
  ord : Nat
  mark : Bool
  data : List UInt8
  rm : Int
  ru : Nat
  hold : Bool
  time : Nat
/-- where a version's bytes lie -/
structure VsA where
  ad : Option Addr
  cap : Nat
/-- its cells -/
def vsc (v : Vs) (q : VsA) : List Value := [.string v.bkt, .string v.key, .int .u64 (v.id : Int), .int .u64 (v.ord : Int), .bool v.mark, .slice q.ad v.data.length q.cap, .int .i64 v.rm, .int .u64 (v.ru : Int), .bool v.hold, .int .u64 (v.time : Int)]
/-- a bucket -/
structure Bk where
  name : ByteArray
  ver : Int
  lock : Bool
  mfa : Bool
  dflt : Int
  days : Int
  pol : ByteArray
  exp : Int
  nonc : Int
def bkc (b : Bk) : List Value := [.string b.name, .int .i64 b.ver, .bool b.lock, .bool b.mfa, .int .i64 b.dflt, .int .i64 b.days, .string b.pol, .int .i64 b.exp, .int .i64 b.nonc]
/-- the retention that a bucket gives -/
def defM (b : Bk) (t : Nat) : Int := if b.lock && kpM b.dflt && decide (t < laterN t b.days) then b.dflt else 0
def defU (b : Bk) (t : Nat) : Nat := if b.lock && kpM b.dflt && decide (t < laterN t b.days) then laterN t b.days else 0
attribute [local go_sem] undef
set_option maxHeartbeats 1000000 in
theorem codMayDelete (v : Vs) (q : VsA) (t : Nat) (b : Bool) (w : World) :
    Calls Try.prog 20 #[.agg (vsc v q).toArray, .int .u64 (t : Int), .bool b] w fun e w' => e = .returned (.int .i64 (mayDelK v.hold v.rm v.ru t b)) ∧ Below w.heap.size w w' := by
  have hY : Hid (Below w.heap.size w (w.alloc (.cells #[.string v.bkt, .string v.key, .int .u64 (v.id : Int), .int .u64 (v.ord : Int), .bool v.mark, .slice q.ad v.data.length q.cap, .int .i64 v.rm, .int .u64 (v.ru : Int), .bool v.hold, .int .u64 (v.time : Int)] 37))) := (Below.refl _ w).alloc (Nat.le_refl _) _
  have kb := mkHid (Blk.new w 37 [.string v.bkt, .string v.key, .int .u64 (v.id : Int), .int .u64 (v.ord : Int), .bool v.mark, .slice q.ad v.data.length q.cap, .int .i64 v.rm, .int .u64 (v.ru : Int), .bool v.hold, .int .u64 (v.time : Int)])
  obtain ⟨bkt, key, id, ord, mark, data, rm, ru, hold, time⟩ := v
  obtain ⟨qa, qc⟩ := q
  have HS := codStands rm ru t b
  unfold mayDelK
  simp only [vsc] at *
  generalize standsK rm ru t b = S at *
  cases hold
  · go_enter Try.func20, Try.ntmps20
    go_wp2_with fail
    generalize World.alloc _ _ = y at *
    refine (HS _).mono ?_
    rintro e y1 ⟨rfl, hb⟩
    have h1 := mkHid (hY.out.trans (hb.mono hY.out.size))
    have c6 := (kb.out.on hb).cell 6
    clear hb hY HS
    simp only [List.getElem?_cons_zero, List.getElem?_cons_succ] at c6
    cases S
    · go_wp2_with fail
      all_goals go_ret
      all_goals exact ⟨ret_i (by simp_all), h1.out⟩
    · go_wp2_with fail
      all_goals go_ret
      all_goals exact ⟨ret_i (by simp_all), h1.out⟩
  · clear HS
    go_enter Try.func20, Try.ntmps20
    go_wp2_with fail
    go_ret
    exact ⟨rfl, hY.out⟩
set_option maxHeartbeats 1000000 in
theorem refMayDelete (v : Vs) (q : VsA) (t : Nat) (b : Bool) (w : World) :
    Calls Try.prog 16 #[.agg (vsc v q).toArray, .int .u64 (t : Int), .bool b] w fun e w' => e = .returned (.int .i64 (mayDelK v.hold v.rm v.ru t b)) ∧ Below w.heap.size w w' := by
  have hY : Hid (Below w.heap.size w (w.alloc (.cells #[.string v.bkt, .string v.key, .int .u64 (v.id : Int), .int .u64 (v.ord : Int), .bool v.mark, .slice q.ad v.data.length q.cap, .int .i64 v.rm, .int .u64 (v.ru : Int), .bool v.hold, .int .u64 (v.time : Int)] 37))) := (Below.refl _ w).alloc (Nat.le_refl _) _
  have kb := mkHid (Blk.new w 37 [.string v.bkt, .string v.key, .int .u64 (v.id : Int), .int .u64 (v.ord : Int), .bool v.mark, .slice q.ad v.data.length q.cap, .int .i64 v.rm, .int .u64 (v.ru : Int), .bool v.hold, .int .u64 (v.time : Int)])
  obtain ⟨bkt, key, id, ord, mark, data, rm, ru, hold, time⟩ := v
  obtain ⟨qa, qc⟩ := q
  have HS := refActive rm ru t
  unfold mayDelK standsK
  simp only [vsc] at *
  generalize activeK rm ru t = S at *
  cases hold
  · go_enter Try.func16, Try.ntmps16
    go_wp2_with fail
    generalize World.alloc _ _ = y at *
    refine (HS _).mono ?_
    rintro e y1 ⟨rfl, hb⟩
    have h1 := mkHid (hY.out.trans (hb.mono hY.out.size))
    have c6 := (kb.out.on hb).cell 6
    clear hb hY HS
    simp only [List.getElem?_cons_zero, List.getElem?_cons_succ] at c6
    cases S
    · go_wp2_with fail
      all_goals go_ret
      all_goals exact ⟨ret_i (by simp_all), h1.out⟩
    · go_wp2_with fail
      all_goals go_ret
      all_goals exact ⟨ret_i (by simp_all), h1.out⟩
  · clear HS
    go_enter Try.func16, Try.ntmps16
    go_wp2_with fail
    go_ret
    exact ⟨rfl, hY.out⟩
end Go.Proofs.Ytjmkfkkkjcjplaa
