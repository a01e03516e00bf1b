/- DelA DelI -/
import Derived.Test.YtpecobmfabmpkaaGreatDoorM28
set_option maxRecDepth 20000
set_option maxHeartbeats 4000000
namespace Go.Proofs.YtpecobmfabmpkaaGreatDoor
open Go.RowKit
variable {α:Type} {R:RT α}
theorem row_turn (ok:RtOK R){w:World}{base g cap:Nat}{cur:Array Value}(hb:base≤g)(hg:w.heap[g]?=some (.cells cur R.E (0,0)))(hmax:cap≤maxLen)(l:List α)(rest:List Value)(hle:l.length≤cap)(hr:(cellsC R l).length+rest.length=cap * R.k):
  OwnRw R (w.setRow g (cellsC R l++rest).toArray) base (.slice (some ⟨g,0,none⟩) l.length cap) l∧w.grownBy (w.setRow g (cellsC R l++rest).toArray) (some g):=by
 refine⟨OwnRw.mk ok hb (setRow_heap w g cur _ R.E _ hg) hle hmax (by rw[List.size_toArray,List.length_append];exact hr) ?_,⟨rfl,rfl,rfl,by simp[World.setRow],fun k _ hk=>setRow_other w g k _ (fun e=>hk (by rw[e]))⟩⟩
 rw[List.toList_toArray,List.take_left' (cellsC_length ok l)]
theorem row_less (ok:RtOK R){w:World}{base g cap n:Nat}{l:List α}(h:OwnRw R w base (.slice (some ⟨g,0,none⟩) n cap) l)(i:Nat)(hi:i<n)(ty:TypeId):
  ∃w',(Builtin.append_ #[R.S,R.S] ty #[.slice (some ⟨g,0,none⟩) i cap,.slice (cutC R (some ⟨g,0,none⟩) cap (i+1)) (n-(i+1)) (cap-(i+1))]).run Tryz.prog w=.ok (.slice (some ⟨g,0,none⟩) (n-1) cap) w'∧OwnRw R w' base (.slice (some ⟨g,0,none⟩) (n-1) cap) (l.take i++l.drop (i+1))∧w.grownBy w' (some g):=by
 obtain⟨i0,hif,hz0,hz1,hz2⟩:=info_parts ok.hi
 have hs:=(OwnRw.src ok h).tail ok (i+1) hi
 obtain⟨cur,hb,hg,hn,hle,hmax,hsz,htk⟩:=h.cur
 subst hn
 have hs:=hs hle
 have hcl:cur.toList.length=cur.size:=Array.length_toList
 have hll:(l.take i++l.drop (i+1)).length=l.length-1:=by rw[List.length_append,List.length_take,List.length_drop];omega
 have hDl:(cellsC R (l.drop (i+1))).length=(l.length-(i+1)) * R.k:=by rw[cellsC_length ok,List.length_drop]
 have hA:cur.toList.take (i * R.k)=cellsC R (l.take i):=by
  rw[cellsC_take ok,←htk,List.take_take,Nat.min_eq_left]
  exact Nat.mul_le_mul_right _ (by omega)
 have hk1:l.length * R.k≤cap * R.k:=Nat.mul_le_mul_right _ hle
 have hsum:i * R.k+(l.length-(i+1)) * R.k+R.k=l.length * R.k:=by rw[←Nat.add_mul,←Nat.succ_mul];congr 1;omega
 obtain⟨ad,had⟩:∃ad,cutC R (some ⟨g,0,none⟩) cap (i+1)=some ad:=by unfold cutC;split<;>exact⟨_,rfl⟩
 rw[had] at hs ⊢
 have hr:=run_append_room (P:=Tryz.prog) w R.S ty R.E i0 ok.hu hif g i cap cur hg ad (l.length-(i+1)) (cap-(i+1)) (cellsC R (l.drop (i+1))) (by rw[hz1];exact hDl) (hs.cells ad rfl) (cellsC_one ok _) (by omega) (by rw[hz1,hDl,hsz];omega)
 rw[hz1,show i+(l.length-(i+1))=l.length-1 by omega,hA,←cellsC_append] at hr
 refine⟨_,hr,?_⟩
 rw[←hll]
 refine row_turn ok hb hg hmax _ _ (by rw[hll];omega) ?_
 rw[cellsC_length ok,hll,List.length_drop,hcl,hsz,hDl,show i * R.k+(l.length-(i+1)) * R.k=(l.length-1) * R.k by rw[←Nat.add_mul];congr 1;omega]
 have:(l.length-1) * R.k≤cap * R.k:=Nat.mul_le_mul_right _ (by omega)
 omega
theorem row_app1 (ok:RtOK R){w:World}{base g cap n B:Nat}{l:List α}{x:α}(h:OwnRw R w base (.slice (some ⟨g,0,none⟩) n cap) l)(i:Nat)(hi:i<n)(hB:Blk w B R.E (R.c x))(ty:TypeId):
  ∃w',(Builtin.append_ #[R.S,R.S] ty #[.slice (some ⟨g,0,none⟩) i cap,.slice (some ⟨B,0,none⟩) 1 1]).run Tryz.prog w=.ok (.slice (some ⟨g,0,none⟩) (i+1) cap) w'∧OwnRw R w' base (.slice (some ⟨g,0,none⟩) (i+1) cap) (l.take i++[x])∧w.grownBy w' (some g):=by
 obtain⟨i0,hif,hz0,hz1,hz2⟩:=info_parts ok.hi
 obtain⟨cur,hb,hg,hn,hle,hmax,hsz,htk⟩:=h.cur
 subst hn
 have hcl:cur.toList.length=cur.size:=Array.length_toList
 have hll:(l.take i++[x]).length=i+1:=by rw[List.length_append,List.length_take];simp;omega
 have hA:cur.toList.take (i * R.k)=cellsC R (l.take i):=by
  rw[cellsC_take ok,←htk,List.take_take,Nat.min_eq_left]
  exact Nat.mul_le_mul_right _ (by omega)
 have hXl:(R.c x).length=R.k:=ok.len x
 have hi1:(i+1) * R.k=i * R.k+R.k:=Nat.succ_mul _ _
 have hk2:(i+1) * R.k≤cap * R.k:=Nat.mul_le_mul_right _ (by omega)
 have hcx:cellsC R [x]=R.c x:=by simp[cellsC]
 have hr:=run_append_room (P:=Tryz.prog) w R.S ty R.E i0 ok.hu hif g i cap cur hg ⟨B,0,none⟩ 1 1 (R.c x) (by rw[hz1,hXl,Nat.one_mul]) (fun j u hu=>by rw[Addr.add_lit,Nat.zero_add,hB.cell];exact hu) (ok.one x) (by omega) (by rw[hz1,hXl,hsz];omega)
 rw[hz1,hA,←hcx,←cellsC_append] at hr
 refine⟨_,hr,?_⟩
 rw[←hll]
 refine row_turn ok hb hg hmax _ _ (by rw[hll];omega) ?_
 rw[cellsC_length ok,hll,List.length_drop,hcl,hsz,hcx,hXl]
 omega
theorem row_wipe (ok:RtOK R){w:World}{base g cap n:Nat}{l:List α}{zs:List Value}(hzc:(Builtin.zeroCells R.z.cells 1).toList=zs)(hzl:zs.length=R.k)(hz1:∀v∈zs,v.oneCell'=true)(h:OwnRw R w base (.slice (some ⟨g,0,none⟩) n cap) l)(hc:n<cap)(c:Nat)(ty:TypeId):
  ∃w',(Builtin.clear_ #[R.S] ty #[.slice (some ⟨g,n * R.k,none⟩) 1 c]).run Tryz.prog w=.ok (.tuple #[]) w'∧OwnRw R w' base (.slice (some ⟨g,0,none⟩) n cap) l∧w.grownBy w' (some g):=by
 obtain⟨i0,hif,hi0,hi1,hi2⟩:=info_parts ok.hi
 obtain⟨cur,hb,hg,hn,hle,hmax,hsz,htk⟩:=h.cur
 subst hn
 have hcl:cur.toList.length=cur.size:=Array.length_toList
 have hk1:(l.length+1) * R.k≤cap * R.k:=Nat.mul_le_mul_right _ hc
 have hn1:(l.length+1) * R.k=l.length * R.k+R.k:=Nat.succ_mul _ _
 have hst:=run_storeCells_at Tryz.prog g (l.length * R.k) R.E zs 0 cur w hg (by rw[hsz,hzl];omega) hz1
 have hrun:(Builtin.clear_ #[R.S] ty #[.slice (some ⟨g,l.length * R.k,none⟩) 1 c]).run Tryz.prog w=.ok (.tuple #[]) (w.setRow g (cur.toList.take (l.length * R.k+0)++zs++cur.toList.drop (l.length * R.k+0+zs.length)).toArray):=by
  simp[Builtin.clear_,run_underlying ok.hu,zeroValue,typeInfo,hif,hi0,hzc,hst,Result.andThen]
 rw[Nat.add_zero,htk] at hrun
 rw[List.append_assoc] at hrun
 refine⟨_,hrun,?_⟩
 refine row_turn ok hb hg hmax _ _ hle ?_
 rw[cellsC_length ok,List.length_append,List.length_drop,hcl,hsz,hzl]
 omega
theorem row_set1 (ok:RtOK R){w:World}{base g cap n B:Nat}{l:List α}{x:α}(h:OwnRw R w base (.slice (some ⟨g,0,none⟩) n cap) l)(i:Nat)(hi:i<n)(hB:Blk w B R.E (R.c x))(m:Nat)(hm:1≤m)(c:Nat)(ty:TypeId):
  ∃w',(Builtin.copy_ #[R.S,R.S] ty #[.slice (cutC R (some ⟨g,0,none⟩) cap i) m c,.slice (some ⟨B,0,none⟩) 1 1]).run Tryz.prog w=.ok (goInt (1:Nat)) w'∧OwnRw R w' base (.slice (some ⟨g,0,none⟩) n cap) (l.take i++x::l.drop (i+1))∧w.grownBy w' (some g):=by
 obtain⟨cur,hb,hg,hn,hle,hmax,hsz,htk⟩:=h.cur
 subst hn
 have hcl:cur.toList.length=cur.size:=Array.length_toList
 have hll:(l.take i++x::l.drop (i+1)).length=l.length:=by rw[List.length_append,List.length_cons,List.length_take,List.length_drop];omega
 have hA:cur.toList.take (i * R.k)=cellsC R (l.take i):=by
  rw[cellsC_take ok,←htk,List.take_take,Nat.min_eq_left]
  exact Nat.mul_le_mul_right _ (by omega)
 have hXl:(R.c x).length=R.k:=ok.len x
 have hi1:(i+1) * R.k=i * R.k+R.k:=Nat.succ_mul _ _
 have hk2:(i+1) * R.k≤l.length * R.k:=Nat.mul_le_mul_right _ (by omega)
 have hk3:l.length * R.k≤cap * R.k:=Nat.mul_le_mul_right _ hle
 rw[cutC_some (by omega)]
 have r2:=run_copy_k ok w ty g (i * R.k) m c ⟨B,0,none⟩ 1 1 1 cur R.E (R.c x) hg (by show _=min _ _;omega) (by rw[hXl,Nat.one_mul]) (fun j v hv=>by rw[Addr.add_lit,Nat.zero_add,hB.cell];exact hv) (by rw[hsz,hXl];omega) (ok.one x)
 have hD:cur.toList.drop ((i+1) * R.k)=cellsC R (l.drop (i+1))++cur.toList.drop (l.length * R.k):=by
  rw[cellsC_drop ok,←htk]
  have e:=List.take_append_drop (l.length * R.k) cur.toList
  conv=>lhs;rw[←e]
  rw[List.drop_append_of_le_length (by rw[List.length_take,hcl,hsz];omega)]
 rw[hXl,←hi1,hA,hD,show cellsC R (l.take i)++R.c x++(cellsC R (l.drop (i+1))++cur.toList.drop (l.length * R.k))=cellsC R (l.take i++x::l.drop (i+1))++cur.toList.drop (l.length * R.k) by rw[cellsC_append,cellsC];simp only[List.append_assoc]] at r2
 refine⟨_,r2,?_⟩
 have:=row_turn ok hb hg hmax (l.take i++x::l.drop (i+1)) (cur.toList.drop (l.length * R.k)) (by rw[hll];exact hle) (by rw[cellsC_length ok,hll,List.length_drop,hcl,hsz];omega)
 rw[hll] at this
 exact this
theorem row_back (ok:RtOK R){w:World}{base g cap n:Nat}{l:List α}(h:OwnRw R w base (.slice (some ⟨g,0,none⟩) n cap) l)(i:Nat)(hi:i+1<n)(ty:TypeId):
  ∃w',(Builtin.copy_ #[R.S,R.S] ty #[.slice (cutC R (some ⟨g,0,none⟩) cap i) (n-1-i) (cap-i),.slice (cutC R (some ⟨g,0,none⟩) cap (i+1)) (n-(i+1)) (cap-(i+1))]).run Tryz.prog w=.ok (goInt (n-(i+1):Nat)) w'∧OwnRw R w' base (.slice (some ⟨g,0,none⟩) (n-1) cap) (l.take i++l.drop (i+1))∧w.grownBy w' (some g):=by
 obtain⟨cur,hb,hg,hn,hle,hmax,hsz,htk⟩:=h.cur
 subst hn
 have hcl:cur.toList.length=cur.size:=Array.length_toList
 have hll:(l.take i++l.drop (i+1)).length=l.length-1:=by rw[List.length_append,List.length_take,List.length_drop];omega
 have hDl:(cellsC R (l.drop (i+1))).length=(l.length-(i+1)) * R.k:=by rw[cellsC_length ok,List.length_drop]
 have hA:cur.toList.take (i * R.k)=cellsC R (l.take i):=by
  rw[cellsC_take ok,←htk,List.take_take,Nat.min_eq_left]
  exact Nat.mul_le_mul_right _ (by omega)
 have hk3:l.length * R.k≤cap * R.k:=Nat.mul_le_mul_right _ hle
 have hsum:i * R.k+(l.length-(i+1)) * R.k+R.k=l.length * R.k:=by rw[←Nat.add_mul,←Nat.succ_mul];congr 1;omega
 rw[cutC_some (by omega),cutC_some (by omega)]
 have r1:=run_copy_k ok w ty g (i * R.k) (l.length-1-i) (cap-i) ⟨g,(i+1) * R.k,none⟩ (l.length-(i+1)) (cap-(i+1)) (l.length-(i+1)) cur R.E (cellsC R (l.drop (i+1))) hg (by show _=min _ _;omega) hDl (cells_mid ok hg htk) (by rw[hDl,hsz];omega) (cellsC_one ok _)
 rw[hA,←cellsC_append] at r1
 refine⟨_,r1,?_⟩
 rw[←hll]
 refine row_turn ok hb hg hmax _ _ (by rw[hll];omega) ?_
 rw[cellsC_length ok,hll,List.length_drop,hcl,hsz,hDl,show i * R.k+(l.length-(i+1)) * R.k=(l.length-1) * R.k by rw[←Nat.add_mul];congr 1;omega]
 have:(l.length-1) * R.k≤cap * R.k:=Nat.mul_le_mul_right _ (by omega)
 omega
end Go.Proofs.YtpecobmfabmpkaaGreatDoor
namespace Go.Proofs.YtpecobmfabmpkaaGreatDoor
open Go.RowKit
theorem slBI (a:Option Addr)(n cap f t:Nat)(h1:f≤t)(h2:t≤cap)(w:World):(Instr.slice 58 (.slice a n cap) (some (.int .i64 (f:Int))) (some (.int .i64 (t:Int))) none).run Tryz.prog w=.ok (.slice (cutC rtI13 a cap f) (t-f) (cap-f)) w:=by
 have he:Tryz.prog.elem 58=3:=by kernel_rfl
 have hz:(sizeOf 3).run Tryz.prog w=.ok 1 w:=by
  obtain⟨i0,hi,hz0,hz1,hz2⟩:=info_parts okI13.hi
  simp[sizeOf,typeInfo,hi,hz1]
 rw[run_slice_lh w 58 _ n cap (by rw[he];exact Tryz.underlying58) .i64 .i64 (f:Int) (t:Int) (by omega) (by omega) (by omega),he,hz]
 simp only[Result.andThen,sliced,Int.toNat_natCast,cutC]
theorem slMI (a:Option Addr)(n cap f t:Nat)(h1:f≤t)(h2:t≤n)(h3:n≤cap)(w:World):∃v,(Instr.slice 58 (.slice a n cap) (some (.int .i64 (f:Int))) (some (.int .i64 (t:Int))) (some (.int .i64 (n:Int)))).run Tryz.prog w=.ok v w:=by
 have he:Tryz.prog.elem 58=3:=by kernel_rfl
 have hz:(sizeOf 3).run Tryz.prog w=.ok 1 w:=by
  obtain⟨i0,hi,hz0,hz1,hz2⟩:=info_parts okI13.hi
  simp[sizeOf,typeInfo,hi,hz1]
 rw[run_slice_lhm w 58 _ n cap (by rw[he];exact Tryz.underlying58) .i64 .i64 .i64 (f:Int) (t:Int) (n:Int) (by omega) (by omega) (by omega) (by omega),he,hz]
 exact⟨_,rfl⟩
theorem wipeI {w:World}{base g cap n:Nat}{l:List Int}(h:OwnRw rtI13 w base (.slice (some ⟨g,0,none⟩) n cap) l)(hc:n<cap)(c:Nat)(ty:TypeId):
  ∃w',(Builtin.clear_ #[58] ty #[.slice (some ⟨g,n,none⟩) 1 c]).run Tryz.prog w=.ok (.tuple #[]) w'∧OwnRw rtI13 w' base (.slice (some ⟨g,0,none⟩) n cap) l∧w.grownBy w' (some g):=by
 have:=row_wipe okI13 (zs:=[.int .i64 0]) (by kernel_rfl) rfl (by intro v hv;simp at hv;subst hv;rfl) h hc c ty
 rwa [show n * rtI13.k=n from Nat.mul_one n] at this
theorem cutI {g cap j:Nat}(h:j<cap):cutC rtI13 (some ⟨g,0,none⟩) cap j=some ⟨g,j,none⟩:=by
 rw[cutC_some h,show j * rtI13.k=j from Nat.mul_one j]
theorem codDeleteI (w:World)(base g cap n i i1:Nat)(hi1:i+1=i1)(L:List Int)(h:OwnRw rtI13 w base (.slice (some ⟨g,0,none⟩) n cap) L)(hi:i<n)(hb:n≤1000):
  Calls Tryz.prog 149 #[.slice (some ⟨g,0,none⟩) n cap,.int .i64 (i:Int),.int .i64 (i1:Int)] w fun e w'=>e=.returned (.slice (some ⟨g,0,none⟩) (n-1) cap)∧OwnRw rtI13 w' base (.slice (some ⟨g,0,none⟩) (n-1) cap) (L.take i++L.drop (i+1))∧w.grownBy w' (some g):=by
 have hc:n≤cap:=by obtain⟨_,_,_,_,hc,_,_,_⟩:=h.cur;exact hc
 have hm:=slMI (some ⟨g,0,none⟩) n cap i i1 (by omega) (by omega) hc
 obtain⟨vm,hvm⟩:=hm w
 obtain⟨Y2,hr2,hO2,hg2⟩:=row_less okI13 (h.on (Below.drew (Below.refl _ w))) i hi 58
 obtain⟨n1,hn1⟩:∃n1,n-1=n1:=⟨_,rfl⟩
 rw[hn1,hi1] at hr2
 rw[hn1] at hO2 ⊢
 obtain⟨Y3,hr3,hO3,hg3⟩:=wipeI hO2 (by omega) (cap-n1) 0
 have hsh:∀W,(Instr.slice 58 (.slice (some ⟨g,0,none⟩) n cap) none (some (.int .i64 (i:Int))) none).run Tryz.prog W=.ok (.slice (some ⟨g,0,none⟩) i cap) W:=fun W=>slHC okI13 (some ⟨g,0,none⟩) n cap i (by omega) W
 have hsl:∀W,(Instr.slice 58 (.slice (some ⟨g,0,none⟩) n cap) (some (.int .i64 (i1:Int))) none none).run Tryz.prog W=.ok (.slice (cutC rtI13 (some ⟨g,0,none⟩) cap i1) (n-i1) (cap-i1)) W:=fun W=>slLC okI13 (some ⟨g,0,none⟩) n cap i1 (by omega) W
 have hsb:=fun W=>slBI (some ⟨g,0,none⟩) n1 cap n1 n (by omega) hc W
 rw[cutI (by omega),show n-n1=1 by omega] at hsb
 have HG:Hid (w.grownBy Y3 (some g)):=by
  have h0:w.grownBy w.drew (some g):=⟨rfl,rfl,rfl,Nat.le_refl _,fun _ _ _=>rfl⟩
  exact grown_tr (grown_tr h0 hg2) hg3
 have HO3:=mkHid hO3
 have HR2:=mkHid hr2
 have HR3:=mkHid hr3
 have hne:¬(i:Int)=(i1:Int):=by omega
 clear hm hO2 hg2 hg3 hO3 hr2 hr3 h hi1 hn1
 generalize cutC rtI13 (some ⟨g,0,none⟩) cap i1=ca at *
 generalize L.take i++L.drop (i+1)=L' at *
 generalize n-i1=m1 at *
 generalize cap-i1=m2 at *
 go_enter Tryz.func149,Tryz.ntmps149
 go_wp2_with fail
 refine lk0 (fun _=>True) 7 trivial (fun hHeld=>?_)
 refine lkT 20 0 ?_ rfl (Or.inl ⟨by rfl,?_⟩) hHeld ?_
 rotate_left
 ·intro w hSw;go_simp;with_reducible rfl
 (try simp only[Act.put,sIx,sZ0,sZ1])
 refine lkT 21 1 ?_ rfl (Or.inl ⟨by rfl,?_⟩) hHeld ?_
 rotate_left
 ·intro w hSw;go_simp;with_reducible rfl
 (try simp only[Act.put,sIx,sZ0,sZ1])
 refine lkT 22 2 (.slice (some ⟨g,0,none⟩) i cap) rfl (Or.inl ⟨by rfl,?_⟩) hHeld ?_
 ·intro w hSw;go_simp
 (try simp only[Act.put,sIx,sZ0,sZ1])
 refine lkT 23 3 ?_ rfl (Or.inl ⟨by rfl,?_⟩) hHeld ?_
 rotate_left
 ·intro w hSw;go_simp;with_reducible rfl
 (try simp only[Act.put,sIx,sZ0,sZ1])
 refine lkT 24 4 ?_ rfl (Or.inl ⟨by rfl,?_⟩) hHeld ?_
 rotate_left
 ·intro w hSw;go_simp;with_reducible rfl
 (try simp only[Act.put,sIx,sZ0,sZ1])
 refine lkT 25 5 (.slice ca m1 m2) rfl (Or.inl ⟨by rfl,?_⟩) hHeld ?_
 ·intro w hSw;go_simp
 (try simp only[Act.put,sIx,sZ0,sZ1])
 refine lk1 6 rfl (fun K hK=>?_)
 refine step_app_run w.drew (by rfl) _ _ 58 58 58 (by rfl) (by rfl) _ _ (by rfl) (by rfl) HR2.out 26 rfl ?_
 refine hK.out _ _ trivial (fun hHeld=>?_)
 (try simp only[Act.put,sIx,sZ0,sZ1])
 clear hK K
 refine lkZ rfl (fun K hK=>?_)
 go_simp
 refine hK.out _ _ ?_
 simp only[Exit.then]
 (try simp only[Act.put,sIx,sZ0,sZ1])
 clear hK K hHeld
 have hr3:=HR3.out
 go_wp2_with fail
 go_ret
 exact⟨rfl,HO3.out,HG.out⟩
theorem codReplaceI (w:World)(base g cap n i i2 B:Nat)(hi2:i+2=i2)(L:List Int)(x:Int)(h:OwnRw rtI13 w base (.slice (some ⟨g,0,none⟩) n cap) L)(hB:Blk w B 3 [.int .i64 x])(hi:i2≤n)(hb:n≤1000):
  Calls Tryz.prog 186 #[.slice (some ⟨g,0,none⟩) n cap,.int .i64 (i:Int),.int .i64 (i2:Int),.slice (some ⟨B,0,none⟩) 1 1] w fun e w'=>e=.returned (.slice (some ⟨g,0,none⟩) (n-1) cap)∧OwnRw rtI13 w' base (.slice (some ⟨g,0,none⟩) (n-1) cap) (L.take i++x::L.drop (i+2))∧w.grownBy w' (some g):=by
 have hLn:L.length=n:=by obtain⟨_,_,_,hn,_⟩:=h.cur;exact hn.symm
 have hc:n≤cap:=by obtain⟨_,_,_,_,hc,_,_,_⟩:=h.cur;exact hc
 have hsb:=fun W=>slBI (some ⟨g,0,none⟩) n cap i i2 (by omega) (by omega) W
 have hn0:((i:Int)==(i2:Int))=false:=by rw[beq_eq_false_iff_ne];omega
 obtain⟨n1,hn1⟩:∃n1,n-1=n1:=⟨_,rfl⟩
 have h0:w.grownBy w.drew (some g):=⟨rfl,rfl,rfl,Nat.le_refl _,fun _ _ _=>rfl⟩
 by_cases hlast:i2=n
 ·subst hlast
  obtain⟨Y2,hr2,hO2,hg2⟩:=row_app1 okI13 h i (by omega) hB 58
  obtain⟨Y3,hr3,hO3,hg3⟩:=wipeI hO2 (by omega) (cap-(i+1)) 0
  have hl:L.take i++x::L.drop (i+2)=L.take i++[x]:=by rw[List.drop_of_length_le (by omega)]
  rw[hl,show i2-1=i+1 by omega]
  have hsh:∀W,(Instr.slice 58 (.slice (some ⟨g,0,none⟩) i2 cap) none (some (.int .i64 (i:Int))) none).run Tryz.prog W=.ok (.slice (some ⟨g,0,none⟩) i cap) W:=fun W=>slHC okI13 (some ⟨g,0,none⟩) i2 cap i (by omega) W
  have hsl:∀W,(Instr.slice 58 (.slice (some ⟨g,0,none⟩) i2 cap) (some (.int .i64 ((i:Int)+1))) none none).run Tryz.prog W=.ok (.slice (some ⟨g,i+1,none⟩) 1 (cap-(i+1))) W:=fun W=>by
   have:=slLC okI13 (some ⟨g,0,none⟩) i2 cap (i+1) (by omega) W
   rw[cutI (by omega),show i2-(i+1)=1 by omega] at this
   exact this
  have hlt:decide ((i:Int)+1<(i2:Int))=true:=decide_eq_true (by omega)
  have HG:Hid (w.grownBy Y3 (some g)):=grown_tr hg2 hg3
  have HO3:=mkHid hO3
  have HR2:=mkHid hr2
  have HR3:=mkHid hr3
  have hlt2:i+1<i2:=by omega
  clear hO2 hg2 hg3 hO3 hr2 hr3 h hl hB hLn hn1 h0
  generalize L.take i++[x]=L' at *
  go_enter Tryz.func186,Tryz.ntmps186
  go_upto_region 6 with(refine list_app_run _ rfl _ _ _ _ _ rfl rfl _ _ rfl rfl HR2.out ?_)
  have hr3:=HR3.out
  go_wp2_with fail
  go_ret
  exact⟨rfl,HO3.out,HG.out⟩
 ·obtain⟨q,hq⟩:∃q,n-i2=q:=⟨_,rfl⟩
  have hsh:∀W,(Instr.slice 58 (.slice (some ⟨g,0,none⟩) n cap) none (some (.int .i64 (i:Int))) none).run Tryz.prog W=.ok (.slice (some ⟨g,0,none⟩) i cap) W:=fun W=>slHC okI13 (some ⟨g,0,none⟩) n cap i (by omega) W
  have hsl:∀W,(Instr.slice 58 (.slice (some ⟨g,0,none⟩) n cap) (some (.int .i64 (i2:Int))) none none).run Tryz.prog W=.ok (.slice (some ⟨g,i2,none⟩) q (cap-i2)) W:=fun W=>by
   have:=slLC okI13 (some ⟨g,0,none⟩) n cap i2 (by omega) W
   rw[cutI (by omega),hq] at this
   exact this
  have hsh1:∀W,(Instr.slice 58 (.slice (some ⟨g,0,none⟩) n cap) none (some (.int .i64 (n1:Int))) none).run Tryz.prog W=.ok (.slice (some ⟨g,0,none⟩) n1 cap) W:=fun W=>slHC okI13 (some ⟨g,0,none⟩) n cap n1 (by omega) W
  have hsl1:∀W,(Instr.slice 58 (.slice (some ⟨g,0,none⟩) n1 cap) (some (.int .i64 (i:Int))) none none).run Tryz.prog W=.ok (.slice (some ⟨g,i,none⟩) (n1-i) (cap-i)) W:=fun W=>by
   have:=slLC okI13 (some ⟨g,0,none⟩) n1 cap i (by omega) W
   rw[cutI (by omega)] at this
   exact this
  have hsl2:∀W,(Instr.slice 58 (.slice (some ⟨g,0,none⟩) n1 cap) (some (.int .i64 ((i:Int)+1))) none none).run Tryz.prog W=.ok (.slice (some ⟨g,i+1,none⟩) (n1-(i+1)) (cap-(i+1))) W:=fun W=>by
   have:=slLC okI13 (some ⟨g,0,none⟩) n1 cap (i+1) (by omega) W
   rw[cutI (by omega)] at this
   exact this
  have hsl3:∀W,(Instr.slice 58 (.slice (some ⟨g,0,none⟩) n cap) (some (.int .i64 (n1:Int))) none none).run Tryz.prog W=.ok (.slice (some ⟨g,n1,none⟩) 1 (cap-n1)) W:=fun W=>by
   have:=slLC okI13 (some ⟨g,0,none⟩) n cap n1 (by omega) W
   rw[cutI (by omega),show n-n1=1 by omega] at this
   exact this
  obtain⟨Y2,hr2,hO2,hg2⟩:=row_set1 okI13 (h.on (Below.drew (Below.refl _ w))) i (by omega) hB (n1-i) (by omega) (cap-i) 3
  rw[cutI (by omega)] at hr2
  obtain⟨Y3,hr3,hO3,hg3⟩:=row_back okI13 (hO2.on (Below.drew (Below.refl _ Y2))) (i+1) (by omega) 3
  rw[cutI (by omega),cutI (by omega),hn1,show i+1+1=i2 by omega,hq] at hr3
  have hl:(L.take i++x::L.drop (i+1)).take (i+1)++(L.take i++x::L.drop (i+1)).drop (i+1+1)=L.take i++x::L.drop (i+2):=by
   have h1:(L.take i++[x]).length=i+1:=by rw[List.length_append,List.length_take,List.length_singleton];omega
   have h2:L.take i++x::L.drop (i+1)=(L.take i++[x])++L.drop (i+1):=by simp
   rw[h2,List.take_left' h1,←h1,List.drop_append,List.drop_of_length_le (by omega),List.nil_append,h1,List.drop_drop]
   simp
  rw[hl,hn1] at hO3
  obtain⟨Y4,hr4,hO4,hg4⟩:=wipeI hO3 (by omega) (cap-n1) 0
  have HG:Hid (w.grownBy Y4 (some g)):=grown_tr (grown_tr (grown_tr (grown_tr h0 hg2) (⟨rfl,rfl,rfl,Nat.le_refl _,fun _ _ _=>rfl⟩:Y2.grownBy Y2.drew (some g))) hg3) hg4
  have hw1:IntKind.i64.wrap ((i:Int)+1)=(i:Int)+1:=wrapi64_in _ (by omega) (by omega)
  have hw2:IntKind.i64.wrap ((i:Int)+1+(q:Int))=(n1:Int):=by rw[wrapi64_in _ (by omega) (by omega)];omega
  have hgt:decide ((cap:Int)<(n1:Int))=false:=decide_eq_false (by omega)
  have hle:decide ((i:Int)+1≤(i2:Int))=true:=decide_eq_true (by omega)
  have hnl:((i2:Int)==(n:Int))=false:=by rw[beq_eq_false_iff_ne];omega
  have hle2:(i:Int)+1≤(i2:Int):=by omega
  have hgt2:¬cap<n1:=by omega
  have HO4:=mkHid hO4
  have HR2:=mkHid hr2
  have HR3:=mkHid hr3
  have HR4:=mkHid hr4
  rw[hn1]
  clear hO2 hO3 hO4 hg2 hg3 hg4 hr2 hr3 hr4 h hl hB hLn h0 hn1 hq
  generalize L.take i++x::L.drop (i+2)=L' at *
  generalize n1-(i+1)=m1 at *
  generalize n1-i=m0 at *
  generalize cap-i2=c2 at *
  generalize cap-(i+1)=c1 at *
  generalize cap-i=c0 at *
  generalize cap-n1=c3 at *
  go_enter Tryz.func186,Tryz.ntmps186
  go_upto_region 9 with fail
  refine lk0 (fun _=>True) 12 trivial (fun hHeld=>?_)
  refine lkT 45 0 ?_ rfl (Or.inl ⟨by rfl,?_⟩) hHeld ?_
  rotate_left
  ·intro w hSw;go_simp;with_reducible rfl
  (try simp only[Act.put,sIx,sZ0,sZ1])
  refine lkT 46 1 ?_ rfl (Or.inl ⟨by rfl,?_⟩) hHeld ?_
  rotate_left
  ·intro w hSw;go_simp;with_reducible rfl
  (try simp only[Act.put,sIx,sZ0,sZ1])
  refine lkT 47 2 (.slice (some ⟨g,0,none⟩) i cap) rfl (Or.inl ⟨by rfl,?_⟩) hHeld ?_
  ·intro w hSw;go_simp
  (try simp only[Act.put,sIx,sZ0,sZ1])
  refine lkT 48 3 (.int .i64 (i:Int)) rfl (Or.inl ⟨by rfl,?_⟩) hHeld ?_
  ·intro w hSw;go_simp
  (try simp only[Act.put,sIx,sZ0,sZ1])
  refine lkT 49 4 ?_ rfl (Or.inl ⟨by rfl,?_⟩) hHeld ?_
  rotate_left
  ·intro w hSw;go_simp;with_reducible rfl
  (try simp only[Act.put,sIx,sZ0,sZ1])
  refine lkT 50 5 (.int .i64 1) rfl (Or.inl ⟨by rfl,?_⟩) hHeld ?_
  ·intro w hSw;go_simp
  (try simp only[Act.put,sIx,sZ0,sZ1])
  refine lkT 51 6 (.int .i64 ((i:Int)+1)) rfl (Or.inl ⟨by rfl,?_⟩) hHeld ?_
  ·intro w hSw;go_simp<;>(try rw[hw1])
  (try simp only[Act.put,sIx,sZ0,sZ1])
  refine lkT 52 7 ?_ rfl (Or.inl ⟨by rfl,?_⟩) hHeld ?_
  rotate_left
  ·intro w hSw;go_simp;with_reducible rfl
  (try simp only[Act.put,sIx,sZ0,sZ1])
  refine lkT 53 8 ?_ rfl (Or.inl ⟨by rfl,?_⟩) hHeld ?_
  rotate_left
  ·intro w hSw;go_simp;with_reducible rfl
  (try simp only[Act.put,sIx,sZ0,sZ1])
  refine lkT 54 9 (.slice (some ⟨g,i2,none⟩) q c2) rfl (Or.inl ⟨by rfl,?_⟩) hHeld ?_
  ·intro w hSw;go_simp
  (try simp only[Act.put,sIx,sZ0,sZ1])
  refine lkT 55 10 (.int .i64 (q:Int)) rfl (Or.inl ⟨by rfl,?_⟩) hHeld ?_
  ·intro w hSw;go_simp
  (try simp only[Act.put,sIx,sZ0,sZ1])
  refine lkT 56 11 (.int .i64 (n1:Int)) rfl (Or.inl ⟨by rfl,?_⟩) hHeld ?_
  ·intro w hSw;go_simp<;>(try rw[hw2])
  (try simp only[Act.put,sIx,sZ0,sZ1])
  refine lkZ rfl (fun K hK=>?_)
  go_simp
  refine hK.out _ _ ?_
  simp only[Exit.then]
  (try simp only[Act.put,sIx,sZ0,sZ1])
  clear hK K hHeld
  go_upto_region 18 with(refine list_copy_run _ rfl _ _ _ _ _ rfl rfl _ _ rfl rfl HR2.out ?_)
  refine lk0 (fun _=>True) 9 trivial (fun hHeld=>?_)
  refine lkC [5] 98 0 ?_ rfl (Or.inl ⟨by rfl,?_⟩) hHeld ?_
  rotate_left
  ·intro w hSw;go_simp;with_reducible rfl
  (try simp only[Act.put,sIx,sZ0,sZ1])
  refine lkC [4,5] 99 1 ?_ rfl (Or.inl ⟨by rfl,?_⟩) hHeld ?_
  rotate_left
  ·intro w hSw;go_simp;with_reducible rfl
  (try simp only[Act.put,sIx,sZ0,sZ1])
  refine lkC [3,4,5] 100 2 ?_ rfl (Or.inl ⟨by rfl,?_⟩) hHeld ?_
  rotate_left
  ·intro w hSw;go_simp;with_reducible rfl
  (try simp only[Act.put,sIx,sZ0,sZ1])
  refine lkC [4,5] 101 3 (.int .i64 1) rfl (Or.inl ⟨by rfl,?_⟩) hHeld ?_
  ·intro w hSw;go_simp
  (try simp only[Act.put,sIx,sZ0,sZ1])
  refine lkC [5] 102 4 (.int .i64 ((i:Int)+1)) rfl (Or.inl ⟨by rfl,?_⟩) hHeld ?_
  ·intro w hSw;go_simp<;>(try rw[hw1])
  (try simp only[Act.put,sIx,sZ0,sZ1])
  refine lkC [] 103 5 (.slice (some ⟨g,i+1,none⟩) m1 c1) rfl (Or.inl ⟨by rfl,?_⟩) hHeld ?_
  ·intro w hSw;go_simp
  (try simp only[Act.put,sIx,sZ0,sZ1])
  refine lkC [8] 104 6 ?_ rfl (Or.inl ⟨by rfl,?_⟩) hHeld ?_
  rotate_left
  ·intro w hSw;go_simp;with_reducible rfl
  (try simp only[Act.put,sIx,sZ0,sZ1])
  refine lkC [8] 105 7 ?_ rfl (Or.inl ⟨by rfl,?_⟩) hHeld ?_
  rotate_left
  ·intro w hSw;go_simp;with_reducible rfl
  (try simp only[Act.put,sIx,sZ0,sZ1])
  refine lkC [] 106 8 (.slice (some ⟨g,i2,none⟩) q c2) rfl (Or.inl ⟨by rfl,?_⟩) hHeld ?_
  ·intro w hSw;go_simp
  (try simp only[Act.put,sIx,sZ0,sZ1])
  refine lkZ rfl (fun K hK=>?_)
  refine step_copy_run Y2.drew (by rfl) _ _ 58 58 3 (by rfl) (by rfl) _ _ (by rfl) (by rfl) HR3.out 107 rfl ?_
  refine hK.out _ _ ?_
  simp only[Exit.then]
  (try simp only[Act.put,sIx,sZ0,sZ1])
  clear hK K hHeld
  have hr4:=HR4.out
  go_wp2_with fail
  go_ret
  exact⟨rfl,HO4.out,HG.out⟩
end Go.Proofs.YtpecobmfabmpkaaGreatDoor
